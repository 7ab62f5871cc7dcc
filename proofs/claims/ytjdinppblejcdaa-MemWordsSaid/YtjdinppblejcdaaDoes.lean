/- A call of a memory and of the reference: does returns true, and the two agree afterwards. -/
import Derived.Test.YtjdinppblejcdaaRefx
namespace Go.Proofs.Ytjdinppblejcdaa
open Go Go.RowKit

/-- A call: its number, two addresses, a word, a number and bytes. -/
def opc (q a b v n : Int) (B : Option Addr) (m d : Nat) : Array Value := #[.int .u8 q, .int .i32 a, .int .i32 b, .int .i32 v, .int .i64 n, .slice B m d]
def Done (w : World) (p g : Nat) (A : Option Addr) (L : Nat) (e : Ending) (w' : World) : Prop :=
  ∃ A' c' xs, e = .returned (.tuple #[.slice A' L c', .bool true]) ∧ xs.length = L ∧ w.grownBy w' (some g) ∧ MemAt w' p g xs ∧ RS w' A' c' xs ∧ New w A A'
structure Both (w : World) (p g : Nat) (A : Option Addr) (c : Nat) (xs : List Nat) : Prop where
  mem : MemAt w p g xs
  ref : RS w A c xs
  sep : Sep A g
theorem Both.kept0 {w w' : World} {p g c : Nat} {A : Option Addr} {xs : List Nat} (h : Both w p g A c xs) (hg : w.grownBy w' none) : Both w' p g A c xs := ⟨h.mem.kept0 hg, h.ref.kept0 hg, h.sep⟩
theorem box_cell {w w1 : World} {g i : Nat} {cs : Array Value} {t : TypeId} {u : Value} (h : (w.alloc (.cells cs t)).grownBy w1 (some g)) (hg : g < w.heap.size) (hi : cs[i]? = some u) : w1.cell? ⟨w.heap.size, i, none⟩ = some u := by
  have hk := heap_alloc_new w (.cells cs t)
  have e := (h.block w.heap.size (by simp) (by intro e; cases e; omega)).trans hk
  rw [cell_of_row w1 _ i _ _ _ e]
  exact hi
theorem New.mono {w w1 : World} {A A' : Option Addr} (h : New w1 A A') (hg : w.heap.size ≤ w1.heap.size) : New w A A' := by
  rcases h with h | h
  · exact .inl h
  · exact .inr (fun ad e => Nat.le_trans hg (h ad e))
theorem done0 {w w0 w1 w2 : World} {p g c2 L : Nat} {A A2 : Option Addr} {zs : List Nat} (G0 : w.grownBy w0 none) (g1 : w0.grownBy w1 (some g)) (M1 : MemAt w1 p g zs) (g2 : w1.grownBy w2 none) (R2 : RS w2 A2 c2 zs) (N2 : New w1 A A2) (hl : zs.length = L) :
    Done w p g A L (.returned (.tuple #[.slice A2 L c2, .bool true])) w2 :=
  ⟨A2, c2, zs, rfl, hl, g_trans (g_wide G0) (g_trans g1 (g_wide g2)), M1.kept0 g2, R2, N2.mono (Nat.le_trans G0.size g1.size)⟩
set_option maxRecDepth 100000 in
set_option maxHeartbeats 4000000 in
theorem does0 {w : World} {p g c d : Nat} {A B : Option Addr} {xs ys : List Nat} (H : Both w p g A c xs) {q a b v n : Int} (hq : q % 6 = 0) (h0 : 0 ≤ q) (h1 : q < 256) (ha : isW a) :
    Calls Try.prog 14 #[.pointer (some ⟨p, 0, none⟩), .slice A xs.length c, .agg (opc q a b v n B ys.length d)] w (Done w p g A xs.length) := by
  obtain ⟨u, hu⟩ : ∃ u : Nat, v % 256 = (u : Int) := ⟨(v % 256).toNat, by omega⟩
  have hu2 : u < 256 := by omega
  have G0 := World.grownBy_alloc w (.cells (opc q a b v n B ys.length d) 34) none
  have H0 := H.kept0 G0
  have C := Lib.hid (SetByte_any H0.mem ha hu2)
  have D := Lib.hid (fun (w1 : World) (R1 : RS w1 A c xs) => rSetByte_any R1 H.mem.big ha hu2)
  have BX := Lib.hid (fun (w1 : World) i u (h : (w.alloc (.cells (opc q a b v n B ys.length d) 34)).grownBy w1 (some g)) (hi : (opc q a b v n B ys.length d)[i]? = some u) => box_cell h H.mem.glt hi)
  have HH := Lib.hid (And.intro H (And.intro G0 H0))
  have HL := Lib.hid (wr_len xs (ix a) [u])
  unfold Stored at C
  unfold RefSt at D
  rw [HL.out] at D
  clear H G0 H0 ha
  unfold opc at *
  generalize hL : ys.length = m at *
  clear hL
  generalize er xs.length (ix a) 1 = E at *
  generalize hK : xs.length = L at *
  clear hK
  go_enter Try.func14, Try.ntmps14
  go_wp2_with (first
    | (go_at_call 37; (with_reducible refine C.out.mono ?_); rintro e w1 ⟨rfl, g1, M1⟩; have c1 := BX.out w1 1 _ g1 rfl; have c3 := BX.out w1 3 _ g1 rfl; have H1 := Lib.hid (And.intro g1 M1); clear g1 M1)
    | (go_at_call 38; (with_reducible refine (D.out _ (HH.out.2.2.ref.keptS H1.out.1 HH.out.1.sep)).mono ?_); rintro e w2 ⟨A2, c2, rfl, g2, R2, N2⟩; have H2 := Lib.hid (And.intro g2 (And.intro R2 N2)); clear g2 R2 N2))
  go_ret2
  exact done0 HH.out.2.1 H1.out.1 H1.out.2 H2.out.1 H2.out.2.1 H2.out.2.2 HL.out
set_option maxRecDepth 100000 in
set_option maxHeartbeats 4000000 in
theorem does1 {w : World} {p g c d : Nat} {A B : Option Addr} {xs ys : List Nat} (H : Both w p g A c xs) {q a b v n : Int} (hq : q % 6 = 1) (h0 : 0 ≤ q) (h1 : q < 256) (ha : isW a) :
    Calls Try.prog 14 #[.pointer (some ⟨p, 0, none⟩), .slice A xs.length c, .agg (opc q a b v n B ys.length d)] w (Done w p g A xs.length) := by
  have G0 := World.grownBy_alloc w (.cells (opc q a b v n B ys.length d) 34) none
  have H0 := H.kept0 G0
  have C := Lib.hid (SetWord_any (v := v) H0.mem ha)
  have D := Lib.hid (fun (w1 : World) (R1 : RS w1 A c xs) => rSetWord_any (v := v) R1 H.mem.big H.mem.even ha)
  have BX := Lib.hid (fun (w1 : World) i u (h : (w.alloc (.cells (opc q a b v n B ys.length d) 34)).grownBy w1 (some g)) (hi : (opc q a b v n B ys.length d)[i]? = some u) => box_cell h H.mem.glt hi)
  have HH := Lib.hid (And.intro H (And.intro G0 H0))
  have HL := Lib.hid (wr_len xs (wx a) (four v))
  unfold Stored at C
  unfold RefSt at D
  rw [HL.out] at D
  clear H G0 H0 ha
  unfold opc at *
  generalize hL : ys.length = m at *
  clear hL
  generalize er xs.length (wx a) 4 = E at *
  generalize hK : xs.length = L at *
  clear hK
  go_enter Try.func14, Try.ntmps14
  go_wp2_with (first
    | (go_at_call 29; (with_reducible refine C.out.mono ?_); rintro e w1 ⟨rfl, g1, M1⟩; have c1 := BX.out w1 1 _ g1 rfl; have c3 := BX.out w1 3 _ g1 rfl; have H1 := Lib.hid (And.intro g1 M1); clear g1 M1)
    | (go_at_call 39; (with_reducible refine (D.out _ (HH.out.2.2.ref.keptS H1.out.1 HH.out.1.sep)).mono ?_); rintro e w2 ⟨A2, c2, rfl, g2, R2, N2⟩; have H2 := Lib.hid (And.intro g2 (And.intro R2 N2)); clear g2 R2 N2))
  go_ret2
  exact done0 HH.out.2.1 H1.out.1 H1.out.2 H2.out.1 H2.out.2.1 H2.out.2.2 HL.out
set_option maxRecDepth 100000 in
set_option maxHeartbeats 4000000 in
theorem does2 {w : World} {p g c d : Nat} {A B : Option Addr} {xs ys : List Nat} (H : Both w p g A c xs) {q a b v n : Int} (hq : q % 6 = 2) (h0 : 0 ≤ q) (h1 : q < 256) (ha : isW a) (S : RS w B d ys) (hs : 0 < ys.length → Sep B g) :
    Calls Try.prog 14 #[.pointer (some ⟨p, 0, none⟩), .slice A xs.length c, .agg (opc q a b v n B ys.length d)] w (Done w p g A xs.length) := by
  have G0 := World.grownBy_alloc w (.cells (opc q a b v n B ys.length d) 34) none
  have H0 := H.kept0 G0
  have S0 := S.kept0 G0
  have C := Lib.hid (Write_any H0.mem ha S0)
  have D := Lib.hid (fun (w1 : World) (R1 : RS w1 A c xs) (S1 : RS w1 B d ys) => rWrite_any R1 S1 H.mem.big ha)
  have HS := Lib.hid (fun (w1 : World) (g1 : (w.alloc (.cells (opc q a b v n B ys.length d) 34)).grownBy w1 (some g)) => S0.keptP g1 hs)
  have BX := Lib.hid (fun (w1 : World) i u (h : (w.alloc (.cells (opc q a b v n B ys.length d) 34)).grownBy w1 (some g)) (hi : (opc q a b v n B ys.length d)[i]? = some u) => box_cell h H.mem.glt hi)
  have HH := Lib.hid (And.intro H (And.intro G0 H0))
  have HL := Lib.hid (wr_len xs (ix a) ys)
  unfold Stored at C
  unfold RefSt at D
  rw [HL.out] at D
  clear H G0 H0 ha S S0 hs
  unfold opc at *
  generalize er xs.length (ix a) ys.length = E at *
  generalize hL : ys.length = m at *
  clear hL
  generalize hK : xs.length = L at *
  clear hK
  go_enter Try.func14, Try.ntmps14
  go_wp2_with (first
    | (go_at_call 32; (with_reducible refine C.out.mono ?_); rintro e w1 ⟨rfl, g1, M1⟩; have c1 := BX.out w1 1 _ g1 rfl; have c5 := BX.out w1 5 _ g1 rfl; have H1 := Lib.hid (And.intro g1 M1); clear g1 M1)
    | (go_at_call 40; (with_reducible refine (D.out _ (HH.out.2.2.ref.keptS H1.out.1 HH.out.1.sep) (HS.out _ H1.out.1)).mono ?_); rintro e w2 ⟨A2, c2, rfl, g2, R2, N2⟩; have H2 := Lib.hid (And.intro g2 (And.intro R2 N2)); clear g2 R2 N2))
  go_ret2
  exact done0 HH.out.2.1 H1.out.1 H1.out.2 H2.out.1 H2.out.2.1 H2.out.2.2 HL.out
set_option maxRecDepth 100000 in
set_option maxHeartbeats 4000000 in
theorem does3 {w : World} {p g c d : Nat} {A B : Option Addr} {xs ys : List Nat} (H : Both w p g A c xs) {q a b v n : Int} (hq : q % 6 = 3) (h0 : 0 ≤ q) (h1 : q < 256) (ha : isW a) (hb : isW b) :
    Calls Try.prog 14 #[.pointer (some ⟨p, 0, none⟩), .slice A xs.length c, .agg (opc q a b v n B ys.length d)] w (Done w p g A xs.length) := by
  have G0 := World.grownBy_alloc w (.cells (opc q a b v n B ys.length d) 34) none
  have H0 := H.kept0 G0
  have C := Lib.hid (Move_any (v := v) H0.mem ha hb)
  have D := Lib.hid (fun (w1 : World) (R1 : RS w1 A c xs) => rMove_any (v := v) R1 H.mem.big ha hb)
  have BX := Lib.hid (fun (w1 : World) i u (h : (w.alloc (.cells (opc q a b v n B ys.length d) 34)).grownBy w1 (some g)) (hi : (opc q a b v n B ys.length d)[i]? = some u) => box_cell h H.mem.glt hi)
  have HH := Lib.hid (And.intro H (And.intro G0 H0))
  have HL := Lib.hid (wr_len xs (ix a) (rd xs (ix b) (cnt v)))
  unfold Stored at C
  unfold RefSt at D
  rw [HL.out] at D
  clear H G0 H0 ha hb
  unfold opc at *
  generalize hL : ys.length = m at *
  clear hL
  generalize mve xs.length (ix a) (ix b) (cnt v) = E at *
  generalize hK : xs.length = L at *
  clear hK
  go_enter Try.func14, Try.ntmps14
  go_wp2_with (first
    | (go_at_call 30; (with_reducible refine C.out.mono ?_); rintro e w1 ⟨rfl, g1, M1⟩; have c1 := BX.out w1 1 _ g1 rfl; have c2 := BX.out w1 2 _ g1 rfl; have c3 := BX.out w1 3 _ g1 rfl; have H1 := Lib.hid (And.intro g1 M1); clear g1 M1)
    | (go_at_call 41; (with_reducible refine (D.out _ (HH.out.2.2.ref.keptS H1.out.1 HH.out.1.sep)).mono ?_); rintro e w2 ⟨A2, c2, rfl, g2, R2, N2⟩; have H2 := Lib.hid (And.intro g2 (And.intro R2 N2)); clear g2 R2 N2))
  go_ret2
  exact done0 HH.out.2.1 H1.out.1 H1.out.2 H2.out.1 H2.out.2.1 H2.out.2.2 HL.out
set_option maxRecDepth 100000 in
set_option maxHeartbeats 4000000 in
theorem does5 {w : World} {p g c d : Nat} {A B : Option Addr} {xs ys : List Nat} (H : Both w p g A c xs) {q a b v n : Int} (hq : q % 6 = 5) (h0 : 0 ≤ q) (h1 : q < 256) (ha : isW a) :
    Calls Try.prog 14 #[.pointer (some ⟨p, 0, none⟩), .slice A xs.length c, .agg (opc q a b v n B ys.length d)] w (Done w p g A xs.length) := by
  have G0 := World.grownBy_alloc w (.cells (opc q a b v n B ys.length d) 34) none
  have H0 := H.kept0 G0
  have C1 := Lib.hid (Byte_any H0.mem ha)
  have C2 := Lib.hid (rByte_any H0.ref H.mem.big ha)
  have C3 := Lib.hid (Word_any H0.mem ha)
  have C4 := Lib.hid (fun (w1 : World) (R1 : RS w1 A c xs) => rWord_any R1 H.mem.big H.mem.even ha)
  have BX := Lib.hid (fun (w1 : World) i u (h : (w.alloc (.cells (opc q a b v n B ys.length d) 34)).grownBy w1 (some g)) (hi : (opc q a b v n B ys.length d)[i]? = some u) => box_cell h H.mem.glt hi)
  have HH := Lib.hid (And.intro H (And.intro G0 H0))
  clear H G0 H0 ha
  unfold opc at *
  generalize hL : ys.length = m at *
  clear hL
  generalize er xs.length (ix a) 1 = E at *
  generalize er xs.length (wx a) 4 = F at *
  generalize bv xs (ix a) = V at *
  generalize wv xs (wx a) = W at *
  generalize hK : xs.length = L at *
  have HK := Lib.hid hK
  clear hK
  go_enter Try.func14, Try.ntmps14
  go_wp2_with (first
    | (go_at_call 36; (with_reducible refine C1.out.mono ?_); rintro e w1 ⟨rfl, rfl⟩)
    | (go_at_call 43; (with_reducible refine C2.out.mono ?_); rintro e w2 ⟨rfl, rfl⟩)
    | (go_at_call 19; (with_reducible refine C3.out.mono ?_); rintro e w1 ⟨rfl, g1⟩; have c1 := BX.out w1 1 _ (g_wide g1) rfl; have H1 := Lib.hid g1; clear g1)
    | (go_at_call 20; (with_reducible refine (C4.out _ (HH.out.2.2.ref.kept0 H1.out)).mono ?_); rintro e w2 ⟨rfl, g2⟩; have H2 := Lib.hid g2; clear g2))
  go_ret2
  exact done0 HH.out.2.1 (g_wide H1.out) (HH.out.2.2.mem.kept0 H1.out) H2.out (HH.out.2.2.ref.kept0 (g_trans H1.out H2.out)) (.inl rfl) HK.out
end Go.Proofs.Ytjdinppblejcdaa
