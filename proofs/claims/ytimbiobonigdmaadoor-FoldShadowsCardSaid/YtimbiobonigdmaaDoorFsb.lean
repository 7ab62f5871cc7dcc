/- The laws: FoldShadows. -/
import Derived.Test.YtimbiobonigdmaaDoorFsa
import Derived.Test.YtimbiobonigdmaaDoorM16
import Derived.Test.YtimbiobonigdmaaDoorLd
import Derived.Deep.CutRange
set_option linter.unusedVariables false
set_option linter.unusedSimpArgs false
namespace Go.Proofs.YtimbiobonigdmaaDoor
open Go Go.RowKit L8 L10 L14

def sp3C (x y z : Sp) (N0 : Option Addr) (c0 : Nat) (B0 : Option Addr) (d0 : Nat) (N1 : Option Addr) (c1 : Nat) (B1 : Option Addr) (d1 : Nat) (N2 : Option Addr) (c2 : Nat) (B2 : Option Addr) (d2 : Nat) : Array Value := #[.int .u8 (x.k : Int), .int .u8 (x.t : Int), .int .i64 x.d, .int .u8 0, .string ⟨#[]⟩, .slice N0 x.ns.length c0, .int .u8 (x.e.k : Int), .int .u8 (x.e.o : Int), .int .u8 (x.e.t : Int), .int .i32 x.e.n, .string (strOf x.e.s), .slice B0 x.e.l.length d0, .bool false, .slice none 0 0, .slice none 0 0, .slice none 0 0,
  .int .u8 (y.k : Int), .int .u8 (y.t : Int), .int .i64 y.d, .int .u8 0, .string ⟨#[]⟩, .slice N1 y.ns.length c1, .int .u8 (y.e.k : Int), .int .u8 (y.e.o : Int), .int .u8 (y.e.t : Int), .int .i32 y.e.n, .string (strOf y.e.s), .slice B1 y.e.l.length d1, .bool false, .slice none 0 0, .slice none 0 0, .slice none 0 0,
  .int .u8 (z.k : Int), .int .u8 (z.t : Int), .int .i64 z.d, .int .u8 0, .string ⟨#[]⟩, .slice N2 z.ns.length c2, .int .u8 (z.e.k : Int), .int .u8 (z.e.o : Int), .int .u8 (z.e.t : Int), .int .i32 z.e.n, .string (strOf z.e.s), .slice B2 z.e.l.length d2, .bool false, .slice none 0 0, .slice none 0 0, .slice none 0 0]
theorem sp3_0 (x y z : Sp) (N0 : Option Addr) (c0 : Nat) (B0 : Option Addr) (d0 : Nat) (N1 : Option Addr) (c1 : Nat) (B1 : Option Addr) (d1 : Nat) (N2 : Option Addr) (c2 : Nat) (B2 : Option Addr) (d2 : Nat) : ∀ (i : Nat) (u : Value), (spC x N0 c0 B0 d0)[i]? = some u → (sp3C x y z N0 c0 B0 d0 N1 c1 B1 d1 N2 c2 B2 d2)[i]? = some u := fun i u hz => match i, hz with
  | 0, hz => hz
  | 1, hz => hz
  | 2, hz => hz
  | 3, hz => hz
  | 4, hz => hz
  | 5, hz => hz
  | 6, hz => hz
  | 7, hz => hz
  | 8, hz => hz
  | 9, hz => hz
  | 10, hz => hz
  | 11, hz => hz
  | 12, hz => hz
  | 13, hz => hz
  | 14, hz => hz
  | 15, hz => hz
  | i + 16, hz => by
    have := (Array.getElem?_eq_some_iff.1 hz).1
    have hs : (spC x N0 c0 B0 d0).size = 16 := rfl
    omega
theorem sp3_1 (x y z : Sp) (N0 : Option Addr) (c0 : Nat) (B0 : Option Addr) (d0 : Nat) (N1 : Option Addr) (c1 : Nat) (B1 : Option Addr) (d1 : Nat) (N2 : Option Addr) (c2 : Nat) (B2 : Option Addr) (d2 : Nat) : ∀ (i : Nat) (u : Value), (spC y N1 c1 B1 d1)[i]? = some u → (sp3C x y z N0 c0 B0 d0 N1 c1 B1 d1 N2 c2 B2 d2)[16 + i]? = some u := fun i u hz => match i, hz with
  | 0, hz => hz
  | 1, hz => hz
  | 2, hz => hz
  | 3, hz => hz
  | 4, hz => hz
  | 5, hz => hz
  | 6, hz => hz
  | 7, hz => hz
  | 8, hz => hz
  | 9, hz => hz
  | 10, hz => hz
  | 11, hz => hz
  | 12, hz => hz
  | 13, hz => hz
  | 14, hz => hz
  | 15, hz => hz
  | i + 16, hz => by
    have := (Array.getElem?_eq_some_iff.1 hz).1
    have hs : (spC y N1 c1 B1 d1).size = 16 := rfl
    omega
theorem sp3_2 (x y z : Sp) (N0 : Option Addr) (c0 : Nat) (B0 : Option Addr) (d0 : Nat) (N1 : Option Addr) (c1 : Nat) (B1 : Option Addr) (d1 : Nat) (N2 : Option Addr) (c2 : Nat) (B2 : Option Addr) (d2 : Nat) : ∀ (i : Nat) (u : Value), (spC z N2 c2 B2 d2)[i]? = some u → (sp3C x y z N0 c0 B0 d0 N1 c1 B1 d1 N2 c2 B2 d2)[32 + i]? = some u := fun i u hz => match i, hz with
  | 0, hz => hz
  | 1, hz => hz
  | 2, hz => hz
  | 3, hz => hz
  | 4, hz => hz
  | 5, hz => hz
  | 6, hz => hz
  | 7, hz => hz
  | 8, hz => hz
  | 9, hz => hz
  | 10, hz => hz
  | 11, hz => hz
  | 12, hz => hz
  | 13, hz => hz
  | 14, hz => hz
  | 15, hz => hz
  | i + 16, hz => by
    have := (Array.getElem?_eq_some_iff.1 hz).1
    have hs : (spC z N2 c2 B2 d2).size = 16 := rfl
    omega
theorem SpR.three {W : World} {q : Nat} {t : TypeId} {x y z : Sp} {N0 N1 N2 B0 B1 B2 : Option Addr} {c0 c1 c2 d0 d1 d2 : Nat} (h : BoxS W q t (sp3C x y z N0 c0 B0 d0 N1 c1 B1 d1 N2 c2 B2 d2)) (v0 : SpV W x N0 c0 B0 d0) (v1 : SpV W y N1 c1 B1 d1) (v2 : SpV W z N2 c2 B2 d2) : SpR W (some ⟨q, 0, none⟩) 3 [x, y, z] := ⟨Nat.le_refl _, by simp [maxLen], fun j hj => by
  have hj : j < 3 := hj
  rcases (show j = 0 ∨ j = 1 ∨ j = 2 by omega) with rfl | rfl | rfl
  · exact ⟨_, rfl, spc_at (o := 0) (fun i u hz => by rw [Nat.zero_add]; exact (h.cell i).trans (sp3_0 x y z N0 c0 B0 d0 N1 c1 B1 d1 N2 c2 B2 d2 i u hz)) v0⟩
  · exact ⟨_, rfl, spc_at (o := 16) (fun i u hz => (h.cell (16 + i)).trans (sp3_1 x y z N0 c0 B0 d0 N1 c1 B1 d1 N2 c2 B2 d2 i u hz)) v1⟩
  · exact ⟨_, rfl, spc_at (o := 32) (fun i u hz => (h.cell (32 + i)).trans (sp3_2 x y z N0 c0 B0 d0 N1 c1 B1 d1 N2 c2 B2 d2 i u hz)) v2⟩⟩
theorem SS.pair {W : World} {g : Nat} {t : TypeId} {s u : Bs} (h : BoxS W g t #[.string (strOf s), .string (strOf u)]) : SS W (some ⟨g, 0, none⟩) 2 [s, u] := ⟨Nat.le_refl _, by simp [maxLen], fun j hj => by
  have hj : j < 2 := hj
  rcases (show j = 0 ∨ j = 1 by omega) with rfl | rfl
  · exact ⟨_, rfl, (h.cell 0).trans rfl⟩
  · exact ⟨_, rfl, (h.cell 1).trans rfl⟩⟩
/-- A specification in a box. -/
def ShB (X : World) (q : Nat) (x : Sp) : Prop := ∃ N c B d, BoxS X q 51 (spC x N c B d) ∧ SpV X x N c B d
theorem ShB.keep {X Y : World} {q : Nat} {x : Sp} (h : ShB X q x) (b : Below X.heap.size X Y) : ShB Y q x := by
  obtain ⟨N, c, B, d, h1, h2⟩ := h
  exact ⟨N, c, B, d, h1.below b, h2.keep b⟩
theorem ShB.new {w : World} {x : Sp} {N B : Option Addr} {c d : Nat} (v : SpV w x N c B d) : ShB (w.alloc (.cells (spC x N c B d) 51)) w.heap.size x := ⟨N, c, B, d, boxS_new w _ _, v.keep (bal (b0 w) _)⟩
theorem sh_one {w X : World} {P : World → Prop} {x : Sp} {N B : Option Addr} {c d : Nat} (h : Hid (S14 w X P)) (v : SpV X x N c B d) : Hid (S14 w (X.alloc (.cells (spC x N c B d) 51)) (fun Z => P Z ∧ ShB Z X.heap.size x)) :=
  Lib.hid ((S14.al _ h).out.add _ (ShB.new v) (fun _ _ b h => h.keep b))
theorem sh_two {w X : World} {P : World → Prop} {x y : Sp} {N1 B1 N2 B2 : Option Addr} {c1 d1 c2 d2 : Nat} (h : Hid (S14 w X P)) (v1 : SpV X x N1 c1 B1 d1) (v2 : SpV X y N2 c2 B2 d2) :
    Hid (S14 w ((X.alloc (.cells (spC x N1 c1 B1 d1) 51)).alloc (.cells (spC y N2 c2 B2 d2) 51)) (fun Z => ShB Z X.heap.size x ∧ ShB Z (X.heap.size + 1) y)) := by
  have h2 := sh_one (sh_one h v1) (v2.keep (bal (b0 X) (.cells (spC x N1 c1 B1 d1) 51)))
  rw [World.size_alloc] at h2
  exact Lib.hid ⟨h2.out.b, h2.out.t, ⟨h2.out.p.1.2, h2.out.p.2⟩, fun _ _ b h => ⟨h.1.keep b, h.2.keep b⟩⟩
theorem sh_three {w X : World} {P : World → Prop} {x y z : Sp} {N0 N1 N2 B0 B1 B2 : Option Addr} {c0 c1 c2 d0 d1 d2 : Nat} (h : Hid (S14 w X P)) (v0 : SpV X x N0 c0 B0 d0) (v1 : SpV X y N1 c1 B1 d1) (v2 : SpV X z N2 c2 B2 d2) :
    Hid (S14 w (X.alloc (.cells (sp3C x y z N0 c0 B0 d0 N1 c1 B1 d1 N2 c2 B2 d2) 51)) (fun Z => P Z ∧ SpR Z (some ⟨X.heap.size, 0, none⟩) 3 [x, y, z])) :=
  Lib.hid ((S14.al _ h).out.add _ (SpR.three (boxS_new X _ _) (v0.keep (bal (b0 X) _)) (v1.keep (bal (b0 X) _)) (v2.keep (bal (b0 X) _))) (fun _ _ b h => h.keep b))
theorem ovS_ok {k : Nat} {d u : Int} (hk : k < 256) (hd0 : -9223372036854775808 ≤ d) (hd1 : d ≤ 9223372036854775807) (hu : inW u) : SpOk (ovS k d u) := ⟨hk, (by show 1 < 256; decide), hd0, hd1, litE_ok hu, fun t ht => by
  rcases List.mem_cons.1 ht with rfl | ht
  · decide
  · rw [List.mem_singleton.1 ht]; decide⟩
theorem ov_v {X w5 : World} {k : Nat} {d u : Int} (ok : SpOk (ovS k d u)) (b : Below (X.alloc (.cells #[.string ⟨#[97]⟩, .string ⟨#[120]⟩] 9)).heap.size (X.alloc (.cells #[.string ⟨#[97]⟩, .string ⟨#[120]⟩] 9)) w5) : SpV w5 (ovS k d u) (some ⟨X.heap.size, 0, none⟩) 2 none 0 :=
  ⟨ok, (SS.pair (s := aB) (u := xB) (boxS_new X 9 #[.string (strOf aB), .string (strOf xB)])).keep b, TrR.nil _⟩
theorem name_is (s : Bs) (S : ByteArray) (hs : strOf s = S) (w : World) : Calls Tryd.prog 24 #[.string S] w (fun e w' => e = .returned (.agg #[.int .u8 4, .int .u8 0, .int .u8 0, .int .i32 0, .string S, .slice none 0 0]) ∧ Below w.heap.size w w') := by
  subst hs
  exact name_any s w
/-- What is asked of an environment of three specifications. -/
theorem sz_is {X : World} {E : Option Addr} {l : List Sp} (S : SpR X E 3 l) (hl : l.length = 3) (T : T10 X) (r1 r2 : Int) (h : constX (.mk 9 0 0 0 xB []) l.reverse = (r1, r2)) : Calls Tryd.prog 19 #[.agg #[.int .u8 9, .int .u8 0, .int .u8 0, .int .i32 0, .string ⟨#[120]⟩, .slice none 0 0], .slice E 3 3] X fun e w' => e = .returned (.tuple #[.int .i32 r1, .int .i64 r2]) ∧ Below X.heap.size X w' := by
  have := (Ask.mk (w := X) (e := .mk 9 0 0 0 xB []) (A := none) (n := 0) (c := 0) (l := l) (E := E) (k := 3) (d := 3) (TrR.nil X) rfl ⟨(by show 9 < 256; decide), (by show 0 < 256; decide), (by show 0 < 256; decide), by show (-2147483648 : Int) ≤ 0; decide, by show (0 : Int) ≤ 2147483647; decide, by show 1 ≤ maxLen; decide⟩ S hl (by omega) T).const
  rw [h] at this
  exact this
theorem cm_nm {X : World} {E : Option Addr} {l : List Sp} (s : Bs) (SB : ByteArray) (v : Int) (hs : strOf s = SB) (hm : s.length ≤ maxLen) (S : SpR X E 3 l) (hl : l.length = 3) (T : T10 X) (h : constX (nameE s) l.reverse = (v, 0)) : Calls Tryd.prog 25 #[.agg #[.int .u8 4, .int .u8 0, .int .u8 0, .int .i32 0, .string SB, .slice none 0 0], .slice E 3 3, .int .i32 v] X fun en w' => en = .returned (.bool true) ∧ Below X.heap.size X w' := by
  subst hs
  have := cm_is v (Ask.mk (w := X) (e := nameE s) (A := none) (n := 0) (c := 0) (l := l) (E := E) (k := 3) (d := 3) (TrR.nil X) rfl (nameE_ok hm) S hl (by omega) T) h
  exact this
theorem fl_nm {X : World} {E : Option Addr} {l : List Sp} (s : Bs) (SB : ByteArray) (hs : strOf s = SB) (hm : s.length ≤ maxLen) (S : SpR X E 3 l) (hl : l.length = 3) (T : T10 X) (h : constX (nameE s) l.reverse = (0, 140)) : Calls Tryd.prog 26 #[.agg #[.int .u8 4, .int .u8 0, .int .u8 0, .int .i32 0, .string SB, .slice none 0 0], .slice E 3 3] X fun en w' => en = .returned (.bool true) ∧ Below X.heap.size X w' := by
  subst hs
  have := fl_is (Ask.mk (w := X) (e := nameE s) (A := none) (n := 0) (c := 0) (l := l) (E := E) (k := 3) (d := 3) (TrR.nil X) rfl (nameE_ok hm) S hl (by omega) T) h
  exact this
set_option maxRecDepth 100000 in
set_option maxHeartbeats 32000000 in
theorem walkFoldShadows (v u d : Int) (k : Nat) (hv : inW v) (hu : inW u) (hk : k < 256) (hd0 : -9223372036854775808 ≤ d) (hd1 : d ≤ 9223372036854775807) (W : World) (T : T10 W) : Calls Tryd.prog 8 #[.int .i32 v, .int .i32 u, .int .u8 (k : Int), .int .i64 d] W fun e w' => e = .returned (.bool true) ∧ Below W.heap.size W w' := by
  have J0 := Lib.hid (S14.new T)
  have V1 := Lib.hid fun w => val_is xB ⟨#[120]⟩ ⟨#[]⟩ (litE 1 v) none 0 0 1 0 0 v rfl rfl rfl rfl rfl rfl rfl w (TrR.nil w)
  have V2 := Lib.hid fun X => val_is yB ⟨#[121]⟩ ⟨#[]⟩ (litE 1 u) none 0 0 1 0 0 u rfl rfl rfl rfl rfl rfl rfl X (TrR.nil X)
  have OX := Lib.hid (valS_ok (s := xB) (e := litE 1 v) (by decide) (litE_ok hv))
  have OY := Lib.hid (valS_ok (s := yB) (e := litE 1 u) (by decide) (litE_ok hu))
  have OV := Lib.hid (ovS_ok hk hd0 hd1 hu)
  have HZ := Lib.hid (sh_size v u k d)
  have HX := Lib.hid (sh_x v u k d)
  have HA := Lib.hid (sh_a v u k d)
  have HY := Lib.hid (sh_y v u k d)
  have HN := Lib.hid (sh_z v u k d)
  have HL := Lib.hid (show (shL v u k d).length = 3 from rfl)
  clear T hv hu
  go_enter Tryd.func8, Tryd.ntmps8
  go_upto_region 1 with fail
  go_cut [9, 10] from 9 to 20 (fun p q wx => ∃ a : Nat, p = .pointer (some ⟨a, 0, none⟩) ∧ q = .pointer (some ⟨a + 1, 0, none⟩) ∧ Hid (S14 W wx (fun Z => ShB Z a (valS xB (litE 1 v)) ∧ ShB Z (a + 1) (valS yB (litE 1 u)))))
  case first =>
    go_wp2_with (first
      | (go_at_call 18; (with_reducible refine (num_is v _).mono ?_); rintro e1 w1 ⟨rfl, b1⟩; have J1 := Lib.hid (S14.step J0 b1); clear b1)
      | (go_at_call 17; (with_reducible refine (V1.out _).mono ?_); rintro e1 w2 ⟨N1, d1, B1, f1, rfl, s1, t1, b1⟩; have J2 := Lib.hid ((S14.step J1 b1).add (fun X => SpV X (valS xB (litE 1 v)) N1 d1 B1 f1) ⟨OX.out, s1, t1⟩ (fun X Y b h => h.keep b)); clear b1 s1 t1)
      | (go_at_call 18; (with_reducible refine (num_is u _).mono ?_); rintro e1 w3 ⟨rfl, b1⟩; have J3 := Lib.hid (S14.step J2 b1); clear b1)
      | (go_at_call 17; (with_reducible refine (V2.out _).mono ?_); rintro e1 w4 ⟨N2, d2, B2, f2, rfl, s1, t1, b1⟩; have J4 := Lib.hid ((S14.step J3 b1).add (fun X => SpV X (valS yB (litE 1 u)) N2 d2 B2 f2) ⟨OY.out, s1, t1⟩ (fun X Y b h => h.keep b)); clear b1 s1 t1))
    go_meet
    case rel => exact ⟨w4.heap.size, rfl, rfl, sh_two J4 J4.out.p.1.2 J4.out.p.2⟩
  case rest =>
    obtain ⟨a, rfl, rfl, KA⟩ := hcut
    clear J0 V1 V2 OX OY
    generalize hX1 : wc = X1 at *
    clear hX1
    go_upto_region 2 with fail
    go_cut [11] from 11 to 27 (fun p wx => ∃ b : Nat, p = .pointer (some ⟨b, 0, none⟩) ∧ Hid (S14 W wx (fun Z => (ShB Z a (valS xB (litE 1 v)) ∧ ShB Z (a + 1) (valS yB (litE 1 u))) ∧ ShB Z b (ovS k d u))))
    case first =>
      go_wp2_with (go_at_call 18; (with_reducible refine (num_is u _).mono ?_); rintro e1 w5 ⟨rfl, b1⟩; have JV := Lib.hid (ov_v OV.out b1); have J5 := Lib.hid (S14.step (S14.al (.cells #[.string ⟨#[97]⟩, .string ⟨#[120]⟩] 9) KA) b1); clear b1)
      go_meet
      case rel => exact ⟨w5.heap.size, rfl, sh_one J5 JV.out⟩
    case rest =>
      obtain ⟨b, rfl, KB⟩ := hcut
      clear KA OV
      generalize hX2 : wc = X2 at *
      clear hX2
      go_upto_region 3 with fail
      go_cut [12] from 12 to 31 (fun p wx => ∃ c : Nat, p = .slice (some ⟨c, 0, none⟩) 3 3 ∧ Hid (S14 W wx (fun Z => ((ShB Z a (valS xB (litE 1 v)) ∧ ShB Z (a + 1) (valS yB (litE 1 u))) ∧ ShB Z b (ovS k d u)) ∧ SpR Z (some ⟨c, 0, none⟩) 3 (shL v u k d))))
      case first =>
        obtain ⟨N0, c0, B0, d0, h0, v0⟩ := KB.out.p.1.1
        obtain ⟨N1, c1, B1, d1, h1, v1⟩ := KB.out.p.1.2
        obtain ⟨N2, c2, B2, d2, h2, v2⟩ := KB.out.p.2
        have KC := sh_three KB v0 v1 v2
        have r0 := box_row h0
        have r1 := box_row h1
        have r2 := box_row h2
        dsimp only [spC, valS, ovS, litE, Ex.k, Ex.o, Ex.t, Ex.n, Ex.s, Ex.l, List.length, List.toList_toArray] at r0 r1 r2
        have r0 := Lib.hid r0
        have r1 := Lib.hid r1
        have r2 := Lib.hid r2
        clear v0 v1 v2 h0 h1 h2
        go_wp2_with (first
          | (refine wp_load16 rfl (.tmp 9) rfl ⟨a, 0, none⟩ rfl _ rfl r0.out ?_)
          | (refine wp_load16 rfl (.tmp 10) rfl ⟨a + 1, 0, none⟩ rfl _ rfl r1.out ?_)
          | (refine wp_load16 rfl (.tmp 11) rfl ⟨b, 0, none⟩ rfl _ rfl r2.out ?_))
        go_meet
        case rel => exact ⟨_, rfl, KC⟩
      case rest =>
        obtain ⟨c, rfl, KC⟩ := hcut
        clear KB
        generalize hX3 : wc = X3 at *
        clear hX3
        obtain ⟨r1, r2, hr, hA⟩ : ∃ r1 r2 : Int, constX (.mk 9 0 0 0 xB []) (shL v u k d).reverse = (r1, r2) ∧ (((k = 1 ∧ 1 ≤ d ∧ d ≤ 2147483647) ∧ r1 = d ∧ r2 = 0) ∨ (¬ (k = 1 ∧ 1 ≤ d ∧ d ≤ 2147483647) ∧ r1 = 0 ∧ r2 = 140)) := by
          by_cases h : k = 1 ∧ 1 ≤ d ∧ d ≤ 2147483647
          · exact ⟨d, 0, by rw [HZ.out, if_pos h], .inl ⟨h, rfl, rfl⟩⟩
          · exact ⟨0, 140, by rw [HZ.out, if_neg h], .inr ⟨h, rfl, rfl⟩⟩
        have CZ := Lib.hid (sz_is KC.out.p.2 HL.out KC.out.t r1 r2 hr)
        have hA := Lib.hid hA
        clear hr HZ
        go_upto_region 5 with (go_at_call 19; (with_reducible refine CZ.out.mono ?_); rintro e1 w6 ⟨rfl, b1⟩; have J6 := Lib.hid (S14.step KC b1); clear b1)
        have hz0 : w6.cell? ⟨b, 0, none⟩ = some (.int .u8 (k : Int)) := by
          obtain ⟨N2, c2, B2, d2, h2, v2⟩ := J6.out.p.1.2
          exact (h2.cell 0).trans rfl
        clear CZ KC
        go_cut [48] from 38 to 48 (fun t wx => ∃ z : Bool, t = .bool z ∧ Hid (z = decide (k = 1 ∧ 1 ≤ d ∧ d ≤ 2147483647)) ∧ wx = w6)
        case first =>
          clear hA
          by_cases k1 : k = 1
          · have hk1 : ((k : Int) == 1) = true := by simp [k1]
            by_cases k2 : 0 < d
            · by_cases k3 : d ≤ 2147483647
              · have HD := Lib.hid (show true = decide (k = 1 ∧ 1 ≤ d ∧ d ≤ 2147483647) from (decide_eq_true ⟨k1, by omega, k3⟩).symm)
                clear k1
                go_wp2
                go_meet
                case rel => exact ⟨true, rfl, HD, rfl⟩
              · have HD := Lib.hid (show false = decide (k = 1 ∧ 1 ≤ d ∧ d ≤ 2147483647) from (decide_eq_false (by omega)).symm)
                clear k1
                go_wp2
                go_meet
                case rel => exact ⟨false, rfl, HD, rfl⟩
            · have HD := Lib.hid (show false = decide (k = 1 ∧ 1 ≤ d ∧ d ≤ 2147483647) from (decide_eq_false (by omega)).symm)
              clear k1
              go_wp2
              go_meet
              case rel => exact ⟨false, rfl, HD, rfl⟩
          · have hk1 : ((k : Int) == 1) = false := by simp; omega
            have HD := Lib.hid (show false = decide (k = 1 ∧ 1 ≤ d ∧ d ≤ 2147483647) from (decide_eq_false (by omega)).symm)
            clear k1
            go_wp2
            go_meet
            case rel => exact ⟨false, rfl, HD, rfl⟩
        case rest =>
          obtain ⟨z, rfl, HD, rfl⟩ := hcut
          go_upto_if 48 with fail
          go_cut [] from 49 to 62 (fun wx => wx = wc)
          case first =>
            rcases hA.out with ⟨h, e1, e2⟩ | ⟨h, e1, e2⟩
            · obtain rfl : z = true := HD.out.trans (decide_eq_true h)
              subst e1 e2
              have hw1 : wrap32 r1 = r1 := by unfold wrap32; omega
              have hw2 : IntKind.i32.wrap r1 = r1 := by rw [IntKind.wrap_i32]; omega
              clear h HD hA
              go_wp2
              go_meet
              case rel => rfl
            · obtain rfl : z = false := HD.out.trans (decide_eq_false h)
              subst e1 e2
              clear h HD hA
              go_wp2
              go_meet
              case rel => rfl
          case rest =>
            obtain rfl := hcut
            clear hA HD
            by_cases k2 : k = 2
            · have hk2 : ((k : Int) == 2) = true := by simp [k2]
              have CX := Lib.hid fun X (S : SpR X (some ⟨c, 0, none⟩) 3 (shL v u k d)) (T : T10 X) => cm_nm xB ⟨#[120]⟩ u rfl (by decide) S HL.out T (by rw [HX.out, if_pos k2])
              have CA := Lib.hid fun X (S : SpR X (some ⟨c, 0, none⟩) 3 (shL v u k d)) (T : T10 X) => cm_nm aB ⟨#[97]⟩ u rfl (by decide) S HL.out T (by rw [HA.out, if_pos k2])
              have CY := Lib.hid fun X (S : SpR X (some ⟨c, 0, none⟩) 3 (shL v u k d)) (T : T10 X) => cm_nm yB ⟨#[121]⟩ u rfl (by decide) S HL.out T HY.out
              have NX := Lib.hid (name_is xB ⟨#[120]⟩ rfl)
              have NA := Lib.hid (name_is aB ⟨#[97]⟩ rfl)
              have NY := Lib.hid (name_is yB ⟨#[121]⟩ rfl)
              clear HX HA HY HN k2
              go_wp2_with (first
                | (go_at_call 24; (with_reducible refine (NX.out _).mono ?_); rintro e1 v1 ⟨rfl, b1⟩; have L1 := Lib.hid (S14.step J6 b1); clear b1)
                | (go_at_call 25; (with_reducible refine (CX.out _ L1.out.p.2 L1.out.t).mono ?_); rintro e1 v2 ⟨rfl, b1⟩; have L2 := Lib.hid (S14.step L1 b1); clear b1)
                | (go_at_call 24; (with_reducible refine (NA.out _).mono ?_); rintro e1 v3 ⟨rfl, b1⟩; have L3 := Lib.hid (S14.step L2 b1); clear b1)
                | (go_at_call 25; (with_reducible refine (CA.out _ L3.out.p.2 L3.out.t).mono ?_); rintro e1 v4 ⟨rfl, b1⟩; have L4 := Lib.hid (S14.step L3 b1); clear b1)
                | (go_at_call 24; (with_reducible refine (NY.out _).mono ?_); rintro e1 v5 ⟨rfl, b1⟩; have L5 := Lib.hid (S14.step L4 b1); clear b1)
                | (go_at_call 25; (with_reducible refine (CY.out _ L5.out.p.2 L5.out.t).mono ?_); rintro e1 v6 ⟨rfl, b1⟩; have L6 := Lib.hid (S14.step L5 b1); clear b1)
                | (go_at_call 11; (with_reducible refine (awake_any _ L6.out.t).mono ?_); rintro e1 v7 ⟨rfl, b1⟩; have L7 := Lib.hid (S14.step L6 b1); clear b1))
              go_ret
              exact ⟨rfl, L7.out.b⟩
            · have hk2 : ((k : Int) == 2) = false := by simp; omega
              have CX := Lib.hid fun X (S : SpR X (some ⟨c, 0, none⟩) 3 (shL v u k d)) (T : T10 X) => fl_nm xB ⟨#[120]⟩ rfl (by decide) S HL.out T (by rw [HX.out, if_neg k2])
              have CA := Lib.hid fun X (S : SpR X (some ⟨c, 0, none⟩) 3 (shL v u k d)) (T : T10 X) => fl_nm aB ⟨#[97]⟩ rfl (by decide) S HL.out T (by rw [HA.out, if_neg k2])
              have CY := Lib.hid fun X (S : SpR X (some ⟨c, 0, none⟩) 3 (shL v u k d)) (T : T10 X) => cm_nm yB ⟨#[121]⟩ u rfl (by decide) S HL.out T HY.out
              have CN := Lib.hid fun X (S : SpR X (some ⟨c, 0, none⟩) 3 (shL v u k d)) (T : T10 X) => fl_nm zB ⟨#[122]⟩ rfl (by decide) S HL.out T HN.out
              have NX := Lib.hid (name_is xB ⟨#[120]⟩ rfl)
              have NA := Lib.hid (name_is aB ⟨#[97]⟩ rfl)
              have NY := Lib.hid (name_is yB ⟨#[121]⟩ rfl)
              have NZ := Lib.hid (name_is zB ⟨#[122]⟩ rfl)
              clear HX HA HY HN k2
              go_wp2_with (first
                | (go_at_call 24; (with_reducible refine (NX.out _).mono ?_); rintro e1 v1 ⟨rfl, b1⟩; have L1 := Lib.hid (S14.step J6 b1); clear b1)
                | (go_at_call 26; (with_reducible refine (CX.out _ L1.out.p.2 L1.out.t).mono ?_); rintro e1 v2 ⟨rfl, b1⟩; have L2 := Lib.hid (S14.step L1 b1); clear b1)
                | (go_at_call 24; (with_reducible refine (NA.out _).mono ?_); rintro e1 v3 ⟨rfl, b1⟩; have L3 := Lib.hid (S14.step L2 b1); clear b1)
                | (go_at_call 26; (with_reducible refine (CA.out _ L3.out.p.2 L3.out.t).mono ?_); rintro e1 v4 ⟨rfl, b1⟩; have L4 := Lib.hid (S14.step L3 b1); clear b1)
                | (go_at_call 24; (with_reducible refine (NY.out _).mono ?_); rintro e1 v5 ⟨rfl, b1⟩; have L5 := Lib.hid (S14.step L4 b1); clear b1)
                | (go_at_call 25; (with_reducible refine (CY.out _ L5.out.p.2 L5.out.t).mono ?_); rintro e1 v6 ⟨rfl, b1⟩; have L6 := Lib.hid (S14.step L5 b1); clear b1)
                | (go_at_call 24; (with_reducible refine (NZ.out _).mono ?_); rintro e1 v7 ⟨rfl, b1⟩; have L7 := Lib.hid (S14.step L6 b1); clear b1)
                | (go_at_call 26; (with_reducible refine (CN.out _ L7.out.p.2 L7.out.t).mono ?_); rintro e1 v8 ⟨rfl, b1⟩; have L8 := Lib.hid (S14.step L7 b1); clear b1)
                | (go_at_call 11; (with_reducible refine (awake_any _ L8.out.t).mono ?_); rintro e1 v9 ⟨rfl, b1⟩; have L9 := Lib.hid (S14.step L8 b1); clear b1))
              go_ret
              exact ⟨rfl, L9.out.b⟩
end Go.Proofs.YtimbiobonigdmaaDoor
