/- The program: words, tokens of words and names; the tokens of a tree. -/
import Derived.Deep.RegionLaw
import Derived.Deep.RegionHeld3
import Derived.Test.YtplcmcealeeppaaGreatDoorM13
set_option linter.unusedVariables false
set_option linter.unusedSimpArgs false
set_option linter.unusedVariables false
set_option linter.unusedSimpArgs false
namespace Go.Proofs.YtplcmcealeeppaaGreatDoor
open Go Go.RowKit L8 L10

theorem opW_hi {o : Nat} (h : o = 0 ∨ 27 ≤ o) : opW o = [] ∧ isOp o = false := by
  constructor
  · unfold opW; rw [if_neg (by omega)]
  · unfold isOp
    rcases h with h | h
    · rw [decide_eq_false (by omega)]; rfl
    · rw [decide_eq_false (show ¬ o ≤ 26 by omega)]; simp
set_option maxRecDepth 100000 in
theorem PWord_any (o : Nat) (ho : o < 256) (w : World) (ht : T10 w) : Calls Tryz.prog 10 #[.int .u8 (o : Int)] w fun e w' => e = .returned (.tuple #[.string (strOf (opW o)), .bool (isOp o)]) ∧ Below w.heap.size w w' := by
  have ho0 : (0 : Int) ≤ (o : Int) := by omega
  have ho2 : (o : Int) < 256 := by omega
  have q0 : ((o : Int) == 0) = decide (o = 0) := nat_eq10 _ 0
  by_cases h0 : o = 0
  · rw [(opW_hi (.inl h0)).1, (opW_hi (.inl h0)).2]
    rw [decide_eq_true h0] at q0
    clear h0 ht ho
    go_enter Tryz.func10, Tryz.ntmps10
    go_wp2
    go_ret2
    exact ⟨rfl, b0 w⟩
  rw [decide_eq_false h0] at q0
  by_cases h1 : 27 ≤ (o : Int)
  · rw [(opW_hi (.inr (show 27 ≤ o by omega))).1, (opW_hi (.inr (show 27 ≤ o by omega))).2]
    clear h0 ht ho
    go_enter Tryz.func10, Tryz.ntmps10
    go_wp2
    go_ret2
    exact ⟨rfl, b0 w⟩
  · have c0 := ht.op (o := o) (by omega)
    have h2 : isOp o = true := by unfold isOp; rw [decide_eq_true (by omega), decide_eq_true (by omega)]; rfl
    have h3 : (o : Int) < 27 := by omega
    rw [h2]
    clear h0 ht ho h2
    generalize strOf (opW o) = S at *
    go_enter Tryz.func10, Tryz.ntmps10
    go_wp2
    go_ret2
    exact ⟨rfl, b0 w⟩
set_option maxRecDepth 100000 in
theorem Ptoken_any (s : Bs) (w : World) : Calls Tryz.prog 59 #[.string (strOf s)] w fun e w' => e = .returned (.agg #[.int .u8 (if isKey s = true then 2 else 5), .int .i64 0, .string (strOf s), .int .i32 0]) ∧ Below w.heap.size w w' := by
  have CK := Lib.hid (fun (W : World) => Key_any s W)
  have HV := Lib.hid (fun (a : Value) => bal (b0 w) (.cells #[a, .int .i64 0, .string (strOf s), .int .i32 0] 47))
  generalize isKey s = b at *
  generalize strOf s = S at *
  cases b
  · go_enter Tryz.func59, Tryz.ntmps59
    go_wp2_with (go_at_call 74; (with_reducible refine (CK.out _).mono ?_); rintro e w2 ⟨rfl, rfl⟩)
    refine bodyPost_ret (v := .agg #[.int .u8 5, .int .i64 0, .string S, .int .i32 0]) (by simp [results, Tryz.results59, go_sem]) rfl ⟨rfl, HV.out _⟩
  · go_enter Tryz.func59, Tryz.ntmps59
    go_wp2_with (go_at_call 74; (with_reducible refine (CK.out _).mono ?_); rintro e w2 ⟨rfl, rfl⟩)
    refine bodyPost_ret (v := .agg #[.int .u8 2, .int .i64 0, .string S, .int .i32 0]) (by simp [results, Tryz.results59, go_sem]) rfl ⟨rfl, HV.out _⟩
set_option maxRecDepth 100000 in
theorem Pname_any (S : ByteArray) (w : World) : Calls Tryz.prog 60 #[.string S] w fun e w' => e = .returned (.agg #[.int .u8 1, .int .i64 0, .string S, .int .i32 0]) ∧ Below w.heap.size w w' := by
  have HV := Lib.hid (bal (b0 w) (.cells #[.int .u8 1, .int .i64 0, .string S, .int .i32 0] 47))
  go_enter Tryz.func60, Tryz.ntmps60
  go_wp2
  refine bodyPost_ret (v := .agg #[.int .u8 1, .int .i64 0, .string S, .int .i32 0]) (by simp [results, Tryz.results60, go_sem]) rfl ⟨rfl, HV.out⟩
/-- The tokens of words, as contracts at a world of any kind. -/
theorem Pkw {s : Bs} (h : isKey s = true) (W : World) : Calls Tryz.prog 59 #[.string (strOf s)] W fun e w' => e = .returned (.agg #[.int .u8 2, .int .i64 0, .string (strOf s), .int .i32 0]) ∧ Below W.heap.size W w' := by
  have := Ptoken_any s W
  rw [h] at this
  exact this
theorem Psy {s : Bs} (h : isSym s = true) (W : World) : Calls Tryz.prog 59 #[.string (strOf s)] W fun e w' => e = .returned (.agg #[.int .u8 5, .int .i64 0, .string (strOf s), .int .i32 0]) ∧ Below W.heap.size W w' := by
  have := Ptoken_any s W
  rw [sym_not_key h] at this
  exact this
theorem Pmk (o : Nat) (W : World) : Calls Tryz.prog 59 #[.string (strOf (opW o))] W fun e w' => e = .returned (.agg #[.int .u8 ((mk o).k : Int), .int .i64 0, .string (strOf (opW o)), .int .i32 0]) ∧ Below W.heap.size W w' := by
  have := Ptoken_any (opW o) W
  have hk : (if isKey (opW o) = true then (2 : Int) else 5) = ((mk o).k : Int) := by unfold mk; split <;> rfl
  rw [hk] at this
  exact this
/-! ### Rows of one and two tokens -/
theorem okx_k {s : Bs} {k : Nat} (h : s.length ≤ maxLen) (hk : k < 256) : OKx ⟨k, 0, s, 0⟩ := ⟨h, hk, by show (-2147483648 : Int) ≤ 0; decide, by show (0 : Int) ≤ 2147483647; decide⟩
theorem okx_num {n : Int} {k : Nat} (h : -2147483648 ≤ n ∧ n ≤ 2147483647) (hk : k < 256) : OKx ⟨k, 0, [], n⟩ := ⟨by show (0 : Nat) ≤ maxLen; exact Nat.zero_le _, hk, h.1, h.2⟩
theorem tok1 (x : Tk) (hx : OKx x) (W : World) : RR (W.alloc (.cells #[.int .u8 (x.k : Int), .int .i64 x.a, .string (strOf x.tx), .int .i32 x.n] 47)) (some ⟨W.heap.size, 0, none⟩) 1 [x] := rr_one hx (boxS_new W _ _)
theorem tok2 (x y : Tk) (hx : OKx x) (hy : OKx y) (W : World) : RR (W.alloc (.cells #[.int .u8 (x.k : Int), .int .i64 x.a, .string (strOf x.tx), .int .i32 x.n, .int .u8 (y.k : Int), .int .i64 y.a, .string (strOf y.tx), .int .i32 y.n] 47)) (some ⟨W.heap.size, 0, none⟩) 2 [x, y] :=
  rr_new (w := W.alloc (.cells (rwCs [x, y]).toArray 47)) (rs := [x, y]) (e := 47) (OKL.app (OKL.one hx) (OKL.one hy)) (by show (2 : Nat) ≤ maxLen; unfold maxLen; decide) (boxS_new W _ _)
theorem ApS.gives {w0 w Y : World} {e : Ex} {B A A' : Option Addr} {m d q c : Nat} {l k : List Tk} (h : ApS w0 w e B m d A Y A' q c k) (hk : l = k) : ApR w0 w A l (.returned (.slice A' q c)) Y := by
  subst hk
  have hq := h.own.len
  subst hq
  exact ⟨A', c, rfl, h.ap⟩
def AxC (e : Ex) : Prop := ∀ (w0 w : World) (A B : Option Addr) (n c m d : Nat) (rs : List Tk), T10 w0 → TrR w0 B d e.l → e.l.length = m → OKe e → Below w0.heap.size w0 w → OwnR w 47 w0.heap.size A n c rs → n + 5 * szE e + 2 ≤ 1000000 → Calls Tryz.prog 40 #[.slice A n c, exV e B m d] w (ApR w0 w A (rs ++ tkE e))
def AoC (e : Ex) : Prop := ∀ (w0 w : World) (A B : Option Addr) (n c m d : Nat) (rs : List Tk), T10 w0 → TrR w0 B d e.l → e.l.length = m → OKe e → Below w0.heap.size w0 w → OwnR w 47 w0.heap.size A n c rs → n + 5 * szE e + 4 ≤ 1000000 → Calls Tryz.prog 61 #[.slice A n c, exV e B m d] w (ApR w0 w A (rs ++ opT e))
theorem ApS.one {w0 w Y : World} {e : Ex} {B A A' : Option Addr} {m d n c : Nat} {l : List Tk} (h : ApS w0 w e B m d A Y A' n c l) (t : T10 w0) (R : TrR w0 B d e.l) (x : Tk) (ok : OKx x) {cs : Array Value} (hcs : cs = #[.int .u8 (x.k : Int), .int .i64 x.a, .string (strOf x.tx), .int .i32 x.n]) :
    RR (Y.alloc (.cells cs 47)) (some ⟨Y.heap.size, 0, none⟩) 1 [x] ∧ OwnR (Y.alloc (.cells cs 47)) 47 w0.heap.size A' n c l ∧ w0.heap.size ≤ (Y.alloc (.cells cs 47)).heap.size ∧
      ∀ Z A2 c2, OwnR Z 47 w0.heap.size A2 (n + 1) c2 (l ++ [x]) → (Y.alloc (.cells cs 47)).grownBy Z (Value.slice A' n c).ownBlock → Gr (Y.alloc (.cells cs 47)) A' A2 → ApS w0 w e B m d A Z A2 (n + 1) c2 (l ++ [x]) := by
  subst hcs
  have k := h.below (bal (b0 Y) (.cells #[.int .u8 (x.k : Int), .int .i64 x.a, .string (strOf x.tx), .int .i32 x.n] 47))
  exact ⟨tok1 x ok Y, k.own, k.lt, fun Z A2 c2 o g gr => k.app t R o g gr⟩
theorem ApS.two {w0 w Y : World} {e : Ex} {B A A' : Option Addr} {m d n c : Nat} {l : List Tk} (h : ApS w0 w e B m d A Y A' n c l) (t : T10 w0) (R : TrR w0 B d e.l) (x y : Tk) (ok : OKx x) (ok' : OKx y) {cs : Array Value} (hcs : cs = #[.int .u8 (x.k : Int), .int .i64 x.a, .string (strOf x.tx), .int .i32 x.n, .int .u8 (y.k : Int), .int .i64 y.a, .string (strOf y.tx), .int .i32 y.n]) :
    RR (Y.alloc (.cells cs 47)) (some ⟨Y.heap.size, 0, none⟩) 2 [x, y] ∧ OwnR (Y.alloc (.cells cs 47)) 47 w0.heap.size A' n c l ∧ w0.heap.size ≤ (Y.alloc (.cells cs 47)).heap.size ∧
      ∀ Z A2 c2, OwnR Z 47 w0.heap.size A2 (n + 2) c2 (l ++ [x, y]) → (Y.alloc (.cells cs 47)).grownBy Z (Value.slice A' n c).ownBlock → Gr (Y.alloc (.cells cs 47)) A' A2 → ApS w0 w e B m d A Z A2 (n + 2) c2 (l ++ [x, y]) := by
  subst hcs
  have k := h.below (bal (b0 Y) (.cells #[.int .u8 (x.k : Int), .int .i64 x.a, .string (strOf x.tx), .int .i32 x.n, .int .u8 (y.k : Int), .int .i64 y.a, .string (strOf y.tx), .int .i32 y.n] 47))
  exact ⟨tok2 x y ok ok' Y, k.own, k.lt, fun Z A2 c2 o g gr => k.app t R o g gr⟩
/-! ### Trees without parts -/
section
variable {w0 w : World} {A B : Option Addr} {n c m d : Nat} {rs : List Tk}
set_option maxRecDepth 100000 in
set_option maxHeartbeats 4000000 in
theorem ax_1 (v : Int) : AxC (.mk 1 0 0 v [] []) := by
  intro w0 w A B n c m d rs t R hm ok b o hb
  have HV := Lib.hid (ApS.new (m := m) b o t R)
  have HO := Lib.hid (HV.out.one t R (nb v) (okx_num ⟨ok.2.2.2.1, ok.2.2.2.2.1⟩ (by decide)) (cs := #[.int .u8 3, .int .i64 0, .string ⟨#[]⟩, .int .i32 v]) rfl)
  have HG : Hid (∀ (Z : World) (A2 : Option Addr) (c2 : Nat), ApS w0 w (.mk 1 0 0 v [] []) B m d A Z A2 (n + 1) c2 (rs ++ [nb v]) → ApR w0 w A (rs ++ tkE (.mk 1 0 0 v [] [])) (.returned (.slice A2 (n + 1) c2)) Z) := Lib.hid fun Z A2 c2 h => h.gives (by rw [tk_1])
  have hn : n + 1 ≤ 1000000 := by omega
  rw [World.size_alloc] at HO
  clear t R hm ok b o hb HV
  generalize ApR w0 w A (rs ++ tkE (.mk 1 0 0 v [] [])) = POST at *
  dsimp only [exV, exC, Ex.k, Ex.o, Ex.t, Ex.n, Ex.s] at *
  generalize strOf [] = S at *
  go_enter Tryz.func40, Tryz.ntmps40
  go_wp2_with (at_builtin; (refine app_rwsG rfl (.tmp 9) (.tmp 13) rfl w0.heap.size n c 1 1 (n + 1) A (some ⟨w.heap.size + 1, 0, none⟩) rs [nb v] rfl rfl HO.out.2.1 rfl (by decide) HO.out.1 rfl hn HO.out.2.2.1 ?_; intro A2 c2 Y o2 g gr; have HQ := Lib.hid (HO.out.2.2.2 Y A2 c2 o2 g gr); clear o2 g gr))
  exact HG.out _ _ _ HQ.out
set_option maxRecDepth 100000 in
set_option maxHeartbeats 4000000 in
theorem ax_2 (v : Int) : AxC (.mk 2 0 0 v [] []) := by
  intro w0 w A B n c m d rs t R hm ok b o hb
  have HV := Lib.hid (ApS.new (m := m) b o t R)
  have HO := Lib.hid (HV.out.one t R (by_ v) (okx_num ⟨ok.2.2.2.1, ok.2.2.2.2.1⟩ (by decide)) (cs := #[.int .u8 4, .int .i64 0, .string ⟨#[]⟩, .int .i32 v]) rfl)
  have HG : Hid (∀ (Z : World) (A2 : Option Addr) (c2 : Nat), ApS w0 w (.mk 2 0 0 v [] []) B m d A Z A2 (n + 1) c2 (rs ++ [by_ v]) → ApR w0 w A (rs ++ tkE (.mk 2 0 0 v [] [])) (.returned (.slice A2 (n + 1) c2)) Z) := Lib.hid fun Z A2 c2 h => h.gives (by rw [tk_2])
  have hn : n + 1 ≤ 1000000 := by omega
  rw [World.size_alloc] at HO
  clear t R hm ok b o hb HV
  generalize ApR w0 w A (rs ++ tkE (.mk 2 0 0 v [] [])) = POST at *
  dsimp only [exV, exC, Ex.k, Ex.o, Ex.t, Ex.n, Ex.s] at *
  generalize strOf [] = S at *
  go_enter Tryz.func40, Tryz.ntmps40
  go_wp2_with (at_builtin; (refine app_rwsG rfl (.tmp 17) (.tmp 21) rfl w0.heap.size n c 1 1 (n + 1) A (some ⟨w.heap.size + 1, 0, none⟩) rs [by_ v] rfl rfl HO.out.2.1 rfl (by decide) HO.out.1 rfl hn HO.out.2.2.1 ?_; intro A2 c2 Y o2 g gr; have HQ := Lib.hid (HO.out.2.2.2 Y A2 c2 o2 g gr); clear o2 g gr))
  exact HG.out _ _ _ HQ.out
end
end Go.Proofs.YtplcmcealeeppaaGreatDoor
/- The program: the tokens of a tree, form by form. -/
set_option linter.unusedVariables false
set_option linter.unusedSimpArgs false
namespace Go.Proofs.YtplcmcealeeppaaGreatDoor
open Go Go.RowKit L8 L10

theorem TrR.hd {w : World} {A : Option Addr} {c : Nat} {x : Ex} {r : List Ex} (h : TrR w A c (x :: r)) : ∃ ad, A = some ad ∧ OKe x ∧ ∃ B d, TrR w B d x.l ∧ ExAt w ad x B d := by
  obtain ⟨ad, e, B, n, d, hl, ok, R, x0, x1, x2, x3, x4, x5⟩ := h.at (j := 0) (by simp)
  have e0 : ad.add (0 * 6) = ad := by unfold Addr.add; simp
  rw [e0] at x0 x1 x2 x3 x4 x5
  have ex : (x :: r).getD 0 L10.e0 = x := rfl
  rw [ex] at *
  subst hl
  exact ⟨ad, e, ok, B, d, R, x0, x1, x2, x3, x4, x5⟩
theorem TrR.hd2 {w : World} {ad : Addr} {c : Nat} {x y : Ex} {r : List Ex} (h : TrR w (some ad) c (x :: y :: r)) : OKe y ∧ ∃ B d, TrR w B d y.l ∧ ExAt w ⟨ad.block, ad.off + 6, none⟩ y B d := by
  obtain ⟨ad', e, B, n, d, hl, ok, R, x0, x1, x2, x3, x4, x5⟩ := h.at (j := 1) (by simp)
  cases e
  have e0 : ad.add (1 * 6) = ⟨ad.block, ad.off + 6, none⟩ := by unfold Addr.add; simp
  rw [e0] at x0 x1 x2 x3 x4 x5
  have ex : (x :: y :: r).getD 1 L10.e0 = y := rfl
  rw [ex] at *
  subst hl
  exact ⟨ok, B, d, R, x0, x1, x2, x3, x4, x5⟩
/-- The cells of a tree that lies at an address, its parts' slice of q. -/
def XC (Y : World) (p : Addr) (y : Ex) (C : Option Addr) (q e' : Nat) : Prop := Y.cell? p = some (.int .u8 (y.k : Int)) ∧ Y.cell? ⟨p.block, p.off + 1, none⟩ = some (.int .u8 (y.o : Int)) ∧ Y.cell? ⟨p.block, p.off + 2, none⟩ = some (.int .u8 (y.t : Int)) ∧ Y.cell? ⟨p.block, p.off + 3, none⟩ = some (.int .i32 y.n) ∧ Y.cell? ⟨p.block, p.off + 4, none⟩ = some (.string (strOf y.s)) ∧ Y.cell? ⟨p.block, p.off + 5, none⟩ = some (.slice C q e')
theorem XC.of {w0 Y : World} {p : Addr} {y : Ex} {C : Option Addr} {q e' : Nat} (h : ExAt w0 p y C e') (hq : y.l.length = q) (b : Below w0.heap.size w0 Y) : XC Y p y C q e' := by
  have := h.keep b
  unfold ExAt at this
  rw [hq] at this
  exact this
theorem op_bound {y : Ex} (h : allE y = true) : (opT y).length ≤ 5 * szE y + 2 := by
  have h1 := tk_bound y h
  have h2 : (opT y).length ≤ (tkE y).length + 2 := by unfold opT par; split <;> simp
  omega
/-- A call of appendExpr or of appendOperand on the way. -/
theorem AxC.at {w0 w Y : World} {e y : Ex} {A A' B C : Option Addr} {m d n c q e' : Nat} {l : List Tk} (ih : AxC y) (h : ApS w0 w e B m d A Y A' n c l) (t : T10 w0) (R : TrR w0 B d e.l) (Ry : TrR w0 C e' y.l) (hq : y.l.length = q) (oky : OKe y) (hb : n + 5 * szE y + 2 ≤ 1000000) :
    Calls Tryz.prog 40 #[.slice A' n c, exV y C q e'] Y fun en w' => ∃ A2 c2 q2, en = .returned (.slice A2 q2 c2) ∧ ApS w0 w e B m d A w' A2 q2 c2 (l ++ tkE y) ∧ q2 = n + (tkE y).length :=
  (ih w0 Y A' C n c q e' l t Ry hq oky h.bel h.own hb).mono fun en w' ⟨A2, c2, he, ap⟩ => ⟨A2, c2, _, he, h.step t R ap, by have := h.own.len; rw [List.length_append]; omega⟩
theorem AoC.at {w0 w Y : World} {e y : Ex} {A A' B C : Option Addr} {m d n c q e' : Nat} {l : List Tk} (ih : AoC y) (h : ApS w0 w e B m d A Y A' n c l) (t : T10 w0) (R : TrR w0 B d e.l) (Ry : TrR w0 C e' y.l) (hq : y.l.length = q) (oky : OKe y) (hb : n + 5 * szE y + 4 ≤ 1000000) :
    Calls Tryz.prog 61 #[.slice A' n c, exV y C q e'] Y fun en w' => ∃ A2 c2 q2, en = .returned (.slice A2 q2 c2) ∧ ApS w0 w e B m d A w' A2 q2 c2 (l ++ opT y) ∧ q2 = n + (opT y).length :=
  (ih w0 Y A' C n c q e' l t Ry hq oky h.bel h.own hb).mono fun en w' ⟨A2, c2, he, ap⟩ => ⟨A2, c2, _, he, h.step t R ap, by have := h.own.len; rw [List.length_append]; omega⟩
set_option maxRecDepth 100000 in
set_option maxHeartbeats 16000000 in
theorem ax_30 : AxC (.mk 3 0 0 0 [] []) := by
  intro w0 w A B n c m d rs t R hm ok b o hb
  have HTR := Lib.hid (And.intro t R)
  have HV : Hid (ApS w0 w (.mk 3 0 0 0 [] []) B m d A (w.alloc (.cells #[.int .u8 3, .int .u8 0, .int .u8 0, .int .i32 0, .string (strOf []), .slice B m d] 27)) A n c rs) := Lib.hid (ApS.new (m := m) b o t R)
  have HC : Hid (∀ (Y : World) (A' : Option Addr) (n' c' : Nat) (l : List Tk), ApS w0 w (.mk 3 0 0 0 [] []) B m d A Y A' n' c' l → (Y.cell? ⟨w.heap.size, 0, none⟩ = some (.int .u8 3) ∧ Y.cell? ⟨w.heap.size, 1, none⟩ = some (.int .u8 0) ∧ Y.cell? ⟨w.heap.size, 2, none⟩ = some (.int .u8 0) ∧ Y.cell? ⟨w.heap.size, 3, none⟩ = some (.int .i32 0) ∧ Y.cell? ⟨w.heap.size, 4, none⟩ = some (.string (strOf [])) ∧ Y.cell? ⟨w.heap.size, 5, none⟩ = some (.slice B m d)) ∧ T10 Y) := Lib.hid fun Y A' n' c' l h => ⟨h.cells, h.t10⟩
  have HG : Hid (∀ (Z : World) (A2 : Option Addr) (q2 c2 : Nat) (k : List Tk), ApS w0 w (.mk 3 0 0 0 [] []) B m d A Z A2 q2 c2 k → rs ++ tkE (.mk 3 0 0 0 [] []) = k → ApR w0 w A (rs ++ tkE (.mk 3 0 0 0 [] [])) (.returned (.slice A2 q2 c2)) Z) := Lib.hid fun Z A2 q2 c2 k h hk => h.gives hk
  have HT1 := Lib.hid (fun (Y : World) (A' : Option Addr) (n' c' : Nat) (l : List Tk) (h : ApS w0 w (.mk 3 0 0 0 [] []) B m d A Y A' n' c' l) => h.one t R (kw wFalse) (okx_k (by show (wFalse).length ≤ maxLen; unfold maxLen; decide) (by decide)) (cs := #[.int .u8 2, .int .i64 0, .string (strOf wFalse), .int .i32 0]) rfl)
  have CK := Lib.hid (fun (W : World) => Pkw (s := wFalse) (by decide) W)
  have HE := Lib.hid (show rs ++ tkE (.mk 3 0 0 0 [] []) = rs ++ [kw wFalse] by rw [tk_3]; rfl)
  obtain ⟨_, ht⟩ := HC.out _ _ _ _ _ HV.out
  have z := ht.tr.1
  have hn : n + 1 ≤ 1000000 := by omega
  clear t R hm ok b o hb ht HTR HC
  generalize hP : ApR w0 w A (rs ++ tkE (.mk 3 0 0 0 [] [])) = POST at *
  show Calls Tryz.prog 40 #[.slice A n c, .agg #[.int .u8 3, .int .u8 0, .int .u8 0, .int .i32 0, .string (strOf []), .slice B m d]] w POST
  clear hP
  generalize strOf [] = S0 at *
  generalize strOf wFalse = S at *
  go_enter Tryz.func40, Tryz.ntmps40
  go_wp2_with (first
    | (go_at_call 59; (with_reducible refine (CK.out _).mono ?_); rintro e1 W1 ⟨rfl, b⟩; have H1 := Lib.hid (HV.out.below b); have T1 := Lib.hid (HT1.out _ _ _ _ _ H1.out); clear b)
    | (at_builtin; (refine app_rwsG rfl (.tmp 25) (.tmp 31) rfl w0.heap.size n c 1 1 (n + 1) A (some ⟨W1.heap.size, 0, none⟩) rs [kw wFalse] rfl rfl T1.out.2.1 rfl (by decide) T1.out.1 rfl hn T1.out.2.2.1 ?_; intro A2 c2 Y o2 g gr; have HQ := Lib.hid (T1.out.2.2.2 Y A2 c2 o2 g gr); clear o2 g gr)))
  exact HG.out _ _ _ _ _ HQ.out HE.out
set_option maxRecDepth 100000 in
set_option maxHeartbeats 16000000 in
theorem ax_31 : AxC (.mk 3 0 0 1 [] []) := by
  intro w0 w A B n c m d rs t R hm ok b o hb
  have HTR := Lib.hid (And.intro t R)
  have HV : Hid (ApS w0 w (.mk 3 0 0 1 [] []) B m d A (w.alloc (.cells #[.int .u8 3, .int .u8 0, .int .u8 0, .int .i32 1, .string (strOf []), .slice B m d] 27)) A n c rs) := Lib.hid (ApS.new (m := m) b o t R)
  have HC : Hid (∀ (Y : World) (A' : Option Addr) (n' c' : Nat) (l : List Tk), ApS w0 w (.mk 3 0 0 1 [] []) B m d A Y A' n' c' l → (Y.cell? ⟨w.heap.size, 0, none⟩ = some (.int .u8 3) ∧ Y.cell? ⟨w.heap.size, 1, none⟩ = some (.int .u8 0) ∧ Y.cell? ⟨w.heap.size, 2, none⟩ = some (.int .u8 0) ∧ Y.cell? ⟨w.heap.size, 3, none⟩ = some (.int .i32 1) ∧ Y.cell? ⟨w.heap.size, 4, none⟩ = some (.string (strOf [])) ∧ Y.cell? ⟨w.heap.size, 5, none⟩ = some (.slice B m d)) ∧ T10 Y) := Lib.hid fun Y A' n' c' l h => ⟨h.cells, h.t10⟩
  have HG : Hid (∀ (Z : World) (A2 : Option Addr) (q2 c2 : Nat) (k : List Tk), ApS w0 w (.mk 3 0 0 1 [] []) B m d A Z A2 q2 c2 k → rs ++ tkE (.mk 3 0 0 1 [] []) = k → ApR w0 w A (rs ++ tkE (.mk 3 0 0 1 [] [])) (.returned (.slice A2 q2 c2)) Z) := Lib.hid fun Z A2 q2 c2 k h hk => h.gives hk
  have HT1 := Lib.hid (fun (Y : World) (A' : Option Addr) (n' c' : Nat) (l : List Tk) (h : ApS w0 w (.mk 3 0 0 1 [] []) B m d A Y A' n' c' l) => h.one t R (kw wTrue) (okx_k (by show (wTrue).length ≤ maxLen; unfold maxLen; decide) (by decide)) (cs := #[.int .u8 2, .int .i64 0, .string (strOf wTrue), .int .i32 0]) rfl)
  have CK := Lib.hid (fun (W : World) => Pkw (s := wTrue) (by decide) W)
  have HE := Lib.hid (show rs ++ tkE (.mk 3 0 0 1 [] []) = rs ++ [kw wTrue] by rw [tk_3]; rfl)
  obtain ⟨_, ht⟩ := HC.out _ _ _ _ _ HV.out
  have z := ht.tr.2
  have hn : n + 1 ≤ 1000000 := by omega
  clear t R hm ok b o hb ht HTR HC
  generalize hP : ApR w0 w A (rs ++ tkE (.mk 3 0 0 1 [] [])) = POST at *
  show Calls Tryz.prog 40 #[.slice A n c, .agg #[.int .u8 3, .int .u8 0, .int .u8 0, .int .i32 1, .string (strOf []), .slice B m d]] w POST
  clear hP
  generalize strOf [] = S0 at *
  generalize strOf wTrue = S at *
  go_enter Tryz.func40, Tryz.ntmps40
  go_wp2_with (first
    | (go_at_call 59; (with_reducible refine (CK.out _).mono ?_); rintro e1 W1 ⟨rfl, b⟩; have H1 := Lib.hid (HV.out.below b); have T1 := Lib.hid (HT1.out _ _ _ _ _ H1.out); clear b)
    | (at_builtin; (refine app_rwsG rfl (.tmp 25) (.tmp 31) rfl w0.heap.size n c 1 1 (n + 1) A (some ⟨W1.heap.size, 0, none⟩) rs [kw wTrue] rfl rfl T1.out.2.1 rfl (by decide) T1.out.1 rfl hn T1.out.2.2.1 ?_; intro A2 c2 Y o2 g gr; have HQ := Lib.hid (T1.out.2.2.2 Y A2 c2 o2 g gr); clear o2 g gr)))
  exact HG.out _ _ _ _ _ HQ.out HE.out
set_option maxRecDepth 100000 in
set_option maxHeartbeats 16000000 in
theorem ax_4 (s : Bs) : AxC (.mk 4 0 0 0 s []) := by
  intro w0 w A B n c m d rs t R hm ok b o hb
  have HTR := Lib.hid (And.intro t R)
  have HV : Hid (ApS w0 w (.mk 4 0 0 0 s []) B m d A (w.alloc (.cells #[.int .u8 4, .int .u8 0, .int .u8 0, .int .i32 0, .string (strOf s), .slice B m d] 27)) A n c rs) := Lib.hid (ApS.new (m := m) b o t R)
  have HC : Hid (∀ (Y : World) (A' : Option Addr) (n' c' : Nat) (l : List Tk), ApS w0 w (.mk 4 0 0 0 s []) B m d A Y A' n' c' l → (Y.cell? ⟨w.heap.size, 0, none⟩ = some (.int .u8 4) ∧ Y.cell? ⟨w.heap.size, 1, none⟩ = some (.int .u8 0) ∧ Y.cell? ⟨w.heap.size, 2, none⟩ = some (.int .u8 0) ∧ Y.cell? ⟨w.heap.size, 3, none⟩ = some (.int .i32 0) ∧ Y.cell? ⟨w.heap.size, 4, none⟩ = some (.string (strOf s)) ∧ Y.cell? ⟨w.heap.size, 5, none⟩ = some (.slice B m d)) ∧ T10 Y) := Lib.hid fun Y A' n' c' l h => ⟨h.cells, h.t10⟩
  have HG : Hid (∀ (Z : World) (A2 : Option Addr) (q2 c2 : Nat) (k : List Tk), ApS w0 w (.mk 4 0 0 0 s []) B m d A Z A2 q2 c2 k → rs ++ tkE (.mk 4 0 0 0 s []) = k → ApR w0 w A (rs ++ tkE (.mk 4 0 0 0 s [])) (.returned (.slice A2 q2 c2)) Z) := Lib.hid fun Z A2 q2 c2 k h hk => h.gives hk
  have HT1 := Lib.hid (fun (Y : World) (A' : Option Addr) (n' c' : Nat) (l : List Tk) (h : ApS w0 w (.mk 4 0 0 0 s []) B m d A Y A' n' c' l) => h.one t R (nm s) (okx_k ok.2.2.2.2.2 (by decide)) (cs := #[.int .u8 1, .int .i64 0, .string (strOf s), .int .i32 0]) rfl)
  have CK := Lib.hid (fun (W : World) => Pname_any (strOf s) W)
  have HE := Lib.hid (show rs ++ tkE (.mk 4 0 0 0 s []) = rs ++ [nm s] by rw [tk_4])
  have hn : n + 1 ≤ 1000000 := by omega
  clear t R hm ok b o hb HTR HC
  generalize hP : ApR w0 w A (rs ++ tkE (.mk 4 0 0 0 s [])) = POST at *
  show Calls Tryz.prog 40 #[.slice A n c, .agg #[.int .u8 4, .int .u8 0, .int .u8 0, .int .i32 0, .string (strOf s), .slice B m d]] w POST
  clear hP
  generalize strOf s = S at *
  go_enter Tryz.func40, Tryz.ntmps40
  go_wp2_with (first
    | (go_at_call 60; (with_reducible refine (CK.out _).mono ?_); rintro e1 W1 ⟨rfl, b⟩; have H1 := Lib.hid (HV.out.below b); have T1 := Lib.hid (HT1.out _ _ _ _ _ H1.out); clear b)
    | (at_builtin; (refine app_rwsG rfl (.tmp 35) (.tmp 39) rfl w0.heap.size n c 1 1 (n + 1) A (some ⟨W1.heap.size, 0, none⟩) rs [nm s] rfl rfl T1.out.2.1 rfl (by decide) T1.out.1 rfl hn T1.out.2.2.1 ?_; intro A2 c2 Y o2 g gr; have HQ := Lib.hid (T1.out.2.2.2 Y A2 c2 o2 g gr); clear o2 g gr)))
  exact HG.out _ _ _ _ _ HQ.out HE.out
set_option maxRecDepth 100000 in
set_option maxHeartbeats 16000000 in
theorem ax_9 (s : Bs) : AxC (.mk 9 0 0 0 s []) := by
  intro w0 w A B n c m d rs t R hm ok b o hb
  have HTR := Lib.hid (And.intro t R)
  have HV : Hid (ApS w0 w (.mk 9 0 0 0 s []) B m d A (w.alloc (.cells #[.int .u8 9, .int .u8 0, .int .u8 0, .int .i32 0, .string (strOf s), .slice B m d] 27)) A n c rs) := Lib.hid (ApS.new (m := m) b o t R)
  have HC : Hid (∀ (Y : World) (A' : Option Addr) (n' c' : Nat) (l : List Tk), ApS w0 w (.mk 9 0 0 0 s []) B m d A Y A' n' c' l → (Y.cell? ⟨w.heap.size, 0, none⟩ = some (.int .u8 9) ∧ Y.cell? ⟨w.heap.size, 1, none⟩ = some (.int .u8 0) ∧ Y.cell? ⟨w.heap.size, 2, none⟩ = some (.int .u8 0) ∧ Y.cell? ⟨w.heap.size, 3, none⟩ = some (.int .i32 0) ∧ Y.cell? ⟨w.heap.size, 4, none⟩ = some (.string (strOf s)) ∧ Y.cell? ⟨w.heap.size, 5, none⟩ = some (.slice B m d)) ∧ T10 Y) := Lib.hid fun Y A' n' c' l h => ⟨h.cells, h.t10⟩
  have HG : Hid (∀ (Z : World) (A2 : Option Addr) (q2 c2 : Nat) (k : List Tk), ApS w0 w (.mk 9 0 0 0 s []) B m d A Z A2 q2 c2 k → rs ++ tkE (.mk 9 0 0 0 s []) = k → ApR w0 w A (rs ++ tkE (.mk 9 0 0 0 s [])) (.returned (.slice A2 q2 c2)) Z) := Lib.hid fun Z A2 q2 c2 k h hk => h.gives hk
  have HT2 := Lib.hid (fun (Y : World) (A' : Option Addr) (n' c' : Nat) (l : List Tk) (h : ApS w0 w (.mk 9 0 0 0 s []) B m d A Y A' n' c' l) => h.two t R (kw wSize) (nm s) (okx_k (by show (wSize).length ≤ maxLen; unfold maxLen; decide) (by decide)) (okx_k ok.2.2.2.2.2 (by decide)) (cs := #[.int .u8 2, .int .i64 0, .string ⟨#[83, 73, 90, 69]⟩, .int .i32 0, .int .u8 1, .int .i64 0, .string (strOf s), .int .i32 0]) rfl)
  have CK := Lib.hid (fun (W : World) => show Calls Tryz.prog 59 #[.string ⟨#[83, 73, 90, 69]⟩] W (fun e w' => e = .returned (.agg #[.int .u8 2, .int .i64 0, .string ⟨#[83, 73, 90, 69]⟩, .int .i32 0]) ∧ Below W.heap.size W w') from Pkw (s := wSize) (by decide) W)
  have CN := Lib.hid (fun (W : World) => Pname_any (strOf s) W)
  have HE := Lib.hid (show rs ++ tkE (.mk 9 0 0 0 s []) = rs ++ [kw wSize, nm s] by rw [tk_9])
  have hn : n + 2 ≤ 1000000 := by have : szE (.mk 9 0 0 0 s []) = 1 := by { rw [szE, szL] }; omega
  clear t R hm ok b o hb HTR
  generalize hP : ApR w0 w A (rs ++ tkE (.mk 9 0 0 0 s [])) = POST at *
  show Calls Tryz.prog 40 #[.slice A n c, .agg #[.int .u8 9, .int .u8 0, .int .u8 0, .int .i32 0, .string (strOf s), .slice B m d]] w POST
  clear hP
  generalize strOf s = S at *
  go_enter Tryz.func40, Tryz.ntmps40
  go_wp2
  generalize hV : w.alloc (.cells #[.int .u8 9, .int .u8 0, .int .u8 0, .int .i32 0, .string S, .slice B m d] 27) = V at *
  clear hV
  replace HV := Lib.hid (show ApS w0 w (.mk 9 0 0 0 s []) B m d A V.drew A n c rs from HV.out.below (bdrew (b0 _) 1))
  obtain ⟨⟨x0, x1, x2, x3, x4, x5⟩, _⟩ := HC.out _ _ _ _ _ HV.out
  go_region_law (first
    | (go_simp; go_at_call 59; (with_reducible refine (CK.out _).mono ?_); rintro e1 W1 ⟨rfl, b⟩; have H1 := Lib.hid (HV.out.below b); clear b; obtain ⟨⟨y0, y1, y2, y3, y4, y5⟩, _⟩ := HC.out _ _ _ _ _ H1.out)
    | (go_simp; go_at_call 60; (with_reducible refine (CN.out _).mono ?_); rintro e1 W2 ⟨rfl, b⟩; have H2 := Lib.hid (H1.out.below b); clear b; have T1 := Lib.hid (HT2.out _ _ _ _ _ H2.out))
    | (refine step_rwsG rfl (.tmp 112) (.tmp 117) rfl w0.heap.size n c 2 2 (n + 2) A (some ⟨W2.heap.size, 0, none⟩) rs [kw wSize, nm s] rfl rfl T1.out.2.1 rfl (by decide) T1.out.1 rfl hn T1.out.2.2.1 ?_; intro A2 c2 Y o2 g gr; have HQ := Lib.hid (T1.out.2.2.2 Y A2 c2 o2 g gr); clear o2 g gr))
  all_goals (go_wp2; first | exact HG.out _ _ _ _ _ HQ.out HE.out | (go_ret; exact HG.out _ _ _ _ _ HQ.out HE.out))
end Go.Proofs.YtplcmcealeeppaaGreatDoor
/- The program: the tokens of trees with parts. -/
set_option linter.unusedVariables false
set_option linter.unusedSimpArgs false
namespace Go.Proofs.YtplcmcealeeppaaGreatDoor
open Go Go.RowKit L8 L10

theorem opW_len (o : Nat) : (opW o).length ≤ 5 := by
  unfold opW
  split
  · have key : ∀ i, i < 26 → (ops.getD i []).length ≤ 5 := by decide
    exact key _ (by omega)
  · decide
theorem okx_mk (o : Nat) : OKx (mk o) := by
  have h : (opW o).length ≤ maxLen := by have := opW_len o; unfold maxLen; omega
  unfold mk
  split
  · exact okx_k h (by decide)
  · exact okx_k h (by decide)
theorem mk_cs (o : Nat) : (#[.int .u8 ((mk o).k : Int), .int .i64 0, .string (strOf (opW o)), .int .i32 0] : Array Value) = #[.int .u8 ((mk o).k : Int), .int .i64 (mk o).a, .string (strOf (mk o).tx), .int .i32 (mk o).n] := by unfold mk; split <;> rfl
theorem wd_len10 (k : Nat) : (wd k).length ≤ maxLen := by unfold wd; split <;> (try split) <;> (unfold maxLen; decide)
end Go.Proofs.YtplcmcealeeppaaGreatDoor
/- The program: the tokens of trees with parts. -/
set_option linter.unusedVariables false
set_option linter.unusedSimpArgs false
namespace Go.Proofs.YtplcmcealeeppaaGreatDoor
open Go Go.RowKit L8 L10

set_option maxRecDepth 100000 in
set_option maxHeartbeats 16000000 in
theorem ax_6 (o : Nat) (h1 : 23 ≤ o) (h2 : o ≤ 26) (y : Ex) (ih : AoC y) : AxC (.mk 6 o 0 0 [] [y]) := by
  intro w0 w A B n c m d rs t R hm ok b oo hb
  obtain rfl : m = 1 := hm.symm
  have R1 : TrR w0 B d [y] := R
  obtain ⟨ad, rfl, oky, Cy, fy, Ry, Xy⟩ := R1.hd
  obtain ⟨qy, hqy⟩ : ∃ q, y.l.length = q := ⟨_, rfl⟩
  have hsz : szE (.mk 6 o 0 0 [] [y]) = 1 + szE y := by { simp only [szE, szL]; omega }
  have HV : Hid (ApS w0 w (.mk 6 o 0 0 [] [y]) (some ad) 1 d A (w.alloc (.cells #[.int .u8 6, .int .u8 (o : Int), .int .u8 0, .int .i32 0, .string ⟨#[]⟩, .slice (some ad) 1 d] 27)) A n c rs) := Lib.hid (ApS.new (m := 1) b oo t R)
  have HC : Hid (∀ (Y : World) (A' : Option Addr) (n' c' : Nat) (l : List Tk), ApS w0 w (.mk 6 o 0 0 [] [y]) (some ad) 1 d A Y A' n' c' l → (Y.cell? ⟨w.heap.size, 0, none⟩ = some (.int .u8 6) ∧ Y.cell? ⟨w.heap.size, 1, none⟩ = some (.int .u8 (o : Int)) ∧ Y.cell? ⟨w.heap.size, 2, none⟩ = some (.int .u8 0) ∧ Y.cell? ⟨w.heap.size, 3, none⟩ = some (.int .i32 0) ∧ Y.cell? ⟨w.heap.size, 4, none⟩ = some (.string ⟨#[]⟩) ∧ Y.cell? ⟨w.heap.size, 5, none⟩ = some (.slice (some ad) 1 d)) ∧ Y.cell? ⟨0, o, none⟩ = some (.string (strOf (opW o))) ∧ XC Y ad y Cy qy fy) := Lib.hid fun Y A' n' c' l h => ⟨h.cells, h.t10.op (by omega), XC.of Xy hqy h.bel⟩
  have HG : Hid (∀ (Z : World) (A2 : Option Addr) (q2 c2 : Nat) (kk : List Tk), ApS w0 w (.mk 6 o 0 0 [] [y]) (some ad) 1 d A Z A2 q2 c2 kk → rs ++ tkE (.mk 6 o 0 0 [] [y]) = kk → ApR w0 w A (rs ++ tkE (.mk 6 o 0 0 [] [y])) (.returned (.slice A2 q2 c2)) Z) := Lib.hid fun Z A2 q2 c2 kk h hk => h.gives hk
  have HT1 := Lib.hid (fun (Y : World) (A' : Option Addr) (n' c' : Nat) (l : List Tk) (h : ApS w0 w (.mk 6 o 0 0 [] [y]) (some ad) 1 d A Y A' n' c' l) => h.one t R (mk o) (okx_mk o) (cs := #[.int .u8 ((mk o).k : Int), .int .i64 0, .string (strOf (opW o)), .int .i32 0]) (mk_cs o))
  have CK := Lib.hid (fun (W : World) => Pmk o W)
  have HI := Lib.hid (fun (Y : World) (A' : Option Addr) (c' : Nat) (l : List Tk) (h : ApS w0 w (.mk 6 o 0 0 [] [y]) (some ad) 1 d A Y A' (n + 1) c' l) => (ih.at h t R Ry hqy oky (by omega)).mono fun en w' ⟨A2, c2, q2, h1, h2, h3⟩ => (⟨A2, c2, q2, h1, h2⟩ : ∃ A2 c2 q2, en = Ending.returned (.slice A2 q2 c2) ∧ ApS w0 w (.mk 6 o 0 0 [] [y]) (some ad) 1 d A w' A2 q2 c2 (l ++ opT y)))
  have HE := Lib.hid (show rs ++ tkE (.mk 6 o 0 0 [] [y]) = (rs ++ [mk o]) ++ opT y by rw [tk_6]; simp)
  have hn : n + 1 ≤ 1000000 := by omega
  have ho0 : (0 : Int) ≤ (o : Int) := by omega
  have ho27 : (o : Int) < 27 := by omega
  clear t R R1 ok b oo hb hsz oky Ry Xy hqy ih h1 h2
  generalize hP : ApR w0 w A (rs ++ tkE (.mk 6 o 0 0 [] [y])) = POST at *
  show Calls Tryz.prog 40 #[.slice A n c, .agg #[.int .u8 6, .int .u8 (o : Int), .int .u8 0, .int .i32 0, .string ⟨#[]⟩, .slice (some ad) 1 d]] w POST
  clear hP
  unfold XC at HC
  dsimp only [exV] at HI
  generalize strOf (opW o) = SW at *
  generalize (mk o).k = MK at *
  generalize strOf y.s = SY at *
  go_enter Tryz.func40, Tryz.ntmps40
  go_wp2
  generalize hV : w.alloc (.cells #[.int .u8 6, .int .u8 (o : Int), .int .u8 0, .int .i32 0, .string ⟨#[]⟩, .slice (some ad) 1 d] 27) = V at *
  clear hV
  have HV0 := HV
  replace HV := Lib.hid (show ApS w0 w (.mk 6 o 0 0 [] [y]) (some ad) 1 d A V.drew A n c rs from HV0.out.below (bdrew (b0 _) 1))
  obtain ⟨z1, z2⟩ := HC.out _ _ _ _ _ HV0.out
  obtain ⟨⟨a0_0, a0_1, a0_2, a0_3, a0_4, a0_5⟩, a1, ⟨a2_0, a2_1, a2_2, a2_3, a2_4, a2_5⟩⟩ := HC.out _ _ _ _ _ HV.out
  go_region_held3 (fun w' => (w'.cell? ⟨w.heap.size, 0, none⟩ = some (.int .u8 6) ∧ w'.cell? ⟨w.heap.size, 1, none⟩ = some (.int .u8 (o : Int)) ∧ w'.cell? ⟨w.heap.size, 2, none⟩ = some (.int .u8 0) ∧ w'.cell? ⟨w.heap.size, 3, none⟩ = some (.int .i32 0) ∧ w'.cell? ⟨w.heap.size, 4, none⟩ = some (.string ⟨#[]⟩) ∧ w'.cell? ⟨w.heap.size, 5, none⟩ = some (.slice (some ad) 1 d)) ∧ w'.cell? ⟨0, o, none⟩ = some (.string SW) ∧ (w'.cell? ad = some (.int .u8 (y.k : Int)) ∧ w'.cell? ⟨ad.block, ad.off + 1, none⟩ = some (.int .u8 (y.o : Int)) ∧ w'.cell? ⟨ad.block, ad.off + 2, none⟩ = some (.int .u8 (y.t : Int)) ∧ w'.cell? ⟨ad.block, ad.off + 3, none⟩ = some (.int .i32 y.n) ∧ w'.cell? ⟨ad.block, ad.off + 4, none⟩ = some (.string SY) ∧ w'.cell? ⟨ad.block, ad.off + 5, none⟩ = some (.slice Cy qy fy)))
    (first | (exact HC.out _ _ _ _ _ HV0.out) | (exact HC.out _ _ _ _ _ HV.out) | (exact HC.out _ _ _ _ _ H1.out) | (exact HC.out _ _ _ _ _ H1a.out) | (exact HC.out _ _ _ _ _ H3.out) | (exact HC.out _ _ _ _ _ H4.out) | go_keep)
    (first
    | (go_at_call 59; (with_reducible refine (CK.out _).mono ?_); rintro e1 W1 ⟨rfl, b⟩; have H1 := Lib.hid (HV.out.below b); clear b; have H1a := Lib.hid (H1.out.below (bal (b0 W1) (.cells #[.int .u8 (MK : Int), .int .i64 0, .string SW, .int .i32 0] 47))); have T1 := Lib.hid (HT1.out _ _ _ _ _ H1.out))
    | (refine step_rwsG rfl (.tmp 61) (.tmp 67) rfl w0.heap.size n c 1 1 (n + 1) A (some ⟨W1.heap.size, 0, none⟩) rs [mk o] rfl rfl T1.out.2.1 rfl (by decide) T1.out.1 rfl hn T1.out.2.2.1 ?_; intro A2 c2 W3 o2 g gr; have H3 := Lib.hid (T1.out.2.2.2 W3 A2 c2 o2 g gr); clear o2 g gr)
    | (go_at_call 61; (with_reducible refine (HI.out _ _ _ _ H3.out).mono ?_); rintro e1 W4 ⟨A4, c4, q4, rfl, h4⟩; have H4 := Lib.hid h4; clear h4))
  all_goals (first | exact HG.out _ _ _ _ _ H4.out HE.out | (go_ret; exact HG.out _ _ _ _ _ H4.out HE.out) | (go_wp2; first | exact HG.out _ _ _ _ _ H4.out HE.out | (go_ret; exact HG.out _ _ _ _ _ H4.out HE.out)))
end Go.Proofs.YtplcmcealeeppaaGreatDoor
