/- The reference: a variant by its tag, tokens that are made, equal tokens. -/
import Derived.Test.YtbkbhlbfkfnljaaDoorRtb
import Derived.Test.YtbkbhlbfkfnljaaDoorRlg
import Derived.Test.YtbkbhlbfkfnljaaDoorRle
set_option linter.unusedVariables false
set_option linter.unusedSimpArgs false
namespace Go.Proofs.YtbkbhlbfkfnljaaDoor
open Go Go.RowKit L8 L9

theorem rwV_eq9 (t : Tk) : rwV t = .agg #[.int .u8 (t.k : Int), .int .i64 t.a, .string (strOf t.tx), .int .i32 t.n] := rfl
theorem findR_at {c : Bool} {vs : List Vr} {tag : Bs} {k : Nat} (h : mayP c vs = true) (hk : k < vs.length) (ht : (vs.getD k v0).tag = tag) (hn : ∀ j, j < k → (vs.getD j v0).tag ≠ tag) : findR c vs tag = ((vs.getD k v0).it, k, true) := by
  unfold findR findP
  rw [if_pos h, idx_some.2 ⟨hk, ht, hn⟩]
theorem findR_none {c : Bool} {vs : List Vr} {tag : Bs} (hn : ∀ j, j < vs.length → (vs.getD j v0).tag ≠ tag) : findR c vs tag = ([], 0, false) := by
  unfold findR findP
  rw [idx_none.2 hn, ite_self]
/-- What Find gives, as letters. -/
def GivesF (w : World) (r : List Nat × Nat × Bool) (e : Ending) (w' : World) : Prop := ∃ B d, e = .returned (.tuple #[.slice B r.1.length d, .int .i64 (r.2.1 : Int), .bool r.2.2]) ∧ KR w' B d r.1 ∧ Below w.heap.size w w'
set_option maxRecDepth 100000 in
set_option maxHeartbeats 16000000 in
theorem RFind_any {c : Bool} {A : Option Addr} {n d : Nat} {vs : List Vr} {w : World} (R : VnR w A d vs) (hn : vs.length = n) (tag : Bs) : Calls Tryd.prog 28 #[prV c A n d, .string (strOf tag)] w (GivesF w (findR c vs tag)) := by
  have HN := Lib.hid hn
  have hmx : n ≤ maxLen := by have := R.le; have := R.mx; omega
  unfold maxLen at hmx
  have HV := Lib.hid (PrS.new (c := c) (n := n) R)
  have CM : Hid (∀ X, PrS w X c A n d vs → Calls Tryd.prog 14 #[.agg #[.bool c, .slice A n d]] X fun e w' => e = .returned (.bool (mayP c vs)) ∧ Below X.heap.size X w') := Lib.hid fun X h => RMayP_any h.2.2 hn
  have HNone := Lib.hid (fun (h : ∀ j, j < n → (vs.getD j v0).tag ≠ tag) => findR_none (c := c) (vs := vs) (tag := tag) (by rw [hn]; exact h))
  have HNot := Lib.hid (fun (h : mayP c vs = false) => findR_not h tag)
  have HAt := Lib.hid (fun (k : Nat) (h : mayP c vs = true) (hk : k < n) (ht : (vs.getD k v0).tag = tag) (hn2 : ∀ j, j < k → (vs.getD j v0).tag ≠ tag) => findR_at h (by omega) ht hn2)
  have HGive : Hid (∀ X, PrS w X c A n d vs → GivesF w ([], 0, false) (.returned (.tuple #[.slice none 0 0, .int .i64 0, .bool false])) X) := Lib.hid fun X h => ⟨none, 0, rfl, KR.nil X, h.1⟩
  have hEq := Lib.hid (fun (j : Nat) => eqS (vs.getD j v0).tag tag)
  dsimp only [prV]
  clear R hn
  generalize hS : strOf tag = S at *
  clear hS
  generalize hG : findR c vs tag = G at *
  generalize hM : mayP c vs = M at *
  clear hG
  go_enter Tryd.func28, Tryd.ntmps28
  go_wp2
  generalize w.alloc (.cells #[.bool c, .slice A n d] 27) = V at *
  go_loopw [7] (fun i wr => ∃ k : Nat, k ≤ n ∧ i = .int .i64 k ∧ Hid (PrS w wr c A n d vs ∧ ∀ j, j < k → (vs.getD j v0).tag ≠ tag)) (fun i _ => n - (intOf i).toNat)
  case atStart => exact ⟨0, Nat.zero_le _, rfl, Lib.hid ⟨HV.out, fun j hj => absurd hj (by omega)⟩⟩
  case round =>
    obtain ⟨k, hk, rfl, H⟩ := hrel
    have hk0 : (0 : Int) ≤ (k : Int) := by omega
    obtain ⟨p0, p1⟩ := H.out.1.box
    have HP := Lib.hid H.out.1
    by_cases hlt : (k : Int) < (n : Int)
    · have HW := Lib.hid (fun (X : World) (h : PrS w X c A n d vs) => h.at (k := k) (by have := HN.out; omega))
      cases M with
      | false =>
        have HE := Lib.hid (HNot.out rfl)
        have C := Lib.hid (CM.out _ HP.out)
        clear H HW
        go_wp2_with (go_at_call 14; (with_reducible refine (C.out).mono ?_); rintro e w2 ⟨rfl, b⟩; have H2 := Lib.hid (HP.out.step b); clear b)
        go_ret3
        rw [HE.out]
        exact HGive.out _ H2.out
      | true =>
        have C := Lib.hid (CM.out _ HP.out)
        have qs := hEq.out k
        by_cases heq : (vs.getD k v0).tag = tag
        · have HE := Lib.hid (HAt.out k rfl (by omega) heq H.out.2)
          rw [decide_eq_true heq] at qs
          clear heq H
          generalize vs.getD k v0 = v at *
          generalize strOf v.tag = S2 at *
          go_wp2_with (go_at_call 14; (with_reducible refine (C.out).mono ?_); rintro e w2 ⟨rfl, b⟩; have H2 := Lib.hid (HP.out.step b); obtain ⟨p2, p3⟩ := H2.out.box; obtain ⟨ad, e1, B, e2, m, hm, x0, x1, K⟩ := HW.out _ H2.out; cases e1; have HK := Lib.hid (And.intro hm K); clear b hm K)
          go_ret3
          rw [HE.out]
          refine ⟨_, _, ?_, HK.out.2, H2.out.bel⟩
          dsimp only
          rw [HK.out.1]
          rfl
        · have HY := Lib.hid (show ∀ j, j < k + 1 → (vs.getD j v0).tag ≠ tag from fun j hj => if h : j < k then H.out.2 j h else by rw [show j = k by omega]; exact heq)
          rw [decide_eq_false heq] at qs
          clear heq H
          generalize vs.getD k v0 = v at *
          generalize strOf v.tag = S2 at *
          go_wp2_with (go_at_call 14; (with_reducible refine (C.out).mono ?_); rintro e w2 ⟨rfl, b⟩; have H2 := Lib.hid (And.intro (HP.out.step b) HY.out); obtain ⟨p2, p3⟩ := H2.out.1.box; obtain ⟨ad, e1, B, e2, m, hm, x0, x1, K⟩ := HW.out _ H2.out.1; cases e1; clear b hm K)
          go_roundw
          case rel => exact ⟨k + 1, by omega, by go_num, H2⟩
          case measure => simp [intOf]; omega
    · obtain rfl : k = n := by omega
      have HE := Lib.hid (HNone.out H.out.2)
      clear H
      go_wp2
      go_ret3
      rw [HE.out]
      exact HGive.out _ HP.out
/-! ### Tokens that are made -/
set_option maxRecDepth 100000 in
theorem Rkey_any (s : ByteArray) (w : World) : Calls Tryd.prog 42 #[.string s] w fun e w' => e = .returned (.agg #[.int .u8 2, .int .i64 0, .string s, .int .i32 0]) ∧ Below w.heap.size w w' := by
  have HX := Lib.hid (boxS_new w 57 #[.int .u8 0, .int .i64 0, .string ⟨#[]⟩, .int .i32 0])
  go_enter Tryd.func42, Tryd.ntmps42
  go_wp2
  first
  | (go_ret
     exact ⟨rfl, bal (b0 w) _⟩)
  | (refine bodyPost_ret (v := .agg #[.int .u8 2, .int .i64 0, .string s, .int .i32 0]) (by simp [results, Tryd.results42, go_sem]) rfl ⟨rfl, bal (b0 w) _⟩)
set_option maxRecDepth 100000 in
theorem Rsym_any (s : ByteArray) (w : World) : Calls Tryd.prog 41 #[.string s] w fun e w' => e = .returned (.agg #[.int .u8 5, .int .i64 0, .string s, .int .i32 0]) ∧ Below w.heap.size w w' := by
  have HX := Lib.hid (boxS_new w 57 #[.int .u8 0, .int .i64 0, .string ⟨#[]⟩, .int .i32 0])
  go_enter Tryd.func41, Tryd.ntmps41
  go_wp2
  first
  | (go_ret
     exact ⟨rfl, bal (b0 w) _⟩)
  | (refine bodyPost_ret (v := .agg #[.int .u8 5, .int .i64 0, .string s, .int .i32 0]) (by simp [results, Tryd.results41, go_sem]) rfl ⟨rfl, bal (b0 w) _⟩)
set_option maxRecDepth 100000 in
set_option maxHeartbeats 4000000 in
theorem RWord_any (k : Nat) (w : World) : Calls Tryd.prog 43 #[.int .u8 (k : Int)] w fun e w' => e = .returned (.agg #[.int .u8 2, .int .i64 0, .string (strOf (wd k)), .int .i32 0]) ∧ Below w.heap.size w w' := by
  have HX := Lib.hid (boxS_new w 57 #[.int .u8 0, .int .i64 0, .string ⟨#[]⟩, .int .i32 0])
  have HV := Lib.hid (bal (b0 w) (.cells #[.int .u8 0, .int .i64 0, .string ⟨#[]⟩, .int .i32 0] 57))
  have C := Lib.hid (fun (s : ByteArray) (W : World) => Rkey_any s W)
  have q1 : ((k : Int) == 1) = decide (k = 1) := nat_eq k 1
  have q2 : ((k : Int) == 2) = decide (k = 2) := nat_eq k 2
  have hw : wd k = if decide (k = 1) = true then wInt else if decide (k = 2) = true then wByte else wBool := by
    unfold wd
    by_cases h1 : k = 1 <;> by_cases h2 : k = 2 <;> simp [h1, h2]
  rw [hw]
  clear hw
  generalize decide (k = 1) = b1 at *
  generalize decide (k = 2) = b2 at *
  cases b1 <;> cases b2
  · go_enter Tryd.func43, Tryd.ntmps43
    go_wp2_with (go_at_call 42; (with_reducible refine (C.out _ _).mono ?_); rintro e w2 ⟨rfl, b⟩; have HB := Lib.hid (And.intro (blw HV.out b) (HX.out.below b)); clear b; obtain ⟨⟨x0, x1, x2, x3⟩, xl⟩ := box4 HB.out.2; obtain ⟨f0, f1, f2, f3⟩ := box4f HB.out.2)
    have HF := Lib.hid (And.intro (box4_all (.int .u8 2) (.int .i64 0) (.string ⟨#[66, 79, 79, 76]⟩) (.int .i32 0) HB.out.2) (bset4 HB.out.1 (Nat.le_refl _) (.int .u8 2) (.int .i64 0) (.string ⟨#[66, 79, 79, 76]⟩) (.int .i32 0)))
    unfold set4 at HF
    clear x0 x1 x2 x3 f0 f1 f2 f3 HB
    generalize (((w2.setCell ⟨w.heap.size, 0, none⟩ (.int .u8 2)).setCell ⟨w.heap.size, 1, none⟩ (.int .i64 0)).setCell ⟨w.heap.size, 2, none⟩ (.string ⟨#[66, 79, 79, 76]⟩)).setCell ⟨w.heap.size, 3, none⟩ (.int .i32 0) = W5 at *
    obtain ⟨⟨y0, y1, y2, y3⟩, yl⟩ := box4 HF.out.1
    refine bodyPost_ret (v := .agg #[.int .u8 2, .int .i64 0, .string ⟨#[66, 79, 79, 76]⟩, .int .i32 0]) (by simp [results, Tryd.results43, go_sem, y0, y1, y2, y3]) rfl ⟨rfl, HF.out.2⟩
  · go_enter Tryd.func43, Tryd.ntmps43
    go_wp2_with (go_at_call 42; (with_reducible refine (C.out _ _).mono ?_); rintro e w2 ⟨rfl, b⟩; have HB := Lib.hid (And.intro (blw HV.out b) (HX.out.below b)); clear b; obtain ⟨⟨x0, x1, x2, x3⟩, xl⟩ := box4 HB.out.2; obtain ⟨f0, f1, f2, f3⟩ := box4f HB.out.2)
    have HF := Lib.hid (And.intro (box4_all (.int .u8 2) (.int .i64 0) (.string ⟨#[66, 89, 84, 69]⟩) (.int .i32 0) HB.out.2) (bset4 HB.out.1 (Nat.le_refl _) (.int .u8 2) (.int .i64 0) (.string ⟨#[66, 89, 84, 69]⟩) (.int .i32 0)))
    unfold set4 at HF
    clear x0 x1 x2 x3 f0 f1 f2 f3 HB
    generalize (((w2.setCell ⟨w.heap.size, 0, none⟩ (.int .u8 2)).setCell ⟨w.heap.size, 1, none⟩ (.int .i64 0)).setCell ⟨w.heap.size, 2, none⟩ (.string ⟨#[66, 89, 84, 69]⟩)).setCell ⟨w.heap.size, 3, none⟩ (.int .i32 0) = W5 at *
    obtain ⟨⟨y0, y1, y2, y3⟩, yl⟩ := box4 HF.out.1
    refine bodyPost_ret (v := .agg #[.int .u8 2, .int .i64 0, .string ⟨#[66, 89, 84, 69]⟩, .int .i32 0]) (by simp [results, Tryd.results43, go_sem, y0, y1, y2, y3]) rfl ⟨rfl, HF.out.2⟩
  · go_enter Tryd.func43, Tryd.ntmps43
    go_wp2_with (go_at_call 42; (with_reducible refine (C.out _ _).mono ?_); rintro e w2 ⟨rfl, b⟩; have HB := Lib.hid (And.intro (blw HV.out b) (HX.out.below b)); clear b; obtain ⟨⟨x0, x1, x2, x3⟩, xl⟩ := box4 HB.out.2; obtain ⟨f0, f1, f2, f3⟩ := box4f HB.out.2)
    have HF := Lib.hid (And.intro (box4_all (.int .u8 2) (.int .i64 0) (.string ⟨#[73, 78, 84]⟩) (.int .i32 0) HB.out.2) (bset4 HB.out.1 (Nat.le_refl _) (.int .u8 2) (.int .i64 0) (.string ⟨#[73, 78, 84]⟩) (.int .i32 0)))
    unfold set4 at HF
    clear x0 x1 x2 x3 f0 f1 f2 f3 HB
    generalize (((w2.setCell ⟨w.heap.size, 0, none⟩ (.int .u8 2)).setCell ⟨w.heap.size, 1, none⟩ (.int .i64 0)).setCell ⟨w.heap.size, 2, none⟩ (.string ⟨#[73, 78, 84]⟩)).setCell ⟨w.heap.size, 3, none⟩ (.int .i32 0) = W5 at *
    obtain ⟨⟨y0, y1, y2, y3⟩, yl⟩ := box4 HF.out.1
    refine bodyPost_ret (v := .agg #[.int .u8 2, .int .i64 0, .string ⟨#[73, 78, 84]⟩, .int .i32 0]) (by simp [results, Tryd.results43, go_sem, y0, y1, y2, y3]) rfl ⟨rfl, HF.out.2⟩
  · go_enter Tryd.func43, Tryd.ntmps43
    go_wp2_with (go_at_call 42; (with_reducible refine (C.out _ _).mono ?_); rintro e w2 ⟨rfl, b⟩; have HB := Lib.hid (And.intro (blw HV.out b) (HX.out.below b)); clear b; obtain ⟨⟨x0, x1, x2, x3⟩, xl⟩ := box4 HB.out.2; obtain ⟨f0, f1, f2, f3⟩ := box4f HB.out.2)
    have HF := Lib.hid (And.intro (box4_all (.int .u8 2) (.int .i64 0) (.string ⟨#[73, 78, 84]⟩) (.int .i32 0) HB.out.2) (bset4 HB.out.1 (Nat.le_refl _) (.int .u8 2) (.int .i64 0) (.string ⟨#[73, 78, 84]⟩) (.int .i32 0)))
    unfold set4 at HF
    clear x0 x1 x2 x3 f0 f1 f2 f3 HB
    generalize (((w2.setCell ⟨w.heap.size, 0, none⟩ (.int .u8 2)).setCell ⟨w.heap.size, 1, none⟩ (.int .i64 0)).setCell ⟨w.heap.size, 2, none⟩ (.string ⟨#[73, 78, 84]⟩)).setCell ⟨w.heap.size, 3, none⟩ (.int .i32 0) = W5 at *
    obtain ⟨⟨y0, y1, y2, y3⟩, yl⟩ := box4 HF.out.1
    refine bodyPost_ret (v := .agg #[.int .u8 2, .int .i64 0, .string ⟨#[73, 78, 84]⟩, .int .i32 0]) (by simp [results, Tryd.results43, go_sem, y0, y1, y2, y3]) rfl ⟨rfl, HF.out.2⟩
/-! ### Equal tokens -/
set_option maxRecDepth 100000 in
theorem eq_tk (x y : Tk) (w : World) : (Op.equalIn 10000 57 (rwV x) (rwV y)).run Tryd.prog w = .ok (decide (x = y)) w := by
  obtain ⟨k, a, tx, n⟩ := x
  obtain ⟨k', a', tx', n'⟩ := y
  dsimp only [rwV]
  have es := eqS tx tx'
  have ek := nat_eq k k'
  have hd : decide ((⟨k, a, tx, n⟩ : Tk) = ⟨k', a', tx', n'⟩) = (decide (k = k') && (decide (a = a') && (decide (tx = tx') && decide (n = n')))) := by
    simp
  rw [hd]
  generalize strOf tx = S at *
  generalize strOf tx' = S' at *
  have u1 := Tryd.underlying55
  have a1 := Tryd.isAgg55
  have z1 := Tryd.sizeOf55
  have u2 := Tryd.underlying3
  have a2 := Tryd.isAgg3
  have z2 := Tryd.sizeOf3
  have u3 := Tryd.underlying9
  have a3 := Tryd.isAgg9
  have z3 := Tryd.sizeOf9
  have u4 := Tryd.underlying21
  have a4 := Tryd.isAgg21
  have z4 := Tryd.sizeOf21
  have hS : Tryd.prog.underlying 57 = some (.struct (Tryd.prog.fieldsOf 57)) := by kernel_rfl
  have hp : Tryd.prog.stoodInHeld 57 = false := by kernel_rfl
  rw [show (10000 : Nat) = 9999 + 1 from rfl, run_equalIn_agg w 9999 57 _ _ hS hp]
  simp only [Program.fieldsOf, Tryd.underlying57]
  go_simp
  by_cases h1 : k = k' <;> by_cases h2 : a = a' <;> by_cases h3 : tx = tx' <;> by_cases h4 : n = n' <;> simp [h1, h2, h3, h4]
theorem guard_tk : Tryd.prog.eqGuardType Tryd.prog.depth 57 = false := by kernel_rfl
theorem neq_tk (x y : Tk) (w : World) : (binOp .neq 57 (rwV x) (rwV y)).run Tryd.prog w = .ok (.bool (!decide (x = y))) w := by
  have h := eq_tk x y w
  rw [rwV_eq9, rwV_eq9] at h ⊢
  rw [run_neq_struct, h]; rfl
theorem tk_ext {a b : List Tk} (hl : a.length = b.length) (h : ∀ j, j < a.length → a.getD j r0 = b.getD j r0) : a = b := by
  apply List.ext_getElem?
  intro i
  by_cases hi : i < a.length
  · have := h i hi
    have e1 : a[i]? = some (a.getD i r0) := by simp [hi]
    have e2 : b[i]? = some (b.getD i r0) := by simp [show i < b.length by omega]
    rw [e1, e2, this]
  · rw [List.getElem?_eq_none (by omega), List.getElem?_eq_none (by omega)]
set_option maxRecDepth 100000 in
set_option maxHeartbeats 8000000 in
theorem RSameT_any {A B : Option Addr} {c d m n : Nat} {xs ys : List Tk} {w : World} (R : RR w A c xs) (S : RR w B d ys) (hm : xs.length = m) (hn : ys.length = n) : Calls Tryd.prog 20 #[.slice A m c, .slice B n d] w fun e w' => e = .returned (.bool (decide (xs = ys))) ∧ Below w.heap.size w w' := by
  have HR := Lib.hid R
  have HS := Lib.hid S
  have hmx : m ≤ maxLen := by have := R.le; have := R.mx; omega
  unfold maxLen at hmx
  by_cases hl : m = n
  · subst hl
    have HM := Lib.hid hm
    have HN := Lib.hid hn
    clear R S hm hn
    go_enter Tryd.func20, Tryd.ntmps20
    go_wp2
    go_loopw [5] (fun i wr => ∃ k : Nat, k ≤ m ∧ i = .int .i64 k ∧ Hid (Below w.heap.size w wr ∧ ∀ j, j < k → xs.getD j r0 = ys.getD j r0)) (fun i _ => m - (intOf i).toNat)
    case atStart => exact ⟨0, Nat.zero_le _, rfl, Lib.hid ⟨b0 w, fun j hj => absurd hj (by omega)⟩⟩
    case round =>
      obtain ⟨k, hk, rfl, H⟩ := hrel
      by_cases hlt : (k : Int) < (m : Int)
      · obtain ⟨ad, rfl, c0, c1, c2, c3⟩ := (HR.out.keep H.out.1).rd k (by have := HM.out; omega)
        obtain ⟨ad2, rfl, e0, e1, e2, e3⟩ := (HS.out.keep H.out.1).rd k (by have := HN.out; omega)
        have hk0 : (0 : Int) ≤ (k : Int) := by omega
        have hn := fun W => neq_tk (xs.getD k r0) (ys.getD k r0) W
        have hg := fun (x y : Operand) W => run_eqGuard_agg (P := Tryd.prog) W .neq 57 x y #[.int .u8 ((xs.getD k r0).k : Int), .int .i64 (xs.getD k r0).a, .string (strOf (xs.getD k r0).tx), .int .i32 (xs.getD k r0).n] #[.int .u8 ((ys.getD k r0).k : Int), .int .i64 (ys.getD k r0).a, .string (strOf (ys.getD k r0).tx), .int .i32 (ys.getD k r0).n] guard_tk
        rw [rwV_eq9, rwV_eq9] at hn
        by_cases hv : xs.getD k r0 = ys.getD k r0
        · have HY := Lib.hid (show ∀ j, j < k + 1 → xs.getD j r0 = ys.getD j r0 from fun j hj => if h : j < k then H.out.2 j h else by rw [show j = k by omega]; exact hv)
          have HB := Lib.hid (fun n => And.intro (bdrew H.out.1 n) HY.out)
          rw [decide_eq_true hv] at hn
          clear hv H
          generalize xs.getD k r0 = a at *
          generalize ys.getD k r0 = b at *
          obtain ⟨ak, aa, at_, an⟩ := a
          obtain ⟨bk, ba, bt, bn⟩ := b
          dsimp only at *
          generalize Value.int .u8 (ak : Int) = V0 at *
          generalize Value.int .i64 aa = V1 at *
          generalize Value.string (strOf at_) = V2 at *
          generalize Value.int .i32 an = V3 at *
          generalize Value.int .u8 (bk : Int) = U0 at *
          generalize Value.int .i64 ba = U1 at *
          generalize Value.string (strOf bt) = U2 at *
          generalize Value.int .i32 bn = U3 at *
          go_wp2
          go_quiet (fail)
          have HE := Lib.hid (HB.out nq)
          clear HB HY c0 c1 c2 c3 e0 e1 e2 e3
          generalize wr.drewN nq = W at *
          go_wp2
          go_roundw
          case rel => exact ⟨k + 1, by omega, by go_num, HE⟩
          case measure => simp [intOf]; omega
        · have HY := Lib.hid (show decide (xs = ys) = false from decide_eq_false (fun e => hv (by rw [e])))
          have HB := Lib.hid (fun n => bdrew H.out.1 n)
          rw [decide_eq_false hv] at hn
          clear hv H
          generalize xs.getD k r0 = a at *
          generalize ys.getD k r0 = b at *
          obtain ⟨ak, aa, at_, an⟩ := a
          obtain ⟨bk, ba, bt, bn⟩ := b
          dsimp only at *
          generalize Value.int .u8 (ak : Int) = V0 at *
          generalize Value.int .i64 aa = V1 at *
          generalize Value.string (strOf at_) = V2 at *
          generalize Value.int .i32 an = V3 at *
          generalize Value.int .u8 (bk : Int) = U0 at *
          generalize Value.int .i64 ba = U1 at *
          generalize Value.string (strOf bt) = U2 at *
          generalize Value.int .i32 bn = U3 at *
          go_wp2
          go_quiet (fail)
          have HE := Lib.hid (HB.out nq)
          clear HB c0 c1 c2 c3 e0 e1 e2 e3
          generalize wr.drewN nq = W at *
          go_wp2
          go_ret
          rw [HY.out]
          exact ⟨rfl, HE.out⟩
      · obtain rfl : k = m := by omega
        have HY := Lib.hid (show decide (xs = ys) = true from decide_eq_true (tk_ext (HM.out.trans HN.out.symm) (by rw [HM.out]; exact H.out.2)))
        go_wp2
        go_ret
        rw [HY.out]
        exact ⟨rfl, H.out.1⟩
  · have HY := Lib.hid (show decide (xs = ys) = false from decide_eq_false (fun e => hl (by rw [← hm, ← hn, e])))
    have q : ((m : Int) != (n : Int)) = true := by simp; omega
    clear hm hn hl R S
    go_enter Tryd.func20, Tryd.ntmps20
    go_wp2
    go_ret
    rw [HY.out]
    exact ⟨rfl, b0 w⟩
end Go.Proofs.YtbkbhlbfkfnljaaDoor
