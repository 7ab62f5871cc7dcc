/- The reference's tokens that exist, and which are near. -/
import Derived.Test.YtldnmdadlgjbgaaGreatDoorRlb
set_option linter.unusedVariables false
set_option linter.unusedSimpArgs false
namespace Go.Proofs.YtldnmdadlgjbgaaGreatDoor
open Go Go.RowKit L8

theorem may_low {t : Tk} (h : t.a < 0) : may t = false := by unfold may; rw [decide_eq_false (show ¬ 0 ≤ t.a by omega)]; rfl
theorem may_high {t : Tk} (h : 255 < t.a) : may t = false := by unfold may; rw [decide_eq_false (show ¬ t.a ≤ 255 by omega)]; simp
theorem may_1 {a n : Int} {tx : Bs} (h1 : 0 ≤ a) (h2 : a ≤ 255) : may ⟨1, a, tx, n⟩ = (isName tx && decide (n = 0)) := by
  unfold may; dsimp only; rw [decide_eq_true h1, decide_eq_true h2, Bool.true_and, Bool.true_and]; rfl
theorem may_2 {a n : Int} {tx : Bs} (h1 : 0 ≤ a) (h2 : a ≤ 255) : may ⟨2, a, tx, n⟩ = (isKey tx && decide (n = 0)) := by
  unfold may; dsimp only; rw [decide_eq_true h1, decide_eq_true h2, Bool.true_and, Bool.true_and]; rfl
theorem may_3 {a n : Int} {tx : Bs} (h1 : 0 ≤ a) (h2 : a ≤ 255) : may ⟨3, a, tx, n⟩ = tx.isEmpty := by
  unfold may; dsimp only; rw [decide_eq_true h1, decide_eq_true h2, Bool.true_and, Bool.true_and]; rfl
theorem may_4 {a n : Int} {tx : Bs} (h1 : 0 ≤ a) (h2 : a ≤ 255) : may ⟨4, a, tx, n⟩ = (tx.isEmpty && decide (0 ≤ n) && decide (n ≤ 255)) := by
  unfold may; dsimp only; rw [decide_eq_true h1, decide_eq_true h2, Bool.true_and, Bool.true_and]; rfl
theorem may_5 {a n : Int} {tx : Bs} (h1 : 0 ≤ a) (h2 : a ≤ 255) : may ⟨5, a, tx, n⟩ = (isSym tx && decide (n = 0)) := by
  unfold may; dsimp only; rw [decide_eq_true h1, decide_eq_true h2, Bool.true_and, Bool.true_and]; rfl
theorem may_oth {t : Tk} (h : t.k ≠ 1 ∧ t.k ≠ 2 ∧ t.k ≠ 3 ∧ t.k ≠ 4 ∧ t.k ≠ 5) : may t = false := by
  cases hm : may t with
  | false => rfl
  | true => obtain ⟨_, _, hp⟩ := may_parts hm; omega
theorem int_eq0 (n : Int) : (n == 0) = decide (n = 0) := by by_cases h : n = 0 <;> simp [h]
theorem eq_nil (l : Bs) : ((strOf l).toList == []) = l.isEmpty := by
  rw [toList_strOf]; cases l <;> rfl
set_option maxRecDepth 100000 in
set_option maxHeartbeats 8000000 in
theorem RMay_any (t : Tk) (hx : OKx t) (w : World) : Calls Tryz.prog 13 #[rwV t] w fun e w' => e = .returned (.bool (may t)) ∧ Below w.heap.size w w' := by
  obtain ⟨k, a, tx, n⟩ := t
  have hl := hx.1
  dsimp only at hl
  have hk256 : (k : Int) < 256 := by have := hx.2.1; dsimp only at this; omega
  have hk0 : (0 : Int) ≤ (k : Int) := by omega
  have bx := Lib.hid (boxS_new w 26 #[.int .u8 (k : Int), .int .i64 a, .string (strOf tx), .int .i32 n])
  have bV := Lib.hid (bal (b0 w) (.cells #[.int .u8 (k : Int), .int .i64 a, .string (strOf tx), .int .i32 n] 26))
  have CN := Lib.hid (fun (W : World) => RName_any tx hl W)
  have CK := Lib.hid (fun (W : World) => RKey_any tx W)
  have CS := Lib.hid (fun (W : World) => RSymbol_any tx W)
  have he := eq_nil tx
  have q0 := int_eq0 n
  clear hx hl
  dsimp only [rwV]
  by_cases ha : a < 0
  · rw [may_low (t := ⟨k, a, tx, n⟩) ha]
    go_enter Tryz.func13, Tryz.ntmps13
    go_wp2
    go_ret
    exact ⟨rfl, bV.out⟩
  by_cases ha2 : 255 < a
  · rw [may_high (t := ⟨k, a, tx, n⟩) ha2]
    go_enter Tryz.func13, Tryz.ntmps13
    go_wp2
    go_ret
    exact ⟨rfl, bV.out⟩
  rcases (show k = 1 ∨ k = 2 ∨ k = 3 ∨ k = 4 ∨ k = 5 ∨ (k ≠ 1 ∧ k ≠ 2 ∧ k ≠ 3 ∧ k ≠ 4 ∧ k ≠ 5) by omega) with rfl | rfl | rfl | rfl | rfl | ⟨n1, n2, n3, n4, n5⟩
  · rw [may_1 (by omega) (by omega)]
    generalize decide (n = 0) = b0' at *
    cases hb : isName tx <;> rw [hb] at CN
    all_goals
      clear hb CK CS he
      cases b0'
      all_goals
        go_enter Tryz.func13, Tryz.ntmps13
        go_wp2_with (go_at_call 8; (with_reducible refine (CN.out _).mono ?_); rintro e w2 ⟨rfl, b2⟩; have B2 := Lib.hid (blw bV.out b2); have X2 := Lib.hid (bx.out.below b2); clear b2; obtain ⟨⟨x0, x1, x2, x3⟩, _⟩ := box4 X2.out)
        go_ret
        exact ⟨rfl, B2.out⟩
  · rw [may_2 (by omega) (by omega)]
    generalize decide (n = 0) = b0' at *
    cases hb : isKey tx <;> rw [hb] at CK
    all_goals
      clear hb CN CS he
      cases b0'
      all_goals
        go_enter Tryz.func13, Tryz.ntmps13
        go_wp2_with (go_at_call 10; (with_reducible refine (CK.out _).mono ?_); rintro e w2 ⟨rfl, b2⟩; have B2 := Lib.hid (blw bV.out b2); have X2 := Lib.hid (bx.out.below b2); clear b2; obtain ⟨⟨x0, x1, x2, x3⟩, _⟩ := box4 X2.out)
        go_ret
        exact ⟨rfl, B2.out⟩
  · rw [may_3 (by omega) (by omega)]
    generalize tx.isEmpty = b1 at *
    clear CN CK CS q0
    cases b1
    all_goals
      go_enter Tryz.func13, Tryz.ntmps13
      go_wp2
      go_ret
      exact ⟨rfl, bV.out⟩
  · rw [may_4 (by omega) (by omega)]
    generalize tx.isEmpty = b1 at *
    clear CN CK CS q0
    by_cases g1 : (0 : Int) ≤ n <;> by_cases g2 : n ≤ 255
    all_goals first
      | (exfalso; omega)
      | (simp only [g1, g2, decide_true, decide_false, Bool.and_true, Bool.and_false]
         cases b1
         all_goals
           go_enter Tryz.func13, Tryz.ntmps13
           go_wp2
           go_ret
           exact ⟨rfl, bV.out⟩)
  · rw [may_5 (by omega) (by omega)]
    generalize decide (n = 0) = b0' at *
    cases hb : isSym tx <;> rw [hb] at CS
    all_goals
      clear hb CN CK he
      cases b0'
      all_goals
        go_enter Tryz.func13, Tryz.ntmps13
        go_wp2_with (go_at_call 33; (with_reducible refine (CS.out _).mono ?_); rintro e w2 ⟨rfl, b2⟩; have B2 := Lib.hid (blw bV.out b2); have X2 := Lib.hid (bx.out.below b2); clear b2; obtain ⟨⟨x0, x1, x2, x3⟩, _⟩ := box4 X2.out)
        go_ret
        exact ⟨rfl, B2.out⟩
  · have e1 : ((k : Int) == 1) = false := by simp; omega
    have e2 : ((k : Int) == 2) = false := by simp; omega
    have e3 : ((k : Int) == 3) = false := by simp; omega
    have e4 : ((k : Int) == 4) = false := by simp; omega
    have e5 : ((k : Int) == 5) = false := by simp; omega
    have hm2 := Lib.hid (may_oth (t := ⟨k, a, tx, n⟩) ⟨n1, n2, n3, n4, n5⟩)
    clear n1 n2 n3 n4 n5
    have key : ∀ (b : Bool), b = false → (Calls Tryz.prog 13 #[.agg #[.int .u8 (k : Int), .int .i64 a, .string (strOf tx), .int .i32 n]] w fun e w' => e = .returned (.bool b) ∧ Below w.heap.size w w') := by
      rintro b rfl
      go_enter Tryz.func13, Tryz.ntmps13
      go_wp2
      go_ret
      exact ⟨rfl, bV.out⟩
    exact key _ hm2.out
end Go.Proofs.YtldnmdadlgjbgaaGreatDoor
