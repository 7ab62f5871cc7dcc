/- The reference's tokens that exist, and which are near. -/
import Derived.Test.YtbkbhlbfkfnljaaDoorRlb
set_option linter.unusedVariables false
set_option linter.unusedSimpArgs false
namespace Go.Proofs.YtbkbhlbfkfnljaaDoor
open Go Go.RowKit L8

theorem may_low {t : Tk} (h : t.a < 0) : may t = false := by unfold may; rw [decide_eq_false (show ¬ 0 ≤ t.a by omega)]; rfl
theorem may_high {t : Tk} (h : 255 < t.a) : may t = false := by unfold may; rw [decide_eq_false (show ¬ t.a ≤ 255 by omega)]; simp
theorem may_1 {a n : Int} {tx : Bs} (h1 : 0 ≤ a) (h2 : a ≤ 255) : may ⟨1, a, tx, n⟩ = (isName tx && decide (n = 0)) := by
  unfold may; dsimp only; rw [decide_eq_true h1, decide_eq_true h2, Bool.true_and, Bool.true_and]; rfl
theorem may_2 {a n : Int} {tx : Bs} (h1 : 0 ≤ a) (h2 : a ≤ 255) : may ⟨2, a, tx, n⟩ = (isKey tx && decide (n = 0)) := by
  unfold may; dsimp only; rw [decide_eq_true h1, decide_eq_true h2, Bool.true_and, Bool.true_and]; rfl
theorem may_3 {a n : Int} {tx : Bs} (h1 : 0 ≤ a) (h2 : a ≤ 255) : may ⟨3, a, tx, n⟩ = tx.isEmpty := by
  unfold may; dsimp only; rw [decide_eq_true h1, decide_eq_true h2, Bool.true_and, Bool.true_and]; rfl
theorem may_4 {a n : Int} {tx : Bs} (h1 : 0 ≤ a) (h2 : a ≤ 255) : may ⟨4, a, tx, n⟩ = (tx.isEmpty && decide (0 ≤ n) && decide (n ≤ 255)) := by
  unfold may; dsimp only; rw [decide_eq_true h1, decide_eq_true h2, Bool.true_and, Bool.true_and]; rfl
theorem may_5 {a n : Int} {tx : Bs} (h1 : 0 ≤ a) (h2 : a ≤ 255) : may ⟨5, a, tx, n⟩ = (isSym tx && decide (n = 0)) := by
  unfold may; dsimp only; rw [decide_eq_true h1, decide_eq_true h2, Bool.true_and, Bool.true_and]; rfl
theorem may_oth {t : Tk} (h : t.k ≠ 1 ∧ t.k ≠ 2 ∧ t.k ≠ 3 ∧ t.k ≠ 4 ∧ t.k ≠ 5) : may t = false := by
  cases hm : may t with
  | false => rfl
  | true => obtain ⟨_, _, hp⟩ := may_parts hm; omega
theorem int_eq0 (n : Int) : (n == 0) = decide (n = 0) := by by_cases h : n = 0 <;> simp [h]
theorem eq_nil (l : Bs) : ((strOf l).toList == []) = l.isEmpty := by
  rw [toList_strOf]; cases l <;> rfl
end Go.Proofs.YtbkbhlbfkfnljaaDoor
