/- The reference: equal lists of tokens. -/
import Derived.Test.YtbkbhlbfkfnljaaDoorRlc
set_option linter.unusedVariables false
set_option linter.unusedSimpArgs false
namespace Go.Proofs.YtbkbhlbfkfnljaaDoor
open Go Go.RowKit L8

theorem kern_get {xs : List Tk} {j : Nat} (h : j < xs.length) : (kern xs)[j]? = some ((xs.getD j r0).k, (xs.getD j r0).tx, (xs.getD j r0).n) := by simp [kern, h]
theorem kern_ext {xs ys : List Tk} (hl : xs.length = ys.length) (h : ∀ j, j < xs.length → (xs.getD j r0).k = (ys.getD j r0).k ∧ (xs.getD j r0).tx = (ys.getD j r0).tx ∧ (xs.getD j r0).n = (ys.getD j r0).n) : kern xs = kern ys := by
  apply List.ext_getElem?
  intro i
  by_cases hi : i < xs.length
  · obtain ⟨h1, h2, h3⟩ := h i hi
    rw [kern_get hi, kern_get (by omega), h1, h2, h3]
  · rw [List.getElem?_eq_none (by simp [kern]; omega), List.getElem?_eq_none (by simp [kern]; omega)]
theorem int_neq (a b : Int) : (a != b) = !decide (a = b) := by by_cases h : a = b <;> simp [h]
theorem nat_neq (a b : Nat) : ((a : Int) != (b : Int)) = !decide (a = b) := by by_cases h : a = b <;> simp [h] <;> omega
end Go.Proofs.YtbkbhlbfkfnljaaDoor
