/- Contracts of the loops of the reference of layer 1: shifting place by place. -/
import Derived.Test.YtldnmdadlgjbgaaDoorWr
set_option linter.unusedVariables false
set_option linter.unusedSimpArgs false
namespace Go.Proofs.YtldnmdadlgjbgaaDoor.W1
open Go Go.RowKit

theorem wrap32_twice (a : Int) (k : Nat) : wrap32 (2 * wrap32 (a * 2 ^ k)) = wrap32 (a * 2 ^ (k + 1)) := by
  rw [Int.pow_succ, ← Int.mul_assoc]
  generalize a * 2 ^ k = x
  unfold wrap32
  omega
theorem half_pow (x : Int) (k : Nat) : x / 2 ^ k / 2 = x / 2 ^ (k + 1) := by
  rw [Int.pow_succ, Int.ediv_ediv_of_nonneg (Int.pow_nonneg (by omega))]
theorem shr_bd (a : Int) (k : Nat) : 0 ≤ a % 4294967296 / 2 ^ k ∧ a % 4294967296 / 2 ^ k ≤ 4294967295 := by
  have h0 : 0 ≤ a % 4294967296 := by omega
  refine ⟨Int.ediv_nonneg h0 (Int.pow_nonneg (by omega)), ?_⟩
  have := Int.ediv_le_self (b := 2 ^ k) h0
  omega
end Go.Proofs.YtldnmdadlgjbgaaDoor.W1
