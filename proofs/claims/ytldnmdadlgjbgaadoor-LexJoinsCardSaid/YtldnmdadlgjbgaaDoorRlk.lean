/- The reference: the text of a token. -/
import Derived.Test.YtldnmdadlgjbgaaDoorRlj
import Derived.Test.YtldnmdadlgjbgaaDoorRlc
import Derived.Test.YtldnmdadlgjbgaaDoorLxe
import Derived.Test.YtldnmdadlgjbgaaDoorWd
set_option linter.unusedVariables false
set_option linter.unusedSimpArgs false
namespace Go.Proofs.YtldnmdadlgjbgaaDoor
open Go Go.RowKit L8

theorem one_num {k : Nat} {a n : Int} {tx : Bs} (h : k = 3) : one ⟨k, a, tx, n⟩ = textL n (decide (n < 0)) := by unfold one; rw [if_pos h]
theorem one_byte {k : Nat} {a n : Int} {tx : Bs} (h : k = 4) : one ⟨k, a, tx, n⟩ = 39 :: (shown n ++ [39]) := by unfold one; dsimp only; rw [if_neg (by omega), if_pos h]
theorem one_text {k : Nat} {a n : Int} {tx : Bs} (h3 : k ≠ 3) (h4 : k ≠ 4) : one ⟨k, a, tx, n⟩ = tx := by unfold one; dsimp only; rw [if_neg h3, if_neg h4]
end Go.Proofs.YtldnmdadlgjbgaaDoor
