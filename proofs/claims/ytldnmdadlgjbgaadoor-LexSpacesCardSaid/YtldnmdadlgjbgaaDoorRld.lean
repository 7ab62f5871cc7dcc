/- The reference: which tokens are near, and equal lists of tokens. -/
import Derived.Test.YtldnmdadlgjbgaaDoorRlc
set_option linter.unusedVariables false
set_option linter.unusedSimpArgs false
namespace Go.Proofs.YtldnmdadlgjbgaaDoor
open Go Go.RowKit L8

theorem eq_lit (l k : Bs) : ((strOf l).toList == k) = decide (l = k) := by
  rw [toList_strOf]; by_cases h : l = k <;> simp [h]
theorem kind_is (k m : Nat) : ((k : Int) == (m : Int)) = decide (k = m) := by by_cases h : k = m <;> simp [h] <;> omega
theorem near_as (a b : Tk) {B5 b40 b91 A1 A5 a40 a91 b44 b59 b58 b41 b93 : Bool} (h1 : decide (b.k = 5) = B5) (h2 : decide (b.tx = [40]) = b40) (h3 : decide (b.tx = [91]) = b91) (h4 : decide (a.k = 1) = A1) (h5 : decide (a.k = 5) = A5) (h6 : decide (a.tx = [40]) = a40) (h7 : decide (a.tx = [91]) = a91)
    (h8 : decide (b.tx = [44]) = b44) (h9 : decide (b.tx = [59]) = b59) (h10 : decide (b.tx = [58]) = b58) (h11 : decide (b.tx = [41]) = b41) (h12 : decide (b.tx = [93]) = b93) :
    near a b = (((B5 && (b40 || b91)) && A1) || (A5 && (a40 || a91)) || (B5 && (b44 || b59 || b58 || b41 || b93))) := by
  unfold near opens closes
  rw [h1, h2, h3, h4, h5, h6, h7, h8, h9, h10, h11, h12]
end Go.Proofs.YtldnmdadlgjbgaaDoor
