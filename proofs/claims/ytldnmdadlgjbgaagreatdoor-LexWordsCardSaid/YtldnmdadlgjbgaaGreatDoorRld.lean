/- The reference: which tokens are near, and equal lists of tokens. -/
import Derived.Test.YtldnmdadlgjbgaaGreatDoorRlc
set_option linter.unusedVariables false
set_option linter.unusedSimpArgs false
namespace Go.Proofs.YtldnmdadlgjbgaaGreatDoor
open Go Go.RowKit L8

theorem eq_lit (l k : Bs) : ((strOf l).toList == k) = decide (l = k) := by
  rw [toList_strOf]; by_cases h : l = k <;> simp [h]
theorem kind_is (k m : Nat) : ((k : Int) == (m : Int)) = decide (k = m) := by by_cases h : k = m <;> simp [h] <;> omega
theorem near_as (a b : Tk) {B5 b40 b91 A1 A5 a40 a91 b44 b59 b58 b41 b93 : Bool} (h1 : decide (b.k = 5) = B5) (h2 : decide (b.tx = [40]) = b40) (h3 : decide (b.tx = [91]) = b91) (h4 : decide (a.k = 1) = A1) (h5 : decide (a.k = 5) = A5) (h6 : decide (a.tx = [40]) = a40) (h7 : decide (a.tx = [91]) = a91)
    (h8 : decide (b.tx = [44]) = b44) (h9 : decide (b.tx = [59]) = b59) (h10 : decide (b.tx = [58]) = b58) (h11 : decide (b.tx = [41]) = b41) (h12 : decide (b.tx = [93]) = b93) :
    near a b = (((B5 && (b40 || b91)) && A1) || (A5 && (a40 || a91)) || (B5 && (b44 || b59 || b58 || b41 || b93))) := by
  unfold near opens closes
  rw [h1, h2, h3, h4, h5, h6, h7, h8, h9, h10, h11, h12]
set_option maxRecDepth 100000 in
set_option maxHeartbeats 8000000 in
theorem Rnear_any (a b : Tk) (w : World) : Calls Tryz.prog 43 #[rwV a, rwV b] w fun e w' => e = .returned (.bool (near a b)) ∧ Below w.heap.size w w' := by
  obtain ⟨ka, aa, ta, na⟩ := a
  obtain ⟨kb, ab, tb, nb⟩ := b
  rw [near_as ⟨ka, aa, ta, na⟩ ⟨kb, ab, tb, nb⟩ rfl rfl rfl rfl rfl rfl rfl rfl rfl rfl rfl rfl]
  dsimp only [rwV]
  have e1 := kind_is kb 5
  have e2 := kind_is ka 1
  have e3 := kind_is ka 5
  have s1 := eq_lit tb [40]
  have s2 := eq_lit tb [91]
  have s3 := eq_lit ta [40]
  have s4 := eq_lit ta [91]
  have s5 := eq_lit tb [44]
  have s6 := eq_lit tb [59]
  have s7 := eq_lit tb [58]
  have s8 := eq_lit tb [41]
  have s9 := eq_lit tb [93]
  have e1' : ((kb : Int) == 5) = decide (kb = 5) := e1
  have e2' : ((ka : Int) == 1) = decide (ka = 1) := e2
  have e3' : ((ka : Int) == 5) = decide (ka = 5) := e3
  clear e1 e2 e3
  generalize decide (kb = 5) = B5 at *
  generalize decide (ka = 1) = A1 at *
  generalize decide (ka = 5) = A5 at *
  generalize decide (tb = [40]) = b40 at *
  generalize decide (tb = [91]) = b91 at *
  generalize decide (ta = [40]) = a40 at *
  generalize decide (ta = [91]) = a91 at *
  generalize decide (tb = [44]) = b44 at *
  generalize decide (tb = [59]) = b59 at *
  generalize decide (tb = [58]) = b58 at *
  generalize decide (tb = [41]) = b41 at *
  generalize decide (tb = [93]) = b93 at *
  have bV := Lib.hid (bal (bal (b0 w) (.cells #[.int .u8 (ka : Int), .int .i64 aa, .string (strOf ta), .int .i32 na] 26)) (.cells #[.int .u8 (kb : Int), .int .i64 ab, .string (strOf tb), .int .i32 nb] 26))
  generalize strOf ta = TA at *
  generalize strOf tb = TB at *
  cases B5 <;> cases A5 <;> cases A1
  all_goals
    go_enter Tryz.func43, Tryz.ntmps43
    go_wp2
    all_goals (
      go_ret
      exact ⟨ret_b (by simp_all), bV.out⟩)
end Go.Proofs.YtldnmdadlgjbgaaGreatDoor
