/- Slices of a slice of strings, cut at a place. -/
import Derived.Test.YtkhmpmjonkmbeaaDoorSpr
set_option linter.unusedVariables false
set_option linter.unusedSimpArgs false
namespace Go.Proofs.YtkhmpmjonkmbeaaDoor
open Go Go.RowKit L7

theorem size_str (W : World) : (sizeOf (Tryd.prog.elem 41)).run Tryd.prog W = .ok 1 W := by kernel_rfl
theorem slice_to (g N j : Nat) (hj : j ≤ N) (W : World) : (Instr.slice 41 (.slice (some ⟨g, 0, none⟩) N N) none (some (.int .i64 (j : Int))) none).run Tryd.prog W = .ok (.slice (some ⟨g, 0, none⟩) j N) W := by
  rw [run_slice_h W 41 (some ⟨g, 0, none⟩) N N (by kernel_rfl) .i64 (j : Int) (by omega) (by omega), size_str]
  simp [Result.andThen, sliced, Addr.add]
theorem slice_from (g N j : Nat) (hj : j ≤ N) : ∃ D : Option Addr, (∀ W : World, (Instr.slice 41 (.slice (some ⟨g, 0, none⟩) N N) (some (.int .i64 (j : Int))) none none).run Tryd.prog W = .ok (.slice D (N - j) (N - j)) W) ∧
    ∀ (X : World) (ls : List Bs), ls.length = N → SS X (some ⟨g, 0, none⟩) N ls → SS X D (N - j) (ls.drop j) := by
  refine ⟨if N = j then some ⟨g, 0, none⟩ else some ⟨g, j, none⟩, fun W => ?_, fun X ls hl h => ?_⟩
  · rw [run_slice_l W 41 (some ⟨g, 0, none⟩) N N (by kernel_rfl) .i64 (j : Int) (by omega) (by omega), size_str]
    simp only [Result.andThen, sliced, Int.toNat_natCast, Nat.mul_one, Option.map_some, add_plain, Nat.zero_add]
  · by_cases e : N = j
    · rw [if_pos e, List.drop_eq_nil_iff.2 (by omega)]
      exact ⟨Nat.zero_le _, by have := h.mx; omega, (fun i hi => absurd hi (by simp))⟩
    · rw [if_neg e]
      exact h.drop j (by omega)
end Go.Proofs.YtkhmpmjonkmbeaaDoor
