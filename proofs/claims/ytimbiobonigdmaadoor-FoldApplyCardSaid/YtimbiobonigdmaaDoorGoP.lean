/- The row's walk, as the card calls it. -/
import Derived.Test.YtimbiobonigdmaaDoorGot
import Derived.Test.YtimbiobonigdmaaDoorFpy
set_option linter.unusedVariables false
set_option linter.unusedSimpArgs false
namespace Go.Proofs.YtimbiobonigdmaaDoor
open Go Go.RowKit L8 L10 L14

theorem rowFoldApply (a0 : Int) (w0 : (Lit.int .u8 a0).wf = true) (a1 : Int) (w1 : (Lit.int .i32 a1).wf = true) (a2 : Int) (w2 : (Lit.int .i32 a2).wf = true) (w : World) (h : T10 w) : Calls Tryd.prog 3 #[.int .u8 a0, .int .i32 a1, .int .i32 a2] w fun e w' => e = .returned (.bool true) ∧ Below w.heap.size w w' := by
  have ha := u8_wfX w0
  obtain ⟨k, rfl⟩ : ∃ k : Nat, a0 = (k : Int) := ⟨a0.toNat, by omega⟩
  exact walkFoldApply k a1 a2 (i32_wfX w1) (i32_wfX w2) w h
end Go.Proofs.YtimbiobonigdmaaDoor
