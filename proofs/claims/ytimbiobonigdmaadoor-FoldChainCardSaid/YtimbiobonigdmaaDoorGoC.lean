/- The row's walk, as the card calls it. -/
import Derived.Test.YtimbiobonigdmaaDoorGot
import Derived.Test.YtimbiobonigdmaaDoorFch
set_option linter.unusedVariables false
set_option linter.unusedSimpArgs false
namespace Go.Proofs.YtimbiobonigdmaaDoor
open Go Go.RowKit L8 L10 L14

theorem rowFoldChain (a0 : Int) (w0 : (Lit.int .i32 a0).wf = true) (a1 : Int) (w1 : (Lit.int .u8 a1).wf = true) (w : World) (h : T10 w) : Calls Tryd.prog 7 #[.int .i32 a0, .int .u8 a1] w fun e w' => e = .returned (.bool true) ∧ Below w.heap.size w w' := by
  have ha := u8_wfX w1
  obtain ⟨k, rfl⟩ : ∃ k : Nat, a1 = (k : Int) := ⟨a1.toNat, by omega⟩
  exact walkFoldChain a0 (i32_wfX w0) k (by omega) w h
end Go.Proofs.YtimbiobonigdmaaDoor
