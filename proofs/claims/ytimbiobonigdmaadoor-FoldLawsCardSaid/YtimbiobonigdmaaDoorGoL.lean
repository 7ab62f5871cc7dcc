/- The row's walk, as the card calls it. -/
import Derived.Test.YtimbiobonigdmaaDoorGot
import Derived.Test.YtimbiobonigdmaaDoorFlb
set_option linter.unusedVariables false
set_option linter.unusedSimpArgs false
namespace Go.Proofs.YtimbiobonigdmaaDoor
open Go Go.RowKit L8 L10 L14

theorem rowFoldLaws (a0 : Int) (w0 : (Lit.int .i32 a0).wf = true) (a1 : Int) (w1 : (Lit.int .i32 a1).wf = true) (w : World) (h : T10 w) : Calls Tryd.prog 6 #[.int .i32 a0, .int .i32 a1] w fun e w' => e = .returned (.bool true) ∧ Below w.heap.size w w' := walkFoldLaws a0 a1 (i32_wfX w0) (i32_wfX w1) w h
end Go.Proofs.YtimbiobonigdmaaDoor
