/- The reference's two tables. -/
import Derived.Test.YtlockfoidhndeaaDoorRun
namespace Go.Proofs.YtlockfoidhndeaaDoor
open Go Go.RowKit

/-- The cells of a row of the reference. -/
def row5 (p : Int × Int) : List Value := [.int .u8 p.1, .int .i32 p.2, .string (strOf (nm p.1 p.2)), .int .i64 (tk p.1 p.2), .int .i64 (lv p.1 p.2)]
theorem Functions_run (w : World) : Calls Tryd.prog 28 #[] w fun e w' => e = .returned (.slice (some ⟨w.heap.size, 0, none⟩) 13 13) ∧ w' = w.alloc (.cells ((upF 15).flatMap row5).toArray 25) :=
  calls_straight Tryd.func28 rfl (by kernel_rfl)
theorem Operations_run (w : World) : Calls Tryd.prog 29 #[] w fun e w' => e = .returned (.slice (some ⟨w.heap.size, 0, none⟩) 74 74) ∧ w' = w.alloc (.cells ((upO 90).flatMap row5).toArray 25) :=
  calls_straight Tryd.func29 rfl (by kernel_rfl)
end Go.Proofs.YtlockfoidhndeaaDoor
