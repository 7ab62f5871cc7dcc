/- The reference's two tables. -/
import Derived.Test.YtjdjkdgdbdenpaaGreatDoorM09
set_option linter.unusedVariables false
set_option linter.unusedSimpArgs false
namespace Go.Proofs.YtjdjkdgdbdenpaaGreatDoor
open Go Go.RowKit

/-- The cells of a row of the reference. -/
def row5 (p : Int × Int) : List Value := [.int .u8 p.1, .int .i32 p.2, .string (strOf (nm p.1 p.2)), .int .i64 (tk p.1 p.2), .int .i64 (lv p.1 p.2)]
theorem Functions_run (w : World) : Calls Tryz.prog 82 #[] w fun e w' => e = .returned (.slice (some ⟨w.heap.size, 0, none⟩) 13 13) ∧ w' = w.alloc (.cells ((upF 15).flatMap row5).toArray 120) :=
  calls_straight Tryz.func82 rfl (by kernel_rfl)
theorem Operations_run (w : World) : Calls Tryz.prog 83 #[] w fun e w' => e = .returned (.slice (some ⟨w.heap.size, 0, none⟩) 74 74) ∧ w' = w.alloc (.cells ((upO 90).flatMap row5).toArray 120) :=
  calls_straight Tryz.func83 rfl (by kernel_rfl)
end Go.Proofs.YtjdjkdgdbdenpaaGreatDoor
