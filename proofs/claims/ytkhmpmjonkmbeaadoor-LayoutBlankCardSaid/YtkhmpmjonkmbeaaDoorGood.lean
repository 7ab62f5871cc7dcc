/- What the shape gives. -/
import Derived.Test.YtkhmpmjonkmbeaaDoorLbx
import Derived.Test.YtkhmpmjonkmbeaaDoorRows
import Derived.Lib.LaidTab
import Derived.Stop.LaidErr
import Derived.LaidMore
import Derived.Shelf.LaysM
set_option linter.unusedVariables false
set_option linter.unusedSimpArgs false
namespace Go.Proofs.YtkhmpmjonkmbeaaDoor
open Go Go.RowKit

theorem max_of_shape {w : World} (h : w.ShapedOpen Tryd.prog) : MaxIs w :=
  Go.Proofs.cell_of_shapedOpen_int (zero := #[.int .i64 0]) (t := 3) h (of_decide_eq_true (by kernel_rfl)) (by kernel_rfl) rfl (by kernel_rfl) (by kernel_rfl) Tryd.underlying3
end Go.Proofs.YtkhmpmjonkmbeaaDoor
