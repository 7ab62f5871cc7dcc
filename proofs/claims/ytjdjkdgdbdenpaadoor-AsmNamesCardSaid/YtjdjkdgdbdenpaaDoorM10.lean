/- The reference's two tables. -/
import Derived.Test.YtjdjkdgdbdenpaaDoorM09
set_option linter.unusedVariables false
set_option linter.unusedSimpArgs false
namespace Go.Proofs.YtjdjkdgdbdenpaaDoor
open Go Go.RowKit

/-- The cells of a row of the reference. -/
def row5 (p : Int × Int) : List Value := [.int .u8 p.1, .int .i32 p.2, .string (strOf (nm p.1 p.2)), .int .i64 (tk p.1 p.2), .int .i64 (lv p.1 p.2)]
end Go.Proofs.YtjdjkdgdbdenpaaDoor
