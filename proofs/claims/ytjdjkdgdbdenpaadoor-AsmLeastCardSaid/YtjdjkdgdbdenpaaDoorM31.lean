/- The reference's text of lines. -/
import Derived.Test.YtjdjkdgdbdenpaaDoorM30
import Derived.Test.YtjdjkdgdbdenpaaDoorM19
set_option linter.unusedVariables false
set_option linter.unusedSimpArgs false
namespace Go.Proofs.YtjdjkdgdbdenpaaDoor
open Go Go.RowKit

end Go.Proofs.YtjdjkdgdbdenpaaDoor
