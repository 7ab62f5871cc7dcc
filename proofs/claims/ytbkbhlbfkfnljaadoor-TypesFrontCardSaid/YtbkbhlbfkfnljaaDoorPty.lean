/- The program's contracts, gathered: PMay_any, PFits_any, PSize_any, PWords_any, PSame_any (Ptb), PMayP_any, PFind_any (Ptc), PTok_any (Ptd), PFront_any (Ptf). -/
import Derived.Test.YtbkbhlbfkfnljaaDoorPtf
namespace Go.Proofs.YtbkbhlbfkfnljaaDoor
end Go.Proofs.YtbkbhlbfkfnljaaDoor
