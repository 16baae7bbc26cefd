/- Cut: what the seat's translation lacks is left out. -/
/- letters.size. -/
import Derived.Test.YtfhmamalanloaaaDoorRunes
namespace Go.Proofs.YtfhmamalanloaaaDoor
open Go.RowKit Nums
set_option maxRecDepth 100000

end Go.Proofs.YtfhmamalanloaaaDoor
