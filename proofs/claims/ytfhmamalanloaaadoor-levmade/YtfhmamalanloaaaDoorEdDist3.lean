/- Cut: what the seat's translation lacks is left out. -/
/- edit.Distance. -/
import Derived.Test.YtfhmamalanloaaaDoorEdDist2
namespace Go.Proofs.YtfhmamalanloaaaDoor
open Go.RowKit Nums Ed
set_option maxRecDepth 100000

theorem dsV_none : dsV none = .tuple #[.int .i64 0, .bool false] := rfl
theorem dsV_some (n : Nat) : dsV (some n) = .tuple #[.int .i64 (n : Int), .bool true] := rfl

end Go.Proofs.YtfhmamalanloaaaDoor
