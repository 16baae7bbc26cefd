/- The reference's readers. -/
import Derived.Test.YtidnhldjnbpafaaMore
import Derived.Test.YtidnhldjnbpafaaRefNumber
import Derived.Handy
namespace Go.Proofs.Ytidnhldjnbpafaa
open Go.RowKit
set_option maxRecDepth 100000

abbrev rv (v : Value) (n : Nat) (e : Int) : Value := .agg #[v, .int .i64 (n : Int), .int .i64 e]

end Go.Proofs.Ytidnhldjnbpafaa
