/- Cut: what the seat's translation lacks is left out. -/
/- The small functions of letters and of its reference: what each of them returns. -/
import Derived.Test.YtmpfcdffpjocnaaRows
import Derived.Test.YtmpfcdffpjocnaaNums
import Derived.WalkKit
import Derived.ProofKit
import Derived.OpenShut
namespace Go.Proofs.Ytmpfcdffpjocnaa
open Go.RowKit Nums

end Go.Proofs.Ytmpfcdffpjocnaa
