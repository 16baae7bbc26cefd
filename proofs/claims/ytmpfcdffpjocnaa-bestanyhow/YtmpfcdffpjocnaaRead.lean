/- Cut: what the seat's translation lacks is left out. -/
/- letters.readRune: what it returns of any text that is not empty. -/
import Derived.Test.YtmpfcdffpjocnaaSmall
import Derived.Deep.QuietTactic
import Derived.BigQuiet
namespace Go.Proofs.Ytmpfcdffpjocnaa
open Go.RowKit Nums
set_option maxRecDepth 100000

end Go.Proofs.Ytmpfcdffpjocnaa
