/- Cut: what the seat's translation lacks is left out. -/
/- find: an arc by its label. -/
import Derived.Test.YthfngcpcccbnpaaDoorJ15
import Derived.Test.YthfngcpcccbnpaaDoorG1
import Derived.Test.YthfngcpcccbnpaaDoorWkC
namespace Go.Proofs.YthfngcpcccbnpaaDoor
open Go.RowKit Nums Fm Pk Pm
set_option maxRecDepth 100000

/-- The arc with a label. -/
def fa (l : List RArc) (c : Int) : Option RArc := l.find? fun a => a.label == c
end Go.Proofs.YthfngcpcccbnpaaDoor
