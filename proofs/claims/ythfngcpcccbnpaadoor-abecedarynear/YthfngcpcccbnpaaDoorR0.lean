/- Texts that were written apart, joined. -/
import Derived.Test.YthfngcpcccbnpaaDoorPBase
import Derived.Test.YthfngcpcccbnpaaDoorGh
import Derived.Deep.QuietTactic
import Derived.BigQuiet
import Derived.Test.YthfngcpcccbnpaaDoorJ6
/- What makes a list a dictionary: plain mathematics over rows. -/
namespace Go.Proofs.YthfngcpcccbnpaaDoor
open Go.RowKit Nums Pm
set_option maxRecDepth 100000

def oneOk (x : Pr) : Bool := wordB x.1.data.toList && (decide (1 ≤ x.2) && decide (x.2 ≤ 1048576))
def rightFrom (p : Option Pr) : List Pr → Bool
  | [] => true
  | x :: r => oneOk x && (prevOk p x && rightFrom (some x) r)
/-- Is it a dictionary? -/
def rightP (l : List Pr) : Bool := decide (l.length ≤ 4096) && rightFrom none l
end Go.Proofs.YthfngcpcccbnpaaDoor
