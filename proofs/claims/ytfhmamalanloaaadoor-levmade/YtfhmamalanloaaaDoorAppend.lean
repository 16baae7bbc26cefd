/- Cut: what the seat's translation lacks is left out. -/
/- letters.appendRune: the writing of a rune, laid behind the bytes that are there. -/
import Derived.Test.YtfhmamalanloaaaDoorSizeS
namespace Go.Proofs.YtfhmamalanloaaaDoor
open Go.RowKit Nums
set_option maxRecDepth 100000

theorem infoByte : (Tryd.prog.info? 5).map (fun i => (i.zero, i.size, i.bytes)) = some (some (.int .u8 0), 1, 1) := by kernel_rfl
/-- A slice of bytes that the call has made owns the numbers xs. -/
def Bytes (B : Nat) (w : World) (v : Value) (xs : List Int) : Prop := w.ownsRow B 5 1 v xs.length (xs.map (Value.int .u8))

end Go.Proofs.YtfhmamalanloaaaDoor
