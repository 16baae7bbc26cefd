/- bits.Len, off the shelf. -/
import Derived.Shelf.Lay
import Derived.Shelf.Small.Bits
import Derived.Ground.Names2Prog
import Derived.Sort.LotD1
import Derived.Test.YtpmmpdkeahmdiaaDisk
namespace Go.Proofs.Ytpmmpdkeahmdiaa
open Go.RowKit Go.Shelf
set_option maxRecDepth 100000
shelf_lay Lays.n125 Nm 125 at Try as lays125
theorem bits_Len (x : Int) (w : World) (h0 : 0 ≤ x) (h1 : x ≤ 18446744073709551615) :
    Calls Try.prog 90 #[.int .u64 x] w fun e w' => e = .returned (.int .i64 (Lib.bitLen x.toNat)) ∧ w' = w := Any.bits_Len lays125 x w h0 h1
end Go.Proofs.Ytpmmpdkeahmdiaa
