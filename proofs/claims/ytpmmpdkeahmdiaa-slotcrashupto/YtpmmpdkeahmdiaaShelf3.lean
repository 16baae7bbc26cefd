/- slices.Grow and slices.Compact at uint64, off the shelf. -/
import Derived.Shelf.Lay
import Derived.Shelf.Spec.SlicesGrow
import Derived.Shelf.SlicesE.Compact
import Derived.Ground.SlgnProg
import Derived.Test.YtpmmpdkeahmdiaaSrtUAll
import Derived.Test.YtpmmpdkeahmdiaaSrtUItr1
namespace Go.Proofs.Ytpmmpdkeahmdiaa
open Go.RowKit Go.Shelf
set_option maxRecDepth 100000
shelf_lay_g Lays8.n4 Nm8 4 at Try 87 as growU
shelf_lay_g SlLaysE.n43 Slgn 43 at Try 72 as compactU
end Go.Proofs.Ytpmmpdkeahmdiaa
