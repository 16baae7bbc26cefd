/- PairsRight: the law's own walk. -/
import Derived.Test.YtjanhebckonbaaaDoorAlive6
import Derived.Test.YtjanhebckonbaaaDoorRefRight
namespace Go.Proofs.YtjanhebckonbaaaDoor
open Go.RowKit Nums Pm
set_option maxRecDepth 100000

set_option maxHeartbeats 1000000 in
theorem right_walk (v : Value) (w : World) (ht : Tabs w) (l : List Pr) (h : PRow w v l) (hs : Sm l) (hl : l.length ≤ 9223372036854775807) :
    Calls Tryd.prog 3 #[v] w fun e w' => e = .returned (.bool true) ∧ Below w.heap.size w w' := by
  go_enter Tryd.func3, Tryd.ntmps3
  go_wp2_with fail
  refine (alive_any _ ht).mono ?_
  rintro e w1 ⟨rfl, hb1⟩
  go_wp2_with fail
  refine (Right_any w1 v l (h.below hb1) hl hs (ht.below hb1)).mono ?_
  rintro e w2 ⟨rfl, hb2⟩
  have B2 : Below w.heap.size w w2 := hb1.trans (hb2.mono hb1.size)
  go_wp2_with fail
  refine (refRight_any w2 v l (h.below B2) hl hs).mono ?_
  rintro e w3 ⟨rfl, hb3⟩
  have B3 : Below w.heap.size w w3 := B2.trans (hb3.mono B2.size)
  clear hb1 hb2 hb3 B2
  generalize rightP l = b at *
  cases b
  all_goals
    go_wp2
    go_ret
    exact ⟨rfl, B3⟩
end Go.Proofs.YtjanhebckonbaaaDoor
