/- PairsNorm: the law's own walk. -/
import Derived.Test.YtjanhebckonbaaaDoorAlive6
import Derived.Test.YtjanhebckonbaaaDoorSameP
namespace Go.Proofs.YtjanhebckonbaaaDoor
open Go.RowKit Nums Pm
set_option maxRecDepth 100000

set_option maxHeartbeats 1000000 in
theorem norm_walk (v : Value) (w : World) (ht : Tabs w) (l : List Pr) (h : PRow w v l) (hs : Sm l) (hl : l.length ≤ 1048576) :
    Calls Tryd.prog 4 #[v] w fun e w' => e = .returned (.bool true) ∧ Below w.heap.size w w' := by
  have hnl := norm_len l
  have hsame := norm_same lessB_sto (norm_up lessB_sto l)
  go_enter Tryd.func4, Tryd.ntmps4
  go_wp2_with fail
  refine (Norm_any w v l h (by omega)).mono ?_
  rintro e w1 ⟨v1, rfl, ho1, hb1⟩
  go_wp2_with fail
  refine (alive_any _ (ht.below hb1)).mono ?_
  rintro e w2 ⟨rfl, hb2⟩
  have B2 : Below w.heap.size w w2 := hb1.trans (hb2.mono hb1.size)
  go_wp2_with fail
  refine (refNorm_any w2 v l (h.below B2) (by omega) hs).mono ?_
  rintro e w3 ⟨v3, rfl, ho3, hb3⟩
  have C3 : Below w1.heap.size w1 w3 := hb2.trans (hb3.mono hb2.size)
  have B3 : Below w.heap.size w w3 := B2.trans (hb3.mono B2.size)
  go_wp2_with fail
  refine (same_any w3 v1 v3 _ _ (ho1.row.below C3) ho3.row (by omega) (by omega)).mono ?_
  rintro e w4 ⟨rfl, q4, rfl⟩
  rw [decide_eq_true rfl]
  have hr1 := ho1.row.below (belowN C3 q4)
  go_wp2_with fail
  refine (Norm_any _ v1 _ hr1 (by omega)).mono ?_
  rintro e w5 ⟨v5, rfl, ho5, hb5⟩
  have B5 : Below w.heap.size w w5 := (belowN B3 q4).trans (hb5.mono (belowN B3 q4).size)
  have C5 : PRow w5 v1 (norm lessB l) := hr1.below hb5
  rw [hsame] at ho5
  go_wp2_with fail
  refine (same_any w5 v5 v1 _ _ ho5.row C5 (by omega) (by omega)).mono ?_
  rintro e w6 ⟨rfl, q6, rfl⟩
  rw [decide_eq_true rfl]
  go_wp2
  go_ret
  exact ⟨rfl, belowN B5 q6⟩
end Go.Proofs.YtjanhebckonbaaaDoor
