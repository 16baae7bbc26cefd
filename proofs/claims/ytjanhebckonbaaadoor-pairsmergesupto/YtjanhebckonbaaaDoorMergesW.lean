/- PairsMerges: the law's own walk. -/
import Derived.Test.YtjanhebckonbaaaDoorAlive6
import Derived.Test.YtjanhebckonbaaaDoorSameP
import Derived.Test.YtjanhebckonbaaaDoorRefMerge6
namespace Go.Proofs.YtjanhebckonbaaaDoor
open Go.RowKit Nums Pm
set_option maxRecDepth 100000

set_option maxHeartbeats 1000000 in
theorem merges_walk (u v : Value) (w : World) (ht : Tabs w) (l : List Pr) (h1 : PRow w u l) (hs1 : Sm l) (hl : l.length ≤ 1048576) (m : List Pr) (h2 : PRow w v m) (hs2 : Sm m) (hm : m.length ≤ 1048576) :
    Calls Tryd.prog 6 #[u, v] w fun e w' => e = .returned (.bool true) ∧ Below w.heap.size w w' := by
  have hlen : (merge lessB l m).length ≤ 2097152 := by have h1 := keep_len (norm lessB (l ++ m)); have h2 := norm_len (l ++ m); simp only [List.length_append] at h2; show (keep _).length ≤ _; omega
  go_enter Tryd.func6, Tryd.ntmps6
  go_wp2_with fail
  refine (alive_any _ ht).mono ?_
  rintro e w1 ⟨rfl, hb1⟩
  go_wp2_with fail
  refine (Merge_any w1 u v l m (h1.below hb1) (h2.below hb1) (by omega) (by omega)).mono ?_
  rintro e w2 ⟨v2, rfl, ho2, hb2⟩
  have B2 : Below w.heap.size w w2 := hb1.trans (hb2.mono hb1.size)
  go_wp2_with fail
  refine (refMerge_any w2 u v l m (h1.below B2) (h2.below B2) (by omega) (by omega) hs1 hs2).mono ?_
  rintro e w3 ⟨v3, rfl, ho3, hb3⟩
  have B3 : Below w.heap.size w w3 := B2.trans (hb3.mono B2.size)
  go_wp2_with fail
  refine (same_any w3 v2 v3 _ _ (ho2.row.below hb3) ho3.row (by omega) (by omega)).mono ?_
  rintro e w4 ⟨rfl, q4, rfl⟩
  rw [decide_eq_true rfl]
  go_wp2
  go_ret
  exact ⟨rfl, belowN B3 q4⟩
end Go.Proofs.YtjanhebckonbaaaDoor
