/- PairsDiffers: the law's own walk. -/
import Derived.Test.YtjanhebckonbaaaDoorAlive6
import Derived.Test.YtjanhebckonbaaaDoorSameP
import Derived.Test.YtjanhebckonbaaaDoorDiffP
import Derived.Test.YtjanhebckonbaaaDoorRefDiff6
namespace Go.Proofs.YtjanhebckonbaaaDoor
open Go.RowKit Nums Pm
set_option maxRecDepth 100000

theorem dif_len : ∀ (a b : List Pr), (dif lessB a b).length ≤ a.length + b.length := by
  intro a b
  induction a, b using dif.induct (less := lessB) with
  | case1 y => rw [dif_nil]; simp
  | case2 x a ih => rw [dif_end]; simp
  | case3 x a y b c ih => rw [dif_cons, if_pos c]; simp at ih ⊢; omega
  | case4 x a y b c c2 ih => rw [dif_cons, if_neg c, if_pos c2]; simp at ih ⊢; omega
  | case5 x a y b c c2 c3 ih => rw [dif_cons, if_neg c, if_neg c2, if_pos c3]; simp at ih ⊢; omega
  | case6 x a y b c c2 c3 ih => rw [dif_cons, if_neg c, if_neg c2, if_neg c3]; simp at ih ⊢; omega
theorem diff_len {l m : List Pr} (hl : l.length ≤ 1048576) (hm : m.length ≤ 1048576) : (diff lessB l m).length ≤ 2097152 := by
  have h1 := dif_len (norm lessB l) (norm lessB m)
  have h2 := norm_len l
  have h3 := norm_len m
  show (dif _ _ _).length ≤ _
  omega
set_option maxHeartbeats 1000000 in
theorem differs_walk (u v : Value) (w : World) (ht : Tabs w) (l : List Pr) (h1 : PRow w u l) (hs1 : Sm l) (hl : l.length ≤ 1048576) (m : List Pr) (h2 : PRow w v m) (hs2 : Sm m) (hm : m.length ≤ 1048576) :
    Calls Tryd.prog 7 #[u, v] w fun e w' => e = .returned (.bool true) ∧ Below w.heap.size w w' := by
  have hlen : (diff lessB l m).length ≤ 2097152 := diff_len hl hm
  go_enter Tryd.func7, Tryd.ntmps7
  go_wp2_with fail
  refine (alive_any _ ht).mono ?_
  rintro e w1 ⟨rfl, hb1⟩
  go_wp2_with fail
  refine (Diff_any w1 u v l m (h1.below hb1) (h2.below hb1) (by omega) (by omega)).mono ?_
  rintro e w2 ⟨v2, rfl, ho2, hb2⟩
  have B2 : Below w.heap.size w w2 := hb1.trans (hb2.mono hb1.size)
  go_wp2_with fail
  refine (refDiff_any w2 u v l m (h1.below B2) (h2.below B2) (by omega) (by omega) hs1 hs2).mono ?_
  rintro e w3 ⟨v3, rfl, ho3, hb3⟩
  have B3 : Below w.heap.size w w3 := B2.trans (hb3.mono B2.size)
  go_wp2_with fail
  refine (same_any w3 v2 v3 _ _ (ho2.row.below hb3) ho3.row (by omega) (by omega)).mono ?_
  rintro e w4 ⟨rfl, q4, rfl⟩
  rw [decide_eq_true rfl]
  go_wp2
  go_ret
  exact ⟨rfl, belowN B3 q4⟩
end Go.Proofs.YtjanhebckonbaaaDoor
