/- PairsTwice: the law's own walk. -/
import Derived.Test.YtjanhebckonbaaaDoorAlive6
import Derived.Test.YtjanhebckonbaaaDoorSameP
import Derived.Test.YtjanhebckonbaaaDoorRefMerge6
namespace Go.Proofs.YtjanhebckonbaaaDoor
open Go.RowKit Nums Pm
set_option maxRecDepth 100000

theorem merge_len (l m : List Pr) : (merge lessB l m).length ≤ l.length + m.length := by
  have h1 := keep_len (norm lessB (l ++ m))
  have h2 := norm_len (l ++ m)
  rw [List.length_append] at h2
  show (keep _).length ≤ _
  omega
set_option maxHeartbeats 2000000 in
theorem twice_walk (u v x : Value) (w : World) (ht : Tabs w) (l : List Pr) (h1 : PRow w u l) (_ : Sm l) (hl : l.length ≤ 1048576) (m : List Pr) (h2 : PRow w v m) (_ : Sm m) (hm : m.length ≤ 1048576) (k : List Pr) (h3 : PRow w x k) (_ : Sm k) (hk : k.length ≤ 1048576) :
    Calls Tryd.prog 9 #[u, v, x] w fun e w' => e = .returned (.bool true) ∧ Below w.heap.size w w' := by
  have HR : Hid (∀ W, Below w.heap.size w W → PRow W u l ∧ PRow W v m ∧ PRow W x k ∧ Tabs W) := fun W hW => ⟨h1.below hW, h2.below hW, h3.below hW, ht.below hW⟩
  have HW1 : Hid (POwn w.heap.size (w.alloc (.cells #[] 32)) (.slice (some ⟨w.heap.size, 0, none⟩) 0 0) [] ∧ Below w.heap.size w (w.alloc (.cells #[] 32))) := ⟨POwn.empty w, (Below.refl _ w).alloc (Nat.le_refl _) _⟩
  have HM : Hid (merge lessB (merge lessB l m) k = merge lessB l (m ++ k)) := merge_merge lessB_sto l m k
  have HML : Hid ((merge lessB l m).length ≤ 2097152 ∧ (merge lessB l (m ++ k)).length ≤ 3145728) := by
    have a := merge_len l m
    have b := merge_len l (m ++ k)
    rw [List.length_append] at b
    exact ⟨by omega, by omega⟩
  clear h1 h2 h3 ht
  go_enter Tryd.func9, Tryd.ntmps9
  go_wp2_with (at_builtin; refine append_p (by rfl) _ _ rfl w.heap.size _ _ [] m rfl HW1.out.1 rfl (HR.out _ HW1.out.2).2.1 (by simp; omega) HW1.out.2.size ?_)
  intro v1 w1 hr1 hb1 _
  have HO1 : Hid (POwn w.heap.size w1 v1 m ∧ Below w.heap.size w w1) := ⟨hr1, HW1.out.2.trans hb1⟩
  clear hr1 hb1 HW1
  go_wp2_with (at_builtin; refine append_p (by rfl) _ _ rfl w.heap.size _ _ m k rfl HO1.out.1 rfl (HR.out _ HO1.out.2).2.2.1 (by omega) HO1.out.2.size ?_)
  intro v2 w2 hr2 hb2 _
  have HO2 : Hid (POwn w.heap.size w2 v2 (m ++ k) ∧ Below w.heap.size w w2) := ⟨hr2, HO1.out.2.trans hb2⟩
  clear hr2 hb2 HO1
  go_wp2_with fail
  refine (alive_any _ (HR.out _ HO2.out.2).2.2.2).mono ?_
  rintro e w3 ⟨rfl, hb3⟩
  have C3 : Below w2.heap.size w2 w3 := hb3
  have B3 : Below w.heap.size w w3 := HO2.out.2.trans (hb3.mono HO2.out.2.size)
  go_wp2_with fail
  refine (Merge_any w3 u v l m (HR.out _ B3).1 (HR.out _ B3).2.1 (by omega) (by omega)).mono ?_
  rintro e w4 ⟨v4, rfl, ho4, hb4⟩
  have B4 : Below w.heap.size w w4 := B3.trans (hb4.mono B3.size)
  have C4 : Below w2.heap.size w2 w4 := C3.trans (hb4.mono C3.size)
  go_wp2_with fail
  refine (Merge_any w4 v4 x _ k ho4.row (HR.out _ B4).2.2.1 (by have := HML.out; omega) (by omega)).mono ?_
  rintro e w5 ⟨v5, rfl, ho5, hb5⟩
  have B5 : Below w.heap.size w w5 := B4.trans (hb5.mono B4.size)
  have C5 : Below w2.heap.size w2 w5 := C4.trans (hb5.mono C4.size)
  go_wp2_with fail
  refine (Merge_any w5 u v2 l (m ++ k) (HR.out _ B5).1 (HO2.out.1.row.below C5) (by omega) (by rw [List.length_append]; omega)).mono ?_
  rintro e w6 ⟨v6, rfl, ho6, hb6⟩
  have B6 : Below w.heap.size w w6 := B5.trans (hb6.mono B5.size)
  rw [HM.out] at ho5
  go_wp2_with fail
  refine (same_any w6 v5 v6 _ _ (ho5.row.below hb6) ho6.row (by have := HML.out; omega) (by have := HML.out; omega)).mono ?_
  rintro e w7 ⟨rfl, q7, rfl⟩
  rw [decide_eq_true rfl]
  go_wp2
  go_ret
  exact ⟨rfl, belowN B6 q7⟩
end Go.Proofs.YtjanhebckonbaaaDoor
