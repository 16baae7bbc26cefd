/- PairsLeads: the law's own walk. -/
import Derived.Test.YtjanhebckonbaaaDoorAlive6
import Derived.Test.YtjanhebckonbaaaDoorSameP
import Derived.Test.YtjanhebckonbaaaDoorDiffP
import Derived.Test.YtjanhebckonbaaaDoorDiffersW
namespace Go.Proofs.YtjanhebckonbaaaDoor
open Go.RowKit Nums Pm
set_option maxRecDepth 100000

set_option maxHeartbeats 2000000 in
theorem leads_walk (u v : Value) (w : World) (ht : Tabs w) (l : List Pr) (h1 : PRow w u l) (_ : Sm l) (hl : l.length ≤ 1048576) (m : List Pr) (h2 : PRow w v m) (hs2 : Sm m) (hm : m.length ≤ 1048576) :
    Calls Tryd.prog 8 #[u, v] w fun e w' => e = .returned (.bool true) ∧ Below w.heap.size w w' := by
  have hdl := diff_len hl hm
  have hnl := norm_len m
  obtain ⟨X, hX⟩ : ∃ X, X = norm lessB m := ⟨_, rfl⟩
  have HX : Hid (X = norm lessB m) := hX
  have HXL : Hid (X.length ≤ 1048576) := by show _ ≤ _; rw [hX]; omega
  have HR : Hid (∀ W, Below w.heap.size w W → PRow W u l ∧ PRow W v m ∧ Tabs W) := fun W hW => ⟨h1.below hW, h2.below hW, ht.below hW⟩
  have hn := refNorm_any w v m h2 (by omega) hs2
  rw [← hX] at hn
  have HDL : Hid ((diff lessB l m).length ≤ 2097152) := hdl
  clear hX h1 h2 ht hdl
  go_enter Tryd.func8, Tryd.ntmps8
  go_wp2_with fail
  refine hn.mono ?_
  rintro e w1 ⟨v1, rfl, ho1, hb1⟩
  have HB1 : Hid (Below w.heap.size w w1) := hb1
  obtain ⟨ad, cap, rfl⟩ := ho1.shape
  have HR1 : Hid (PRow w1 (.slice ad X.length cap) X) := ho1.row
  obtain ⟨n, hnn⟩ : ∃ n, X.length = n := ⟨_, rfl⟩
  have HN : Hid (X.length = n) := hnn
  rw [hnn] at HR1 HXL
  have hn20 : n ≤ 1048576 := HXL.out
  rw [hnn]
  clear ho1 hb1 hnn hn
  go_wp2_with fail
  go_loopg [6, 10] n (fun g _ s10 wr => ∃ (k : Nat), s10 = .int .i64 k ∧ k ≤ n ∧ n - k ≤ g ∧ Hid (Below w1.heap.size w1 wr) ∧ Hid (∀ x ∈ X.take k, ¬ x.2 = 0))
  case atStart => exact ⟨0, rfl, Nat.zero_le _, by omega, Below.refl _ _, by show ∀ x ∈ X.take 0, _; simp⟩
  case round =>
    obtain ⟨k, rfl, hk, hg, HB, HA⟩ := hrel
    have HBW : Hid (Below w.heap.size w wr) := HB1.out.trans (HB.out.mono HB1.out.size)
    by_cases hlt : k < n
    · have hltz : (k : Int) < (n : Int) := by omega
      obtain ⟨x, hx⟩ : ∃ x, X[k]? = some x := ⟨X[k]'(by have := HN.out; omega), List.getElem?_eq_getElem _⟩
      obtain ⟨b, off, rfl, hb, hcell⟩ := (HR1.out.below HB.out).at (by omega)
      obtain ⟨c0, c1⟩ := hcell k x hx
      have HXK : Hid (X[k]? = some x) := hx
      have HWA : Hid (∀ o, Tabs (wr.alloc o) ∧ Below w.heap.size w (wr.alloc o) ∧ Below w1.heap.size w1 (wr.alloc o)) := fun o => ⟨(HR.out _ (HBW.out.alloc HBW.out.size o)).2.2, HBW.out.alloc HBW.out.size o, HB.out.alloc HB.out.size o⟩
      clear hcell hx
      by_cases h0 : x.2 = 0
      · have h0b : (x.2 == 0) = true := beq_iff_eq.2 h0
        clear h0
        go_wp2_with (go_at_call 11; refine (alive_any _ (HWA.out _).1).mono ?_; rintro e w2 ⟨rfl, hb2⟩)
        go_ret
        exact ⟨rfl, (HWA.out _).2.1.trans (hb2.mono (HWA.out _).2.1.size)⟩
      · have h0b : (x.2 == 0) = false := beq_eq_false_iff_ne.2 h0
        have HA2 : Hid (∀ y ∈ X.take (k + 1), ¬ y.2 = 0) := by
          show ∀ y ∈ X.take (k + 1), _
          intro y hy
          rw [take_succ_at HXK.out] at hy
          rcases List.mem_append.1 hy with h | h
          · exact HA.out y h
          · rw [List.mem_singleton.1 h]; exact h0
        clear h0
        go_wp2_with fail
        go_roundg (n - (k + 1))
        case measure => omega
        case rel => exact ⟨k + 1, by go_num, by omega, Nat.le_refl _, (HWA.out _).2.2, HA2⟩
    · have hltz : ¬ (k : Int) < (n : Int) := by omega
      have HM : Hid (merge lessB l (diff lessB l m) = norm lessB m) := by
        refine merge_diff lessB_sto l m fun x hx => ?_
        have h := HA.out
        rw [List.take_of_length_le (by have := HN.out; omega)] at h
        exact h x (by rw [HX.out]; exact hx)
      obtain ⟨hru, hrv, htw⟩ := HR.out _ HBW.out
      go_upto_region 7 with fail
      go_wp2_with fail
      refine (alive_any _ htw).mono ?_
      rintro e w2 ⟨rfl, hb2⟩
      have B2 : Below w.heap.size w w2 := HBW.out.trans (hb2.mono HBW.out.size)
      obtain ⟨hru2, hrv2, _⟩ := HR.out _ B2
      go_wp2_with fail
      refine (Diff_any w2 u v l m hru2 hrv2 (by omega) (by omega)).mono ?_
      rintro e w3 ⟨v3, rfl, ho3, hb3⟩
      have B3 : Below w.heap.size w w3 := B2.trans (hb3.mono B2.size)
      go_wp2_with fail
      refine (Merge_any w3 u v3 l _ (HR.out _ B3).1 ho3.row (by omega) (by have := HDL.out; omega)).mono ?_
      rintro e w4 ⟨v4, rfl, ho4, hb4⟩
      have B4 : Below w.heap.size w w4 := B3.trans (hb4.mono B3.size)
      rw [HM.out] at ho4
      go_wp2_with fail
      refine (Norm_any w4 v m (HR.out _ B4).2.1 (by omega)).mono ?_
      rintro e w5 ⟨v5, rfl, ho5, hb5⟩
      have B5 : Below w.heap.size w w5 := B4.trans (hb5.mono B4.size)
      go_wp2_with fail
      refine (same_any w5 v4 v5 _ _ (ho4.row.below hb5) ho5.row (by omega) (by omega)).mono ?_
      rintro e w6 ⟨rfl, q6, rfl⟩
      rw [decide_eq_true rfl]
      go_wp2
      go_ret
      exact ⟨rfl, belowN B5 q6⟩
end Go.Proofs.YtjanhebckonbaaaDoor
