/- The reference's SameState and Same, over machines that are read. -/
import Derived.Test.YthjlihhknaelaaaDoorJ16
import Derived.Test.YthjlihhknaelaaaDoorJ9
namespace Go.Proofs.YthjlihhknaelaaaDoor
open Go.RowKit Nums Fm Pk
set_option maxRecDepth 100000
set_option maxHeartbeats 4000000 in
theorem sameStateR_any (E : Nat) (w : World) (s t : RSt) (va vb : Value) (ha : ArcsAt E w va s.arcs) (hb : ArcsAt E w vb t.arcs) (hE : E ≤ w.heap.size) :
    Calls Tryd.prog 26 #[.agg #[.bool s.final, .int .i64 s.out, va], .agg #[.bool t.final, .int .i64 t.out, vb]] w fun e w' => e = .returned (.bool (decide (s = t))) ∧ Below w.heap.size w w' := by
  obtain ⟨ad1, cap1, rfl⟩ := ha.shape
  obtain ⟨ad2, cap2, rfl⟩ := hb.shape
  obtain ⟨n1, hn1⟩ : ∃ n, s.arcs.length = n := ⟨_, rfl⟩
  obtain ⟨n2, hn2⟩ : ∃ n, t.arcs.length = n := ⟨_, rfl⟩
  have HN : Hid (s.arcs.length = n1 ∧ t.arcs.length = n2) := ⟨hn1, hn2⟩
  have hm1 : n1 ≤ 9223372036854775807 := by have := ha.len; omega
  have hm2 : n2 ≤ 9223372036854775807 := by have := hb.len; omega
  rw [hn1] at ha ⊢
  rw [hn2] at hb ⊢
  have HR1 : Hid (ArcsAt E w (.slice ad1 n1 cap1) s.arcs) := ha
  have HR2 : Hid (ArcsAt E w (.slice ad2 n2 cap2) t.arcs) := hb
  obtain ⟨F, hF⟩ : ∃ F, decide (s = t) = F := ⟨_, rfl⟩
  have HF : Hid (decide (s = t) = F) := hF
  rw [hF]
  have HBB0 : Hid (∀ o1 o2, Below w.heap.size w ((w.alloc o1).alloc o2)) := fun o1 o2 => ((Below.refl _ w).alloc (Nat.le_refl _) o1).alloc (by simp) o2
  clear ha hb hn1 hn2 hF
  by_cases hf : ¬ s.final = t.final
  · have HE : Hid (F = false) := by
      show _ = _
      rw [← HF.out]
      exact decide_eq_false fun e => hf (by rw [e])
    generalize s.final = f1 at *
    generalize t.final = f2 at *
    have hfb : (f1 == f2) = false := beq_eq_false_iff_ne.2 hf
    go_enter Tryd.func26, Tryd.ntmps26
    go_wp2
    go_ret
    exact ⟨by rw [HE.out]; rfl, HBB0.out _ _⟩
  have hf' : s.final = t.final := Classical.not_not.1 hf
  by_cases ho : ¬ s.out = t.out
  · have HE : Hid (F = false) := by
      show _ = _
      rw [← HF.out]
      exact decide_eq_false fun e => ho (by rw [e])
    have hob : (s.out == t.out) = false := beq_eq_false_iff_ne.2 ho
    rw [hf']
    go_enter Tryd.func26, Tryd.ntmps26
    go_wp2
    go_ret
    exact ⟨by rw [HE.out]; rfl, HBB0.out _ _⟩
  have ho' : s.out = t.out := Classical.not_not.1 ho
  by_cases hne : ¬ n1 = n2
  · have HE : Hid (F = false) := by
      show _ = _
      rw [← HF.out]
      exact decide_eq_false fun e => hne (by rw [← HN.out.1, ← HN.out.2, e])
    have hneb : ((n1 : Int) == (n2 : Int)) = false := beq_eq_false_iff_ne.2 (by omega)
    rw [hf', ho']
    go_enter Tryd.func26, Tryd.ntmps26
    go_wp2
    go_ret
    exact ⟨by rw [HE.out]; rfl, HBB0.out _ _⟩
  have hne' : n1 = n2 := Classical.not_not.1 hne
  subst hne'
  have HFO : Hid (s.final = t.final ∧ s.out = t.out) := ⟨hf', ho'⟩
  rw [hf', ho']
  clear hf hf' ho ho' hne
  go_enter Tryd.func26, Tryd.ntmps26
  go_upto_region 3 with fail
  obtain ⟨W, hW⟩ : ∃ W, W = (w.alloc (.cells #[.bool t.final, .int .i64 t.out, .slice ad1 n1 cap1] 51)).alloc (.cells #[.bool t.final, .int .i64 t.out, .slice ad2 n1 cap2] 51) := ⟨_, rfl⟩
  rw [← hW]
  have HW : Hid (Below w.heap.size w W) := by show Below _ _ _; rw [hW]; exact HBB0.out _ _
  have b1 : ∀ q, (W.drewN q).cell? ⟨w.heap.size, 2, none⟩ = some (.slice ad1 n1 cap1) := fun q => by rw [hW]; simp
  have b2 : ∀ q, (W.drewN q).cell? ⟨w.heap.size + 1, 2, none⟩ = some (.slice ad2 n1 cap2) := fun q => by rw [hW]; simp
  have HBB : Hid (∀ q, Below w.heap.size w (W.drewN q)) := fun q => belowN HW.out q
  clear hW
  go_wp2
  go_loopg [5] n1 (fun g s5 wr => ∃ (k q : Nat), s5 = .int .i64 k ∧ k ≤ n1 ∧ n1 - k ≤ g ∧ wr = W.drewN q ∧ Hid (s.arcs.take k = t.arcs.take k))
  case atStart => exact ⟨0, 0, rfl, Nat.zero_le _, by omega, rfl, by show _ = _; simp⟩
  case round =>
    obtain ⟨k, q, rfl, hk, hg, rfl, HK⟩ := hrel
    have c1' := b1 q
    have c2' := b2 q
    by_cases hlt : k < n1
    · have hltz : (k : Int) < (n1 : Int) := by omega
      obtain ⟨x, hx⟩ : ∃ x, s.arcs[k]? = some x := ⟨s.arcs[k]'(by have := HN.out; omega), List.getElem?_eq_getElem _⟩
      obtain ⟨y, hy⟩ : ∃ y, t.arcs[k]? = some y := ⟨t.arcs[k]'(by have := HN.out; omega), List.getElem?_eq_getElem _⟩
      have r1 : ArcsAt E W (.slice ad1 n1 cap1) s.arcs := HR1.out.below (HW.out.mono hE)
      have r2 : ArcsAt E W (.slice ad2 n1 cap2) t.arcs := HR2.out.below (HW.out.mono hE)
      obtain ⟨g1, o1, rfl, hg1, p0, p1, p2⟩ := r1.at hx
      obtain ⟨g2, o2, rfl, hg2, q0, q1, q2⟩ := r2.at hy
      have HX : Hid (s.arcs[k]? = some x ∧ t.arcs[k]? = some y) := ⟨hx, hy⟩
      have HNX : Hid (x = y → s.arcs.take (k + 1) = t.arcs.take (k + 1)) := fun e => take_alike HK.out hx hy e
      have HNE : Hid (x ≠ y → F = false) := fun e => by
        rw [← HF.out]
        refine decide_eq_false fun e2 => e ?_
        have h1 := HX.out.1
        rw [show s.arcs = t.arcs from by rw [e2], HX.out.2] at h1
        exact (Option.some.inj h1).symm
      clear hx hy r1 r2
      by_cases e1 : x.label = y.label
      · have s1 : (x.label == y.label) = true := beq_iff_eq.2 e1
        by_cases e2 : x.out = y.out
        · have s2 : (x.out == y.out) = true := beq_iff_eq.2 e2
          by_cases e3 : x.to = y.to
          · have s3 : (x.to == y.to) = true := beq_iff_eq.2 e3
            have HK2 : Hid (s.arcs.take (k + 1) = t.arcs.take (k + 1)) := HNX.out (by cases x; cases y; simp only at e1 e2 e3; rw [e1, e2, e3])
            clear e1 e2 e3
            go_upto_region 6 with fail
            go_quiet (fail)
            go_wp2_with fail
            go_roundg (n1 - (k + 1))
            case measure => omega
            case rel => exact ⟨k + 1, q + nq, by go_num, by omega, Nat.le_refl _, rfl, HK2⟩
          · have s3 : (x.to == y.to) = false := beq_eq_false_iff_ne.2 e3
            have HE : Hid (F = false) := HNE.out (fun e => e3 (by rw [e]))
            clear e1 e2 e3
            go_upto_region 6 with fail
            go_quiet (fail)
            go_wp2_with fail
            go_ret
            exact ⟨by rw [HE.out]; rfl, by first | exact HBB.out _ | exact belowN (HBB.out _) _⟩
        · have s2 : (x.out == y.out) = false := beq_eq_false_iff_ne.2 e2
          have HE : Hid (F = false) := HNE.out (fun e => e2 (by rw [e]))
          clear e1 e2
          go_upto_region 6 with fail
          go_quiet (fail)
          go_wp2_with fail
          go_ret
          exact ⟨by rw [HE.out]; rfl, by first | exact HBB.out _ | exact belowN (HBB.out _) _⟩
      · have s1 : (x.label == y.label) = false := beq_eq_false_iff_ne.2 e1
        have HE : Hid (F = false) := HNE.out (fun e => e1 (by rw [e]))
        clear e1
        go_upto_region 6 with fail
        go_quiet (fail)
        go_wp2_with fail
        go_ret
        exact ⟨by rw [HE.out]; rfl, by first | exact HBB.out _ | exact belowN (HBB.out _) _⟩
    · have hltz : ¬ (k : Int) < (n1 : Int) := by omega
      have HE : Hid (F = true) := by
        show _ = _
        rw [← HF.out]
        refine decide_eq_true ?_
        have h := HK.out
        rw [List.take_of_length_le (by have := HN.out; omega), List.take_of_length_le (by have := HN.out; omega)] at h
        have h2 := HFO.out
        cases s; cases t
        simp only at h h2
        rw [h, h2.1, h2.2]
      go_wp2
      go_ret
      exact ⟨by rw [HE.out]; rfl, by first | exact HBB.out _ | exact belowN (HBB.out _) _⟩
end Go.Proofs.YthjlihhknaelaaaDoor
