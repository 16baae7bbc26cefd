/- Texts that were written apart, joined. -/
import Derived.Test.YtjhjejjnkpbphaaDoorG0
import Derived.Test.YtjhjejjnkpbphaaDoorDrawn8
import Derived.Test.YtjhjejjnkpbphaaDoorHa
import Derived.Test.YtjhjejjnkpbphaaDoorHc
/- The reference's SameState and Same. -/
namespace Go.Proofs.YtjhjejjnkpbphaaDoor
open Go.RowKit Nums Fm
set_option maxRecDepth 100000
theorem StRow.at {B : Nat} {w : World} {vs : Value} {b : List St} (h : StRow B w vs b) (h0 : 0 < b.length) : ∃ g cap, vs = .slice (some ⟨g, 0, none⟩) b.length cap ∧ g < w.heap.size ∧ ∀ (i : Nat) (s : St), b[i]? = some s → ∃ va, AOwn B w va s.arcs ∧ w.cell? ⟨g, i * 3, none⟩ = some (.bool s.final) ∧ w.cell? ⟨g, i * 3 + 1, none⟩ = some (.int .i64 s.out) ∧ w.cell? ⟨g, i * 3 + 2, none⟩ = some va := by
  obtain ⟨xss, h1, h2, h3⟩ := h
  obtain ⟨g, cap, rfl, hg, _, _, hc⟩ := h1.cell (by omega)
  refine ⟨g, cap, by rw [h2], hg, fun i s hi => ?_⟩
  obtain ⟨va, h4, h5⟩ := h3 i s hi
  exact ⟨va, h5, hc i 0 _ _ h4 rfl, hc i 1 _ _ h4 rfl, hc i 2 _ _ h4 rfl⟩
theorem StRow.shape {B : Nat} {w : World} {vs : Value} {b : List St} (h : StRow B w vs b) : ∃ ad cap, vs = .slice ad b.length cap := by
  obtain ⟨xss, h1, h2, _⟩ := h
  obtain ⟨ad, cap, h3, _⟩ := h1.shape
  exact ⟨ad, cap, by rw [h3, h2]⟩
theorem GOwn.small {T : TypeId} {k B : Nat} {w : World} {v : Value} {xss : List (List Value)} (h : GOwn T k B w v xss) : xss.length ≤ maxLen := by
  obtain ⟨_, hl, ⟨_, h0⟩ | ⟨g, cap, cur, _, _, _, h3, h4, _⟩⟩ := h
  · omega
  · omega

theorem take_alike {α : Type} {l m : List α} {k : Nat} {x y : α} (h : l.take k = m.take k) (hx : l[k]? = some x) (hy : m[k]? = some y) (e : x = y) : l.take (k + 1) = m.take (k + 1) := by
  obtain ⟨h1, e1⟩ := List.getElem?_eq_some_iff.1 hx
  obtain ⟨h2, e2⟩ := List.getElem?_eq_some_iff.1 hy
  rw [List.take_succ_eq_append_getElem h1, List.take_succ_eq_append_getElem h2, e1, e2, h, e]
set_option maxHeartbeats 4000000 in
theorem sameState_any (B B' : Nat) (w : World) (s t : St) (va vb : Value) (ha : AOwn B w va s.arcs) (hb : AOwn B' w vb t.arcs) :
    Calls Tryd.prog 83 #[.agg #[.bool s.final, .int .i64 s.out, va], .agg #[.bool t.final, .int .i64 t.out, vb]] w fun e w' => e = .returned (.bool (decide (s = t))) ∧ Below w.heap.size w w' := by
  obtain ⟨ad1, cap1, rfl, _⟩ := GOwn.shape ha
  obtain ⟨ad2, cap2, rfl, _⟩ := GOwn.shape hb
  rw [List.length_map] at ha hb ⊢
  rw [List.length_map]
  obtain ⟨n1, hn1⟩ : ∃ n, s.arcs.length = n := ⟨_, rfl⟩
  obtain ⟨n2, hn2⟩ : ∃ n, t.arcs.length = n := ⟨_, rfl⟩
  have HN : Hid (s.arcs.length = n1 ∧ t.arcs.length = n2) := ⟨hn1, hn2⟩
  have hm1 : n1 ≤ 9223372036854775807 := by have := GOwn.small ha; rw [List.length_map, hn1] at this; simp only [maxLen] at this; omega
  have hm2 : n2 ≤ 9223372036854775807 := by have := GOwn.small hb; rw [List.length_map, hn2] at this; simp only [maxLen] at this; omega
  rw [hn1] at ha ⊢
  rw [hn2] at hb ⊢
  have HR1 : Hid (AOwn B w (.slice ad1 n1 cap1) s.arcs) := ha
  have HR2 : Hid (AOwn B' w (.slice ad2 n2 cap2) t.arcs) := hb
  obtain ⟨F, hF⟩ : ∃ F, decide (s = t) = F := ⟨_, rfl⟩
  have HF : Hid (decide (s = t) = F) := hF
  rw [hF]
  have HBB0 : Hid (∀ o1 o2, Below w.heap.size w ((w.alloc o1).alloc o2)) := fun o1 o2 => ((Below.refl _ w).alloc (Nat.le_refl _) o1).alloc (by simp) o2
  clear ha hb hn1 hn2 hF
  by_cases hf : ¬ s.final = t.final
  · have HE : Hid (F = false) := by
      show _ = _
      rw [← HF.out]
      exact decide_eq_false fun e => hf (by rw [e])
    generalize s.final = f1 at *
    generalize t.final = f2 at *
    have hfb : (f1 == f2) = false := beq_eq_false_iff_ne.2 hf
    go_enter Tryd.func83, Tryd.ntmps83
    go_wp2
    go_ret
    exact ⟨by rw [HE.out]; rfl, HBB0.out _ _⟩
  have hf' : s.final = t.final := Classical.not_not.1 hf
  by_cases ho : ¬ s.out = t.out
  · have HE : Hid (F = false) := by
      show _ = _
      rw [← HF.out]
      exact decide_eq_false fun e => ho (by rw [e])
    have hob : (s.out == t.out) = false := beq_eq_false_iff_ne.2 ho
    rw [hf']
    go_enter Tryd.func83, Tryd.ntmps83
    go_wp2
    go_ret
    exact ⟨by rw [HE.out]; rfl, HBB0.out _ _⟩
  have ho' : s.out = t.out := Classical.not_not.1 ho
  by_cases hne : ¬ n1 = n2
  · have HE : Hid (F = false) := by
      show _ = _
      rw [← HF.out]
      exact decide_eq_false fun e => hne (by rw [← HN.out.1, ← HN.out.2, e])
    have hneb : ((n1 : Int) == (n2 : Int)) = false := beq_eq_false_iff_ne.2 (by omega)
    rw [hf', ho']
    go_enter Tryd.func83, Tryd.ntmps83
    go_wp2
    go_ret
    exact ⟨by rw [HE.out]; rfl, HBB0.out _ _⟩
  have hne' : n1 = n2 := Classical.not_not.1 hne
  subst hne'
  have HFO : Hid (s.final = t.final ∧ s.out = t.out) := ⟨hf', ho'⟩
  rw [hf', ho']
  clear hf hf' ho ho' hne
  go_enter Tryd.func83, Tryd.ntmps83
  go_upto_region 3 with fail
  obtain ⟨W, hW⟩ : ∃ W, W = (w.alloc (.cells #[.bool t.final, .int .i64 t.out, .slice ad1 n1 cap1] 39)).alloc (.cells #[.bool t.final, .int .i64 t.out, .slice ad2 n1 cap2] 39) := ⟨_, rfl⟩
  rw [← hW]
  have HW : Hid (Below w.heap.size w W) := by show Below _ _ _; rw [hW]; exact HBB0.out _ _
  have b1 : ∀ q, (W.drewN q).cell? ⟨w.heap.size, 2, none⟩ = some (.slice ad1 n1 cap1) := fun q => by rw [hW]; simp
  have b2 : ∀ q, (W.drewN q).cell? ⟨w.heap.size + 1, 2, none⟩ = some (.slice ad2 n1 cap2) := fun q => by rw [hW]; simp
  have HBB : Hid (∀ q, Below w.heap.size w (W.drewN q)) := fun q => belowN HW.out q
  clear hW
  go_wp2
  go_loopg [5] n1 (fun g s5 wr => ∃ (k q : Nat), s5 = .int .i64 k ∧ k ≤ n1 ∧ n1 - k ≤ g ∧ wr = W.drewN q ∧ Hid (s.arcs.take k = t.arcs.take k))
  case atStart => exact ⟨0, 0, rfl, Nat.zero_le _, by omega, rfl, by show _ = _; simp⟩
  case round =>
    obtain ⟨k, q, rfl, hk, hg, rfl, HK⟩ := hrel
    have c1' := b1 q
    have c2' := b2 q
    by_cases hlt : k < n1
    · have hltz : (k : Int) < (n1 : Int) := by omega
      obtain ⟨x, hx⟩ : ∃ x, s.arcs[k]? = some x := ⟨s.arcs[k]'(by have := HN.out; omega), List.getElem?_eq_getElem _⟩
      obtain ⟨y, hy⟩ : ∃ y, t.arcs[k]? = some y := ⟨t.arcs[k]'(by have := HN.out; omega), List.getElem?_eq_getElem _⟩
      have r1 : AOwn B W (.slice ad1 n1 cap1) s.arcs := GOwn.below HR1.out HW.out
      have r2 : AOwn B' W (.slice ad2 n1 cap2) t.arcs := GOwn.below HR2.out HW.out
      obtain ⟨g1, ca1, ea1, hg1, _, _, hc1⟩ := r1.at (by have := HN.out; omega)
      obtain ⟨g2, ca2, ea2, hg2, _, _, hc2⟩ := r2.at (by have := HN.out; omega)
      simp only [Value.slice.injEq] at ea1 ea2
      obtain ⟨rfl, hnl1, rfl⟩ := ea1
      obtain ⟨rfl, hnl2, rfl⟩ := ea2
      obtain ⟨p0, p1, p2⟩ := hc1 k x hx
      obtain ⟨q0, q1, q2⟩ := hc2 k y hy
      have HX : Hid (s.arcs[k]? = some x ∧ t.arcs[k]? = some y) := ⟨hx, hy⟩
      have HNX : Hid (x = y → s.arcs.take (k + 1) = t.arcs.take (k + 1)) := fun e => take_alike HK.out hx hy e
      have HNE : Hid (x ≠ y → F = false) := fun e => by
        rw [← HF.out]
        refine decide_eq_false fun e2 => e ?_
        have h1 := HX.out.1
        rw [show s.arcs = t.arcs from by rw [e2], HX.out.2] at h1
        exact (Option.some.inj h1).symm
      clear hc1 hc2 hx hy r1 r2 hnl1 hnl2
      by_cases e1 : x.label = y.label
      · have s1 : (x.label == y.label) = true := beq_iff_eq.2 e1
        by_cases e2 : x.out = y.out
        · have s2 : (x.out == y.out) = true := beq_iff_eq.2 e2
          by_cases e3 : x.to = y.to
          · have s3 : ((x.to : Int) == (y.to : Int)) = true := beq_iff_eq.2 (by omega)
            have HK2 : Hid (s.arcs.take (k + 1) = t.arcs.take (k + 1)) := HNX.out (by cases x; cases y; simp only at e1 e2 e3; rw [e1, e2, e3])
            clear e1 e2 e3
            go_upto_region 6 with fail
            go_quiet (fail)
            go_wp2_with fail
            go_roundg (n1 - (k + 1))
            case measure => omega
            case rel => exact ⟨k + 1, q + nq, by go_num, by omega, Nat.le_refl _, rfl, HK2⟩
          · have s3 : ((x.to : Int) == (y.to : Int)) = false := beq_eq_false_iff_ne.2 (by omega)
            have HE : Hid (F = false) := HNE.out (fun e => e3 (by rw [e]))
            clear e1 e2 e3
            go_upto_region 6 with fail
            go_quiet (fail)
            go_wp2_with fail
            go_ret
            exact ⟨by rw [HE.out]; rfl, by first | exact HBB.out _ | exact belowN (HBB.out _) _⟩
        · have s2 : (x.out == y.out) = false := beq_eq_false_iff_ne.2 e2
          have HE : Hid (F = false) := HNE.out (fun e => e2 (by rw [e]))
          clear e1 e2
          go_upto_region 6 with fail
          go_quiet (fail)
          go_wp2_with fail
          go_ret
          exact ⟨by rw [HE.out]; rfl, by first | exact HBB.out _ | exact belowN (HBB.out _) _⟩
      · have s1 : (x.label == y.label) = false := beq_eq_false_iff_ne.2 e1
        have HE : Hid (F = false) := HNE.out (fun e => e1 (by rw [e]))
        clear e1
        go_upto_region 6 with fail
        go_quiet (fail)
        go_wp2_with fail
        go_ret
        exact ⟨by rw [HE.out]; rfl, by first | exact HBB.out _ | exact belowN (HBB.out _) _⟩
    · have hltz : ¬ (k : Int) < (n1 : Int) := by omega
      have HE : Hid (F = true) := by
        show _ = _
        rw [← HF.out]
        refine decide_eq_true ?_
        have h := HK.out
        rw [List.take_of_length_le (by have := HN.out; omega), List.take_of_length_le (by have := HN.out; omega)] at h
        have h2 := HFO.out
        cases s; cases t
        simp only at h h2
        rw [h, h2.1, h2.2]
      go_wp2
      go_ret
      exact ⟨by rw [HE.out]; rfl, by first | exact HBB.out _ | exact belowN (HBB.out _) _⟩
/-- What Same looks at in a round. -/
structure SM (ba bb ga gb i : Nat) (va vb : Value) (s t : St) (ua ub : Value) (w : World) : Prop where
  a : w.cell? ⟨ba, 1, none⟩ = some va
  b : w.cell? ⟨bb, 1, none⟩ = some vb
  a0 : w.cell? ⟨ga, i * 3, none⟩ = some (.bool s.final)
  a1 : w.cell? ⟨ga, i * 3 + 1, none⟩ = some (.int .i64 s.out)
  a2 : w.cell? ⟨ga, i * 3 + 2, none⟩ = some ua
  b0 : w.cell? ⟨gb, i * 3, none⟩ = some (.bool t.final)
  b1 : w.cell? ⟨gb, i * 3 + 1, none⟩ = some (.int .i64 t.out)
  b2 : w.cell? ⟨gb, i * 3 + 2, none⟩ = some ub
theorem SM.facts {ba bb ga gb i : Nat} {va vb : Value} {s t : St} {ua ub : Value} {w : World} (h : SM ba bb ga gb i va vb s t ua ub w) : w.cell? ⟨ba, 1, none⟩ = some va ∧ w.cell? ⟨bb, 1, none⟩ = some vb ∧ w.cell? ⟨ga, i * 3, none⟩ = some (.bool s.final) ∧ w.cell? ⟨ga, i * 3 + 1, none⟩ = some (.int .i64 s.out) ∧ w.cell? ⟨ga, i * 3 + 2, none⟩ = some ua ∧ w.cell? ⟨gb, i * 3, none⟩ = some (.bool t.final) ∧ w.cell? ⟨gb, i * 3 + 1, none⟩ = some (.int .i64 t.out) ∧ w.cell? ⟨gb, i * 3 + 2, none⟩ = some ub := ⟨h.a, h.b, h.a0, h.a1, h.a2, h.b0, h.b1, h.b2⟩
theorem SM.below {ba bb ga gb i : Nat} {va vb : Value} {s t : St} {ua ub : Value} {w w' : World} (h : SM ba bb ga gb i va vb s t ua ub w) (hb : Below w.heap.size w w') : SM ba bb ga gb i va vb s t ua ub w' := by
  have k : ∀ {g o : Nat} {v : Value}, w.cell? ⟨g, o, none⟩ = some v → w'.cell? ⟨g, o, none⟩ = some v := fun {g o v} h => (hb.cell (p := ⟨g, o, none⟩) (lt_of_cell h)).trans h
  exact ⟨k h.a, k h.b, k h.a0, k h.a1, k h.a2, k h.b0, k h.b1, k h.b2⟩
theorem StRow.small {B : Nat} {w : World} {vs : Value} {b : List St} (h : StRow B w vs b) : b.length ≤ 9223372036854775807 := by
  obtain ⟨xss, h1, h2, _⟩ := h
  have := GOwn.small h1
  rw [h2] at this
  simp only [maxLen] at this
  omega
set_option maxHeartbeats 4000000 in
theorem same_any (B B' : Nat) (w : World) (p q : Int) (va vb : Value) (b c : List St) (hb : StRow B w va b) (hc : StRow B' w vb c) :
    Calls Tryd.prog 51 #[.agg #[.int .i64 p, va], .agg #[.int .i64 q, vb]] w fun e w' => e = .returned (.bool (decide (p = q ∧ b = c))) ∧ Below w.heap.size w w' := by
  obtain ⟨ad1, cap1, rfl⟩ := hb.shape
  obtain ⟨ad2, cap2, rfl⟩ := hc.shape
  have hm1 := hb.small
  have hm2 := hc.small
  obtain ⟨n1, hn1⟩ : ∃ n, b.length = n := ⟨_, rfl⟩
  obtain ⟨n2, hn2⟩ : ∃ n, c.length = n := ⟨_, rfl⟩
  have HN : Hid (b.length = n1 ∧ c.length = n2) := ⟨hn1, hn2⟩
  rw [hn1] at hb hm1 ⊢
  rw [hn2] at hc hm2 ⊢
  have HR1 : Hid (StRow B w (.slice ad1 n1 cap1) b) := hb
  have HR2 : Hid (StRow B' w (.slice ad2 n2 cap2) c) := hc
  obtain ⟨F, hF⟩ : ∃ F, decide (p = q ∧ b = c) = F := ⟨_, rfl⟩
  have HF : Hid (decide (p = q ∧ b = c) = F) := hF
  rw [hF]
  have HBB0 : Hid (∀ o1 o2, Below w.heap.size w ((w.alloc o1).alloc o2)) := fun o1 o2 => ((Below.refl _ w).alloc (Nat.le_refl _) o1).alloc (by simp) o2
  clear hb hc hn1 hn2 hF
  by_cases hpq : ¬ p = q
  · have HE : Hid (F = false) := by
      show _ = _
      rw [← HF.out]
      exact decide_eq_false fun e => hpq e.1
    have hfb : (p == q) = false := beq_eq_false_iff_ne.2 hpq
    go_enter Tryd.func51, Tryd.ntmps51
    go_wp2
    go_ret
    exact ⟨by rw [HE.out]; rfl, HBB0.out _ _⟩
  have hpq' : p = q := Classical.not_not.1 hpq
  subst hpq'
  by_cases hne : ¬ n1 = n2
  · have HE : Hid (F = false) := by
      show _ = _
      rw [← HF.out]
      exact decide_eq_false fun e => hne (by rw [← HN.out.1, ← HN.out.2, e.2])
    have hneb : ((n1 : Int) == (n2 : Int)) = false := beq_eq_false_iff_ne.2 (by omega)
    go_enter Tryd.func51, Tryd.ntmps51
    go_wp2
    go_ret
    exact ⟨by rw [HE.out]; rfl, HBB0.out _ _⟩
  have hne' : n1 = n2 := Classical.not_not.1 hne
  subst hne'
  clear hpq hne
  go_enter Tryd.func51, Tryd.ntmps51
  go_upto_region 3 with fail
  obtain ⟨W, hW⟩ : ∃ W, W = (w.alloc (.cells #[.int .i64 p, .slice ad1 n1 cap1] 24)).alloc (.cells #[.int .i64 p, .slice ad2 n1 cap2] 24) := ⟨_, rfl⟩
  rw [← hW]
  obtain ⟨ba, hba⟩ : ∃ ba, ba = w.heap.size := ⟨_, rfl⟩
  have HW : Hid (Below w.heap.size w W) := by show Below _ _ _; rw [hW]; exact HBB0.out _ _
  have HB12 : Hid (W.cell? ⟨ba, 1, none⟩ = some (.slice ad1 n1 cap1) ∧ W.cell? ⟨ba + 1, 1, none⟩ = some (.slice ad2 n1 cap2)) := by rw [hba, hW]; exact ⟨by simp, by simp⟩
  rw [← hba]
  clear hW hba
  go_wp2
  go_loopg [5, 6] n1 (fun g s5 _ wr => ∃ (k : Nat), s5 = .int .i64 k ∧ k ≤ n1 ∧ n1 - k ≤ g ∧ Hid (Below W.heap.size W wr) ∧ Hid (b.take k = c.take k))
  case atStart => exact ⟨0, rfl, Nat.zero_le _, by omega, Below.refl _ _, by show _ = _; simp⟩
  case round =>
    obtain ⟨k, rfl, hk, hg, HBr, HK⟩ := hrel
    have c1' : wr.cell? ⟨ba, 1, none⟩ = some (.slice ad1 n1 cap1) := (HBr.out.cell (p := ⟨ba, 1, none⟩) (lt_of_cell HB12.out.1)).trans HB12.out.1
    have c2' : wr.cell? ⟨ba + 1, 1, none⟩ = some (.slice ad2 n1 cap2) := (HBr.out.cell (p := ⟨ba + 1, 1, none⟩) (lt_of_cell HB12.out.2)).trans HB12.out.2
    have hbw : Below w.heap.size w wr := HW.out.trans (HBr.out.mono HW.out.size)
    have HBW : Hid (Below w.heap.size w wr) := hbw
    clear hbw
    by_cases hlt : k < n1
    · have hltz : (k : Int) < (n1 : Int) := by omega
      obtain ⟨x, hx⟩ : ∃ x, b[k]? = some x := ⟨b[k]'(by have := HN.out; omega), List.getElem?_eq_getElem _⟩
      obtain ⟨y, hy⟩ : ∃ y, c[k]? = some y := ⟨c[k]'(by have := HN.out; omega), List.getElem?_eq_getElem _⟩
      obtain ⟨ga, ca1, ea1, hg1, hc1⟩ := (HR1.out.below HBW.out).at (by have := HN.out; omega)
      obtain ⟨gb, ca2, ea2, hg2, hc2⟩ := (HR2.out.below HBW.out).at (by have := HN.out; omega)
      simp only [Value.slice.injEq] at ea1 ea2
      obtain ⟨rfl, hnl1, rfl⟩ := ea1
      obtain ⟨rfl, hnl2, rfl⟩ := ea2
      obtain ⟨ua, hua, p0, p1, p2⟩ := hc1 k x hx
      obtain ⟨ub, hub, q0, q1, q2⟩ := hc2 k y hy
      have hS : SM ba (ba + 1) ga gb k (.slice (some ⟨ga, 0, none⟩) n1 cap1) (.slice (some ⟨gb, 0, none⟩) n1 cap2) x y ua ub wr := ⟨c1', c2', p0, p1, p2, q0, q1, q2⟩
      obtain ⟨xd, xc, hxv, _⟩ := GOwn.shape hua
      obtain ⟨yd, yc, hyv, _⟩ := GOwn.shape hub
      obtain ⟨xn, hxn⟩ : ∃ xn, (x.arcs.map cellsA).length = xn := ⟨_, rfl⟩
      obtain ⟨yn, hyn⟩ : ∃ yn, (y.arcs.map cellsA).length = yn := ⟨_, rfl⟩
      rw [hxn] at hxv
      rw [hyn] at hyv
      subst hxv
      subst hyv
      have HSM : Hid _ := hS
      have HUA : Hid (AOwn B wr (.slice xd xn xc) x.arcs) := hua
      have HUB : Hid (AOwn B' wr (.slice yd yn yc) y.arcs) := hub
      have HNX : Hid (x = y → b.take (k + 1) = c.take (k + 1)) := fun e => take_alike HK.out hx hy e
      have HNE : Hid (x ≠ y → F = false) := fun e => by
        rw [← HF.out]
        refine decide_eq_false fun e2 => e ?_
        have h1 := hx
        rw [e2.2, hy] at h1
        exact (Option.some.inj h1).symm
      clear hc1 hc2 hx hy hnl1 hnl2 hua hub hS p0 p1 p2 q0 q1 q2 hxn hyn
      go_upto_region 6 with fail
      clear c1' c2'
      have hS0 : SM ba (ba + 1) ga gb k (.slice (some ⟨ga, 0, none⟩) n1 cap1) (.slice (some ⟨gb, 0, none⟩) n1 cap2) x y (.slice xd xn xc) (.slice yd yn yc) wr.drew := HSM.out.below (Below.refl _ wr).drew
      have HCALL := sameState_any B B' wr.drew x y _ _ (GOwn.below HUA.out (Below.refl _ wr).drew) (GOwn.below HUB.out (Below.refl _ wr).drew)
      refine region_at (S := SM ba (ba + 1) ga gb k (.slice (some ⟨ga, 0, none⟩) n1 cap1) (.slice (some ⟨gb, 0, none⟩) n1 cap2) x y (.slice xd xn xc) (.slice yd yn yc)) 12 rfl mixedP hS0 (fun _ => ?_)
      refine take_at (i := 0) 28 rfl rfl (by kernel_rfl) (by kernel_rfl) (by kernel_rfl) (fun _ _ _ h => h) (by rfl) (fun w hSw => by (have hSw2 := SM.facts hSw; clear hSw; go_simp; first | done | exact rfl)) (by assumption) ?_
      simp only [List.setIfInBounds_toArray, List.set_cons_zero, List.set_cons_succ]
      refine take_at (i := 1) 29 rfl rfl (by kernel_rfl) (by kernel_rfl) (by kernel_rfl) (fun _ _ _ h => h) (by rfl) (fun w hSw => by (have hSw2 := SM.facts hSw; clear hSw; go_simp; first | done | exact rfl)) (by assumption) ?_
      simp only [List.setIfInBounds_toArray, List.set_cons_zero, List.set_cons_succ]
      refine take_at (i := 2) 30 rfl rfl (by kernel_rfl) (by kernel_rfl) (by kernel_rfl) (fun _ _ _ h => h) (by rfl) (fun w hSw => by (have hSw2 := SM.facts hSw; clear hSw; go_simp; first | done | exact rfl)) (by assumption) ?_
      simp only [List.setIfInBounds_toArray, List.set_cons_zero, List.set_cons_succ]
      refine take_at (i := 3) 31 rfl rfl (by kernel_rfl) (by kernel_rfl) (by kernel_rfl) (fun _ _ _ h => h) (by rfl) (fun w hSw => by (have hSw2 := SM.facts hSw; clear hSw; go_simp; first | done | exact rfl)) (by assumption) ?_
      simp only [List.setIfInBounds_toArray, List.set_cons_zero, List.set_cons_succ]
      refine take_at (i := 4) 32 rfl rfl (by kernel_rfl) (by kernel_rfl) (by kernel_rfl) (fun _ _ _ h => h) (by rfl) (fun w hSw => by (have hSw2 := SM.facts hSw; clear hSw; go_simp; first | done | exact rfl)) (by assumption) ?_
      simp only [List.setIfInBounds_toArray, List.set_cons_zero, List.set_cons_succ]
      refine take_at (i := 5) 33 rfl rfl (by kernel_rfl) (by kernel_rfl) (by kernel_rfl) (fun _ _ _ h => h) (by rfl) (fun w hSw => by (have hSw2 := SM.facts hSw; clear hSw; go_simp; first | done | exact rfl)) (by assumption) ?_
      simp only [List.setIfInBounds_toArray, List.set_cons_zero, List.set_cons_succ]
      refine take_at (i := 6) 34 rfl rfl (by kernel_rfl) (by kernel_rfl) (by kernel_rfl) (fun _ _ _ h => h) (by rfl) (fun w hSw => by (have hSw2 := SM.facts hSw; clear hSw; go_simp; first | done | exact rfl)) (by assumption) ?_
      simp only [List.setIfInBounds_toArray, List.set_cons_zero, List.set_cons_succ]
      refine take_at (i := 7) 35 rfl rfl (by kernel_rfl) (by kernel_rfl) (by kernel_rfl) (fun _ _ _ h => h) (by rfl) (fun w hSw => by (have hSw2 := SM.facts hSw; clear hSw; go_simp; first | done | exact rfl)) (by assumption) ?_
      simp only [List.setIfInBounds_toArray, List.set_cons_zero, List.set_cons_succ]
      refine take_at (i := 8) 36 rfl rfl (by kernel_rfl) (by kernel_rfl) (by kernel_rfl) (fun _ _ _ h => h) (by rfl) (fun w hSw => by (have hSw2 := SM.facts hSw; clear hSw; go_simp; first | done | exact rfl)) (by assumption) ?_
      simp only [List.setIfInBounds_toArray, List.set_cons_zero, List.set_cons_succ]
      refine take_at (i := 9) 37 rfl rfl (by kernel_rfl) (by kernel_rfl) (by kernel_rfl) (fun _ _ _ h => h) (by rfl) (fun w hSw => by (have hSw2 := SM.facts hSw; clear hSw; go_simp; first | done | exact rfl)) (by assumption) ?_
      simp only [List.setIfInBounds_toArray, List.set_cons_zero, List.set_cons_succ]
      refine one_call (i := 10) (w0 := wr.drew) 38 83 #[.agg #[.bool x.final, .int .i64 x.out, .slice xd xn xc], .agg #[.bool y.final, .int .i64 y.out, .slice yd yn yc]] (by kernel_rfl) rfl rfl (by rfl) (by kernel_rfl) ?_
      refine HCALL.mono ?_
      rintro e w3 ⟨rfl, hb3⟩
      have hb3r : Below wr.heap.size wr w3 := (Below.refl _ wr).drew.trans hb3
      have hS3 := HSM.out.below hb3r
      refine ⟨_, rfl, hS3, fun _ => ?_⟩
      simp only [List.setIfInBounds_toArray, List.set_cons_zero, List.set_cons_succ]
      refine one_value (i := 11) (v := .bool (decide (x = y))) (w' := w3) 6 (by kernel_rfl) rfl rfl (by rfl) (by kernel_rfl) hS3 (fun _ => ?_)
      refine wpAnyH_done (by kernel_rfl) ?_ _
      have HB3 : Hid (Below W.heap.size W w3) := HBr.out.trans (hb3r.mono HBr.out.size)
      have HB3w : Hid (Below w.heap.size w w3) := HBW.out.trans (hb3r.mono HBW.out.size)
      clear hb3 hb3r hS3 hS0 HCALL
      by_cases hxy : x = y
      · have HK2 : Hid (b.take (k + 1) = c.take (k + 1)) := HNX.out hxy
        rw [decide_eq_true hxy]
        clear hxy
        simp only [List.setIfInBounds_toArray, List.set_cons_zero, List.set_cons_succ]
        go_wp2
        go_roundg (n1 - (k + 1))
        case measure => omega
        case rel => exact ⟨k + 1, by go_num, by omega, Nat.le_refl _, HB3, HK2⟩
      · have HE : Hid (F = false) := HNE.out hxy
        rw [decide_eq_false hxy]
        clear hxy
        simp only [List.setIfInBounds_toArray, List.set_cons_zero, List.set_cons_succ]
        go_wp2
        go_ret
        exact ⟨by rw [HE.out]; rfl, HB3w.out⟩
    · have hltz : ¬ (k : Int) < (n1 : Int) := by omega
      have HE : Hid (F = true) := by
        show _ = _
        rw [← HF.out]
        refine decide_eq_true ⟨by trivial, ?_⟩
        have h := HK.out
        rw [List.take_of_length_le (by have := HN.out; omega), List.take_of_length_le (by have := HN.out; omega)] at h
        exact h
      go_wp2
      go_ret
      exact ⟨by rw [HE.out]; rfl, HBW.out⟩
end Go.Proofs.YtjhjejjnkpbphaaDoor

/- Cut: what the seat's translation lacks is left out. -/
/- PackBack: the law's own walk. -/
namespace Go.Proofs.YtjhjejjnkpbphaaDoor
open Go.RowKit Nums Fm Pk
set_option maxRecDepth 100000

theorem MRow.st {B : Nat} {W : World} {vs : Value} {b : List St} (h : MRow B W vs (b.map ofSt)) : StRow B W vs b := by
  obtain ⟨xss, a1, a2, a3⟩ := h.ex
  refine ⟨xss, a1, by rw [a2, List.length_map], fun i s hi => ?_⟩
  obtain ⟨va, e1, e2⟩ := a3 i (ofSt s) (by rw [List.getElem?_map, hi]; rfl)
  refine ⟨va, e1, ?_⟩
  have hcell : (s.arcs.map ofArc).map cellsRA = s.arcs.map cellsA := by rw [List.map_map]; rfl
  rw [show (ofSt s).arcs = s.arcs.map ofArc from rfl, hcell] at e2
  exact e2
/-- The bytes behind Pack. -/
structure BP (w W : World) (l : List Pr) (mb : Nat) (base : Int) (vs : Value) (b : List St) (vb : Value) : Prop extends BB w W l mb base vs b where
  by' : Cd.Bytes w.heap.size W vb (packB base (b.map ofSt))
theorem BP.below {w W W' : World} {l : List Pr} {mb : Nat} {base : Int} {vs : Value} {b : List St} {vb : Value} (h : BP w W l mb base vs b vb) (hb : Below W.heap.size W W') : BP w W' l mb base vs b vb :=
  ⟨h.toBB.below hb, h.by'.below hb⟩
theorem BB.pack {w W : World} {l : List Pr} {mb : Nat} {base : Int} {vs : Value} {b : List St} (h : BB w W l mb base vs b) (hC : buildE l = 0) (ht : Tabs w) : Calls Tryd.prog 7 #[.agg #[.int .i64 base, vs]] W fun e w' => ∃ ad n cap, e = .returned (.tuple #[.slice ad n cap, .int .i64 0]) ∧ (packB base (b.map ofSt)).length = n ∧ n ≤ cap ∧ (ad = none → cap = 0) ∧ BP w w' l mb base vs b (.slice ad n cap) := by
  have hr := built_right hC
  have hf := mach_few (l := l)
  rw [h.eq] at hr hf
  refine (Pack_any W.heap.size W base (b.map ofSt) vs (built_at h.row hC (by rw [h.eq])) (Nat.le_refl _) (ht.below h.bel) (by rw [List.length_map]; simp only at hf; omega)).mono ?_
  intro e w' hs
  obtain ⟨ad, n, cap, e1, e2⟩ := hs.yes hr
  obtain ⟨ao, c, ev, hc1, hc2, _⟩ := e2.row
  simp only [Value.slice.injEq] at ev
  obtain ⟨rfl, rfl, rfl⟩ := ev
  exact ⟨ad, _, cap, e1, rfl, hc1, hc2, h.below hs.bel, e2.mono h.bel.size⟩
theorem BP.unpack {w W : World} {l : List Pr} {mb : Nat} {base : Int} {vs : Value} {b : List St} {vb : Value} (h : BP w W l mb base vs b vb) (hC : buildE l = 0) (ht : Tabs w) : Calls Tryd.prog 18 #[vb] W fun e w' => ∃ ad n cap, e = .returned (.tuple #[.agg #[.int .i64 base, .slice ad n cap], .int .i64 0]) ∧ Below W.heap.size W w' ∧ StRow W.heap.size w' (.slice ad n cap) b ∧ BP w w' l mb base vs b vb := by
  have hg := good_built hC
  have hl := built_len hC
  rw [h.eq] at hg hl
  simp only at hg hl
  refine (Unpack_any W.heap.size vb _ W h.by'.row (Nat.le_refl _) (packB_byte _ _) (by omega) (ht.below h.bel)).mono ?_
  intro e w' hs
  obtain ⟨vs', e1, e2⟩ := hs.yes hg.1
  rw [hg.2.1] at e1
  rw [hg.2.2] at e2
  have hst := e2.st
  obtain ⟨ad, n, cap, rfl, _⟩ := StRow.form hst
  exact ⟨ad, n, cap, e1, hs.bel, hst, h.below hs.bel⟩
end Go.Proofs.YtjhjejjnkpbphaaDoor
