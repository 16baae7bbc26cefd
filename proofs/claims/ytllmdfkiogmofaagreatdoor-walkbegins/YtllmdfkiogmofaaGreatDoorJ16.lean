/- Texts that were written apart, joined. -/
import Derived.Test.YtllmdfkiogmofaaGreatDoorJ9
import Derived.Test.YtllmdfkiogmofaaGreatDoorJ6
import Derived.Test.YtllmdfkiogmofaaGreatDoorJ8
import Derived.Test.YtllmdfkiogmofaaGreatDoorJ5
import Derived.Deep.RegionHeld3
import Derived.Deep.DrawnRows
import Derived.Deep.QuietTactic
import Derived.BigQuiet
import Derived.Test.YtllmdfkiogmofaaGreatDoorJ7
/- The reference's SameState and Same. -/
namespace Go.Proofs.YtllmdfkiogmofaaGreatDoor
open Go.RowKit Nums Fm
set_option maxRecDepth 100000
theorem StRow.at {B : Nat} {w : World} {vs : Value} {b : List St} (h : StRow B w vs b) (h0 : 0 < b.length) : ∃ g cap, vs = .slice (some ⟨g, 0, none⟩) b.length cap ∧ g < w.heap.size ∧ ∀ (i : Nat) (s : St), b[i]? = some s → ∃ va, AOwn B w va s.arcs ∧ w.cell? ⟨g, i * 3, none⟩ = some (.bool s.final) ∧ w.cell? ⟨g, i * 3 + 1, none⟩ = some (.int .i64 s.out) ∧ w.cell? ⟨g, i * 3 + 2, none⟩ = some va := by
  obtain ⟨xss, h1, h2, h3⟩ := h
  obtain ⟨g, cap, rfl, hg, _, _, hc⟩ := h1.cell (by omega)
  refine ⟨g, cap, by rw [h2], hg, fun i s hi => ?_⟩
  obtain ⟨va, h4, h5⟩ := h3 i s hi
  exact ⟨va, h5, hc i 0 _ _ h4 rfl, hc i 1 _ _ h4 rfl, hc i 2 _ _ h4 rfl⟩
theorem StRow.shape {B : Nat} {w : World} {vs : Value} {b : List St} (h : StRow B w vs b) : ∃ ad cap, vs = .slice ad b.length cap := by
  obtain ⟨xss, h1, h2, _⟩ := h
  obtain ⟨ad, cap, h3, _⟩ := h1.shape
  exact ⟨ad, cap, by rw [h3, h2]⟩
theorem GOwn.small {T : TypeId} {k B : Nat} {w : World} {v : Value} {xss : List (List Value)} (h : GOwn T k B w v xss) : xss.length ≤ maxLen := by
  obtain ⟨_, hl, ⟨_, h0⟩ | ⟨g, cap, cur, _, _, _, h3, h4, _⟩⟩ := h
  · omega
  · omega

theorem take_alike {α : Type} {l m : List α} {k : Nat} {x y : α} (h : l.take k = m.take k) (hx : l[k]? = some x) (hy : m[k]? = some y) (e : x = y) : l.take (k + 1) = m.take (k + 1) := by
  obtain ⟨h1, e1⟩ := List.getElem?_eq_some_iff.1 hx
  obtain ⟨h2, e2⟩ := List.getElem?_eq_some_iff.1 hy
  rw [List.take_succ_eq_append_getElem h1, List.take_succ_eq_append_getElem h2, e1, e2, h, e]
set_option maxHeartbeats 4000000 in
theorem sameState_any (B B' : Nat) (w : World) (s t : St) (va vb : Value) (ha : AOwn B w va s.arcs) (hb : AOwn B' w vb t.arcs) :
    Calls Tryz.prog 26 #[.agg #[.bool s.final, .int .i64 s.out, va], .agg #[.bool t.final, .int .i64 t.out, vb]] w fun e w' => e = .returned (.bool (decide (s = t))) ∧ Below w.heap.size w w' := by
  obtain ⟨ad1, cap1, rfl, _⟩ := GOwn.shape ha
  obtain ⟨ad2, cap2, rfl, _⟩ := GOwn.shape hb
  rw [List.length_map] at ha hb ⊢
  rw [List.length_map]
  obtain ⟨n1, hn1⟩ : ∃ n, s.arcs.length = n := ⟨_, rfl⟩
  obtain ⟨n2, hn2⟩ : ∃ n, t.arcs.length = n := ⟨_, rfl⟩
  have HN : Hid (s.arcs.length = n1 ∧ t.arcs.length = n2) := ⟨hn1, hn2⟩
  have hm1 : n1 ≤ 9223372036854775807 := by have := GOwn.small ha; rw [List.length_map, hn1] at this; simp only [maxLen] at this; omega
  have hm2 : n2 ≤ 9223372036854775807 := by have := GOwn.small hb; rw [List.length_map, hn2] at this; simp only [maxLen] at this; omega
  rw [hn1] at ha ⊢
  rw [hn2] at hb ⊢
  have HR1 : Hid (AOwn B w (.slice ad1 n1 cap1) s.arcs) := ha
  have HR2 : Hid (AOwn B' w (.slice ad2 n2 cap2) t.arcs) := hb
  obtain ⟨F, hF⟩ : ∃ F, decide (s = t) = F := ⟨_, rfl⟩
  have HF : Hid (decide (s = t) = F) := hF
  rw [hF]
  have HBB0 : Hid (∀ o1 o2, Below w.heap.size w ((w.alloc o1).alloc o2)) := fun o1 o2 => ((Below.refl _ w).alloc (Nat.le_refl _) o1).alloc (by simp) o2
  clear ha hb hn1 hn2 hF
  by_cases hf : ¬ s.final = t.final
  · have HE : Hid (F = false) := by
      show _ = _
      rw [← HF.out]
      exact decide_eq_false fun e => hf (by rw [e])
    generalize s.final = f1 at *
    generalize t.final = f2 at *
    have hfb : (f1 == f2) = false := beq_eq_false_iff_ne.2 hf
    go_enter Tryz.func26, Tryz.ntmps26
    go_wp2
    go_ret
    exact ⟨by rw [HE.out]; rfl, HBB0.out _ _⟩
  have hf' : s.final = t.final := Classical.not_not.1 hf
  by_cases ho : ¬ s.out = t.out
  · have HE : Hid (F = false) := by
      show _ = _
      rw [← HF.out]
      exact decide_eq_false fun e => ho (by rw [e])
    have hob : (s.out == t.out) = false := beq_eq_false_iff_ne.2 ho
    rw [hf']
    go_enter Tryz.func26, Tryz.ntmps26
    go_wp2
    go_ret
    exact ⟨by rw [HE.out]; rfl, HBB0.out _ _⟩
  have ho' : s.out = t.out := Classical.not_not.1 ho
  by_cases hne : ¬ n1 = n2
  · have HE : Hid (F = false) := by
      show _ = _
      rw [← HF.out]
      exact decide_eq_false fun e => hne (by rw [← HN.out.1, ← HN.out.2, e])
    have hneb : ((n1 : Int) == (n2 : Int)) = false := beq_eq_false_iff_ne.2 (by omega)
    rw [hf', ho']
    go_enter Tryz.func26, Tryz.ntmps26
    go_wp2
    go_ret
    exact ⟨by rw [HE.out]; rfl, HBB0.out _ _⟩
  have hne' : n1 = n2 := Classical.not_not.1 hne
  subst hne'
  have HFO : Hid (s.final = t.final ∧ s.out = t.out) := ⟨hf', ho'⟩
  rw [hf', ho']
  clear hf hf' ho ho' hne
  go_enter Tryz.func26, Tryz.ntmps26
  go_upto_region 3 with fail
  obtain ⟨W, hW⟩ : ∃ W, W = (w.alloc (.cells #[.bool t.final, .int .i64 t.out, .slice ad1 n1 cap1] 61)).alloc (.cells #[.bool t.final, .int .i64 t.out, .slice ad2 n1 cap2] 61) := ⟨_, rfl⟩
  rw [← hW]
  have HW : Hid (Below w.heap.size w W) := by show Below _ _ _; rw [hW]; exact HBB0.out _ _
  have b1 : ∀ q, (W.drewN q).cell? ⟨w.heap.size, 2, none⟩ = some (.slice ad1 n1 cap1) := fun q => by rw [hW]; simp
  have b2 : ∀ q, (W.drewN q).cell? ⟨w.heap.size + 1, 2, none⟩ = some (.slice ad2 n1 cap2) := fun q => by rw [hW]; simp
  have HBB : Hid (∀ q, Below w.heap.size w (W.drewN q)) := fun q => belowN HW.out q
  clear hW
  go_wp2
  go_loopg [5] n1 (fun g s5 wr => ∃ (k q : Nat), s5 = .int .i64 k ∧ k ≤ n1 ∧ n1 - k ≤ g ∧ wr = W.drewN q ∧ Hid (s.arcs.take k = t.arcs.take k))
  case atStart => exact ⟨0, 0, rfl, Nat.zero_le _, by omega, rfl, by show _ = _; simp⟩
  case round =>
    obtain ⟨k, q, rfl, hk, hg, rfl, HK⟩ := hrel
    have c1' := b1 q
    have c2' := b2 q
    by_cases hlt : k < n1
    · have hltz : (k : Int) < (n1 : Int) := by omega
      obtain ⟨x, hx⟩ : ∃ x, s.arcs[k]? = some x := ⟨s.arcs[k]'(by have := HN.out; omega), List.getElem?_eq_getElem _⟩
      obtain ⟨y, hy⟩ : ∃ y, t.arcs[k]? = some y := ⟨t.arcs[k]'(by have := HN.out; omega), List.getElem?_eq_getElem _⟩
      have r1 : AOwn B W (.slice ad1 n1 cap1) s.arcs := GOwn.below HR1.out HW.out
      have r2 : AOwn B' W (.slice ad2 n1 cap2) t.arcs := GOwn.below HR2.out HW.out
      obtain ⟨g1, ca1, ea1, hg1, _, _, hc1⟩ := r1.at (by have := HN.out; omega)
      obtain ⟨g2, ca2, ea2, hg2, _, _, hc2⟩ := r2.at (by have := HN.out; omega)
      simp only [Value.slice.injEq] at ea1 ea2
      obtain ⟨rfl, hnl1, rfl⟩ := ea1
      obtain ⟨rfl, hnl2, rfl⟩ := ea2
      obtain ⟨p0, p1, p2⟩ := hc1 k x hx
      obtain ⟨q0, q1, q2⟩ := hc2 k y hy
      have HX : Hid (s.arcs[k]? = some x ∧ t.arcs[k]? = some y) := ⟨hx, hy⟩
      have HNX : Hid (x = y → s.arcs.take (k + 1) = t.arcs.take (k + 1)) := fun e => take_alike HK.out hx hy e
      have HNE : Hid (x ≠ y → F = false) := fun e => by
        rw [← HF.out]
        refine decide_eq_false fun e2 => e ?_
        have h1 := HX.out.1
        rw [show s.arcs = t.arcs from by rw [e2], HX.out.2] at h1
        exact (Option.some.inj h1).symm
      clear hc1 hc2 hx hy r1 r2 hnl1 hnl2
      by_cases e1 : x.label = y.label
      · have s1 : (x.label == y.label) = true := beq_iff_eq.2 e1
        by_cases e2 : x.out = y.out
        · have s2 : (x.out == y.out) = true := beq_iff_eq.2 e2
          by_cases e3 : x.to = y.to
          · have s3 : ((x.to : Int) == (y.to : Int)) = true := beq_iff_eq.2 (by omega)
            have HK2 : Hid (s.arcs.take (k + 1) = t.arcs.take (k + 1)) := HNX.out (by cases x; cases y; simp only at e1 e2 e3; rw [e1, e2, e3])
            clear e1 e2 e3
            go_upto_region 6 with fail
            go_quiet (fail)
            go_wp2_with fail
            go_roundg (n1 - (k + 1))
            case measure => omega
            case rel => exact ⟨k + 1, q + nq, by go_num, by omega, Nat.le_refl _, rfl, HK2⟩
          · have s3 : ((x.to : Int) == (y.to : Int)) = false := beq_eq_false_iff_ne.2 (by omega)
            have HE : Hid (F = false) := HNE.out (fun e => e3 (by rw [e]))
            clear e1 e2 e3
            go_upto_region 6 with fail
            go_quiet (fail)
            go_wp2_with fail
            go_ret
            exact ⟨by rw [HE.out]; rfl, by first | exact HBB.out _ | exact belowN (HBB.out _) _⟩
        · have s2 : (x.out == y.out) = false := beq_eq_false_iff_ne.2 e2
          have HE : Hid (F = false) := HNE.out (fun e => e2 (by rw [e]))
          clear e1 e2
          go_upto_region 6 with fail
          go_quiet (fail)
          go_wp2_with fail
          go_ret
          exact ⟨by rw [HE.out]; rfl, by first | exact HBB.out _ | exact belowN (HBB.out _) _⟩
      · have s1 : (x.label == y.label) = false := beq_eq_false_iff_ne.2 e1
        have HE : Hid (F = false) := HNE.out (fun e => e1 (by rw [e]))
        clear e1
        go_upto_region 6 with fail
        go_quiet (fail)
        go_wp2_with fail
        go_ret
        exact ⟨by rw [HE.out]; rfl, by first | exact HBB.out _ | exact belowN (HBB.out _) _⟩
    · have hltz : ¬ (k : Int) < (n1 : Int) := by omega
      have HE : Hid (F = true) := by
        show _ = _
        rw [← HF.out]
        refine decide_eq_true ?_
        have h := HK.out
        rw [List.take_of_length_le (by have := HN.out; omega), List.take_of_length_le (by have := HN.out; omega)] at h
        have h2 := HFO.out
        cases s; cases t
        simp only at h h2
        rw [h, h2.1, h2.2]
      go_wp2
      go_ret
      exact ⟨by rw [HE.out]; rfl, by first | exact HBB.out _ | exact belowN (HBB.out _) _⟩
/-- What Same looks at in a round. -/
structure SM (ba bb ga gb i : Nat) (va vb : Value) (s t : St) (ua ub : Value) (w : World) : Prop where
  a : w.cell? ⟨ba, 1, none⟩ = some va
  b : w.cell? ⟨bb, 1, none⟩ = some vb
  a0 : w.cell? ⟨ga, i * 3, none⟩ = some (.bool s.final)
  a1 : w.cell? ⟨ga, i * 3 + 1, none⟩ = some (.int .i64 s.out)
  a2 : w.cell? ⟨ga, i * 3 + 2, none⟩ = some ua
  b0 : w.cell? ⟨gb, i * 3, none⟩ = some (.bool t.final)
  b1 : w.cell? ⟨gb, i * 3 + 1, none⟩ = some (.int .i64 t.out)
  b2 : w.cell? ⟨gb, i * 3 + 2, none⟩ = some ub
theorem SM.facts {ba bb ga gb i : Nat} {va vb : Value} {s t : St} {ua ub : Value} {w : World} (h : SM ba bb ga gb i va vb s t ua ub w) : w.cell? ⟨ba, 1, none⟩ = some va ∧ w.cell? ⟨bb, 1, none⟩ = some vb ∧ w.cell? ⟨ga, i * 3, none⟩ = some (.bool s.final) ∧ w.cell? ⟨ga, i * 3 + 1, none⟩ = some (.int .i64 s.out) ∧ w.cell? ⟨ga, i * 3 + 2, none⟩ = some ua ∧ w.cell? ⟨gb, i * 3, none⟩ = some (.bool t.final) ∧ w.cell? ⟨gb, i * 3 + 1, none⟩ = some (.int .i64 t.out) ∧ w.cell? ⟨gb, i * 3 + 2, none⟩ = some ub := ⟨h.a, h.b, h.a0, h.a1, h.a2, h.b0, h.b1, h.b2⟩
theorem SM.below {ba bb ga gb i : Nat} {va vb : Value} {s t : St} {ua ub : Value} {w w' : World} (h : SM ba bb ga gb i va vb s t ua ub w) (hb : Below w.heap.size w w') : SM ba bb ga gb i va vb s t ua ub w' := by
  have k : ∀ {g o : Nat} {v : Value}, w.cell? ⟨g, o, none⟩ = some v → w'.cell? ⟨g, o, none⟩ = some v := fun {g o v} h => (hb.cell (p := ⟨g, o, none⟩) (lt_of_cell h)).trans h
  exact ⟨k h.a, k h.b, k h.a0, k h.a1, k h.a2, k h.b0, k h.b1, k h.b2⟩
theorem StRow.small {B : Nat} {w : World} {vs : Value} {b : List St} (h : StRow B w vs b) : b.length ≤ 9223372036854775807 := by
  obtain ⟨xss, h1, h2, _⟩ := h
  have := GOwn.small h1
  rw [h2] at this
  simp only [maxLen] at this
  omega
set_option maxHeartbeats 4000000 in
theorem same_any (B B' : Nat) (w : World) (p q : Int) (va vb : Value) (b c : List St) (hb : StRow B w va b) (hc : StRow B' w vb c) :
    Calls Tryz.prog 8 #[.agg #[.int .i64 p, va], .agg #[.int .i64 q, vb]] w fun e w' => e = .returned (.bool (decide (p = q ∧ b = c))) ∧ Below w.heap.size w w' := by
  obtain ⟨ad1, cap1, rfl⟩ := hb.shape
  obtain ⟨ad2, cap2, rfl⟩ := hc.shape
  have hm1 := hb.small
  have hm2 := hc.small
  obtain ⟨n1, hn1⟩ : ∃ n, b.length = n := ⟨_, rfl⟩
  obtain ⟨n2, hn2⟩ : ∃ n, c.length = n := ⟨_, rfl⟩
  have HN : Hid (b.length = n1 ∧ c.length = n2) := ⟨hn1, hn2⟩
  rw [hn1] at hb hm1 ⊢
  rw [hn2] at hc hm2 ⊢
  have HR1 : Hid (StRow B w (.slice ad1 n1 cap1) b) := hb
  have HR2 : Hid (StRow B' w (.slice ad2 n2 cap2) c) := hc
  obtain ⟨F, hF⟩ : ∃ F, decide (p = q ∧ b = c) = F := ⟨_, rfl⟩
  have HF : Hid (decide (p = q ∧ b = c) = F) := hF
  rw [hF]
  have HBB0 : Hid (∀ o1 o2, Below w.heap.size w ((w.alloc o1).alloc o2)) := fun o1 o2 => ((Below.refl _ w).alloc (Nat.le_refl _) o1).alloc (by simp) o2
  clear hb hc hn1 hn2 hF
  by_cases hpq : ¬ p = q
  · have HE : Hid (F = false) := by
      show _ = _
      rw [← HF.out]
      exact decide_eq_false fun e => hpq e.1
    have hfb : (p == q) = false := beq_eq_false_iff_ne.2 hpq
    go_enter Tryz.func8, Tryz.ntmps8
    go_wp2
    go_ret
    exact ⟨by rw [HE.out]; rfl, HBB0.out _ _⟩
  have hpq' : p = q := Classical.not_not.1 hpq
  subst hpq'
  by_cases hne : ¬ n1 = n2
  · have HE : Hid (F = false) := by
      show _ = _
      rw [← HF.out]
      exact decide_eq_false fun e => hne (by rw [← HN.out.1, ← HN.out.2, e.2])
    have hneb : ((n1 : Int) == (n2 : Int)) = false := beq_eq_false_iff_ne.2 (by omega)
    go_enter Tryz.func8, Tryz.ntmps8
    go_wp2
    go_ret
    exact ⟨by rw [HE.out]; rfl, HBB0.out _ _⟩
  have hne' : n1 = n2 := Classical.not_not.1 hne
  subst hne'
  clear hpq hne
  go_enter Tryz.func8, Tryz.ntmps8
  go_upto_region 3 with fail
  obtain ⟨W, hW⟩ : ∃ W, W = (w.alloc (.cells #[.int .i64 p, .slice ad1 n1 cap1] 26)).alloc (.cells #[.int .i64 p, .slice ad2 n1 cap2] 26) := ⟨_, rfl⟩
  rw [← hW]
  obtain ⟨ba, hba⟩ : ∃ ba, ba = w.heap.size := ⟨_, rfl⟩
  have HW : Hid (Below w.heap.size w W) := by show Below _ _ _; rw [hW]; exact HBB0.out _ _
  have HB12 : Hid (W.cell? ⟨ba, 1, none⟩ = some (.slice ad1 n1 cap1) ∧ W.cell? ⟨ba + 1, 1, none⟩ = some (.slice ad2 n1 cap2)) := by rw [hba, hW]; exact ⟨by simp, by simp⟩
  rw [← hba]
  clear hW hba
  go_wp2
  go_loopg [5, 6] n1 (fun g s5 _ wr => ∃ (k : Nat), s5 = .int .i64 k ∧ k ≤ n1 ∧ n1 - k ≤ g ∧ Hid (Below W.heap.size W wr) ∧ Hid (b.take k = c.take k))
  case atStart => exact ⟨0, rfl, Nat.zero_le _, by omega, Below.refl _ _, by show _ = _; simp⟩
  case round =>
    obtain ⟨k, rfl, hk, hg, HBr, HK⟩ := hrel
    have c1' : wr.cell? ⟨ba, 1, none⟩ = some (.slice ad1 n1 cap1) := (HBr.out.cell (p := ⟨ba, 1, none⟩) (lt_of_cell HB12.out.1)).trans HB12.out.1
    have c2' : wr.cell? ⟨ba + 1, 1, none⟩ = some (.slice ad2 n1 cap2) := (HBr.out.cell (p := ⟨ba + 1, 1, none⟩) (lt_of_cell HB12.out.2)).trans HB12.out.2
    have hbw : Below w.heap.size w wr := HW.out.trans (HBr.out.mono HW.out.size)
    have HBW : Hid (Below w.heap.size w wr) := hbw
    clear hbw
    by_cases hlt : k < n1
    · have hltz : (k : Int) < (n1 : Int) := by omega
      obtain ⟨x, hx⟩ : ∃ x, b[k]? = some x := ⟨b[k]'(by have := HN.out; omega), List.getElem?_eq_getElem _⟩
      obtain ⟨y, hy⟩ : ∃ y, c[k]? = some y := ⟨c[k]'(by have := HN.out; omega), List.getElem?_eq_getElem _⟩
      obtain ⟨ga, ca1, ea1, hg1, hc1⟩ := (HR1.out.below HBW.out).at (by have := HN.out; omega)
      obtain ⟨gb, ca2, ea2, hg2, hc2⟩ := (HR2.out.below HBW.out).at (by have := HN.out; omega)
      simp only [Value.slice.injEq] at ea1 ea2
      obtain ⟨rfl, hnl1, rfl⟩ := ea1
      obtain ⟨rfl, hnl2, rfl⟩ := ea2
      obtain ⟨ua, hua, p0, p1, p2⟩ := hc1 k x hx
      obtain ⟨ub, hub, q0, q1, q2⟩ := hc2 k y hy
      have hS : SM ba (ba + 1) ga gb k (.slice (some ⟨ga, 0, none⟩) n1 cap1) (.slice (some ⟨gb, 0, none⟩) n1 cap2) x y ua ub wr := ⟨c1', c2', p0, p1, p2, q0, q1, q2⟩
      obtain ⟨xd, xc, hxv, _⟩ := GOwn.shape hua
      obtain ⟨yd, yc, hyv, _⟩ := GOwn.shape hub
      obtain ⟨xn, hxn⟩ : ∃ xn, (x.arcs.map cellsA).length = xn := ⟨_, rfl⟩
      obtain ⟨yn, hyn⟩ : ∃ yn, (y.arcs.map cellsA).length = yn := ⟨_, rfl⟩
      rw [hxn] at hxv
      rw [hyn] at hyv
      subst hxv
      subst hyv
      have HSM : Hid _ := hS
      have HUA : Hid (AOwn B wr (.slice xd xn xc) x.arcs) := hua
      have HUB : Hid (AOwn B' wr (.slice yd yn yc) y.arcs) := hub
      have HNX : Hid (x = y → b.take (k + 1) = c.take (k + 1)) := fun e => take_alike HK.out hx hy e
      have HNE : Hid (x ≠ y → F = false) := fun e => by
        rw [← HF.out]
        refine decide_eq_false fun e2 => e ?_
        have h1 := hx
        rw [e2.2, hy] at h1
        exact (Option.some.inj h1).symm
      clear hc1 hc2 hx hy hnl1 hnl2 hua hub hS p0 p1 p2 q0 q1 q2 hxn hyn
      go_upto_region 6 with fail
      clear c1' c2'
      have hS0 : SM ba (ba + 1) ga gb k (.slice (some ⟨ga, 0, none⟩) n1 cap1) (.slice (some ⟨gb, 0, none⟩) n1 cap2) x y (.slice xd xn xc) (.slice yd yn yc) wr.drew := HSM.out.below (Below.refl _ wr).drew
      have HCALL := sameState_any B B' wr.drew x y _ _ (GOwn.below HUA.out (Below.refl _ wr).drew) (GOwn.below HUB.out (Below.refl _ wr).drew)
      refine region_at (S := SM ba (ba + 1) ga gb k (.slice (some ⟨ga, 0, none⟩) n1 cap1) (.slice (some ⟨gb, 0, none⟩) n1 cap2) x y (.slice xd xn xc) (.slice yd yn yc)) 12 rfl mixedP hS0 (fun _ => ?_)
      refine take_at (i := 0) 28 rfl rfl (by kernel_rfl) (by kernel_rfl) (by kernel_rfl) (fun _ _ _ h => h) (by rfl) (fun w hSw => by (have hSw2 := SM.facts hSw; clear hSw; go_simp; first | done | exact rfl)) (by assumption) ?_
      simp only [List.setIfInBounds_toArray, List.set_cons_zero, List.set_cons_succ]
      refine take_at (i := 1) 29 rfl rfl (by kernel_rfl) (by kernel_rfl) (by kernel_rfl) (fun _ _ _ h => h) (by rfl) (fun w hSw => by (have hSw2 := SM.facts hSw; clear hSw; go_simp; first | done | exact rfl)) (by assumption) ?_
      simp only [List.setIfInBounds_toArray, List.set_cons_zero, List.set_cons_succ]
      refine take_at (i := 2) 30 rfl rfl (by kernel_rfl) (by kernel_rfl) (by kernel_rfl) (fun _ _ _ h => h) (by rfl) (fun w hSw => by (have hSw2 := SM.facts hSw; clear hSw; go_simp; first | done | exact rfl)) (by assumption) ?_
      simp only [List.setIfInBounds_toArray, List.set_cons_zero, List.set_cons_succ]
      refine take_at (i := 3) 31 rfl rfl (by kernel_rfl) (by kernel_rfl) (by kernel_rfl) (fun _ _ _ h => h) (by rfl) (fun w hSw => by (have hSw2 := SM.facts hSw; clear hSw; go_simp; first | done | exact rfl)) (by assumption) ?_
      simp only [List.setIfInBounds_toArray, List.set_cons_zero, List.set_cons_succ]
      refine take_at (i := 4) 32 rfl rfl (by kernel_rfl) (by kernel_rfl) (by kernel_rfl) (fun _ _ _ h => h) (by rfl) (fun w hSw => by (have hSw2 := SM.facts hSw; clear hSw; go_simp; first | done | exact rfl)) (by assumption) ?_
      simp only [List.setIfInBounds_toArray, List.set_cons_zero, List.set_cons_succ]
      refine take_at (i := 5) 33 rfl rfl (by kernel_rfl) (by kernel_rfl) (by kernel_rfl) (fun _ _ _ h => h) (by rfl) (fun w hSw => by (have hSw2 := SM.facts hSw; clear hSw; go_simp; first | done | exact rfl)) (by assumption) ?_
      simp only [List.setIfInBounds_toArray, List.set_cons_zero, List.set_cons_succ]
      refine take_at (i := 6) 34 rfl rfl (by kernel_rfl) (by kernel_rfl) (by kernel_rfl) (fun _ _ _ h => h) (by rfl) (fun w hSw => by (have hSw2 := SM.facts hSw; clear hSw; go_simp; first | done | exact rfl)) (by assumption) ?_
      simp only [List.setIfInBounds_toArray, List.set_cons_zero, List.set_cons_succ]
      refine take_at (i := 7) 35 rfl rfl (by kernel_rfl) (by kernel_rfl) (by kernel_rfl) (fun _ _ _ h => h) (by rfl) (fun w hSw => by (have hSw2 := SM.facts hSw; clear hSw; go_simp; first | done | exact rfl)) (by assumption) ?_
      simp only [List.setIfInBounds_toArray, List.set_cons_zero, List.set_cons_succ]
      refine take_at (i := 8) 36 rfl rfl (by kernel_rfl) (by kernel_rfl) (by kernel_rfl) (fun _ _ _ h => h) (by rfl) (fun w hSw => by (have hSw2 := SM.facts hSw; clear hSw; go_simp; first | done | exact rfl)) (by assumption) ?_
      simp only [List.setIfInBounds_toArray, List.set_cons_zero, List.set_cons_succ]
      refine take_at (i := 9) 37 rfl rfl (by kernel_rfl) (by kernel_rfl) (by kernel_rfl) (fun _ _ _ h => h) (by rfl) (fun w hSw => by (have hSw2 := SM.facts hSw; clear hSw; go_simp; first | done | exact rfl)) (by assumption) ?_
      simp only [List.setIfInBounds_toArray, List.set_cons_zero, List.set_cons_succ]
      refine one_call (i := 10) (w0 := wr.drew) 38 26 #[.agg #[.bool x.final, .int .i64 x.out, .slice xd xn xc], .agg #[.bool y.final, .int .i64 y.out, .slice yd yn yc]] (by kernel_rfl) rfl rfl (by rfl) (by kernel_rfl) ?_
      refine HCALL.mono ?_
      rintro e w3 ⟨rfl, hb3⟩
      have hb3r : Below wr.heap.size wr w3 := (Below.refl _ wr).drew.trans hb3
      have hS3 := HSM.out.below hb3r
      refine ⟨_, rfl, hS3, fun _ => ?_⟩
      simp only [List.setIfInBounds_toArray, List.set_cons_zero, List.set_cons_succ]
      refine one_value (i := 11) (v := .bool (decide (x = y))) (w' := w3) 6 (by kernel_rfl) rfl rfl (by rfl) (by kernel_rfl) hS3 (fun _ => ?_)
      refine wpAnyH_done (by kernel_rfl) ?_ _
      have HB3 : Hid (Below W.heap.size W w3) := HBr.out.trans (hb3r.mono HBr.out.size)
      have HB3w : Hid (Below w.heap.size w w3) := HBW.out.trans (hb3r.mono HBW.out.size)
      clear hb3 hb3r hS3 hS0 HCALL
      by_cases hxy : x = y
      · have HK2 : Hid (b.take (k + 1) = c.take (k + 1)) := HNX.out hxy
        rw [decide_eq_true hxy]
        clear hxy
        simp only [List.setIfInBounds_toArray, List.set_cons_zero, List.set_cons_succ]
        go_wp2
        go_roundg (n1 - (k + 1))
        case measure => omega
        case rel => exact ⟨k + 1, by go_num, by omega, Nat.le_refl _, HB3, HK2⟩
      · have HE : Hid (F = false) := HNE.out hxy
        rw [decide_eq_false hxy]
        clear hxy
        simp only [List.setIfInBounds_toArray, List.set_cons_zero, List.set_cons_succ]
        go_wp2
        go_ret
        exact ⟨by rw [HE.out]; rfl, HB3w.out⟩
    · have hltz : ¬ (k : Int) < (n1 : Int) := by omega
      have HE : Hid (F = true) := by
        show _ = _
        rw [← HF.out]
        refine decide_eq_true ⟨by trivial, ?_⟩
        have h := HK.out
        rw [List.take_of_length_le (by have := HN.out; omega), List.take_of_length_le (by have := HN.out; omega)] at h
        exact h
      go_wp2
      go_ret
      exact ⟨by rw [HE.out]; rfl, HBW.out⟩
end Go.Proofs.YtllmdfkiogmofaaGreatDoor

/- Stands for the elder text of this name, without its law. -/

/- FstLevel: the law's own walk. -/
namespace Go.Proofs.YtllmdfkiogmofaaGreatDoor
open Go.RowKit Nums Fm
set_option maxRecDepth 100000

theorem lowF_snoc (m : Int) {l : List Arc} {k : Nat} {a : Arc} (h : l[k]? = some a) : lowF m (l.take (k + 1)) = if a.out < lowF m (l.take k) then a.out else lowF m (l.take k) := by
  have key : ∀ (l : List Arc) (m : Int) (a : Arc), lowF m (l ++ [a]) = if a.out < lowF m l then a.out else lowF m l := by
    intro l
    induction l with
    | nil => intro m a; rfl
    | cons x r ih => intro m a; rw [List.cons_append, lowF, ih, lowF]
  rw [List.take_add_one, h]
  exact key _ _ _
/-- What is fixed behind Build. -/
structure Behind (w wm : World) (mb : Nat) (base : Int) (vs : Value) (b : List St) : Prop where
  bel : Below w.heap.size w wm
  row : StRow w.heap.size wm vs b
  mac : wm.heap[mb]? = some (.cells #[.int .i64 base, vs] 26)
theorem Behind.mk' {w w1 : World} {l : List Pr} {base : Int} {vs : Value} {b : List St} (h : BuildSays w w1 l base vs b) : Behind w (w1.alloc (.cells #[.int .i64 base, vs] 26)) w1.heap.size base vs b :=
  ⟨h.bel.alloc h.bel.size _, h.row.below ((Below.refl _ w1).alloc (Nat.le_refl _) _), alloc_newP _ _⟩
theorem Behind.below {w wm wm' : World} {mb : Nat} {base : Int} {vs : Value} {b : List St} (h : Behind w wm mb base vs b) (hb : Below wm.heap.size wm wm') : Behind w wm' mb base vs b :=
  ⟨h.bel.trans (hb.mono h.bel.size), h.row.below hb, (hb.block mb (Array.getElem?_eq_some_iff.1 h.mac).1).trans h.mac⟩
theorem mach_small {l : List Pr} : (machOf l).2.length ≤ 102400 := by
  rw [machOf]
  split
  · rename_i h
    have hg := dict_good h.1 h.2
    have h1 := (stF_facts 25 [] (ents l) (ok_of_rise 25 _ hg.1 hg.2.1 hg.2.2)).2.1
    have h2 := bulk_le (dict_ok h.1).en.ln
    rw [ents_len] at h2
    have h3 := (dict_ok h.1).len
    simp only [List.length_nil] at h1
    show (stF 25 [] (ents l)).1.length ≤ 102400
    omega
  · simp
end Go.Proofs.YtllmdfkiogmofaaGreatDoor

/- The law's own 'alive': it is true. -/
namespace Go.Proofs.YtllmdfkiogmofaaGreatDoor
open Go.RowKit Nums
set_option maxRecDepth 100000

/-- What is owned can be read. -/
theorem Made.row {B : Nat} {w : World} {v : Value} {xs : List Int} (h : Made B w v xs) : Row w v xs := by
  obtain ⟨hl, hn | ⟨g, cap, cur, rfl, hb, hg, h1, h2, h3, h4⟩⟩ := h
  · obtain ⟨rfl, h0⟩ := hn
    refine ⟨none, 0, by rw [h0], fun h => by omega⟩
  · refine ⟨_, _, rfl, fun _ => ⟨g, 0, rfl, fun i hi => ?_⟩⟩
    have hc : cur[i]? = some (.int .i32 (xs.getD i 0)) := by
      have e : (cur.toList.take (xs.length * 1))[i]? = (xs.map (Value.int .i32))[i]? := by rw [h4]
      rw [List.getElem?_take, if_pos (by omega)] at e
      rw [← Array.getElem?_toList, e, List.getElem?_map, List.getElem?_eq_getElem hi]
      simp [List.getD_eq_getElem?_getD, List.getElem?_eq_getElem hi]
    simp only [World.cell?, hg, Nat.zero_add]
    simpa using hc
/-- What could be read can be read still. -/
theorem Row.below {w w' : World} {v : Value} {xs : List Int} (h : Row w v xs) (hb : Below w.heap.size w w') : Row w' v xs := by
  obtain ⟨ao, cap, rfl, hc⟩ := h
  refine ⟨ao, cap, rfl, fun h0 => ?_⟩
  obtain ⟨b, off, rfl, hd⟩ := hc h0
  exact ⟨b, off, rfl, fun i hi => (hb.cell (p := ⟨b, off + i, none⟩) (lt_of_cell (hd i hi))).trans (hd i hi)⟩
/-- A row of one new number. -/
theorem row_one (w : World) (r : Int) : Row (w.alloc (Obj.cells #[Value.int .i32 r] 21)) (.slice (some ⟨w.heap.size, 0, none⟩) 1 1) [r] := by
  refine ⟨_, _, rfl, fun _ => ⟨w.heap.size, 0, rfl, fun i hi => ?_⟩⟩
  simp at hi
  subst hi
  simp

theorem rs_ae : rs [97, 195, 169] = some [97, 233] := by decide +kernel
theorem text_euro : allR [8364] = true ∧ textS [8364] = ⟨#[226, 130, 172]⟩ := by decide +kernel
theorem word_x : wordB [120] = true := by decide +kernel

end Go.Proofs.YtllmdfkiogmofaaGreatDoor

/- What the reference reckons, in plain numbers. No program is named here. -/
namespace Go.Proofs.YtllmdfkiogmofaaGreatDoor.Nums

/-- The number that so many bytes would say. -/
def sd (l : List UInt8) (n : Nat) : Int :=
  if n = 1 then bt l 0 else if n = 2 then bt l 0 % 32 * 64 + bt l 1 % 64
  else if n = 3 then (bt l 0 % 16 * 64 + bt l 1 % 64) * 64 + bt l 2 % 64
  else ((bt l 0 % 8 * 64 + bt l 1 % 64) * 64 + bt l 2 % 64) * 64 + bt l 3 % 64
theorem sd1 (l : List UInt8) : sd l 1 = bt l 0 := rfl
theorem sd2 (l : List UInt8) : sd l 2 = bt l 0 % 32 * 64 + bt l 1 % 64 := rfl
theorem sd3 (l : List UInt8) : sd l 3 = (bt l 0 % 16 * 64 + bt l 1 % 64) * 64 + bt l 2 % 64 := rfl
theorem sd4 (l : List UInt8) : sd l 4 = ((bt l 0 % 8 * 64 + bt l 1 % 64) * 64 + bt l 2 % 64) * 64 + bt l 3 % 64 := rfl

theorem rd_zero {l : List UInt8} (h : (rd l).2 = 0) : rd l = (0, 0) := by
  revert h
  unfold rd
  by_cases c1 : bt l 0 < 128
  · rw [if_pos c1]; intro h; cases h
  rw [if_neg c1]
  split
  · intro h; cases h
  split
  · intro h; cases h
  split
  · intro h; cases h
  intro _; rfl
theorem rd_said {l : List UInt8} (h : (rd l).2 ≠ 0) : (rd l).1 = sd l (rd l).2 := by
  have c0 := bt_bd l 0
  revert h
  unfold rd
  by_cases c1 : bt l 0 < 128
  · rw [if_pos c1]; intro _; exact (sd1 l).symm
  rw [if_neg c1]
  split
  · rename_i c; intro _
    show acc 192 l 2 = sd l 2
    rw [acc2, sd2]; omega
  split
  · rename_i c; intro _
    show acc 224 l 3 = sd l 3
    rw [acc3, sd3]; omega
  split
  · rename_i c; intro _
    show acc 240 l 4 = sd l 4
    rw [acc4, sd4]; omega
  intro h; exact absurd rfl h

/-- The reference's test at n holds just where 'rd' tells n bytes. -/
theorem first_yes {l : List UInt8} {n : Nat} (hn : n ≤ l.length) (hr : isR (sd l n) = true) (hw : wr (sd l n) = l.take n) : rd l = (sd l n, n) := by
  have h := rd_wr hr (l.drop n)
  rw [hw, List.take_append_drop] at h
  rw [h]
  have : (wr (sd l n)).length = (l.take n).length := by rw [hw]
  rw [wr_len, List.length_take] at this
  rw [this, Nat.min_eq_left hn]
theorem first_no {l : List UInt8} (hl : l ≠ []) {n : Nat} (h1 : 1 ≤ n) (h : ¬ (isR (sd l n) = true ∧ wr (sd l n) = l.take n)) : (rd l).2 ≠ n := by
  intro e
  have h0 : (rd l).2 ≠ 0 := by omega
  have hs := rd_said h0
  rw [e] at hs
  obtain ⟨hr, hlen, hb⟩ := rd_back hl (r := sd l n) (n := n) (Prod.ext hs e) (by omega)
  refine h ⟨hr, ?_⟩
  have e2 : l.take n = (wr (sd l n) ++ l.drop n).take n := congrArg (List.take n) hb
  rw [e2, List.take_append_of_le_length (by rw [wr_len]; omega), List.take_of_length_le (by rw [wr_len]; omega)]
theorem sd_bd (l : List UInt8) (n : Nat) : 0 ≤ sd l n ∧ sd l n < 2097152 := by
  have c0 := bt_bd l 0
  unfold sd
  by_cases h1 : n = 1
  · rw [if_pos h1]; omega
  rw [if_neg h1]
  by_cases h2 : n = 2
  · rw [if_pos h2]; omega
  rw [if_neg h2]
  by_cases h3 : n = 3
  · rw [if_pos h3]; omega
  rw [if_neg h3]; omega
end Go.Proofs.YtllmdfkiogmofaaGreatDoor.Nums

/- The reference's own small functions: what each of them returns. -/
namespace Go.Proofs.YtllmdfkiogmofaaGreatDoor
open Go.RowKit Nums
set_option maxRecDepth 100000
attribute [local go_sem ↓] Go.wp_at_zero Go.wp_at_succ

set_option maxHeartbeats 400000 in
theorem Rune_any (r : Int) (w : World) : Calls Tryz.prog 67 #[.int .i64 r] w fun e w' => e = .returned (.bool (isR r)) ∧ w' = w := by
  by_cases h0 : 0 ≤ r
  · by_cases h1 : r ≤ 1114111
    · by_cases h2 : r < 55296
      · go_enter Tryz.func67, Tryz.ntmps67
        go_wp2
        go_ret
        exact ⟨ret_bool (by first | (rw [isR_of (by omega)]) | (rw [isR_not (by omega)])), rfl⟩
      · by_cases h3 : 57343 < r
        all_goals
          go_enter Tryz.func67, Tryz.ntmps67
          go_wp2
          go_ret
          exact ⟨ret_bool (by first | (rw [isR_of (by omega)]) | (rw [isR_not (by omega)])), rfl⟩
    · go_enter Tryz.func67, Tryz.ntmps67
      go_wp2
      go_ret
      exact ⟨ret_bool (by first | (rw [isR_of (by omega)]) | (rw [isR_not (by omega)])), rfl⟩
  · go_enter Tryz.func67, Tryz.ntmps67
    go_wp2
    go_ret
    exact ⟨ret_bool (by first | (rw [isR_of (by omega)]) | (rw [isR_not (by omega)])), rfl⟩

theorem conv_new (w : World) (xs : List Int) (n : Nat) (hn : xs.length = n) :
    (convert 22 9 (.slice (some ⟨w.heap.size, 0, none⟩) n n)).run Tryz.prog (w.alloc (.cells (xs.map (Value.int .u8)).toArray 5)) = .ok (.string (strOfNums xs)) (w.alloc (.cells (xs.map (Value.int .u8)).toArray 5)) := by
  refine run_convert_bytes_arg _ 22 5 Tryz.underlying22 Tryz.underlying5 w.heap.size 0 n n xs hn (fun i hi => ?_) 9 Tryz.underlying9
  rw [Nat.zero_add, World.cell?_alloc_new]
  subst hn
  simp [List.getD_eq_getElem?_getD, List.getElem?_eq_getElem hi]

set_option maxHeartbeats 1000000 in
theorem Write_any (r : Int) (w : World) (hr : isR r = true) : Calls Tryz.prog 68 #[.int .i64 r] w fun e w' => e = .returned (.string (strOfNums (wrI r))) ∧ Below w.heap.size w w' := by
  have hbd := isR_bd hr
  clear hr
  by_cases a : r < 128
  · have h := conv_new w [r] 1 rfl
    simp only [List.map] at h
    have HW : Hid (wrI r = [r]) := wrI1 a
    go_enter Tryz.func68, Tryz.ntmps68
    go_wp2
    go_ret
    exact ⟨by rw [HW.out]; rfl, (Below.refl _ _).alloc (Nat.le_refl _) _⟩
  by_cases b : r < 2048
  · have h := conv_new w [192 + r / 64, 128 + r % 64] 2 rfl
    simp only [List.map] at h
    have HW : Hid (wrI r = [192 + r / 64, 128 + r % 64]) := wrI2 (by omega) b
    go_enter Tryz.func68, Tryz.ntmps68
    go_wp2
    go_ret
    exact ⟨by rw [HW.out]; rfl, (Below.refl _ _).alloc (Nat.le_refl _) _⟩
  by_cases c : r < 65536
  · have h := conv_new w [224 + r / 4096, 128 + r / 64 % 64, 128 + r % 64] 3 rfl
    simp only [List.map] at h
    have HW : Hid (wrI r = [224 + r / 4096, 128 + r / 64 % 64, 128 + r % 64]) := by
      show wrI r = _
      rw [wrI3 (by omega) c, show r / 64 / 64 = r / 4096 by omega]
    go_enter Tryz.func68, Tryz.ntmps68
    go_wp2
    go_ret
    exact ⟨by rw [HW.out]; rfl, (Below.refl _ _).alloc (Nat.le_refl _) _⟩
  · have h := conv_new w [240 + r / 262144, 128 + r / 4096 % 64, 128 + r / 64 % 64, 128 + r % 64] 4 rfl
    simp only [List.map] at h
    have HW : Hid (wrI r = [240 + r / 262144, 128 + r / 4096 % 64, 128 + r / 64 % 64, 128 + r % 64]) := by
      show wrI r = _
      rw [wrI4 (by omega), show r / 64 / 64 / 64 = r / 262144 by omega, show r / 64 / 64 = r / 4096 by omega]
    go_enter Tryz.func68, Tryz.ntmps68
    go_wp2
    go_ret
    exact ⟨by rw [HW.out]; rfl, (Below.refl _ _).alloc (Nat.le_refl _) _⟩

theorem byte_bd (s : ByteArray) (i : Nat) (h : i < s.size) : ((s[i]'h).toNat : Int) < 256 := by have := (s[i]'h).toNat_lt; omega

set_option maxHeartbeats 1000000 in
theorem said_any (s : ByteArray) (n : Nat) (w : World) (h1 : 1 ≤ n) (h4 : n ≤ 4) (hn : n ≤ s.size) (hm : s.size ≤ 9223372036854775807) :
    Calls Tryz.prog 123 #[.string s, .int .i64 n] w fun e w' => e = .returned (.int .i64 (sd s.data.toList n)) ∧ w' = w := by
  have HB : Hid (∀ i (h : i < s.size), ((s[i]'h).toNat : Int) = bt s.data.toList i) := bt_get s
  obtain rfl | rfl | rfl | rfl : n = 1 ∨ n = 2 ∨ n = 3 ∨ n = 4 := by omega
  · have q0 := byte_bd s 0 (by omega)
    go_enter Tryz.func123, Tryz.ntmps123
    go_wp2
    go_ret
    exact ⟨ret_int (by rw [sd1, HB.out 0 (by omega)]), rfl⟩
  · have q0 := byte_bd s 0 (by omega)
    have q1 := byte_bd s 1 (by omega)
    go_enter Tryz.func123, Tryz.ntmps123
    go_wp2
    refine wp_loop_rounds 2 ?_
    rw [rounds_succ]
    go_wp2
    rw [rounds_succ]
    go_wp2
    go_ret
    exact ⟨ret_int (by rw [sd2, HB.out 0 (by omega), HB.out 1 (by omega)]), rfl⟩
  · have q0 := byte_bd s 0 (by omega)
    have q1 := byte_bd s 1 (by omega)
    have q2 := byte_bd s 2 (by omega)
    go_enter Tryz.func123, Tryz.ntmps123
    go_wp2
    refine wp_loop_rounds 3 ?_
    rw [rounds_succ]
    go_wp2
    rw [rounds_succ]
    go_wp2
    rw [rounds_succ]
    go_wp2
    go_ret
    exact ⟨ret_int (by rw [sd3, HB.out 0 (by omega), HB.out 1 (by omega), HB.out 2 (by omega)]), rfl⟩
  · have q0 := byte_bd s 0 (by omega)
    have q1 := byte_bd s 1 (by omega)
    have q2 := byte_bd s 2 (by omega)
    have q3 := byte_bd s 3 (by omega)
    go_enter Tryz.func123, Tryz.ntmps123
    go_wp2
    refine wp_loop_rounds 4 ?_
    rw [rounds_succ]
    go_wp2
    rw [rounds_succ]
    go_wp2
    rw [rounds_succ]
    go_wp2
    rw [rounds_succ]
    go_wp2
    go_ret
    exact ⟨ret_int (by rw [sd4, HB.out 0 (by omega), HB.out 1 (by omega), HB.out 2 (by omega), HB.out 3 (by omega)]), rfl⟩
end Go.Proofs.YtllmdfkiogmofaaGreatDoor

/- The reference's First: the rune with whose writing a text begins. -/
namespace Go.Proofs.YtllmdfkiogmofaaGreatDoor
open Go.RowKit Nums
set_option maxRecDepth 100000
attribute [local go_sem ↓] Go.wp_at_zero Go.wp_at_succ

theorem wr_toList (r : Int) : (strOfNums (wrI r)).toList = wr r := by
  rw [ByteArray.toList_eq, strOfNums_data]; rfl
theorem ext_toList (s : ByteArray) (n : Nat) : (s.extract 0 n).toList = s.data.toList.take n := by
  rw [ByteArray.toList_eq]; simp [ByteArray.extract, ByteArray.copySlice]

theorem Rune_is (r : Int) (w : World) {b : Bool} (h : isR r = b) : Calls Tryz.prog 67 #[.int .i64 r] w fun e w' => e = .returned (.bool b) ∧ w' = w := by
  rw [← h]; exact Rune_any r w

set_option maxHeartbeats 2000000 in
theorem First_any (s : ByteArray) (w : World) (h0 : 0 < s.size) (hm : s.size ≤ 9223372036854775807) :
    Calls Tryz.prog 105 #[.string s] w fun e w' => e = .returned (.tuple #[.int .i64 (rd s.data.toList).1, .int .i64 (rd s.data.toList).2]) ∧ Below w.heap.size w w' := by
  have HNE : Hid (s.data.toList ≠ []) := ne_of_size h0
  have HBD : Hid ((rd s.data.toList).2 ≤ s.data.toList.length ∧ (rd s.data.toList).2 ≤ 4) := rd_bd HNE.out
  go_enter Tryz.func105, Tryz.ntmps105
  go_wp2
  go_loopw [4] (fun i wr => ∃ k : Nat, 1 ≤ k ∧ k ≤ 5 ∧ i = .int .i64 k ∧ (∀ j, 1 ≤ j → j < k → (rd s.data.toList).2 ≠ j) ∧ Below w.heap.size w wr) (fun i _ => 5 - (intOf i).toNat)
  case atStart => exact ⟨1, by omega, by omega, rfl, fun j a b => by omega, Below.refl _ _⟩
  case round =>
    obtain ⟨k, hk1, hk5, rfl, hno, hbel⟩ := hrel
    have HNO : Hid (∀ j, 1 ≤ j → j < k → (rd s.data.toList).2 ≠ j) := hno
    clear hno
    by_cases hk : k ≤ 4 ∧ k ≤ s.size
    · obtain ⟨hk4, hks⟩ := hk
      have hsb := sd_bd s.data.toList k
      generalize hx : sd s.data.toList k = x at *
      have HX : Hid (sd s.data.toList k = x) := hx
      clear hx
      cases hr : isR x
      · have HR : Hid (isR x = false) := hr
        clear hr
        have HF : Hid (∀ j, 1 ≤ j → j < k + 1 → (rd s.data.toList).2 ≠ j) := fun j a b => by
          by_cases e : j = k
          · subst e; exact first_no HNE.out hk1 (fun h => by have h2 := h.1; rw [HX.out, HR.out] at h2; cases h2)
          · exact HNO.out j a (by omega)
        go_wp2_with (go_at_call 123; refine (said_any s k _ hk1 hk4 hks hm).mono ?_; rintro e w' ⟨rfl, rfl⟩; rw [HX.out])
        go_quiet ((go_at_call 67; exact Calls.quiet_of_same (Rune_is _ _ HR.out)))
        go_wp2
        go_roundw
        case rel => exact ⟨k + 1, by omega, by omega, by go_num, HF.out, below_drewN hbel _⟩
        case measure => simp [intOf]; omega
      · have HR : Hid (isR x = true) := hr
        clear hr
        have h1k : (k : Int) ≤ (s.size : Int) := by omega
        have h1k' : (0 : Int) ≤ (k : Int) := by omega
        by_cases hw : Nums.wr x = s.data.toList.take k
        · have HW : Hid (Nums.wr x = s.data.toList.take k) := hw
          have hq : ((strOfNums (wrI x)).toList == (s.extract 0 k).toList) = true := by rw [wr_toList, ext_toList, hw]; simp
          clear hw
          have HF : Hid (rd s.data.toList = (x, k)) := by
            have := first_yes (l := s.data.toList) (n := k) (by rw [size_length]; exact hks) (by rw [HX.out]; exact HR.out) (by rw [HX.out]; exact HW.out)
            rw [HX.out] at this; exact this
          go_wp2_with (go_at_call 123; refine (said_any s k _ hk1 hk4 hks hm).mono ?_; rintro e w' ⟨rfl, rfl⟩; rw [HX.out])
          go_region_held3 (fun _ => True) (trivial) (first | (go_at_call 67; refine (Rune_is _ _ HR.out).mono ?_; rintro e w' ⟨rfl, rfl⟩) | (go_at_call 68; refine (Write_any _ _ HR.out).mono ?_; rintro e w3 ⟨rfl, hb3⟩))
          all_goals go_wp2
          all_goals go_ret2
          refine ⟨?_, ?_⟩
          · rw [HF.out]; rfl
          · exact hbel.drew.trans (hb3.mono hbel.size)
        · have hq : ((strOfNums (wrI x)).toList == (s.extract 0 k).toList) = false := by rw [wr_toList, ext_toList]; simpa using hw
          have HW : Hid (¬ Nums.wr x = s.data.toList.take k) := hw
          clear hw
          have HF : Hid (∀ j, 1 ≤ j → j < k + 1 → (rd s.data.toList).2 ≠ j) := fun j a b => by
            by_cases e : j = k
            · subst e; exact first_no HNE.out hk1 (fun h => by have h2 := h.2; rw [HX.out] at h2; exact HW.out h2)
            · exact HNO.out j a (by omega)
          go_wp2_with (go_at_call 123; refine (said_any s k _ hk1 hk4 hks hm).mono ?_; rintro e w' ⟨rfl, rfl⟩; rw [HX.out])
          go_region_held3 (fun _ => True) (trivial) (first | (go_at_call 67; refine (Rune_is _ _ HR.out).mono ?_; rintro e w' ⟨rfl, rfl⟩) | (go_at_call 68; refine (Write_any _ _ HR.out).mono ?_; rintro e w3 ⟨rfl, hb3⟩))
          all_goals go_wp2
          go_roundw
          case rel => exact ⟨k + 1, by omega, by omega, by go_num, HF.out, hbel.drew.trans (hb3.mono hbel.size)⟩
          case measure => simp [intOf]; omega
    · have HZ : Hid (rd s.data.toList = (0, 0)) := by
        refine rd_zero ?_
        by_cases z : (rd s.data.toList).2 = 0
        · exact z
        · have h2 := HBD.out
          rw [size_length] at h2
          exact absurd rfl (HNO.out (rd s.data.toList).2 (by omega) (by omega))
      by_cases hk4 : k ≤ 4
      · have hks : ¬ k ≤ s.size := fun h => hk ⟨hk4, h⟩
        clear hk
        go_wp2
        go_ret2
        refine ⟨?_, hbel⟩
        rw [HZ.out]; rfl
      · clear hk
        go_wp2
        go_ret2
        refine ⟨?_, hbel⟩
        rw [HZ.out]; rfl
end Go.Proofs.YtllmdfkiogmofaaGreatDoor

/- The reference's Runes: the same runes, in new memory, or none. -/
namespace Go.Proofs.YtllmdfkiogmofaaGreatDoor
open Go.RowKit Nums
set_option maxRecDepth 100000

set_option maxHeartbeats 2000000 in
theorem RefRunes_any (s : ByteArray) (w : World) (hm : s.size ≤ 9223372036854775807) (hroom : Room s.data.toList) :
    Calls Tryz.prog 84 #[.string s] w fun e w' => ∃ v, Below w.heap.size w w' ∧
      ((rs s.data.toList = none ∧ v = .slice none 0 0 ∧ e = .returned (.tuple #[v, .bool false])) ∨
       ∃ xs, rs s.data.toList = some xs ∧ e = .returned (.tuple #[v, .bool true]) ∧ Made w.heap.size w' v xs) := by
  obtain ⟨i0, hi, hz0, hz1, hz2⟩ := info_parts infoRune
  go_enter Tryz.func84, Tryz.ntmps84
  go_wp2
  go_loopw [0, 4] (fun t v wr => ∃ (m : ByteArray) (pre : List Int), t = .string m ∧ m.size + pre.length ≤ s.size ∧ Made w.heap.size wr v pre ∧ Remains s.data.toList m.data.toList pre ∧ Below w.heap.size w wr)
    (fun t _ _ => lenOf t)
  case atStart => exact ⟨s, [], rfl, by simp, World.ownsRow_nil _ _ _ _, left_start _, Below.refl _ _⟩
  case round =>
    obtain ⟨m, pre, rfl, hms, hown, hL, hbel⟩ := hrel
    have HL : Hid (Remains s.data.toList m.data.toList pre) := hL
    clear hL
    by_cases h0 : 0 < m.size
    · have hne := ne_of_size h0
      have hbd := rd_bd hne
      rw [size_length] at hbd
      have HNE : Hid (m.data.toList ≠ []) := hne
      clear hne
      generalize hr : rd m.data.toList = q at hbd
      obtain ⟨r, n⟩ := q
      have HR : Hid (rd m.data.toList = (r, n)) := hr
      clear hr
      simp only at hbd
      by_cases hn : n = 0
      · subst hn
        have HF : Hid (rs s.data.toList = none) := left_none HL.out HNE.out (by rw [HR.out])
        go_wp2_with (go_at_call 105; refine (First_any _ _ h0 (by omega)).mono ?_; rintro e w2 ⟨rfl, hb2⟩; rw [HR.out])
        go_ret2
        exact ⟨_, hbel.trans (hb2.mono hbel.size), .inl ⟨HF.out, rfl, rfl⟩⟩
      have hrb : 0 ≤ r ∧ r < 1114112 := by
        have h2 := rd_isR (l := m.data.toList) (by rw [HR.out]; exact hn)
        rw [HR.out] at h2; exact isR_bd h2
      have hn0 : ((n : Int) == 0) = false := beq_eq_false_iff_ne.2 (by omega)
      have hrm : pre.length + 1 ≤ 35184372088832 := hroom m.data.toList pre HL.out (by rw [size_length, size_length]; exact hms) HNE.out (by rw [HR.out]; exact hn)
      go_wp2_with (first
        | (go_at_call 105; refine (First_any _ _ h0 (by omega)).mono ?_; rintro e w2 ⟨rfl, hb2⟩; rw [HR.out])
        | (at_builtin; refine wpList_append_own _ rfl _ _ 81 rfl w.heap.size 21 i0 (.int .i32 0) 1 4 Tryz.underlying81 hi hz0 hz1 hz2 rfl (by decide) _ _ _ rfl (World.ownsRow.alloc (hown.below hb2) _) ⟨w2.heap.size, 0, none⟩ 1 1 [.int .i32 r] rfl rfl ?c1 ?c2 ?c3 ?c4 ?c5 ?_))
      case c1 =>
        intro j u hj
        match j, hj with
        | 0, hj => simp at hj; subst hj; exact cell_new w2 r
      case c2 => intro u hu; simp at hu; subst hu; rfl
      case c3 => unfold maxLen; omega
      case c4 => omega
      case c5 => have := hbel.size; have := hb2.size; simp; omega
      intro v' w1 hown' hgrow _
      have hown2 : Made w.heap.size w1 v' (pre ++ [r]) := by unfold Made; simpa using hown'
      have hbw : Below w.heap.size w w2 := hbel.trans (hb2.mono hbel.size)
      have hb1 : Below w.heap.size w w1 := (hbw.alloc hbw.size _).grown hgrow (by have := hbw.size; simp; omega) (fun k hk => (World.ownsRow.lt hown k hk).1)
      clear hown' hgrow hown
      go_wp2
      go_roundw
      case rel => exact ⟨m.extract n m.size, pre ++ [r], rfl, by rw [extract_size]; simp; omega, hown2, rest_go HL.out HNE.out HR.out hn, hb1⟩
      case measure => simp only [lenOf]; rw [extract_size]; omega
    · have HN : Hid (m.data.toList = []) := nil_of_size h0
      have HF : Hid (rs s.data.toList = some pre) := left_end (by have := HL.out; rw [HN.out] at this; exact this)
      go_wp2
      go_ret2
      exact ⟨_, hbel, .inr ⟨pre, HF.out, rfl, hown⟩⟩
end Go.Proofs.YtllmdfkiogmofaaGreatDoor

/- FstWords: the law's own walk. -/
namespace Go.Proofs.YtllmdfkiogmofaaGreatDoor
open Go.RowKit Nums Fm
set_option maxRecDepth 100000

theorem lexL_irr : ∀ x : List Int, lexL x x = false
  | [] => rfl
  | a :: x => by rw [lexL_same, lexL_irr x]
theorem wt_mem : ∀ {S : List En} {xs : List Int} {n : Int}, Rise S → (xs, n) ∈ S → wt xs S = some n
  | [], _, _, _, h => by cases h
  | e :: r, xs, n, hr, h => by
    obtain ⟨h1, h2⟩ := List.pairwise_cons.1 hr
    rw [wt_cons]
    rcases List.mem_cons.1 h with h | h
    · rw [← h, if_pos rfl]
    · have := h1 _ h
      have hne : e.1 ≠ xs := fun e2 => by rw [e2] at this; simp only [lexL_irr] at this; cases this
      rw [if_neg hne, wt_mem h2 h]
/-- Runes of a text, by the reference. -/
theorem refRunes_yes {s : ByteArray} {xs : List Int} (h : rs s.data.toList = some xs) (hx : xs.length ≤ 1048576) (hs : s.size ≤ 9223372036854775807) (W : World) : Calls Tryz.prog 84 #[.string s] W fun e w' => ∃ v, e = .returned (.tuple #[v, .bool true]) ∧ RunesAt w'.heap.size w' v xs ∧ Below W.heap.size W w' := by
  refine (RefRunes_any s W hs (room_of_runes h (by omega))).mono ?_
  rintro e w' ⟨v, hb, ⟨h1, _⟩ | ⟨ys, h1, h2, h3⟩⟩
  · rw [h] at h1; cases h1
  · rw [h] at h1; cases h1
    exact ⟨v, h2, h3.runes, hb⟩
end Go.Proofs.YtllmdfkiogmofaaGreatDoor

/- Cut: what the seat's translation lacks is left out. -/
/- The reference's Find of layer 6; what a dictionary's list and its machine say of a word. -/
namespace Go.Proofs.YtllmdfkiogmofaaGreatDoor
open Go.RowKit Nums Fm
set_option maxRecDepth 100000

theorem take_succ_at {l : List Pr} {k : Nat} {x : Pr} (h : l[k]? = some x) : l.take (k + 1) = l.take k ++ [x] := by
  rw [List.take_add_one, h]; rfl
theorem find_some_of {l : List Pr} {x : Pr} (h : x ∈ l) : Pm.find l x.1 ≠ none := by
  induction l with
  | nil => cases h
  | cons y r ih =>
    rw [Pm.find_cons]
    rcases List.mem_cons.1 h with rfl | h
    · cases Pm.find r x.1 <;> simp
    · cases hf : Pm.find r x.1 with
      | none => exact absurd hf (ih h)
      | some v => simp
theorem wt_find : ∀ {S : List En} {xs : List Int} {n : Int}, wt xs S = some n → (xs, n) ∈ S
  | [], _, _, h => by cases h
  | e :: r, xs, n, h => by
    rw [wt_cons] at h
    split at h
    · rename_i he
      have : e = (xs, n) := Prod.ext he (Option.some.inj h)
      rw [this]; simp
    · exact .tail _ (wt_find h)
theorem find_wt {l : List Pr} (hd : DictOk l) {s : ByteArray} {xs : List Int} (hs : rs s.data.toList = some xs) : Pm.find l s = wt xs (ents l) := by
  cases hf : Pm.find l s with
  | some v =>
    have hm := Pm.find_mem hf
    exact (wt_mem hd.rise (List.mem_map.2 ⟨(s, v), hm, by rw [entOf, hs]; rfl⟩)).symm
  | none =>
    cases hw : wt xs (ents l) with
    | none => rfl
    | some n =>
      exfalso
      obtain ⟨x, hx, he⟩ := List.mem_map.1 (wt_find hw)
      obtain ⟨ys, h1, _⟩ := hd.wd x hx
      rw [entOf, h1] at he
      have hy : ys = xs := (Prod.mk.inj he).1
      subst hy
      have e1 := (rs_write h1).2
      have e2 := (rs_write hs).2
      have : x.1 = s := ba_ext (e1.symm.trans e2)
      rw [← this] at hf
      exact find_some_of hx hf
end Go.Proofs.YtllmdfkiogmofaaGreatDoor
