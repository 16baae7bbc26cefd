/- Right. -/
import Derived.Test.YtdidcombjmbkdaaDoorPkUnl
import Derived.Test.YtdidcombjmbkdaaDoorPkNum
namespace Go.Proofs.YtdidcombjmbkdaaDoor
open Go.RowKit Nums Fm Pk
set_option maxRecDepth 100000

set_option maxHeartbeats 4000000 in
theorem Right_any (E : Nat) (w : World) (base : Int) (m : List RSt) (vs : Value) (h : StsAt E w vs m) (hE : E ≤ w.heap.size) (hT : Tabs w) (hm : m.length ≤ 1048576) :
    Calls Tryd.prog 11 #[.agg #[.int .i64 base, vs]] w fun e w' => e = .returned (.bool (rightB base m)) ∧ Below w.heap.size w w' := by
  obtain ⟨ad, cap, rfl⟩ := h.shape
  have HB0 : Hid (∀ o, Below w.heap.size w (w.alloc o)) := fun o => (Below.refl _ w).alloc (Nat.le_refl _) o
  by_cases h0 : m = []
  · have HR : Hid (rightB base m = decide (base = 0)) := by show _ = _; rw [rightB, if_pos h0]
    have hl : m.length = 0 := by rw [h0]; rfl
    rw [hl]
    clear h hT hl h0
    go_enter Tryd.func11, Tryd.ntmps11
    by_cases hb : base = 0
    · subst hb
      go_wp2
      go_ret
      exact ⟨by rw [HR.out]; rfl, HB0.out _⟩
    · have h1b : (base == 0) = false := beq_eq_false_iff_ne.2 hb
      go_wp2
      go_ret
      exact ⟨by rw [HR.out, decide_eq_false hb]; rfl, HB0.out _⟩
  have hpos := List.length_pos_iff.2 h0
  obtain ⟨n, hn⟩ : ∃ n, m.length = n + 1 := ⟨m.length - 1, by omega⟩
  have HN : Hid (m.length = n + 1) := hn
  obtain ⟨rt, hrt⟩ : ∃ rt, m[n]? = some rt := ⟨m[n]'(by omega), List.getElem?_eq_getElem _⟩
  have HRR : Hid (rightB base m = (decide (1 ≤ base ∧ base ≤ 1048576) && !rt.final && formB 0 m && bndB base [] m && numB m && decide m.Nodup)) := by
    show _ = _
    rw [rightB, if_neg h0, show m.length - 1 = n by omega, List.getD_eq_getElem?_getD, hrt]
    rfl
  have hn0 : (((n : Int) + 1) == 0) = false := beq_eq_false_iff_ne.2 (by omega)
  rw [hn] at h ⊢
  obtain ⟨g, off, va, rfl, hg, c0, c1, c2, hA⟩ := h.at hrt
  obtain ⟨vd, vc, hva⟩ := hA.shape
  obtain ⟨na, hna⟩ : ∃ na, rt.arcs.length = na := ⟨_, rfl⟩
  rw [hna] at hva
  subst hva
  have HS : Hid (StsAt E w (.slice (some ⟨g, off, none⟩) (n + 1) cap) m) := h
  by_cases hb1 : base < 1
  · have HF : Hid (rightB base m = false) := by show _ = _; rw [HRR.out, decide_eq_false (by omega)]; rfl
    clear h hT HRR hrt
    go_enter Tryd.func11, Tryd.ntmps11
    go_wp2
    go_ret
    exact ⟨by rw [HF.out]; rfl, HB0.out _⟩
  by_cases hb2 : 1048576 < base
  · have HF : Hid (rightB base m = false) := by show _ = _; rw [HRR.out, decide_eq_false (by omega)]; rfl
    clear h hT HRR hrt
    go_enter Tryd.func11, Tryd.ntmps11
    go_wp2
    go_ret
    exact ⟨by rw [HF.out]; rfl, HB0.out _⟩
  obtain ⟨mb, hmb⟩ : ∃ mb, mb = w.heap.size := ⟨_, rfl⟩
  obtain ⟨rb, hrb⟩ : ∃ rb, rb = w.heap.size + 1 := ⟨_, rfl⟩
  obtain ⟨W2, hW2⟩ : ∃ W2, W2 = (w.alloc (.cells #[.int .i64 base, .slice (some ⟨g, off, none⟩) (n + 1) cap] 24)).alloc (.cells #[.bool rt.final, .int .i64 rt.out, .slice vd na vc] 44) := ⟨_, rfl⟩
  have hbw : Below w.heap.size w W2 := by rw [hW2]; exact ((Below.refl _ w).alloc (Nat.le_refl _) _).alloc (by simp) _
  have hm2 : W2.heap[mb]? = some (.cells #[.int .i64 base, .slice (some ⟨g, off, none⟩) (n + 1) cap] 24) := by
    rw [hW2, (MapKept.heap_alloc _ _).2 mb (by rw [hmb]; simp), hmb]
    exact alloc_newP _ _
  have hr2 : W2.heap[rb]? = some (.cells #[.bool rt.final, .int .i64 rt.out, .slice vd na vc] 44) := by
    have e : (w.alloc (.cells #[.int .i64 base, .slice (some ⟨g, off, none⟩) (n + 1) cap] 24)).heap.size = rb := by rw [hrb]; simp
    rw [hW2, ← e]
    exact alloc_newP _ _
  have HBW : Hid (Below w.heap.size w W2) := hbw
  have HCL : Hid (∀ W, Below W2.heap.size W2 W → W.cell? ⟨mb, 0, none⟩ = some (.int .i64 base) ∧ W.cell? ⟨mb, 1, none⟩ = some (.slice (some ⟨g, off, none⟩) (n + 1) cap)) := fun W hW => by
    have h1 : W.heap[mb]? = W2.heap[mb]? := hW.block mb (Array.getElem?_eq_some_iff.1 hm2).1
    exact ⟨by simp [World.cell?, h1, hm2], by simp [World.cell?, h1, hm2]⟩
  have r0 : W2.cell? ⟨rb, 0, none⟩ = some (.bool rt.final) := by simp [World.cell?, hr2]
  obtain ⟨m0, m1⟩ := HCL.out W2 (Below.refl _ _)
  have hSW : ∀ W, Below W2.heap.size W2 W → StsAt E W (.slice (some ⟨g, off, none⟩) (n + 1) cap) m ∧ E ≤ W.heap.size ∧ Tabs W := fun W hW => by
    have hb := hbw.trans (hW.mono hbw.size)
    exact ⟨h.below (hb.mono hE), Nat.le_trans hE hb.size, hT.below hb⟩
  have HFO : Hid (∀ W, Below W2.heap.size W2 W → Calls Tryd.prog 18 #[.slice (some ⟨g, off, none⟩) (n + 1) cap] W fun e w' => e = .returned (.bool (formB 0 m)) ∧ Below W2.heap.size W2 w') := fun W hW => by
    obtain ⟨s1, s2, s3⟩ := hSW W hW
    refine (formed_any E W m _ s1 s2 s3).mono ?_
    rintro e w' ⟨rfl, h2⟩
    exact ⟨rfl, hW.trans (h2.mono hW.size)⟩
  have HBO : Hid (formB 0 m = true → ∀ W, Below W2.heap.size W2 W → Calls Tryd.prog 19 #[.agg #[.int .i64 base, .slice (some ⟨g, off, none⟩) (n + 1) cap]] W fun e w' => e = .returned (.bool (bndB base [] m)) ∧ Below W2.heap.size W2 w') := fun hf W hW => by
    obtain ⟨s1, s2, s3⟩ := hSW W hW
    refine (bounded_any E W base m _ s1 s2 (by omega) (by omega) hf hm).mono ?_
    rintro e w' ⟨rfl, h2⟩
    exact ⟨rfl, hW.trans (h2.mono hW.size)⟩
  have HNO : Hid (formB 0 m = true → ∀ W, Below W2.heap.size W2 W → Calls Tryd.prog 20 #[.slice (some ⟨g, off, none⟩) (n + 1) cap] W fun e w' => e = .returned (.bool (numB m)) ∧ Below W2.heap.size W2 w') := fun hf W hW => by
    obtain ⟨s1, s2, s3⟩ := hSW W hW
    refine (numbered_any E W m _ s1 s2 hf hm h0).mono ?_
    rintro e w' ⟨rfl, h2⟩
    exact ⟨rfl, hW.trans (h2.mono hW.size)⟩
  have HUO : Hid (formB 0 m = true → ∀ W, Below W2.heap.size W2 W → Calls Tryd.prog 21 #[.slice (some ⟨g, off, none⟩) (n + 1) cap] W fun e w' => e = .returned (.bool (decide m.Nodup)) ∧ Below W2.heap.size W2 w') := fun hf W hW => by
    obtain ⟨s1, s2, s3⟩ := hSW W hW
    refine (unlike_any E W m _ s1 s2 hf hm h0).mono ?_
    rintro e w' ⟨rfl, h2⟩
    exact ⟨rfl, hW.trans (h2.mono hW.size)⟩
  have HRF : Hid (rightB base m = (!rt.final && formB 0 m && bndB base [] m && numB m && decide m.Nodup)) := by show _ = _; rw [HRR.out, decide_eq_true (by omega)]; simp
  have hwrp : IntKind.i64.wrap (((n : Int) + 1) - 1) = (n : Int) := by rw [IntKind.wrap_i64]; omega
  have hnz : (n : Int) < (n : Int) + 1 := by omega
  have cA : ∀ (o : Obj) (j : Nat), (w.alloc o).cell? ⟨g, j, none⟩ = w.cell? ⟨g, j, none⟩ := fun o j => ((Below.refl _ w).alloc (Nat.le_refl _) o).cell (p := ⟨g, j, none⟩) (Nat.lt_of_lt_of_le hg hE)
  have c0' := fun o => (cA o _).trans c0
  have c1' := fun o => (cA o _).trans c1
  have c2' := fun o => (cA o _).trans c2
  clear h hT HRR hrt hbw hm2 hr2 hSW c0 c1 c2 cA hA
  go_enter Tryd.func11, Tryd.ntmps11
  go_upto_region 6 with fail
  rw [← hrb, ← hmb, ← hW2]
  clear hrb hmb hW2 c0' c1' c2'
  generalize formB 0 m = F at *
  generalize bndB base [] m = B at *
  generalize numB m = N at *
  generalize decide m.Nodup = U at *
  generalize rt.final = fn at *
  cases fn with
  | true =>
    have HX : Hid (rightB base m = false) := HRF.out
    go_wp2
    go_ret
    exact ⟨by rw [HX.out]; rfl, HBW.out⟩
  | false =>
  cases F with
  | false =>
    have HX : Hid (rightB base m = false) := HRF.out
    go_wp2_with (first
      | (go_at_call 18; refine (HFO.out _ (Below.refl _ _)).mono ?_; rintro e wa ⟨rfl, hba⟩; have HBa : Hid (Below W2.heap.size W2 wa) := hba; clear hba; obtain ⟨p0, p1⟩ := HCL.out wa HBa.out)
      | (go_at_call 19; refine (HBO.out (by simp) _ HBa.out).mono ?_; rintro e wb ⟨rfl, hbb⟩; have HBb : Hid (Below W2.heap.size W2 wb) := hbb; clear hbb; obtain ⟨p2, p3⟩ := HCL.out wb HBb.out)
      | (go_at_call 20; refine (HNO.out (by simp) _ HBb.out).mono ?_; rintro e wc ⟨rfl, hbc⟩; have HBc : Hid (Below W2.heap.size W2 wc) := hbc; clear hbc; obtain ⟨p4, p5⟩ := HCL.out wc HBc.out)
      | (go_at_call 21; refine (HUO.out (by simp) _ HBc.out).mono ?_; rintro e wd ⟨rfl, hbd⟩; have HBd : Hid (Below W2.heap.size W2 wd) := hbd; clear hbd))
    go_ret
    exact ⟨by rw [HX.out]; rfl, HBW.out.trans (HBa.out.mono HBW.out.size)⟩
  | true =>
  cases B with
  | false =>
    have HX : Hid (rightB base m = false) := HRF.out
    go_wp2_with (first
      | (go_at_call 18; refine (HFO.out _ (Below.refl _ _)).mono ?_; rintro e wa ⟨rfl, hba⟩; have HBa : Hid (Below W2.heap.size W2 wa) := hba; clear hba; obtain ⟨p0, p1⟩ := HCL.out wa HBa.out)
      | (go_at_call 19; refine (HBO.out (by simp) _ HBa.out).mono ?_; rintro e wb ⟨rfl, hbb⟩; have HBb : Hid (Below W2.heap.size W2 wb) := hbb; clear hbb; obtain ⟨p2, p3⟩ := HCL.out wb HBb.out)
      | (go_at_call 20; refine (HNO.out (by simp) _ HBb.out).mono ?_; rintro e wc ⟨rfl, hbc⟩; have HBc : Hid (Below W2.heap.size W2 wc) := hbc; clear hbc; obtain ⟨p4, p5⟩ := HCL.out wc HBc.out)
      | (go_at_call 21; refine (HUO.out (by simp) _ HBc.out).mono ?_; rintro e wd ⟨rfl, hbd⟩; have HBd : Hid (Below W2.heap.size W2 wd) := hbd; clear hbd))
    go_ret
    exact ⟨by rw [HX.out]; rfl, HBW.out.trans (HBb.out.mono HBW.out.size)⟩
  | true =>
  cases N with
  | false =>
    have HX : Hid (rightB base m = false) := HRF.out
    go_wp2_with (first
      | (go_at_call 18; refine (HFO.out _ (Below.refl _ _)).mono ?_; rintro e wa ⟨rfl, hba⟩; have HBa : Hid (Below W2.heap.size W2 wa) := hba; clear hba; obtain ⟨p0, p1⟩ := HCL.out wa HBa.out)
      | (go_at_call 19; refine (HBO.out (by simp) _ HBa.out).mono ?_; rintro e wb ⟨rfl, hbb⟩; have HBb : Hid (Below W2.heap.size W2 wb) := hbb; clear hbb; obtain ⟨p2, p3⟩ := HCL.out wb HBb.out)
      | (go_at_call 20; refine (HNO.out (by simp) _ HBb.out).mono ?_; rintro e wc ⟨rfl, hbc⟩; have HBc : Hid (Below W2.heap.size W2 wc) := hbc; clear hbc; obtain ⟨p4, p5⟩ := HCL.out wc HBc.out)
      | (go_at_call 21; refine (HUO.out (by simp) _ HBc.out).mono ?_; rintro e wd ⟨rfl, hbd⟩; have HBd : Hid (Below W2.heap.size W2 wd) := hbd; clear hbd))
    go_ret
    exact ⟨by rw [HX.out]; rfl, HBW.out.trans (HBc.out.mono HBW.out.size)⟩
  | true =>
    have HX : Hid (rightB base m = U) := HRF.out
    cases U with
    | false =>
      go_wp2_with (first
        | (go_at_call 18; refine (HFO.out _ (Below.refl _ _)).mono ?_; rintro e wa ⟨rfl, hba⟩; have HBa : Hid (Below W2.heap.size W2 wa) := hba; clear hba; obtain ⟨p0, p1⟩ := HCL.out wa HBa.out)
        | (go_at_call 19; refine (HBO.out (by simp) _ HBa.out).mono ?_; rintro e wb ⟨rfl, hbb⟩; have HBb : Hid (Below W2.heap.size W2 wb) := hbb; clear hbb; obtain ⟨p2, p3⟩ := HCL.out wb HBb.out)
        | (go_at_call 20; refine (HNO.out (by simp) _ HBb.out).mono ?_; rintro e wc ⟨rfl, hbc⟩; have HBc : Hid (Below W2.heap.size W2 wc) := hbc; clear hbc; obtain ⟨p4, p5⟩ := HCL.out wc HBc.out)
        | (go_at_call 21; refine (HUO.out (by simp) _ HBc.out).mono ?_; rintro e wd ⟨rfl, hbd⟩; have HBd : Hid (Below W2.heap.size W2 wd) := hbd; clear hbd))
      go_ret
      exact ⟨by rw [HX.out]; rfl, HBW.out.trans (HBd.out.mono HBW.out.size)⟩
    | true =>
      go_wp2_with (first
        | (go_at_call 18; refine (HFO.out _ (Below.refl _ _)).mono ?_; rintro e wa ⟨rfl, hba⟩; have HBa : Hid (Below W2.heap.size W2 wa) := hba; clear hba; obtain ⟨p0, p1⟩ := HCL.out wa HBa.out)
        | (go_at_call 19; refine (HBO.out (by simp) _ HBa.out).mono ?_; rintro e wb ⟨rfl, hbb⟩; have HBb : Hid (Below W2.heap.size W2 wb) := hbb; clear hbb; obtain ⟨p2, p3⟩ := HCL.out wb HBb.out)
        | (go_at_call 20; refine (HNO.out (by simp) _ HBb.out).mono ?_; rintro e wc ⟨rfl, hbc⟩; have HBc : Hid (Below W2.heap.size W2 wc) := hbc; clear hbc; obtain ⟨p4, p5⟩ := HCL.out wc HBc.out)
        | (go_at_call 21; refine (HUO.out (by simp) _ HBc.out).mono ?_; rintro e wd ⟨rfl, hbd⟩; have HBd : Hid (Below W2.heap.size W2 wd) := hbd; clear hbd))
      go_ret
      exact ⟨by rw [HX.out]; rfl, HBW.out.trans (HBd.out.mono HBW.out.size)⟩
end Go.Proofs.YtdidcombjmbkdaaDoor
