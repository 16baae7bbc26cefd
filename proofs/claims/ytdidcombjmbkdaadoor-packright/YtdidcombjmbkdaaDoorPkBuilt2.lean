/- Machines of dictionaries are right. No program is named here. -/
import Derived.Test.YtdidcombjmbkdaaDoorPkBuilt
import Derived.Test.YtdidcombjmbkdaaDoorFBuild
namespace Go.Proofs.YtdidcombjmbkdaaDoor.Pk
open Go.Proofs.YtdidcombjmbkdaaDoor.Nums Go.Proofs.YtdidcombjmbkdaaDoor.Fm Go.Proofs.YtdidcombjmbkdaaDoor

theorem sub_runes {S R : List En} (h : Sub S R) {P : Int → Prop} : (∀ e ∈ S, ∀ c ∈ e.1, P c) → ∀ e ∈ R, ∀ c ∈ e.1, P c := by
  induction h with
  | here S =>
    intro hS e he c hc
    obtain ⟨x, hx, rfl⟩ := List.mem_map.1 he
    exact hS x hx c hc
  | step hp _ ih =>
    intro hS
    refine ih fun e he c hc => ?_
    obtain ⟨x, hx, rfl⟩ := grp_tl _ _ (Nat.le_refl _) _ hp e he
    exact hS x (in_restOf hx) c (List.mem_of_mem_tail hc)
theorem ents_word {l : List Pr} (h : buildE l = 0) : ∀ e ∈ ents l, ∀ c ∈ e.1, wordR c = true := by
  unfold buildE at h
  split at h
  · cases h
  · have ha := fault_all l none h
    intro e he c hc
    obtain ⟨x, hx, rfl⟩ := List.mem_map.1 he
    have hw := (ha x hx).1
    obtain ⟨xs, h1, _, _, _, h4⟩ := word_runes hw
    unfold wordB at hw
    rw [h1] at hw
    simp only [Bool.and_eq_true] at hw
    rw [entOf, h1] at hc
    simp only [Option.getD_some] at hc
    unfold wordR
    rw [List.all_eq_true.1 h4 c hc, List.all_eq_true.1 hw.2 c hc]
    rfl
/-- What a dictionary's states know. -/
theorem dict_rests {l : List Pr} (h : buildE l = 0) (hl : l ≠ []) : ∃ D, Fm.Inv D (stF 25 [] (ents l)).1 ∧ Rests (least (ents l)) D := by
  have hG := dict_good h hl
  have hD := dict_ok h
  obtain ⟨D, M⟩ := stF_spec 25 [] [] (ents l) Inv.nil hG
  have hI := M.inv
  have hne := ents_ne hl
  obtain ⟨z0, hz0, hz0w⟩ := least_mem hne
  have hw0 := hD.en.wt z0 hz0
  rw [hz0w] at hw0
  have hsub : ∀ R ∈ D, Sub (ents l) R := fun R hR => (M.sub R hR).resolve_left (fun h => by cases h)
  have hR : Rests (least (ents l)) D := by
    have hb : ∀ R ∈ D, ∃ B : List En, R = level B ∧ B.length ≤ (ents l).length ∧ ∀ e ∈ B, ∃ x ∈ ents l, e.2 = x.2 ∧ e.1.length ≤ x.1.length := fun R hR => by
      obtain ⟨xs, n, hx, k, hk, rfl⟩ := sub_word (hsub R hR) hD.rise hne
      exact ⟨_, rfl, behind_len _ _, fun e he => behind_mem _ _ _ he⟩
    refine ⟨fun R hR => (hI.lv R hR).1, fun R hR e he => ?_, fun R hR e he => ?_, fun R hR => ?_, fun R hR e he => ?_, fun R hR => sub_runes (hsub R hR) (ents_word h), hw0.1, hw0.2⟩
    · have := least_all he
      rw [(hI.lv R hR).2] at this
      exact this
    · obtain ⟨B, rfl, _, h3⟩ := hb R hR
      obtain ⟨x, hx, rfl⟩ := List.mem_map.1 he
      obtain ⟨y, hy, _, h5⟩ := h3 x hx
      have := hD.en.ln y hy
      simp only
      omega
    · obtain ⟨B, rfl, h2, _⟩ := hb R hR
      have h3 : (level B).length = B.length := by simp [level, shift]
      have h4 : (ents l).length = l.length := by simp [ents]
      have := hD.len
      omega
    · obtain ⟨B, rfl, _, h3⟩ := hb R hR
      obtain ⟨x, hx, rfl⟩ := List.mem_map.1 he
      obtain ⟨y, hy, h4, _⟩ := h3 x hx
      have hB : B ≠ [] := fun e => by rw [e] at hx; cases hx
      obtain ⟨u, hu, hu2⟩ := least_mem hB
      obtain ⟨v, hv, h5, _⟩ := h3 u hu
      have h6 := least_all hv
      have h7 := hD.en.wt y hy
      simp only
      omega
  exact ⟨D, hI, hR⟩
theorem built_facts {l : List Pr} (h : buildE l = 0) : ∀ (i : Nat) (s : St), (machOf l).2[i]? = some s → (0 ≤ s.out ∧ s.out ≤ 1048576) ∧ ∀ a ∈ s.arcs, (0 ≤ a.label ∧ a.label < 1114112) ∧ (0 ≤ a.out ∧ a.out ≤ 1048576) ∧ a.to < i := by
  intro i s hi
  by_cases hl : l = []
  · subst hl
    simp [machOf] at hi
  have hM : machOf l = (least (ents l), (stF 25 [] (ents l)).1) := by rw [machOf, if_pos ⟨h, hl⟩]
  rw [hM] at hi
  obtain ⟨D, hI, hR⟩ := dict_rests h hl
  simp only at hi
  refine ⟨?_, fun a ha => ?_⟩
  · obtain ⟨e1, _, e3⟩ := hI.row i s hi
    obtain ⟨l1, _, _⟩ := state_level hI hi
    cases hf : s.final with
    | false => rw [e3.fin hf]; omega
    | true =>
      have hin : (([] : List Int), s.out) ∈ exp D s := by unfold exp fins; rw [hf]; simp
      have := hR.wt _ (List.mem_of_getElem? e1) _ hin
      have := hR.lo
      have := l1 hf
      simp only at *
      omega
  · obtain ⟨a1, a2, a3, a4⟩ := arc_facts hI hR hi a ha
    unfold wordR at a4
    simp only [Bool.and_eq_true] at a4
    have := of_decide_eq_true a4.1
    exact ⟨⟨this.1, this.2.1⟩, ⟨a2, a3⟩, a1⟩
theorem mach_few {l : List Pr} : (machOf l).2.length ≤ 102400 := by
  rw [machOf]
  split
  · rename_i h
    have hg := dict_good h.1 h.2
    have h1 := (stF_facts 25 [] (ents l) (ok_of_rise 25 _ hg.1 hg.2.1 hg.2.2)).2.1
    have h2 := bulk_le (dict_ok h.1).en.ln
    rw [ents_len] at h2
    have h3 := (dict_ok h.1).len
    simp only [List.length_nil] at h1
    show (stF 25 [] (ents l)).1.length ≤ 102400
    omega
  · simp
theorem built_right {l : List Pr} (h : buildE l = 0) : rightB (machOf l).1 ((machOf l).2.map ofSt) = true := by
  by_cases hl : l = []
  · subst hl
    rfl
  have hG := dict_good h hl
  have hD := dict_ok h
  have hM : machOf l = (least (ents l), (stF 25 [] (ents l)).1) := by rw [machOf, if_pos ⟨h, hl⟩]
  obtain ⟨D, M⟩ := stF_spec 25 [] [] (ents l) Inv.nil hG
  obtain ⟨e1, e2⟩ := ref_st 25 [] [] (ents l) Inv.nil hG
  rw [hM]
  simp only
  have hI := M.inv
  have hne := ents_ne hl
  obtain ⟨z0, hz0, hz0w⟩ := least_mem hne
  have hw0 := hD.en.wt z0 hz0
  rw [hz0w] at hw0
  have hsub : ∀ R ∈ D, Sub (ents l) R := fun R hR => (M.sub R hR).resolve_left (fun h => by cases h)
  have hR : Rests (least (ents l)) D := by
    have hb : ∀ R ∈ D, ∃ B : List En, R = level B ∧ B.length ≤ (ents l).length ∧ ∀ e ∈ B, ∃ x ∈ ents l, e.2 = x.2 ∧ e.1.length ≤ x.1.length := fun R hR => by
      obtain ⟨xs, n, hx, k, hk, rfl⟩ := sub_word (hsub R hR) hD.rise hne
      exact ⟨_, rfl, behind_len _ _, fun e he => behind_mem _ _ _ he⟩
    refine ⟨fun R hR => (hI.lv R hR).1, fun R hR e he => ?_, fun R hR e he => ?_, fun R hR => ?_, fun R hR e he => ?_, fun R hR => sub_runes (hsub R hR) (ents_word h), hw0.1, hw0.2⟩
    · have := least_all he
      rw [(hI.lv R hR).2] at this
      exact this
    · obtain ⟨B, rfl, _, h3⟩ := hb R hR
      obtain ⟨x, hx, rfl⟩ := List.mem_map.1 he
      obtain ⟨y, hy, _, h5⟩ := h3 x hx
      have := hD.en.ln y hy
      simp only
      omega
    · obtain ⟨B, rfl, h2, _⟩ := hb R hR
      have h3 : (level B).length = B.length := by simp [level, shift]
      have h4 : (ents l).length = l.length := by simp [ents]
      have := hD.len
      omega
    · obtain ⟨B, rfl, _, h3⟩ := hb R hR
      obtain ⟨x, hx, rfl⟩ := List.mem_map.1 he
      obtain ⟨y, hy, h4, _⟩ := h3 x hx
      have hB : B ≠ [] := fun e => by rw [e] at hx; cases hx
      obtain ⟨u, hu, hu2⟩ := least_mem hB
      obtain ⟨v, hv, h5, _⟩ := h3 u hu
      have h6 := least_all hv
      have h7 := hD.en.wt y hy
      simp only
      omega
  have hrl : (refF 25 [] [] (ents l)).2 = stF 25 [] (ents l) := e1
  have hv := refF_vis 25 [] [] (ents l) Inv.nil hG
  rw [hrl] at hv
  obtain ⟨v1, v2, _, v4⟩ := hv.resolve_left (fun h => by simp at h)
  generalize stF 25 [] (ents l) = r at *
  obtain ⟨b, nr⟩ := r
  simp only at *
  have hb0 : b ≠ [] := fun e => by rw [e] at v1; simp at v1
  have hnum : numB (b.map ofSt) = true := by
    unfold numB
    have hnr : (b.map ofSt).length - 1 = nr := by rw [List.length_map]; omega
    have := v4 b (List.prefix_refl _) ((b.map ofSt).length + 25) (by omega)
    simp only [List.length_nil] at this
    rw [hnr, this]
    rfl
  have hroot : ((b.map ofSt).getD ((b.map ofSt).length - 1) ⟨false, 0, []⟩).final = false := by
    have hnr : (b.map ofSt).length - 1 = nr := by rw [List.length_map]; omega
    rw [hnr]
    obtain ⟨s, hs⟩ : ∃ s, b[nr]? = some s := ⟨b[nr]'(by omega), List.getElem?_eq_getElem _⟩
    have hst : (b.map ofSt).getD nr ⟨false, 0, []⟩ = ofSt s := by rw [List.getD_eq_getElem?_getD, List.getElem?_map, hs]; rfl
    rw [hst]
    obtain ⟨q1, q2, q3⟩ := hI.row nr s hs
    have hnum := M.num
    simp only at hnum
    rw [hnum] at q1
    obtain ⟨g1, _⟩ := exp_grp hI.lv q3
    rw [← Option.some.inj q1, level, finOf_shift] at g1
    simp only [ofSt]
    rw [← g1]
    obtain ⟨e, r, he⟩ := List.exists_cons_of_ne_nil hne
    rw [he]
    have := hD.pos e (by rw [he]; simp)
    obtain ⟨x, n⟩ := e
    cases x with
    | nil => exact absurd rfl this
    | cons c t => rfl
  have hnd : (b.map ofSt).Nodup := by
    unfold List.Nodup
    rw [List.pairwise_map, List.pairwise_iff_getElem]
    intro i j hi hj hij e
    have h1 := (hI.row i _ (List.getElem?_eq_getElem hi)).1
    have h2 := (hI.row j _ (List.getElem?_eq_getElem hj)).1
    rw [ofSt_inj e] at h1
    have hlt1 := (List.getElem?_eq_some_iff.1 h1).1
    have hlt2 := (List.getElem?_eq_some_iff.1 h2).1
    have := nodup_getD hI.nd hlt1 hlt2 (by rw [h1, h2])
    omega
  have hbnd : bndB (least (ents l)) [] (b.map ofSt) = true := by
    have := bnd_inv hI hR b.length (Nat.le_refl _)
    simpa using this
  have hform := form_inv hI hR
  have hmn : b.map ofSt ≠ [] := by simpa using hb0
  unfold rightB
  rw [if_neg hmn, hroot, hform, hbnd, hnum, decide_eq_true hnd, decide_eq_true hw0]
  rfl
end Go.Proofs.YtdidcombjmbkdaaDoor.Pk
