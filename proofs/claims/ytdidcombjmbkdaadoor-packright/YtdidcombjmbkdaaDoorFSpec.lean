/- What is made: the states of levelled rests, each once. No program is named here. -/
import Derived.Test.YtdidcombjmbkdaaDoorFInv
namespace Go.Proofs.YtdidcombjmbkdaaDoor.Fm
open Go.Proofs.YtdidcombjmbkdaaDoor.Nums

/-- Levelled rests behind beginnings of words. -/
inductive Sub : List En → List En → Prop
  | here (S : List En) : Sub S (level S)
  | step {S R : List En} {p : Int × List En} : p ∈ grp (restOf S) → Sub p.2 R → Sub S R
/-- What making a state gives. -/
structure Mkd (D : List (List En)) (S : List En) (b : List St) (r : List St × Nat) (D' : List (List En)) : Prop where
  inv : Inv D' r.1
  ext : D <+: D'
  num : D'[r.2]? = some (level S)
  old : ∀ i, D[i]? = some (level S) → r = (b, i) ∧ D' = D
  sub : ∀ R ∈ D', R ∈ D ∨ Sub S R
  all : ∀ R, Sub S R → R ∈ D'
/-- Good rests. -/
def Good (f : Nat) (S : List En) : Prop := S ≠ [] ∧ Rise S ∧ ∀ e ∈ S, e.1.length < f
structure MkdAll (base : Int) (D : List (List En)) (gs : List (Int × List En)) (b : List St) (r : List St × List Arc) (D' : List (List En)) : Prop where
  inv : Inv D' r.1
  ext : D <+: D'
  outs : outs D' r.2 = gs.map fun p => (p.1, shift (-base) p.2)
  to : ∀ a ∈ r.2, a.to < D'.length
  old : (∀ p ∈ gs, level p.2 ∈ D) → r.1 = b ∧ D' = D
  sub : ∀ R ∈ D', R ∈ D ∨ ∃ p ∈ gs, Sub p.2 R
  all : ∀ p ∈ gs, ∀ R, Sub p.2 R → R ∈ D'
theorem arF_spec {f : Nat} {base : Int} (ih : ∀ (D : List (List En)) (b : List St) (S : List En), Inv D b → Good f S → ∃ D', Mkd D S b (stF f b S) D') :
    ∀ (gs : List (Int × List En)) (D : List (List En)) (b : List St), Inv D b → (∀ p ∈ gs, Good f p.2) → ∃ D', MkdAll base D gs b (arF (stF f) base b gs) D'
  | [], D, b, hI, _ => ⟨D, hI, List.prefix_refl _, rfl, fun a ha => by simp [arF] at ha, fun _ => ⟨rfl, rfl⟩, fun R hR => .inl hR, fun p hp => by cases hp⟩
  | (c, G) :: r, D, b, hI, hG => by
    have hGG := hG (c, G) (by simp)
    obtain ⟨D1, M1⟩ := ih D b G hI hGG
    obtain ⟨D2, M2⟩ := arF_spec ih r D1 (stF f b G).1 M1.inv (fun p hp => hG p (by simp [hp]))
    have hlt : (stF f b G).2 < D1.length := (List.getElem?_eq_some_iff.1 M1.num).1
    refine ⟨D2, ?_⟩
    rw [arF]
    refine ⟨M2.inv, M1.ext.trans M2.ext, ?_, fun a ha => ?_, fun h => ?_, fun R hR => ?_, fun p hp R hR => ?_⟩
    · have h2 := M2.outs
      simp only [Fm.outs, List.map_cons] at h2 ⊢
      rw [h2, pre_get M2.ext hlt, M1.num, Option.getD_some, shift_level]
      congr 3
      omega
    · rcases List.mem_cons.1 ha with rfl | ha
      · exact Nat.lt_of_lt_of_le hlt M2.ext.length_le
      · exact M2.to a ha
    · obtain ⟨i, hi⟩ := List.mem_iff_getElem?.1 (h (c, G) (by simp))
      obtain ⟨e1, e2⟩ := M1.old i hi
      subst e2
      obtain ⟨e3, e4⟩ := M2.old fun p hp => h p (by simp [hp])
      exact ⟨by simp only; rw [e3, e1], e4⟩
    · rcases M2.sub R hR with h | ⟨p, hp, h⟩
      · rcases M1.sub R h with h | h
        · exact .inl h
        · exact .inr ⟨(c, G), by simp, h⟩
      · exact .inr ⟨p, by simp [hp], h⟩
    · rcases List.mem_cons.1 hp with rfl | hp
      · exact M2.ext.subset (M1.all R hR)
      · exact M2.all p hp R hR
theorem good_groups {f : Nat} {S : List En} (h : Good (f + 1) S) : ∀ p ∈ grp (restOf S), Good f p.2 := fun p hp => by
  obtain ⟨h0, hr, hl⟩ := h
  obtain ⟨h1, h2⟩ := rise_rest hr
  have hsub : ∀ e ∈ restOf S, e ∈ S := fun e he => by
    cases S with
    | nil => exact he
    | cons x r =>
      obtain ⟨a, n⟩ := x
      cases a with
      | nil => exact .tail _ he
      | cons c t => exact he
  refine ⟨grp_ne _ _ (Nat.le_refl _) p hp, grp_rise _ _ (Nat.le_refl _) h2 h1 p hp, fun e he => ?_⟩
  have := hl _ (hsub _ (grp_mem h2 hp he))
  simp only [pre, List.length_cons] at this
  omega
theorem fins_shift (S : List En) (arcs : List Arc) : shift (-least S) S = fins ⟨finOf S, outOf S, arcs⟩ ++ shift (-least S) (restOf S) := by
  cases S with
  | nil => rfl
  | cons e r =>
    obtain ⟨x, n⟩ := e
    cases x with
    | nil => simp only [finOf, outOf, fins, restOf, shift, if_true, List.map_cons, List.cons_append, List.nil_append, Int.sub_eq_add_neg]
    | cons c t => rfl
theorem outs_labels {D : List (List En)} {arcs : List Arc} {gs : List (Int × List En)} {n : Int} (h : outs D arcs = gs.map fun p => (p.1, shift n p.2)) (hp : gs.Pairwise fun p q => p.1 < q.1) : arcs.Pairwise fun a b => a.label < b.label := by
  have h2 : (outs D arcs).map (·.1) = gs.map (·.1) := by rw [h, List.map_map]; rfl
  have h3 : (outs D arcs).map (·.1) = arcs.map (·.label) := by unfold outs; rw [List.map_map]; rfl
  rw [h3] at h2
  have h4 : (gs.map (·.1)).Pairwise (· < ·) := by rw [List.pairwise_map]; exact hp
  rw [← h2, List.pairwise_map] at h4
  exact h4
theorem stF_spec : ∀ (f : Nat) (D : List (List En)) (b : List St) (S : List En), Inv D b → Good f S → ∃ D', Mkd D S b (stF f b S) D'
  | 0, _, _, S, _, h => by
    obtain ⟨h0, _, h2⟩ := h
    cases S with
    | nil => exact absurd rfl h0
    | cons e r => exact absurd (h2 e (by simp)) (by omega)
  | f + 1, D, b, S, hI, hG => by
    obtain ⟨hr1, hr2⟩ := rise_rest hG.2.1
    have hgg := good_groups hG
    have hfl := flat_grp _ (restOf S) (Nat.le_refl _) hr2
    have hlab := (grp_labels _ (restOf S) (Nat.le_refl _) hr2 hr1).1
    obtain ⟨D1, M⟩ := arF_spec (base := least S) (stF_spec f) (grp (restOf S)) D b hI hgg
    rw [stF]
    generalize arF (stF f) (least S) b (grp (restOf S)) = q at M
    obtain ⟨b1, arcs⟩ := q
    simp only at M ⊢
    obtain ⟨s, hs⟩ : ∃ s : St, s = ⟨finOf S, outOf S, arcs⟩ := ⟨_, rfl⟩
    rw [← hs]
    have hcan : Canon D1 s := by
      rw [hs]
      refine ⟨outs_labels M.outs hlab, M.to, fun h => ?_⟩
      cases S with
      | nil => rfl
      | cons e r =>
        obtain ⟨x, n⟩ := e
        cases x with
        | nil => cases h
        | cons c t => rfl
    have hexp : exp D1 s = level S := by
      rw [exp, level, fins_shift S arcs, hs, M.outs, ← flat_shift, hfl]
    have hlen : D1.length = b1.length := M.inv.len
    have hold : ∀ i, D[i]? = some (level S) → b1 = b ∧ D1 = D ∧ b[i]? = some s := fun i hi => by
      have hil := (List.getElem?_eq_some_iff.1 hi).1
      obtain ⟨t, ht⟩ : ∃ t, b[i]? = some t := ⟨b[i]'(by have := hI.len; omega), List.getElem?_eq_getElem _⟩
      obtain ⟨e1, e2, ct⟩ := hI.row i t ht
      rw [hi] at e1
      have e1' : level S = exp D t := Option.some.inj e1
      obtain ⟨g1, g2⟩ := exp_grp hI.lv ct
      rw [← e1', level, restOf_shift, grp_shift] at g2
      have hall : ∀ p ∈ grp (restOf S), level p.2 ∈ D := fun p hp => by
        have hp' : (p.1, shift (-least S) p.2) ∈ outs D t.arcs := by rw [← g2]; exact List.mem_map.2 ⟨p, hp, rfl⟩
        obtain ⟨a, ha, hae⟩ := List.mem_map.1 hp'
        have hal := ct.to a ha
        rw [List.getElem?_eq_getElem hal] at hae
        simp only [Option.getD_some, Prod.mk.injEq] at hae
        have hv := hI.lv _ (List.getElem_mem hal)
        have : level p.2 = D[a.to] := by
          rw [← level_shift (-least S) (hgg p hp).1, ← hae.2, level_shift _ hv.1, level_of hv.2]
        rw [this]
        exact List.getElem_mem _
      obtain ⟨h1, h2⟩ := M.old hall
      refine ⟨h1, h2, ?_⟩
      rw [h2] at hexp hcan
      rw [ht, exp_inj hI.nd hI.lv ct hcan (e1'.symm.trans hexp.symm)]
    unfold numSt
    by_cases hmem : s ∈ b1
    · rw [if_pos hmem]
      have hidx := List.idxOf_lt_length_of_mem hmem
      have hat : b1[b1.idxOf s]? = some s := by rw [List.getElem?_eq_getElem hidx, List.getElem_idxOf]
      obtain ⟨e1, _, _⟩ := M.inv.row _ s hat
      rw [hexp] at e1
      refine ⟨D1, M.inv, M.ext, e1, fun i hi => ?_, fun R hR => ?_, fun R hR => ?_⟩
      · obtain ⟨h1, h2, h3⟩ := hold i hi
        refine ⟨?_, h2⟩
        subst h1
        rw [h2] at e1
        have hi2 := (List.getElem?_eq_some_iff.1 hi).1
        have hi3 := (List.getElem?_eq_some_iff.1 e1).1
        have : b1.idxOf s = i := nodup_getD hI.nd hi3 hi2 (by rw [e1, hi])
        rw [this]
      · rcases M.sub R hR with h | ⟨p, hp, h⟩
        · exact .inl h
        · exact .inr (.step hp h)
      · cases hR with
        | here => exact List.mem_of_getElem? e1
        | step hp h => exact M.all _ hp R h
    · rw [if_neg hmem]
      have hnew : level S ∉ D1 := fun h => by
        obtain ⟨j, hj⟩ := List.mem_iff_getElem?.1 h
        have hjl := (List.getElem?_eq_some_iff.1 hj).1
        obtain ⟨t, ht⟩ : ∃ t, b1[j]? = some t := ⟨b1[j]'(by omega), List.getElem?_eq_getElem _⟩
        obtain ⟨e1, _, ct⟩ := M.inv.row j t ht
        rw [hj] at e1
        have : s = t := exp_inj M.inv.nd M.inv.lv hcan ct (hexp.trans (Option.some.inj e1))
        exact hmem (this ▸ List.mem_of_getElem? ht)
      have hpre : D1 <+: D1 ++ [level S] := List.prefix_append _ _
      refine ⟨D1 ++ [level S], ⟨by simp [hlen], fun i t hi => ?_, ?_, fun R hR => ?_⟩, M.ext.trans hpre, ?_, fun i hi => ?_, fun R hR => ?_, fun R hR => ?_⟩
      · by_cases hib : i < b1.length
        · rw [List.getElem?_append_left hib] at hi
          obtain ⟨e1, e2, ct⟩ := M.inv.row i t hi
          refine ⟨?_, e2, ct.pre hpre⟩
          rw [pre_get hpre (by omega), e1, exp_pre hpre ct.to]
        · rw [List.getElem?_append_right (by omega)] at hi
          cases hi0 : i - b1.length with
          | zero =>
            rw [hi0] at hi
            simp only [List.getElem?_cons_zero, Option.some.injEq] at hi
            subst hi
            refine ⟨?_, fun a ha => by have := hcan.to a ha; omega, hcan.pre hpre⟩
            rw [exp_pre hpre hcan.to, hexp, List.getElem?_append_right (by omega), hlen, hi0]
            rfl
          | succ j => rw [hi0] at hi; simp at hi
      · rw [List.nodup_append]
        exact ⟨M.inv.nd, by simp, fun a ha c hc => by rw [List.mem_singleton.1 hc]; exact fun e => hnew (e ▸ ha)⟩
      · rcases List.mem_append.1 hR with h | h
        · exact M.inv.lv R h
        · rw [List.mem_singleton.1 h]
          exact ⟨level_ne.2 hG.1, least_level hG.1⟩
      · rw [List.getElem?_append_right (by omega), hlen]
        simp
      · obtain ⟨h1, _, h3⟩ := hold i hi
        rw [h1] at hmem
        exact absurd (List.mem_of_getElem? h3) hmem
      · rcases List.mem_append.1 hR with h | h
        · rcases M.sub R h with h | ⟨p, hp, h⟩
          · exact .inl h
          · exact .inr (.step hp h)
        · rw [List.mem_singleton.1 h]
          exact .inr (.here S)
      · cases hR with
        | here => simp
        | step hp h => exact List.mem_append_left _ (M.all _ hp R h)
end Go.Proofs.YtdidcombjmbkdaaDoor.Fm
