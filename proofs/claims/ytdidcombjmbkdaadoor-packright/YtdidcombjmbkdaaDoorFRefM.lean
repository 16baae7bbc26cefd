/- The reference's way of making states, by levelled rests, makes the same states. No program is named here. -/
import Derived.Test.YtdidcombjmbkdaaDoorFRiseM
namespace Go.Proofs.YtdidcombjmbkdaaDoor.Fm
open Go.Proofs.YtdidcombjmbkdaaDoor.Nums

def refA (st : List (List En) → List St → List En → List (List En) × List St × Nat) : List (List En) → List St → List (Int × List En) → List (List En) × List St × List Arc
  | D, b, [] => (D, b, [])
  | D, b, (c, G) :: r => ((refA st (st D b G).1 (st D b G).2.1 r).1, (refA st (st D b G).1 (st D b G).2.1 r).2.1, ⟨c, least G, (st D b G).2.2⟩ :: (refA st (st D b G).1 (st D b G).2.1 r).2.2)
/-- The reference: what is known (levelled rests, states), and the number. -/
def refF : Nat → List (List En) → List St → List En → List (List En) × List St × Nat
  | 0, D, b, _ => (D, b, 0)
  | f + 1, D, b, S => if level S ∈ D then (D, b, D.idxOf (level S)) else
    ((refA (refF f) D b (grp (restOf (level S)))).1 ++ [level S], (refA (refF f) D b (grp (restOf (level S)))).2.1 ++ [⟨finOf S, outOf (level S), (refA (refF f) D b (grp (restOf (level S)))).2.2⟩], (refA (refF f) D b (grp (restOf (level S)))).2.1.length)
/-- States say which rests they are of. -/
theorem inv_one {D D2 : List (List En)} {b : List St} (h : Inv D b) (h2 : Inv D2 b) : D = D2 := by
  have key : ∀ n i : Nat, i < n → D[i]? = D2[i]? := by
    intro n
    induction n with
    | zero => intro i hi; omega
    | succ n ih =>
      intro i hi
      by_cases hib : i < b.length
      · obtain ⟨s, hs⟩ : ∃ s, b[i]? = some s := ⟨b[i], List.getElem?_eq_getElem hib⟩
        obtain ⟨e1, t1, _⟩ := h.row i s hs
        obtain ⟨e2, _, _⟩ := h2.row i s hs
        rw [e1, e2]
        unfold exp outs
        have : (s.arcs.map fun a => (a.label, shift a.out (D[a.to]?.getD []))) = s.arcs.map fun a => (a.label, shift a.out (D2[a.to]?.getD [])) :=
          List.map_congr_left fun a ha => by rw [ih a.to (by have := t1 a ha; omega)]
        rw [this]
      · rw [List.getElem?_eq_none (by have := h.len; omega), List.getElem?_eq_none (by have := h2.len; omega)]
  exact List.ext_getElem? fun i => key (i + 1) i (Nat.lt_succ_self i)
theorem inv_push {D : List (List En)} {b : List St} {s : St} {L : List En} (h : Inv D b) (hcan : Canon D s) (hexp : exp D s = L) (hn : L ∉ D) (hL : L ≠ [] ∧ least L = 0) : Inv (D ++ [L]) (b ++ [s]) := by
  have hlen := h.len
  have hpre : D <+: D ++ [L] := List.prefix_append _ _
  refine ⟨by simp [hlen], fun i t hi => ?_, ?_, fun R hR => ?_⟩
  · by_cases hib : i < b.length
    · rw [List.getElem?_append_left hib] at hi
      obtain ⟨e1, e2, ct⟩ := h.row i t hi
      refine ⟨?_, e2, ct.pre hpre⟩
      rw [pre_get hpre (by omega), e1, exp_pre hpre ct.to]
    · rw [List.getElem?_append_right (by omega)] at hi
      cases hi0 : i - b.length with
      | zero =>
        rw [hi0] at hi
        simp only [List.getElem?_cons_zero, Option.some.injEq] at hi
        subst hi
        refine ⟨?_, fun a ha => by have := hcan.to a ha; omega, hcan.pre hpre⟩
        rw [exp_pre hpre hcan.to, hexp, List.getElem?_append_right (by omega), hlen, hi0]
        rfl
      | succ j => rw [hi0] at hi; simp at hi
  · rw [List.nodup_append]
    exact ⟨h.nd, by simp, fun a ha c hc => by rw [List.mem_singleton.1 hc]; exact fun e => hn (e ▸ ha)⟩
  · rcases List.mem_append.1 hR with h1 | h1
    · exact h.lv R h1
    · rw [List.mem_singleton.1 h1]; exact hL
theorem in_restOf {S : List En} {e : En} (h : e ∈ restOf S) : e ∈ S := by
  cases S with
  | nil => exact h
  | cons y r =>
    obtain ⟨a, n⟩ := y
    cases a with
    | nil => exact .tail _ h
    | cons c t => exact h
theorem grp_tl : ∀ (m : Nat) (l : List En), l.length ≤ m → ∀ p ∈ grp l, ∀ e ∈ p.2, ∃ x ∈ l, e = tl x
  | _, [], _, _, hp, _, _ => by cases hp
  | 0, y :: r, h, _, _, _, _ => by simp at h
  | m + 1, y :: r, hl, p, hp, e, he => by
    rw [grp_cons] at hp
    rcases List.mem_cons.1 hp with rfl | hp
    · obtain ⟨x, hx, rfl⟩ := List.mem_map.1 he
      exact ⟨x, List.mem_of_mem_take hx, rfl⟩
    · obtain ⟨x, hx, h2⟩ := grp_tl m ((y :: r).drop (lead (hd y) r + 1)) (by rw [List.length_drop]; simp at hl ⊢; omega) p hp e he
      exact ⟨x, List.mem_of_mem_drop hx, h2⟩
theorem sub_short {T R : List En} (hs : Sub T R) {k : Nat} : (∀ e ∈ T, e.1.length ≤ k) → ∀ e ∈ R, e.1.length ≤ k := by
  induction hs with
  | here T =>
    intro h e he
    obtain ⟨x, hx, rfl⟩ := List.mem_map.1 he
    exact h x hx
  | @step T' R' p hp hsub ih =>
    intro h
    refine ih fun e he => ?_
    obtain ⟨x, hx, rfl⟩ := grp_tl _ _ (Nat.le_refl _) p hp e he
    have := h x (in_restOf hx)
    simp only [tl, List.length_tail]
    omega
theorem longest : ∀ T : List En, T ≠ [] → ∃ e ∈ T, ∀ x ∈ T, x.1.length ≤ e.1.length
  | [], h => absurd rfl h
  | y :: r, _ => by
    by_cases hr : r = []
    · subst hr; exact ⟨y, by simp, fun x hx => by rw [List.mem_singleton] at hx; subst hx; exact Nat.le_refl _⟩
    · obtain ⟨e, he, h⟩ := longest r hr
      by_cases hl : e.1.length ≤ y.1.length
      · exact ⟨y, by simp, fun x hx => by
          rcases List.mem_cons.1 hx with rfl | hx
          · exact Nat.le_refl _
          · exact Nat.le_trans (h x hx) hl⟩
      · exact ⟨e, by simp [he], fun x hx => by
          rcases List.mem_cons.1 hx with rfl | hx
          · omega
          · exact h x hx⟩
/-- A whole is none of its own parts. -/
theorem not_own {S : List En} (h0 : S ≠ []) (hr : Rise S) {p : Int × List En} (hp : p ∈ grp (restOf S)) : ¬ Sub p.2 (level S) := fun h => by
  obtain ⟨_, hr2⟩ := rise_rest hr
  obtain ⟨e, he, hmax⟩ := longest S h0
  obtain ⟨g0, hg0⟩ : ∃ g0, g0 ∈ p.2 := List.exists_mem_of_ne_nil _ (grp_ne _ _ (Nat.le_refl _) p hp)
  have hpos : 0 < e.1.length := by
    have := hmax _ (in_restOf (grp_mem hr2 hp hg0))
    simp only [pre, List.length_cons] at this
    omega
  have hk := sub_short h (k := e.1.length - 1) (fun x hx => by
    have := hmax _ (in_restOf (grp_mem hr2 hp hx))
    simp only [pre, List.length_cons] at this
    omega) (e.1, e.2 + -least S) (List.mem_map.2 ⟨e, he, rfl⟩)
  simp only at hk
  omega
theorem outOf_shift (n : Int) {S : List En} (h : S ≠ []) : outOf (shift n S) = outOf S := by
  cases S with
  | nil => exact absurd rfl h
  | cons e r =>
    have hs := least_shift n h
    obtain ⟨x, m⟩ := e
    cases x with
    | nil =>
      show m + n - least (shift n (([], m) :: r)) = m - least (([], m) :: r)
      omega
    | cons c t => rfl
theorem refF_shift (f : Nat) (D : List (List En)) (b : List St) (n : Int) {S : List En} (h : S ≠ []) : refF f D b (shift n S) = refF f D b S := by
  cases f with
  | zero => rfl
  | succ f => rw [refF, refF, level_shift n h, finOf_shift]
theorem refA_eq {f : Nat} {base : Int} (ih : ∀ (D : List (List En)) (b : List St) (S : List En), Inv D b → Good f S → (refF f D b S).2 = stF f b S ∧ Inv (refF f D b S).1 (stF f b S).1) :
    ∀ (gs : List (Int × List En)) (D : List (List En)) (b : List St), Inv D b → (∀ p ∈ gs, Good f p.2) → (refA (refF f) D b (gs.map fun p => (p.1, shift (-base) p.2))).2 = arF (stF f) base b gs ∧ Inv (refA (refF f) D b (gs.map fun p => (p.1, shift (-base) p.2))).1 (arF (stF f) base b gs).1
  | [], D, b, hI, _ => ⟨rfl, hI⟩
  | (c, G) :: r, D, b, hI, hG => by
    have hGG := hG (c, G) (by simp)
    obtain ⟨e1, i1⟩ := ih D b G hI hGG
    obtain ⟨e2, i2⟩ := refA_eq ih r (refF f D b G).1 (stF f b G).1 i1 (fun p hp => hG p (by simp [hp]))
    have hne : G ≠ [] := hGG.1
    have hl : least (shift (-base) G) = least G - base := by rw [least_shift _ hne]; omega
    simp only [List.map_cons, refA, arF, refF_shift f D b (-base) hne, e1, hl]
    refine ⟨?_, i2⟩
    rw [← e2]
/-- The reference makes the same states with the same numbers. -/
theorem ref_st : ∀ (f : Nat) (D : List (List En)) (b : List St) (S : List En), Inv D b → Good f S → (refF f D b S).2 = stF f b S ∧ Inv (refF f D b S).1 (stF f b S).1
  | 0, _, _, S, _, h => by
    obtain ⟨h0, _, h2⟩ := h
    cases S with
    | nil => exact absurd rfl h0
    | cons e r => exact absurd (h2 e (by simp)) (by omega)
  | f + 1, D, b, S, hI, hG => by
    by_cases hm : level S ∈ D
    · obtain ⟨D', M⟩ := stF_spec (f + 1) D b S hI hG
      obtain ⟨e1, e2⟩ := M.old (D.idxOf (level S)) (by rw [List.getElem?_eq_getElem (List.idxOf_lt_length_of_mem hm), List.getElem_idxOf])
      rw [e1, refF, if_pos hm]
      exact ⟨rfl, hI⟩
    · obtain ⟨hr1, hr2⟩ := rise_rest hG.2.1
      have hgg := good_groups hG
      have hfl := flat_grp _ (restOf S) (Nat.le_refl _) hr2
      have hlab := (grp_labels _ (restOf S) (Nat.le_refl _) hr2 hr1).1
      obtain ⟨D1, M⟩ := arF_spec (base := least S) (stF_spec f) (grp (restOf S)) D b hI hgg
      obtain ⟨e1, i1⟩ := refA_eq (base := least S) (ref_st f) (grp (restOf S)) D b hI hgg
      have hgr : grp (restOf (level S)) = (grp (restOf S)).map fun p => (p.1, shift (-least S) p.2) := by rw [level, restOf_shift, grp_shift]
      have ho : outOf (level S) = outOf S := outOf_shift _ hG.1
      rw [refF, if_neg hm, stF, hgr, ho]
      rw [inv_one i1 M.inv, e1]
      generalize arF (stF f) (least S) b (grp (restOf S)) = q at M
      obtain ⟨b1, arcs⟩ := q
      simp only at M ⊢
      have hcan : Canon D1 ⟨finOf S, outOf S, arcs⟩ := by
        refine ⟨outs_labels M.outs hlab, M.to, fun h => ?_⟩
        cases S with
        | nil => rfl
        | cons e r =>
          obtain ⟨x, n⟩ := e
          cases x with
          | nil => cases h
          | cons c t => rfl
      have hexp : exp D1 ⟨finOf S, outOf S, arcs⟩ = level S := by
        rw [exp, level, fins_shift S arcs, M.outs, ← flat_shift, hfl]
      have hn1 : level S ∉ D1 := fun h => by
        rcases M.sub _ h with h | ⟨p, hp, h⟩
        · exact hm h
        · exact not_own hG.1 hG.2.1 hp h
      have hnot : (⟨finOf S, outOf S, arcs⟩ : St) ∉ b1 := fun h => by
        obtain ⟨j, hj⟩ := List.mem_iff_getElem?.1 h
        have h1 := (M.inv.row j _ hj).1
        rw [hexp] at h1
        exact hn1 (List.mem_of_getElem? h1)
      rw [numSt, if_neg hnot]
      exact ⟨rfl, inv_push M.inv hcan hexp hn1 ⟨level_ne.2 hG.1, least_level hG.1⟩⟩
end Go.Proofs.YtdidcombjmbkdaaDoor.Fm
