/- A machine's states and what they say: each state is known by its levelled rests. No program is named here. -/
import Derived.Test.YtdidcombjmbkdaaDoorFSort
namespace Go.Proofs.YtdidcombjmbkdaaDoor.Fm
open Go.Proofs.YtdidcombjmbkdaaDoor.Nums

/-- All weights greater by n. -/
def shift (n : Int) (S : List En) : List En := S.map fun e => (e.1, e.2 + n)
def level (S : List En) : List En := shift (-least S) S
theorem shift_ne {n : Int} {S : List En} : shift n S ≠ [] ↔ S ≠ [] := by simp [shift]
theorem shift_zero (S : List En) : shift 0 S = S := by simp [shift]
theorem shift_shift (m n : Int) (S : List En) : shift m (shift n S) = shift (n + m) S := by
  simp only [shift, List.map_map]
  refine List.map_congr_left fun e _ => ?_
  simp only [Function.comp, Int.add_assoc]
theorem leastF_shift (n : Int) : ∀ (l : List En) (m : Int), leastF (m + n) (shift n l) = leastF m l + n
  | [], _ => rfl
  | e :: r, m => by
    have ih := leastF_shift n r (if e.2 < m then e.2 else m)
    rw [shift, List.map_cons, ← shift, leastF, leastF, ← ih]
    congr 1
    simp only
    split <;> split <;> omega
theorem least_shift (n : Int) {S : List En} (h : S ≠ []) : least (shift n S) = least S + n := by
  cases S with
  | nil => exact absurd rfl h
  | cons e r => exact leastF_shift n (e :: r) e.2
theorem least_level {S : List En} (h : S ≠ []) : least (level S) = 0 := by rw [level, least_shift _ h]; omega
theorem level_shift (n : Int) {S : List En} (h : S ≠ []) : level (shift n S) = level S := by
  rw [level, least_shift n h, shift_shift, level]
  congr 1
  omega
theorem level_of {S : List En} (h : least S = 0) : level S = S := by rw [level, h]; exact shift_zero S
theorem level_ne {S : List En} : level S ≠ [] ↔ S ≠ [] := shift_ne
theorem shift_level (n : Int) (S : List En) : shift n (level S) = shift (n - least S) S := by rw [level, shift_shift]; congr 1; omega
theorem shift_inj {n : Int} {S T : List En} (h : shift n S = shift n T) : S = T := by
  have := congrArg (shift (-n)) h
  rw [shift_shift, shift_shift, Int.add_right_neg, shift_zero, shift_zero] at this
  exact this
theorem shift_tl (n : Int) (e : En) : tl (e.1, e.2 + n) = ((tl e).1, (tl e).2 + n) := rfl
theorem grp_shift (n : Int) : ∀ l : List En, grp (shift n l) = (grp l).map fun p => (p.1, shift n p.2)
  | [] => rfl
  | e :: r => by
    have ih := grp_shift n r
    rw [shift, List.map_cons, ← shift, grp, grp, ih]
    cases grp r with
    | nil => rfl
    | cons p gs =>
      obtain ⟨c, G⟩ := p
      simp only [List.map_cons]
      have hh : hd (e.1, e.2 + n) = hd e := rfl
      rw [hh]
      by_cases h : hd e = c
      · rw [if_pos h, if_pos h]; rfl
      · rw [if_neg h, if_neg h]; rfl
theorem restOf_shift (n : Int) (S : List En) : restOf (shift n S) = shift n (restOf S) := by
  cases S with
  | nil => rfl
  | cons e r =>
    obtain ⟨x, m⟩ := e
    cases x <;> rfl
theorem finOf_shift (n : Int) (S : List En) : finOf (shift n S) = finOf S := by
  cases S with
  | nil => rfl
  | cons e r =>
    obtain ⟨x, m⟩ := e
    cases x <;> rfl
theorem flat_shift (n : Int) (gs : List (Int × List En)) : shift n (flat gs) = flat (gs.map fun p => (p.1, shift n p.2)) := by
  simp only [shift, flat, List.map_flatMap, List.flatMap_map, List.map_map]
  rfl
/-- What a state says, by what those say to which its arcs lead. -/
def outs (D : List (List En)) (as' : List Arc) : List (Int × List En) := as'.map fun a => (a.label, shift a.out (D[a.to]?.getD []))
def fins (s : St) : List En := if s.final then [([], s.out)] else []
def exp (D : List (List En)) (s : St) : List En := fins s ++ flat (outs D s.arcs)
/-- A state as it may be. -/
structure Canon (D : List (List En)) (s : St) : Prop where
  lab : s.arcs.Pairwise fun a b => a.label < b.label
  to : ∀ a ∈ s.arcs, a.to < D.length
  fin : s.final = false → s.out = 0
structure Inv (D : List (List En)) (b : List St) : Prop where
  len : D.length = b.length
  row : ∀ (i : Nat) (s : St), b[i]? = some s → D[i]? = some (exp D s) ∧ (∀ a ∈ s.arcs, a.to < i) ∧ Canon D s
  nd : D.Nodup
  lv : ∀ R ∈ D, R ≠ [] ∧ least R = 0
theorem Inv.nil : Inv [] [] := ⟨rfl, fun i s h => by simp at h, List.nodup_nil, fun R h => by cases h⟩
theorem pre_get {α : Type} {D D' : List α} (h : D <+: D') {i : Nat} (hi : i < D.length) : D'[i]? = D[i]? := by
  obtain ⟨t, rfl⟩ := h
  exact List.getElem?_append_left hi
theorem outs_pre {D D' : List (List En)} (h : D <+: D') {l : List Arc} (ht : ∀ a ∈ l, a.to < D.length) : outs D' l = outs D l := by
  unfold outs
  refine List.map_congr_left fun a ha => ?_
  rw [pre_get h (ht a ha)]
theorem exp_pre {D D' : List (List En)} (h : D <+: D') {s : St} (ht : ∀ a ∈ s.arcs, a.to < D.length) : exp D' s = exp D s := by
  rw [exp, exp, outs_pre h ht]
theorem Canon.pre {D D' : List (List En)} (h : D <+: D') {s : St} (c : Canon D s) : Canon D' s := ⟨c.lab, fun a ha => Nat.lt_of_lt_of_le (c.to a ha) h.length_le, c.fin⟩
theorem flat_ne {gs : List (Int × List En)} : ∀ e ∈ flat gs, e.1 ≠ [] := fun e he => by
  obtain ⟨p, _, h2⟩ := List.mem_flatMap.1 he
  obtain ⟨x, _, rfl⟩ := List.mem_map.1 h2
  simp [pre]
theorem grp_flat : ∀ (gs : List (Int × List En)), (∀ p ∈ gs, p.2 ≠ []) → gs.Pairwise (fun p q => p.1 < q.1) → grp (flat gs) = gs
  | [], _, _ => rfl
  | (c, G) :: r, hne, hp => by
    obtain ⟨h1, h2⟩ := List.pairwise_cons.1 hp
    have ih := grp_flat r (fun p hp => hne p (by simp [hp])) h2
    have key : ∀ (G : List En), G ≠ [] → grp (G.map (pre c) ++ flat r) = (c, G) :: r := by
      intro G
      induction G with
      | nil => intro h; exact absurd rfl h
      | cons g0 G' ihG =>
        intro _
        rw [List.map_cons, List.cons_append, grp]
        have hh : hd (pre c g0) = c := rfl
        have ht : tl (pre c g0) = g0 := rfl
        by_cases hG : G' = []
        · subst hG
          rw [List.map_nil, List.nil_append, ih, hh, ht]
          cases r with
          | nil => rfl
          | cons p r' =>
            obtain ⟨c', G''⟩ := p
            have : ¬ c = c' := fun e => by have := h1 (c', G'') (by simp); simp only at this; omega
            simp only [if_neg this]
        · rw [ihG hG, hh, ht]
          simp
    have : flat ((c, G) :: r) = G.map (pre c) ++ flat r := rfl
    rw [this]
    exact key G (hne (c, G) (by simp))
theorem fins_parts (s : St) {T : List En} (hT : ∀ e ∈ T, e.1 ≠ []) : finOf (fins s ++ T) = s.final ∧ restOf (fins s ++ T) = T := by
  unfold fins
  cases s.final with
  | true => exact ⟨rfl, rfl⟩
  | false =>
    cases T with
    | nil => exact ⟨rfl, rfl⟩
    | cons e r =>
      obtain ⟨x, n⟩ := e
      cases x with
      | nil => exact absurd rfl (hT ([], n) (by simp))
      | cons c t => exact ⟨rfl, rfl⟩
theorem outs_ok {D : List (List En)} {l : List Arc} (hlv : ∀ R ∈ D, R ≠ [] ∧ least R = 0) (ht : ∀ a ∈ l, a.to < D.length) : ∀ p ∈ outs D l, p.2 ≠ [] := fun p hp => by
  obtain ⟨a, ha, rfl⟩ := List.mem_map.1 hp
  rw [List.getElem?_eq_getElem (ht a ha)]
  exact shift_ne.2 (hlv _ (List.getElem_mem _)).1
theorem outs_lab {D : List (List En)} {l : List Arc} (h : l.Pairwise fun a b => a.label < b.label) : (outs D l).Pairwise fun p q => p.1 < q.1 := by
  unfold outs
  rw [List.pairwise_map]
  exact h
theorem exp_grp {D : List (List En)} {s : St} (hlv : ∀ R ∈ D, R ≠ [] ∧ least R = 0) (c : Canon D s) : finOf (exp D s) = s.final ∧ grp (restOf (exp D s)) = outs D s.arcs := by
  obtain ⟨h1, h2⟩ := fins_parts s (T := flat (outs D s.arcs)) flat_ne
  rw [exp, h1, h2]
  exact ⟨rfl, grp_flat _ (outs_ok hlv c.to) (outs_lab c.lab)⟩
theorem nodup_getD {D : List (List En)} (hn : D.Nodup) {i j : Nat} (hi : i < D.length) (hj : j < D.length) (h : D[i]?.getD [] = D[j]?.getD []) : i = j := by
  rw [List.getElem?_eq_getElem hi, List.getElem?_eq_getElem hj] at h
  simp only [Option.getD_some] at h
  have hp := List.pairwise_iff_getElem.1 hn
  rcases Nat.lt_trichotomy i j with h3 | h3 | h3
  · exact absurd h (hp i j hi hj h3)
  · exact h3
  · exact absurd h.symm (hp j i hj hi h3)
theorem outs_inj {D : List (List En)} (hn : D.Nodup) (hlv : ∀ R ∈ D, R ≠ [] ∧ least R = 0) : ∀ (l m : List Arc), (∀ a ∈ l, a.to < D.length) → (∀ a ∈ m, a.to < D.length) → outs D l = outs D m → l = m
  | [], [], _, _, _ => rfl
  | [], _ :: _, _, _, h => by simp [outs] at h
  | _ :: _, [], _, _, h => by simp [outs] at h
  | a :: l, c :: m, hl, hm, h => by
    simp only [outs, List.map_cons, List.cons.injEq, Prod.mk.injEq] at h
    obtain ⟨⟨h1, h2⟩, h3⟩ := h
    have ha := hl a (by simp)
    have hc := hm c (by simp)
    have va := hlv _ (List.getElem_mem ha)
    have vc := hlv _ (List.getElem_mem hc)
    have h2' := h2
    rw [List.getElem?_eq_getElem ha, List.getElem?_eq_getElem hc] at h2'
    simp only [Option.getD_some] at h2'
    have ho : a.out = c.out := by
      have := congrArg least h2'
      rw [least_shift _ va.1, least_shift _ vc.1, va.2, vc.2] at this
      omega
    rw [ho] at h2
    have ht := nodup_getD hn ha hc (shift_inj h2)
    have e : a = c := by cases a; cases c; simp only at h1 ho ht; rw [h1, ho, ht]
    rw [e, outs_inj hn hlv l m (fun x hx => hl x (by simp [hx])) (fun x hx => hm x (by simp [hx])) h3]
theorem exp_inj {D : List (List En)} (hn : D.Nodup) (hlv : ∀ R ∈ D, R ≠ [] ∧ least R = 0) {s t : St} (cs : Canon D s) (ct : Canon D t) (h : exp D s = exp D t) : s = t := by
  obtain ⟨f1, g1⟩ := exp_grp hlv cs
  obtain ⟨f2, g2⟩ := exp_grp hlv ct
  rw [h, f2] at f1
  rw [h, g2] at g1
  have ha := outs_inj hn hlv _ _ cs.to ct.to g1.symm
  have ho : s.out = t.out := by
    cases hf : s.final with
    | false => rw [cs.fin hf, ct.fin (by rw [f1, hf])]
    | true =>
      rw [exp, exp, fins, fins, hf, f1, hf] at h
      simp only [if_true, List.cons_append, List.nil_append, List.cons.injEq, Prod.mk.injEq, true_and] at h
      exact h.1
  cases s; cases t
  simp only at f1 ha ho
  rw [f1, ha, ho]
end Go.Proofs.YtdidcombjmbkdaaDoor.Fm
