/- Texts that were written apart, joined. -/
import Derived.Test.YtncnefpkfbngaaaGreatDoorGh
/- A machine's states and what they say: each state is known by its levelled rests. No program is named here. -/
namespace Go.Proofs.YtncnefpkfbngaaaGreatDoor.Fm
open Go.Proofs.YtncnefpkfbngaaaGreatDoor.Nums

/-- All weights greater by n. -/
def shift (n : Int) (S : List En) : List En := S.map fun e => (e.1, e.2 + n)
def level (S : List En) : List En := shift (-least S) S
theorem shift_ne {n : Int} {S : List En} : shift n S ≠ [] ↔ S ≠ [] := by simp [shift]
theorem shift_zero (S : List En) : shift 0 S = S := by simp [shift]
theorem shift_shift (m n : Int) (S : List En) : shift m (shift n S) = shift (n + m) S := by
 simp only [shift, List.map_map]
 refine List.map_congr_left fun e _ => ?_
 simp only [Function.comp, Int.add_assoc]
theorem leastF_shift (n : Int) : ∀ (l : List En) (m : Int), leastF (m + n) (shift n l) = leastF m l + n
 | [], _ => rfl
 | e :: r, m => by
  have ih := leastF_shift n r (if e.2 < m then e.2 else m)
  rw [shift, List.map_cons, ← shift, leastF, leastF, ← ih]
  congr 1
  simp only
  split <;> split <;> omega
theorem least_shift (n : Int) {S : List En} (h : S ≠ []) : least (shift n S) = least S + n := by
 cases S with
 | nil => exact absurd rfl h
 | cons e r => exact leastF_shift n (e :: r) e.2
theorem least_level {S : List En} (h : S ≠ []) : least (level S) = 0 := by rw [level, least_shift _ h]; omega
theorem level_shift (n : Int) {S : List En} (h : S ≠ []) : level (shift n S) = level S := by
 rw [level, least_shift n h, shift_shift, level]
 congr 1
 omega
theorem level_of {S : List En} (h : least S = 0) : level S = S := by rw [level, h]; exact shift_zero S
theorem level_ne {S : List En} : level S ≠ [] ↔ S ≠ [] := shift_ne
theorem shift_level (n : Int) (S : List En) : shift n (level S) = shift (n - least S) S := by rw [level, shift_shift]; congr 1; omega
theorem shift_inj {n : Int} {S T : List En} (h : shift n S = shift n T) : S = T := by
 have := congrArg (shift (-n)) h
 rw [shift_shift, shift_shift, Int.add_right_neg, shift_zero, shift_zero] at this
 exact this
theorem grp_shift (n : Int) : ∀ l : List En, grp (shift n l) = (grp l).map fun p => (p.1, shift n p.2)
 | [] => rfl
 | e :: r => by
  have ih := grp_shift n r
  rw [shift, List.map_cons, ← shift, grp, grp, ih]
  cases grp r with
  | nil => rfl
  | cons p gs =>
   obtain ⟨c, G⟩ := p
   simp only [List.map_cons]
   have hh : hd (e.1, e.2 + n) = hd e := rfl
   rw [hh]
   by_cases h : hd e = c
   · rw [if_pos h, if_pos h]; rfl
   · rw [if_neg h, if_neg h]; rfl
theorem restOf_shift (n : Int) (S : List En) : restOf (shift n S) = shift n (restOf S) := by
 cases S with
 | nil => rfl
 | cons e r =>
  obtain ⟨x, m⟩ := e
  cases x <;> rfl
theorem finOf_shift (n : Int) (S : List En) : finOf (shift n S) = finOf S := by
 cases S with
 | nil => rfl
 | cons e r =>
  obtain ⟨x, m⟩ := e
  cases x <;> rfl
theorem flat_shift (n : Int) (gs : List (Int × List En)) : shift n (flat gs) = flat (gs.map fun p => (p.1, shift n p.2)) := by
 simp only [shift, flat, List.map_flatMap, List.flatMap_map, List.map_map]
 rfl
/-- What a state says, by what those say to which its arcs lead. -/
def outs (D : List (List En)) (as' : List Arc) : List (Int × List En) := as'.map fun a => (a.label, shift a.out (D[a.to]?.getD []))
def fins (s : St) : List En := if s.final then [([], s.out)] else []
def exp (D : List (List En)) (s : St) : List En := fins s ++ flat (outs D s.arcs)
/-- A state as it may be. -/
structure Canon (D : List (List En)) (s : St) : Prop where
 lab : s.arcs.Pairwise fun a b => a.label < b.label
 to : ∀ a ∈ s.arcs, a.to < D.length
 fin : s.final = false → s.out = 0
structure Inv (D : List (List En)) (b : List St) : Prop where
 len : D.length = b.length
 row : ∀ (i : Nat) (s : St), b[i]? = some s → D[i]? = some (exp D s) ∧ (∀ a ∈ s.arcs, a.to < i) ∧ Canon D s
 nd : D.Nodup
 lv : ∀ R ∈ D, R ≠ [] ∧ least R = 0
theorem Inv.nil : Inv [] [] := ⟨rfl, fun i s h => by simp at h, List.nodup_nil, fun R h => by cases h⟩
theorem pre_get {α : Type} {D D' : List α} (h : D <+: D') {i : Nat} (hi : i < D.length) : D'[i]? = D[i]? := by
 obtain ⟨t, rfl⟩ := h
 exact List.getElem?_append_left hi
theorem outs_pre {D D' : List (List En)} (h : D <+: D') {l : List Arc} (ht : ∀ a ∈ l, a.to < D.length) : outs D' l = outs D l := by
 unfold outs
 refine List.map_congr_left fun a ha => ?_
 rw [pre_get h (ht a ha)]
theorem exp_pre {D D' : List (List En)} (h : D <+: D') {s : St} (ht : ∀ a ∈ s.arcs, a.to < D.length) : exp D' s = exp D s := by
 rw [exp, exp, outs_pre h ht]
theorem Canon.pre {D D' : List (List En)} (h : D <+: D') {s : St} (c : Canon D s) : Canon D' s := ⟨c.lab, fun a ha => Nat.lt_of_lt_of_le (c.to a ha) h.length_le, c.fin⟩
theorem flat_ne {gs : List (Int × List En)} : ∀ e ∈ flat gs, e.1 ≠ [] := fun e he => by
 obtain ⟨p, _, h2⟩ := List.mem_flatMap.1 he
 obtain ⟨x, _, rfl⟩ := List.mem_map.1 h2
 simp [pre]
theorem grp_flat : ∀ (gs : List (Int × List En)), (∀ p ∈ gs, p.2 ≠ []) → gs.Pairwise (fun p q => p.1 < q.1) → grp (flat gs) = gs
 | [], _, _ => rfl
 | (c, G) :: r, hne, hp => by
  obtain ⟨h1, h2⟩ := List.pairwise_cons.1 hp
  have ih := grp_flat r (fun p hp => hne p (by simp [hp])) h2
  have key : ∀ (G : List En), G ≠ [] → grp (G.map (pre c) ++ flat r) = (c, G) :: r := by
   intro G
   induction G with
   | nil => intro h; exact absurd rfl h
   | cons g0 G' ihG =>
    intro _
    rw [List.map_cons, List.cons_append, grp]
    have hh : hd (pre c g0) = c := rfl
    have ht : tl (pre c g0) = g0 := rfl
    by_cases hG : G' = []
    · subst hG
      rw [List.map_nil, List.nil_append, ih, hh, ht]
      cases r with
      | nil => rfl
      | cons p r' =>
       obtain ⟨c', G''⟩ := p
       have : ¬ c = c' := fun e => by have := h1 (c', G'') (by simp); simp only at this; omega
       simp only [if_neg this]
    · rw [ihG hG, hh, ht]
      simp
  have : flat ((c, G) :: r) = G.map (pre c) ++ flat r := rfl
  rw [this]
  exact key G (hne (c, G) (by simp))
theorem fins_parts (s : St) {T : List En} (hT : ∀ e ∈ T, e.1 ≠ []) : finOf (fins s ++ T) = s.final ∧ restOf (fins s ++ T) = T := by
 unfold fins
 cases s.final with
 | true => exact ⟨rfl, rfl⟩
 | false =>
  cases T with
  | nil => exact ⟨rfl, rfl⟩
  | cons e r =>
   obtain ⟨x, n⟩ := e
   cases x with
   | nil => exact absurd rfl (hT ([], n) (by simp))
   | cons c t => exact ⟨rfl, rfl⟩
theorem outs_ok {D : List (List En)} {l : List Arc} (hlv : ∀ R ∈ D, R ≠ [] ∧ least R = 0) (ht : ∀ a ∈ l, a.to < D.length) : ∀ p ∈ outs D l, p.2 ≠ [] := fun p hp => by
 obtain ⟨a, ha, rfl⟩ := List.mem_map.1 hp
 rw [List.getElem?_eq_getElem (ht a ha)]
 exact shift_ne.2 (hlv _ (List.getElem_mem _)).1
theorem outs_lab {D : List (List En)} {l : List Arc} (h : l.Pairwise fun a b => a.label < b.label) : (outs D l).Pairwise fun p q => p.1 < q.1 := by
 unfold outs
 rw [List.pairwise_map]
 exact h
theorem exp_grp {D : List (List En)} {s : St} (hlv : ∀ R ∈ D, R ≠ [] ∧ least R = 0) (c : Canon D s) : finOf (exp D s) = s.final ∧ grp (restOf (exp D s)) = outs D s.arcs := by
 obtain ⟨h1, h2⟩ := fins_parts s (T := flat (outs D s.arcs)) flat_ne
 rw [exp, h1, h2]
 exact ⟨rfl, grp_flat _ (outs_ok hlv c.to) (outs_lab c.lab)⟩
theorem nodup_getD {D : List (List En)} (hn : D.Nodup) {i j : Nat} (hi : i < D.length) (hj : j < D.length) (h : D[i]?.getD [] = D[j]?.getD []) : i = j := by
 rw [List.getElem?_eq_getElem hi, List.getElem?_eq_getElem hj] at h
 simp only [Option.getD_some] at h
 have hp := List.pairwise_iff_getElem.1 hn
 rcases Nat.lt_trichotomy i j with h3 | h3 | h3
 · exact absurd h (hp i j hi hj h3)
 · exact h3
 · exact absurd h.symm (hp j i hj hi h3)
theorem outs_inj {D : List (List En)} (hn : D.Nodup) (hlv : ∀ R ∈ D, R ≠ [] ∧ least R = 0) : ∀ (l m : List Arc), (∀ a ∈ l, a.to < D.length) → (∀ a ∈ m, a.to < D.length) → outs D l = outs D m → l = m
 | [], [], _, _, _ => rfl
 | [], _ :: _, _, _, h => by simp [outs] at h
 | _ :: _, [], _, _, h => by simp [outs] at h
 | a :: l, c :: m, hl, hm, h => by
  simp only [outs, List.map_cons, List.cons.injEq, Prod.mk.injEq] at h
  obtain ⟨⟨h1, h2⟩, h3⟩ := h
  have ha := hl a (by simp)
  have hc := hm c (by simp)
  have va := hlv _ (List.getElem_mem ha)
  have vc := hlv _ (List.getElem_mem hc)
  have h2' := h2
  rw [List.getElem?_eq_getElem ha, List.getElem?_eq_getElem hc] at h2'
  simp only [Option.getD_some] at h2'
  have ho : a.out = c.out := by
   have := congrArg least h2'
   rw [least_shift _ va.1, least_shift _ vc.1, va.2, vc.2] at this
   omega
  rw [ho] at h2
  have ht := nodup_getD hn ha hc (shift_inj h2)
  have e : a = c := by cases a; cases c; simp only at h1 ho ht; rw [h1, ho, ht]
  rw [e, outs_inj hn hlv l m (fun x hx => hl x (by simp [hx])) (fun x hx => hm x (by simp [hx])) h3]
theorem exp_inj {D : List (List En)} (hn : D.Nodup) (hlv : ∀ R ∈ D, R ≠ [] ∧ least R = 0) {s t : St} (cs : Canon D s) (ct : Canon D t) (h : exp D s = exp D t) : s = t := by
 obtain ⟨f1, g1⟩ := exp_grp hlv cs
 obtain ⟨f2, g2⟩ := exp_grp hlv ct
 rw [h, f2] at f1
 rw [h, g2] at g1
 have ha := outs_inj hn hlv _ _ cs.to ct.to g1.symm
 have ho : s.out = t.out := by
  cases hf : s.final with
  | false => rw [cs.fin hf, ct.fin (by rw [f1, hf])]
  | true =>
   rw [exp, exp, fins, fins, hf, f1, hf] at h
   simp only [if_true, List.cons_append, List.nil_append, List.cons.injEq, Prod.mk.injEq, true_and] at h
   exact h.1
 cases s; cases t
 simp only at f1 ha ho
 rw [f1, ha, ho]
end Go.Proofs.YtncnefpkfbngaaaGreatDoor.Fm

/- What is made: the states of levelled rests, each once. No program is named here. -/
namespace Go.Proofs.YtncnefpkfbngaaaGreatDoor.Fm
open Go.Proofs.YtncnefpkfbngaaaGreatDoor.Nums

/-- Levelled rests behind beginnings of words. -/
inductive Sub : List En → List En → Prop
 | here (S : List En) : Sub S (level S)
 | step {S R : List En} {p : Int × List En} : p ∈ grp (restOf S) → Sub p.2 R → Sub S R
/-- What making a state gives. -/
structure Mkd (D : List (List En)) (S : List En) (b : List St) (r : List St × Nat) (D' : List (List En)) : Prop where
 inv : Inv D' r.1
 ext : D <+: D'
 num : D'[r.2]? = some (level S)
 old : ∀ i, D[i]? = some (level S) → r = (b, i) ∧ D' = D
 sub : ∀ R ∈ D', R ∈ D ∨ Sub S R
 all : ∀ R, Sub S R → R ∈ D'
/-- Good rests. -/
def Good (f : Nat) (S : List En) : Prop := S ≠ [] ∧ Rise S ∧ ∀ e ∈ S, e.1.length < f
structure MkdAll (base : Int) (D : List (List En)) (gs : List (Int × List En)) (b : List St) (r : List St × List Arc) (D' : List (List En)) : Prop where
 inv : Inv D' r.1
 ext : D <+: D'
 outs : outs D' r.2 = gs.map fun p => (p.1, shift (-base) p.2)
 to : ∀ a ∈ r.2, a.to < D'.length
 old : (∀ p ∈ gs, level p.2 ∈ D) → r.1 = b ∧ D' = D
 sub : ∀ R ∈ D', R ∈ D ∨ ∃ p ∈ gs, Sub p.2 R
 all : ∀ p ∈ gs, ∀ R, Sub p.2 R → R ∈ D'
theorem arF_spec {f : Nat} {base : Int} (ih : ∀ (D : List (List En)) (b : List St) (S : List En), Inv D b → Good f S → ∃ D', Mkd D S b (stF f b S) D') :
 ∀ (gs : List (Int × List En)) (D : List (List En)) (b : List St), Inv D b → (∀ p ∈ gs, Good f p.2) → ∃ D', MkdAll base D gs b (arF (stF f) base b gs) D'
 | [], D, b, hI, _ => ⟨D, hI, List.prefix_refl _, rfl, fun a ha => by simp [arF] at ha, fun _ => ⟨rfl, rfl⟩, fun R hR => .inl hR, fun p hp => by cases hp⟩
 | (c, G) :: r, D, b, hI, hG => by
  have hGG := hG (c, G) (by simp)
  obtain ⟨D1, M1⟩ := ih D b G hI hGG
  obtain ⟨D2, M2⟩ := arF_spec ih r D1 (stF f b G).1 M1.inv (fun p hp => hG p (by simp [hp]))
  have hlt : (stF f b G).2 < D1.length := (List.getElem?_eq_some_iff.1 M1.num).1
  refine ⟨D2, ?_⟩
  rw [arF]
  refine ⟨M2.inv, M1.ext.trans M2.ext, ?_, fun a ha => ?_, fun h => ?_, fun R hR => ?_, fun p hp R hR => ?_⟩
  · have h2 := M2.outs
    simp only [Fm.outs, List.map_cons] at h2 ⊢
    rw [h2, pre_get M2.ext hlt, M1.num, Option.getD_some, shift_level]
    congr 3
    omega
  · rcases List.mem_cons.1 ha with rfl | ha
    · exact Nat.lt_of_lt_of_le hlt M2.ext.length_le
    · exact M2.to a ha
  · obtain ⟨i, hi⟩ := List.mem_iff_getElem?.1 (h (c, G) (by simp))
    obtain ⟨e1, e2⟩ := M1.old i hi
    subst e2
    obtain ⟨e3, e4⟩ := M2.old fun p hp => h p (by simp [hp])
    exact ⟨by simp only; rw [e3, e1], e4⟩
  · rcases M2.sub R hR with h | ⟨p, hp, h⟩
    · rcases M1.sub R h with h | h
      · exact .inl h
      · exact .inr ⟨(c, G), by simp, h⟩
    · exact .inr ⟨p, by simp [hp], h⟩
  · rcases List.mem_cons.1 hp with rfl | hp
    · exact M2.ext.subset (M1.all R hR)
    · exact M2.all p hp R hR
theorem good_groups {f : Nat} {S : List En} (h : Good (f + 1) S) : ∀ p ∈ grp (restOf S), Good f p.2 := fun p hp => by
 obtain ⟨h0, hr, hl⟩ := h
 obtain ⟨h1, h2⟩ := rise_rest hr
 have hsub : ∀ e ∈ restOf S, e ∈ S := fun e he => by
  cases S with
  | nil => exact he
  | cons x r =>
   obtain ⟨a, n⟩ := x
   cases a with
   | nil => exact .tail _ he
   | cons c t => exact he
 refine ⟨grp_ne _ _ (Nat.le_refl _) p hp, grp_rise _ _ (Nat.le_refl _) h2 h1 p hp, fun e he => ?_⟩
 have := hl _ (hsub _ (grp_mem h2 hp he))
 simp only [pre, List.length_cons] at this
 omega
theorem fins_shift (S : List En) (arcs : List Arc) : shift (-least S) S = fins ⟨finOf S, outOf S, arcs⟩ ++ shift (-least S) (restOf S) := by
 cases S with
 | nil => rfl
 | cons e r =>
  obtain ⟨x, n⟩ := e
  cases x with
  | nil => simp only [finOf, outOf, fins, restOf, shift, if_true, List.map_cons, List.cons_append, List.nil_append, Int.sub_eq_add_neg]
  | cons c t => rfl
theorem outs_labels {D : List (List En)} {arcs : List Arc} {gs : List (Int × List En)} {n : Int} (h : outs D arcs = gs.map fun p => (p.1, shift n p.2)) (hp : gs.Pairwise fun p q => p.1 < q.1) : arcs.Pairwise fun a b => a.label < b.label := by
 have h2 : (outs D arcs).map (·.1) = gs.map (·.1) := by rw [h, List.map_map]; rfl
 have h3 : (outs D arcs).map (·.1) = arcs.map (·.label) := by unfold outs; rw [List.map_map]; rfl
 rw [h3] at h2
 have h4 : (gs.map (·.1)).Pairwise (· < ·) := by rw [List.pairwise_map]; exact hp
 rw [← h2, List.pairwise_map] at h4
 exact h4
theorem stF_spec : ∀ (f : Nat) (D : List (List En)) (b : List St) (S : List En), Inv D b → Good f S → ∃ D', Mkd D S b (stF f b S) D'
 | 0, _, _, S, _, h => by
  obtain ⟨h0, _, h2⟩ := h
  cases S with
  | nil => exact absurd rfl h0
  | cons e r => exact absurd (h2 e (by simp)) (by omega)
 | f + 1, D, b, S, hI, hG => by
  obtain ⟨hr1, hr2⟩ := rise_rest hG.2.1
  have hgg := good_groups hG
  have hfl := flat_grp _ (restOf S) (Nat.le_refl _) hr2
  have hlab := (grp_labels _ (restOf S) (Nat.le_refl _) hr2 hr1).1
  obtain ⟨D1, M⟩ := arF_spec (base := least S) (stF_spec f) (grp (restOf S)) D b hI hgg
  rw [stF]
  generalize arF (stF f) (least S) b (grp (restOf S)) = q at M
  obtain ⟨b1, arcs⟩ := q
  simp only at M ⊢
  obtain ⟨s, hs⟩ : ∃ s : St, s = ⟨finOf S, outOf S, arcs⟩ := ⟨_, rfl⟩
  rw [← hs]
  have hcan : Canon D1 s := by
   rw [hs]
   refine ⟨outs_labels M.outs hlab, M.to, fun h => ?_⟩
   cases S with
   | nil => rfl
   | cons e r =>
    obtain ⟨x, n⟩ := e
    cases x with
    | nil => cases h
    | cons c t => rfl
  have hexp : exp D1 s = level S := by
   rw [exp, level, fins_shift S arcs, hs, M.outs, ← flat_shift, hfl]
  have hlen : D1.length = b1.length := M.inv.len
  have hold : ∀ i, D[i]? = some (level S) → b1 = b ∧ D1 = D ∧ b[i]? = some s := fun i hi => by
   have hil := (List.getElem?_eq_some_iff.1 hi).1
   obtain ⟨t, ht⟩ : ∃ t, b[i]? = some t := ⟨b[i]'(by have := hI.len; omega), List.getElem?_eq_getElem _⟩
   obtain ⟨e1, e2, ct⟩ := hI.row i t ht
   rw [hi] at e1
   have e1' : level S = exp D t := Option.some.inj e1
   obtain ⟨g1, g2⟩ := exp_grp hI.lv ct
   rw [← e1', level, restOf_shift, grp_shift] at g2
   have hall : ∀ p ∈ grp (restOf S), level p.2 ∈ D := fun p hp => by
    have hp' : (p.1, shift (-least S) p.2) ∈ outs D t.arcs := by rw [← g2]; exact List.mem_map.2 ⟨p, hp, rfl⟩
    obtain ⟨a, ha, hae⟩ := List.mem_map.1 hp'
    have hal := ct.to a ha
    rw [List.getElem?_eq_getElem hal] at hae
    simp only [Option.getD_some, Prod.mk.injEq] at hae
    have hv := hI.lv _ (List.getElem_mem hal)
    have : level p.2 = D[a.to] := by
     rw [← level_shift (-least S) (hgg p hp).1, ← hae.2, level_shift _ hv.1, level_of hv.2]
    rw [this]
    exact List.getElem_mem _
   obtain ⟨h1, h2⟩ := M.old hall
   refine ⟨h1, h2, ?_⟩
   rw [h2] at hexp hcan
   rw [ht, exp_inj hI.nd hI.lv ct hcan (e1'.symm.trans hexp.symm)]
  unfold numSt
  by_cases hmem : s ∈ b1
  · rw [if_pos hmem]
    have hidx := List.idxOf_lt_length_of_mem hmem
    have hat : b1[b1.idxOf s]? = some s := by rw [List.getElem?_eq_getElem hidx, List.getElem_idxOf]
    obtain ⟨e1, _, _⟩ := M.inv.row _ s hat
    rw [hexp] at e1
    refine ⟨D1, M.inv, M.ext, e1, fun i hi => ?_, fun R hR => ?_, fun R hR => ?_⟩
    · obtain ⟨h1, h2, h3⟩ := hold i hi
      refine ⟨?_, h2⟩
      subst h1
      rw [h2] at e1
      have hi2 := (List.getElem?_eq_some_iff.1 hi).1
      have hi3 := (List.getElem?_eq_some_iff.1 e1).1
      have : b1.idxOf s = i := nodup_getD hI.nd hi3 hi2 (by rw [e1, hi])
      rw [this]
    · rcases M.sub R hR with h | ⟨p, hp, h⟩
      · exact .inl h
      · exact .inr (.step hp h)
    · cases hR with
      | here => exact List.mem_of_getElem? e1
      | step hp h => exact M.all _ hp R h
  · rw [if_neg hmem]
    have hnew : level S ∉ D1 := fun h => by
     obtain ⟨j, hj⟩ := List.mem_iff_getElem?.1 h
     have hjl := (List.getElem?_eq_some_iff.1 hj).1
     obtain ⟨t, ht⟩ : ∃ t, b1[j]? = some t := ⟨b1[j]'(by omega), List.getElem?_eq_getElem _⟩
     obtain ⟨e1, _, ct⟩ := M.inv.row j t ht
     rw [hj] at e1
     have : s = t := exp_inj M.inv.nd M.inv.lv hcan ct (hexp.trans (Option.some.inj e1))
     exact hmem (this ▸ List.mem_of_getElem? ht)
    have hpre : D1 <+: D1 ++ [level S] := List.prefix_append _ _
    refine ⟨D1 ++ [level S], ⟨by simp [hlen], fun i t hi => ?_, ?_, fun R hR => ?_⟩, M.ext.trans hpre, ?_, fun i hi => ?_, fun R hR => ?_, fun R hR => ?_⟩
    · by_cases hib : i < b1.length
      · rw [List.getElem?_append_left hib] at hi
        obtain ⟨e1, e2, ct⟩ := M.inv.row i t hi
        refine ⟨?_, e2, ct.pre hpre⟩
        rw [pre_get hpre (by omega), e1, exp_pre hpre ct.to]
      · rw [List.getElem?_append_right (by omega)] at hi
        cases hi0 : i - b1.length with
        | zero =>
         rw [hi0] at hi
         simp only [List.getElem?_cons_zero, Option.some.injEq] at hi
         subst hi
         refine ⟨?_, fun a ha => by have := hcan.to a ha; omega, hcan.pre hpre⟩
         rw [exp_pre hpre hcan.to, hexp, List.getElem?_append_right (by omega), hlen, hi0]
         rfl
        | succ j => rw [hi0] at hi; simp at hi
    · rw [List.nodup_append]
      exact ⟨M.inv.nd, by simp, fun a ha c hc => by rw [List.mem_singleton.1 hc]; exact fun e => hnew (e ▸ ha)⟩
    · rcases List.mem_append.1 hR with h | h
      · exact M.inv.lv R h
      · rw [List.mem_singleton.1 h]
        exact ⟨level_ne.2 hG.1, least_level hG.1⟩
    · rw [List.getElem?_append_right (by omega), hlen]
      simp
    · obtain ⟨h1, _, h3⟩ := hold i hi
      rw [h1] at hmem
      exact absurd (List.mem_of_getElem? h3) hmem
    · rcases List.mem_append.1 hR with h | h
      · rcases M.sub R h with h | ⟨p, hp, h⟩
        · exact .inl h
        · exact .inr (.step hp h)
      · rw [List.mem_singleton.1 h]
        exact .inr (.here S)
    · cases hR with
      | here => simp
      | step hp h => exact List.mem_append_left _ (M.all _ hp R h)
end Go.Proofs.YtncnefpkfbngaaaGreatDoor.Fm
