/- Texts that were written apart, joined. -/
import Derived.Test.YtllmdfkiogmofaaGreatDoorGd
import Derived.Test.YtllmdfkiogmofaaGreatDoorG5
import Derived.Test.YtllmdfkiogmofaaGreatDoorG0
import Derived.Test.YtllmdfkiogmofaaGreatDoorDrawn8
import Derived.Test.YtllmdfkiogmofaaGreatDoorFLevM
import Derived.Test.YtllmdfkiogmofaaGreatDoorFFolM
import Derived.Test.YtllmdfkiogmofaaGreatDoorFEnt
import Derived.Test.YtllmdfkiogmofaaGreatDoorG2
import Derived.Deep.QuietTactic
import Derived.BigQuiet
/- Machines that are right are built: what the states say, and the numbers that they get. No program is named here. -/
namespace Go.Proofs.YtllmdfkiogmofaaGreatDoor.Pk
open Go.Proofs.YtllmdfkiogmofaaGreatDoor.Nums Go.Proofs.YtllmdfkiogmofaaGreatDoor.Fm Go.Proofs.YtllmdfkiogmofaaGreatDoor

def toArc (a : RArc) : Arc := ⟨a.label, a.out, a.to.toNat⟩
def toSt (s : RSt) : St := ⟨s.final, s.out, s.arcs.map toArc⟩
theorem of_to {s : RSt} (h : ∀ a ∈ s.arcs, 0 ≤ a.to) : ofSt (toSt s) = s := by
  cases s with
  | mk f o l =>
    simp only [ofSt, toSt, List.map_map, RSt.mk.injEq, true_and]
    conv => rhs; rw [← List.map_id l]
    refine List.map_congr_left fun a ha => ?_
    have := h a ha
    simp only [Function.comp, ofArc, toArc, id]
    cases a
    simp only [RArc.mk.injEq, true_and]
    simp only at this
    omega
theorem of_tos {m : List RSt} (h : ∀ s ∈ m, ∀ a ∈ s.arcs, 0 ≤ a.to) : (m.map toSt).map ofSt = m := by
  rw [List.map_map]
  conv => rhs; rw [← List.map_id m]
  exact List.map_congr_left fun s hs => of_to (h s hs)
theorem minF_mem : ∀ (l : List RArc) (m : Int), minF m l = m ∨ ∃ a ∈ l, minF m l = a.out
  | [], _ => .inl rfl
  | a :: r, m => by
    rw [minF]
    rcases minF_mem r (min m a.out) with h | ⟨x, hx, h⟩
    · rw [h]
      by_cases hm : m ≤ a.out
      · exact .inl (by omega)
      · exact .inr ⟨a, by simp, by omega⟩
    · exact .inr ⟨x, by simp [hx], h⟩
theorem in_exp {D : List (List En)} {s : St} {e : En} (h : e ∈ exp D s) : (s.final = true ∧ e = ([], s.out)) ∨ ∃ a ∈ s.arcs, ∃ x ∈ D[a.to]?.getD [], e = (a.label :: x.1, x.2 + a.out) := by
  unfold exp at h
  rcases List.mem_append.1 h with h | h
  · unfold fins at h
    split at h
    · rename_i hf
      exact .inl ⟨hf, by simpa using h⟩
    · cases h
  · simp only [flat, outs, List.flatMap_map, List.mem_flatMap] at h
    obtain ⟨a, ha, h⟩ := h
    obtain ⟨y, hy, rfl⟩ := List.mem_map.1 h
    simp only [shift] at hy
    obtain ⟨x, hx, rfl⟩ := List.mem_map.1 hy
    exact .inr ⟨a, ha, x, hx, rfl⟩
/-- What a formed state says. -/
theorem form_exp {D : List (List En)} {s : RSt} (hlv : ∀ R ∈ D, R ≠ [] ∧ least R = 0) (h : formS s D.length = true) : Canon D (toSt s) ∧ exp D (toSt s) ≠ [] ∧ least (exp D (toSt s)) = 0 := by
  obtain ⟨f1, f2, _⟩ := form_facts h
  have hF := h
  unfold formS at hF
  simp only [Bool.and_eq_true, Bool.or_eq_true, decide_eq_true_eq] at hF
  obtain ⟨⟨h1, h2⟩, h3⟩ := hF
  have hp := (ord_rise _ _ _ h3).2
  have hto : ∀ a ∈ (toSt s).arcs, a.to < D.length ∧ 0 ≤ a.out := fun a ha => by
    obtain ⟨x, hx, rfl⟩ := List.mem_map.1 ha
    have := f1 x hx
    simp only [toArc]
    omega
  have hC : Canon D (toSt s) := ⟨by
    simp only [toSt, List.pairwise_map]
    exact hp, fun a ha => (hto a ha).1, fun hf => by
    rcases h1 with h1 | h1
    · simp only [toSt] at hf; rw [hf] at h1; cases h1
    · exact h1⟩
  have hnn : ∀ e ∈ exp D (toSt s), 0 ≤ e.2 := fun e he => by
    rcases in_exp he with ⟨_, rfl⟩ | ⟨a, ha, x, hx, rfl⟩
    · exact f2
    · obtain ⟨g1, g2⟩ := hto a ha
      rw [List.getElem?_eq_getElem g1, Option.getD_some] at hx
      have h5 := (hlv _ (List.getElem_mem g1)).2
      have h6 := least_all hx
      simp only
      omega
  have hz : ∃ e ∈ exp D (toSt s), e.2 = 0 := by
    unfold leastS at h2
    rcases minF_mem s.arcs (if s.final then s.out else 9223372036854775807) with hm | ⟨a, ha, hm⟩
    · rw [h2] at hm
      split at hm
      · rename_i hf
        refine ⟨([], s.out), ?_, by simp only; omega⟩
        unfold exp fins
        simp only [toSt, hf, if_true]
        simp
      · omega
    · rw [h2] at hm
      have ht := hto (toArc a) (List.mem_map.2 ⟨a, ha, rfl⟩)
      obtain ⟨g1, g2⟩ := hlv _ (List.getElem_mem ht.1)
      obtain ⟨x, hx, hx2⟩ := least_mem g1
      refine ⟨_, arc_in (List.mem_map.2 ⟨a, ha, rfl⟩) ht.1 hx, ?_⟩
      simp only [toArc]
      omega
  obtain ⟨e, he, he0⟩ := hz
  have hne : exp D (toSt s) ≠ [] := fun e0 => by rw [e0] at he; cases he
  refine ⟨hC, hne, ?_⟩
  obtain ⟨x, hx, hx2⟩ := least_mem hne
  have := hnn x hx
  have := least_all he
  omega
/-- What the states say. -/
theorem right_inv {m : List RSt} (hf : formB 0 m = true) (hn : m.Nodup) : ∀ n, n ≤ m.length → ∃ D, Inv D ((m.take n).map toSt)
  | 0, _ => ⟨[], Inv.nil⟩
  | n + 1, h => by
    obtain ⟨D, hI⟩ := right_inv hf hn n (by omega)
    have hl : D.length = n := by rw [hI.len, List.length_map, List.length_take]; omega
    have hs : m[n]? = some (m[n]'(by omega)) := List.getElem?_eq_getElem _
    have hF := form_get m 0 n _ hf hs
    rw [Nat.zero_add] at hF
    obtain ⟨c1, c2, c3⟩ := form_exp hI.lv (s := m[n]'(by omega)) (by rw [hl]; exact hF)
    refine ⟨D ++ [exp D (toSt (m[n]'(by omega)))], ?_⟩
    rw [List.take_succ_eq_append_getElem (by omega), List.map_append]
    refine inv_push hI c1 rfl (fun hin => ?_) ⟨c2, c3⟩
    obtain ⟨i, hi, hie⟩ := List.getElem_of_mem hin
    have hib : ((m.take n).map toSt)[i]? = some (toSt (m[i]'(by omega))) := by
      rw [List.getElem?_map, List.getElem?_take_of_lt (by omega), List.getElem?_eq_getElem (by omega)]
      rfl
    obtain ⟨r1, _, r3⟩ := hI.row i _ hib
    rw [List.getElem?_eq_getElem hi, hie, Option.some.injEq] at r1
    have heq := exp_inj hI.nd hI.lv c1 r3 r1
    have nn : ∀ (j : Nat) (hj : j < m.length), ∀ a ∈ m[j].arcs, 0 ≤ a.to := fun j hj a ha => by
      have := form_get m 0 j _ hf (List.getElem?_eq_getElem hj)
      exact ((form_facts this).1 a ha).1
    have h2 : m[n]'(by omega) = m[i]'(by omega) := by
      rw [← of_to (nn n (by omega)), ← of_to (nn i (by omega)), heq]
    have := nodup_at hn hs (show m[i]? = some (m[n]'(by omega)) by rw [h2]; exact List.getElem?_eq_getElem _)
    omega
theorem inv_take {D : List (List En)} {b : List St} (h : Inv D b) (n : Nat) : Inv (D.take n) (b.take n) := by
  have hl := h.len
  refine ⟨by simp [hl], fun i s hi => ?_, h.nd.sublist (List.take_sublist _ _), fun R hR => h.lv R (List.mem_of_mem_take hR)⟩
  have hlt : i < (b.take n).length := (List.getElem?_eq_some_iff.1 hi).1
  rw [List.length_take] at hlt
  rw [List.getElem?_take_of_lt (by omega)] at hi
  obtain ⟨r1, r2, r3⟩ := h.row i s hi
  refine ⟨?_, r2, r3.lab, fun a ha => by have := r2 a ha; rw [List.length_take]; omega, r3.fin⟩
  rw [List.getElem?_take_of_lt (by omega), r1]
  by_cases hnl : n ≤ D.length
  · rw [exp_take (fun a ha => by have := r2 a ha; omega) hnl]
  · rw [List.take_of_length_le (by omega)]
/-- How arcs are numbered. -/
def grpA (D : List (List En)) (base : Int) (l : List Arc) : List (Int × List En) := l.map fun a => (a.label, shift (a.out + base) (D[a.to]?.getD []))
theorem arcs_built {D : List (List En)} {b : List St} (hI : Inv D b) {f g : Nat} {base : Int}
    (ih : ∀ (n next k : Nat) (S : List En), next ≤ n → n < b.length → vis8 (b.map ofSt) f n next = some k → Fm.Good g S → D[n]? = some (level S) → k = n + 1 ∧ stF g (b.take next) S = (b.take (n + 1), n)) :
    ∀ (l : List Arc) (next k : Nat), (∀ a ∈ l, a.to < b.length) → next ≤ b.length → (∀ p ∈ grpA D base l, Fm.Good g p.2) → vArcs (vis8 (b.map ofSt) f) (l.map ofArc) next = some k → next ≤ k ∧ k ≤ b.length ∧ arF (stF g) base (b.take next) (grpA D base l) = (b.take k, l)
  | [], next, k, _, hn, _, h => by
    simp only [List.map_nil, vArcs, Option.some.injEq] at h
    subst h
    exact ⟨Nat.le_refl _, hn, rfl⟩
  | a :: r, next, k, ht, hn, hg, h => by
    have hlen := hI.len
    have hto := ht a (by simp)
    have htD : a.to < D.length := by omega
    have hlv := hI.lv _ (List.getElem_mem htD)
    have hG := hg (a.label, shift (a.out + base) (D[a.to]?.getD [])) (by simp [grpA])
    simp only [List.getElem?_eq_getElem htD, Option.getD_some] at hG
    have hlev : D[a.to]? = some (level (shift (a.out + base) D[a.to])) := by rw [level_shift _ hlv.1, level_of hlv.2]; exact List.getElem?_eq_getElem htD
    have hle : least (shift (a.out + base) D[a.to]) - base = a.out := by rw [least_shift _ hlv.1, hlv.2]; omega
    rw [List.map_cons, vArcs] at h
    have hrest : ∀ p ∈ grpA D base r, Fm.Good g p.2 := fun p hp => hg p (by simp only [grpA, List.map_cons, List.mem_cons] at hp ⊢; exact .inr hp)
    have hgr : grpA D base (a :: r) = (a.label, shift (a.out + base) D[a.to]) :: grpA D base r := by simp [grpA, List.getElem?_eq_getElem htD]
    split at h
    · rename_i hle2
      simp only [ofArc] at hle2 h
      rw [Int.toNat_natCast] at h
      obtain ⟨k1, hk1, hk2⟩ := Option.bind_eq_some_iff.1 h
      obtain ⟨e1, e2⟩ := ih a.to next k1 _ (by omega) hto hk1 hG hlev
      subst e1
      obtain ⟨j1, j2, j3⟩ := arcs_built hI ih r (a.to + 1) k (fun x hx => ht x (by simp [hx])) (by omega) hrest hk2
      refine ⟨by omega, j2, ?_⟩
      rw [hgr, arF, e2, hle, j3]
    · rename_i hle2
      simp only [ofArc] at hle2
      obtain ⟨j1, j2, j3⟩ := arcs_built hI ih r next k (fun x hx => ht x (by simp [hx])) hn hrest h
      refine ⟨j1, j2, ?_⟩
      obtain ⟨D', M⟩ := stF_spec g (D.take next) (b.take next) _ (inv_take hI next) hG
      have hold := (M.old a.to (by rw [List.getElem?_take_of_lt (by omega)]; exact hlev)).1
      rw [hgr, arF, hold, hle, j3]
/-- Numbers are as they would be built. -/
theorem state_built {D : List (List En)} {b : List St} (hI : Inv D b) : ∀ (f g n next k : Nat) (S : List En), next ≤ n → n < b.length → vis8 (b.map ofSt) f n next = some k → Fm.Good g S → D[n]? = some (level S) → k = n + 1 ∧ stF g (b.take next) S = (b.take (n + 1), n)
  | 0, _, _, _, _, _, _, _, h, _, _ => by simp [vis8] at h
  | f + 1, 0, _, _, _, S, _, _, _, hg, _ => by
    obtain ⟨e, he⟩ := List.exists_mem_of_ne_nil _ hg.1
    have := hg.2.2 e he
    omega
  | f + 1, g + 1, n, next, k, S, hn, hb, h, hg, hD => by
    have hlen := hI.len
    have hbn : b[n]? = some b[n] := List.getElem?_eq_getElem hb
    obtain ⟨r1, r2, r3⟩ := hI.row n _ hbn
    rw [hD, Option.some.injEq] at r1
    have hS : S = shift (least S) (exp D b[n]) := by rw [← r1, shift_level, Int.sub_self, shift_zero]
    obtain ⟨x1, x2⟩ := exp_grp hI.lv r3
    have hgrp : grp (restOf S) = grpA D (least S) b[n].arcs := by
      conv => lhs; rw [hS, restOf_shift, grp_shift, x2]
      simp only [outs, grpA, List.map_map]
      refine List.map_congr_left fun a _ => ?_
      simp only [Function.comp, shift_shift]
    have hne : exp D b[n] ≠ [] := by rw [← r1]; exact level_ne.2 hg.1
    have hfin : finOf S = b[n].final := by rw [hS, finOf_shift, x1]
    have hl0 : least (exp D b[n]) = 0 := by rw [← r1]; exact least_level hg.1
    have hout : outOf S = b[n].out := by
      rw [hS, outOf_shift _ hne]
      cases hf : b[n].final with
      | true =>
        have he : exp D b[n] = ([], b[n].out) :: flat (outs D b[n].arcs) := by unfold exp fins; rw [hf]; rfl
        rw [he] at hl0 ⊢
        simp only [outOf]
        omega
      | false =>
        rw [r3.fin hf]
        have he : exp D b[n] = flat (outs D b[n].arcs) := by unfold exp fins; rw [hf]; rfl
        rw [he] at hne ⊢
        cases hfl : flat (outs D b[n].arcs) with
        | nil => rfl
        | cons e r =>
          have := flat_ne e (by rw [hfl]; simp)
          obtain ⟨xs, w⟩ := e
          cases xs with
          | nil => exact absurd rfl this
          | cons c t => rfl
    rw [vis8] at h
    obtain ⟨k1, hk1, hk2⟩ := Option.bind_eq_some_iff.1 h
    have hgd : ((b.map ofSt).getD n ⟨false, 0, []⟩).arcs = b[n].arcs.map ofArc := by
      rw [List.getD_eq_getElem?_getD, List.getElem?_map, hbn]
      rfl
    rw [hgd] at hk1
    obtain ⟨j1, j2, j3⟩ := arcs_built (base := least S) hI (fun n next k S => state_built hI f g n next k S) b[n].arcs next k1 (fun a ha => by have := r2 a ha; omega) (by omega) (fun p hp => good_groups hg p (by rw [hgrp]; exact hp)) hk1
    split at hk2
    · rename_i hnk
      subst hnk
      simp only [Option.some.injEq] at hk2
      refine ⟨hk2.symm, ?_⟩
      rw [stF, hgrp, j3]
      simp only [hfin, hout]
      have hself : (⟨b[n].final, b[n].out, b[n].arcs⟩ : St) = b[n] := rfl
      rw [hself, numSt, if_neg (fun hin => ?_), List.take_succ_eq_append_getElem hb, List.length_take]
      · congr 1
        omega
      · obtain ⟨i, hi, hie⟩ := List.getElem_of_mem hin
        rw [List.length_take] at hi
        rw [List.getElem_take] at hie
        have q := (hI.row i _ (List.getElem?_eq_getElem (by omega))).1
        rw [hie] at q
        have q2 := (hI.row n _ hbn).1
        have := nodup_at hI.nd q q2
        omega
    · cases hk2
end Go.Proofs.YtllmdfkiogmofaaGreatDoor.Pk

/- Machines that are right are built: the dictionary. No program is named here. -/
namespace Go.Proofs.YtllmdfkiogmofaaGreatDoor.Pk
open Go.Proofs.YtllmdfkiogmofaaGreatDoor.Nums Go.Proofs.YtllmdfkiogmofaaGreatDoor.Fm Go.Proofs.YtllmdfkiogmofaaGreatDoor

theorem fold_weight (known : List Reach) : ∀ (l : List RArc) (r : Reach), r.weight ≤ (l.foldl (stepR known) r).weight ∧ ∀ a ∈ l, min a.out 1048576 + (known.getD a.to.toNat ⟨0, 0, 0⟩).weight ≤ (l.foldl (stepR known) r).weight
  | [], _ => ⟨Int.le_refl _, fun a ha => by cases ha⟩
  | x :: l, r => by
    obtain ⟨h1, h2⟩ := fold_weight known l (stepR known r x)
    have h3 : (stepR known r x).weight = max r.weight (min x.out 1048576 + (known.getD x.to.toNat ⟨0, 0, 0⟩).weight) := rfl
    rw [List.foldl_cons]
    refine ⟨by omega, fun a ha => ?_⟩
    rcases List.mem_cons.1 ha with rfl | ha
    · omega
    · exact h2 a ha
theorem mxL_ge : ∀ (l : List En), ∀ e ∈ l, (e.1.length : Int) ≤ mxL l
  | [], e, h => by cases h
  | x :: l, e, h => by
    rw [mxL]
    rcases List.mem_cons.1 h with rfl | h
    · omega
    · have := mxL_ge l e h
      omega
theorem mxW_ge : ∀ (l : List En), ∀ e ∈ l, e.2 ≤ mxW l
  | [], e, h => by cases h
  | x :: l, e, h => by
    rw [mxW]
    rcases List.mem_cons.1 h with rfl | h
    · omega
    · have := mxW_ge l e h
      omega
theorem bnd_back {base : Int} (hb : 1 ≤ base) {D : List (List En)} {b : List St} (hI : Inv D b) : ∀ (n : Nat), n ≤ b.length → bndB base ((D.take (b.length - n)).map rchOf) ((b.drop (b.length - n)).map ofSt) = true → ∀ (j : Nat) (R : List En), b.length - n ≤ j → D[j]? = some R → okR base (rchOf R) = true
  | 0, _, _, j, R, hj, hR => by
    have := (List.getElem?_eq_some_iff.1 hR).1
    have := hI.len
    omega
  | n + 1, hn, h, j, R, hj, hR => by
    obtain ⟨i, hi⟩ : ∃ i, i = b.length - (n + 1) := ⟨_, rfl⟩
    have hi1 : b.length - n = i + 1 := by omega
    rw [← hi] at h hj
    have hil : i < b.length := by omega
    obtain ⟨s, hs⟩ : ∃ s, b[i]? = some s := ⟨b[i], List.getElem?_eq_getElem hil⟩
    obtain ⟨e1, e2, e3⟩ := hI.row i s hs
    have hdr : b.drop i = s :: b.drop (i + 1) := by rw [List.drop_eq_getElem_cons hil]; congr 1; rw [List.getElem?_eq_getElem hil] at hs; exact Option.some.inj hs
    have hiD : i ≤ D.length := by have := hI.len; omega
    obtain ⟨l1, l2, l3⟩ := state_level hI hs
    rw [hdr, List.map_cons, bndB, Bool.and_eq_true] at h
    obtain ⟨h1, h2⟩ := h
    have hout : ∀ a ∈ s.arcs, a.out ≤ 1048576 := fun a ha => by
      have hok := h1
      unfold okR at hok
      have hok := of_decide_eq_true hok
      have hw := (fold_weight ((D.take i).map rchOf) (ofSt s).arcs (if (ofSt s).final then ⟨0, 1, (ofSt s).out⟩ else ⟨0, 0, 0⟩)).2 (ofArc a) (List.mem_map.2 ⟨a, ha, rfl⟩)
      have hto := e2 a ha
      have hk : ((D.take i).map rchOf).getD (ofArc a).to.toNat ⟨0, 0, 0⟩ = rchOf (D[a.to]'(by omega)) := by
        rw [List.getD_eq_getElem?_getD, List.getElem?_map]
        simp only [ofArc, Int.toNat_natCast]
        rw [List.getElem?_take_of_lt hto, List.getElem?_eq_getElem (by omega)]
        rfl
      rw [hk] at hw
      have hnn := mxW_nn (D[a.to]'(by omega))
      unfold behR at hok
      simp only [rchOf] at hw
      simp only [ofArc] at hw
      omega
    have hbe : behR (ofSt s) ((D.take i).map rchOf) = rchOf (exp D s) := by
      rw [exp_take e2 hiD]
      refine beh_exp (fun j R hj => by rw [List.getElem?_map, hj]; rfl) (fun R hR' => ?_) (fun a ha => ?_) l1
      · obtain ⟨g1, g2⟩ := hI.lv R (List.mem_of_mem_take hR')
        exact ⟨g1, fun e he => by rw [← g2]; exact least_all he⟩
      · exact ⟨by have := e2 a ha; rw [List.length_take]; omega, l2 a ha, hout a ha⟩
    rw [hbe] at h1 h2
    have htk : D.take (i + 1) = D.take i ++ [exp D s] := by rw [List.take_add_one, e1]; rfl
    by_cases hji : j = i
    · subst hji
      rw [e1, Option.some.injEq] at hR
      rw [← hR]
      exact h1
    · refine bnd_back hb hI n (by omega) ?_ j R (by omega) hR
      rw [hi1, htk, List.map_append]
      exact h2
theorem flat_head {D : List (List En)} {l : List Arc} {e : En} (h : e ∈ flat (outs D l)) : ∃ a ∈ l, ∃ x ∈ D[a.to]?.getD [], e = (a.label :: x.1, x.2 + a.out) := by
  simp only [flat, outs, List.flatMap_map, List.mem_flatMap] at h
  obtain ⟨a, ha, h⟩ := h
  obtain ⟨y, hy, rfl⟩ := List.mem_map.1 h
  simp only [shift] at hy
  obtain ⟨x, hx, rfl⟩ := List.mem_map.1 hy
  exact ⟨a, ha, x, hx, rfl⟩
theorem rise_flat {D : List (List En)} : ∀ (l : List Arc), l.Pairwise (fun a b => a.label < b.label) → (∀ a ∈ l, Rise (D[a.to]?.getD [])) → Rise (flat (outs D l))
  | [], _, _ => List.Pairwise.nil
  | a :: l, hp, h => by
    obtain ⟨h1, h2⟩ := List.pairwise_cons.1 hp
    have ih := rise_flat l h2 fun x hx => h x (by simp [hx])
    have hsp : flat (outs D (a :: l)) = (shift a.out (D[a.to]?.getD [])).map (pre a.label) ++ flat (outs D l) := by simp [flat, outs]
    rw [hsp]
    unfold Rise at *
    rw [List.pairwise_append]
    refine ⟨?_, ih, fun x hx y hy => ?_⟩
    · rw [List.pairwise_map, shift, List.pairwise_map]
      refine (h a (by simp)).imp fun {u v} huv => ?_
      show lexL (a.label :: u.1) (a.label :: v.1) = true
      rw [lexL_same]
      exact huv
    · obtain ⟨z, _, rfl⟩ := List.mem_map.1 hx
      obtain ⟨c, hc, q, _, rfl⟩ := flat_head hy
      have := h1 c hc
      show lexL (a.label :: z.1) (c.label :: q.1) = true
      rw [lexL_cons, decide_eq_true this]
      rfl
theorem rise_exp {D : List (List En)} {s : St} (hc : Canon D s) (h : ∀ a ∈ s.arcs, Rise (D[a.to]?.getD [])) : Rise (exp D s) := by
  have hf := rise_flat s.arcs hc.lab h
  unfold exp fins
  split
  · unfold Rise at *
    rw [List.singleton_append, List.pairwise_cons]
    refine ⟨fun e he => ?_, hf⟩
    obtain ⟨a, _, x, _, rfl⟩ := flat_head he
    rfl
  · exact hf
theorem inv_facts {D : List (List En)} {b : List St} (hI : Inv D b) (hw : ∀ s ∈ b, ∀ a ∈ s.arcs, wordR a.label = true) : ∀ (n i : Nat) (R : List En), i < n → D[i]? = some R → Rise R ∧ ∀ e ∈ R, ∀ c ∈ e.1, wordR c = true
  | 0, i, _, h, _ => by omega
  | n + 1, i, R, h, hR => by
    have hiD := (List.getElem?_eq_some_iff.1 hR).1
    have hib : i < b.length := by have := hI.len; omega
    have hbi : b[i]? = some b[i] := List.getElem?_eq_getElem hib
    obtain ⟨r1, r2, r3⟩ := hI.row i _ hbi
    rw [hR, Option.some.injEq] at r1
    have ih : ∀ a ∈ b[i].arcs, Rise (D[a.to]?.getD []) ∧ ∀ e ∈ D[a.to]?.getD [], ∀ c ∈ e.1, wordR c = true := fun a ha => by
      have hto := r2 a ha
      have hD : D[a.to]? = some (D[a.to]'(by omega)) := List.getElem?_eq_getElem _
      have := inv_facts hI hw n a.to _ (by omega) hD
      rw [hD, Option.getD_some]
      exact this
    subst r1
    refine ⟨rise_exp r3 fun a ha => (ih a ha).1, fun e he c hc => ?_⟩
    rcases in_exp he with ⟨_, rfl⟩ | ⟨a, ha, x, hx, rfl⟩
    · cases hc
    · rcases List.mem_cons.1 hc with rfl | hc
      · exact hw _ (List.getElem_mem hib) a ha
      · exact (ih a ha).2 x hx c hc
/-- A dictionary of entries. -/
def txt (xs : List Int) : ByteArray := ⟨(xs.flatMap wr).toArray⟩
def dictOf (E : List En) : List Pr := E.map fun e => (txt e.1, e.2)
theorem runes_isR {xs : List Int} (h : ∀ c ∈ xs, wordR c = true) : xs.all isR = true ∧ xs.all vis = true := by
  refine ⟨List.all_eq_true.2 fun c hc => ?_, List.all_eq_true.2 fun c hc => ?_⟩
  · have := h c hc
    unfold wordR at this
    exact (Bool.and_eq_true _ _ ▸ this).1
  · have := h c hc
    unfold wordR at this
    exact (Bool.and_eq_true _ _ ▸ this).2
theorem txt_rs {xs : List Int} (h : ∀ c ∈ xs, wordR c = true) : rs (txt xs).data.toList = some xs := rs_text (runes_isR h).1
theorem ents_dict {E : List En} (h : ∀ e ∈ E, ∀ c ∈ e.1, wordR c = true) : ents (dictOf E) = E := by
  unfold ents dictOf
  rw [List.map_map]
  conv => rhs; rw [← List.map_id E]
  refine List.map_congr_left fun e he => ?_
  simp only [Function.comp, entOf, txt_rs (h e he), Option.getD_some, id]
theorem fault_zero : ∀ (l : List Pr) (p : Option Pr), (∀ x ∈ l, wordB x.1.data.toList = true ∧ 1 ≤ x.2 ∧ x.2 ≤ 1048576) → (∀ q, p = some q → ∀ x ∈ l, lessB q.1 x.1 = true) → l.Pairwise (fun a b => lessB a.1 b.1 = true) → faultF p l = 0
  | [], _, _, _, _ => rfl
  | x :: r, p, h1, h2, h3 => by
    obtain ⟨g1, g2⟩ := List.pairwise_cons.1 h3
    obtain ⟨w1, w2, w3⟩ := h1 x (by simp)
    have hp : prevOk p x = true := by
      cases p with
      | none => rfl
      | some q => exact h2 q rfl x (by simp)
    have h0 : oneF p x = 0 := by
      unfold oneF
      rw [if_neg (by rw [w1]; simp), if_neg (by omega), if_neg (by rw [hp]; simp)]
    rw [faultF, if_pos h0]
    exact fault_zero r (some x) (fun y hy => h1 y (by simp [hy])) (fun q hq y hy => by cases hq; exact g1 y hy) g2
theorem dict_build {E : List En} (hl : E.length ≤ 4096) (hr : Rise E) (hw : ∀ e ∈ E, ∀ c ∈ e.1, wordR c = true) (h : ∀ e ∈ E, e.1 ≠ [] ∧ e.1.length ≤ 24 ∧ 1 ≤ e.2 ∧ e.2 ≤ 1048576) : buildE (dictOf E) = 0 := by
  unfold buildE
  rw [if_neg (by simp only [dictOf, List.length_map]; omega)]
  refine fault_zero _ none (fun x hx => ?_) (fun q hq => by cases hq) ?_
  · obtain ⟨e, he, rfl⟩ := List.mem_map.1 hx
    obtain ⟨h1, h2, h3, h4⟩ := h e he
    refine ⟨?_, h3, h4⟩
    have hp := List.length_pos_iff.2 h1
    unfold wordB
    rw [txt_rs (hw e he)]
    simp only [(runes_isR (hw e he)).2, Bool.and_true, Bool.and_eq_true, decide_eq_true_eq]
    omega
  · unfold dictOf
    rw [List.pairwise_map]
    refine List.Pairwise.imp_of_mem ?_ hr
    intro a b ha hb hab
    show lessB (txt a.1) (txt b.1) = true
    have h1 := order_rs (txt_rs (hw a ha)) (txt_rs (hw b hb))
    rw [← less_lex, hab] at h1
    exact h1
/-- Whatever is right is built. -/
theorem right_built {base : Int} {m : List RSt} (h : rightB base m = true) : ∃ l, buildE l = 0 ∧ machOf l = (base, m.map toSt) ∧ (m.map toSt).map ofSt = m := by
  unfold rightB at h
  split at h
  · rename_i he
    subst he
    have h0 := of_decide_eq_true h
    exact ⟨[], rfl, by rw [h0]; simp [machOf], rfl⟩
  rename_i hne
  simp only [Bool.and_eq_true, Bool.not_eq_true'] at h
  obtain ⟨⟨⟨⟨⟨hb, hroot⟩, hf⟩, hbd⟩, hnum⟩, hnd⟩ := h
  have hb := of_decide_eq_true hb
  have hnd := of_decide_eq_true hnd
  have hpos := List.length_pos_iff.2 hne
  obtain ⟨D, hI⟩ := right_inv hf hnd m.length (Nat.le_refl _)
  rw [List.take_length] at hI
  have nn : ∀ s ∈ m, ∀ a ∈ s.arcs, 0 ≤ a.to := fun s hs a ha => by
    obtain ⟨j, hj, rfl⟩ := List.getElem_of_mem hs
    exact ((form_facts (form_get m 0 j _ hf (List.getElem?_eq_getElem hj))).1 a ha).1
  have hof := of_tos nn
  have hw : ∀ s ∈ m.map toSt, ∀ a ∈ s.arcs, wordR a.label = true := fun s hs a ha => by
    obtain ⟨t, ht, rfl⟩ := List.mem_map.1 hs
    obtain ⟨x, hx, rfl⟩ := List.mem_map.1 ha
    obtain ⟨j, hj, rfl⟩ := List.getElem_of_mem ht
    have hF := form_get m 0 j _ hf (List.getElem?_eq_getElem hj)
    unfold formS at hF
    simp only [Bool.and_eq_true] at hF
    exact ((ord_facts _ _ _ hF.2).1 x hx).2.2
  have hlen : D.length = m.length := by rw [hI.len, List.length_map]
  obtain ⟨R, hR⟩ : ∃ R, D[m.length - 1]? = some R := ⟨D[m.length - 1]'(by omega), List.getElem?_eq_getElem _⟩
  obtain ⟨f1, f2⟩ := inv_facts hI hw m.length (m.length - 1) R (by omega) hR
  obtain ⟨v1, v2⟩ := hI.lv R (List.mem_of_getElem? hR)
  have hok : okR base (rchOf R) = true := bnd_back hb.1 hI (m.map toSt).length (Nat.le_refl _) (by rw [Nat.sub_self, List.take_zero, List.drop_zero, hof]; exact hbd) (m.length - 1) R (by omega) hR
  unfold okR rchOf at hok
  have hok := of_decide_eq_true hok
  simp only at hok
  have hbn : (m.map toSt)[m.length - 1]? = some (toSt (m[m.length - 1]'(by omega))) := by rw [List.getElem?_map, List.getElem?_eq_getElem (by omega)]; rfl
  obtain ⟨r1, r2, r3⟩ := hI.row _ _ hbn
  rw [hR, Option.some.injEq] at r1
  have hfin : (m[m.length - 1]'(by omega)).final = false := by
    rw [List.getD_eq_getElem?_getD, List.getElem?_eq_getElem (by omega), Option.getD_some] at hroot
    exact hroot
  have hnz : ∀ e ∈ R, e.1 ≠ [] := fun e he => by
    rw [r1] at he
    rcases in_exp he with ⟨hx, _⟩ | ⟨a, _, x, _, rfl⟩
    · simp only [toSt, hfin] at hx
      cases hx
    · simp
  have hE : ∀ e ∈ shift base R, ∃ x ∈ R, e.1 = x.1 ∧ e.2 = x.2 + base := fun e he => by
    obtain ⟨x, hx, rfl⟩ := List.mem_map.1 he
    exact ⟨x, hx, rfl, rfl⟩
  have hriseE : Rise (shift base R) := by
    unfold Rise shift
    rw [List.pairwise_map]
    exact f1
  have hwE : ∀ e ∈ shift base R, ∀ c ∈ e.1, wordR c = true := fun e he c hc => by
    obtain ⟨x, hx, e1, _⟩ := hE e he
    rw [e1] at hc
    exact f2 x hx c hc
  have hlE : ∀ e ∈ shift base R, e.1 ≠ [] ∧ e.1.length ≤ 24 ∧ 1 ≤ e.2 ∧ e.2 ≤ 1048576 := fun e he => by
    obtain ⟨x, hx, e1, e2⟩ := hE e he
    have g1 := mxL_ge R x hx
    have g2 := mxW_ge R x hx
    have g3 := least_all hx
    rw [e1, e2]
    exact ⟨hnz x hx, by omega, by omega, by omega⟩
  have hbu : buildE (dictOf (shift base R)) = 0 := dict_build (by simp only [shift, List.length_map]; omega) hriseE hwE hlE
  have hen := ents_dict hwE
  have hEn : shift base R ≠ [] := shift_ne.2 v1
  have hdn : dictOf (shift base R) ≠ [] := fun e => hEn (by unfold dictOf at e; exact List.map_eq_nil_iff.1 e)
  refine ⟨dictOf (shift base R), hbu, ?_, hof⟩
  rw [machOf, if_pos ⟨hbu, hdn⟩, hen, least_shift _ v1, v2]
  have hG : Fm.Good 25 (shift base R) := ⟨hEn, hriseE, fun e he => by have := (hlE e he).2.1; omega⟩
  unfold numB at hnum
  obtain ⟨k, hk⟩ := Option.isSome_iff_exists.1 hnum
  have hst := (state_built hI (m.length + 25) 25 (m.length - 1) 0 k (shift base R) (Nat.zero_le _) (by rw [List.length_map]; omega) (by rw [hof]; exact hk) hG (by rw [level_shift _ v1, level_of v2]; exact hR)).2
  rw [List.take_zero] at hst
  rw [hst, List.take_of_length_le (by rw [List.length_map]; omega)]
  simp
end Go.Proofs.YtllmdfkiogmofaaGreatDoor.Pk

/- What the reference's Words finds. No program is named here. -/
namespace Go.Proofs.YtllmdfkiogmofaaGreatDoor.Pk
open Go.Proofs.YtllmdfkiogmofaaGreatDoor.Nums Go.Proofs.YtllmdfkiogmofaaGreatDoor.Fm Go.Proofs.YtllmdfkiogmofaaGreatDoor

/-- Words from a state on, behind a beginning; f: more than the state's number. -/
def wdF (m : List RSt) : Nat → Nat → List Int → Int → List En → List En
  | 0, _, _, _, found => found
  | f + 1, n, head, sum, found =>
    if 4096 < found.length then found else
      if 24 < head.length then found ++ [(head, sum + (m.getD n ⟨false, 0, []⟩).out)] else
        (m.getD n ⟨false, 0, []⟩).arcs.foldl (fun acc a => wdF m f a.to.toNat (head ++ [a.label]) (sum + a.out) acc) (if (m.getD n ⟨false, 0, []⟩).final then found ++ [(head, sum + (m.getD n ⟨false, 0, []⟩).out)] else found)
def under (head : List Int) (sum : Int) (R : List En) : List En := R.map fun e => (head ++ e.1, sum + e.2)
theorem under_append (head : List Int) (sum : Int) (R S : List En) : under head sum (R ++ S) = under head sum R ++ under head sum S := List.map_append
theorem under_arc (head : List Int) (sum c o : Int) (R : List En) : under head sum ((shift o R).map (pre c)) = under (head ++ [c]) (sum + o) R := by
  simp only [under, shift, List.map_map]
  refine List.map_congr_left fun e _ => ?_
  simp only [Function.comp, pre, List.append_assoc, List.singleton_append, Prod.mk.injEq, true_and]
  omega
theorem wd_arcs {D : List (List En)} {b : List St} (hI : Inv D b) {f : Nat} {head : List Int} {sum : Int}
    (ih : ∀ (n : Nat) (head : List Int) (sum : Int) (found R : List En), n < f → D[n]? = some R → found.length + R.length ≤ 4096 → (∀ e ∈ R, head.length + e.1.length ≤ 24) → wdF (b.map ofSt) f n head sum found = found ++ under head sum R) :
    ∀ (l : List Arc) (found : List En), (∀ a ∈ l, a.to < f ∧ a.to < b.length) → found.length + (flat (outs D l)).length ≤ 4096 → (∀ e ∈ flat (outs D l), head.length + e.1.length ≤ 24) →
      (l.map ofArc).foldl (fun acc a => wdF (b.map ofSt) f a.to.toNat (head ++ [a.label]) (sum + a.out) acc) found = found ++ under head sum (flat (outs D l))
  | [], found, _, _, _ => by simp [outs, flat, under]
  | a :: l, found, ht, hl, he => by
    obtain ⟨h1, h2⟩ := ht a (by simp)
    have hD : a.to < D.length := by have := hI.len; omega
    have hR : D[a.to]? = some D[a.to] := List.getElem?_eq_getElem hD
    have hsp : flat (outs D (a :: l)) = (shift a.out D[a.to]).map (pre a.label) ++ flat (outs D l) := by simp [flat, outs, hR]
    rw [hsp] at hl he ⊢
    rw [List.length_append] at hl
    have hlen : ((shift a.out D[a.to]).map (pre a.label)).length = D[a.to].length := by simp [shift]
    rw [hlen] at hl
    have hone : wdF (b.map ofSt) f a.to (head ++ [a.label]) (sum + a.out) found = found ++ under (head ++ [a.label]) (sum + a.out) D[a.to] := ih a.to _ _ found _ h1 hR (by omega) (fun e hee => by
      have := he (a.label :: e.1, e.2 + a.out) (List.mem_append.2 (.inl (List.mem_map.2 ⟨(e.1, e.2 + a.out), List.mem_map.2 ⟨e, hee, rfl⟩, rfl⟩)))
      simp only [List.length_cons] at this
      simp only [List.length_append, List.length_singleton]
      omega)
    rw [List.map_cons, List.foldl_cons]
    simp only [ofArc, Int.toNat_natCast]
    rw [hone]
    have hul : (under (head ++ [a.label]) (sum + a.out) D[a.to]).length = D[a.to].length := by simp [under]
    have := wd_arcs (sum := sum) hI ih l (found ++ under (head ++ [a.label]) (sum + a.out) D[a.to]) (fun x hx => ht x (by simp [hx])) (by rw [List.length_append, hul]; omega) (fun e hee => he e (List.mem_append.2 (.inr hee)))
    rw [this, under_append, under_arc, List.append_assoc]
/-- At a machine whose states say so, just what they say. -/
theorem wd_right {D : List (List En)} {b : List St} (hI : Inv D b) : ∀ (f n : Nat) (head : List Int) (sum : Int) (found R : List En), n < f → D[n]? = some R → found.length + R.length ≤ 4096 → (∀ e ∈ R, head.length + e.1.length ≤ 24) → wdF (b.map ofSt) f n head sum found = found ++ under head sum R
  | 0, n, _, _, _, _, h, _, _, _ => by omega
  | f + 1, n, head, sum, found, R, hn, hR, hl, he => by
    have hnD := (List.getElem?_eq_some_iff.1 hR).1
    have hnb : n < b.length := by have := hI.len; omega
    have hbn : b[n]? = some b[n] := List.getElem?_eq_getElem hnb
    obtain ⟨r1, r2, r3⟩ := hI.row n _ hbn
    rw [hR, Option.some.injEq] at r1
    obtain ⟨v1, _⟩ := hI.lv R (List.mem_of_getElem? hR)
    obtain ⟨e0, he0⟩ := List.exists_mem_of_ne_nil _ v1
    have hhead := he e0 he0
    have hgd : (b.map ofSt).getD n ⟨false, 0, []⟩ = ofSt b[n] := by
      rw [List.getD_eq_getElem?_getD, List.getElem?_map, hbn]
      rfl
    rw [wdF, hgd, if_neg (by omega), if_neg (by omega)]
    have hsp : R = fins b[n] ++ flat (outs D b[n].arcs) := r1
    rw [hsp, List.length_append] at hl
    have harcs : (ofSt b[n]).arcs = b[n].arcs.map ofArc := rfl
    rw [harcs]
    have hfin : (if (ofSt b[n]).final then found ++ [(head, sum + (ofSt b[n]).out)] else found) = found ++ under head sum (fins b[n]) := by
      show (if b[n].final then found ++ [(head, sum + b[n].out)] else found) = _
      unfold fins under
      cases b[n].final <;> simp
    have hfl : (under head sum (fins b[n])).length = (fins b[n]).length := by simp [under]
    rw [hfin, wd_arcs hI (wd_right hI f) b[n].arcs _ (fun a ha => by have := r2 a ha; omega) (by rw [List.length_append, hfl]; omega) (fun e hee => he e (by rw [hsp]; exact List.mem_append.2 (.inr hee)))]
    rw [List.append_assoc, ← under_append, ← hsp]
theorem fold_keep {α β : Type} {P : β → Prop} (g : β → α → β) : ∀ (l : List α) (b : β), P b → (∀ x, ∀ a ∈ l, P x → P (g x a)) → P (l.foldl g b)
  | [], _, h, _ => h
  | a :: l, b, h, hg => fold_keep g l (g b a) (hg b a (by simp) h) (fun x y hy hx => hg x y (by simp [hy]) hx)
/-- Never more than so many, never longer than so. -/
def FoundOk (hi : Int) (l : List En) : Prop := l.length ≤ 4097 ∧ ∀ e ∈ l, e.1.length ≤ 25 ∧ 0 ≤ e.2 ∧ e.2 ≤ hi
theorem wd_ok {m : List RSt} (hm : ∀ s ∈ m, (0 ≤ s.out ∧ s.out ≤ 1048576) ∧ ∀ a ∈ s.arcs, 0 ≤ a.out ∧ a.out ≤ 1048576) (hi : Int) : ∀ (f n : Nat) (head : List Int) (sum : Int) (found : List En), head.length ≤ 25 → 0 ≤ sum → sum + (26 - head.length : Nat) * 1048576 ≤ hi → FoundOk hi found → FoundOk hi (wdF m f n head sum found)
  | 0, _, _, _, _, _, _, _, h => h
  | f + 1, n, head, sum, found, hh, h0, hs, h => by
    have hst : (0 ≤ (m.getD n ⟨false, 0, []⟩).out ∧ (m.getD n ⟨false, 0, []⟩).out ≤ 1048576) ∧ ∀ a ∈ (m.getD n ⟨false, 0, []⟩).arcs, 0 ≤ a.out ∧ a.out ≤ 1048576 := by
      rw [List.getD_eq_getElem?_getD]
      cases hx : m[n]? with
      | none => exact ⟨⟨by simp, by simp⟩, fun a ha => by simp at ha⟩
      | some s => exact hm s (List.mem_of_getElem? hx)
    have hadd : ¬ 4096 < found.length → FoundOk hi (found ++ [(head, sum + (m.getD n ⟨false, 0, []⟩).out)]) := fun hn => by
      refine ⟨by rw [List.length_append, List.length_singleton]; omega, fun e he => ?_⟩
      rcases List.mem_append.1 he with he | he
      · exact h.2 e he
      · rw [List.mem_singleton.1 he]
        have := hst.1
        refine ⟨hh, by simp only; omega, ?_⟩
        simp only
        have h1 : 1 ≤ 26 - head.length := by omega
        have : (1 : Int) * 1048576 ≤ ((26 - head.length : Nat) : Int) * 1048576 := by omega
        omega
    rw [wdF]
    split
    · exact h
    · rename_i hn
      split
      · exact hadd hn
      · rename_i hn2
        refine fold_keep _ _ _ ?_ (fun x a ha hx => ?_)
        · split
          · exact hadd hn
          · exact h
        · obtain ⟨a1, a2⟩ := hst.2 a ha
          refine wd_ok hm hi f _ _ _ _ (by rw [List.length_append, List.length_singleton]; omega) (by omega) ?_ hx
          rw [List.length_append, List.length_singleton]
          have : ((26 - head.length : Nat) : Int) = ((26 - (head.length + 1) : Nat) : Int) + 1 := by omega
          rw [this] at hs
          omega
/-- The words of a machine that is right are its dictionary's. -/
theorem words_right {base : Int} {m : List RSt} (h : rightB base m = true) (hne : m ≠ []) : ∃ l, buildE l = 0 ∧ l ≠ [] ∧ (machOf l).1 = base ∧ (machOf l).2.map ofSt = m ∧ wdF m m.length (m.length - 1) [] base [] = ents l := by
  obtain ⟨l, hl, hM, hof⟩ := right_built h
  have hln : l ≠ [] := fun e => hne (by
    rw [e] at hM
    have : (machOf []).2 = [] := by simp [machOf]
    rw [hM] at this
    rw [← hof]
    simp only at this
    rw [this]
    rfl)
  refine ⟨l, hl, hln, by rw [hM], by rw [hM]; exact hof, ?_⟩
  have hg := dict_good hl hln
  have hD := dict_ok hl
  obtain ⟨D, M⟩ := stF_spec 25 [] [] (ents l) Inv.nil hg
  have hrl : (stF 25 [] (ents l)).2 + 1 = (stF 25 [] (ents l)).1.length := root_last (f := 24) hg
  have hM2 : machOf l = (least (ents l), (stF 25 [] (ents l)).1) := by rw [machOf, if_pos ⟨hl, hln⟩]
  rw [hM2, Prod.mk.injEq] at hM
  have hI := M.inv
  have hnum := M.num
  rw [hM.2] at hI hrl
  rw [List.length_map] at hrl
  have hlv : (level (ents l)).length = l.length := by simp [level, shift, ents]
  have := wd_right hI m.length (m.length - 1) [] base [] (level (ents l)) (by omega) (by rw [show m.length - 1 = (stF 25 [] (ents l)).2 by omega]; exact hnum) (by rw [hlv]; simpa using hD.len) (fun e he => by
    obtain ⟨x, hx, rfl⟩ := List.mem_map.1 he
    have := hD.en.ln x hx
    simpa using this)
  rw [hof] at this
  rw [this, List.nil_append]
  have s1 : shift (least (ents l)) (level (ents l)) = ents l := by rw [shift_level, Int.sub_self, shift_zero]
  conv => rhs; rw [← s1, hM.1]
  unfold under shift
  refine List.map_congr_left fun e _ => ?_
  simp only [List.nil_append, Prod.mk.injEq, true_and]
  omega
end Go.Proofs.YtllmdfkiogmofaaGreatDoor.Pk

/- The reference's SameState and Same. -/
namespace Go.Proofs.YtllmdfkiogmofaaGreatDoor
open Go.RowKit Nums Fm
set_option maxRecDepth 100000
theorem StRow.at {B : Nat} {w : World} {vs : Value} {b : List St} (h : StRow B w vs b) (h0 : 0 < b.length) : ∃ g cap, vs = .slice (some ⟨g, 0, none⟩) b.length cap ∧ g < w.heap.size ∧ ∀ (i : Nat) (s : St), b[i]? = some s → ∃ va, AOwn B w va s.arcs ∧ w.cell? ⟨g, i * 3, none⟩ = some (.bool s.final) ∧ w.cell? ⟨g, i * 3 + 1, none⟩ = some (.int .i64 s.out) ∧ w.cell? ⟨g, i * 3 + 2, none⟩ = some va := by
  obtain ⟨xss, h1, h2, h3⟩ := h
  obtain ⟨g, cap, rfl, hg, _, _, hc⟩ := h1.cell (by omega)
  refine ⟨g, cap, by rw [h2], hg, fun i s hi => ?_⟩
  obtain ⟨va, h4, h5⟩ := h3 i s hi
  exact ⟨va, h5, hc i 0 _ _ h4 rfl, hc i 1 _ _ h4 rfl, hc i 2 _ _ h4 rfl⟩
theorem StRow.shape {B : Nat} {w : World} {vs : Value} {b : List St} (h : StRow B w vs b) : ∃ ad cap, vs = .slice ad b.length cap := by
  obtain ⟨xss, h1, h2, _⟩ := h
  obtain ⟨ad, cap, h3, _⟩ := h1.shape
  exact ⟨ad, cap, by rw [h3, h2]⟩
theorem GOwn.small {T : TypeId} {k B : Nat} {w : World} {v : Value} {xss : List (List Value)} (h : GOwn T k B w v xss) : xss.length ≤ maxLen := by
  obtain ⟨_, hl, ⟨_, h0⟩ | ⟨g, cap, cur, _, _, _, h3, h4, _⟩⟩ := h
  · omega
  · omega

theorem take_alike {α : Type} {l m : List α} {k : Nat} {x y : α} (h : l.take k = m.take k) (hx : l[k]? = some x) (hy : m[k]? = some y) (e : x = y) : l.take (k + 1) = m.take (k + 1) := by
  obtain ⟨h1, e1⟩ := List.getElem?_eq_some_iff.1 hx
  obtain ⟨h2, e2⟩ := List.getElem?_eq_some_iff.1 hy
  rw [List.take_succ_eq_append_getElem h1, List.take_succ_eq_append_getElem h2, e1, e2, h, e]
/-- What Same looks at in a round. -/
structure SM (ba bb ga gb i : Nat) (va vb : Value) (s t : St) (ua ub : Value) (w : World) : Prop where
  a : w.cell? ⟨ba, 1, none⟩ = some va
  b : w.cell? ⟨bb, 1, none⟩ = some vb
  a0 : w.cell? ⟨ga, i * 3, none⟩ = some (.bool s.final)
  a1 : w.cell? ⟨ga, i * 3 + 1, none⟩ = some (.int .i64 s.out)
  a2 : w.cell? ⟨ga, i * 3 + 2, none⟩ = some ua
  b0 : w.cell? ⟨gb, i * 3, none⟩ = some (.bool t.final)
  b1 : w.cell? ⟨gb, i * 3 + 1, none⟩ = some (.int .i64 t.out)
  b2 : w.cell? ⟨gb, i * 3 + 2, none⟩ = some ub
theorem SM.facts {ba bb ga gb i : Nat} {va vb : Value} {s t : St} {ua ub : Value} {w : World} (h : SM ba bb ga gb i va vb s t ua ub w) : w.cell? ⟨ba, 1, none⟩ = some va ∧ w.cell? ⟨bb, 1, none⟩ = some vb ∧ w.cell? ⟨ga, i * 3, none⟩ = some (.bool s.final) ∧ w.cell? ⟨ga, i * 3 + 1, none⟩ = some (.int .i64 s.out) ∧ w.cell? ⟨ga, i * 3 + 2, none⟩ = some ua ∧ w.cell? ⟨gb, i * 3, none⟩ = some (.bool t.final) ∧ w.cell? ⟨gb, i * 3 + 1, none⟩ = some (.int .i64 t.out) ∧ w.cell? ⟨gb, i * 3 + 2, none⟩ = some ub := ⟨h.a, h.b, h.a0, h.a1, h.a2, h.b0, h.b1, h.b2⟩
theorem SM.below {ba bb ga gb i : Nat} {va vb : Value} {s t : St} {ua ub : Value} {w w' : World} (h : SM ba bb ga gb i va vb s t ua ub w) (hb : Below w.heap.size w w') : SM ba bb ga gb i va vb s t ua ub w' := by
  have k : ∀ {g o : Nat} {v : Value}, w.cell? ⟨g, o, none⟩ = some v → w'.cell? ⟨g, o, none⟩ = some v := fun {g o v} h => (hb.cell (p := ⟨g, o, none⟩) (lt_of_cell h)).trans h
  exact ⟨k h.a, k h.b, k h.a0, k h.a1, k h.a2, k h.b0, k h.b1, k h.b2⟩
theorem StRow.small {B : Nat} {w : World} {vs : Value} {b : List St} (h : StRow B w vs b) : b.length ≤ 9223372036854775807 := by
  obtain ⟨xss, h1, h2, _⟩ := h
  have := GOwn.small h1
  rw [h2] at this
  simp only [maxLen] at this
  omega
end Go.Proofs.YtllmdfkiogmofaaGreatDoor

/- Stands for the elder text of this name, without its law. -/

/- FstLevel: the law's own walk. -/
namespace Go.Proofs.YtllmdfkiogmofaaGreatDoor
open Go.RowKit Nums Fm
set_option maxRecDepth 100000

/-- What is fixed behind Build. -/
structure Behind (w wm : World) (mb : Nat) (base : Int) (vs : Value) (b : List St) : Prop where
  bel : Below w.heap.size w wm
  row : StRow w.heap.size wm vs b
  mac : wm.heap[mb]? = some (.cells #[.int .i64 base, vs] 26)
theorem Behind.below {w wm wm' : World} {mb : Nat} {base : Int} {vs : Value} {b : List St} (h : Behind w wm mb base vs b) (hb : Below wm.heap.size wm wm') : Behind w wm' mb base vs b :=
  ⟨h.bel.trans (hb.mono h.bel.size), h.row.below hb, (hb.block mb (Array.getElem?_eq_some_iff.1 h.mac).1).trans h.mac⟩
theorem mach_small {l : List Pr} : (machOf l).2.length ≤ 102400 := by
  rw [machOf]
  split
  · rename_i h
    have hg := dict_good h.1 h.2
    have h1 := (stF_facts 25 [] (ents l) (ok_of_rise 25 _ hg.1 hg.2.1 hg.2.2)).2.1
    have h2 := bulk_le (dict_ok h.1).en.ln
    rw [ents_len] at h2
    have h3 := (dict_ok h.1).len
    simp only [List.length_nil] at h1
    show (stF 25 [] (ents l)).1.length ≤ 102400
    omega
  · simp
end Go.Proofs.YtllmdfkiogmofaaGreatDoor

/- The reference's rests in memory: Least, Level, Under. -/
namespace Go.Proofs.YtllmdfkiogmofaaGreatDoor
open Go.RowKit Nums Fm
set_option maxRecDepth 100000

/-- A slice has no more than there is room for. -/
def CapOk : Value → Prop
  | .slice _ n c => n ≤ c
  | _ => False
/-- A row of rests that is read; the runes lie in blocks below E. -/
def RR (E : Nat) (w : World) (v : Value) (S : List En) : Prop :=
  ∃ ad cap, v = .slice ad S.length cap ∧ (0 < S.length → ∃ g off, ad = some ⟨g, off, none⟩ ∧ g < w.heap.size ∧ ∀ i e, S[i]? = some e → ∃ u, EntAt E w g (off + i * 2) u e ∧ CapOk u)
theorem RR.below {E : Nat} {w w' : World} {v : Value} {S : List En} (h : RR E w v S) (hE : E ≤ w.heap.size) (hb : Below w.heap.size w w') : RR E w' v S := by
  obtain ⟨ad, cap, rfl, hc⟩ := h
  refine ⟨ad, cap, rfl, fun h0 => ?_⟩
  obtain ⟨g, off, rfl, hg, hx⟩ := hc h0
  refine ⟨g, off, rfl, Nat.lt_of_lt_of_le hg hb.size, fun i e hi => ?_⟩
  obtain ⟨u, ⟨c0, c1, hr⟩, hk⟩ := hx i e hi
  exact ⟨u, ⟨(hb.cell (p := ⟨g, off + i * 2, none⟩) hg).trans c0, (hb.cell (p := ⟨g, off + i * 2 + 1, none⟩) hg).trans c1, hr.below (hb.mono hE)⟩, hk⟩
theorem RR.form {E : Nat} {w : World} {v : Value} {S : List En} (h : RR E w v S) : ∃ ad cap, v = .slice ad S.length cap := by
  obtain ⟨ad, cap, e, _⟩ := h; exact ⟨ad, cap, e⟩
theorem RR.at {E : Nat} {w : World} {ad : Option Addr} {n cap : Nat} {S : List En} (h : RR E w (.slice ad n cap) S) (h0 : 0 < n) : ∃ g off, ad = some ⟨g, off, none⟩ ∧ g < w.heap.size ∧ ∀ i e, S[i]? = some e → ∃ u, EntAt E w g (off + i * 2) u e ∧ CapOk u := by
  obtain ⟨ad', cap', e, hc⟩ := h
  simp only [Value.slice.injEq] at e
  obtain ⟨rfl, h2, rfl⟩ := e
  exact hc (by omega)
theorem RR.nil (E : Nat) (w : World) : RR E w (.slice none 0 0) [] := ⟨none, 0, rfl, fun h => by simp at h⟩
/-- A row of rests that the call has made. -/
structure RMade (E B : Nat) (w : World) (v : Value) (S : List En) : Prop where
  ex : ∃ xss : List (List Value), GOwn 83 2 B w v xss ∧ xss.length = S.length ∧ ∀ (i : Nat) (e : En), S[i]? = some e → ∃ u, xss[i]? = some [u, .int .i64 e.2] ∧ RunesAt E w u e.1 ∧ CapOk u
theorem RMade.nil (E B : Nat) (w : World) : RMade E B w (.slice none 0 0) [] := ⟨[], GOwn.nil _ _ _ _, rfl, fun i e hi => by simp at hi⟩
theorem RMade.row {E B : Nat} {w : World} {v : Value} {S : List En} (h : RMade E B w v S) : RR E w v S := by
  obtain ⟨xss, ho, hl, hx⟩ := h
  by_cases h0 : 0 < xss.length
  · obtain ⟨g, cap, rfl, hg, _, _, hcell⟩ := ho.cell h0
    refine ⟨_, cap, by rw [hl], fun _ => ⟨g, 0, rfl, hg, fun i e hi => ?_⟩⟩
    obtain ⟨u, hu, hm, hk⟩ := hx i e hi
    exact ⟨u, ⟨by rw [Nat.zero_add]; exact hcell i 0 _ u hu rfl, by rw [Nat.zero_add]; exact hcell i 1 _ _ hu rfl, hm⟩, hk⟩
  · obtain ⟨ad, cap, rfl, _⟩ := ho.shape
    exact ⟨ad, cap, by rw [hl], fun h => absurd h (by omega)⟩
theorem RMade.below {E B : Nat} {w w' : World} {v : Value} {S : List En} (h : RMade E B w v S) (hE : E ≤ w.heap.size) (hb : Below w.heap.size w w') : RMade E B w' v S := by
  obtain ⟨xss, ho, hl, hx⟩ := h
  refine ⟨xss, ho.below hb, hl, fun i e hi => ?_⟩
  obtain ⟨u, h1, h2, h3⟩ := hx i e hi
  exact ⟨u, h1, h2.below (hb.mono hE), h3⟩
theorem rtyR : RTy 83 77 2 32 := ⟨by kernel_rfl, ⟨.agg #[.slice none 0 0, .int .i64 0], by kernel_rfl, rfl⟩, by decide, by decide⟩
/-- One rest more. -/
theorem RMade.push {E B : Nat} {w w' : World} {v' : Value} {S : List En} {e : En} {u : Value} {xss : List (List Value)} (hl : xss.length = S.length) (hx : ∀ (i : Nat) (e : En), S[i]? = some e → ∃ u, xss[i]? = some [u, .int .i64 e.2] ∧ RunesAt E w u e.1 ∧ CapOk u) (hb : Below E w w') (ho : GOwn 83 2 B w' v' (xss ++ [[u, .int .i64 e.2]])) (hu : RunesAt E w u e.1) (hk : CapOk u) : RMade E B w' v' (S ++ [e]) := by
  refine ⟨_, ho, by simp [hl], fun i x hi => ?_⟩
  by_cases hil : i < S.length
  · rw [List.getElem?_append_left hil] at hi
    obtain ⟨y, h1, h2, h3⟩ := hx i x hi
    exact ⟨y, by rw [List.getElem?_append_left (by omega)]; exact h1, h2.below hb, h3⟩
  · rw [List.getElem?_append_right (by omega)] at hi
    cases hi0 : i - S.length with
    | zero =>
      rw [hi0] at hi
      simp only [List.getElem?_cons_zero, Option.some.injEq] at hi
      subst hi
      exact ⟨u, by rw [List.getElem?_append_right (by omega), hl, hi0]; rfl, hu.below hb, hk⟩
    | succ j => rw [hi0] at hi; simp at hi
set_option maxHeartbeats 1000000 in
theorem refLeast_any (E : Nat) (w : World) (v : Value) (l : List En) (h : RR E w v l) (h0 : 0 < l.length) (hl : l.length ≤ 1048576) :
    Calls Tryz.prog 56 #[v] w fun e w' => e = .returned (.int .i64 (least l)) ∧ w' = w := by
  obtain ⟨ad, cap, rfl⟩ := h.form
  obtain ⟨n, hn⟩ : ∃ n, l.length = n := ⟨_, rfl⟩
  have HN : Hid (l.length = n) := hn
  rw [hn] at h hl h0 ⊢
  have h0z : (0 : Int) < (n : Int) := by omega
  obtain ⟨g, off, rfl, hg, hx⟩ := h.at h0
  obtain ⟨e0, he0⟩ : ∃ e0, l[0]? = some e0 := ⟨l[0]'(by have := HN.out; omega), List.getElem?_eq_getElem _⟩
  obtain ⟨u0, hu0, _⟩ := hx 0 e0 he0
  obtain ⟨_, a1, _⟩ := hu0
  rw [Nat.zero_mul, Nat.add_zero] at a1
  have HL : Hid (least l = leastF e0.2 l) := by
    show _ = _
    cases l with
    | nil => simp at he0
    | cons x r => simp only [List.getElem?_cons_zero, Option.some.injEq] at he0; subst he0; rfl
  have HX : Hid (∀ (i : Nat) (e : En), l[i]? = some e → w.cell? ⟨g, off + i * 2 + 1, none⟩ = some (.int .i64 e.2)) := fun i e hi => by obtain ⟨u, hu, _⟩ := hx i e hi; exact hu.c1
  clear h hx he0 hn
  go_enter Tryz.func56, Tryz.ntmps56
  go_wp2
  go_loopg [3, 4] n (fun gm s3 s4 wr => ∃ (k : Nat), s4 = .int .i64 k ∧ k ≤ n ∧ n - k ≤ gm ∧ s3 = .int .i64 (leastF e0.2 (l.take k)) ∧ wr = w)
  case atStart => exact ⟨0, rfl, Nat.zero_le _, by omega, by simp [leastF], rfl⟩
  case round =>
    obtain ⟨k, rfl, hk, hgm, rfl, rfl⟩ := hrel
    by_cases hlt : k < n
    · have hltz : (k : Int) < (n : Int) := by omega
      obtain ⟨x, hx⟩ : ∃ x, l[k]? = some x := ⟨l[k]'(by have := HN.out; omega), List.getElem?_eq_getElem _⟩
      have c1 := HX.out k x hx
      have HS : Hid (leastF e0.2 (l.take (k + 1)) = if x.2 < leastF e0.2 (l.take k) then x.2 else leastF e0.2 (l.take k)) := leastF_snoc hx _
      clear hx
      generalize leastF e0.2 (l.take k) = m at *
      go_wp2
      all_goals
        go_roundg (n - (k + 1))
        case measure => omega
        case rel => exact ⟨k + 1, by go_num, by omega, Nat.le_refl _, by rw [HS.out]; first | rw [if_pos (by omega)] | rw [if_neg (by omega)], rfl⟩
    · have hltz : ¬ (k : Int) < (n : Int) := by omega
      have HE : Hid (leastF e0.2 (l.take k) = leastF e0.2 l) := by show _ = _; rw [List.take_of_length_le (by have := HN.out; omega)]
      go_wp2
      go_ret
      exact ⟨by rw [HE.out, HL.out]; rfl, rfl⟩
/-- What a region looks at: one rest. -/
structure SE (g o : Nat) (u : Value) (n : Int) (w : World) : Prop where
  c0 : w.cell? ⟨g, o, none⟩ = some u
  c1 : w.cell? ⟨g, o + 1, none⟩ = some (.int .i64 n)
theorem SE.facts {g o : Nat} {u : Value} {n : Int} {w : World} (h : SE g o u n w) : w.cell? ⟨g, o, none⟩ = some u ∧ w.cell? ⟨g, o + 1, none⟩ = some (.int .i64 n) := ⟨h.c0, h.c1⟩
theorem SE.below {g o : Nat} {u : Value} {n : Int} {w w' : World} {B : Nat} (h : SE g o u n w) (hg : g < B) (hb : Below B w w') : SE g o u n w' := ⟨(hb.cell (p := ⟨g, o, none⟩) hg).trans h.c0, (hb.cell (p := ⟨g, o + 1, none⟩) hg).trans h.c1⟩
theorem shift_snoc (n : Int) {l : List En} {k : Nat} {e : En} (h : l[k]? = some e) : shift n (l.take (k + 1)) = shift n (l.take k) ++ [(e.1, e.2 + n)] := by
  rw [List.take_add_one, h]
  simp [shift]
set_option maxHeartbeats 2000000 in
theorem refLevel_any (E : Nat) (w : World) (v : Value) (l : List En) (h : RR E w v l) (h0 : 0 < l.length) (hl : l.length ≤ 1048576) (hE : E ≤ w.heap.size) (hw : ∀ e ∈ l, 0 ≤ e.2 ∧ e.2 ≤ 1048576) :
    Calls Tryz.prog 85 #[v] w fun e w' => ∃ v', e = .returned v' ∧ RMade E w.heap.size w' v' (level l) ∧ Below w.heap.size w w' := by
  obtain ⟨ad, cap, rfl⟩ := h.form
  obtain ⟨n, hn⟩ : ∃ n, l.length = n := ⟨_, rfl⟩
  have HN : Hid (l.length = n) := hn
  have HLE := refLeast_any E w _ l h h0 hl
  rw [hn] at h hl h0 HLE ⊢
  have hne : l ≠ [] := fun e => by rw [e] at hn; simp at hn; omega
  obtain ⟨base, hbase⟩ : ∃ base, least l = base := ⟨_, rfl⟩
  rw [hbase] at HLE
  have hbb : 0 ≤ base ∧ base ≤ 1048576 := by rw [← hbase]; exact least_le hne hw
  have HBASE : Hid (least l = base) := hbase
  have HLEH : Hid (Calls Tryz.prog 56 #[.slice ad n cap] w fun e w' => e = .returned (.int .i64 base) ∧ w' = w) := HLE
  obtain ⟨g, off, rfl, hg, hx⟩ := h.at h0
  have HX : Hid (∀ (i : Nat) (e : En), l[i]? = some e → ∃ u, EntAt E w g (off + i * 2) u e ∧ CapOk u) := hx
  have HW : Hid (∀ e ∈ l, 0 ≤ e.2 ∧ e.2 ≤ 1048576) := hw
  clear h hx hn HLE hw hne hbase
  go_enter Tryz.func85, Tryz.ntmps85
  go_upto_region 3 with (go_at_call 56; refine HLEH.out.mono ?_; rintro e w1 ⟨rfl, hw1⟩; rw [hw1]; clear hw1)
  go_wp2
  go_loopg [3, 5] n (fun gm s3 s5 wr => ∃ (k : Nat), s5 = .int .i64 k ∧ k ≤ n ∧ n - k ≤ gm ∧ Hid (RMade E w.heap.size wr s3 (shift (-base) (l.take k))) ∧ Hid (Below w.heap.size w wr))
  case atStart => exact ⟨0, rfl, Nat.zero_le _, by omega, RMade.nil _ _ _, Below.refl _ _⟩
  case round =>
    obtain ⟨k, rfl, hk, hgm, HM, HB⟩ := hrel
    by_cases hlt : k < n
    · have hltz : (k : Int) < (n : Int) := by omega
      obtain ⟨x, hxk⟩ : ∃ x, l[k]? = some x := ⟨l[k]'(by have := HN.out; omega), List.getElem?_eq_getElem _⟩
      obtain ⟨u, ⟨c0, c1, hr⟩, hck⟩ := HX.out k x hxk
      obtain ⟨ra, rc, hu, _⟩ := id hr
      obtain ⟨rn, hrn⟩ : ∃ rn, x.1.length = rn := ⟨_, rfl⟩
      rw [hrn] at hu
      subst hu
      obtain ⟨q, hq⟩ : ∃ q, x.2 = q := ⟨_, rfl⟩
      have hqb := HW.out x (List.mem_of_getElem? hxk)
      rw [hq] at c1 hqb
      have hS : SE g (off + k * 2) (.slice ra rn rc) q w := ⟨c0, c1⟩
      have hS0 : SE g (off + k * 2) (.slice ra rn rc) q wr.drew := (hS.below hg HB.out).below (B := wr.heap.size) (Nat.lt_of_lt_of_le hg HB.out.size) (Below.refl _ wr).drew
      have hwr : IntKind.i64.wrap (q - base) = q - base := by rw [IntKind.wrap_i64]; omega
      obtain ⟨xss, ho, hxl, hxe⟩ := HM.out.ex
      obtain ⟨W4, hW4⟩ : ∃ W4, W4 = wr.drew.alloc (.cells #[.slice ra rn rc, .int .i64 (q - base)] 83) := ⟨_, rfl⟩
      have hb4 : Below wr.heap.size wr W4 := by rw [hW4]; exact ((Below.refl _ wr).drew).alloc (by simp) _
      have hn4 : W4.heap[wr.heap.size]? = some (.cells #[.slice ra rn rc, .int .i64 (q - base)] 83) := by rw [hW4]; exact alloc_newP _ _
      have hBr : w.heap.size ≤ wr.heap.size := HB.out.size
      obtain ⟨v5, W5, hap, ho5, hgr, _⟩ := gappend_run rtyR (ho.below hb4) (Nat.le_trans hBr hb4.size) (x := [.slice ra rn rc, .int .i64 (q - base)]) ⟨rfl, by simp [Value.oneCell']⟩ (nb := wr.heap.size) (fun j u hj => by simp only [World.cell?, hn4]; simpa using hj) (by rw [hxl]; simp only [shift, List.length_map, List.length_take]; omega) 77 1
      have hB45 : Below w.heap.size W4 W5 := gBelow (ho.below hb4) hgr (Nat.le_trans hBr hb4.size)
      have hb5 : Below w.heap.size w W5 := (HB.out.trans (hb4.mono hBr)).trans hB45
      have hM5 : RMade E w.heap.size W5 v5 (shift (-base) (l.take (k + 1))) := by
        rw [shift_snoc (-base) hxk]
        refine RMade.push (w := wr) (u := .slice ra rn rc) (xss := xss) hxl hxe ((hb4.mono (Nat.le_trans hE hBr)).trans (hB45.mono hE)) ?_ (hr.below (HB.out.mono hE)) hck
        simp only [hq]
        exact ho5
      obtain ⟨sd, sc, hsv, _⟩ := ho.shape
      obtain ⟨vd, vc, hvv, _⟩ := ho5.shape
      obtain ⟨n3, hn3⟩ : ∃ n3, xss.length = n3 := ⟨_, rfl⟩
      obtain ⟨n5, hn5⟩ : ∃ n5, (xss ++ [[Value.slice ra rn rc, .int .i64 (q - base)]]).length = n5 := ⟨_, rfl⟩
      rw [hn3] at hsv
      rw [hn5] at hvv
      subst hsv
      subst hvv
      have hS4 : SE g (off + k * 2) (.slice ra rn rc) q W4 := (hS.below hg HB.out).below (Nat.lt_of_lt_of_le hg hBr) hb4
      have hS5 : SE g (off + k * 2) (.slice ra rn rc) q W5 := hS.below hg hb5
      have HM5 : Hid (RMade E w.heap.size W5 (.slice vd n5 vc) (shift (-base) (l.take (k + 1)))) := hM5
      have HB5 : Hid (Below w.heap.size w W5) := hb5
      have HAP : Hid ((Builtin.append_ #[77, 77] 77 #[.slice sd n3 sc, .slice (some ⟨wr.heap.size, 0, none⟩) 1 1]).run Tryz.prog W4 = .ok (.slice vd n5 vc) W5) := hap
      clear hxk hr hrn hq hS hck ho hxl hxe hb4 hn4 hap ho5 hgr hB45 hb5 hM5 hn3 hn5 c0 c1
      go_upto_region 6 with fail
      refine region_at (S := SE g (off + k * 2) (.slice ra rn rc) q) 17 rfl mixedP hS0 (fun _ => ?_)
      refine tk (i := 0) 14 rfl rfl (by kernel_rfl) (fun _ _ _ h => h) (by rfl) (fun _ s => by (have h := SE.facts s; clear s; go_simp; first | done | exact rfl)) (by assumption) ?_
      simp only [sZa, sZb, sZc]
      refine tk (i := 1) 15 rfl rfl (by kernel_rfl) (fun _ _ _ h => h) (by rfl) (fun _ s => by (have h := SE.facts s; clear s; go_simp; first | done | exact rfl)) (by assumption) ?_
      simp only [sZa, sZb, sZc]
      refine tk (i := 2) 16 rfl rfl (by kernel_rfl) (fun _ _ _ h => h) (by rfl) (fun _ s => by (have h := SE.facts s; clear s; go_simp; first | done | exact rfl)) (by assumption) ?_
      simp only [sZa, sZb, sZc]
      refine tk (i := 3) 17 rfl rfl (by kernel_rfl) (fun _ _ _ h => h) (by rfl) (fun _ s => by (have h := SE.facts s; clear s; go_simp; first | done | exact rfl)) (by assumption) ?_
      simp only [sZa, sZb, sZc]
      refine tk (i := 4) 18 rfl rfl (by kernel_rfl) (fun _ _ _ h => h) (by rfl) (fun _ s => by (have h := SE.facts s; clear s; go_simp; first | done | exact rfl)) (by assumption) ?_
      simp only [sZa, sZb, sZc]
      refine tk (i := 5) 19 rfl rfl (by kernel_rfl) (fun _ _ _ h => h) (by rfl) (fun _ s => by (have h := SE.facts s; clear s; go_simp; first | done | exact rfl)) (by assumption) ?_
      simp only [sZa, sZb, sZc]
      refine tk (i := 6) 20 rfl rfl (by kernel_rfl) (fun _ _ _ h => h) (by rfl) (fun _ s => by (have h := SE.facts s; clear s; go_simp; first | done | exact rfl)) (by assumption) ?_
      simp only [sZa, sZb, sZc]
      refine tk (i := 7) 21 rfl rfl (by kernel_rfl) (fun _ _ _ h => h) (by rfl) (fun _ s => by (have h := SE.facts s; clear s; go_simp; first | done | exact rfl)) (by assumption) ?_
      simp only [sZa, sZb, sZc]
      refine tk (i := 8) 22 rfl rfl (by kernel_rfl) (fun _ _ _ h => h) (by rfl) (fun _ s => by (have h := SE.facts s; clear s; go_simp; first | done | exact rfl)) (by assumption) ?_
      simp only [sZa, sZb, sZc]
      refine tk (i := 9) 23 rfl rfl (by kernel_rfl) (fun _ _ _ h => h) (by rfl) (fun _ s => by (have h := SE.facts s; clear s; go_simp; first | done | exact rfl)) (by assumption) ?_
      simp only [sZa, sZb, sZc]
      refine tk (i := 10) 24 rfl rfl (by kernel_rfl) (fun _ _ _ h => h) (by rfl) (fun _ s => by (have h := SE.facts s; clear s; go_simp; first | done | exact rfl)) (by assumption) ?_
      simp only [sZa, sZb, sZc]
      refine tk (i := 11) 25 rfl rfl (by kernel_rfl) (fun _ _ _ h => h) (by rfl) (fun _ s => by (have h := SE.facts s; clear s; go_simp; first | done | exact rfl)) (by assumption) ?_
      simp only [sZa, sZb, sZc]
      refine tk (i := 12) 26 rfl rfl (by kernel_rfl) (fun _ _ _ h => h) (by rfl) (fun _ s => by (have h := SE.facts s; clear s; go_simp; first | done | exact rfl)) (by assumption) ?_
      simp only [sZa, sZb, sZc]
      refine tk (i := 13) 27 rfl rfl (by kernel_rfl) (fun _ _ _ h => h) (by rfl) (fun _ s => by (have h := SE.facts s; clear s; go_simp; first | done | exact rfl)) (by assumption) ?_
      simp only [sZa, sZb, sZc]
      refine one_value (i := 14) (v := .slice (some ⟨wr.heap.size, 0, none⟩) 1 1) (w' := W4) 28 (by kernel_rfl) rfl rfl (by rfl) (by rw [hW4]; go_simp; first | done | exact rfl) hS4 (fun _ => ?_)
      simp only [sZa, sZb, sZc]
      refine one_value (i := 15) (v := .slice vd n5 vc) (w' := W5) 29 (by kernel_rfl) rfl rfl (by rfl) (exec_app HAP.out) hS5 (fun _ => ?_)
      simp only [sZa, sZb, sZc]
      refine one_value (i := 16) (v := .slice vd n5 vc) (w' := W5) 3 (by kernel_rfl) rfl rfl (by rfl) (by kernel_rfl) hS5 (fun _ => ?_)
      refine wpAnyH_done (by kernel_rfl) ?_ _
      simp only [sZa, sZb, sZc]
      clear hW4 hS4 hS5 hS0
      go_wp2
      go_roundg (n - (k + 1))
      case measure => omega
      case rel => exact ⟨k + 1, by go_num, by omega, Nat.le_refl _, HM5, HB5⟩
    · have hltz : ¬ (k : Int) < (n : Int) := by omega
      have HE : Hid (shift (-base) (l.take k) = level l) := by show _ = _; rw [List.take_of_length_le (by have := HN.out; omega), level, HBASE.out]
      go_wp2
      go_ret
      exact ⟨_, rfl, by have := HM.out; rwa [HE.out] at this, HB.out⟩
end Go.Proofs.YtllmdfkiogmofaaGreatDoor

/- The law's own 'alive': it is true. -/
namespace Go.Proofs.YtllmdfkiogmofaaGreatDoor
open Go.RowKit Nums
set_option maxRecDepth 100000

/-- What is owned can be read. -/
theorem Made.row {B : Nat} {w : World} {v : Value} {xs : List Int} (h : Made B w v xs) : Row w v xs := by
  obtain ⟨hl, hn | ⟨g, cap, cur, rfl, hb, hg, h1, h2, h3, h4⟩⟩ := h
  · obtain ⟨rfl, h0⟩ := hn
    refine ⟨none, 0, by rw [h0], fun h => by omega⟩
  · refine ⟨_, _, rfl, fun _ => ⟨g, 0, rfl, fun i hi => ?_⟩⟩
    have hc : cur[i]? = some (.int .i32 (xs.getD i 0)) := by
      have e : (cur.toList.take (xs.length * 1))[i]? = (xs.map (Value.int .i32))[i]? := by rw [h4]
      rw [List.getElem?_take, if_pos (by omega)] at e
      rw [← Array.getElem?_toList, e, List.getElem?_map, List.getElem?_eq_getElem hi]
      simp [List.getD_eq_getElem?_getD, List.getElem?_eq_getElem hi]
    simp only [World.cell?, hg, Nat.zero_add]
    simpa using hc
/-- What could be read can be read still. -/
theorem Row.below {w w' : World} {v : Value} {xs : List Int} (h : Row w v xs) (hb : Below w.heap.size w w') : Row w' v xs := by
  obtain ⟨ao, cap, rfl, hc⟩ := h
  refine ⟨ao, cap, rfl, fun h0 => ?_⟩
  obtain ⟨b, off, rfl, hd⟩ := hc h0
  exact ⟨b, off, rfl, fun i hi => (hb.cell (p := ⟨b, off + i, none⟩) (lt_of_cell (hd i hi))).trans (hd i hi)⟩
/-- A row of one new number. -/
theorem row_one (w : World) (r : Int) : Row (w.alloc (Obj.cells #[Value.int .i32 r] 21)) (.slice (some ⟨w.heap.size, 0, none⟩) 1 1) [r] := by
  refine ⟨_, _, rfl, fun _ => ⟨w.heap.size, 0, rfl, fun i hi => ?_⟩⟩
  simp at hi
  subst hi
  simp

end Go.Proofs.YtllmdfkiogmofaaGreatDoor

/- The reference's Same: are two rows of runes the same? -/
namespace Go.Proofs.YtllmdfkiogmofaaGreatDoor
open Go.RowKit Nums
set_option maxRecDepth 100000

theorem same_of_all {xs ys : List Int} (hl : xs.length = ys.length) (h : ∀ j, j < xs.length → xs.getD j 0 = ys.getD j 0) : xs = ys := by
  refine List.ext_getElem hl (fun i h1 h2 => ?_)
  have := h i h1
  simpa [List.getD_eq_getElem?_getD, List.getElem?_eq_getElem h1, List.getElem?_eq_getElem h2] using this

set_option maxHeartbeats 2000000 in
theorem Same_any (va vb : Value) (xs ys : List Int) (w : World) (h1 : Row w va xs) (h2 : Row w vb ys) (hx : xs.length ≤ 9223372036854775807) (hy : ys.length ≤ 9223372036854775807) :
    Calls Tryz.prog 124 #[va, vb] w fun e w' => e = .returned (.bool (decide (xs = ys))) ∧ ∃ n, w' = w.drewN n := by
  obtain ⟨ao1, cap1, rfl, hc1⟩ := h1
  obtain ⟨ao2, cap2, rfl, hc2⟩ := h2
  by_cases hl : xs.length = ys.length
  · have hlb : ((xs.length : Int) != (ys.length : Int)) = false := by simp [hl]
    have HL : Hid (xs.length = ys.length) := hl
    have HC1 : Hid (0 < xs.length → ∃ b off, ao1 = some ⟨b, off, none⟩ ∧ ∀ i, i < xs.length → w.cell? ⟨b, off + i, none⟩ = some (.int .i32 (xs.getD i 0))) := hc1
    have HC2 : Hid (0 < ys.length → ∃ b off, ao2 = some ⟨b, off, none⟩ ∧ ∀ i, i < ys.length → w.cell? ⟨b, off + i, none⟩ = some (.int .i32 (ys.getD i 0))) := hc2
    clear hc1 hc2 hl
    go_enter Tryz.func124, Tryz.ntmps124
    go_wp2
    go_loopw [5] (fun i wr => ∃ k : Nat, k ≤ xs.length ∧ i = .int .i64 k ∧ (∀ j, j < k → xs.getD j 0 = ys.getD j 0) ∧ ∃ n, wr = w.drewN n) (fun i _ => xs.length - (intOf i).toNat)
    case atStart => exact ⟨0, Nat.zero_le _, rfl, fun j h => by omega, 0, rfl⟩
    case round =>
      obtain ⟨k, hk, rfl, hall, nw, rfl⟩ := hrel
      have HA : Hid (∀ j, j < k → xs.getD j 0 = ys.getD j 0) := hall
      clear hall
      by_cases hlt : k < xs.length
      · have hlt2 : k < ys.length := by have := HL.out; omega
        obtain ⟨g1, off1, rfl, hc1⟩ := HC1.out (by omega)
        obtain ⟨g2, off2, rfl, hc2⟩ := HC2.out (by omega)
        have hck1 := hc1 k hlt
        have hck2 := hc2 k hlt2
        clear hc1 hc2
        generalize hx' : xs.getD k 0 = x at *
        generalize hy' : ys.getD k 0 = y at *
        have HX : Hid (xs.getD k 0 = x) := hx'
        have HY : Hid (ys.getD k 0 = y) := hy'
        clear hx' hy'
        by_cases hxy : x = y
        · subst hxy
          have HB : Hid (∀ j, j < k + 1 → xs.getD j 0 = ys.getD j 0) := fun j h => by
            by_cases e : j = k
            · subst e; rw [HX.out, HY.out]
            · exact HA.out j (by omega)
          go_wp2
          go_quiet (fail)
          go_wp2
          go_roundw
          case rel => exact ⟨k + 1, by omega, by go_num, HB.out, _, rfl⟩
          case measure => simp [intOf]; omega
        · have hb : (x != y) = true := by simpa using hxy
          have HF : Hid (decide (xs = ys) = false) := decide_eq_false (fun e => hxy (by rw [← HX.out, ← HY.out, e]))
          clear hxy
          go_wp2
          go_quiet (fail)
          go_wp2
          go_ret
          exact ⟨by rw [HF.out]; rfl, _, by first | rfl | rw [World.drewN_drewN]⟩
      · have HF : Hid (decide (xs = ys) = true) := decide_eq_true (same_of_all HL.out (fun j hj => HA.out j (by omega)))
        go_wp2
        go_ret
        exact ⟨by rw [HF.out]; rfl, _, by first | rfl | rw [World.drewN_drewN]⟩
  · have hlb : ((xs.length : Int) != (ys.length : Int)) = true := by simpa using fun e => hl (by omega)
    have HF : Hid (decide (xs = ys) = false) := decide_eq_false (fun e => hl (by rw [e]))
    clear hc1 hc2 hl
    go_enter Tryz.func124, Tryz.ntmps124
    go_wp2
    go_ret
    exact ⟨by rw [HF.out]; rfl, 0, rfl⟩
end Go.Proofs.YtllmdfkiogmofaaGreatDoor
