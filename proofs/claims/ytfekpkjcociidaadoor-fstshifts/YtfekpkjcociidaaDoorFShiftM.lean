/- All weights greater by one number: the machine is the same, but for its base. -/
import Derived.Test.YtfekpkjcociidaaDoorFLevM
namespace Go.Proofs.YtfekpkjcociidaaDoor
open Nums Fm

namespace Fm
theorem outOf_shift (n : Int) {S : List En} (h : S ≠ []) : outOf (shift n S) = outOf S := by
  cases S with
  | nil => exact absurd rfl h
  | cons e r =>
    obtain ⟨x, m⟩ := e
    cases x with
    | nil =>
      have hl := least_shift n h
      have e1 : outOf (shift n (([], m) :: r)) = m + n - least (shift n (([], m) :: r)) := rfl
      have e2 : outOf (([], m) :: r) = m - least (([], m) :: r) := rfl
      rw [e1, e2, hl]
      omega
    | cons c t => rfl
theorem arF_shift {f : Nat} {base n : Int} (ih : ∀ b S, Ok f S → stF f b (shift n S) = stF f b S) (hne : ∀ S, Ok f S → S ≠ []) : ∀ (gs : List (Int × List En)) (b : List St), (∀ p ∈ gs, Ok f p.2) → arF (stF f) (base + n) b (gs.map fun p => (p.1, shift n p.2)) = arF (stF f) base b gs
  | [], _, _ => rfl
  | (c, G) :: r, b, h => by
    have hG := h (c, G) (by simp)
    rw [List.map_cons, arF, arF]
    simp only
    rw [ih b G hG, arF_shift ih hne r _ (fun p hp => h p (by simp [hp])), least_shift n (hne G hG), show least G + n - (base + n) = least G - base by omega]
theorem ok_ne {f : Nat} {S : List En} (h : Ok f S) : S ≠ [] := by
  cases f with
  | zero => exact h.elim
  | succ f => exact h.1
theorem stF_shift (n : Int) : ∀ (f : Nat) (b : List St) (S : List En), Ok f S → stF f b (shift n S) = stF f b S
  | 0, _, _, h => h.elim
  | f + 1, b, S, ⟨h0, h1, h2⟩ => by
    rw [stF, stF, finOf_shift, outOf_shift n h0, restOf_shift, grp_shift, least_shift n h0, arF_shift (stF_shift n f) (fun S h => ok_ne h) _ b h2]
end Fm
def more (n : Int) (l : List Pr) : List Pr := l.map fun x => (x.1, x.2 + n)
theorem more_ents (n : Int) (l : List Pr) : ents (more n l) = shift n (ents l) := by
  simp only [ents, more, shift, List.map_map]
  rfl
theorem one_more {n : Int} (hn : 1 ≤ n) {p : Option Pr} {x : Pr} (h : oneF p x = 0) (hx : x.2 + n ≤ 1048576) : oneF (p.map fun y => (y.1, y.2 + n)) (x.1, x.2 + n) = 0 := by
  unfold oneF at h ⊢
  by_cases hw : wordB x.1.data.toList = false
  · rw [if_pos hw] at h; cases h
  · rw [if_neg hw] at h ⊢
    by_cases hb : x.2 < 1 ∨ 1048576 < x.2
    · rw [if_pos hb] at h; cases h
    · rw [if_neg hb] at h
      rw [if_neg (by simp only; omega)]
      cases p with
      | none => exact h
      | some q => exact h
theorem fault_more {n : Int} (hn : 1 ≤ n) : ∀ (l : List Pr) (p : Option Pr), faultF p l = 0 → (∀ x ∈ l, x.2 + n ≤ 1048576) → faultF (p.map fun y => (y.1, y.2 + n)) (more n l) = 0
  | [], _, _, _ => rfl
  | x :: r, p, h, hx => by
    rw [faultF] at h
    by_cases h0 : oneF p x = 0
    · rw [if_pos h0] at h
      rw [more, List.map_cons, ← more, faultF, one_more hn h0 (hx x (by simp)), if_pos rfl]
      exact fault_more hn r (some x) h (fun y hy => hx y (by simp [hy]))
    · rw [if_neg h0] at h; exact absurd h h0
theorem build_more {n : Int} (hn : 1 ≤ n) {l : List Pr} (h : buildE l = 0) (hx : ∀ x ∈ l, x.2 + n ≤ 1048576) : buildE (more n l) = 0 ∧ machOf (more n l) = ((machOf l).1 + (if l = [] then 0 else n), (machOf l).2) := by
  have h1 : buildE (more n l) = 0 := by
    unfold buildE at h ⊢
    have e : (more n l).length = l.length := by simp [more]
    rw [e]
    split at h
    · cases h
    · rename_i hl
      rw [if_neg hl]
      exact fault_more hn l none h hx
  refine ⟨h1, ?_⟩
  by_cases hl : l = []
  · subst hl
    rfl
  · have hg := dict_good h hl
    have hok := ok_of_rise 25 _ hg.1 hg.2.1 hg.2.2
    rw [machOf, if_pos ⟨h1, by simp [more, hl]⟩, machOf, if_pos ⟨h, hl⟩, more_ents, stF_shift n 25 [] _ hok, least_shift n hg.1, if_neg hl]
end Go.Proofs.YtfekpkjcociidaaDoor
