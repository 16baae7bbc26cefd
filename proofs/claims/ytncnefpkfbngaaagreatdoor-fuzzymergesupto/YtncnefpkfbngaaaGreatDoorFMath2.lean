/- How machines grow: what each step of the making asks and gives. No program is named here. -/
import Derived.Test.YtncnefpkfbngaaaGreatDoorJ0
namespace Go.Proofs.YtncnefpkfbngaaaGreatDoor.Fm

/-- Rests of which a state can be made. -/
def Ok : Nat → List En → Prop
 | 0, _ => False
 | f + 1, S => S ≠ [] ∧ (∀ e ∈ restOf S, e.1 ≠ []) ∧ ∀ p ∈ grp (restOf S), Ok f p.2
theorem bulk_cons (e : En) (l : List En) : bulk (e :: l) = e.1.length + 1 + bulk l := by simp [bulk]
theorem bulk_append (a b : List En) : bulk (a ++ b) = bulk a + bulk b := by simp [bulk]
theorem bulk_tl : ∀ l : List En, (∀ e ∈ l, e.1 ≠ []) → bulk (l.map tl) + l.length = bulk l
 | [], _ => rfl
 | e :: r, h => by
  have ih := bulk_tl r fun x hx => h x (by simp [hx])
  have he : 0 < e.1.length := List.length_pos_iff.2 (h e (by simp))
  rw [List.map_cons, bulk_cons, bulk_cons, List.length_cons]
  have : (tl e).1.length = e.1.length - 1 := by simp [tl]
  omega
def bulks (gs : List (Int × List En)) : Nat := (gs.map fun p => bulk p.2).sum
theorem bulks_cons (p : Int × List En) (gs : List (Int × List En)) : bulks (p :: gs) = bulk p.2 + bulks gs := by simp [bulks]
theorem bulks_grp : ∀ (n : Nat) (l : List En), l.length ≤ n → (∀ e ∈ l, e.1 ≠ []) → bulks (grp l) + l.length = bulk l
 | _, [], _, _ => rfl
 | 0, e :: r, h, _ => by simp at h
 | n + 1, e :: r, h, hne => by
  rw [grp_cons, bulks_cons]
  simp only
  have ih := bulks_grp n ((e :: r).drop (lead (hd e) r + 1)) (by rw [List.length_drop]; simp at h ⊢; omega) (fun x hx => hne x (List.mem_of_mem_drop hx))
  have h1 := bulk_tl ((e :: r).take (lead (hd e) r + 1)) (fun x hx => hne x (List.mem_of_mem_take hx))
  have h2 := bulk_append ((e :: r).take (lead (hd e) r + 1)) ((e :: r).drop (lead (hd e) r + 1))
  rw [List.take_append_drop] at h2
  have h3 : ((e :: r).take (lead (hd e) r + 1)).length + ((e :: r).drop (lead (hd e) r + 1)).length = (e :: r).length := by rw [← List.length_append, List.take_append_drop]
  omega
theorem rest_bulk {S : List En} (h : S ≠ []) (hne : ∀ e ∈ restOf S, e.1 ≠ []) : bulks (grp (restOf S)) + 1 ≤ bulk S := by
 have h1 := bulks_grp _ (restOf S) (Nat.le_refl _) hne
 cases S with
 | nil => exact absurd rfl h
 | cons e r =>
  obtain ⟨x, n⟩ := e
  cases x with
  | nil =>
   have h2 : restOf (([], n) :: r) = r := rfl
   rw [h2] at h1 ⊢
   rw [bulk_cons]
   simp
   omega
  | cons c t =>
   have h2 : restOf ((c :: t, n) :: r) = (c :: t, n) :: r := rfl
   rw [h2] at h1 ⊢
   simp only [List.length_cons] at h1
   omega
theorem numSt_pre (b : List St) (s : St) : b <+: (numSt b s).1 := by
 unfold numSt
 split
 · exact List.prefix_refl _
 · exact List.prefix_append _ _
theorem numSt_len (b : List St) (s : St) : (numSt b s).1.length ≤ b.length + 1 ∧ (numSt b s).2 < (numSt b s).1.length ∧ (numSt b s).1[(numSt b s).2]? = some s := by
 unfold numSt
 split
 · rename_i h
   have := List.idxOf_lt_length_of_mem h
   exact ⟨by simp, by simpa using this, by rw [List.getElem?_eq_getElem this, List.getElem_idxOf]⟩
 · exact ⟨by simp, by simp, by simp⟩
theorem arF_facts {f : Nat} {base : Int} (ih : ∀ b S, Ok f S → b <+: (stF f b S).1 ∧ (stF f b S).1.length ≤ b.length + bulk S ∧ (stF f b S).2 < (stF f b S).1.length) :
 ∀ (gs : List (Int × List En)) (b : List St), (∀ p ∈ gs, Ok f p.2) → b <+: (arF (stF f) base b gs).1 ∧ (arF (stF f) base b gs).1.length ≤ b.length + bulks gs
 | [], b, _ => ⟨List.prefix_refl _, by simp [arF, bulks]⟩
 | (c, G) :: r, b, h => by
  obtain ⟨h1, h2, _⟩ := ih b G (h (c, G) (by simp))
  obtain ⟨h4, h5⟩ := arF_facts ih r (stF f b G).1 (fun p hp => h p (by simp [hp]))
  rw [arF, bulks_cons]
  exact ⟨h1.trans h4, by simp only; omega⟩
theorem stF_facts : ∀ (f : Nat) (b : List St) (S : List En), Ok f S → b <+: (stF f b S).1 ∧ (stF f b S).1.length ≤ b.length + bulk S ∧ (stF f b S).2 < (stF f b S).1.length
 | 0, _, _, h => h.elim
 | f + 1, b, S, ⟨h0, h1, h2⟩ => by
  obtain ⟨p1, p2⟩ := arF_facts (base := least S) (stF_facts f) (grp (restOf S)) b h2
  have p3 := rest_bulk h0 h1
  have p4 := numSt_len (arF (stF f) (least S) b (grp (restOf S))).1 ⟨finOf S, outOf S, (arF (stF f) (least S) b (grp (restOf S))).2⟩
  rw [stF]
  exact ⟨p1.trans (numSt_pre _ _), by omega, p4.2.1⟩
theorem least_le {l : List En} {lo hi : Int} (h : l ≠ []) (hw : ∀ e ∈ l, lo ≤ e.2 ∧ e.2 ≤ hi) : lo ≤ least l ∧ least l ≤ hi := by
 obtain ⟨e, he, h1⟩ := least_mem h
 rw [← h1]
 exact hw e he
end Go.Proofs.YtncnefpkfbngaaaGreatDoor.Fm
