/- Rests that rise: groups, and that a state can be made of them. -/
import Derived.Test.YtdidcombjmbkdaaDoorFMath2
import Derived.Test.YtdidcombjmbkdaaDoorLex
namespace Go.Proofs.YtdidcombjmbkdaaDoor.Fm
open Go.Proofs.YtdidcombjmbkdaaDoor.Nums

/-- Words rise. -/
def Rise (S : List En) : Prop := S.Pairwise fun a b => lexL a.1 b.1 = true
theorem lexL_ne {x y : List Int} (h : lexL x y = true) : y ≠ [] := fun e => by rw [e, lexL_nil] at h; cases h
theorem rise_rest {S : List En} (h : Rise S) : Rise (restOf S) ∧ ∀ e ∈ restOf S, e.1 ≠ [] := by
  cases S with
  | nil => exact ⟨h, fun e he => by cases he⟩
  | cons x r =>
    obtain ⟨a, n⟩ := x
    obtain ⟨h1, h2⟩ := List.pairwise_cons.1 h
    cases a with
    | nil => exact ⟨h2, fun e he => lexL_ne (h1 e he)⟩
    | cons c t =>
      refine ⟨h, fun e he => ?_⟩
      rcases List.mem_cons.1 he with rfl | he
      · simp
      · exact lexL_ne (h1 e he)
/-- A rune laid ahead. -/
def pre (c : Int) (e : En) : En := (c :: e.1, e.2)
theorem pre_hd_tl {e : En} (h : e.1 ≠ []) : pre (hd e) (tl e) = e := by
  obtain ⟨x, n⟩ := e
  cases x with
  | nil => exact absurd rfl h
  | cons c t => rfl
/-- Groups, laid back. -/
def flat (gs : List (Int × List En)) : List En := gs.flatMap fun p => p.2.map (pre p.1)
theorem lead_hd (c : Int) : ∀ (r : List En), ∀ e ∈ r.take (lead c r), hd e = c
  | [], e, h => by simp at h
  | x :: r, e, h => by
    rw [lead] at h
    split at h
    · rename_i hx
      rw [List.take_succ_cons] at h
      rcases List.mem_cons.1 h with rfl | h
      · exact hx
      · exact lead_hd c r e h
    · simp at h
theorem map_pre_tl {c : Int} : ∀ (l : List En), (∀ e ∈ l, e.1 ≠ [] ∧ hd e = c) → (l.map tl).map (pre c) = l
  | [], _ => rfl
  | e :: r, h => by
    obtain ⟨h1, h2⟩ := h e (by simp)
    rw [List.map_cons, List.map_cons, map_pre_tl r fun x hx => h x (by simp [hx]), ← h2, pre_hd_tl h1]
theorem grp_head {e : En} {r : List En} : ∀ x ∈ (e :: r).take (lead (hd e) r + 1), hd x = hd e := fun x hx => by
  rw [List.take_succ_cons] at hx
  rcases List.mem_cons.1 hx with rfl | hx
  · rfl
  · exact lead_hd _ _ x hx
theorem flat_grp : ∀ (n : Nat) (l : List En), l.length ≤ n → (∀ e ∈ l, e.1 ≠ []) → flat (grp l) = l
  | _, [], _, _ => rfl
  | 0, e :: r, h, _ => by simp at h
  | n + 1, e :: r, h, hne => by
    rw [grp_cons, flat, List.flatMap_cons, ← flat]
    rw [flat_grp n _ (by rw [List.length_drop]; simp at h ⊢; omega) (fun x hx => hne x (List.mem_of_mem_drop hx))]
    rw [map_pre_tl _ fun x hx => ⟨hne x (List.mem_of_mem_take hx), grp_head x hx⟩, List.take_append_drop]
theorem grp_ne : ∀ (n : Nat) (l : List En), l.length ≤ n → ∀ p ∈ grp l, p.2 ≠ []
  | _, [], _, _, h => by cases h
  | 0, e :: r, h, _, _ => by simp at h
  | n + 1, e :: r, h, p, hp => by
    rw [grp_cons] at hp
    rcases List.mem_cons.1 hp with rfl | hp
    · simp
    · exact grp_ne n _ (by rw [List.length_drop]; simp at h ⊢; omega) p hp
theorem grp_mem {l : List En} (hne : ∀ e ∈ l, e.1 ≠ []) {p : Int × List En} (hp : p ∈ grp l) {e : En} (he : e ∈ p.2) : pre p.1 e ∈ l := by
  rw [← flat_grp _ l (Nat.le_refl _) hne]
  exact List.mem_flatMap.2 ⟨p, hp, List.mem_map.2 ⟨e, he, rfl⟩⟩
theorem rise_tl {c : Int} {l : List En} (h : Rise l) (hc : ∀ e ∈ l, e.1 ≠ [] ∧ hd e = c) : Rise (l.map tl) := by
  unfold Rise
  rw [List.pairwise_map]
  refine List.Pairwise.imp_of_mem ?_ h
  intro a b ha hb hab
  obtain ⟨h1, h2⟩ := hc a ha
  obtain ⟨h3, h4⟩ := hc b hb
  obtain ⟨x, n⟩ := a
  obtain ⟨y, m⟩ := b
  cases x with
  | nil => exact absurd rfl h1
  | cons p x =>
    cases y with
    | nil => exact absurd rfl h3
    | cons q y =>
      have e1 : p = c := h2
      have e2 : q = c := h4
      rw [e1, e2] at hab
      show lexL x y = true
      rw [← lexL_same c x y]
      exact hab
theorem grp_rise : ∀ (n : Nat) (l : List En), l.length ≤ n → (∀ e ∈ l, e.1 ≠ []) → Rise l → ∀ p ∈ grp l, Rise p.2
  | _, [], _, _, _, _, h => by cases h
  | 0, e :: r, h, _, _, _, _ => by simp at h
  | n + 1, e :: r, h, hne, hr, p, hp => by
    rw [grp_cons] at hp
    rcases List.mem_cons.1 hp with rfl | hp
    · exact rise_tl (List.Pairwise.sublist (List.take_sublist _ _) hr) fun x hx => ⟨hne x (List.mem_of_mem_take hx), grp_head x hx⟩
    · exact grp_rise n _ (by rw [List.length_drop]; simp at h ⊢; omega) (fun x hx => hne x (List.mem_of_mem_drop hx)) (List.Pairwise.sublist (List.drop_sublist _ _) hr) p hp
/-- The heads of what rises rise. -/
theorem hd_le {a b : En} (h : lexL a.1 b.1 = true) (ha : a.1 ≠ []) : hd a ≤ hd b := by
  obtain ⟨x, n⟩ := a
  obtain ⟨y, m⟩ := b
  cases x with
  | nil => exact absurd rfl ha
  | cons p x =>
    cases y with
    | nil => rw [lexL_nil] at h; cases h
    | cons q y =>
      rw [lexL_cons] at h
      show p ≤ q
      simp only [Bool.or_eq_true, Bool.and_eq_true, decide_eq_true_eq] at h
      omega
theorem lead_stop (c : Int) : ∀ (r : List En) (x : En), r[lead c r]? = some x → hd x ≠ c
  | [], x, h => by simp at h
  | e :: r, x, h => by
    rw [lead] at h
    split at h
    · exact lead_stop c r x (by simpa using h)
    · rename_i hne
      simp at h
      subst h
      exact hne
/-- Labels rise. -/
theorem grp_labels : ∀ (n : Nat) (l : List En), l.length ≤ n → (∀ e ∈ l, e.1 ≠ []) → Rise l → (grp l).Pairwise (fun p q => p.1 < q.1) ∧ ∀ p ∈ grp l, ∃ e ∈ l, hd e = p.1
  | _, [], _, _, _ => ⟨List.Pairwise.nil, fun p h => by cases h⟩
  | 0, e :: r, h, _, _ => by simp at h
  | n + 1, e :: r, h, hne, hr => by
    obtain ⟨ih1, ih2⟩ := grp_labels n ((e :: r).drop (lead (hd e) r + 1)) (by rw [List.length_drop]; simp at h ⊢; omega) (fun x hx => hne x (List.mem_of_mem_drop hx)) (List.Pairwise.sublist (List.drop_sublist _ _) hr)
    rw [grp_cons]
    obtain ⟨hr1, hr2⟩ := List.pairwise_cons.1 hr
    have hgt : ∀ x ∈ (e :: r).drop (lead (hd e) r + 1), hd e < hd x := fun x hx => by
      rw [List.drop_succ_cons] at hx
      have hxr := List.mem_of_mem_drop hx
      have h1 := hd_le (hr1 x hxr) (hne e (by simp))
      obtain ⟨j, hj⟩ := List.mem_iff_getElem?.1 hx
      rw [List.getElem?_drop] at hj
      obtain ⟨hjl, hje⟩ := List.getElem?_eq_some_iff.1 hj
      obtain ⟨y, hy⟩ : ∃ y, r[lead (hd e) r]? = some y := ⟨r[lead (hd e) r]'(by omega), List.getElem?_eq_getElem _⟩
      have hyn := lead_stop _ _ _ hy
      obtain ⟨hyl, hye⟩ := List.getElem?_eq_some_iff.1 hy
      have hym : y ∈ r := List.mem_of_getElem? hy
      have h2 := hd_le (hr1 y hym) (hne e (by simp))
      have h3 : hd y ≤ hd x := by
        cases j with
        | zero => rw [Nat.add_zero, hy] at hj; cases hj; exact Int.le_refl _
        | succ j =>
          have := List.pairwise_iff_getElem.1 hr2 (lead (hd e) r) (lead (hd e) r + (j + 1)) hyl hjl (by omega)
          rw [hye, hje] at this
          exact hd_le this (hne y (by simp [hym]))
      omega
    refine ⟨List.pairwise_cons.2 ⟨fun p hp => ?_, ih1⟩, fun p hp => ?_⟩
    · obtain ⟨x, hx, hxe⟩ := ih2 p hp
      rw [← hxe]
      exact hgt x hx
    · rcases List.mem_cons.1 hp with rfl | hp
      · exact ⟨e, by simp, rfl⟩
      · obtain ⟨x, hx, hxe⟩ := ih2 p hp
        exact ⟨x, List.mem_of_mem_drop hx, hxe⟩
theorem ok_of_rise : ∀ (f : Nat) (S : List En), S ≠ [] → Rise S → (∀ e ∈ S, e.1.length < f) → Ok f S
  | 0, S, h, _, hl => by
    cases S with
    | nil => exact absurd rfl h
    | cons e r => exact absurd (hl e (by simp)) (by omega)
  | f + 1, S, h, hr, hl => by
    obtain ⟨h1, h2⟩ := rise_rest hr
    have hsub : ∀ e ∈ restOf S, e ∈ S := fun e he => by
      cases S with
      | nil => exact he
      | cons x r =>
        obtain ⟨a, n⟩ := x
        cases a with
        | nil => exact .tail _ he
        | cons c t => exact he
    refine ⟨h, h2, fun p hp => ok_of_rise f p.2 (grp_ne _ _ (Nat.le_refl _) p hp) (grp_rise _ _ (Nat.le_refl _) h2 h1 p hp) fun e he => ?_⟩
    have := hl _ (hsub _ (grp_mem h2 hp he))
    simp only [pre, List.length_cons] at this
    omega
end Go.Proofs.YtdidcombjmbkdaaDoor.Fm
