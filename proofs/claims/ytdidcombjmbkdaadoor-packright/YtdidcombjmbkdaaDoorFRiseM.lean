/- Rests behind beginnings: what Rises goes through. Plain mathematics. -/
import Derived.Test.YtdidcombjmbkdaaDoorFFolM
namespace Go.Proofs.YtdidcombjmbkdaaDoor.Fm
open Go.Proofs.YtdidcombjmbkdaaDoor.Nums

def behind : List Int → List En → List En
  | [], S => S
  | c :: t, S => behind t (after c S)
theorem behind_snoc : ∀ (p : List Int) (c : Int) (S : List En), behind (p ++ [c]) S = after c (behind p S)
  | [], _, _ => rfl
  | d :: t, c, S => behind_snoc t c (after d S)
theorem behind_step {xs : List Int} {k : Nat} {c : Int} (h : xs[k]? = some c) (S : List En) : behind (xs.take (k + 1)) S = after c (behind (xs.take k) S) := by
  rw [List.take_add_one, h]
  exact behind_snoc _ _ _
theorem after_rest (c : Int) (S : List En) : after c (restOf S) = after c S := by
  cases S with
  | nil => rfl
  | cons e r =>
    obtain ⟨x, n⟩ := e
    cases x with
    | nil => simp [restOf, after]
    | cons d t => rfl
theorem after_flat_none {c : Int} : ∀ (gs : List (Int × List En)), (∀ p ∈ gs, p.1 ≠ c) → after c (flat gs) = []
  | [], _ => rfl
  | p :: r, h => by
    have e : flat (p :: r) = p.2.map (pre p.1) ++ flat r := rfl
    rw [e, after_append, after_pre, if_neg (h p (by simp)), after_flat_none r fun x hx => h x (by simp [hx])]
    rfl
theorem after_flat {c : Int} : ∀ (gs : List (Int × List En)) (p : Int × List En), gs.Pairwise (fun a b => a.1 < b.1) → p ∈ gs → p.1 = c → after c (flat gs) = p.2
  | [], _, _, h, _ => by cases h
  | x :: r, p, hp, h, hc => by
    obtain ⟨h1, h2⟩ := List.pairwise_cons.1 hp
    have e : flat (x :: r) = x.2.map (pre x.1) ++ flat r := rfl
    rw [e, after_append, after_pre]
    rcases List.mem_cons.1 h with rfl | h
    · rw [if_pos hc, after_flat_none r fun y hy => by have := h1 y hy; omega, List.append_nil]
    · have := h1 p h
      rw [if_neg (by omega), after_flat r p h2 h hc]
      rfl
theorem grp_after {S : List En} (hS : Rise S) {p : Int × List En} (hp : p ∈ grp (restOf S)) : after p.1 S = p.2 := by
  obtain ⟨h1, h2⟩ := rise_rest hS
  have hf := flat_grp _ (restOf S) (Nat.le_refl _) h2
  have hl := (grp_labels _ (restOf S) (Nat.le_refl _) h2 h1).1
  rw [← after_rest, ← hf]
  exact after_flat _ p hl hp rfl
theorem after_in_grp {S : List En} (hS : Rise S) {c : Int} (h : after c S ≠ []) : (c, after c S) ∈ grp (restOf S) := by
  obtain ⟨h1, h2⟩ := rise_rest hS
  have hf := flat_grp _ (restOf S) (Nat.le_refl _) h2
  have hex : ∃ p ∈ grp (restOf S), p.1 = c := by
    apply Classical.byContradiction
    intro hno
    apply h
    rw [← after_rest, ← hf]
    exact after_flat_none _ fun p hp e => hno ⟨p, hp, e⟩
  obtain ⟨p, hp, e⟩ := hex
  have hpa := grp_after hS hp
  rw [e] at hpa
  rw [hpa, ← e]
  exact hp
theorem after_has {c : Int} {t : List Int} {n : Int} : ∀ {S : List En}, (c :: t, n) ∈ S → (t, n) ∈ after c S
  | [], h => by cases h
  | e :: r, h => by
    rw [after]
    rcases List.mem_cons.1 h with h | h
    · rw [← h]
      simp [tl]
    · split
      · exact .tail _ (after_has h)
      · exact after_has h
theorem after_rise {S : List En} (hS : Rise S) (c : Int) : Rise (after c S) := by
  by_cases h : after c S = []
  · rw [h]; exact List.Pairwise.nil
  · obtain ⟨h1, h2⟩ := rise_rest hS
    exact grp_rise _ (restOf S) (Nat.le_refl _) h2 h1 _ (after_in_grp hS h)
/-- What stands behind a word's beginning. -/
theorem behind_word : ∀ (xs : List Int) (n : Int) (S : List En), Rise S → (xs, n) ∈ S → ∀ k, k ≤ xs.length → Sub S (level (behind (xs.take k) S)) ∧ (xs.drop k, n) ∈ behind (xs.take k) S
  | xs, n, S, _, hm, 0, _ => by
    rw [List.take_zero, List.drop_zero]
    exact ⟨.here S, hm⟩
  | [], _, _, _, _, k + 1, hk => by simp at hk
  | c :: t, n, S, hr, hm, k + 1, hk => by
    have hm2 := after_has hm
    obtain ⟨h1, h2⟩ := behind_word t n (after c S) (after_rise hr c) hm2 k (by simpa using hk)
    rw [List.take_succ_cons, List.drop_succ_cons, behind]
    exact ⟨.step (after_in_grp hr (fun e => by rw [e] at hm2; cases hm2)) h1, h2⟩
theorem sub_word {S R : List En} (hs : Sub S R) : Rise S → S ≠ [] → ∃ xs n, (xs, n) ∈ S ∧ ∃ k, k ≤ xs.length ∧ R = level (behind (xs.take k) S) := by
  induction hs with
  | here S =>
    intro _ hne
    obtain ⟨e, he⟩ := List.exists_mem_of_ne_nil _ hne
    exact ⟨e.1, e.2, he, 0, Nat.zero_le _, rfl⟩
  | @step S R p hp hsub ih =>
    intro hr _
    have hpa := grp_after hr hp
    obtain ⟨h1, h2⟩ := rise_rest hr
    obtain ⟨xs, n, hm, k, hk, hR⟩ := ih (grp_rise _ (restOf S) (Nat.le_refl _) h2 h1 p hp) (grp_ne _ _ (Nat.le_refl _) p hp)
    rw [← hpa] at hm hR
    exact ⟨p.1 :: xs, n, after_mem hm, k + 1, by simpa using hk, by rw [List.take_succ_cons]; exact hR⟩
theorem behind_mem : ∀ (p : List Int) (S : List En) (e : En), e ∈ behind p S → ∃ x ∈ S, e.2 = x.2 ∧ e.1.length ≤ x.1.length
  | [], S, e, h => ⟨e, h, rfl, Nat.le_refl _⟩
  | c :: t, S, e, h => by
    obtain ⟨x, hx, h1, h2⟩ := behind_mem t (after c S) e h
    refine ⟨pre c x, after_mem hx, h1, ?_⟩
    simp only [pre, List.length_cons]
    omega
theorem behind_len : ∀ (p : List Int) (S : List En), (behind p S).length ≤ S.length
  | [], _ => Nat.le_refl _
  | c :: t, S => by
    have h1 := behind_len t (after c S)
    have h2 : ∀ l : List En, (after c l).length ≤ l.length := by
      intro l
      induction l with
      | nil => exact Nat.le_refl _
      | cons e r ih =>
        rw [after]
        split
        · simp only [List.length_cons]; omega
        · simp only [List.length_cons]; omega
    have := h2 S
    rw [behind]
    omega
theorem same_len {α : Type} [DecidableEq α] : ∀ (l m : List α), l.Nodup → m.Nodup → (∀ x, x ∈ l ↔ x ∈ m) → l.length = m.length := by
  have le : ∀ (l m : List α), l.Nodup → (∀ x ∈ l, x ∈ m) → l.length ≤ m.length := by
    intro l
    induction l with
    | nil => intro m _ _; exact Nat.zero_le _
    | cons x r ih =>
      intro m hn hs
      obtain ⟨h1, h2⟩ := List.nodup_cons.1 hn
      have hx := hs x (by simp)
      have := ih (m.erase x) h2 fun y hy => (List.mem_erase_of_ne (fun e : y = x => h1 (by rw [← e]; exact hy))).2 (hs y (by simp [hy]))
      have hl := List.length_erase_of_mem hx
      have hp : 0 < m.length := List.length_pos_of_mem hx
      simp only [List.length_cons]
      omega
  intro l m hl hm h
  exact Nat.le_antisymm (le l m hl fun x hx => (h x).1 hx) (le m l hm fun x hx => (h x).2 hx)
end Go.Proofs.YtdidcombjmbkdaaDoor.Fm
