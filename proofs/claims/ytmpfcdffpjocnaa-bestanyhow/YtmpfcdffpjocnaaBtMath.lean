/- The best of matches in plain mathematics: the order, heaps with the worst on top, sorted lists. -/
import Derived.Test.YtmpfcdffpjocnaaPBase
namespace Go.Proofs.Ytmpfcdffpjocnaa
open Go.RowKit Pm
namespace Bt
/-- A word, its weight, its distance. -/
abbrev Mt := ByteArray × (Int × Int)
def btr (a b : Mt) : Bool := if a.2.2 = b.2.2 then (if a.2.1 = b.2.1 then lessB a.1 b.1 else decide (b.2.1 < a.2.1)) else decide (a.2.2 < b.2.2)
theorem btr_sto : STO btr := by
  refine ⟨fun a => ?_, fun a b c h1 h2 => ?_, fun a b h1 h2 => ?_⟩
  · unfold btr; rw [if_pos rfl, if_pos rfl]; exact lessB_sto.1 _
  · unfold btr at h1 h2 ⊢
    by_cases e1 : a.2.2 = b.2.2
    · rw [if_pos e1] at h1
      by_cases e2 : b.2.2 = c.2.2
      · rw [if_pos e2] at h2
        rw [if_pos (e1.trans e2)]
        by_cases f1 : a.2.1 = b.2.1
        · rw [if_pos f1] at h1
          by_cases f2 : b.2.1 = c.2.1
          · rw [if_pos f2] at h2
            rw [if_pos (f1.trans f2)]
            exact lessB_sto.2 _ _ _ h1 h2
          · rw [if_neg f2] at h2
            rw [if_neg (by rw [f1]; exact f2), f1]; exact h2
        · rw [if_neg f1] at h1
          by_cases f2 : b.2.1 = c.2.1
          · rw [if_neg (by rw [← f2]; exact f1), ← f2]; exact h1
          · rw [if_neg f2] at h2
            simp only [decide_eq_true_eq] at h1 h2
            rw [if_neg (by omega)]
            simp only [decide_eq_true_eq]; omega
      · rw [if_neg e2] at h2
        rw [if_neg (by rw [e1]; exact e2), e1]; exact h2
    · rw [if_neg e1] at h1
      by_cases e2 : b.2.2 = c.2.2
      · rw [if_neg (by rw [← e2]; exact e1), ← e2]; exact h1
      · rw [if_neg e2] at h2
        simp only [decide_eq_true_eq] at h1 h2
        rw [if_neg (by omega)]
        simp only [decide_eq_true_eq]; omega
  · unfold btr at h1 h2
    by_cases e1 : a.2.2 = b.2.2
    · rw [if_pos e1] at h1
      rw [if_pos e1.symm] at h2
      by_cases f1 : a.2.1 = b.2.1
      · rw [if_pos f1] at h1
        rw [if_pos f1.symm] at h2
        have := lessB_sto.3 _ _ h1 h2
        exact Prod.ext this (Prod.ext f1 e1)
      · rw [if_neg f1] at h1
        rw [if_neg (fun e => f1 e.symm)] at h2
        simp only [decide_eq_false_iff_not] at h1 h2
        omega
    · rw [if_neg e1] at h1
      rw [if_neg (fun e => e1 e.symm)] at h2
      simp only [decide_eq_false_iff_not] at h1 h2
      omega
theorem asy {a b : Mt} (h : btr a b = true) : btr b a = false := by
  cases e : btr b a
  · rfl
  · have := btr_sto.2 _ _ _ h e; rw [btr_sto.1] at this; cases this
theorem nlt_trans {a b c : Mt} (h1 : btr a b = false) (h2 : btr b c = false) : btr a c = false := by
  cases e : btr a c
  · rfl
  · cases f : btr b a
    · have := btr_sto.3 _ _ h1 f; subst this; rw [h2] at e; cases e
    · have := btr_sto.2 _ _ _ f e; rw [h2] at this; cases this
/-! Elements by their numbers, swaps. -/
def el (h : List Mt) (i : Nat) : Mt := (h[i]?).getD (.empty, 0, 0)
theorem el_get {h : List Mt} {i : Nat} (hi : i < h.length) : h[i]? = some (el h i) := by
  unfold el; rw [List.getElem?_eq_getElem hi]; rfl
theorem el_set (h : List Mt) (i : Nat) (x : Mt) (k : Nat) (hi : i < h.length) : el (h.set i x) k = if k = i then x else el h k := by
  unfold el
  rw [List.getElem?_set]
  by_cases e : k = i
  · subst e; rw [if_pos rfl, if_pos hi, if_pos rfl]; rfl
  · rw [if_neg (fun e' => e e'.symm), if_neg e]
def swp (h : List Mt) (i j : Nat) : List Mt := (h.set i (el h j)).set j (el h i)
theorem swp_len (h : List Mt) (i j : Nat) : (swp h i j).length = h.length := by simp [swp]
theorem el_swp (h : List Mt) (i j k : Nat) (hi : i < h.length) (hj : j < h.length) : el (swp h i j) k = if k = j then el h i else if k = i then el h j else el h k := by
  unfold swp
  rw [el_set _ _ _ _ (by simpa using hj), el_set _ _ _ _ hi]
theorem swp_perm (h : List Mt) (i j : Nat) (hi : i < h.length) (hj : j < h.length) : (swp h i j).Perm h := by
  have e : swp h i j = (h.toArray.swap i j (by simpa using hi) (by simpa using hj)).toList := by
    rw [Array.swap_def]
    simp only [Array.toList_set, swp, List.getElem_toArray]
    have e1 : el h j = h[j] := by unfold el; rw [List.getElem?_eq_getElem hj]; rfl
    have e2 : el h i = h[i] := by unfold el; rw [List.getElem?_eq_getElem hi]; rfl
    rw [e1, e2]
  rw [e]
  have := Array.swap_perm (xs := h.toArray) (i := i) (j := j) (by simpa using hi) (by simpa using hj)
  simpa [Array.perm_iff_toList_perm] using this
/-! Heaps. -/
def pa (i : Nat) : Nat := (i - 1) / 2
def Hp (n : Nat) (h : List Mt) : Prop := ∀ i, 0 < i → i < n → btr (el h (pa i)) (el h i) = false
structure UpJ (n : Nat) (h : List Mt) (j : Nat) : Prop where
  len : n = h.length
  lt : j < n
  inv : ∀ i, 0 < i → i < n → i ≠ j → btr (el h (pa i)) (el h i) = false
  gra : ∀ c, 0 < c → c < n → pa c = j → 0 < j → btr (el h (pa j)) (el h c) = false
theorem UpJ.step {n : Nat} {h : List Mt} {j : Nat} (J : UpJ n h j) (h0 : 0 < j) (hb : btr (el h (pa j)) (el h j) = true) : UpJ n (swp h (pa j) j) (pa j) := by
  have hl := J.len
  have hj := J.lt
  have hpj : pa j < j := by unfold pa; omega
  have S := fun k => el_swp h (pa j) j k (by omega) (by omega)
  refine ⟨by rw [swp_len]; exact hl, by omega, fun k k0 kn kne => ?_, fun c c0 cn cp p0 => ?_⟩
  · have hpk : pa k < k := by unfold pa; omega
    rw [S k, S (pa k)]
    by_cases e1 : k = j
    · subst e1
      rw [if_pos rfl, if_neg (by omega), if_pos rfl]
      exact asy hb
    · rw [if_neg e1]
      rw [if_neg kne]
      by_cases e2 : pa k = j
      · rw [if_pos e2]
        exact J.gra k k0 kn e2 h0
      · rw [if_neg e2]
        by_cases e3 : pa k = pa j
        · rw [if_pos e3]
          have h1 := J.inv k k0 kn e1
          rw [e3] at h1
          cases e : btr (el h j) (el h k)
          · rfl
          · have := btr_sto.2 _ _ _ hb e; rw [h1] at this; cases this
        · rw [if_neg e3]
          exact J.inv k k0 kn e1
  · have hpp : pa (pa j) < pa j := by unfold pa at *; omega
    rw [S c, S (pa (pa j)), if_neg (by omega), if_neg (by omega)]
    have h1 := J.inv (pa j) p0 (by omega) (by omega)
    by_cases e1 : c = j
    · rw [if_pos e1]; exact h1
    · rw [if_neg e1, if_neg (by intro e; rw [e] at cp; omega)]
      have h2 := J.inv c c0 cn e1
      rw [cp] at h2
      exact nlt_trans h1 h2
theorem UpJ.stop {n : Nat} {h : List Mt} {j : Nat} (J : UpJ n h j) (hb : j = 0 ∨ btr (el h (pa j)) (el h j) = false) : Hp n h := by
  intro i i0 hi
  by_cases e : i = j
  · subst e
    rcases hb with e | hb
    · omega
    · exact hb
  · exact J.inv i i0 hi e
theorem UpJ.start {h : List Mt} {x : Mt} (H : Hp h.length h) : UpJ (h.length + 1) (h ++ [x]) h.length := by
  have E : ∀ k, k < h.length → el (h ++ [x]) k = el h k := fun k hk => by unfold el; rw [List.getElem?_append_left hk]
  refine ⟨by simp, by omega, fun i i0 hi hne => ?_, fun c c0 cn cp p0 => ?_⟩
  · rw [E i (by omega), E (pa i) (by unfold pa; omega)]
    exact H i i0 (by omega)
  · exfalso; unfold pa at cp; omega
structure DnJ (n : Nat) (h : List Mt) (i : Nat) : Prop where
  len : n ≤ h.length
  inv : ∀ k, 0 < k → k < n → pa k ≠ i → btr (el h (pa k)) (el h k) = false
  gra : ∀ c, 0 < c → c < n → pa c = i → 0 < i → btr (el h (pa i)) (el h c) = false
/-- The child that is the worst one. -/
structure Chi (n : Nat) (h : List Mt) (i j : Nat) : Prop where
  lt : j < n
  of : pa j = i
  pos : 0 < j
  wor : ∀ c, 0 < c → c < n → pa c = i → btr (el h j) (el h c) = false
theorem chi_one {n : Nat} {h : List Mt} {i : Nat} (h1 : 2 * i + 1 < n) (h2 : n ≤ 2 * i + 2 ∨ btr (el h (2 * i + 1)) (el h (2 * i + 2)) = false) : Chi n h i (2 * i + 1) := by
  refine ⟨h1, by unfold pa; omega, by omega, fun c c0 cn cp => ?_⟩
  have : c = 2 * i + 1 ∨ c = 2 * i + 2 := by unfold pa at cp; omega
  rcases this with rfl | rfl
  · exact btr_sto.1 _
  · rcases h2 with h2 | h2
    · omega
    · exact h2
theorem chi_two {n : Nat} {h : List Mt} {i : Nat} (h1 : 2 * i + 2 < n) (h2 : btr (el h (2 * i + 1)) (el h (2 * i + 2)) = true) : Chi n h i (2 * i + 2) := by
  refine ⟨h1, by unfold pa; omega, by omega, fun c c0 cn cp => ?_⟩
  have : c = 2 * i + 1 ∨ c = 2 * i + 2 := by unfold pa at cp; omega
  rcases this with rfl | rfl
  · exact asy h2
  · exact btr_sto.1 _
theorem DnJ.step {n : Nat} {h : List Mt} {i j : Nat} (J : DnJ n h i) (C : Chi n h i j) (hb : btr (el h i) (el h j) = true) : DnJ n (swp h i j) j := by
  have hl := J.len
  have hj := C.lt
  have hij : i < j := by have := C.of; have := C.pos; unfold pa at *; omega
  have S := fun k => el_swp h i j k (by omega) (by omega)
  refine ⟨by rw [swp_len]; exact hl, fun k k0 kn kne => ?_, fun c c0 cn cp p0 => ?_⟩
  · have hpk : pa k < k := by unfold pa; omega
    rw [S k, S (pa k), if_neg kne]
    by_cases e1 : k = j
    · subst e1
      rw [if_pos C.of, if_pos rfl]
      exact asy hb
    · rw [if_neg e1]
      by_cases e2 : k = i
      · subst e2
        rw [if_neg (by omega), if_pos rfl]
        exact J.gra j C.pos hj C.of k0
      · rw [if_neg e2]
        by_cases e3 : pa k = i
        · rw [if_pos e3]; exact C.wor k k0 kn e3
        · rw [if_neg e3]; exact J.inv k k0 kn e3
  · have hjc : j < c := by unfold pa at cp; omega
    rw [S c, S (pa j), C.of, if_neg (by omega), if_pos rfl, if_neg (by omega), if_neg (by omega)]
    have := J.inv c c0 cn (by omega)
    rw [cp] at this
    exact this
theorem DnJ.leaf {n : Nat} {h : List Mt} {i : Nat} (J : DnJ n h i) (hn : n ≤ 2 * i + 1) : Hp n h := by
  intro k k0 kn
  exact J.inv k k0 kn (by unfold pa; omega)
theorem DnJ.stop {n : Nat} {h : List Mt} {i j : Nat} (J : DnJ n h i) (C : Chi n h i j) (hb : btr (el h i) (el h j) = false) : Hp n h := by
  intro k k0 kn
  by_cases e : pa k = i
  · rw [e]; exact nlt_trans hb (C.wor k k0 kn e)
  · exact J.inv k k0 kn e
/-- Behind 'Swap(0, n)', n the last one. -/
theorem DnJ.start {n : Nat} {h : List Mt} (hl : h.length = n + 1) (H : Hp (n + 1) h) : DnJ n (swp h 0 n) 0 := by
  have S := fun k => el_swp h 0 n k (by omega) (by omega)
  refine ⟨by rw [swp_len]; omega, fun k k0 kn kne => ?_, fun c c0 cn cp p0 => absurd p0 (Nat.lt_irrefl _)⟩
  have hpk : pa k < k := by unfold pa; omega
  rw [S k, S (pa k), if_neg (by omega), if_neg kne, if_neg (by omega), if_neg (by omega)]
  exact H k k0 (by omega)
theorem Hp.root {n : Nat} {h : List Mt} (H : Hp n h) : ∀ k, k < n → btr (el h 0) (el h k) = false := by
  intro k
  induction k using Nat.strongRecOn with
  | ind k ih =>
    intro hk
    by_cases e : k = 0
    · subst e; exact btr_sto.1 _
    · have hp : pa k < k := by unfold pa; omega
      exact nlt_trans (ih (pa k) hp (by omega)) (H k (by omega) hk)
theorem Hp.take {n : Nat} {h : List Mt} (H : Hp n h) : Hp n (h.take n) := by
  intro i i0 hi
  have E : ∀ k, k < n → el (h.take n) k = el h k := fun k hk => by unfold el; rw [List.getElem?_take, if_pos hk]
  rw [E i hi, E (pa i) (by unfold pa; omega)]
  exact H i i0 hi
theorem split_last {n : Nat} {h : List Mt} (hl : h.length = n + 1) : h = h.take n ++ [el h n] := by
  apply List.ext_getElem?
  intro k
  by_cases hk : k < n
  · rw [List.getElem?_append_left (by rw [List.length_take]; omega), List.getElem?_take, if_pos hk]
  · by_cases e : k = n
    · subst e
      rw [List.getElem?_append_right (by rw [List.length_take]; omega), List.length_take, el_get (by omega)]
      simp [Nat.min_eq_left (by omega : k ≤ h.length)]
    · rw [List.getElem?_eq_none (by omega), List.getElem?_eq_none (by rw [List.length_append, List.length_take]; simp; omega)]
/-- What Pop comes to: h1 is the row behind 'down', which has left place n alone. -/
theorem popped {n : Nat} {h h1 : List Mt} (hl : h.length = n + 1) (hp : h1.Perm (swp h 0 n)) (hk : el h1 n = el (swp h 0 n) n) : (el h 0 :: h1.take n).Perm h ∧ el h1 n = el h 0 := by
  have hl1 : h1.length = n + 1 := by rw [hp.length_eq, swp_len, hl]
  have e0 : el h1 n = el h 0 := by rw [hk, el_swp h 0 n n (by omega) (by omega), if_pos rfl]
  refine ⟨?_, e0⟩
  have e1 := split_last hl1
  rw [e0] at e1
  have p1 : (h1.take n ++ [el h 0]).Perm h := by rw [← e1]; exact hp.trans (swp_perm h 0 n (by omega) (by omega))
  exact (List.perm_append_singleton _ _).symm.trans p1
end Bt
end Go.Proofs.Ytmpfcdffpjocnaa
