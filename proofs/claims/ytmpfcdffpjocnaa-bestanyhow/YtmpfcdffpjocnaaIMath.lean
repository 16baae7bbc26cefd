/- The insertion sort is stable: plain mathematics. No program is named here. -/
import Derived.Test.YtmpfcdffpjocnaaSMath
namespace Go.Proofs.Ytmpfcdffpjocnaa.Pm
open Go.Sort

theorem swp_adj {α : Type} [Inhabited α] (P S : List α) (x y : α) : swp (P ++ x :: y :: S).toArray (P.length + 1) P.length = (P ++ y :: x :: S).toArray := by
  have e1 : (P ++ x :: y :: S).toArray[P.length]! = x := by simp
  have e2 : (P ++ x :: y :: S).toArray[P.length + 1]! = y := by simp
  unfold swp
  rw [e1, e2]
  apply Array.ext'
  simp only [List.setIfInBounds_toArray]
  rw [List.set_append_right _ _ (by omega), show P.length + 1 - P.length = 1 by omega, List.set_append_right _ _ (Nat.le_refl _), Nat.sub_self]
  rfl
section
variable {κ : Type} {less : κ → κ → Bool}
/-- One pair is ahead of another one. -/
def plt (less : κ → κ → Bool) (x y : κ × Int) : Bool := less x.1 y.1
theorem plt_swo (o : STO less) : SWO (plt less) := ⟨fun _ => o.irr _, fun _ _ _ h1 h2 => o.tr _ _ _ h1 h2, fun _ _ _ h1 h2 => o.ntr h2 h1⟩
end
variable {κ : Type} [DecidableEq κ] [Inhabited κ] {less : κ → κ → Bool}
theorem insInner_of (o : STO less) (a : Nat) : ∀ (j : Nat) (d : Array (κ × Int)), j < d.size → (insInner (plt less) a j d).size = d.size ∧ ∀ k, of k (insInner (plt less) a j d).toList = of k d.toList
  | 0, d, _ => ⟨rfl, fun _ => rfl⟩
  | j + 1, d, hj => by
    unfold insInner
    split
    · next h =>
      obtain ⟨l⟩ := d
      have hj' : j + 1 < l.length := by simpa using hj
      obtain ⟨P, x, T, e, hl⟩ := cut_one l j (by omega)
      have hT : T ≠ [] := fun h => by rw [e, h] at hj'; simp at hj'; omega
      cases T with
      | nil => exact absurd rfl hT
      | cons y S =>
        subst e
        subst hl
        have g1 : (P ++ x :: y :: S).toArray[P.length + 1]! = y := by simp
        have g2 : (P ++ x :: y :: S).toArray[P.length]! = x := by simp
        have hlt : less y.1 x.1 = true := by
          simp only [Bool.and_eq_true, decide_eq_true_eq] at h
          have := h.2
          rw [g1, g2] at this
          exact this
        rw [swp_adj]
        obtain ⟨i1, i2⟩ := insInner_of o a P.length (P ++ y :: x :: S).toArray (by simp)
        refine ⟨by rw [i1]; simp, fun k => ?_⟩
        rw [i2]
        have := of_comm o (x := [y]) (y := [x]) (fun u hu v hv => by rw [List.mem_singleton.1 hu, List.mem_singleton.1 hv]; exact hlt) k
        show of k (P ++ ([y, x] ++ S)) = of k (P ++ ([x, y] ++ S))
        rw [of_append, of_append k [y, x], of_append, of_append k [x, y]]
        rw [show [y, x] = [y] ++ [x] from rfl, show [x, y] = [x] ++ [y] from rfl, this]
    · exact ⟨rfl, fun _ => rfl⟩
theorem insOuter_of (o : STO less) (a b : Nat) : ∀ (n i : Nat) (d : Array (κ × Int)), b - i = n → b ≤ d.size → ∀ k, of k (insOuter (plt less) a b i d).toList = of k d.toList
  | 0, i, d, h, _, k => by rw [insOuter, if_neg (by omega)]
  | n + 1, i, d, h, hb, k => by
    obtain ⟨i1, i2⟩ := insInner_of o a i d (by omega)
    rw [insOuter, if_pos (by omega), insOuter_of o a b n (i + 1) _ (by omega) (by rw [i1]; exact hb), i2]
theorem ins_list (o : STO less) (A X B : List (κ × Int)) : ∃ X', insertionSort (plt less) (A ++ (X ++ B)).toArray A.length (A.length + X.length) = (A ++ (X' ++ B)).toArray ∧ Stably less X X' := by
  obtain ⟨⟨h1, h2, _⟩, h3⟩ := insertionSort_holds (lt := plt less) (plt_swo o) (A ++ (X ++ B)).toArray A.length (A.length + X.length) (by omega) (by simp)
  have hof := insOuter_of o A.length (A.length + X.length) _ (A.length + 1) (A ++ (X ++ B)).toArray rfl (by simp)
  change ∀ k, of k (insertionSort (plt less) (A ++ (X ++ B)).toArray A.length (A.length + X.length)).toList = _ at hof
  generalize insertionSort (plt less) (A ++ (X ++ B)).toArray A.length (A.length + X.length) = d at h1 h2 h3 hof ⊢
  obtain ⟨l⟩ := d
  have hl : l.length = A.length + (X.length + B.length) := by simpa using h1
  obtain ⟨A', r, rfl, hA⟩ := cut_at l A.length (by omega)
  have hr : r.length = X.length + B.length := by simp at hl; omega
  obtain ⟨X', B', rfl, hX⟩ := cut_at r X.length (by omega)
  have hB : B'.length = B.length := by simp at hr; omega
  have eA : A' = A := by
    refine List.ext_getElem hA fun i p q => ?_
    have := h2 i (.inl q)
    simpa [List.getElem?_append_left p, List.getElem?_append_left q, p, q] using this
  have eB : B' = B := by
    refine List.ext_getElem hB fun i p q => ?_
    have := h2 (A.length + X.length + i) (.inr (by omega))
    rw [eA] at this
    simpa [List.getElem?_append_right, hX, Nat.add_assoc, p, q] using this
  subst eA
  subst eB
  refine ⟨X', rfl, ?_, fun k => ?_⟩
  · refine List.pairwise_iff_getElem.2 fun i j hi hj hij => ?_
    have := h3 (A'.length + i) (A'.length + j) (by omega) (by omega) (by omega)
    simpa [plt, List.getElem?_append_right, List.getElem?_append_left hi, List.getElem?_append_left hj, hi, hj] using this
  · have := hof k
    simp only [of_append, List.append_cancel_left_eq, List.append_cancel_right_eq] at this
    exact this
end Go.Proofs.Ytmpfcdffpjocnaa.Pm
