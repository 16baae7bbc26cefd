/- Two rows in order, one behind the other, made one: plain mathematics of a stable merge by turning. No program is named here. -/
import Derived.Test.YtmpfcdffpjocnaaPMath
import Derived.Sort.LotA
namespace Go.Proofs.Ytmpfcdffpjocnaa.Pm
open Go.Sort

section
variable {α : Type}
/-- A list cut at a place. -/
theorem cut_at (l : List α) (n : Nat) (h : n ≤ l.length) : ∃ a b, l = a ++ b ∧ a.length = n := ⟨l.take n, l.drop n, (List.take_append_drop n l).symm, by simp; omega⟩
theorem cut_one (l : List α) (n : Nat) (h : n < l.length) : ∃ a x b, l = a ++ x :: b ∧ a.length = n := by
  refine ⟨l.take n, l[n], l.drop (n + 1), ?_, by simp; omega⟩
  rw [← List.drop_eq_getElem_cons h, List.take_append_drop]
theorem cut_last (l : List α) (h : 0 < l.length) : ∃ a x, l = a ++ [x] := by
  obtain ⟨a, x, b, e, hl⟩ := cut_one l (l.length - 1) (by omega)
  have h2 : l.length = a.length + (b.length + 1) := by rw [e]; simp
  have : b = [] := List.eq_nil_of_length_eq_zero (by omega)
  exact ⟨a, x, by rw [e, this]⟩
end
section
variable {κ : Type} {less : κ → κ → Bool}
/-- Where the last of the one row is not behind the first of the other none is. -/
theorem up_le (o : STO less) {L R : List (κ × Int)} {x y : κ × Int} (hL : Up less (L ++ [x])) (hR : Up less (y :: R)) (h : less y.1 x.1 = false) : ∀ u ∈ L ++ [x], ∀ v ∈ y :: R, less v.1 u.1 = false := by
  obtain ⟨_, _, pL⟩ := List.pairwise_append.1 hL
  obtain ⟨pR, _⟩ := List.pairwise_cons.1 hR
  have hux : ∀ u ∈ L ++ [x], less y.1 u.1 = false := fun u hu => by
    rcases List.mem_append.1 hu with a | a
    · exact o.ntr (pL u a x (List.mem_singleton.2 rfl)) h
    · rw [List.mem_singleton.1 a]; exact h
  intro u hu v hv
  rcases List.mem_cons.1 hv with rfl | b
  · exact hux u hu
  · exact o.ntr (hux u hu) (pR v b)
theorem up_lt (o : STO less) {L R : List (κ × Int)} {x y : κ × Int} (hR : Up less (R ++ [y])) (hL : Up less (x :: L)) (h : less y.1 x.1 = true) : ∀ u ∈ R ++ [y], ∀ v ∈ x :: L, less u.1 v.1 = true := by
  obtain ⟨_, _, pR⟩ := List.pairwise_append.1 hR
  obtain ⟨pL, _⟩ := List.pairwise_cons.1 hL
  have hux : ∀ u ∈ R ++ [y], less u.1 x.1 = true := fun u hu => by
    rcases List.mem_append.1 hu with a | a
    · have h1 := pR u a y (List.mem_singleton.2 rfl)
      cases e : less u.1 x.1 with
      | true => rfl
      | false => have := o.ntr e h1; rw [h] at this; cases this
    · rw [List.mem_singleton.1 a]; exact h
  intro u hu v hv
  rcases List.mem_cons.1 hv with rfl | b
  · exact hux u hu
  · have h1 := pL v b
    have h2 := hux u hu
    cases e : less u.1 v.1 with
    | true => rfl
    | false => have := o.ntr h1 e; rw [h2] at this; cases this
end
section
variable {α : Type} [Inhabited α]
/-- Two elements exchanged. -/
theorem swp_list (P Q S : List α) (x y : α) : swp (P ++ x :: (Q ++ y :: S)).toArray P.length (P.length + 1 + Q.length) = (P ++ y :: (Q ++ x :: S)).toArray := by
  have e1 : (P ++ x :: (Q ++ y :: S)).toArray[P.length]! = x := by simp
  have e2 : (P ++ x :: (Q ++ y :: S)).toArray[P.length + 1 + Q.length]! = y := by
    simp [Nat.add_assoc, Nat.add_comm 1]
  unfold swp
  rw [e1, e2]
  apply Array.ext'
  simp only [List.setIfInBounds_toArray]
  rw [List.set_append_right _ _ (Nat.le_refl _), Nat.sub_self, List.set_cons_zero, List.set_append_right _ _ (by omega), show P.length + 1 + Q.length - P.length = Q.length + 1 by omega, List.set_cons_succ, List.set_append_right _ _ (Nat.le_refl _), Nat.sub_self, List.set_cons_zero]
theorem get_mid (P S : List α) (x : α) : (P ++ x :: S).toArray[P.length]! = x := by simp
theorem get_at (l P S : List α) (x : α) (i : Nat) (h : l = P ++ x :: S) (hi : i = P.length) : l.toArray[i]! = x := by subst h; subst hi; exact get_mid P S x
theorem swp_at (l P Q S : List α) (x y : α) (i j : Nat) (h : l = P ++ x :: (Q ++ y :: S)) (hi : i = P.length) (hj : j = P.length + 1 + Q.length) : swp l.toArray i j = (P ++ y :: (Q ++ x :: S)).toArray := by subst h; subst hi; subst hj; exact swp_list P Q S x y
end

variable {κ : Type} [DecidableEq κ] {less : κ → κ → Bool}
theorem Stably.self {l : List (κ × Int)} (h : Up less l) : Stably less l l := ⟨h, fun _ => rfl⟩
theorem Stably.trans {a b c : List (κ × Int)} (h1 : ∀ k, of k b = of k a) (h2 : Stably less b c) : Stably less a c := ⟨h2.1, fun k => (h2.2 k).trans (h1 k)⟩
theorem of_mem {k : κ} {l : List (κ × Int)} {x : κ × Int} : x ∈ of k l ↔ x ∈ l ∧ x.1 = k := by simp [of]
theorem mem_of_same {a b : List (κ × Int)} (h : ∀ k, of k b = of k a) {x : κ × Int} (hx : x ∈ b) : x ∈ a := by
  have : x ∈ of x.1 b := of_mem.2 ⟨hx, rfl⟩
  rw [h] at this
  exact (of_mem.1 this).1
theorem of_len (a : List (κ × Int)) : ∀ b : List (κ × Int), (∀ k, of k b = of k a) → b.length = a.length := by
  induction a with
  | nil =>
    intro b h
    cases b with
    | nil => rfl
    | cons x r => have := h x.1; rw [of_cons_same] at this; cases this
  | cons y a ih =>
    intro b h
    have hy : y ∈ b := by
      have : y ∈ of y.1 b := by rw [h, of_cons_same]; exact List.mem_cons_self ..
      exact (of_mem.1 this).1
    -- the first pair of y's word in b is y: take it out
    have key : ∀ b : List (κ × Int), of y.1 b = y :: of y.1 a → ∃ p q, b = p ++ y :: q ∧ of y.1 p = [] ∧ of y.1 q = of y.1 a := by
      intro b
      induction b with
      | nil => intro h; cases h
      | cons z r ih2 =>
        intro h
        by_cases hz : z.1 = y.1
        · rw [← hz, of_cons_same, hz] at h
          simp only [List.cons.injEq] at h
          obtain ⟨rfl, h2⟩ := h
          exact ⟨[], r, rfl, rfl, h2⟩
        · rw [of_cons_ne hz] at h
          obtain ⟨p, q, rfl, h1, h2⟩ := ih2 h
          exact ⟨z :: p, q, rfl, by rw [of_cons_ne hz]; exact h1, h2⟩
    obtain ⟨p, q, rfl, h1, h2⟩ := key b (by rw [h, of_cons_same])
    have hpq : ∀ k, of k (p ++ q) = of k a := fun k => by
      by_cases hk : y.1 = k
      · subst hk; rw [of_append, h1, h2]; rfl
      · have := h k
        rw [of_append, of_cons_ne hk, of_cons_ne hk] at this
        rw [of_append]; exact this
    have := ih (p ++ q) hpq
    simp at this ⊢
    omega
theorem Stably.len {a b : List (κ × Int)} (h : Stably less a b) : b.length = a.length := of_len a b h.2
/-- Rows of which every word of the one is ahead of every word of the other may change places. -/
theorem of_comm (o : STO less) {x y : List (κ × Int)} (h : ∀ u ∈ x, ∀ v ∈ y, less u.1 v.1 = true) (k : κ) : of k (x ++ y) = of k (y ++ x) := by
  rw [of_append, of_append]
  cases e : of k x with
  | nil => simp
  | cons u r =>
    have hu : u ∈ of k x := by rw [e]; exact List.mem_cons_self ..
    have e2 : of k y = [] := by
      cases e3 : of k y with
      | nil => rfl
      | cons v s =>
        have hv : v ∈ of k y := by rw [e3]; exact List.mem_cons_self ..
        obtain ⟨u1, u2⟩ := of_mem.1 hu
        obtain ⟨v1, v2⟩ := of_mem.1 hv
        have := h u u1 v v1
        rw [u2, v2, o.irr] at this
        cases this
    rw [e2]; simp
/-- The merge of two halves: what is left of the middle, and what is right of it. -/
theorem Stably.join {a b c d : List (κ × Int)} (h1 : Stably less a c) (h2 : Stably less b d) (h : ∀ x ∈ a, ∀ y ∈ b, less y.1 x.1 = false) : Stably less (a ++ b) (c ++ d) := by
  refine ⟨List.pairwise_append.2 ⟨h1.1, h2.1, fun x hx y hy => h x (mem_of_same h1.2 hx) y (mem_of_same h2.2 hy)⟩, fun k => ?_⟩
  rw [of_append, of_append, h1.2, h2.2]
/-- One pair laid into a row that is in order, from its left. -/
theorem insert_left (o : STO less) {x : κ × Int} {a b : List (κ × Int)} (hup : Up less (a ++ b)) (h1 : ∀ u ∈ a, less u.1 x.1 = true) (h2 : ∀ u ∈ b, less u.1 x.1 = false) : Stably less (x :: (a ++ b)) (a ++ x :: b) := by
  obtain ⟨p1, p2, p3⟩ := List.pairwise_append.1 hup
  refine ⟨List.pairwise_append.2 ⟨p1, List.pairwise_cons.2 ⟨h2, p2⟩, fun u hu v hv => ?_⟩, fun k => ?_⟩
  · rcases List.mem_cons.1 hv with rfl | hv
    · exact o.asymm (h1 u hu)
    · exact p3 u hu v hv
  · have := of_comm o (x := a) (y := [x]) (fun u hu v hv => by rw [List.mem_singleton.1 hv]; exact h1 u hu) k
    rw [show a ++ x :: b = (a ++ [x]) ++ b by simp, show x :: (a ++ b) = ([x] ++ a) ++ b by simp, of_append, this, ← of_append]
/-- One pair laid into a row that is in order, from its right. -/
theorem insert_right (o : STO less) {y : κ × Int} {a b : List (κ × Int)} (hup : Up less (a ++ b)) (h1 : ∀ u ∈ a, less y.1 u.1 = false) (h2 : ∀ u ∈ b, less y.1 u.1 = true) : Stably less (a ++ b ++ [y]) (a ++ y :: b) := by
  obtain ⟨p1, p2, p3⟩ := List.pairwise_append.1 hup
  refine ⟨List.pairwise_append.2 ⟨p1, List.pairwise_cons.2 ⟨fun u hu => o.asymm (h2 u hu), p2⟩, fun u hu v hv => ?_⟩, fun k => ?_⟩
  · rcases List.mem_cons.1 hv with rfl | hv
    · exact h1 u hu
    · exact p3 u hu v hv
  · have := of_comm o (x := [y]) (y := b) (fun u hu v hv => by rw [List.mem_singleton.1 hu]; exact h2 v hv) k
    rw [show a ++ y :: b = a ++ ([y] ++ b) by simp, show a ++ b ++ [y] = a ++ (b ++ [y]) by simp, of_append, this, ← of_append]
/-- The turn in the middle: L1 L2 R1 R2 becomes L1 R1 and L2 R2, and each is merged. -/
theorem turned (o : STO less) {L1 L2 R1 R2 X Y : List (κ × Int)} (hL : Up less (L1 ++ L2)) (hR : Up less (R1 ++ R2)) (h1 : ∀ u ∈ L1, ∀ v ∈ R2, less v.1 u.1 = false) (h2 : ∀ u ∈ R1, ∀ v ∈ L2, less u.1 v.1 = true)
    (hX : Stably less (L1 ++ R1) X) (hY : Stably less (L2 ++ R2) Y) : Stably less (L1 ++ L2 ++ (R1 ++ R2)) (X ++ Y) := by
  refine Stably.trans (b := L1 ++ R1 ++ (L2 ++ R2)) (fun k => ?_) (hX.join hY fun x hx y hy => ?_)
  · have := of_comm o h2 k
    simp only [of_append, List.append_assoc] at this ⊢
    rw [← List.append_assoc (of k R1), this, List.append_assoc]
  · obtain ⟨_, _, pL⟩ := List.pairwise_append.1 hL
    obtain ⟨_, _, pR⟩ := List.pairwise_append.1 hR
    rcases List.mem_append.1 hx with a | a <;> rcases List.mem_append.1 hy with b | b
    · exact pL x a y b
    · exact h1 x a y b
    · exact o.asymm (h2 x a y b)
    · exact pR x a y b
end Go.Proofs.Ytmpfcdffpjocnaa.Pm
