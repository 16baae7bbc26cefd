/- Texts that were written apart, joined. -/
import Derived.WalkKit
import Derived.Sort.LotA
/- Words and weights in order, and changes of them: plain mathematics over any order of words. No program is named here. -/
namespace Go.Proofs.YthfngcpcccbnpaaDoor.Pm

/-- A strict order in which any two are ordered. -/
structure STO {κ : Type} (less : κ → κ → Bool) : Prop where
  irr : ∀ a, less a a = false
  tr : ∀ a b c, less a b = true → less b c = true → less a c = true
  tot : ∀ a b, less a b = false → less b a = false → a = b
section
variable {κ : Type} {less : κ → κ → Bool}
theorem STO.asymm (h : STO less) {a b : κ} (hab : less a b = true) : less b a = false := by
  cases e : less b a with
  | false => rfl
  | true => have := h.tr a b a hab e; rw [h.irr] at this; cases this
theorem STO.ne (h : STO less) {a b : κ} (hab : less a b = true) : a ≠ b := fun e => by subst e; rw [h.irr] at hab; cases hab

/-- The words rise. -/
def Up (less : κ → κ → Bool) (l : List (κ × Int)) : Prop := l.Pairwise fun x y => less y.1 x.1 = false
/-- The words rise strictly. -/
def SUp (less : κ → κ → Bool) (l : List (κ × Int)) : Prop := l.Pairwise fun x y => less x.1 y.1 = true
theorem SUp.up (o : STO less) {l : List (κ × Int)} (h : SUp less l) : Up less l := h.imp fun h => o.asymm h
/-- Without the pairs whose weight is 0. -/
def keep (l : List (κ × Int)) : List (κ × Int) := l.filter fun x => !(x.2 == 0)
/-- The changes, going through both lists at once. -/
def dif (less : κ → κ → Bool) : List (κ × Int) → List (κ × Int) → List (κ × Int)
  | [], y => y
  | x :: a, [] => (x.1, 0) :: dif less a []
  | x :: a, y :: b => if less x.1 y.1 then (x.1, 0) :: dif less a (y :: b) else if less y.1 x.1 then y :: dif less (x :: a) b else if x.2 = y.2 then dif less a b else y :: dif less a b
termination_by a b => a.length + b.length
end
variable {κ : Type} [DecidableEq κ] {less : κ → κ → Bool}
/-- The pairs of one word, in their order. -/
def of (k : κ) (l : List (κ × Int)) : List (κ × Int) := l.filter fun x => decide (x.1 = k)
theorem of_append (k : κ) (a b : List (κ × Int)) : of k (a ++ b) = of k a ++ of k b := List.filter_append ..
theorem of_cons_same (x : κ × Int) (l : List (κ × Int)) : of x.1 (x :: l) = x :: of x.1 l := by simp [of]
theorem of_cons_ne {k : κ} {x : κ × Int} (h : x.1 ≠ k) (l : List (κ × Int)) : of k (x :: l) = of k l := by simp [of, h]
/-- The last weight of a word. -/
def find (l : List (κ × Int)) (k : κ) : Option Int := ((of k l).getLast?).map Prod.snd
theorem find_append (a b : List (κ × Int)) (k : κ) : find (a ++ b) k = (find b k).or (find a k) := by
  unfold find
  rw [of_append, List.getLast?_append]
  cases (of k b).getLast? <;> simp
theorem find_one (x : κ × Int) (k : κ) : find [x] k = if x.1 = k then some x.2 else none := by
  unfold find of
  by_cases h : x.1 = k <;> simp [h]
theorem find_cons (x : κ × Int) (l : List (κ × Int)) (k : κ) : find (x :: l) k = (find l k).or (if x.1 = k then some x.2 else none) := by
  rw [← List.singleton_append, find_append, find_one]
theorem find_none_of {l : List (κ × Int)} {k : κ} (h : ∀ x ∈ l, x.1 ≠ k) : find l k = none := by
  induction l with
  | nil => rfl
  | cons x r ih => rw [find_cons, ih fun y hy => h y (List.mem_cons_of_mem _ hy), if_neg (h x (List.mem_cons_self ..))]; rfl
theorem find_mem {l : List (κ × Int)} {k : κ} {v : Int} (h : find l k = some v) : (k, v) ∈ l := by
  induction l with
  | nil => cases h
  | cons x r ih =>
    rw [find_cons] at h
    cases e : find r k with
    | some u => rw [e] at h; simp at h; subst h; exact List.mem_cons_of_mem _ (ih e)
    | none =>
      rw [e] at h
      by_cases hk : x.1 = k
      · simp [hk] at h; subst hk; subst h; exact List.mem_cons_self ..
      · simp [hk] at h

theorem SUp.find_of_mem (o : STO less) {l : List (κ × Int)} (h : SUp less l) {x : κ × Int} (hx : x ∈ l) : find l x.1 = some x.2 := by
  induction l with
  | nil => cases hx
  | cons y r ih =>
    obtain ⟨h1, h2⟩ := List.pairwise_cons.1 h
    rw [find_cons]
    rcases List.mem_cons.1 hx with rfl | hm
    · rw [find_none_of fun z hz => (o.ne (h1 z hz)).symm]; simp
    · rw [ih h2 hm]; rfl
theorem SUp.ext (o : STO less) : ∀ {a b : List (κ × Int)}, SUp less a → SUp less b → (∀ k, find a k = find b k) → a = b
  | [], [], _, _, _ => rfl
  | [], y :: b, _, h2, h => by
    have := h y.1
    rw [SUp.find_of_mem o h2 (List.mem_cons_self ..)] at this
    cases this
  | x :: a, [], h1, _, h => by
    have := h x.1
    rw [SUp.find_of_mem o h1 (List.mem_cons_self ..)] at this
    cases this
  | x :: a, y :: b, h1, h2, h => by
    obtain ⟨p1, p2⟩ := List.pairwise_cons.1 h1
    obtain ⟨q1, q2⟩ := List.pairwise_cons.1 h2
    have e1 := h x.1
    have e2 := h y.1
    rw [SUp.find_of_mem o h1 (List.mem_cons_self ..)] at e1
    rw [SUp.find_of_mem o h2 (List.mem_cons_self ..)] at e2
    have m1 := find_mem e1.symm
    have m2 := find_mem e2
    have hxy : x = y := by
      rcases List.mem_cons.1 m1 with c | c
      · rw [← c]
      · rcases List.mem_cons.1 m2 with d | d
        · rw [← d]
        · have := o.tr _ _ _ (p1 _ d) (q1 _ c); simp [o.irr] at this
    subst hxy
    congr 1
    refine SUp.ext o p2 q2 fun k => ?_
    have hk := h k
    rw [find_cons, find_cons] at hk
    by_cases hx : x.1 = k
    · subst hx
      rw [find_none_of fun z hz => (o.ne (p1 z hz)).symm, find_none_of fun z hz => (o.ne (q1 z hz)).symm]
    · simpa [hx] using hk

/-- A list that is in order, in which the pairs of each word stand as in l. -/
def Stably (less : κ → κ → Bool) (l l' : List (κ × Int)) : Prop := Up less l' ∧ ∀ k, of k l' = of k l
theorem Stably.find {l l' : List (κ × Int)} (h : Stably less l l') (k : κ) : Pm.find l' k = Pm.find l k := by unfold Pm.find; rw [h.2]

/-- The list with one pair more in its place. -/
def putP (less : κ → κ → Bool) (p : κ × Int) : Bool → List (κ × Int) → List (κ × Int)
  | done, [] => if done then [] else [p]
  | done, x :: r => (if !done && !(less x.1 p.1) then [p] else []) ++ ((if x.1 ≠ p.1 then [x] else []) ++ putP less p (done || !(less x.1 p.1)) r)
def put (less : κ → κ → Bool) (l : List (κ × Int)) (p : κ × Int) : List (κ × Int) := putP less p false l
/-- Each word once, with its last weight, by rising words. -/
def norm (less : κ → κ → Bool) (l : List (κ × Int)) : List (κ × Int) := l.foldl (put less) []
def merge (less : κ → κ → Bool) (a b : List (κ × Int)) : List (κ × Int) := keep (norm less (a ++ b))
end Go.Proofs.YthfngcpcccbnpaaDoor.Pm

/- Two rows in order, one behind the other, made one: plain mathematics of a stable merge by turning. No program is named here. -/
namespace Go.Proofs.YthfngcpcccbnpaaDoor.Pm
open Go.Sort

section
variable {α : Type}
end
section
variable {κ : Type} {less : κ → κ → Bool}
end
section
variable {α : Type} [Inhabited α]
end

variable {κ : Type} [DecidableEq κ] {less : κ → κ → Bool}
theorem Stably.trans {a b c : List (κ × Int)} (h1 : ∀ k, of k b = of k a) (h2 : Stably less b c) : Stably less a c := ⟨h2.1, fun k => (h2.2 k).trans (h1 k)⟩
theorem of_mem {k : κ} {l : List (κ × Int)} {x : κ × Int} : x ∈ of k l ↔ x ∈ l ∧ x.1 = k := by simp [of]
theorem mem_of_same {a b : List (κ × Int)} (h : ∀ k, of k b = of k a) {x : κ × Int} (hx : x ∈ b) : x ∈ a := by
  have : x ∈ of x.1 b := of_mem.2 ⟨hx, rfl⟩
  rw [h] at this
  exact (of_mem.1 this).1
theorem of_len (a : List (κ × Int)) : ∀ b : List (κ × Int), (∀ k, of k b = of k a) → b.length = a.length := by
  induction a with
  | nil =>
    intro b h
    cases b with
    | nil => rfl
    | cons x r => have := h x.1; rw [of_cons_same] at this; cases this
  | cons y a ih =>
    intro b h
    have hy : y ∈ b := by
      have : y ∈ of y.1 b := by rw [h, of_cons_same]; exact List.mem_cons_self ..
      exact (of_mem.1 this).1
    -- the first pair of y's word in b is y: take it out
    have key : ∀ b : List (κ × Int), of y.1 b = y :: of y.1 a → ∃ p q, b = p ++ y :: q ∧ of y.1 p = [] ∧ of y.1 q = of y.1 a := by
      intro b
      induction b with
      | nil => intro h; cases h
      | cons z r ih2 =>
        intro h
        by_cases hz : z.1 = y.1
        · rw [← hz, of_cons_same, hz] at h
          simp only [List.cons.injEq] at h
          obtain ⟨rfl, h2⟩ := h
          exact ⟨[], r, rfl, rfl, h2⟩
        · rw [of_cons_ne hz] at h
          obtain ⟨p, q, rfl, h1, h2⟩ := ih2 h
          exact ⟨z :: p, q, rfl, by rw [of_cons_ne hz]; exact h1, h2⟩
    obtain ⟨p, q, rfl, h1, h2⟩ := key b (by rw [h, of_cons_same])
    have hpq : ∀ k, of k (p ++ q) = of k a := fun k => by
      by_cases hk : y.1 = k
      · subst hk; rw [of_append, h1, h2]; rfl
      · have := h k
        rw [of_append, of_cons_ne hk, of_cons_ne hk] at this
        rw [of_append]; exact this
    have := ih (p ++ q) hpq
    simp at this ⊢
    omega
theorem Stably.len {a b : List (κ × Int)} (h : Stably less a b) : b.length = a.length := of_len a b h.2
/-- Rows of which every word of the one is ahead of every word of the other may change places. -/
theorem of_comm (o : STO less) {x y : List (κ × Int)} (h : ∀ u ∈ x, ∀ v ∈ y, less u.1 v.1 = true) (k : κ) : of k (x ++ y) = of k (y ++ x) := by
  rw [of_append, of_append]
  cases e : of k x with
  | nil => simp
  | cons u r =>
    have hu : u ∈ of k x := by rw [e]; exact List.mem_cons_self ..
    have e2 : of k y = [] := by
      cases e3 : of k y with
      | nil => rfl
      | cons v s =>
        have hv : v ∈ of k y := by rw [e3]; exact List.mem_cons_self ..
        obtain ⟨u1, u2⟩ := of_mem.1 hu
        obtain ⟨v1, v2⟩ := of_mem.1 hv
        have := h u u1 v v1
        rw [u2, v2, o.irr] at this
        cases this
    rw [e2]; simp
/-- The merge of two halves: what is left of the middle, and what is right of it. -/
theorem Stably.join {a b c d : List (κ × Int)} (h1 : Stably less a c) (h2 : Stably less b d) (h : ∀ x ∈ a, ∀ y ∈ b, less y.1 x.1 = false) : Stably less (a ++ b) (c ++ d) := by
  refine ⟨List.pairwise_append.2 ⟨h1.1, h2.1, fun x hx y hy => h x (mem_of_same h1.2 hx) y (mem_of_same h2.2 hy)⟩, fun k => ?_⟩
  rw [of_append, of_append, h1.2, h2.2]
/-- The turn in the middle: L1 L2 R1 R2 becomes L1 R1 and L2 R2, and each is merged. -/
theorem turned (o : STO less) {L1 L2 R1 R2 X Y : List (κ × Int)} (hL : Up less (L1 ++ L2)) (hR : Up less (R1 ++ R2)) (h1 : ∀ u ∈ L1, ∀ v ∈ R2, less v.1 u.1 = false) (h2 : ∀ u ∈ R1, ∀ v ∈ L2, less u.1 v.1 = true)
    (hX : Stably less (L1 ++ R1) X) (hY : Stably less (L2 ++ R2) Y) : Stably less (L1 ++ L2 ++ (R1 ++ R2)) (X ++ Y) := by
  refine Stably.trans (b := L1 ++ R1 ++ (L2 ++ R2)) (fun k => ?_) (hX.join hY fun x hx y hy => ?_)
  · have := of_comm o h2 k
    simp only [of_append, List.append_assoc] at this ⊢
    rw [← List.append_assoc (of k R1), this, List.append_assoc]
  · obtain ⟨_, _, pL⟩ := List.pairwise_append.1 hL
    obtain ⟨_, _, pR⟩ := List.pairwise_append.1 hR
    rcases List.mem_append.1 hx with a | a <;> rcases List.mem_append.1 hy with b | b
    · exact pL x a y b
    · exact h1 x a y b
    · exact o.asymm (h2 x a y b)
    · exact pR x a y b
end Go.Proofs.YthfngcpcccbnpaaDoor.Pm
