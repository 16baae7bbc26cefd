/- How many edits lie between two lists of numbers. Plain lists; no program is named here. -/
import Derived.Test.YtfhmamalanloaaaDoorTexts
namespace Go.Proofs.YtfhmamalanloaaaDoor.Ed

def lv : List Int → List Int → Nat
  | [], ys => ys.length
  | _ :: xs, [] => xs.length + 1
  | x :: xs, y :: ys => min (lv xs ys + if x = y then 0 else 1) (min (lv xs (y :: ys) + 1) (lv (x :: xs) ys + 1))
termination_by xs ys => xs.length + ys.length

/-- One way of edits. -/
inductive Al : List Int → List Int → Nat → Prop
  | nil : Al [] [] 0
  | same {x : Int} {xs ys : List Int} {n : Nat} : Al xs ys n → Al (x :: xs) (x :: ys) n
  | sub {x y : Int} {xs ys : List Int} {n : Nat} : x ≠ y → Al xs ys n → Al (x :: xs) (y :: ys) (n + 1)
  | del {x : Int} {xs ys : List Int} {n : Nat} : Al xs ys n → Al (x :: xs) ys (n + 1)
  | ins {y : Int} {xs ys : List Int} {n : Nat} : Al xs ys n → Al xs (y :: ys) (n + 1)

theorem lv_left (ys : List Int) : lv [] ys = ys.length := by rw [lv]
theorem lv_right (xs : List Int) : lv xs [] = xs.length := by cases xs <;> rw [lv] <;> rfl
theorem lv_cons (x y : Int) (xs ys : List Int) : lv (x :: xs) (y :: ys) = min (lv xs ys + if x = y then 0 else 1) (min (lv xs (y :: ys) + 1) (lv (x :: xs) ys + 1)) := by rw [lv]

theorem lv_del (x : Int) (xs ys : List Int) : lv (x :: xs) ys ≤ lv xs ys + 1 := by
  cases ys with
  | nil => rw [lv_right, lv_right]; simp
  | cons y ys => rw [lv_cons]; omega
theorem lv_ins (y : Int) (xs ys : List Int) : lv xs (y :: ys) ≤ lv xs ys + 1 := by
  cases xs with
  | nil => rw [lv_left, lv_left]; simp
  | cons x xs => rw [lv_cons]; omega
theorem lv_al {xs ys : List Int} {n : Nat} (h : Al xs ys n) : lv xs ys ≤ n := by
  induction h with
  | nil => rw [lv_left]; simp
  | same _ ih => rw [lv_cons, if_pos rfl]; omega
  | sub hne _ ih => rw [lv_cons, if_neg hne]; omega
  | del _ ih => exact Nat.le_trans (lv_del _ _ _) (by omega)
  | ins _ ih => exact Nat.le_trans (lv_ins _ _ _) (by omega)
theorem al_left : ∀ ys : List Int, Al [] ys ys.length
  | [] => .nil
  | _ :: ys => .ins (al_left ys)
theorem al_right : ∀ xs : List Int, Al xs [] xs.length
  | [] => .nil
  | _ :: xs => .del (al_right xs)
theorem al_lv : ∀ (n : Nat) (xs ys : List Int), xs.length + ys.length ≤ n → Al xs ys (lv xs ys) := by
  intro n
  induction n with
  | zero =>
    intro xs ys h
    have e1 : xs = [] := List.length_eq_zero_iff.1 (by omega)
    have e2 : ys = [] := List.length_eq_zero_iff.1 (by omega)
    subst e1; subst e2
    rw [lv_left]; exact .nil
  | succ n ih =>
    intro xs ys h
    match xs, ys with
    | [], ys => rw [lv_left]; exact al_left ys
    | x :: xs, [] => rw [lv_right]; exact al_right _
    | x :: xs, y :: ys =>
      simp only [List.length_cons] at h
      have a1 := ih xs ys (by omega)
      have a2 := ih xs (y :: ys) (by simp only [List.length_cons]; omega)
      have a3 := ih (x :: xs) ys (by simp only [List.length_cons]; omega)
      have e := lv_cons x y xs ys
      by_cases hxy : x = y
      · subst hxy
        rw [if_pos rfl] at e
        by_cases c1 : lv (x :: xs) (x :: ys) = lv xs ys
        · rw [c1]; exact .same a1
        · by_cases c2 : lv (x :: xs) (x :: ys) = lv xs (x :: ys) + 1
          · rw [c2]; exact .del a2
          · have c3 : lv (x :: xs) (x :: ys) = lv (x :: xs) ys + 1 := by omega
            rw [c3]; exact .ins a3
      · rw [if_neg hxy] at e
        by_cases c1 : lv (x :: xs) (y :: ys) = lv xs ys + 1
        · rw [c1]; exact .sub hxy a1
        · by_cases c2 : lv (x :: xs) (y :: ys) = lv xs (y :: ys) + 1
          · rw [c2]; exact .del a2
          · have c3 : lv (x :: xs) (y :: ys) = lv (x :: xs) ys + 1 := by omega
            rw [c3]; exact .ins a3
theorem al_is (xs ys : List Int) : Al xs ys (lv xs ys) := al_lv _ xs ys (Nat.le_refl _)
theorem Al.append {a b c d : List Int} {n m : Nat} (h : Al a b n) (k : Al c d m) : Al (a ++ c) (b ++ d) (n + m) := by
  induction h with
  | nil => simpa using k
  | same _ ih => exact .same ih
  | sub hne _ ih => rw [show ∀ n : Nat, n + 1 + m = n + m + 1 by omega]; exact .sub hne ih
  | del _ ih => rw [show ∀ n : Nat, n + 1 + m = n + m + 1 by omega]; exact .del ih
  | ins _ ih => rw [show ∀ n : Nat, n + 1 + m = n + m + 1 by omega]; exact .ins ih
theorem Al.rev {a b : List Int} {n : Nat} (h : Al a b n) : Al a.reverse b.reverse n := by
  induction h with
  | nil => exact .nil
  | same _ ih => rw [List.reverse_cons, List.reverse_cons]; exact ih.append (.same .nil)
  | sub hne _ ih => rw [List.reverse_cons, List.reverse_cons]; exact ih.append (.sub hne .nil)
  | del _ ih => rw [List.reverse_cons]; simpa using ih.append (.del (x := _) .nil)
  | @ins y xs ys n _ ih => rw [List.reverse_cons]; simpa using ih.append (.ins (y := y) .nil)
theorem Al.comm {a b : List Int} {n : Nat} (h : Al a b n) : Al b a n := by
  induction h with
  | nil => exact .nil
  | same _ ih => exact .same ih
  | sub hne _ ih => exact .sub (fun e => hne e.symm) ih
  | del _ ih => exact .ins ih
  | ins _ ih => exact .del ih
theorem Al.refl : ∀ a : List Int, Al a a 0
  | [] => .nil
  | _ :: a => .same (Al.refl a)
theorem lv_rev (a b : List Int) : lv a.reverse b.reverse = lv a b := by
  have h1 := lv_al (al_is a b).rev
  have h2 := lv_al (al_is a.reverse b.reverse).rev
  rw [List.reverse_reverse, List.reverse_reverse] at h2
  omega
theorem lv_comm (a b : List Int) : lv a b = lv b a := by
  have h1 := lv_al (al_is a b).comm
  have h2 := lv_al (al_is b a).comm
  omega
theorem lv_snoc (p q : List Int) (x y : Int) : lv (p ++ [x]) (q ++ [y]) = min (lv p q + if x = y then 0 else 1) (min (lv p (q ++ [y]) + 1) (lv (p ++ [x]) q + 1)) := by
  have e := lv_cons x y p.reverse q.reverse
  have r : ∀ (a : List Int) (z : Int), z :: a.reverse = (a ++ [z]).reverse := fun a z => by simp
  rw [r, r, lv_rev, lv_rev, lv_rev, lv_rev] at e
  exact e
theorem lv_bd : ∀ (n : Nat) (xs ys : List Int), xs.length + ys.length ≤ n → xs.length ≤ ys.length + lv xs ys ∧ ys.length ≤ xs.length + lv xs ys ∧ (lv xs ys ≤ xs.length ∨ lv xs ys ≤ ys.length) := by
  intro n
  induction n with
  | zero =>
    intro xs ys h
    have e1 : xs = [] := List.length_eq_zero_iff.1 (by omega)
    subst e1
    rw [lv_left]; simp
  | succ n ih =>
    intro xs ys h
    match xs, ys with
    | [], ys => rw [lv_left]; simp
    | x :: xs, [] => rw [lv_right]; simp
    | x :: xs, y :: ys =>
      simp only [List.length_cons] at h ⊢
      have a1 := ih xs ys (by omega)
      have a2 := ih xs (y :: ys) (by simp only [List.length_cons]; omega)
      have a3 := ih (x :: xs) ys (by simp only [List.length_cons]; omega)
      simp only [List.length_cons] at a2 a3
      rw [lv_cons]
      split <;> omega
theorem lv_bds (xs ys : List Int) : xs.length ≤ ys.length + lv xs ys ∧ ys.length ≤ xs.length + lv xs ys ∧ (lv xs ys ≤ xs.length ∨ lv xs ys ≤ ys.length) := lv_bd _ xs ys (Nat.le_refl _)
theorem lv_self (a : List Int) : lv a a = 0 := Nat.le_zero.1 (lv_al (Al.refl a))
theorem lv_zero {a b : List Int} : lv a b = 0 ↔ a = b := by
  constructor
  · intro h
    have k := al_is a b
    rw [h] at k
    have key : ∀ {a b : List Int} {n : Nat}, Al a b n → n = 0 → a = b := by
      intro a b n k
      induction k with
      | nil => intro _; rfl
      | same _ ih => intro e; rw [ih e]
      | sub _ _ _ => intro e; omega
      | del _ _ => intro e; omega
      | ins _ _ => intro e; omega
    exact key k rfl
  · rintro rfl; exact lv_self a
theorem lv_tri' : ∀ (n : Nat) (a b c : List Int), a.length + b.length + c.length ≤ n → lv a c ≤ lv a b + lv b c := by
  intro n
  induction n with
  | zero =>
    intro a b c h
    have e1 : a = [] := List.length_eq_zero_iff.1 (by omega)
    have e2 : c = [] := List.length_eq_zero_iff.1 (by omega)
    subst e1; subst e2
    rw [lv_left]; simp
  | succ n ih =>
    intro a b c h
    match a, b, c with
    | [], b, c => have := lv_bds b c; rw [lv_left, lv_left]; omega
    | x :: a, b, [] => have := lv_bds (x :: a) b; rw [lv_right, lv_right]; omega
    | x :: a, [], z :: c => have := lv_bds (x :: a) (z :: c); rw [lv_left, lv_right]; omega
    | x :: a, y :: b, z :: c =>
      simp only [List.length_cons] at h
      have i1 := ih a b c (by omega)
      have i2 := ih a (y :: b) (z :: c) (by simp only [List.length_cons]; omega)
      have i3 := ih (x :: a) (y :: b) c (by simp only [List.length_cons]; omega)
      have i4 := ih a b (z :: c) (by simp only [List.length_cons]; omega)
      have i5 := ih (x :: a) b c (by simp only [List.length_cons]; omega)
      have i6 := ih (x :: a) b (z :: c) (by simp only [List.length_cons]; omega)
      have e1 := lv_cons x y a b
      have e2 := lv_cons y z b c
      have e3 := lv_cons x z a c
      by_cases h1 : x = y
      · by_cases h2 : y = z
        · rw [if_pos h1] at e1; rw [if_pos h2] at e2; rw [if_pos (h1.trans h2)] at e3; omega
        · rw [if_pos h1] at e1; rw [if_neg h2] at e2; rw [if_neg (by rw [h1]; exact h2)] at e3; omega
      · by_cases h2 : y = z
        · rw [if_neg h1] at e1; rw [if_pos h2] at e2; rw [if_neg (by rw [← h2]; exact h1)] at e3; omega
        · rw [if_neg h1] at e1; rw [if_neg h2] at e2
          split at e3 <;> omega
theorem lv_tri (a b c : List Int) : lv a c ≤ lv a b + lv b c := lv_tri' _ a b c (Nat.le_refl _)
theorem lv_same (x : Int) (a b : List Int) : lv (x :: a) (x :: b) = lv a b := by
  have e := lv_cons x x a b
  rw [if_pos rfl] at e
  have h1 := lv_tri a (x :: b) b
  have h2 := lv_tri a (x :: a) b
  have h3 : lv (x :: b) b ≤ 1 := lv_al (.del (Al.refl b))
  have h4 : lv a (x :: a) ≤ 1 := lv_al (.ins (Al.refl a))
  omega
theorem lv_pre (p a b : List Int) : lv (p ++ a) (p ++ b) = lv a b := by
  induction p with
  | nil => rfl
  | cons x p ih => rw [List.cons_append, List.cons_append, lv_same, ih]
theorem lv_post (a b s : List Int) : lv (a ++ s) (b ++ s) = lv a b := by
  rw [← lv_rev, List.reverse_append, List.reverse_append, lv_pre, lv_rev]

/-- The row of distances of p to what ys begins with. -/
def dr (p ys : List Int) : List Int := (List.range (ys.length + 1)).map fun j => (lv p (ys.take j) : Int)
theorem dr_len (p ys : List Int) : (dr p ys).length = ys.length + 1 := by simp [dr]
theorem dr_get (p ys : List Int) {j : Nat} (h : j ≤ ys.length) : (dr p ys)[j]? = some (lv p (ys.take j) : Int) := by
  unfold dr
  rw [List.getElem?_map, List.getElem?_range (by omega)]
  rfl
theorem dr_start (ys : List Int) {j : Nat} (h : j ≤ ys.length) : (dr [] ys)[j]? = some (j : Int) := by
  rw [dr_get _ _ h, lv_left, List.length_take, Nat.min_eq_left h]
theorem dr_first (p ys : List Int) : (dr p ys)[0]? = some (p.length : Int) := by
  rw [dr_get _ _ (Nat.zero_le _), List.take_zero, lv_right]
theorem dr_next (p ys : List Int) (r : Int) {j : Nat} {s : Int} (h : ys[j]? = some s) :
    lv (p ++ [r]) (ys.take (j + 1)) = min (lv p (ys.take j) + if s = r then 0 else 1) (min (lv p (ys.take (j + 1)) + 1) (lv (p ++ [r]) (ys.take j) + 1)) := by
  have e : ys.take (j + 1) = ys.take j ++ [s] := by rw [List.take_add_one, h]; rfl
  rw [e, lv_snoc]
  have : (if r = s then 0 else 1) = (if s = r then 0 else 1 : Nat) := by
    by_cases c : r = s
    · rw [if_pos c, if_pos c.symm]
    · rw [if_neg c, if_neg (fun e => c e.symm)]
  rw [this]
theorem dr_bd (p ys : List Int) (j : Nat) : lv p (ys.take j) ≤ p.length + ys.length := by
  have := lv_bds p (ys.take j)
  have h2 : (ys.take j).length ≤ ys.length := by rw [List.length_take]; omega
  omega
theorem dr_last (p ys : List Int) : (dr p ys)[ys.length]? = some (lv p ys : Int) := by
  rw [dr_get _ _ (Nat.le_refl _), List.take_of_length_le (Nat.le_refl _)]

/-- L is laid into cs at b. -/
def lay (cs : List Int) (b : Nat) (L : List Int) : List Int := cs.take b ++ L ++ cs.drop (b + L.length)
theorem lay_nil (cs : List Int) (b : Nat) : lay cs b [] = cs := by simp [lay]
theorem lay_len {cs L : List Int} {b : Nat} (h : b + L.length ≤ cs.length) : (lay cs b L).length = cs.length := by
  simp [lay]; omega
theorem lay_in {cs L : List Int} {b i : Nat} (h : b + L.length ≤ cs.length) (hi : i < L.length) : (lay cs b L)[b + i]? = L[i]? := by
  unfold lay
  rw [List.append_assoc, List.getElem?_append_right (by rw [List.length_take]; omega), List.length_take, Nat.min_eq_left (by omega), show b + i - b = i by omega, List.getElem?_append_left hi]
theorem lay_out {cs L : List Int} {b k : Nat} (h : b + L.length ≤ cs.length) (hk : k < b ∨ b + L.length ≤ k) : (lay cs b L)[k]? = cs[k]? := by
  unfold lay
  rcases hk with hk | hk
  · rw [List.append_assoc, List.getElem?_append_left (by rw [List.length_take]; omega), List.getElem?_take, if_pos hk]
  · rw [List.getElem?_append_right (by simp; omega), List.getElem?_drop]
    congr 1
    simp; omega
theorem lay_set {cs L : List Int} {b : Nat} (h : b + L.length < cs.length) (x : Int) : (lay cs b L).set (b + L.length) x = lay cs b (L ++ [x]) := by
  have hl : (cs.take b ++ L).length = b + L.length := by simp; omega
  unfold lay
  rw [List.set_append_right _ _ (by rw [hl]; exact Nat.le_refl _), hl, Nat.sub_self, List.drop_eq_getElem_cons h, List.set_cons_zero]
  simp [Nat.add_assoc]
theorem lay_lay {cs L L' : List Int} {b : Nat} (h : b + L.length ≤ cs.length) (e : L'.length = L.length) : lay (lay cs b L) b L' = lay cs b L' := by
  have hl := lay_len h
  apply List.ext_getElem?
  intro k
  by_cases c : b ≤ k ∧ k < b + L.length
  · obtain ⟨i, rfl⟩ : ∃ i, k = b + i := ⟨k - b, by omega⟩
    rw [lay_in (by omega) (by omega), lay_in (by omega) (by omega)]
  · rw [lay_out (by omega) (by omega), lay_out h (by omega), lay_out (by omega) (by omega)]

/-- The runes of a text, where Distance tells of it. -/
def rsE (l : List UInt8) : Option (List Int) := match Nums.rs l with | some xs => if xs.length ≤ 1024 then some xs else none | none => none
theorem rsE_some {l : List UInt8} {xs : List Int} (h : Nums.rs l = some xs) (hl : xs.length ≤ 1024) : rsE l = some xs := by unfold rsE; rw [h]; simp [hl]
theorem rsE_long {l : List UInt8} {xs : List Int} (h : Nums.rs l = some xs) (hl : ¬ xs.length ≤ 1024) : rsE l = none := by unfold rsE; rw [h]; simp [hl]
theorem rsE_none {l : List UInt8} (h : Nums.rs l = none) : rsE l = none := by unfold rsE; rw [h]
theorem rsE_far {l : List UInt8} (h : 4096 < l.length) : rsE l = none := by
  cases e : Nums.rs l with
  | none => exact rsE_none e
  | some xs => exact rsE_long e (by have := (Nums.rs_len e).1; omega)
theorem rsE_out {l : List UInt8} {xs : List Int} (h : rsE l = some xs) : Nums.rs l = some xs ∧ xs.length ≤ 1024 := by
  unfold rsE at h
  cases e : Nums.rs l with
  | none => rw [e] at h; cases h
  | some ys =>
    rw [e] at h
    simp only at h
    by_cases c : ys.length ≤ 1024
    · rw [if_pos c] at h; obtain rfl := Option.some.inj h; exact ⟨rfl, c⟩
    · rw [if_neg c] at h; cases h
/-- The distance of two texts. -/
def dsE (a b : List UInt8) : Option Nat := match rsE a, rsE b with | some x, some y => some (lv x y) | _, _ => none
theorem dsE_some {a b : List UInt8} {x y : List Int} (h1 : rsE a = some x) (h2 : rsE b = some y) : dsE a b = some (lv x y) := by unfold dsE; rw [h1, h2]
theorem dsE_left {a b : List UInt8} (h1 : rsE a = none) : dsE a b = none := by unfold dsE; rw [h1]
theorem dsE_right {a b : List UInt8} (h1 : rsE b = none) : dsE a b = none := by unfold dsE; rw [h1]; cases rsE a <;> rfl
theorem dsE_out {a b : List UInt8} {n : Nat} (h : dsE a b = some n) : ∃ x y, rsE a = some x ∧ rsE b = some y ∧ n = lv x y := by
  cases e1 : rsE a with
  | none => rw [dsE_left e1] at h; cases h
  | some x =>
    cases e2 : rsE b with
    | none => rw [dsE_right e2] at h; cases h
    | some y => rw [dsE_some e1 e2] at h; exact ⟨x, y, rfl, rfl, (Option.some.inj h).symm⟩
/-- What Distance returns. -/
def dsV (o : Option Nat) : Value := match o with | some n => .tuple #[.int .i64 (n : Int), .bool true] | none => .tuple #[.int .i64 0, .bool false]
theorem ds_small {a b : List UInt8} {n : Nat} (h : dsE a b = some n) : n ≤ 2048 := by
  obtain ⟨x, y, h1, h2, rfl⟩ := dsE_out h
  have := (rsE_out h1).2
  have := (rsE_out h2).2
  have := lv_bds x y
  omega
end Go.Proofs.YtfhmamalanloaaaDoor.Ed
