/- Texts that were written apart, joined. -/
import Derived.Test.YtncnefpkfbngaaaGreatDoorJ1
/- How many edits lie between two lists of numbers. Plain lists; no program is named here. -/
namespace Go.Proofs.YtncnefpkfbngaaaGreatDoor.Ed

def lv : List Int → List Int → Nat
 | [], ys => ys.length
 | _ :: xs, [] => xs.length + 1
 | x :: xs, y :: ys => min (lv xs ys + if x = y then 0 else 1) (min (lv xs (y :: ys) + 1) (lv (x :: xs) ys + 1))
termination_by xs ys => xs.length + ys.length

/-- One way of edits. -/
inductive Al : List Int → List Int → Nat → Prop
 | nil : Al [] [] 0
 | same {x : Int} {xs ys : List Int} {n : Nat} : Al xs ys n → Al (x :: xs) (x :: ys) n
 | sub {x y : Int} {xs ys : List Int} {n : Nat} : x ≠ y → Al xs ys n → Al (x :: xs) (y :: ys) (n + 1)
 | del {x : Int} {xs ys : List Int} {n : Nat} : Al xs ys n → Al (x :: xs) ys (n + 1)
 | ins {y : Int} {xs ys : List Int} {n : Nat} : Al xs ys n → Al xs (y :: ys) (n + 1)

theorem lv_left (ys : List Int) : lv [] ys = ys.length := by rw [lv]
theorem lv_right (xs : List Int) : lv xs [] = xs.length := by cases xs <;> rw [lv] <;> rfl
theorem lv_cons (x y : Int) (xs ys : List Int) : lv (x :: xs) (y :: ys) = min (lv xs ys + if x = y then 0 else 1) (min (lv xs (y :: ys) + 1) (lv (x :: xs) ys + 1)) := by rw [lv]

theorem lv_del (x : Int) (xs ys : List Int) : lv (x :: xs) ys ≤ lv xs ys + 1 := by
 cases ys with
 | nil => rw [lv_right, lv_right]; simp
 | cons y ys => rw [lv_cons]; omega
theorem lv_ins (y : Int) (xs ys : List Int) : lv xs (y :: ys) ≤ lv xs ys + 1 := by
 cases xs with
 | nil => rw [lv_left, lv_left]; simp
 | cons x xs => rw [lv_cons]; omega
theorem lv_al {xs ys : List Int} {n : Nat} (h : Al xs ys n) : lv xs ys ≤ n := by
 induction h with
 | nil => rw [lv_left]; simp
 | same _ ih => rw [lv_cons, if_pos rfl]; omega
 | sub hne _ ih => rw [lv_cons, if_neg hne]; omega
 | del _ ih => exact Nat.le_trans (lv_del _ _ _) (by omega)
 | ins _ ih => exact Nat.le_trans (lv_ins _ _ _) (by omega)
theorem al_left : ∀ ys : List Int, Al [] ys ys.length
 | [] => .nil
 | _ :: ys => .ins (al_left ys)
theorem al_right : ∀ xs : List Int, Al xs [] xs.length
 | [] => .nil
 | _ :: xs => .del (al_right xs)
theorem al_lv : ∀ (n : Nat) (xs ys : List Int), xs.length + ys.length ≤ n → Al xs ys (lv xs ys) := by
 intro n
 induction n with
 | zero =>
  intro xs ys h
  have e1 : xs = [] := List.length_eq_zero_iff.1 (by omega)
  have e2 : ys = [] := List.length_eq_zero_iff.1 (by omega)
  subst e1; subst e2
  rw [lv_left]; exact .nil
 | succ n ih =>
  intro xs ys h
  match xs, ys with
  | [], ys => rw [lv_left]; exact al_left ys
  | x :: xs, [] => rw [lv_right]; exact al_right _
  | x :: xs, y :: ys =>
   simp only [List.length_cons] at h
   have a1 := ih xs ys (by omega)
   have a2 := ih xs (y :: ys) (by simp only [List.length_cons]; omega)
   have a3 := ih (x :: xs) ys (by simp only [List.length_cons]; omega)
   have e := lv_cons x y xs ys
   by_cases hxy : x = y
   · subst hxy
     rw [if_pos rfl] at e
     by_cases c1 : lv (x :: xs) (x :: ys) = lv xs ys
     · rw [c1]; exact .same a1
     · by_cases c2 : lv (x :: xs) (x :: ys) = lv xs (x :: ys) + 1
       · rw [c2]; exact .del a2
       · have c3 : lv (x :: xs) (x :: ys) = lv (x :: xs) ys + 1 := by omega
         rw [c3]; exact .ins a3
   · rw [if_neg hxy] at e
     by_cases c1 : lv (x :: xs) (y :: ys) = lv xs ys + 1
     · rw [c1]; exact .sub hxy a1
     · by_cases c2 : lv (x :: xs) (y :: ys) = lv xs (y :: ys) + 1
       · rw [c2]; exact .del a2
       · have c3 : lv (x :: xs) (y :: ys) = lv (x :: xs) ys + 1 := by omega
         rw [c3]; exact .ins a3
theorem al_is (xs ys : List Int) : Al xs ys (lv xs ys) := al_lv _ xs ys (Nat.le_refl _)
theorem Al.append {a b c d : List Int} {n m : Nat} (h : Al a b n) (k : Al c d m) : Al (a ++ c) (b ++ d) (n + m) := by
 induction h with
 | nil => simpa using k
 | same _ ih => exact .same ih
 | sub hne _ ih => rw [show ∀ n : Nat, n + 1 + m = n + m + 1 by omega]; exact .sub hne ih
 | del _ ih => rw [show ∀ n : Nat, n + 1 + m = n + m + 1 by omega]; exact .del ih
 | ins _ ih => rw [show ∀ n : Nat, n + 1 + m = n + m + 1 by omega]; exact .ins ih
theorem Al.rev {a b : List Int} {n : Nat} (h : Al a b n) : Al a.reverse b.reverse n := by
 induction h with
 | nil => exact .nil
 | same _ ih => rw [List.reverse_cons, List.reverse_cons]; exact ih.append (.same .nil)
 | sub hne _ ih => rw [List.reverse_cons, List.reverse_cons]; exact ih.append (.sub hne .nil)
 | del _ ih => rw [List.reverse_cons]; simpa using ih.append (.del (x := _) .nil)
 | @ins y xs ys n _ ih => rw [List.reverse_cons]; simpa using ih.append (.ins (y := y) .nil)
theorem Al.refl : ∀ a : List Int, Al a a 0
 | [] => .nil
 | _ :: a => .same (Al.refl a)
theorem lv_rev (a b : List Int) : lv a.reverse b.reverse = lv a b := by
 have h1 := lv_al (al_is a b).rev
 have h2 := lv_al (al_is a.reverse b.reverse).rev
 rw [List.reverse_reverse, List.reverse_reverse] at h2
 omega
theorem lv_snoc (p q : List Int) (x y : Int) : lv (p ++ [x]) (q ++ [y]) = min (lv p q + if x = y then 0 else 1) (min (lv p (q ++ [y]) + 1) (lv (p ++ [x]) q + 1)) := by
 have e := lv_cons x y p.reverse q.reverse
 have r : ∀ (a : List Int) (z : Int), z :: a.reverse = (a ++ [z]).reverse := fun a z => by simp
 rw [r, r, lv_rev, lv_rev, lv_rev, lv_rev] at e
 exact e
theorem lv_bd : ∀ (n : Nat) (xs ys : List Int), xs.length + ys.length ≤ n → xs.length ≤ ys.length + lv xs ys ∧ ys.length ≤ xs.length + lv xs ys ∧ (lv xs ys ≤ xs.length ∨ lv xs ys ≤ ys.length) := by
 intro n
 induction n with
 | zero =>
  intro xs ys h
  have e1 : xs = [] := List.length_eq_zero_iff.1 (by omega)
  subst e1
  rw [lv_left]; simp
 | succ n ih =>
  intro xs ys h
  match xs, ys with
  | [], ys => rw [lv_left]; simp
  | x :: xs, [] => rw [lv_right]; simp
  | x :: xs, y :: ys =>
   simp only [List.length_cons] at h ⊢
   have a1 := ih xs ys (by omega)
   have a2 := ih xs (y :: ys) (by simp only [List.length_cons]; omega)
   have a3 := ih (x :: xs) ys (by simp only [List.length_cons]; omega)
   simp only [List.length_cons] at a2 a3
   rw [lv_cons]
   split <;> omega
theorem lv_bds (xs ys : List Int) : xs.length ≤ ys.length + lv xs ys ∧ ys.length ≤ xs.length + lv xs ys ∧ (lv xs ys ≤ xs.length ∨ lv xs ys ≤ ys.length) := lv_bd _ xs ys (Nat.le_refl _)
/-- The row of distances of p to what ys begins with. -/
def dr (p ys : List Int) : List Int := (List.range (ys.length + 1)).map fun j => (lv p (ys.take j) : Int)
theorem dr_len (p ys : List Int) : (dr p ys).length = ys.length + 1 := by simp [dr]
theorem dr_get (p ys : List Int) {j : Nat} (h : j ≤ ys.length) : (dr p ys)[j]? = some (lv p (ys.take j) : Int) := by
 unfold dr
 rw [List.getElem?_map, List.getElem?_range (by omega)]
 rfl
theorem dr_start (ys : List Int) {j : Nat} (h : j ≤ ys.length) : (dr [] ys)[j]? = some (j : Int) := by
 rw [dr_get _ _ h, lv_left, List.length_take, Nat.min_eq_left h]
theorem dr_first (p ys : List Int) : (dr p ys)[0]? = some (p.length : Int) := by
 rw [dr_get _ _ (Nat.zero_le _), List.take_zero, lv_right]
theorem dr_next (p ys : List Int) (r : Int) {j : Nat} {s : Int} (h : ys[j]? = some s) :
 lv (p ++ [r]) (ys.take (j + 1)) = min (lv p (ys.take j) + if s = r then 0 else 1) (min (lv p (ys.take (j + 1)) + 1) (lv (p ++ [r]) (ys.take j) + 1)) := by
 have e : ys.take (j + 1) = ys.take j ++ [s] := by rw [List.take_add_one, h]; rfl
 rw [e, lv_snoc]
 have : (if r = s then 0 else 1) = (if s = r then 0 else 1 : Nat) := by
  by_cases c : r = s
  · rw [if_pos c, if_pos c.symm]
  · rw [if_neg c, if_neg (fun e => c e.symm)]
 rw [this]
theorem dr_bd (p ys : List Int) (j : Nat) : lv p (ys.take j) ≤ p.length + ys.length := by
 have := lv_bds p (ys.take j)
 have h2 : (ys.take j).length ≤ ys.length := by rw [List.length_take]; omega
 omega
theorem dr_last (p ys : List Int) : (dr p ys)[ys.length]? = some (lv p ys : Int) := by
 rw [dr_get _ _ (Nat.le_refl _), List.take_of_length_le (Nat.le_refl _)]

/-- L is laid into cs at b. -/
def lay (cs : List Int) (b : Nat) (L : List Int) : List Int := cs.take b ++ L ++ cs.drop (b + L.length)
theorem lay_nil (cs : List Int) (b : Nat) : lay cs b [] = cs := by simp [lay]
theorem lay_len {cs L : List Int} {b : Nat} (h : b + L.length ≤ cs.length) : (lay cs b L).length = cs.length := by
 simp [lay]; omega
theorem lay_in {cs L : List Int} {b i : Nat} (h : b + L.length ≤ cs.length) (hi : i < L.length) : (lay cs b L)[b + i]? = L[i]? := by
 unfold lay
 rw [List.append_assoc, List.getElem?_append_right (by rw [List.length_take]; omega), List.length_take, Nat.min_eq_left (by omega), show b + i - b = i by omega, List.getElem?_append_left hi]
theorem lay_out {cs L : List Int} {b k : Nat} (h : b + L.length ≤ cs.length) (hk : k < b ∨ b + L.length ≤ k) : (lay cs b L)[k]? = cs[k]? := by
 unfold lay
 rcases hk with hk | hk
 · rw [List.append_assoc, List.getElem?_append_left (by rw [List.length_take]; omega), List.getElem?_take, if_pos hk]
 · rw [List.getElem?_append_right (by simp; omega), List.getElem?_drop]
   congr 1
   simp; omega
theorem lay_set {cs L : List Int} {b : Nat} (h : b + L.length < cs.length) (x : Int) : (lay cs b L).set (b + L.length) x = lay cs b (L ++ [x]) := by
 have hl : (cs.take b ++ L).length = b + L.length := by simp; omega
 unfold lay
 rw [List.set_append_right _ _ (by rw [hl]; exact Nat.le_refl _), hl, Nat.sub_self, List.drop_eq_getElem_cons h, List.set_cons_zero]
 simp [Nat.add_assoc]
/-- The runes of a text, where Distance tells of it. -/
def rsE (l : List UInt8) : Option (List Int) := match Nums.rs l with | some xs => if xs.length ≤ 1024 then some xs else none | none => none
theorem rsE_some {l : List UInt8} {xs : List Int} (h : Nums.rs l = some xs) (hl : xs.length ≤ 1024) : rsE l = some xs := by unfold rsE; rw [h]; simp [hl]
theorem rsE_long {l : List UInt8} {xs : List Int} (h : Nums.rs l = some xs) (hl : ¬ xs.length ≤ 1024) : rsE l = none := by unfold rsE; rw [h]; simp [hl]
theorem rsE_none {l : List UInt8} (h : Nums.rs l = none) : rsE l = none := by unfold rsE; rw [h]
theorem rsE_far {l : List UInt8} (h : 4096 < l.length) : rsE l = none := by
 cases e : Nums.rs l with
 | none => exact rsE_none e
 | some xs => exact rsE_long e (by have := (Nums.rs_len e).1; omega)
theorem rsE_out {l : List UInt8} {xs : List Int} (h : rsE l = some xs) : Nums.rs l = some xs ∧ xs.length ≤ 1024 := by
 unfold rsE at h
 cases e : Nums.rs l with
 | none => rw [e] at h; cases h
 | some ys =>
  rw [e] at h
  simp only at h
  by_cases c : ys.length ≤ 1024
  · rw [if_pos c] at h; obtain rfl := Option.some.inj h; exact ⟨rfl, c⟩
  · rw [if_neg c] at h; cases h
/-- The distance of two texts. -/
def dsE (a b : List UInt8) : Option Nat := match rsE a, rsE b with | some x, some y => some (lv x y) | _, _ => none
theorem dsE_some {a b : List UInt8} {x y : List Int} (h1 : rsE a = some x) (h2 : rsE b = some y) : dsE a b = some (lv x y) := by unfold dsE; rw [h1, h2]
theorem dsE_left {a b : List UInt8} (h1 : rsE a = none) : dsE a b = none := by unfold dsE; rw [h1]
theorem dsE_right {a b : List UInt8} (h1 : rsE b = none) : dsE a b = none := by unfold dsE; rw [h1]; cases rsE a <;> rfl
/-- What Distance returns. -/
def dsV (o : Option Nat) : Value := match o with | some n => .tuple #[.int .i64 (n : Int), .bool true] | none => .tuple #[.int .i64 0, .bool false]
end Go.Proofs.YtncnefpkfbngaaaGreatDoor.Ed

/- Rows of an automaton: what cut, Start, Step, Dist, Alive come to, and the reference's. -/
namespace Go.Proofs.YtncnefpkfbngaaaGreatDoor
namespace Lv
open Ed

/-- A row by its numbers. -/
def mk (f : Nat → Nat) : List Nat := (List.range 25).map f
theorem mk_len (f : Nat → Nat) : (mk f).length = 25 := by simp [mk]
theorem mk_get (f : Nat → Nat) {j : Nat} (h : j < 25) : (mk f)[j]? = some (f j) := by simp [mk, h]
theorem mk_getD (f : Nat → Nat) {j : Nat} (h : j < 25) : (mk f).getD j 0 = f j := by rw [List.getD_eq_getElem?_getD, mk_get f h]; rfl
theorem mk_of {s : List Nat} (h : s.length = 25) : s = mk fun j => s.getD j 0 := by
 apply List.ext_getElem?
 intro i
 by_cases hi : i < 25
 · rw [mk_get _ hi, List.getD_eq_getElem?_getD, List.getElem?_eq_getElem (by omega)]; rfl
 · rw [List.getElem?_eq_none (by omega), List.getElem?_eq_none (by rw [mk_len]; omega)]
theorem mk_congr {f g : Nat → Nat} (h : ∀ j, j < 25 → f j = g j) : mk f = mk g := List.map_congr_left fun j hj => h j (List.mem_range.1 hj)
theorem mk_inj {f g : Nat → Nat} (h : mk f = mk g) {j : Nat} (hj : j < 25) : f j = g j := by
 have := congrArg (fun l => l[j]?) h
 simp only [mk_get _ hj] at this
 exact Option.some.inj this
theorem mk_set (f : Nat → Nat) {k : Nat} (x : Nat) (hk : k < 25) : (mk f).set k x = mk fun j => if j = k then x else f j := by
 apply List.ext_getElem?
 intro i
 by_cases hi : i < 25
 · rw [List.getElem?_set, mk_get _ hi, mk_get _ hi]
   by_cases h : k = i
   · subst h; simp [mk_len, hk]
   · rw [if_neg h, if_neg (fun e => h e.symm)]
 · rw [List.getElem?_eq_none (by rw [List.length_set, mk_len]; omega), List.getElem?_eq_none (by rw [mk_len]; omega)]
theorem mk_byte {f : Nat → Nat} (h : ∀ j, j < 25 → f j < 256) : ∀ x ∈ mk f, x < 256 := by
 intro x hx
 obtain ⟨j, hj, rfl⟩ := List.mem_map.1 hx
 exact h j (List.mem_range.1 hj)

/-- Too far, as far as it counts. -/
def dd (n d j : Nat) : Nat := if j ≤ n then d + 1 else 0
theorem dd_le (n d j : Nat) : dd n d j ≤ d + 1 := by unfold dd; split <;> omega
def deadL (n d : Nat) : List Nat := mk (dd n d)
def cutF (n d : Nat) (s : List Nat) (j : Nat) : Nat := min (s.getD j 0) (dd n d j)
def cutL (n d : Nat) (s : List Nat) : List Nat := mk (cutF n d s)
/-- cut, so far. -/
def cutK (n d : Nat) (s : List Nat) (k : Nat) : List Nat := mk fun j => if j < k then cutF n d s j else s.getD j 0
theorem cutK_zero {n d : Nat} {s : List Nat} (h : s.length = 25) : cutK n d s 0 = s := by
 rw [cutK]; simp only [Nat.not_lt_zero, if_false]; exact (mk_of h).symm
theorem cutK_end (n d : Nat) (s : List Nat) : cutK n d s 25 = cutL n d s := mk_congr fun _ hj => if_pos hj
theorem cutK_get (n d : Nat) (s : List Nat) {k : Nat} (h : k < 25) : (cutK n d s k).getD k 0 = s.getD k 0 := by
 rw [cutK, mk_getD _ h]; simp
theorem cutK_next (n d : Nat) (s : List Nat) {k : Nat} (h : k < 25) : (cutK n d s k).set k (cutF n d s k) = cutK n d s (k + 1) := by
 rw [cutK, mk_set _ _ h]
 refine mk_congr fun j _ => ?_
 by_cases h1 : j = k
 · subst h1; simp
 · rw [if_neg h1]
   by_cases h2 : j < k
   · rw [if_pos h2, if_pos (by omega)]
   · rw [if_neg h2, if_neg (by omega)]
theorem cutL_len (n d : Nat) (s : List Nat) : (cutL n d s).length = 25 := mk_len _
theorem cutK_len (n d : Nat) (s : List Nat) (k : Nat) : (cutK n d s k).length = 25 := mk_len _
theorem cutF_le (n d : Nat) (s : List Nat) (j : Nat) : cutF n d s j ≤ d + 1 := Nat.le_trans (Nat.min_le_right _ _) (dd_le _ _ _)

/-- Ahead of all runes, uncut. -/
def risK (k : Nat) : List Nat := mk fun j => if j < k then j else 0
def startL (n d : Nat) : List Nat := cutL n d (mk fun j => j)
theorem risK_zero : risK 0 = mk fun _ => 0 := mk_congr fun j _ => by simp
theorem risK_end : risK 25 = mk fun j => j := mk_congr fun _ hj => if_pos hj
theorem risK_next {k : Nat} (h : k < 25) : (risK k).set k k = risK (k + 1) := by
 rw [risK, mk_set _ _ h]
 refine mk_congr fun j _ => ?_
 by_cases h1 : j = k
 · subst h1; simp
 · rw [if_neg h1]
   by_cases h2 : j < k
   · rw [if_pos h2, if_pos (by omega)]
   · rw [if_neg h2, if_neg (by omega)]

/-- The next row, uncut. -/
def nx (xs : List Int) (r : Int) (c : List Nat) : Nat → Nat
 | 0 => c.getD 0 0 + 1
 | j + 1 => min (c.getD j 0 + if xs.getD j 0 = r then 0 else 1) (min (c.getD (j + 1) 0 + 1) (nx xs r c j + 1))
theorem nx_le {xs : List Int} {r : Int} {c : List Nat} {d : Nat} (h : ∀ j, c.getD j 0 ≤ d + 1) (j : Nat) : nx xs r c j ≤ d + 2 := by
 cases j with
 | zero => have := h 0; simp only [nx]; omega
 | succ j => have := h (j + 1); simp only [nx]; omega
def nxK (xs : List Int) (r : Int) (c : List Nat) (k : Nat) : List Nat := mk fun j => if j ≤ k then nx xs r c j else 0
theorem nxK_len (xs : List Int) (r : Int) (c : List Nat) (k : Nat) : (nxK xs r c k).length = 25 := mk_len _
theorem nxK_get (xs : List Int) (r : Int) (c : List Nat) {k : Nat} (h : k < 25) : (nxK xs r c k).getD k 0 = nx xs r c k := by
 rw [nxK, mk_getD _ h]; simp
theorem nxK_next (xs : List Int) (r : Int) (c : List Nat) {k : Nat} (h : k + 1 < 25) : (nxK xs r c k).set (k + 1) (nx xs r c (k + 1)) = nxK xs r c (k + 1) := by
 rw [nxK, mk_set _ _ h]
 refine mk_congr fun j _ => ?_
 by_cases h1 : j = k + 1
 · subst h1; simp
 · rw [if_neg h1]
   by_cases h2 : j ≤ k
   · rw [if_pos h2, if_pos (by omega)]
   · rw [if_neg h2, if_neg (by omega)]
def stepL (xs : List Int) (d : Nat) (s : List Nat) (r : Int) : List Nat := cutL xs.length d (nxK xs r (cutL xs.length d s) xs.length)
theorem stepL_len (xs : List Int) (d : Nat) (s : List Nat) (r : Int) : (stepL xs d s r).length = 25 := mk_len _
theorem startL_len (n d : Nat) : (startL n d).length = 25 := mk_len _
theorem getD_cut {n d : Nat} {s : List Nat} {j : Nat} (h : j < 25) : (cutL n d s).getD j 0 = cutF n d s j := mk_getD _ h
theorem getD_cut_le (n d : Nat) (s : List Nat) (j : Nat) : (cutL n d s).getD j 0 ≤ d + 1 := by
 by_cases h : j < 25
 · rw [getD_cut h]; exact cutF_le _ _ _ _
 · rw [List.getD_eq_getElem?_getD, List.getElem?_eq_none (by rw [cutL_len]; omega)]; exact Nat.zero_le _

/-- The reference's next row. -/
def rx (xs : List Int) (d : Nat) (r : Int) (s : List Nat) : Nat → Nat
 | 0 => min (min (s.getD 0 0) (d + 1) + 1) (d + 1)
 | j + 1 => min (min (min (min (s.getD j 0) (d + 1) + if xs.getD j 0 = r then 0 else 1) (min (s.getD (j + 1) 0) (d + 1) + 1)) (rx xs d r s j + 1)) (d + 1)
def rxK (xs : List Int) (d : Nat) (r : Int) (s : List Nat) (k : Nat) : List Nat := mk fun j => if j < k then rx xs d r s j else 0
theorem rxK_get (xs : List Int) (d : Nat) (r : Int) (s : List Nat) {j k : Nat} (h : j < 25) (hk : j < k) : (rxK xs d r s k).getD j 0 = rx xs d r s j := by
 rw [rxK, mk_getD _ h, if_pos hk]
theorem rx_nx (xs : List Int) (d : Nat) (r : Int) (s : List Nat) (hn : xs.length ≤ 24) : ∀ j, j ≤ xs.length → rx xs d r s j = min (nx xs r (cutL xs.length d s) j) (d + 1)
 | 0, _ => by
  simp only [rx, nx, getD_cut (show 0 < 25 by omega), cutF, dd, Nat.zero_le, if_true]
 | j + 1, h => by
  have ih := rx_nx xs d r s hn j (by omega)
  simp only [rx, nx]
  rw [ih, getD_cut (show j < 25 by omega), getD_cut (show j + 1 < 25 by omega)]
  simp only [cutF, dd, if_pos h, if_pos (show j ≤ xs.length by omega)]
  omega
theorem step_ref {xs : List Int} (d : Nat) (r : Int) (s : List Nat) (hn : xs.length ≤ 24) : rxK xs d r s (xs.length + 1) = stepL xs d s r := by
 refine mk_congr fun j hj => ?_
 by_cases h : j ≤ xs.length
 · rw [if_pos (by omega), rx_nx xs d r s hn j h, cutF, nxK, mk_getD _ hj, if_pos h, dd, if_pos h]
 · rw [if_neg (by omega), cutF, dd, if_neg h]; omega

/-- The row behind a text, by distances. -/
def rowF (xs : List Int) (d : Nat) (t : List Int) (j : Nat) : Nat := min (lv t (xs.take j)) (d + 1)
def rowK (xs : List Int) (d : Nat) (t : List Int) (k : Nat) : List Nat := mk fun j => if j < k then rowF xs d t j else 0
def rowL (xs : List Int) (d : Nat) (t : List Int) : List Nat := rowK xs d t (xs.length + 1)
theorem rowL_len (xs : List Int) (d : Nat) (t : List Int) : (rowL xs d t).length = 25 := mk_len _
theorem start_row {xs : List Int} (d : Nat) : startL xs.length d = rowL xs d [] := by
 unfold startL cutL rowL rowK
 refine mk_congr fun j hj => ?_
 rw [cutF, mk_getD _ hj]
 by_cases h : j ≤ xs.length
 · rw [if_pos (by omega), dd, if_pos h, rowF, lv_left, List.length_take, Nat.min_eq_left h]
 · rw [if_neg (by omega), dd, if_neg h]; omega
theorem rowL_get {xs : List Int} (d : Nat) (t : List Int) (hn : xs.length ≤ 24) {j : Nat} (h : j ≤ xs.length) : (rowL xs d t).getD j 0 = rowF xs d t j := by
 rw [rowL, rowK, mk_getD _ (by omega), if_pos (by omega)]
theorem rx_row {xs : List Int} (d : Nat) (t : List Int) (r : Int) (hn : xs.length ≤ 24) : ∀ j, j ≤ xs.length → rx xs d r (rowL xs d t) j = rowF xs d (t ++ [r]) j
 | 0, _ => by
  simp only [rx, rowL_get d t hn (Nat.zero_le _), rowF, List.take_zero, lv_right, List.length_append, List.length_singleton]
  omega
 | j + 1, h => by
  have ih := rx_row d t r hn j (by omega)
  obtain ⟨x, hx⟩ : ∃ x, xs[j]? = some x := ⟨_, List.getElem?_eq_getElem (by omega)⟩
  have ht : xs.take (j + 1) = xs.take j ++ [x] := by rw [List.take_add_one, hx]; rfl
  have hg : xs.getD j 0 = x := by rw [List.getD_eq_getElem?_getD, hx]; rfl
  simp only [rx]
  rw [ih, rowL_get d t hn (show j ≤ xs.length by omega), rowL_get d t hn h, hg]
  simp only [rowF]
  rw [ht, lv_snoc]
  by_cases e : x = r
  · rw [if_pos e, if_pos e.symm]; omega
  · rw [if_neg e, if_neg (fun h => e h.symm)]; omega
theorem step_row {xs : List Int} (d : Nat) (t : List Int) (r : Int) (hn : xs.length ≤ 24) : stepL xs d (rowL xs d t) r = rowL xs d (t ++ [r]) := by
 rw [← step_ref d r _ hn]
 unfold rxK rowL rowK
 refine mk_congr fun j hj => ?_
 by_cases h : j < xs.length + 1
 · rw [if_pos h, if_pos h]; exact rx_row d t r hn j (by omega)
 · rw [if_neg h, if_neg h]

/-- Dist and Alive. -/
def distN (n d : Nat) (s : List Nat) : Nat := if s.getD n 0 ≤ d then s.getD n 0 else 0
def distB (n d : Nat) (s : List Nat) : Bool := decide (s.getD n 0 ≤ d)
def aliveB (n d : Nat) (s : List Nat) : Bool := !decide (cutL n d s = deadL n d)
theorem alive_not {n d : Nat} {s : List Nat} (hn : n ≤ 24) : aliveB n d s = false ↔ ∀ j, j ≤ n → d < s.getD j 0 := by
 unfold aliveB
 simp only [Bool.not_eq_false', decide_eq_true_eq]
 constructor
 · intro h j hj
   have := mk_inj h (show j < 25 by omega)
   rw [cutF, dd, if_pos hj] at this
   omega
 · intro h
   refine mk_congr fun j _ => ?_
   rw [cutF]
   by_cases hj : j ≤ n
   · have := h j hj
     rw [dd, if_pos hj]; omega
   · rw [dd, if_neg hj]; omega
theorem rx_dead {xs : List Int} {d : Nat} {s : List Nat} (r : Int) (h : ∀ j, j ≤ xs.length → d < s.getD j 0) : ∀ j, j ≤ xs.length → rx xs d r s j = d + 1
 | 0, _ => by have := h 0 (Nat.zero_le _); simp only [rx]; omega
 | j + 1, hj => by
  have ih := rx_dead r h j (by omega)
  have h1 := h j (by omega)
  have h2 := h (j + 1) hj
  simp only [rx]
  rw [ih]
  omega
theorem step_getD {xs : List Int} (d : Nat) (r : Int) (s : List Nat) (hn : xs.length ≤ 24) {j : Nat} (h : j ≤ xs.length) : (stepL xs d s r).getD j 0 = rx xs d r s j := by
 rw [← step_ref d r s hn, rxK_get _ _ _ _ (by omega) (by omega)]
theorem dead_step {xs : List Int} {d : Nat} {s : List Nat} (r : Int) (hn : xs.length ≤ 24) (h : aliveB xs.length d s = false) : aliveB xs.length d (stepL xs d s r) = false ∧ distB xs.length d (stepL xs d s r) = false := by
 have h1 := (alive_not hn).1 h
 refine ⟨(alive_not hn).2 fun j hj => ?_, ?_⟩
 · rw [step_getD d r s hn hj, rx_dead r h1 j hj]; omega
 · rw [distB, step_getD d r s hn (Nat.le_refl _), rx_dead r h1 _ (Nat.le_refl _)]; simp
theorem dist_row {xs : List Int} (d : Nat) (t : List Int) (hn : xs.length ≤ 24) : distB xs.length d (rowL xs d t) = decide (lv t xs ≤ d) ∧ (lv t xs ≤ d → distN xs.length d (rowL xs d t) = lv t xs) := by
 have e : (rowL xs d t).getD xs.length 0 = min (lv t xs) (d + 1) := by rw [rowL_get d t hn (Nat.le_refl _), rowF, List.take_length]
 refine ⟨?_, fun h => ?_⟩
 · rw [distB, e]; apply decide_eq_decide.2; omega
 · rw [distN, e, if_pos (by omega)]; omega
end Lv
end Go.Proofs.YtncnefpkfbngaaaGreatDoor
