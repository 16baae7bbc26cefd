/- Lines with holes: mathematics of ways. -/
import Derived.Test.YtjfbildaaobfpaaDoorPtSaid
namespace Go.Proofs.YtjfbildaaobfpaaDoor
open Go.RowKit Nums Ed
set_option maxRecDepth 100000

/-- At how many places two lines differ. -/
def dif : List Int → List Int → Nat
  | x :: a, y :: b => (if x = y then 0 else 1) + dif a b
  | _, _ => 0
theorem un_cons (x : Int) (l : List Int) : un (x :: l) = if x = -1 then un l else x :: un l := by
  unfold un
  by_cases h : x = -1
  · rw [if_pos h, List.filter_cons_of_neg (by simp [h])]
  · rw [if_neg h, List.filter_cons_of_pos (by simp [h])]
theorem un_append (a b : List Int) : un (a ++ b) = un a ++ un b := List.filter_append a b
theorem un_all {l : List Int} (h : ∀ x ∈ l, x ≠ -1) : un l = l := List.filter_eq_self.2 (fun x hx => by simpa using h x hx)
theorem dif_append : ∀ (a b c d : List Int), a.length = b.length → dif (a ++ c) (b ++ d) = dif a b + dif c d
  | [], [], c, d, _ => by simp [dif]
  | [], _ :: _, c, d, h => by simp at h
  | _ :: _, [], c, d, h => by simp at h
  | x :: a, y :: b, c, d, h => by
    rw [List.cons_append, List.cons_append, dif, dif, dif_append a b c d (by simpa using h)]
    omega
theorem dif_rev : ∀ (a b : List Int), a.length = b.length → dif a.reverse b.reverse = dif a b
  | [], [], _ => rfl
  | [], _ :: _, h => by simp at h
  | _ :: _, [], h => by simp at h
  | x :: a, y :: b, h => by
    have h' : a.length = b.length := by simpa using h
    rw [List.reverse_cons, List.reverse_cons, dif_append _ _ _ _ (by simp [h']), dif_rev a b h', dif]
    simp [dif]
    omega
theorem dif_zero : ∀ (a b : List Int), a.length = b.length → (∀ k, k < a.length → a[k]? = b[k]?) → dif a b = 0 ∧ a = b := by
  intro a b hl h
  have e : a = b := List.ext_getElem? (fun i => by
    by_cases hi : i < a.length
    · exact h i hi
    · rw [List.getElem?_eq_none (by omega), List.getElem?_eq_none (by omega)])
  subst e
  refine ⟨?_, rfl⟩
  clear h hl
  induction a with
  | nil => rfl
  | cons x a ih => simp [dif, ih]
theorem dif_set : ∀ (a b : List Int) (k : Nat) (x y : Int), a[k]? = some x → b[k]? = some y → x ≠ y → dif (a.set k y) b + 1 = dif a b
  | [], _, k, x, y, h, _, _ => by simp at h
  | _ :: _, [], k, x, y, _, h, _ => by simp at h
  | c :: a, d :: b, 0, x, y, h1, h2, hne => by
    simp at h1 h2
    subst h1; subst h2
    rw [List.set_cons_zero, dif, dif, if_pos rfl, if_neg hne]
    omega
  | c :: a, d :: b, k + 1, x, y, h1, h2, hne => by
    have := dif_set a b k x y (by simpa using h1) (by simpa using h2) hne
    rw [List.set_cons_succ, dif, dif]
    omega
/-- A line of which one place is turned is one edit from itself. -/
theorem set_once {l : List Int} {k : Nat} {x y : Int} (hx : l[k]? = some x) (hne : x ≠ y) : lv (un l) (un (l.set k y)) = 1 := by
  obtain ⟨hk, rfl⟩ := List.getElem?_eq_some_iff.1 hx
  have e1 : l = l.take k ++ l[k] :: l.drop (k + 1) := by rw [← List.drop_eq_getElem_cons hk, List.take_append_drop]
  have e2 : l.set k y = l.take k ++ y :: l.drop (k + 1) := List.set_eq_take_append_cons_drop.trans (by rw [if_pos hk])
  have hle : lv (un l) (un (l.set k y)) = lv (un (l[k] :: l.drop (k + 1))) (un (y :: l.drop (k + 1))) := by
    have eu : un l = un (l.take k) ++ un (l[k] :: l.drop (k + 1)) := by rw [← un_append, ← e1]
    rw [e2, eu, un_append, lv_pre]
  rw [hle, un_cons, un_cons]
  generalize un (l.drop (k + 1)) = t
  by_cases c1 : l[k] = -1
  · rw [if_pos c1, if_neg (fun e => hne (c1.trans e.symm))]
    have h1 : lv t (y :: t) ≤ 1 := lv_al (.ins (Al.refl t))
    have h2 := lv_bds t (y :: t)
    simp only [List.length_cons] at h2
    omega
  · rw [if_neg c1]
    by_cases c2 : y = -1
    · rw [if_pos c2]
      have h1 : lv (l[k] :: t) t ≤ 1 := lv_al (.del (Al.refl t))
      have h2 := lv_bds (l[k] :: t) t
      simp only [List.length_cons] at h2
      omega
    · rw [if_neg c2]
      have h1 : lv (l[k] :: t) (y :: t) ≤ 1 := lv_al (.sub hne (Al.refl t))
      have h2 : lv (l[k] :: t) (y :: t) ≠ 0 := fun e => hne (by have := lv_zero.1 e; simpa using this)
      omega
/-- Texts, one edit from each other. -/
structure Way (ls : List (List Int)) (x : List Int) (z : List Int) : Prop where
  first : ls[0]? = some x
  last : ls[ls.length - 1]? = some z
  once : ∀ i a b, ls[i]? = some a → ls[i + 1]? = some b → lv a b = 1
theorem Way.one (x : List Int) : Way [x] x x := ⟨rfl, rfl, fun i a b _ h => by simp at h⟩
theorem Way.pos {ls : List (List Int)} {x z : List Int} (h : Way ls x z) : 0 < ls.length := (List.getElem?_eq_some_iff.1 h.first).1
theorem Way.snoc {ls : List (List Int)} {x z y : List Int} (h : Way ls x z) (ho : lv z y = 1) : Way (ls ++ [y]) x y := by
  have hp := h.pos
  refine ⟨by rw [List.getElem?_append_left hp]; exact h.first, by rw [List.length_append]; simp, fun i a b h1 h2 => ?_⟩
  by_cases c : i + 1 < ls.length
  · rw [List.getElem?_append_left (by omega)] at h1
    rw [List.getElem?_append_left c] at h2
    exact h.once i a b h1 h2
  · have hi : i + 1 = ls.length := by
      have := (List.getElem?_eq_some_iff.1 h2).1
      simp at this; omega
    rw [List.getElem?_append_left (by omega)] at h1
    rw [hi, List.getElem?_append_right (Nat.le_refl _)] at h2
    simp at h2
    subst h2
    have h3 := h.last
    rw [show ls.length - 1 = i by omega, h1] at h3
    obtain rfl := Option.some.inj h3
    exact ho

theorem dif_le : ∀ a b : List Int, dif a b ≤ a.length
  | [], _ => by simp [dif]
  | _ :: _, [] => by simp [dif]
  | x :: a, y :: b => by
    have := dif_le a b
    simp only [dif, List.length_cons]
    split <;> omega
/-- What a place of a line may hold. -/
def okR (x : Int) : Prop := x = -1 ∨ isR x = true
theorem isR_ne {x : Int} (h : isR x = true) : x ≠ -1 := by have := isR_bd h; omega
theorem un_isR {l : List Int} (h : ∀ x ∈ l, okR x) : (un l).all isR = true := by
  rw [List.all_eq_true]
  intro x hx
  unfold un at hx
  rw [List.mem_filter] at hx
  rcases h x hx.1 with e | e
  · rw [e] at hx; simp at hx
  · exact e
end Go.Proofs.YtjfbildaaobfpaaDoor
