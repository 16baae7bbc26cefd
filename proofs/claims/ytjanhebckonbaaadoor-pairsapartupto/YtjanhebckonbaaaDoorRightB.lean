/- What makes a list a dictionary: plain mathematics over rows. -/
import Derived.Test.YtjanhebckonbaaaDoorAhead
import Derived.Test.YtjanhebckonbaaaDoorDel
namespace Go.Proofs.YtjanhebckonbaaaDoor
open Go.RowKit Nums Pm
set_option maxRecDepth 100000

def prevOk : Option Pr → Pr → Bool
  | none, _ => true
  | some p, x => lessB p.1 x.1
def oneOk (x : Pr) : Bool := wordB x.1.data.toList && (decide (1 ≤ x.2) && decide (x.2 ≤ 1048576))
def rightFrom (p : Option Pr) : List Pr → Bool
  | [] => true
  | x :: r => oneOk x && (prevOk p x && rightFrom (some x) r)
/-- Is it a dictionary? -/
def rightP (l : List Pr) : Bool := decide (l.length ≤ 4096) && rightFrom none l
def prevAt (l : List Pr) : Nat → Option Pr
  | 0 => none
  | k + 1 => l[k]?
theorem right_long {l : List Pr} (h : ¬ l.length ≤ 4096) : rightP l = false := by simp [rightP, h]
theorem right_start {l : List Pr} (h : l.length ≤ 4096) : rightP l = rightFrom (prevAt l 0) (l.drop 0) := by simp [rightP, h, prevAt]
theorem right_bad {l : List Pr} {k : Nat} {x : Pr} (hx : l[k]? = some x) (h : oneOk x = false) : rightFrom (prevAt l k) (l.drop k) = false := by rw [drop_at l k x hx, rightFrom, h]; rfl
theorem right_low {l : List Pr} {k : Nat} {x y : Pr} (hx : l[k + 1]? = some x) (hy : l[k]? = some y) (h : lessB y.1 x.1 = false) : rightFrom (prevAt l (k + 1)) (l.drop (k + 1)) = false := by
  rw [drop_at l (k + 1) x hx, rightFrom, prevAt, hy, prevOk, h]
  simp
theorem right_step0 {l : List Pr} {x : Pr} (hx : l[0]? = some x) (h : oneOk x = true) : rightFrom (prevAt l 0) (l.drop 0) = rightFrom (prevAt l 1) (l.drop 1) := by
  rw [drop_at l 0 x hx, rightFrom, h, prevAt, prevAt, prevOk, hx]
  rfl
theorem right_step {l : List Pr} {k : Nat} {x y : Pr} (hx : l[k + 1]? = some x) (hy : l[k]? = some y) (h : oneOk x = true) (h2 : lessB y.1 x.1 = true) : rightFrom (prevAt l (k + 1)) (l.drop (k + 1)) = rightFrom (prevAt l (k + 1 + 1)) (l.drop (k + 1 + 1)) := by
  rw [drop_at l (k + 1) x hx, rightFrom, h, prevAt, prevAt, hy, prevOk, hx, h2]
  rfl
theorem right_end {l : List Pr} {k : Nat} (h : l.length ≤ k) : rightFrom (prevAt l k) (l.drop k) = true := by rw [List.drop_eq_nil_of_le h]; rfl
theorem one_word {x : Pr} (h : wordB x.1.data.toList = false) : oneOk x = false := by simp [oneOk, h]
theorem one_low {x : Pr} (h : x.2 < 1) : oneOk x = false := by simp [oneOk]; intro _ h2; omega
theorem one_high {x : Pr} (h : 1048576 < x.2) : oneOk x = false := by simp [oneOk]; omega
theorem one_ok {x : Pr} (h : wordB x.1.data.toList = true) (h1 : ¬ x.2 < 1) (h2 : ¬ 1048576 < x.2) : oneOk x = true := by simp [oneOk, h]; omega
/-- Strings that can be. -/
def Sm (l : List Pr) : Prop := ∀ x ∈ l, x.1.size ≤ 9223372036854775807
theorem Sm.at {l : List Pr} (h : Sm l) {k : Nat} {x : Pr} (hx : l[k]? = some x) : x.1.size ≤ 9223372036854775807 := h x (List.mem_of_getElem? hx)
end Go.Proofs.YtjanhebckonbaaaDoor
