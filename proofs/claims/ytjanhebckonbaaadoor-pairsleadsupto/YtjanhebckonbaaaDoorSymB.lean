/- What slices.symMergeCmpFunc leans on: places in rows that are in order. -/
import Derived.Test.YtjanhebckonbaaaDoorRot
namespace Go.Proofs.YtjanhebckonbaaaDoor
open Go.RowKit Go.Shelf Go.Lib Go.Sort Pm
set_option maxRecDepth 1000000

theorem lt_of_cf {x y : Pr} (h : lessB x.1 y.1 = true) : cfP x y < 0 := by unfold cfP; rw [if_pos h]; decide
theorem not_lt_of_cf {x y : Pr} (h : lessB x.1 y.1 = false) : ¬ cfP x y < 0 := by
  unfold cfP
  rw [h]
  cases lessB y.1 x.1 <;> decide
/-- All of a row in order are ahead of x if the last is. -/
theorem all_lt {R : List Pr} {u x : Pr} (h : Up lessB (R ++ [u])) (hu : lessB u.1 x.1 = true) : ∀ v ∈ R ++ [u], lessB v.1 x.1 = true := fun v hv =>
  up_lt lessB_sto (L := []) h (List.pairwise_singleton ..) hu v hv x (List.mem_singleton.2 rfl)
/-- None of a row in order is ahead of x if the first is not. -/
theorem all_ge {R : List Pr} {u x : Pr} (h : Up lessB (u :: R)) (hu : lessB u.1 x.1 = false) : ∀ v ∈ u :: R, lessB v.1 x.1 = false := fun v hv =>
  up_le lessB_sto (L := []) (List.pairwise_singleton ..) h hu x (by simp) v hv
theorem all_le {R : List Pr} {u y : Pr} (h : Up lessB (R ++ [u])) (hu : lessB y.1 u.1 = false) : ∀ v ∈ R ++ [u], lessB y.1 v.1 = false := fun v hv =>
  up_le lessB_sto (R := []) h (List.pairwise_singleton ..) hu v hv y (List.mem_singleton.2 rfl)
theorem all_gt {R : List Pr} {u y : Pr} (h : Up lessB (u :: R)) (hu : lessB y.1 u.1 = true) : ∀ v ∈ u :: R, lessB y.1 v.1 = true := fun v hv =>
  up_lt lessB_sto (R := []) (List.pairwise_singleton ..) h hu y (by simp) v hv
theorem up_left {a b : List Pr} (h : Up lessB (a ++ b)) : Up lessB a := (List.pairwise_append.1 h).1
theorem up_right {a b : List Pr} (h : Up lessB (a ++ b)) : Up lessB b := (List.pairwise_append.1 h).2.1
/-- A row parted at a place: what lies at the place, and ahead of it. -/
theorem part_at (P L S : List Pr) (i : Nat) (h1 : P.length ≤ i) (h2 : i ≤ P.length + L.length) : ∃ L1 L2, L = L1 ++ L2 ∧ P.length + L1.length = i ∧
    (0 < L1.length → ∃ a u, L1 = a ++ [u] ∧ (P ++ (L ++ S)).toArray[i - 1]! = u) ∧ (0 < L2.length → ∃ u b, L2 = u :: b ∧ (P ++ (L ++ S)).toArray[i]! = u) := by
  obtain ⟨L1, L2, rfl, hl⟩ := cut_at L (i - P.length) (by omega)
  refine ⟨L1, L2, rfl, by omega, fun h => ?_, fun h => ?_⟩
  · obtain ⟨a, u, rfl⟩ := cut_last L1 h
    exact ⟨a, u, rfl, Pm.get_at _ (P ++ a) (L2 ++ S) u (i - 1) (by simp) (by simp at hl ⊢; omega)⟩
  · cases L2 with
    | nil => simp at h
    | cons u b => exact ⟨u, b, rfl, Pm.get_at _ (P ++ L1) (b ++ S) u i (by simp) (by simp at hl ⊢; omega)⟩
end Go.Proofs.YtjanhebckonbaaaDoor
