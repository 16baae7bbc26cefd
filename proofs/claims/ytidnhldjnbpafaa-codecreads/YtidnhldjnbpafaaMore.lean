/- What was written, read by a reader. -/
import Derived.Test.YtidnhldjnbpafaaSeal
import Derived.Test.YtidnhldjnbpafaaStep
namespace Go.Proofs.Ytidnhldjnbpafaa
open Go.RowKit

theorem Rd.lt {w : World} {rb : Nat} {xs : List Nat} {e : Int} (h : Rd w rb xs e) : rb < w.heap.size := by
  obtain ⟨v, h1, _⟩ := h
  exact (Array.getElem?_eq_some_iff.1 h1).1
theorem front_write {m most : Nat} (h : m < 18446744073709551616) (hm : m ≤ most) (r : List Nat) : front (uw m ++ r) most = (m, (uw m).length, 0) := by
  unfold front; rw [num_write h, if_neg (by omega)]
theorem uint_write {m most : Nat} (h : m < 18446744073709551616) (hm : m ≤ most) (r : List Nat) : uintR (uw m ++ r) 0 most = (m, r, 0) := by
  rw [uintR, if_neg (by simp), front_write h hm, if_neg (by simp)]
  simp
theorem bytes_write {xs : List Nat} {m : Int} (h : xs.length < 18446744073709551616) (hm : xs.length ≤ mostN m) (r : List Nat) : bytesR (uw xs.length ++ xs ++ r) 0 m = (xs, r, 0) := by
  rw [bytesR, if_neg (by simp), List.append_assoc, front_write h hm, if_neg (by simp)]
  rw [if_neg (by simp)]
  simp

end Go.Proofs.Ytidnhldjnbpafaa
