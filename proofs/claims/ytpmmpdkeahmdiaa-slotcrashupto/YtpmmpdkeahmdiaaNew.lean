/- disk.New. -/
import Derived.Test.YtpmmpdkeahmdiaaSmall
namespace Go.Proofs.Ytpmmpdkeahmdiaa
open Go.RowKit
set_option maxRecDepth 100000

def newD (room : Int) : DS := { room := max room 0, steps := 0, ahead := 0, dead := false, armed := false, secs := [] }
theorem alloc_new (w : World) (o : Obj) : (w.alloc o).heap[w.heap.size]? = some o := (MapKept.heap_alloc w o).1
theorem alloc_old (w : World) (o : Obj) {k : Nat} (h : k < w.heap.size) : (w.alloc o).heap[k]? = w.heap[k]? := (MapKept.heap_alloc w o).2 k h
theorem alloc_size (w : World) (o : Obj) : (w.alloc o).heap.size = w.heap.size + 1 := by simp
def newW (w : World) (r : Int) : World := ((w.alloc (.map #[] 0)).alloc (.map #[] 0)).alloc (dC r 0 0 false false 0 w.heap.size (w.heap.size + 1))
theorem new_disk (w : World) (room : Int) (r : Int) (hr : max room 0 = r) (h2 : r ≤ 9223372036854775807) :
    DiskAt 0 (newW w r) (w.heap.size + 1 + 1) (newD room) [w.heap.size + 1 + 1, w.heap.size, w.heap.size + 1] ∧ Below w.heap.size w (newW w r) ∧ ∀ b ∈ [w.heap.size + 1 + 1, w.heap.size, w.heap.size + 1], w.heap.size ≤ b := by
  have s1 := alloc_size w (.map #[] 0)
  have s2 := alloc_size (w.alloc (.map #[] 0)) (.map #[] 0)
  have e0 : (newW w r).heap[w.heap.size + 1 + 1]? = some (dC r 0 0 false false 0 w.heap.size (w.heap.size + 1)) := by
    have := alloc_new ((w.alloc (.map #[] 0)).alloc (.map #[] 0)) (dC r 0 0 false false 0 w.heap.size (w.heap.size + 1))
    rw [s2, s1] at this
    exact this
  have e1 : (newW w r).heap[w.heap.size]? = some (.map #[] 0) := by
    rw [newW, alloc_old _ _ (by rw [s2, s1]; omega), alloc_old _ _ (by rw [s1]; omega), alloc_new]
  have e2 : (newW w r).heap[w.heap.size + 1]? = some (.map #[] 0) := by
    have := alloc_new (w.alloc (.map #[] 0)) (.map #[] 0)
    rw [s1] at this
    rw [newW, alloc_old _ _ (by rw [s2, s1]; omega), this]
  refine ⟨⟨{ lb := w.heap.size, fb := w.heap.size + 1, L := [], F := [] }, ?_, ⟨⟨#[], 0, e1, rfl, by simp [keys], by simp, by simp⟩, ⟨#[], 0, e2, rfl, by simp [keys], by simp, by simp⟩, by simp, by simp⟩, ⟨by simp [newD], ?_, ?_, by simp [newD]⟩, rfl, ?_, ?_, ?_, ?_, ?_, ?_, ?_, ?_, ?_, ?_, ?_⟩, ?_, ?_⟩
  · rw [e0, ← hr]; rfl
  · intro a n; rfl
  · intro a n; rfl
  · simp; omega
  · show 0 ≤ max room 0; omega
  · show max room 0 ≤ _; omega
  · show (0 : Int) ≤ 0; omega
  · show (0 : Int) ≤ (0 : Nat); omega
  · exact Nat.le_refl _
  · show ((0 : Nat) : Int) ≤ max room 0; omega
  · intro s hs; cases hs
  · show (-9223372036854775808 : Int) ≤ 0; omega
  · show (0 : Int) ≤ _; omega
  · intro h; cases h
  · unfold newW
    exact (((Below.refl _ _).alloc (Nat.le_refl _) _).alloc (by simp) _).alloc (by simp; omega) _
  · intro b hb
    simp only [List.mem_cons, List.not_mem_nil, or_false] at hb
    omega
set_option maxHeartbeats 2000000 in
theorem New_any (room : Int) (w : World) (h1 : -9223372036854775808 ≤ room) (h2 : room ≤ 9223372036854775807) :
    Calls Try.prog 18 #[.int .i64 room] w fun x w' => ∃ p fp, x = .returned (.pointer (some ⟨p, 0, none⟩)) ∧ DiskAt 0 w' p (newD room) fp ∧ Below w.heap.size w w' ∧ ∀ b ∈ fp, w.heap.size ≤ b := by
  have hmm := @run_makeMap Try.prog
  go_enter Try.func18, Try.ntmps18
  go_wp2
  · go_ret
    obtain ⟨k1, k2, k3⟩ := new_disk w room 0 (by omega) (by omega)
    exact ⟨_, rfl, _, k1, k2, k3⟩
  · go_ret
    obtain ⟨k1, k2, k3⟩ := new_disk w room room (by omega) (by omega)
    exact ⟨_, rfl, _, k1, k2, k3⟩
end Go.Proofs.Ytpmmpdkeahmdiaa
