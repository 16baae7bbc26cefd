/- Cut: what the seat's translation lacks is left out. -/
/- letters.Word: it tells just the words that 'wordB' tells. -/
import Derived.Test.YtjfbildaaobfpaaDoorRead
import Derived.Test.YtjfbildaaobfpaaDoorTexts
namespace Go.Proofs.YtjfbildaaobfpaaDoor
open Go.RowKit Nums
set_option maxRecDepth 100000

theorem lt_of_cell {w : World} {b o : Nat} {v : Value} (h : w.cell? ⟨b, o, none⟩ = some v) : b < w.heap.size := World.block_lt_of_cell? w ⟨b, o, none⟩ h
/-- The tables are there still. -/
theorem Tabs.below {w w' : World} (h : Tabs w) (hb : Below w.heap.size w w') : Tabs w' := by
  obtain ⟨c2, c3, c4, c1, t1, t2, t3, t4⟩ := h
  refine ⟨?_, ?_, ?_, ?_, ?_, ?_, ?_, ?_⟩
  all_goals (first
    | exact (hb.cell (p := ⟨0, 2, none⟩) (lt_of_cell c2)).trans c2
    | exact (hb.cell (p := ⟨0, 3, none⟩) (lt_of_cell c3)).trans c3
    | exact (hb.cell (p := ⟨0, 4, none⟩) (lt_of_cell c4)).trans c4
    | exact (hb.cell (p := ⟨0, 1, none⟩) (lt_of_cell c1)).trans c1
    | exact (hb.cell (p := ⟨1, 1, none⟩) (lt_of_cell t1)).trans t1
    | exact (hb.cell (p := ⟨1, 2, none⟩) (lt_of_cell t2)).trans t2
    | exact (hb.cell (p := ⟨1, 3, none⟩) (lt_of_cell t3)).trans t3
    | exact (hb.cell (p := ⟨1, 4, none⟩) (lt_of_cell t4)).trans t4)
theorem Tabs.drewN {w : World} (h : Tabs w) (n : Nat) : Tabs (w.drewN n) := h

theorem ne_of_size {s : ByteArray} (h : 0 < s.size) : s.data.toList ≠ [] := by
  intro e; have := size_length s; rw [e] at this; simp at this; omega
theorem nil_of_size {s : ByteArray} (h : ¬ 0 < s.size) : s.data.toList = [] := List.length_eq_zero_iff.1 (by rw [size_length]; omega)

end Go.Proofs.YtjfbildaaobfpaaDoor
