/- Cut: what the seat's translation lacks is left out. -/
/- letters.Word: it tells just the words that 'wordB' tells. -/
import Derived.Test.YtmpfcdffpjocnaaRead
import Derived.Test.YtmpfcdffpjocnaaTexts
namespace Go.Proofs.Ytmpfcdffpjocnaa
open Go.RowKit Nums
set_option maxRecDepth 100000

theorem lt_of_cell {w : World} {b o : Nat} {v : Value} (h : w.cell? ⟨b, o, none⟩ = some v) : b < w.heap.size := World.block_lt_of_cell? w ⟨b, o, none⟩ h
theorem ne_of_size {s : ByteArray} (h : 0 < s.size) : s.data.toList ≠ [] := by
  intro e; have := size_length s; rw [e] at this; simp at this; omega
theorem nil_of_size {s : ByteArray} (h : ¬ 0 < s.size) : s.data.toList = [] := List.length_eq_zero_iff.1 (by rw [size_length]; omega)

end Go.Proofs.Ytmpfcdffpjocnaa
