/- Cut: what the seat's translation lacks is left out. -/
/- edit.rows, read, both. -/
import Derived.Test.YtfhmamalanloaaaDoorEdNext
import Derived.Handy
namespace Go.Proofs.YtfhmamalanloaaaDoor
open Go.RowKit Nums Ed
set_option maxRecDepth 100000

/-- What both tells of two texts. -/
def BothSays (w w' : World) (a b : List UInt8) (v u : Value) (f : Bool) : Prop :=
  Below w.heap.size w w' ∧ ((f = false ∧ dsE a b = none) ∨ (f = true ∧ ∃ xs ys, rsE a = some xs ∧ rsE b = some ys ∧ Made w.heap.size w' v xs ∧ Made w.heap.size w' u ys))
theorem Made.mono {B B' : Nat} {w : World} {v : Value} {xs : List Int} (h : Made B w v xs) (hB : B' ≤ B) : Made B' w v xs := by
  obtain ⟨hl, hn | ⟨g, cap, cur, rfl, h1, h2⟩⟩ := h
  · exact ⟨hl, .inl hn⟩
  · exact ⟨hl, .inr ⟨g, cap, cur, rfl, by omega, h2⟩⟩
end Go.Proofs.YtfhmamalanloaaaDoor
