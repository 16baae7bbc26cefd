/- Cut: what the seat's translation lacks is left out. -/
/- The reference's Distance. -/
import Derived.Test.YtfhmamalanloaaaDoorEdFar
namespace Go.Proofs.YtfhmamalanloaaaDoor
open Go.RowKit Nums Ed
set_option maxRecDepth 100000

/-- What the reference's Runes has told of a text. -/
def RunSays (w w' : World) (l : List UInt8) (v : Value) (f : Bool) : Prop :=
  (f = false ∧ rs l = none ∧ v = .slice none 0 0) ∨ (f = true ∧ ∃ xs, rs l = some xs ∧ Made w.heap.size w' v xs)
theorem RefRunes_is (s : ByteArray) (w : World) (hm : s.size ≤ 1000000) :
    Calls Tryd.prog 26 #[.string s] w fun e w' => ∃ v f, e = .returned (.tuple #[v, .bool f]) ∧ Below w.heap.size w w' ∧ RunSays w w' s.data.toList v f := by
  refine (RefRunes_any s w (by omega) (room_of_length (by rw [size_length]; omega))).mono ?_
  rintro e w' ⟨v, hb, ⟨hn, rfl, rfl⟩ | ⟨xs, hs, rfl, hm⟩⟩
  · exact ⟨_, _, rfl, hb, .inl ⟨rfl, hn, rfl⟩⟩
  · exact ⟨_, _, rfl, hb, .inr ⟨rfl, xs, hs, hm⟩⟩

end Go.Proofs.YtfhmamalanloaaaDoor
