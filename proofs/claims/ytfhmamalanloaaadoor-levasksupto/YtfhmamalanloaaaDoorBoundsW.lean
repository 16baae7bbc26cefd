/- Cut: what the seat's translation lacks is left out. -/
/- EditBounds: the walk. -/
import Derived.Test.YtfhmamalanloaaaDoorEdRef
namespace Go.Proofs.YtfhmamalanloaaaDoor
open Go.RowKit Nums Ed
set_option maxRecDepth 100000

/-- The runes of a text, or none. -/
def rl (l : List UInt8) : List Int := (rs l).getD []
theorem rl_len (l : List UInt8) : (rl l).length ≤ l.length := by
  unfold rl
  cases h : rs l with
  | none => simp
  | some xs => exact (rs_len h).2
theorem rl_some {l : List UInt8} {xs : List Int} (h : rs l = some xs) : rl l = xs := by unfold rl; rw [h]; rfl
theorem RunSays.runes {w w' : World} {l : List UInt8} {v : Value} {f : Bool} (h : RunSays w w' l v f) : RunesAt w'.heap.size w' v (rl l) := by
  rcases h with ⟨_, h, rfl⟩ | ⟨_, xs, h, m⟩
  · unfold rl; rw [h]; exact ⟨none, 0, rfl, fun h => by simp at h⟩
  · rw [rl_some h]; exact m.runes
theorem RunSays.flag {w w' : World} {l : List UInt8} {v : Value} {f : Bool} (h : RunSays w w' l v f) : f = (rs l).isSome := by
  rcases h with ⟨rfl, h, rfl⟩ | ⟨rfl, xs, h, m⟩
  · rw [h]; rfl
  · rw [h]; rfl
theorem RefRunes_acc {w0 w : World} (h : Acc w0 w) (s : ByteArray) (hm : s.size ≤ 1000000) :
    Calls Tryd.prog 26 #[.string s] w fun e w' => ∃ v, e = .returned (.tuple #[v, .bool (rs s.data.toList).isSome]) ∧ Acc w0 w' ∧ Below w.heap.size w w' ∧ RunesAt w'.heap.size w' v (rl s.data.toList) := by
  refine (RefRunes_is s w hm).mono ?_
  rintro e w' ⟨v, f, rfl, hb, hs⟩
  exact ⟨v, by rw [hs.flag], h.step hb, hb, hs.runes⟩
def max2 (a b : Int) : Int := if a < b then b else a
theorem run_max2 (ts : Array TypeId) (ty : TypeId) (k : IntKind) (a b : Int) (w : World) : (Builtin.max_ ts ty #[.int k a, .int k b]).run Tryd.prog w = .ok (.int k (max2 a b)) w := by
  simp [Builtin.max_, Builtin.max2, max2, Sem.run_pure]
attribute [local go_sem ↓] run_max2

end Go.Proofs.YtfhmamalanloaaaDoor
