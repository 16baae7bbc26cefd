/- Texts that were written apart, joined. -/
import Derived.Test.YthfngcpcccbnpaaDoorE2
import Derived.Test.YthfngcpcccbnpaaDoorG7
import Derived.Test.YthfngcpcccbnpaaDoorG8
import Derived.Deep.RegionHeld3
import Derived.Deep.DrawnRows
import Derived.Deep.QuietTactic
import Derived.BigQuiet
/- The reference's Far: the same distance. -/
namespace Go.Proofs.YthfngcpcccbnpaaDoor
open Go.RowKit Nums Ed
set_option maxRecDepth 100000

/-- A row of numbers that the call has made. -/
def MadeI (B : Nat) (w : World) (v : Value) (xs : List Int) : Prop := w.ownsRow B 3 1 v xs.length (xs.map (Value.int .i64))
theorem MadeI.below {B : Nat} {w w' : World} {v : Value} {xs : List Int} (h : MadeI B w v xs) (hb : Below w.heap.size w w') : MadeI B w' v xs := by
  obtain ⟨hl, hn | ⟨g, cap, cur, rfl, h1, hg, h2⟩⟩ := h
  · exact ⟨hl, .inl hn⟩
  · exact ⟨hl, .inr ⟨g, cap, cur, rfl, h1, (hb.block g (Array.getElem?_eq_some_iff.1 hg).1).trans hg, h2⟩⟩
theorem MadeI.mono {B B' : Nat} {w : World} {v : Value} {xs : List Int} (h : MadeI B w v xs) (hB : B' ≤ B) : MadeI B' w v xs := by
  obtain ⟨hl, hn | ⟨g, cap, cur, rfl, h1, h2⟩⟩ := h
  · exact ⟨hl, .inl hn⟩
  · exact ⟨hl, .inr ⟨g, cap, cur, rfl, by omega, h2⟩⟩
theorem MadeI.at {B : Nat} {w : World} {v : Value} {xs : List Int} (h : MadeI B w v xs) (h0 : 0 < xs.length) : ∃ g cap, v = .slice (some ⟨g, 0, none⟩) xs.length cap ∧ ∀ (i : Nat) (x : Int), xs[i]? = some x → w.cell? ⟨g, i, none⟩ = some (.int .i64 x) := by
  obtain ⟨hl, hn | ⟨g, cap, cur, rfl, hb, hg, h1, h2, h3, h4⟩⟩ := h
  · omega
  · refine ⟨g, cap, rfl, fun i x hi => ?_⟩
    have hi' := (List.getElem?_eq_some_iff.1 hi).1
    have hc : cur[i]? = some (.int .i64 x) := by
      have e : (cur.toList.take (xs.length * 1))[i]? = (xs.map (Value.int .i64))[i]? := by rw [h4]
      rw [List.getElem?_take, if_pos (by omega)] at e
      rw [← Array.getElem?_toList, e, List.getElem?_map, hi]
      rfl
    simp only [World.cell?, hg]
    simpa using hc
theorem MadeI.new (w : World) (x : Int) : MadeI w.heap.size (w.alloc (.cells #[.int .i64 x] 3)) (.slice (some ⟨w.heap.size, 0, none⟩) 1 1) [x] :=
  ⟨rfl, .inr ⟨w.heap.size, 1, #[.int .i64 x], rfl, Nat.le_refl _, (MapKept.heap_alloc w _).1, Nat.le_refl _, by decide, rfl, rfl⟩⟩

attribute [local go_sem ↓] run_min3
end Go.Proofs.YthfngcpcccbnpaaDoor

/- The reference's Distance. -/
namespace Go.Proofs.YthfngcpcccbnpaaDoor
open Go.RowKit Nums Ed
set_option maxRecDepth 100000

/-- What the reference's Runes has told of a text. -/
def RunSays (w w' : World) (l : List UInt8) (v : Value) (f : Bool) : Prop :=
  (f = false ∧ rs l = none ∧ v = .slice none 0 0) ∨ (f = true ∧ ∃ xs, rs l = some xs ∧ Made w.heap.size w' v xs)
end Go.Proofs.YthfngcpcccbnpaaDoor

/- Cut: what the seat's translation lacks is left out. -/
/- EditBounds: the walk. -/
namespace Go.Proofs.YthfngcpcccbnpaaDoor
open Go.RowKit Nums Ed
set_option maxRecDepth 100000

/-- The runes of a text, or none. -/
def rl (l : List UInt8) : List Int := (rs l).getD []
theorem rl_some {l : List UInt8} {xs : List Int} (h : rs l = some xs) : rl l = xs := by unfold rl; rw [h]; rfl
theorem RunSays.runesE {w w' : World} {l : List UInt8} {v : Value} {f : Bool} (h : RunSays w w' l v f) : RunesAt w'.heap.size w' v (rl l) := by
  rcases h with ⟨_, h, rfl⟩ | ⟨_, xs, h, m⟩
  · unfold rl; rw [h]; exact ⟨none, 0, rfl, fun h => by simp at h⟩
  · rw [rl_some h]; exact m.runesE
def max2 (a b : Int) : Int := if a < b then b else a
theorem run_max2 (ts : Array TypeId) (ty : TypeId) (k : IntKind) (a b : Int) (w : World) : (Builtin.max_ ts ty #[.int k a, .int k b]).run Tryd.prog w = .ok (.int k (max2 a b)) w := by
  simp [Builtin.max_, Builtin.max2, max2, Sem.run_pure]
attribute [local go_sem ↓] run_max2

end Go.Proofs.YthfngcpcccbnpaaDoor
