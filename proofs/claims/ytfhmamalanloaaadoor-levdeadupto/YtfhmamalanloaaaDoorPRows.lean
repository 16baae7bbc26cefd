/- Cut: what the seat's translation lacks is left out. -/
/- Rows of pairs: what is read, what the call has made; append; a row behind the sort. -/
import Derived.Test.YtfhmamalanloaaaDoorPBase
import Derived.Laws.AppendOwnNone
namespace Go.Proofs.YtfhmamalanloaaaDoor
open Go.RowKit Go.Lib Pm
set_option maxRecDepth 100000

theorem belowN {B : Nat} {a w : World} (h : Below B a w) (n : Nat) : Below B a (w.drewN n) := ⟨h.os, h.tape, h.output, h.size, h.block⟩
def cellsP (l : List Pr) : List Value := l.flatMap encP
theorem cellsP_len : ∀ l : List Pr, (cellsP l).length = l.length * 2
  | [] => rfl
  | x :: r => by rw [cellsP, List.flatMap_cons, List.length_append, ← cellsP, cellsP_len r, encP_k, List.length_cons]; omega
theorem cellsP_append (a b : List Pr) : cellsP (a ++ b) = cellsP a ++ cellsP b := List.flatMap_append ..
theorem cellsP_snoc (l : List Pr) (x : Pr) : cellsP (l ++ [x]) = cellsP l ++ encP x := by rw [cellsP_append]; simp [cellsP]
theorem cellsP_get : ∀ (l : List Pr) (i j : Nat) (x : Pr), l[i]? = some x → j < 2 → (cellsP l)[i * 2 + j]? = (encP x)[j]?
  | y :: r, 0, j, x, h, hj => by
    simp only [List.getElem?_cons_zero, Option.some.injEq] at h
    subst h
    rw [cellsP, List.flatMap_cons, List.getElem?_append_left (by rw [encP_k]; omega)]
    simp
  | y :: r, i + 1, j, x, h, hj => by
    have ih := cellsP_get r i j x (by simpa using h) hj
    rw [cellsP, List.flatMap_cons, List.getElem?_append_right (by rw [encP_k]; omega), encP_k]
    rw [show (i + 1) * 2 + j - 2 = i * 2 + j by omega]
    exact ih
theorem cellsP_one (l : List Pr) : ∀ v ∈ cellsP l, v.oneCell' = true := by
  intro v hv
  obtain ⟨x, _, hx⟩ := List.mem_flatMap.1 hv
  exact encP_one x v hx
/-- The two cells of a pair. -/
structure TwoAt (w : World) (g o : Nat) (x : Pr) : Prop where
  c0 : w.cell? ⟨g, o, none⟩ = some (.string x.1)
  c1 : w.cell? ⟨g, o + 1, none⟩ = some (.int .i64 x.2)
theorem TwoAt.below {w w' : World} {g o : Nat} {x : Pr} (h : TwoAt w g o x) {B : Nat} (hg : g < B) (hb : Below B w w') : TwoAt w' g o x :=
  ⟨(hb.cell (p := ⟨g, o, none⟩) hg).trans h.c0, (hb.cell (p := ⟨g, o + 1, none⟩) hg).trans h.c1⟩
theorem TwoAt.lt {w : World} {g o : Nat} {x : Pr} (h : TwoAt w g o x) : g < w.heap.size := lt_of_cell h.c0
/-- A row of pairs that is read. -/
def PRow (w : World) (v : Value) (l : List Pr) : Prop :=
  ∃ ad cap, v = .slice ad l.length cap ∧ (0 < l.length → ∃ g off, ad = some ⟨g, off, none⟩ ∧ g < w.heap.size ∧ ∀ i x, l[i]? = some x → TwoAt w g (off + i * 2) x)
theorem PRow.at {w : World} {ad : Option Addr} {n cap : Nat} {l : List Pr} (h : PRow w (.slice ad n cap) l) (h0 : 0 < n) : ∃ g off, ad = some ⟨g, off, none⟩ ∧ g < w.heap.size ∧ ∀ i x, l[i]? = some x → TwoAt w g (off + i * 2) x := by
  obtain ⟨ad', cap', e, hc⟩ := h
  simp only [Value.slice.injEq] at e
  obtain ⟨rfl, h2, rfl⟩ := e
  exact hc (by omega)
theorem PRow.nil (w : World) : PRow w (.slice none 0 0) [] := ⟨none, 0, rfl, fun h => by simp at h⟩
theorem PRow.below {w w' : World} {v : Value} {l : List Pr} (h : PRow w v l) (hb : Below w.heap.size w w') : PRow w' v l := by
  obtain ⟨ad, cap, rfl, hc⟩ := h
  refine ⟨ad, cap, rfl, fun h0 => ?_⟩
  obtain ⟨g, off, rfl, hg, hx⟩ := hc h0
  exact ⟨g, off, rfl, Nat.lt_of_lt_of_le hg hb.size, fun i x hi => (hx i x hi).below hg hb⟩
/-- A row of one new pair. -/
theorem PRow.one {w : World} {g : Nat} {x : Pr} {c : Nat} (h : TwoAt w g 0 x) : PRow w (.slice (some ⟨g, 0, none⟩) 1 c) [x] :=
  ⟨_, c, rfl, fun _ => ⟨g, 0, rfl, h.lt, fun i y hi => by
    cases i with
    | zero => simp only [List.getElem?_cons_zero, Option.some.injEq] at hi; subst hi; simpa using h
    | succ i => simp at hi⟩⟩
theorem TwoAt.new (W : World) (x : Pr) (T : TypeId) : TwoAt (W.alloc (.cells #[.string x.1, .int .i64 x.2] T)) W.heap.size 0 x := ⟨by simp, by simp⟩
theorem alloc_newP (w : World) (o : Obj) : (w.alloc o).heap[w.heap.size]? = some o := (MapKept.heap_alloc w o).1
end Go.Proofs.YtfhmamalanloaaaDoor
