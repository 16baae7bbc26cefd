/- Texts that were written apart, joined. -/
import Derived.Test.YthfngcpcccbnpaaDoorE1
import Derived.Handy
import Derived.Laws.OwnMore
/- edit.rows, read, both. -/
namespace Go.Proofs.YthfngcpcccbnpaaDoor
open Go.RowKit Nums Ed
set_option maxRecDepth 100000

theorem Made.mono {B B' : Nat} {w : World} {v : Value} {xs : List Int} (h : Made B w v xs) (hB : B' ≤ B) : Made B' w v xs := by
  obtain ⟨hl, hn | ⟨g, cap, cur, rfl, h1, h2⟩⟩ := h
  · exact ⟨hl, .inl hn⟩
  · exact ⟨hl, .inr ⟨g, cap, cur, rfl, by omega, h2⟩⟩
end Go.Proofs.YthfngcpcccbnpaaDoor

/- edit.rows and edit.Distance. -/
namespace Go.Proofs.YthfngcpcccbnpaaDoor
open Go.RowKit Nums Ed
set_option maxRecDepth 100000

/-- Block gl holds the values vs, each a slice of numbers. -/
def LBlk (w : World) (gl : Nat) (vs : List Value) : Prop := w.heap[gl]? = some (.cells vs.toArray 81 (0, 0))
theorem LBlk.lt {w : World} {g : Nat} {vs : List Value} (h : LBlk w g vs) : g < w.heap.size := (Array.getElem?_eq_some_iff.1 h).1
theorem LBlk.cell {w : World} {g k : Nat} {vs : List Value} {x : Value} (h : LBlk w g vs) (hk : vs[k]? = some x) : w.cell? ⟨g, k, none⟩ = some x := by
  unfold LBlk at h
  simp only [World.cell?, h]
  simp [hk]
theorem LBlk.frozen {w : World} {g : Nat} {vs : List Value} (h : LBlk w g vs) (k : Nat) : w.frozen? ⟨g, k, none⟩ = false := by
  unfold LBlk at h
  simp only [World.frozen?, h]
  simp
theorem LBlk.set {w : World} {g : Nat} {vs : List Value} (h : LBlk w g vs) (k : Nat) (x : Value) : LBlk (w.setCell ⟨g, k, none⟩ x) g (vs.set k x) := by
  unfold LBlk at h ⊢
  simp only [World.setCell, Array.getElem?_modify, h]
  simp
theorem LBlk.same {w w' : World} {g : Nat} {vs : List Value} (h : LBlk w g vs) (e : w'.heap[g]? = w.heap[g]?) : LBlk w' g vs := by
  unfold LBlk at h ⊢; rw [e]; exact h
theorem LBlk.but {w w' : World} {g r : Nat} {vs : List Value} (h : LBlk w g vs) (hb : But r w w') (hr : g ≠ r) : LBlk w' g vs := h.same (hb.block g h.lt hr)
end Go.Proofs.YthfngcpcccbnpaaDoor

/- Cut: what the seat's translation lacks is left out. -/
/- edit.Within, the law's own near and alive. -/
namespace Go.Proofs.YthfngcpcccbnpaaDoor
open Go.RowKit Nums Ed
set_option maxRecDepth 100000

/-- lv with fuel: it can be reckoned. -/
def lvF : Nat → List Int → List Int → Nat
  | 0, xs, ys => xs.length + ys.length
  | _ + 1, [], ys => ys.length
  | _ + 1, _ :: xs, [] => xs.length + 1
  | f + 1, x :: xs, y :: ys => min (lvF f xs ys + if x = y then 0 else 1) (min (lvF f xs (y :: ys) + 1) (lvF f (x :: xs) ys + 1))
theorem lvF_eq : ∀ (f : Nat) (xs ys : List Int), xs.length + ys.length ≤ f → lvF f xs ys = lv xs ys
  | 0, xs, ys, h => by
    have e1 : xs = [] := List.length_eq_zero_iff.1 (by omega)
    subst e1
    rw [lv_left]; simp [lvF]
  | _ + 1, [], ys, _ => by rw [lv_left]; rfl
  | _ + 1, _ :: xs, [], _ => by rw [lv_right]; rfl
  | f + 1, x :: xs, y :: ys, h => by
    simp only [List.length_cons] at h
    rw [lv_cons, lvF, lvF_eq f xs ys (by omega), lvF_eq f xs (y :: ys) (by simp only [List.length_cons]; omega), lvF_eq f (x :: xs) ys (by simp only [List.length_cons]; omega)]
/-- What a law keeps from call to call. -/
structure Acc (w0 w : World) : Prop where
  bel : Below w0.heap.size w0 w
  tabs : Tabs w
theorem Acc.refl {w : World} (ht : Tabs w) : Acc w w := ⟨Below.refl _ _, ht⟩
theorem Acc.step {w0 w w' : World} (h : Acc w0 w) (hb : Below w.heap.size w w') : Acc w0 w' := ⟨h.bel.trans (hb.mono h.bel.size), h.tabs.below hb⟩
end Go.Proofs.YthfngcpcccbnpaaDoor
