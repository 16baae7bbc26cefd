/- Cut: what the seat's translation lacks is left out. -/
/- edit.rows and edit.Distance. -/
import Derived.Test.YtfhmamalanloaaaDoorEdDist
import Derived.Laws.OwnMore
namespace Go.Proofs.YtfhmamalanloaaaDoor
open Go.RowKit Nums Ed
set_option maxRecDepth 100000

/-- Block gl holds the values vs, each a slice of numbers. -/
def LBlk (w : World) (gl : Nat) (vs : List Value) : Prop := w.heap[gl]? = some (.cells vs.toArray 54 (0, 0))
theorem LBlk.lt {w : World} {g : Nat} {vs : List Value} (h : LBlk w g vs) : g < w.heap.size := (Array.getElem?_eq_some_iff.1 h).1
theorem LBlk.cell {w : World} {g k : Nat} {vs : List Value} {x : Value} (h : LBlk w g vs) (hk : vs[k]? = some x) : w.cell? ⟨g, k, none⟩ = some x := by
  unfold LBlk at h
  simp only [World.cell?, h]
  simp [hk]
theorem LBlk.frozen {w : World} {g : Nat} {vs : List Value} (h : LBlk w g vs) (k : Nat) : w.frozen? ⟨g, k, none⟩ = false := by
  unfold LBlk at h
  simp only [World.frozen?, h]
  simp
theorem LBlk.set {w : World} {g : Nat} {vs : List Value} (h : LBlk w g vs) (k : Nat) (x : Value) : LBlk (w.setCell ⟨g, k, none⟩ x) g (vs.set k x) := by
  unfold LBlk at h ⊢
  simp only [World.setCell, Array.getElem?_modify, h]
  simp
theorem LBlk.same {w w' : World} {g : Nat} {vs : List Value} (h : LBlk w g vs) (e : w'.heap[g]? = w.heap[g]?) : LBlk w' g vs := by
  unfold LBlk at h ⊢; rw [e]; exact h
theorem LBlk.but {w w' : World} {g r : Nat} {vs : List Value} (h : LBlk w g vs) (hb : But r w w') (hr : g ≠ r) : LBlk w' g vs := h.same (hb.block g h.lt hr)
/-- The rows that are there when k of them are cut. -/
def rowsV (g W n k : Nat) : List Value := (List.range n).map fun i => if i < k then .slice (some ⟨g, i * W, none⟩) 0 W else .slice none 0 0
theorem rowsV_len (g W n k : Nat) : (rowsV g W n k).length = n := by simp [rowsV]
theorem rowsV_get (g W n k : Nat) {i : Nat} (h : i < n) : (rowsV g W n k)[i]? = some (if i < k then .slice (some ⟨g, i * W, none⟩) 0 W else .slice none 0 0) := by
  unfold rowsV
  rw [List.getElem?_map, List.getElem?_range h]
  rfl
theorem rowsV_set (g W n k : Nat) : (rowsV g W n k).set k (.slice (some ⟨g, k * W, none⟩) 0 W) = rowsV g W n (k + 1) := by
  apply List.ext_getElem?
  intro i
  rw [List.getElem?_set]
  by_cases hi : i < n
  · rw [rowsV_get _ _ _ _ hi, rowsV_get _ _ _ _ hi, rowsV_len]
    by_cases e : k = i
    · subst e; rw [if_pos rfl, if_pos hi, if_pos (by omega)]
    · rw [if_neg e]
      by_cases c : i < k
      · rw [if_pos c, if_pos (by omega)]
      · rw [if_neg c, if_neg (by omega)]
  · rw [List.getElem?_eq_none (by rw [rowsV_len]; omega), List.getElem?_eq_none (by rw [rowsV_len]; omega), rowsV_len]
    split
    · rw [if_neg (by omega)]
    · rfl
theorem rowsV_zero (g W n : Nat) : rowsV g W n 0 = List.replicate n (.slice none 0 0) := by
  apply List.ext_getElem?
  intro i
  by_cases hi : i < n
  · rw [rowsV_get _ _ _ _ hi, if_neg (by omega), List.getElem?_replicate, if_pos hi]
  · rw [List.getElem?_eq_none (by rw [rowsV_len]; omega), List.getElem?_eq_none (by simp; omega)]
theorem infoSlice : (Tryd.prog.info? 54).map (fun i => (i.zero, i.size, i.bytes)) = some (some (.slice none 0 0), 1, 24) := by kernel_rfl
theorem own_block {w : World} {B g n : Nat} {T : TypeId} {xs : List Value} (h : w.ownsRow B T 1 (.slice (some ⟨g, 0, none⟩) n n) n xs) : w.heap[g]? = some (.cells xs.toArray T (0, 0)) := by
  obtain ⟨hl, ⟨e, _⟩ | ⟨g', cap, cur, e, h1, hg, h2, h3, h4, h5⟩⟩ := h
  · cases e
  · simp only [Value.slice.injEq, Option.some.injEq, Addr.mk.injEq] at e
    obtain ⟨⟨rfl, _, _⟩, _, rfl⟩ := e
    rw [hg]
    have : cur = xs.toArray := by
      rw [← h5, List.take_of_length_le (by rw [Array.length_toList, h4]; omega)]
    rw [this]

theorem made_ints (N : Nat) : (madeCells (Value.int .i64 0).cells (N * 1)).toList = (List.replicate N (0 : Int)).map (Value.int .i64) := by
  rw [show (Value.int .i64 0).cells = #[.int .i64 0] from rfl, Nat.mul_one, toList_madeCells_one, List.map_replicate]
theorem made_slices (N : Nat) : (madeCells (Value.slice none 0 0).cells (N * 1)).toList = List.replicate N (Value.slice none 0 0) := by
  rw [show (Value.slice none 0 0).cells = #[.slice none 0 0] from rfl, Nat.mul_one, toList_madeCells_one]
end Go.Proofs.YtfhmamalanloaaaDoor
