/- Texts that were written apart, joined. -/
import Derived.Test.YthfngcpcccbnpaaDoorE0
import Derived.Test.YthfngcpcccbnpaaDoorJ3
import Derived.Test.YthfngcpcccbnpaaDoorGf
import Derived.ArgAppend
/- Rows of distances in one memory: what lies there, append within the capacity; start and next. -/
namespace Go.Proofs.YthfngcpcccbnpaaDoor
open Go.RowKit Nums Ed
set_option maxRecDepth 100000

/-- Block g holds the numbers cs. -/
def IBlk (w : World) (g : Nat) (cs : List Int) : Prop := w.heap[g]? = some (.cells (cs.map (Value.int .i64)).toArray 3 (0, 0))
theorem IBlk.lt {w : World} {g : Nat} {cs : List Int} (h : IBlk w g cs) : g < w.heap.size := (Array.getElem?_eq_some_iff.1 h).1
theorem IBlk.cell {w : World} {g k : Nat} {cs : List Int} {x : Int} (h : IBlk w g cs) (hk : cs[k]? = some x) : w.cell? ⟨g, k, none⟩ = some (.int .i64 x) := by
  unfold IBlk at h
  simp only [World.cell?, h]
  simp [hk]
theorem IBlk.frozen {w : World} {g : Nat} {cs : List Int} (h : IBlk w g cs) (k : Nat) : w.frozen? ⟨g, k, none⟩ = false := by
  unfold IBlk at h
  simp only [World.frozen?, h]
  simp
theorem IBlk.set {w : World} {g : Nat} {cs : List Int} (h : IBlk w g cs) (k : Nat) (x : Int) : IBlk (w.setCell ⟨g, k, none⟩ (.int .i64 x)) g (cs.set k x) := by
  unfold IBlk at h ⊢
  simp only [World.setCell, Array.getElem?_modify, h]
  simp [List.map_set]
theorem IBlk.same {w w' : World} {g : Nat} {cs : List Int} (h : IBlk w g cs) (e : w'.heap[g]? = w.heap[g]?) : IBlk w' g cs := by
  unfold IBlk at h ⊢; rw [e]; exact h
/-- All that was there is as it was, but for block r. -/
structure But (r : Nat) (w w' : World) : Prop where
  os : w'.os = w.os
  tape : w'.tape = w.tape
  output : w'.output = w.output
  size : w.heap.size ≤ w'.heap.size
  block : ∀ k, k < w.heap.size → k ≠ r → w'.heap[k]? = w.heap[k]?
theorem But.refl (r : Nat) (w : World) : But r w w := ⟨rfl, rfl, rfl, Nat.le_refl _, fun _ _ _ => rfl⟩
theorem But.trans {r : Nat} {a b c : World} (h : But r a b) (k : But r b c) : But r a c :=
  ⟨k.os.trans h.os, k.tape.trans h.tape, k.output.trans h.output, Nat.le_trans h.size k.size, fun i hi hr => (k.block i (Nat.lt_of_lt_of_le hi h.size) hr).trans (h.block i hi hr)⟩
theorem But.of_below {r : Nat} {w w' : World} (h : Below w.heap.size w w') : But r w w' := ⟨h.os, h.tape, h.output, h.size, fun k hk _ => h.block k hk⟩
theorem But.below {r B : Nat} {w w' : World} (h : But r w w') (hr : B ≤ r) (hB : B ≤ w.heap.size) : Below B w w' :=
  ⟨h.os, h.tape, h.output, h.size, fun k hk => h.block k (by omega) (by omega)⟩
theorem But.setCell {r : Nat} {a w : World} (h : But r a w) (o : Nat) (u : Value) : But r a (w.setCell ⟨r, o, none⟩ u) :=
  h.trans ⟨rfl, rfl, rfl, by simp [World.setCell], fun k _ hk => Below.heap_setCell _ _ _ _ hk⟩
theorem IBlk.alloc {w : World} {g : Nat} {cs : List Int} (h : IBlk w g cs) (o : Obj) : IBlk (w.alloc o) g cs := h.same (Below.heap_alloc _ _ _ h.lt)
theorem IBlk.drewN {w : World} {g : Nat} {cs : List Int} (h : IBlk w g cs) (n : Nat) : IBlk (w.drewN n) g cs := h
theorem But.alloc {r : Nat} {a w : World} (h : But r a w) (o : Obj) : But r a (w.alloc o) := h.trans (But.of_below ((Below.refl _ w).alloc (Nat.le_refl _) o))
/-- A row that a call has made can be read. -/
theorem Made.runesE {B : Nat} {w : World} {v : Value} {xs : List Int} (h : Made B w v xs) : RunesAt w.heap.size w v xs := by
  obtain ⟨hl, hn | ⟨g, cap, cur, rfl, hb, hg, h1, h2, h3, h4⟩⟩ := h
  · obtain ⟨rfl, h0⟩ := hn
    exact ⟨none, 0, by rw [h0], fun h => by omega⟩
  · refine ⟨_, _, rfl, fun _ => ⟨g, 0, rfl, (Array.getElem?_eq_some_iff.1 hg).1, fun i x hi => ?_⟩⟩
    have hi' := (List.getElem?_eq_some_iff.1 hi).1
    have hc : cur[i]? = some (.int .i32 x) := by
      have e : (cur.toList.take (xs.length * 1))[i]? = (xs.map (Value.int .i32))[i]? := by rw [h4]
      rw [List.getElem?_take, if_pos (by omega)] at e
      rw [← Array.getElem?_toList, e, List.getElem?_map, hi]
      rfl
    simp only [World.cell?, hg, Nat.zero_add]
    simpa using hc
theorem RunesAt.form {E : Nat} {w : World} {v : Value} {xs : List Int} (h : RunesAt E w v xs) : ∃ ad cap, v = .slice ad xs.length cap := by
  obtain ⟨ad, cap, e, _⟩ := h; exact ⟨ad, cap, e⟩
theorem RunesAt.at {E : Nat} {w : World} {ad : Option Addr} {n cap : Nat} {xs : List Int} (h : RunesAt E w (.slice ad n cap) xs) {k : Nat} {x : Int} (hk : xs[k]? = some x) : ∃ g off, ad = some ⟨g, off, none⟩ ∧ g < E ∧ w.cell? ⟨g, off + k, none⟩ = some (.int .i32 x) := by
  obtain ⟨ad', cap', e, hc⟩ := h
  simp only [Value.slice.injEq] at e
  obtain ⟨rfl, _, rfl⟩ := e
  obtain ⟨g, off, rfl, hg, hx⟩ := hc (by have := (List.getElem?_eq_some_iff.1 hk).1; omega)
  exact ⟨g, off, rfl, hg, hx k x hk⟩
end Go.Proofs.YthfngcpcccbnpaaDoor

/- edit.next: the next row of distances. -/
namespace Go.Proofs.YthfngcpcccbnpaaDoor
open Go.RowKit Nums Ed
set_option maxRecDepth 100000

/-- The least of three. -/
def min3 (a b c : Int) : Int := if c < (if b < a then b else a) then c else (if b < a then b else a)
theorem run_min3 (ts : Array TypeId) (ty : TypeId) (k : IntKind) (a b c : Int) (w : World) : (Builtin.min_ ts ty #[.int k a, .int k b, .int k c]).run Tryd.prog w = .ok (.int k (min3 a b c)) w := by
  simp [Builtin.min_, Builtin.min2, min3, Sem.run_pure]
end Go.Proofs.YthfngcpcccbnpaaDoor
