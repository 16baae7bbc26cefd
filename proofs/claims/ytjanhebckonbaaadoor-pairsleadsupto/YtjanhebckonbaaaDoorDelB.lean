/- What slices.DeleteFunc at pairs leans on; slices.IndexFunc with pairs.takesAway. -/
import Derived.Test.YtjanhebckonbaaaDoorInOrder
namespace Go.Proofs.YtjanhebckonbaaaDoor
open Go.RowKit Go.Shelf Go.Lib Go.Sort Pm
set_option maxRecDepth 100000

theorem setCells_heap {g : Nat} {T : TypeId} {f : Nat × Nat} : ∀ (vs : List Value) (o : Nat) (w : World) (cur : Array Value), w.heap[g]? = some (.cells cur T f) → ∃ cur', cur'.size = cur.size ∧ (w.setCells g o vs).heap[g]? = some (.cells cur' T f)
  | [], _, _, cur, h => ⟨cur, rfl, h⟩
  | v :: r, o, w, cur, h => by
    have h2 : (w.setCell ⟨g, o, none⟩ v).heap[g]? = some (.cells (cur.setIfInBounds o v) T f) := by simp [World.setCell, Array.getElem?_modify, h]
    obtain ⟨cur', h3, h4⟩ := setCells_heap r (o + 1) _ _ h2
    exact ⟨cur', by rw [h3]; simp, h4⟩
theorem setCells_below {g B : Nat} (hB : B ≤ g) : ∀ (vs : List Value) (o : Nat) (a w : World), Below B a w → Below B a (w.setCells g o vs)
  | [], _, _, _, h => h
  | v :: r, o, a, _, h => setCells_below hB r (o + 1) a _ (h.setCell (p := ⟨g, o, none⟩) hB v)
theorem POwn.block {B : Nat} {w : World} {g cap n : Nat} {l : List Pr} (h : POwn B w (.slice (some ⟨g, 0, none⟩) n cap) l) : ∃ cur, B ≤ g ∧ w.heap[g]? = some (.cells cur 32 (0, 0)) ∧ n = l.length ∧ n ≤ cap ∧ cap ≤ maxLen ∧ cur.size = cap * 2 ∧ (∀ i x, l[i]? = some x → TwoAt w g (i * 2) x) ∧ ∀ o, w.frozen? ⟨g, o, none⟩ = false := by
  obtain ⟨_, ⟨e, _⟩ | ⟨g', cap', cur, e, h1, hh, h3, h4, h5, h6⟩⟩ := h
  · cases e
  · simp only [Value.slice.injEq, Option.some.injEq, Addr.mk.injEq] at e
    obtain ⟨⟨rfl, _⟩, rfl, rfl⟩ := e
    exact ⟨cur, h1, hh, rfl, h3, h4, h5, fun i x hi => by have := POwn.cells hh h6 i x hi; rwa [Nat.zero_add] at this, fun o => by simp [World.frozen?, hh]⟩
/-- A pair laid over another one. -/
theorem POwn.set {B : Nat} {w : World} {g cap n : Nat} {l : List Pr} (h : POwn B w (.slice (some ⟨g, 0, none⟩) n cap) l) (i : Nat) (x : Pr) : POwn B (w.setCells g (i * 2) (encP x)) (.slice (some ⟨g, 0, none⟩) n cap) (l.set i x) := by
  obtain ⟨cur, h1, hh, rfl, h3, h4, h5, hc, hf⟩ := h.block
  obtain ⟨cur', k1, k2⟩ := setCells_heap (encP x) (i * 2) w cur hh
  have := POwn.of_cells (B := B) (cap := cap) (l := l.set i x) h1 k2 (by simpa using h3) h4 (by omega) fun j y hj => by
    by_cases e : j = i
    · subst e
      have hjl : j < l.length := by have := (List.getElem?_eq_some_iff.1 hj).1; simpa using this
      rw [List.getElem?_set_self hjl] at hj
      simp only [Option.some.injEq] at hj
      subst hj
      have t := hc j l[j] (List.getElem?_eq_getElem hjl)
      have a0 : ((w.setCell ⟨g, j * 2, none⟩ (.string x.1)).cell? ⟨g, j * 2, none⟩) = some (.string x.1) := World.cell?_setCell_same' _ _ _ (by rw [t.c0]; rfl)
      refine ⟨?_, ?_⟩
      · show ((w.setCell ⟨g, j * 2, none⟩ (.string x.1)).setCell ⟨g, j * 2 + 1, none⟩ (.int .i64 x.2)).cell? ⟨g, j * 2, none⟩ = _
        have := World.cell?_setCells_out g [.int .i64 x.2] (j * 2 + 1) (w.setCell ⟨g, j * 2, none⟩ (.string x.1)) ⟨g, j * 2, none⟩ (fun _ _ => by simp)
        exact this.trans a0
      · show ((w.setCell ⟨g, j * 2, none⟩ (.string x.1)).setCell ⟨g, j * 2 + 1, none⟩ (.int .i64 x.2)).cell? ⟨g, j * 2 + 1, none⟩ = _
        refine World.cell?_setCell_same' _ _ _ ?_
        have : (w.setCell ⟨g, j * 2, none⟩ (.string x.1)).cell? ⟨g, j * 2 + 1, none⟩ = w.cell? ⟨g, j * 2 + 1, none⟩ := World.cell?_setCells_out g [.string x.1] (j * 2) w ⟨g, j * 2 + 1, none⟩ (fun _ _ => by simp)
        rw [this, t.c1]
        rfl
    · rw [List.getElem?_set_ne (fun e2 => e e2.symm)] at hj
      have t := hc j y hj
      refine ⟨?_, ?_⟩
      · rw [World.cell?_setCells_out g _ _ _ _ (fun _ _ => by rw [encP_k]; show j * 2 < i * 2 ∨ i * 2 + 2 ≤ j * 2; omega)]; exact t.c0
      · rw [World.cell?_setCells_out g _ _ _ _ (fun _ _ => by rw [encP_k]; show j * 2 + 1 < i * 2 ∨ i * 2 + 2 ≤ j * 2 + 1; omega)]; exact t.c1
  simpa using this
/-- The row cut, and what is behind it turned. -/
theorem POwn.cut {B : Nat} {w : World} {g cap n : Nat} {l : List Pr} (h : POwn B w (.slice (some ⟨g, 0, none⟩) n cap) l) (j : Nat) (hj : j ≤ n) (vs : List Value) : POwn B (w.setCells g (j * 2) vs) (.slice (some ⟨g, 0, none⟩) j cap) (l.take j) := by
  obtain ⟨cur, h1, hh, rfl, h3, h4, h5, hc, hf⟩ := h.block
  obtain ⟨cur', k1, k2⟩ := setCells_heap vs (j * 2) w cur hh
  have hl : (l.take j).length = j := by simp; omega
  have := POwn.of_cells (B := B) (cap := cap) (l := l.take j) h1 k2 (by omega) h4 (by omega) fun i y hi => by
    have hil := (List.getElem?_eq_some_iff.1 hi).1
    rw [hl] at hil
    rw [List.getElem?_take, if_pos hil] at hi
    have t := hc i y hi
    refine ⟨?_, ?_⟩
    · rw [World.cell?_setCells_out g _ _ _ _ (fun _ _ => by show i * 2 < _ ∨ _; omega)]; exact t.c0
    · rw [World.cell?_setCells_out g _ _ _ _ (fun _ _ => by show i * 2 + 1 < _ ∨ _; omega)]; exact t.c1
  rw [hl] at this
  exact this
/-- 'clear(s[j:])' of a row that the call has made. -/
theorem clear_own {B : Nat} {w : World} {g cap n : Nat} {l : List Pr} (h : POwn B w (.slice (some ⟨g, 0, none⟩) n cap) l) (j m c : Nat) (hj : j + m = n) (ty : TypeId) :
    ∃ vs, (Builtin.clear_ #[22] ty #[.slice (some ⟨g, j * 2, none⟩) m c]).run Tryd.prog w = .ok (.tuple #[]) (w.setCells g (j * 2) vs) := by
  obtain ⟨cur, h1, hh, rfl, h3, h4, h5, hc, hf⟩ := h.block
  cases m with
  | zero => exact ⟨[], by simp [Builtin.clear_, run_underlying Tryd.underlying22]; rfl⟩
  | succ m =>
    have hz : ∀ w, (zeroValue 32).run Tryd.prog w = .ok (.agg #[.string ByteArray.empty, .int .i64 0]) w := Tryd.zeroValue32
    let vs := (Builtin.zeroCells (Value.agg #[.string ByteArray.empty, .int .i64 0]).cells (m + 1)).toList
    have hlen : vs.length = (m + 1) * 2 := by simp [vs, Builtin.zeroCells, Value.cells]
    have hone : ∀ v ∈ vs, v.oneCell' = true := by
      intro v hv
      simp only [vs, Builtin.zeroCells, Value.cells, Array.toList_map, List.mem_map] at hv
      obtain ⟨i, _, rfl⟩ := hv
      have : i % 2 = 0 ∨ i % 2 = 1 := by omega
      rcases this with e | e
      · show (Array.getD _ _ _ : Value).oneCell' = true
        simp [e]
        rfl
      · show (Array.getD _ _ _ : Value).oneCell' = true
        simp [e]
        rfl
    have hst := run_storeCells_cells (P := Tryd.prog) g (j * 2) vs 0 w (fun t ht => by
      have hsz : j * 2 + 0 + t < cur.size := by omega
      simp [World.cell?, hh]
      omega) (fun t _ => hf _) hone
    refine ⟨vs, ?_⟩
    simp only [Nat.add_zero] at hst
    simp [Builtin.clear_, run_underlying Tryd.underlying22, hz]
    rw [show (Builtin.zeroCells (Value.agg #[.string ByteArray.empty, .int .i64 0]).cells (m + 1)).toList = vs from rfl]
    simp [hst]
end Go.Proofs.YtjanhebckonbaaaDoor
