/- edit.turned: one text behind the other. -/
import Derived.Test.YtjfbildaaobfpaaDoorPtMath
import Derived.Test.YtjfbildaaobfpaaDoorEdFar
namespace Go.Proofs.YtjfbildaaobfpaaDoor
open Go.RowKit Nums Ed
set_option maxRecDepth 100000

theorem infoStr : (Tryd.prog.info? 9).map (fun i => (i.zero, i.size, i.bytes)) = some (some (.string ByteArray.empty), 1, 16) := by kernel_rfl
/-- A row of texts that the call has made. -/
def SMade (B : Nat) (w : World) (v : Value) (ss : List ByteArray) : Prop := w.ownsRow B 9 1 v ss.length (ss.map Value.string)
theorem SMade.new (w : World) (s : ByteArray) : SMade w.heap.size (w.alloc (.cells #[.string s] 9)) (.slice (some ⟨w.heap.size, 0, none⟩) 1 1) [s] :=
  ⟨rfl, .inr ⟨w.heap.size, 1, #[.string s], rfl, Nat.le_refl _, (MapKept.heap_alloc w _).1, Nat.le_refl _, by decide, rfl, rfl⟩⟩
theorem SMade.same {B : Nat} {w w' : World} {v : Value} {ss : List ByteArray} (h : SMade B w v ss) (e : ∀ g, v.ownBlock = some g → w'.heap[g]? = w.heap[g]?) : SMade B w' v ss := by
  obtain ⟨hl, hn | ⟨g, cap, cur, rfl, h1, hg, h2⟩⟩ := h
  · exact ⟨hl, .inl hn⟩
  · exact ⟨hl, .inr ⟨g, cap, cur, rfl, h1, (e g rfl).trans hg, h2⟩⟩
theorem SMade.block {B : Nat} {w : World} {v : Value} {ss : List ByteArray} (h : SMade B w v ss) {g : Nat} (hg : v.ownBlock = some g) : B ≤ g ∧ g < w.heap.size ∧ ∃ cur, w.heap[g]? = some (.cells cur 9 (0, 0)) := by
  obtain ⟨hl, ⟨e, _⟩ | ⟨g', cap, cur, rfl, h1, h2, _⟩⟩ := h
  · rw [e] at hg; cases hg
  · simp only [Value.ownBlock, Option.some.injEq] at hg
    subst hg
    exact ⟨h1, (Array.getElem?_eq_some_iff.1 h2).1, cur, h2⟩
theorem SMade.mono {B B' : Nat} {w : World} {v : Value} {ss : List ByteArray} (h : SMade B w v ss) (hB : B' ≤ B) : SMade B' w v ss := by
  obtain ⟨hl, hn | ⟨g, cap, cur, rfl, h1, h2⟩⟩ := h
  · exact ⟨hl, .inl hn⟩
  · exact ⟨hl, .inr ⟨g, cap, cur, rfl, by omega, h2⟩⟩
theorem SMade.at {B : Nat} {w : World} {v : Value} {ss : List ByteArray} (h : SMade B w v ss) (h0 : 0 < ss.length) : ∃ g cap, v = .slice (some ⟨g, 0, none⟩) ss.length cap ∧ ∀ (i : Nat) (s : ByteArray), ss[i]? = some s → w.cell? ⟨g, i, none⟩ = some (.string s) := by
  obtain ⟨hl, hn | ⟨g, cap, cur, rfl, hb, hg, h1, h2, h3, h4⟩⟩ := h
  · omega
  · refine ⟨g, cap, rfl, fun i x hi => ?_⟩
    have hi' := (List.getElem?_eq_some_iff.1 hi).1
    have hc : cur[i]? = some (.string x) := by
      have e : (cur.toList.take (ss.length * 1))[i]? = (ss.map Value.string)[i]? := by rw [h4]
      rw [List.getElem?_take, if_pos (by omega)] at e
      rw [← Array.getElem?_toList, e, List.getElem?_map, hi]
      rfl
    simp only [World.cell?, hg]
    simpa using hc

/-- What is known in the loops of turned. -/
structure TI (w wr : World) (vl : Value) (gl gb : Nat) (line to cur : List Int) (ls : List (List Int)) (v : Value) : Prop where
  str : SMade w.heap.size wr v (ls.map textS)
  way : Way ls (un line) (un cur)
  cnt : ls.length + dif cur to = dif line to + 1
  okl : ∀ l ∈ ls, l.all isR = true ∧ l.length ≤ line.length
  lat : LAt wr vl gl cur
  len : cur.length = line.length
  okc : ∀ x ∈ cur, okR x
  bls : wr.heap[gb]? = some (.cells #[.bool false, .bool true] 4 (0, 0))
  but : But gl w wr
theorem TI.small {w wr : World} {vl : Value} {gl gb : Nat} {line to cur : List Int} {ls : List (List Int)} {v : Value} (h : TI w wr vl gl gb line to cur ls v) : ls.length ≤ line.length + 1 := by
  have := h.cnt; have := dif_le line to; omega
/-- One place is turned, and the text is told. -/
theorem TI.step {w wr w2 w3 : World} {vl : Value} {gl gb : Nat} {line to cur : List Int} {ls : List (List Int)} {v v' : Value} (h : TI w wr vl gl gb line to cur ls v) (hgl : gl < w.heap.size) (hgb : w.heap.size ≤ gb) {k : Nat} {x y : Int} (hx : cur[k]? = some x) (hy : to[k]? = some y) (hne : x ≠ y) (hok : okR y)
    (hb2 : Below wr.heap.size (wr.setCell ⟨gl, k, none⟩ (.int .i32 y)) w2)
    (hown : w3.ownsRow w.heap.size 9 1 v' ((ls.map textS).length + 1) ((ls.map textS).map Value.string ++ [.string (textS (un (cur.set k y)))])) (hgr : (w2.alloc (.cells #[.string (textS (un (cur.set k y)))] 9)).grownBy w3 v.ownBlock) :
    TI w w3 vl gl gb line to (cur.set k y) (ls ++ [un (cur.set k y)]) v' := by
  have hk : k < cur.length := (List.getElem?_eq_some_iff.1 hx).1
  have hsz : (wr.setCell ⟨gl, k, none⟩ (.int .i32 y)).heap.size = wr.heap.size := by simp [World.setCell]
  have hs2 : wr.heap.size ≤ w2.heap.size := by have := hb2.size; omega
  have hs3 : w2.heap.size ≤ w3.heap.size := by have := hgr.size; simp at this; omega
  have hwr := h.but.size
  have hblk : ∀ j, j < wr.heap.size → j ≠ gl → v.ownBlock ≠ some j → w3.heap[j]? = wr.heap[j]? := fun j hj hg hv => by
    rw [hgr.block j (by simp; omega) (fun e => hv e.symm), Below.heap_alloc _ _ _ (by omega), hb2.block j hj, Below.heap_setCell _ _ _ _ hg]
  have hownb : ∀ j, v.ownBlock = some j → w.heap.size ≤ j := fun j hj => (h.str.block hj).1
  have hgbl : gb < wr.heap.size := (Array.getElem?_eq_some_iff.1 h.bls).1
  have hvb : v.ownBlock ≠ some gb := fun e => by
    obtain ⟨_, _, cur', hc⟩ := h.str.block e
    rw [h.bls] at hc
    simp only [Option.some.injEq, Obj.cells.injEq] at hc
    exact absurd hc.2.1 (by decide)
  have hcur2 : ∀ z ∈ cur.set k y, okR z := fun z hz => by
    rcases List.mem_or_eq_of_mem_set hz with hz | rfl
    · exact h.okc z hz
    · exact hok
  refine ⟨?_, h.way.snoc (set_once hx hne), ?_, ?_, ?_, by rw [List.length_set]; exact h.len, hcur2, ?_, ?_⟩
  · unfold SMade
    simpa using hown
  · have := dif_set cur to k x y hx hy hne
    have := h.cnt
    rw [List.length_append, List.length_singleton]; omega
  · intro l hl
    rcases List.mem_append.1 hl with hl | hl
    · exact h.okl l hl
    · rw [List.mem_singleton.1 hl]
      refine ⟨un_isR hcur2, Nat.le_trans (List.length_filter_le _ _) ?_⟩
      rw [List.length_set, h.len]; exact Nat.le_refl _
  · refine (h.lat.set hk y).same (by rw [hsz]; omega) fun hg => ?_
    rw [hsz] at hg
    rw [hgr.block gl (by simp; omega) (fun e => by have := hownb gl e.symm; omega), Below.heap_alloc _ _ _ (by omega), hb2.block gl hg]
  · rw [hblk gb hgbl (by omega) hvb]; exact h.bls
  · refine ⟨?_, ?_, ?_, by omega, fun j hj hg => ?_⟩
    · rw [hgr.os]; show w2.os = _; rw [hb2.os]; exact h.but.os
    · rw [hgr.tape]; show w2.tape = _; rw [hb2.tape]; exact h.but.tape
    · rw [hgr.output]; show w2.output = _; rw [hb2.output]; exact h.but.output
    · rw [hblk j (by omega) hg (fun e => by have := hownb j e; omega)]; exact h.but.block j hj hg
end Go.Proofs.YtjfbildaaobfpaaDoor
