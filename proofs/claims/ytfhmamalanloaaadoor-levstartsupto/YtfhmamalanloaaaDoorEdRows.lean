/- Cut: what the seat's translation lacks is left out. -/
/- Rows of distances in one memory: what lies there, append within the capacity; start and next. -/
import Derived.Test.YtfhmamalanloaaaDoorEdMath
import Derived.Test.YtfhmamalanloaaaDoorGRows
import Derived.Test.YtfhmamalanloaaaDoorDrawnE
import Derived.ArgAppend
namespace Go.Proofs.YtfhmamalanloaaaDoor
open Go.RowKit Nums Ed
set_option maxRecDepth 100000

/-- Block g holds the numbers cs. -/
def IBlk (w : World) (g : Nat) (cs : List Int) : Prop := w.heap[g]? = some (.cells (cs.map (Value.int .i64)).toArray 3 (0, 0))
theorem IBlk.lt {w : World} {g : Nat} {cs : List Int} (h : IBlk w g cs) : g < w.heap.size := (Array.getElem?_eq_some_iff.1 h).1
theorem IBlk.cell {w : World} {g k : Nat} {cs : List Int} {x : Int} (h : IBlk w g cs) (hk : cs[k]? = some x) : w.cell? ⟨g, k, none⟩ = some (.int .i64 x) := by
  unfold IBlk at h
  simp only [World.cell?, h]
  simp [hk]
theorem IBlk.frozen {w : World} {g : Nat} {cs : List Int} (h : IBlk w g cs) (k : Nat) : w.frozen? ⟨g, k, none⟩ = false := by
  unfold IBlk at h
  simp only [World.frozen?, h]
  simp
theorem IBlk.set {w : World} {g : Nat} {cs : List Int} (h : IBlk w g cs) (k : Nat) (x : Int) : IBlk (w.setCell ⟨g, k, none⟩ (.int .i64 x)) g (cs.set k x) := by
  unfold IBlk at h ⊢
  simp only [World.setCell, Array.getElem?_modify, h]
  simp [List.map_set]
theorem IBlk.same {w w' : World} {g : Nat} {cs : List Int} (h : IBlk w g cs) (e : w'.heap[g]? = w.heap[g]?) : IBlk w' g cs := by
  unfold IBlk at h ⊢; rw [e]; exact h
/-- All that was there is as it was, but for block r. -/
structure But (r : Nat) (w w' : World) : Prop where
  os : w'.os = w.os
  tape : w'.tape = w.tape
  output : w'.output = w.output
  size : w.heap.size ≤ w'.heap.size
  block : ∀ k, k < w.heap.size → k ≠ r → w'.heap[k]? = w.heap[k]?
theorem But.refl (r : Nat) (w : World) : But r w w := ⟨rfl, rfl, rfl, Nat.le_refl _, fun _ _ _ => rfl⟩
theorem But.trans {r : Nat} {a b c : World} (h : But r a b) (k : But r b c) : But r a c :=
  ⟨k.os.trans h.os, k.tape.trans h.tape, k.output.trans h.output, Nat.le_trans h.size k.size, fun i hi hr => (k.block i (Nat.lt_of_lt_of_le hi h.size) hr).trans (h.block i hi hr)⟩
theorem But.of_below {r : Nat} {w w' : World} (h : Below w.heap.size w w') : But r w w' := ⟨h.os, h.tape, h.output, h.size, fun k hk _ => h.block k hk⟩
theorem But.below {r B : Nat} {w w' : World} (h : But r w w') (hr : B ≤ r) (hB : B ≤ w.heap.size) : Below B w w' :=
  ⟨h.os, h.tape, h.output, h.size, fun k hk => h.block k (by omega) (by omega)⟩
theorem But.setCell {r : Nat} {a w : World} (h : But r a w) (o : Nat) (u : Value) : But r a (w.setCell ⟨r, o, none⟩ u) :=
  h.trans ⟨rfl, rfl, rfl, by simp [World.setCell], fun k _ hk => Below.heap_setCell _ _ _ _ hk⟩
theorem but_drewN {B : Nat} {a w : World} (h : But B a w) (n : Nat) : But B a (w.drewN n) := ⟨h.os, h.tape, h.output, h.size, h.block⟩
theorem IBlk.alloc {w : World} {g : Nat} {cs : List Int} (h : IBlk w g cs) (o : Obj) : IBlk (w.alloc o) g cs := h.same (Below.heap_alloc _ _ _ h.lt)
theorem IBlk.drewN {w : World} {g : Nat} {cs : List Int} (h : IBlk w g cs) (n : Nat) : IBlk (w.drewN n) g cs := h
theorem But.alloc {r : Nat} {a w : World} (h : But r a w) (o : Obj) : But r a (w.alloc o) := h.trans (But.of_below ((Below.refl _ w).alloc (Nat.le_refl _) o))
theorem infoInt : (Tryd.prog.info? 3).map (fun i => (i.zero, i.size, i.bytes)) = some (some (.int .i64 0), 1, 8) := by kernel_rfl
/-- 'append(row, x)', where the row has room. -/
theorem appendI_run {w : World} {g off n cap nb c : Nat} {cs : List Int} {x : Int} (h : IBlk w g cs) (hx : w.cell? ⟨nb, 0, none⟩ = some (.int .i64 x)) (hn : n < cap) (ho : off + n < cs.length) (ty : TypeId) :
    (Builtin.append_ #[54, 54] ty #[.slice (some ⟨g, off, none⟩) n cap, .slice (some ⟨nb, 0, none⟩) 1 c]).run Tryd.prog w = .ok (.slice (some ⟨g, off, none⟩) (n + 1) cap) (w.setCell ⟨g, off + n, none⟩ (.int .i64 x)) := by
  obtain ⟨i0, hi, hz0, hz1, hz2⟩ := info_parts infoInt
  have hadd : ∀ j, (⟨nb, 0, none⟩ : Addr).add j = ⟨nb, 0 + j, none⟩ := fun j => by unfold Addr.add; split <;> simp_all
  have hc : w.cell? ⟨g, off + n, none⟩ = some (.int .i64 cs[off + n]) := h.cell (List.getElem?_eq_getElem ho)
  have hr := run_append_room_cells (P := Tryd.prog) w 54 ty 3 i0 Tryd.underlying54 hi g off n cap ⟨nb, 0, none⟩ 1 c [.int .i64 x] (by rw [hz1]; rfl) (fun j u hj => by
    match j, hj with
    | 0, hj => simp at hj; subst hj; rw [hadd]; exact hx) (by simp [Value.oneCell']) (by omega) (fun j hj => by
      rw [hz1]; simp at hj; subst hj; simp [hc]) (fun j hj => h.frozen _)
  rw [hr, hz1]
  simp [World.setCells]
/-- The same in a walk, where x was just laid in a new block. -/
theorem append_i {W : World} {ops : Array Oper} {rest : List Oper} {o : Oper} {a : Act} {Q : Exit → Act → World → Prop} (hgd : o.guard = none) (s y : Operand) (T2 : TypeId)
    (ho : o.op = .call { callee := .builtin .append, args := #[s, y], argTypes := #[54, 54] }) (g off n cap c nb : Nat) (cs : List Int) (x : Int) (hs : a.eval s = .slice (some ⟨g, off, none⟩) n cap) (hy : a.eval y = .slice (some ⟨nb, 0, none⟩) 1 c) (hnb : nb = W.heap.size) (hB : IBlk W g cs) (hn : n < cap) (hl : off + n < cs.length)
    (h : ∀ w', IBlk w' g (cs.set (off + n) x) → But g W w' → wpList Tryd.prog ops Q rest (a.put o.dst (.slice (some ⟨g, off, none⟩) (n + 1) cap)) w') : wpList Tryd.prog ops Q (o :: rest) a (W.alloc (.cells #[.int .i64 x] T2)) := by
  subst hnb
  have h1 := appendI_run (nb := W.heap.size) (c := c) (x := x) (hB.alloc (.cells #[.int .i64 x] T2)) (by simp) hn hl o.type
  refine wpList_plain hgd fun _ hK => ?_
  unfold Oper.wp execOp
  simp only [ho, resolve, invoke, builtin, Sem.run_bind, Sem.run_pure, Result.andThen_ok, List.map_toArray, List.map_cons, List.map_nil, hs, hy, h1]
  exact hK _ _ (h _ ((hB.alloc _).set _ _) (((But.refl g W).alloc _).setCell _ _))
/-- A row that a call has made can be read. -/
theorem Made.runes {B : Nat} {w : World} {v : Value} {xs : List Int} (h : Made B w v xs) : RunesAt w.heap.size w v xs := by
  obtain ⟨hl, hn | ⟨g, cap, cur, rfl, hb, hg, h1, h2, h3, h4⟩⟩ := h
  · obtain ⟨rfl, h0⟩ := hn
    exact ⟨none, 0, by rw [h0], fun h => by omega⟩
  · refine ⟨_, _, rfl, fun _ => ⟨g, 0, rfl, (Array.getElem?_eq_some_iff.1 hg).1, fun i x hi => ?_⟩⟩
    have hi' := (List.getElem?_eq_some_iff.1 hi).1
    have hc : cur[i]? = some (.int .i32 x) := by
      have e : (cur.toList.take (xs.length * 1))[i]? = (xs.map (Value.int .i32))[i]? := by rw [h4]
      rw [List.getElem?_take, if_pos (by omega)] at e
      rw [← Array.getElem?_toList, e, List.getElem?_map, hi]
      rfl
    simp only [World.cell?, hg, Nat.zero_add]
    simpa using hc
theorem RunesAt.form {E : Nat} {w : World} {v : Value} {xs : List Int} (h : RunesAt E w v xs) : ∃ ad cap, v = .slice ad xs.length cap := by
  obtain ⟨ad, cap, e, _⟩ := h; exact ⟨ad, cap, e⟩
theorem RunesAt.at {E : Nat} {w : World} {ad : Option Addr} {n cap : Nat} {xs : List Int} (h : RunesAt E w (.slice ad n cap) xs) {k : Nat} {x : Int} (hk : xs[k]? = some x) : ∃ g off, ad = some ⟨g, off, none⟩ ∧ g < E ∧ w.cell? ⟨g, off + k, none⟩ = some (.int .i32 x) := by
  obtain ⟨ad', cap', e, hc⟩ := h
  simp only [Value.slice.injEq] at e
  obtain ⟨rfl, _, rfl⟩ := e
  obtain ⟨g, off, rfl, hg, hx⟩ := hc (by have := (List.getElem?_eq_some_iff.1 hk).1; omega)
  exact ⟨g, off, rfl, hg, hx k x hk⟩
theorem take_dr (p ys : List Int) {k : Nat} (h : k ≤ ys.length) : (dr p ys).take (k + 1) = (dr p ys).take k ++ [(lv p (ys.take k) : Int)] := by
  rw [List.take_add_one, dr_get _ _ h]; rfl
theorem tdr_len (p ys : List Int) {k : Nat} (h : k ≤ ys.length + 1) : ((dr p ys).take k).length = k := by rw [List.length_take, dr_len]; omega

end Go.Proofs.YtfhmamalanloaaaDoor
