/- Machines that came in: what the walks ask of them, out of their reading. -/
import Derived.Test.YtllmdfkiogmofaaGreatDoorJ20
import Derived.Test.YtllmdfkiogmofaaGreatDoorJ9
import Derived.Deep.Strs
import Derived.Deep.Slices
namespace Go.Proofs.YtllmdfkiogmofaaGreatDoor
open Go.ChangeShapes Go.WideShapes Go.ChangeAt Go.RowKit Go.Deep Fm Pk
set_option maxRecDepth 100000

theorem arcCells : Tryz.prog.cellsOf 63 = 3 := by kernel_rfl
theorem stateCells : Tryz.prog.cellsOf 61 = 3 := by kernel_rfl
theorem machCells : Tryz.prog.cellsOf 26 = 2 := by kernel_rfl
theorem i32Cells : Tryz.prog.cellsOf 21 = 1 := by kernel_rfl
theorem boolCells : Tryz.prog.cellsOf 4 = 1 := by kernel_rfl
theorem arcsCells : Tryz.prog.cellsOf 59 = 1 := by kernel_rfl
theorem statesCells : Tryz.prog.cellsOf 24 = 1 := by kernel_rfl
theorem choose_list {α : Type} {len : Nat} {P : Nat → α → Prop} (each : ∀ i, i < len → ∃ o, P i o) : ∃ L : List α, L.length = len ∧ ∀ i o, L[i]? = some o → P i o := by
  refine ⟨(List.range len).attach.map fun i => Classical.choose (each i.1 (List.mem_range.1 i.2)), by simp, fun i o hi => ?_⟩
  obtain ⟨h, rfl⟩ := List.getElem?_eq_some_iff.1 hi
  simp only [List.getElem_map, List.getElem_attach, List.getElem_range]
  have hlt : i < len := by simpa using h
  exact Classical.choose_spec (each i hlt)
theorem plain_addr {W : World} {a : Addr} {v : Value} (h : W.cell? (a.add 0) = some v) : ∃ b off, a = ⟨b, off, none⟩ := by
  obtain ⟨b, off, sp⟩ := a
  cases sp with
  | none => exact ⟨b, off, rfl⟩
  | some s => exfalso; revert h; unfold Addr.add World.cell?; split <;> simp
theorem addr_add (b off j : Nat) : (⟨b, off, none⟩ : Addr).add j = ⟨b, off + j, none⟩ := by unfold Addr.add; split <;> simp_all
/-- A row of three cells each, out of its elements. -/
theorem row3 {W : World} {a : Addr} {len cap : Nat} {xss : List (List Value)} (hl : xss.length = len) (h : ∀ (i : Nat) (x : List Value), xss[i]? = some x → ∃ u0 u1 u2, x = [u0, u1, u2] ∧ W.cell? (a.add (i * 3)) = some u0 ∧ W.cell? (a.add (i * 3 + 1)) = some u1 ∧ W.cell? (a.add (i * 3 + 2)) = some u2) : GRow W.heap.size 3 W (.slice (some a) len cap) xss := by
  refine ⟨some a, cap, by rw [hl], fun h0 => ?_⟩
  obtain ⟨x, hx⟩ : ∃ x, xss[0]? = some x := ⟨xss[0], List.getElem?_eq_getElem h0⟩
  obtain ⟨u0, u1, u2, _, c0, _⟩ := h 0 x hx
  rw [Nat.zero_mul] at c0
  obtain ⟨b, off, rfl⟩ := plain_addr c0
  rw [addr_add] at c0
  refine ⟨b, off, rfl, lt_of_cell c0, fun i j x u hi hj => ?_⟩
  obtain ⟨u0, u1, u2, rfl, c0, c1, c2⟩ := h i x hi
  rw [addr_add] at c0 c1 c2
  match j, hj with
  | 0, hj => simp only [List.getElem?_cons_zero, Option.some.injEq] at hj; rw [← hj]; exact c0
  | 1, hj => simp at hj; rw [← hj]; simpa [Nat.add_assoc] using c1
  | 2, hj => simp at hj; rw [← hj]; simpa [Nat.add_assoc] using c2
  | n + 3, hj => simp at hj
theorem three_cells {W : World} {a : Addr} {i : Nat} {cs : List Value} (h : W.cells? 0 (a.add (i * 3)) 3 = some cs) : ∃ u0 u1 u2, cs = [u0, u1, u2] ∧ W.cell? (a.add (i * 3)) = some u0 ∧ W.cell? (a.add (i * 3 + 1)) = some u1 ∧ W.cell? (a.add (i * 3 + 2)) = some u2 := by
  obtain ⟨_, hlen, hcell⟩ := World.cells?_some h
  match cs, hlen with
  | [u0, u1, u2], _ =>
    have c0 := hcell 0 (by simp)
    have c1 := hcell 1 (by simp)
    have c2 := hcell 2 (by simp)
    rw [add_add] at c0 c1 c2
    exact ⟨u0, u1, u2, rfl, by simpa using c0, by simpa using c1, by simpa using c2⟩
theorem arc_cells {H : Type} {enc : TypeId × Value → H} {W : World} {fuel : Nat} {u0 u1 u2 : Value} {x : DataW H × List MemPlace}
    (h : DataW.trod enc Tryz.prog W 0 (fun _ => true) true fuel 63 [u0, u1, u2] = some x) : ∃ q : RArc, [u0, u1, u2] = cellsRA q ∧ OkRA q := by
  obtain ⟨y0, y1, y2, n, _, _, g0, g1, g2⟩ := trod_struct3 Tryz.underlying63 h
  simp [i32Cells, intCells] at g0 g1 g2
  obtain ⟨z0, e0, _, w0⟩ := DataW.trod_int Tryz.underlying21 g0
  obtain ⟨z1, e1, _, w1⟩ := DataW.trod_int Tryz.underlying3 g1
  obtain ⟨z2, e2, _, w2⟩ := DataW.trod_int Tryz.underlying3 g2
  simp only [List.cons.injEq, and_true] at e0 e1 e2
  subst e0 e1 e2
  exact ⟨⟨z0, z1, z2⟩, rfl, bounds_i32 w0, bounds_i64 w1, bounds_i64 w2⟩
theorem arcs_in {H : Type} {enc : TypeId × Value → H} {W : World} {fuel : Nat} {va : Value} {x : DataW H × List MemPlace}
    (h : DataW.trod enc Tryz.prog W 0 (fun _ => true) true fuel 59 [va] = some x) : ∃ l : List RArc, ArcsAt W.heap.size W va l := by
  rcases open_slice Tryz.underlying59 h with ⟨hcs, _⟩ | ⟨a, len, cap, m, n, D, Pl, hcs, _, hl, hm, hmm, _, hel⟩
  · simp only [List.cons.injEq, and_true] at hcs
    subst hcs
    exact ⟨[], ⟨⟨none, 0, rfl, fun h => by simp at h⟩, (fun a ha => absurd ha List.not_mem_nil), by simp⟩⟩
  · simp only [List.cons.injEq, and_true] at hcs
    subst hcs
    have hlm : len ≤ m := by rw [hmm]; split <;> omega
    have each : ∀ i, i < len → ∃ q : RArc, OkRA q ∧ W.cell? (a.add (i * 3)) = some (.int .i32 q.label) ∧ W.cell? (a.add (i * 3 + 1)) = some (.int .i64 q.out) ∧ W.cell? (a.add (i * 3 + 2)) = some (.int .i64 q.to) := by
      intro i hi
      obtain ⟨cs', h1, h2⟩ := hel i (by omega)
      rw [arcCells] at h1
      obtain ⟨u0, u1, u2, rfl, c0, c1, c2⟩ := three_cells h1
      obtain ⟨q, e, hq⟩ := arc_cells h2
      simp only [cellsRA, List.cons.injEq, and_true] at e
      rw [e.1] at c0
      rw [e.2.1] at c1
      rw [e.2.2] at c2
      exact ⟨q, hq, c0, c1, c2⟩
    obtain ⟨L, hL, hP⟩ := choose_list each
    refine ⟨L, ⟨row3 (by rw [List.length_map, hL]) (fun i x hi => ?_), fun q hq => ?_, by unfold maxLen at hm; omega⟩⟩
    · rw [List.getElem?_map] at hi
      obtain ⟨q, hq, rfl⟩ := Option.map_eq_some_iff.1 hi
      obtain ⟨_, c0, c1, c2⟩ := hP i q hq
      exact ⟨_, _, _, rfl, c0, c1, c2⟩
    · obtain ⟨i, hi⟩ := List.mem_iff_getElem?.1 hq
      exact (hP i q hi).1
theorem state_cells {H : Type} {enc : TypeId × Value → H} {W : World} {fuel : Nat} {u0 u1 u2 : Value} {x : DataW H × List MemPlace}
    (h : DataW.trod enc Tryz.prog W 0 (fun _ => true) true fuel 61 [u0, u1, u2] = some x) : ∃ q : RSt, u0 = .bool q.final ∧ u1 = .int .i64 q.out ∧ Fits64 q.out ∧ ArcsAt W.heap.size W u2 q.arcs := by
  obtain ⟨y0, y1, y2, n, _, _, g0, g1, g2⟩ := trod_struct3 Tryz.underlying61 h
  simp [boolCells, intCells, arcsCells] at g0 g1 g2
  obtain ⟨z0, e0, _⟩ := DataW.trod_bool Tryz.underlying4 g0
  obtain ⟨z1, e1, _, w1⟩ := DataW.trod_int Tryz.underlying3 g1
  obtain ⟨l, hl⟩ := arcs_in g2
  simp only [List.cons.injEq, and_true] at e0 e1
  subst e0 e1
  exact ⟨⟨z0, z1, l⟩, rfl, rfl, bounds_i64 w1, hl⟩
theorem states_in {H : Type} {enc : TypeId × Value → H} {W : World} {fuel : Nat} {vs : Value} {x : DataW H × List MemPlace}
    (h : DataW.trod enc Tryz.prog W 0 (fun _ => true) true fuel 24 [vs] = some x) : ∃ m : List RSt, StsAt W.heap.size W vs m := by
  rcases open_slice Tryz.underlying24 h with ⟨hcs, _⟩ | ⟨a, len, cap, m, n, D, Pl, hcs, _, hl, hm, hmm, _, hel⟩
  · simp only [List.cons.injEq, and_true] at hcs
    subst hcs
    exact ⟨[], ⟨⟨[], ⟨none, 0, rfl, fun h => by simp at h⟩, rfl, fun i s hi => by simp at hi⟩, (fun s hs => absurd hs List.not_mem_nil), by simp⟩⟩
  · simp only [List.cons.injEq, and_true] at hcs
    subst hcs
    have hlm : len ≤ m := by rw [hmm]; split <;> omega
    have each : ∀ i, i < len → ∃ q : RSt × Value, Fits64 q.1.out ∧ ArcsAt W.heap.size W q.2 q.1.arcs ∧ W.cell? (a.add (i * 3)) = some (.bool q.1.final) ∧ W.cell? (a.add (i * 3 + 1)) = some (.int .i64 q.1.out) ∧ W.cell? (a.add (i * 3 + 2)) = some q.2 := by
      intro i hi
      obtain ⟨cs', h1, h2⟩ := hel i (by omega)
      rw [stateCells] at h1
      obtain ⟨u0, u1, u2, rfl, c0, c1, c2⟩ := three_cells h1
      obtain ⟨q, rfl, rfl, hq, ha⟩ := state_cells h2
      exact ⟨(q, u2), hq, ha, c0, c1, c2⟩
    obtain ⟨L, hL, hP⟩ := choose_list each
    refine ⟨L.map Prod.fst, ⟨⟨L.map fun q => [.bool q.1.final, .int .i64 q.1.out, q.2], row3 (by rw [List.length_map, hL]) (fun i x hi => ?_), by simp, fun i s hi => ?_⟩, fun s hs => ?_, by unfold maxLen at hm; rw [List.length_map]; omega⟩⟩
    · rw [List.getElem?_map] at hi
      obtain ⟨q, hq, rfl⟩ := Option.map_eq_some_iff.1 hi
      obtain ⟨_, _, c0, c1, c2⟩ := hP i q hq
      exact ⟨_, _, _, rfl, c0, c1, c2⟩
    · rw [List.getElem?_map] at hi
      obtain ⟨q, hq, rfl⟩ := Option.map_eq_some_iff.1 hi
      obtain ⟨_, ha, _⟩ := hP i q hq
      exact ⟨q.2, by rw [List.getElem?_map, hq]; rfl, ha⟩
    · obtain ⟨q, hq, rfl⟩ := List.mem_map.1 hs
      obtain ⟨i, hi⟩ := List.mem_iff_getElem?.1 hq
      exact (hP i q hi).1
/-- A machine that came in. -/
theorem mach_in {H : Type} {enc : TypeId × Value → H} {W : World} {base : Nat} {v : Value} {d : DataW H} {p : List MemPlace}
    (hok : Value.okWide Tryz.prog W .any base 26 v) (h : DataW.Trod enc Tryz.prog W 0 (fun _ => true) true 26 v d p) : ∃ (n : Int) (vs : Value) (m : List RSt), v = .agg #[.int .i64 n, vs] ∧ Fits64 n ∧ StsAt W.heap.size W vs m := by
  obtain ⟨cs, rfl, hsz⟩ := okWide_struct Tryz.underlying26 hok
  obtain ⟨fuel, hf⟩ := h
  obtain ⟨y0, y1, n, _, hl, g0, g1⟩ := trod_struct2 Tryz.underlying26 hf
  rw [machCells] at hl
  have hcs : (Value.agg cs).cells.toList = cs.toList := by simp [Value.cells]
  rw [hcs] at hl g0 g1
  obtain ⟨u0, u1, hu⟩ : ∃ u0 u1, cs.toList = [u0, u1] := by
    match hh : cs.toList, hl with
    | [u0, u1], _ => exact ⟨u0, u1, rfl⟩
  rw [hu] at g0 g1
  simp [intCells, statesCells] at g0 g1
  obtain ⟨z, e0, _, w0⟩ := DataW.trod_int Tryz.underlying3 g0
  obtain ⟨m, hm⟩ := states_in g1
  simp only [List.cons.injEq, and_true] at e0
  subst e0
  exact ⟨z, u1, m, by rw [show cs = #[.int .i64 z, u1] from Array.toList_inj.1 hu], bounds_i64 w0, hm⟩
end Go.Proofs.YtllmdfkiogmofaaGreatDoor
