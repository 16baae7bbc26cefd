/- Rows and scripts that came in, and a world for the witness. -/
import Derived.Test.YtoiikmfdoadkpaaSeAlive
import Derived.SizedLaws
import Derived.Deep.DeepHandedRow
import Derived.Deep.Slices
import Derived.Lib.LaidTab
import Derived.Lib.SmallJoins
namespace Go.Proofs.Ytoiikmfdoadkpaa
open Go.ChangeShapes Go.WideShapes Go.ChangeAt Go.RowKit Go.Deep
set_option maxRecDepth 100000
namespace Se
theorem own : ownKnob Try.prog.godebug = none := by kernel_rfl
theorem laidOut : laidOutB Try.prog = true := by kernel_rfl
/-- A world for the witness: the settled one. -/
noncomputable def laidWorld (os : Os) : World := World.holding Try.prog os ⟨#[], #[], []⟩
/-- How much of the bulk's bound a row takes. -/
def big {H : Type} (d : DataW H) : Nat := match d with
  | .slice elems spare => elems.length + spare.length
  | _ => 0
theorem add_get {b off : Nat} (j : Nat) : (⟨b, off, none⟩ : Addr).add j = ⟨b, off + j, none⟩ := by unfold Addr.add; split <;> simp_all
/-- A row of structs that came in. -/
theorem row_in {X : Type} (T TS : TypeId) (k bytes : Nat) (cx : X → List Value) (z : X) (hund : Try.prog.underlying TS = some (.slice T)) (hk : Try.prog.cellsOf T = k) (hbt : Try.prog.bytesOf T = bytes) (hk0 : 0 < k) (hb0 : 32 ≤ bytes) (hcx : ∀ q, (cx q).length = k)
    {H : Type} {enc : TypeId × Value → H} (hc : ∀ {W : World} {fuel : Nat} {cs : List Value} {x : DataW H × List MemPlace}, DataW.trod enc Try.prog W 0 (fun _ => true) true fuel T cs = some x → ∃ q, cs = cx q)
    {W : World} {base : Nat} {v : Value} {d : DataW H} {p : List MemPlace}
    (hok : Value.okWide Try.prog W .any base TS v) (h : DataW.Trod enc Try.prog W 0 (fun _ => true) true TS v d p)
    (hsz : ∀ elems spare, d = .slice elems spare → (elems.length + spare.length) * Try.prog.bytesOf T ≤ reachBytes) : ∃ L : List X, GRow W.heap.size k W v (L.map cx) ∧ L.length ≤ 4398046511104 ∧ L.length ≤ big d := by
  obtain ⟨a0, len, cap, rfl⟩ := okWide_slice hund hok
  obtain ⟨fuel, hf⟩ := h
  rcases open_slice hund hf with ⟨hcs, hx⟩ | ⟨a, len', cap', m, n, D, Pl, hcs, _, hl, hm, hmm, hx, hel⟩
  · simp [Value.cells] at hcs
    obtain ⟨rfl, rfl, rfl⟩ := hcs
    exact ⟨[], ⟨none, 0, rfl, fun h => by simp at h⟩, by simp, by simp⟩
  · simp [Value.cells] at hcs
    obtain ⟨rfl, rfl, rfl⟩ := hcs
    have hlm : len ≤ m := by rw [hmm]; split <;> omega
    have each : ∀ i, i < m → ∃ q : X, ∀ j u, (cx q)[j]? = some u → W.cell? (a.add (i * k + j)) = some u := by
      intro i hi
      obtain ⟨cs', h1, h2⟩ := hel i hi
      rw [hk] at h1
      obtain ⟨_, hlen, hcell⟩ := World.cells?_some h1
      obtain ⟨q, rfl⟩ := hc h2
      refine ⟨q, fun j u hj => ?_⟩
      have hjk : j < k := by rw [← hcx q]; exact (List.getElem?_eq_some_iff.1 hj).1
      have := hcell j hjk
      rw [add_add] at this
      rw [this, hj]
    have hch : ∃ f : Nat → X, ∀ i, i < m → ∀ j u, (cx (f i))[j]? = some u → W.cell? (a.add (i * k + j)) = some u :=
      ⟨fun i => if hi : i < m then Classical.choose (each i hi) else z, fun i hi => by
        simp only [dif_pos hi]
        exact Classical.choose_spec (each i hi)⟩
    obtain ⟨f, hfe⟩ := hch
    have hget : ∀ (i : Nat) (o : X), ((List.range len).map f)[i]? = some o → i < len ∧ o = f i := fun i o hi => by
      rw [List.getElem?_map] at hi
      have hil : i < len := by
        cases hr : (List.range len)[i]? with
        | none => rw [hr] at hi; cases hi
        | some j => have := (List.getElem?_eq_some_iff.1 hr).1; simpa using this
      rw [List.getElem?_range hil] at hi
      simp only [Option.map_some, Option.some.injEq] at hi
      exact ⟨hil, hi.symm⟩
    simp only [Prod.mk.injEq] at hx
    obtain ⟨rfl, _⟩ := hx
    have hs := hsz _ _ rfl
    rw [hbt] at hs
    simp only [reachBytes] at hs
    refine ⟨(List.range len).map f, ⟨some a, cap, by simp, fun h0 => ?_⟩, ?_, ?_⟩
    · have h0' : 0 < len := by simpa using h0
      have hcx0 : ∃ u, (cx (f 0))[0]? = some u := ⟨_, List.getElem?_eq_getElem (by rw [hcx]; exact hk0)⟩
      obtain ⟨u0, hu0⟩ := hcx0
      have c0 := hfe 0 (by omega) 0 u0 hu0
      obtain ⟨b, off, rfl⟩ : ∃ b off, a = ⟨b, off, none⟩ := by
        obtain ⟨b, off, sp⟩ := a
        cases sp with
        | none => exact ⟨b, off, rfl⟩
        | some s => exfalso; revert c0; unfold Addr.add World.cell?; split <;> simp
      refine ⟨b, off, rfl, ?_, fun i j x u hi hj => ?_⟩
      · rw [add_get] at c0
        exact lt_of_cell c0
      · rw [List.getElem?_map] at hi
        cases ho : ((List.range len).map f)[i]? with
        | none => rw [ho] at hi; cases hi
        | some o =>
          rw [ho] at hi
          simp only [Option.map_some, Option.some.injEq] at hi
          subst hi
          obtain ⟨hil, rfl⟩ := hget i o ho
          have := hfe i (by omega) j u hj
          rw [add_get] at this
          rw [Nat.add_assoc]
          exact this
    · have hs2 := Nat.le_trans (Nat.mul_le_mul_left _ hb0) hs
      clear hs
      simp at hs2 ⊢
      omega
    · simp [big]
theorem u64Cells : Try.prog.cellsOf 26 = 1 := by kernel_rfl
theorem intCells : Try.prog.cellsOf 3 = 1 := by kernel_rfl
theorem errCells : Try.prog.cellsOf 30 = 1 := by kernel_rfl
theorem anCells : Try.prog.cellsOf 32 = 3 := by kernel_rfl
theorem rowCells : Try.prog.cellsOf 43 = 4 := by kernel_rfl
theorem opCells : Try.prog.cellsOf 34 = 6 := by kernel_rfl
theorem an_cells {H : Type} {enc : TypeId × Value → H} {W : World} {fuel : Nat} {cs : List Value} {x : DataW H × List MemPlace}
    (h : DataW.trod enc Try.prog W 0 (fun _ => true) true fuel 32 cs = some x) : ∃ q : An, cs = cellsA q := by
  obtain ⟨xs, n, _, _, hl, hlen, hf⟩ := DataW.trod_struct Try.underlying32 h
  rw [anCells] at hl
  match cs, hl, xs, hlen with
  | [v0, v1, v2], _, [y0, y1, y2], _ =>
    have g0 := hf 0 _ rfl
    have g1 := hf 1 _ rfl
    have g2 := hf 2 _ rfl
    simp [u64Cells, intCells, errCells] at g0 g1 g2
    obtain ⟨z0, e0, _, _⟩ := DataW.trod_int Try.underlying30 g0
    obtain ⟨z1, e1, _, _⟩ := DataW.trod_int Try.underlying26 g1
    obtain ⟨z2, e2, _, _⟩ := DataW.trod_int Try.underlying3 g2
    simp only [List.cons.injEq, and_true] at e0 e1 e2
    subst e0 e1 e2
    exact ⟨(z0, z1, z2), rfl⟩
theorem rw_cells {H : Type} {enc : TypeId × Value → H} {W : World} {fuel : Nat} {cs : List Value} {x : DataW H × List MemPlace}
    (h : DataW.trod enc Try.prog W 0 (fun _ => true) true fuel 43 cs = some x) : ∃ q : Rw, cs = cellsR q := by
  obtain ⟨xs, n, _, _, hl, hlen, hf⟩ := DataW.trod_struct Try.underlying43 h
  rw [rowCells] at hl
  match cs, hl, xs, hlen with
  | [v0, v1, v2, v3], _, [y0, y1], _ =>
    have g0 := hf 0 _ rfl
    have g1 := hf 1 _ rfl
    simp [u64Cells, anCells] at g0 g1
    obtain ⟨z0, e0, _, _⟩ := DataW.trod_int Try.underlying26 g0
    obtain ⟨a, e1⟩ := an_cells g1
    simp only [List.cons.injEq, and_true] at e0
    subst e0
    rw [e1]
    exact ⟨(z0, a), rfl⟩
theorem op_cells {H : Type} {enc : TypeId × Value → H} {W : World} {fuel : Nat} {cs : List Value} {x : DataW H × List MemPlace}
    (h : DataW.trod enc Try.prog W 0 (fun _ => true) true fuel 34 cs = some x) : ∃ q : Oo, cs = cellsO q := by
  obtain ⟨xs, n, _, _, hl, hlen, hf⟩ := DataW.trod_struct Try.underlying34 h
  rw [opCells] at hl
  match cs, hl, xs, hlen with
  | [v0, v1, v2, v3, v4, v5], _, [y0, y1, y2, y3], _ =>
    have g0 := hf 0 _ rfl
    have g1 := hf 1 _ rfl
    have g2 := hf 2 _ rfl
    have g3 := hf 3 _ rfl
    simp [u64Cells, intCells, anCells] at g0 g1 g2 g3
    obtain ⟨z0, e0, _, _⟩ := DataW.trod_int Try.underlying3 g0
    obtain ⟨z1, e1, _, _⟩ := DataW.trod_int Try.underlying26 g1
    obtain ⟨z2, e2, _, _⟩ := DataW.trod_int Try.underlying26 g2
    obtain ⟨a, e3⟩ := an_cells g3
    simp only [List.cons.injEq, and_true] at e0 e1 e2
    subst e0 e1 e2
    rw [e3]
    exact ⟨(z0, z1, z2, a), rfl⟩
section
variable {H : Type} {enc : TypeId × Value → H} {W : World} {base : Nat} {v : Value} {d : DataW H} {p : List MemPlace}
theorem rows_in (hok : Value.okWide Try.prog W .any base 39 v) (h : DataW.Trod enc Try.prog W 0 (fun _ => true) true 39 v d p)
    (hsz : ∀ elems spare, d = .slice elems spare → (elems.length + spare.length) * Try.prog.bytesOf 43 ≤ reachBytes) : ∃ L : List Rw, GRow W.heap.size 4 W v (L.map cellsR) ∧ L.length ≤ 4398046511104 ∧ L.length ≤ big d :=
  row_in 43 39 4 32 cellsR r0 Try.underlying39 rowCells (by kernel_rfl) (by omega) (by omega) (fun _ => rfl) (fun h => rw_cells h) hok h hsz
theorem ops_in (hok : Value.okWide Try.prog W .any base 22 v) (h : DataW.Trod enc Try.prog W 0 (fun _ => true) true 22 v d p)
    (hsz : ∀ elems spare, d = .slice elems spare → (elems.length + spare.length) * Try.prog.bytesOf 34 ≤ reachBytes) : ∃ L : List Oo, GRow W.heap.size 6 W v (L.map cellsO) ∧ L.length ≤ 4398046511104 ∧ L.length ≤ big d :=
  row_in 34 22 6 48 cellsO (0, 0, 0, 0, 0, 0) Try.underlying22 opCells (by kernel_rfl) (by omega) (by omega) (fun _ => rfl) (fun h => op_cells h) hok h hsz
theorem op_in (hok : Value.okWide Try.prog W .any base 34 v) (h : DataW.Trod enc Try.prog W 0 (fun _ => true) true 34 v d p) : ∃ q : Oo, v = valO q := by
  obtain ⟨cs, rfl, hsz⟩ := okWide_struct Try.underlying34 hok
  obtain ⟨fuel, hf⟩ := h
  obtain ⟨q, e⟩ := op_cells hf
  have e2 : cs.toList = cellsO q := by simpa [Value.cells] using e
  have e3 : cs = (cellsO q).toArray := Array.toList_inj.1 e2
  rw [e3]
  exact ⟨q, rfl⟩
end
end Se
end Go.Proofs.Ytoiikmfdoadkpaa
