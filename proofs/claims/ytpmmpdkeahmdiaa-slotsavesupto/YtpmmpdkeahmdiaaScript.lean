/- A script of calls that came in. -/
import Derived.Test.YtpmmpdkeahmdiaaFrame
import Derived.Test.YtpmmpdkeahmdiaaDoes
import Derived.Deep.Strs
import Derived.Lib.SmallJoins
namespace Go.Proofs.Ytpmmpdkeahmdiaa
open Go.ChangeShapes Go.WideShapes Go.ChangeAt Go.RowKit Go.Deep
set_option maxRecDepth 100000

theorem opCells : Try.prog.cellsOf 38 = 4 := by kernel_rfl
theorem intCells : Try.prog.cellsOf 3 = 1 := by kernel_rfl
theorem u64Cells : Try.prog.cellsOf 35 = 1 := by kernel_rfl
theorem bytesCells : Try.prog.cellsOf 36 = 1 := by kernel_rfl

/-- The calls of a script, as they lie in memory. -/
def Script (W : World) (v : Value) (L : List OpC) : Prop :=
  ∃ ao cap, v = .slice ao L.length cap ∧ L.length ≤ cap ∧ L.length ≤ 9223372036854775807 ∧ (0 < L.length → ∃ b off, ao = some ⟨b, off, none⟩ ∧ b < W.heap.size ∧ ∀ (i : Nat) (o : OpC), L[i]? = some o → o.fits ∧ ∃ bv,
    W.cell? ⟨b, off + i * 4, none⟩ = some (.int .i64 o.kind) ∧ W.cell? ⟨b, off + i * 4 + 1, none⟩ = some (.int .u64 o.area) ∧ W.cell? ⟨b, off + i * 4 + 2, none⟩ = some (.int .i64 o.n) ∧ W.cell? ⟨b, off + i * 4 + 3, none⟩ = some bv ∧ Row W.heap.size W bv o.xs)

theorem bytes_at {H : Type} {enc : TypeId × Value → H} {W : World} {fuel : Nat} {v : Value} {x : DataW H × List MemPlace}
    (hf : DataW.trod enc Try.prog W 0 (fun _ => true) true fuel 36 [v] = some x) : ∃ xs : List Nat, Row W.heap.size W v xs ∧ xs.length ≤ 9223372036854775807 ∧ (∀ x ∈ xs, x < 256) := by
  rcases open_ints Try.underlying36 Try.underlying5 cellsByte hf with ⟨hcs, hx⟩ | ⟨a, len, cap, zs, hcs, _, hl, hm, hz, hx, hcell, hwz⟩
  · simp only [List.cons.injEq, and_true] at hcs
    subst hcs
    exact ⟨[], ⟨none, 0, rfl, Nat.le_refl _, fun _ => rfl, fun h => by (simp at h)⟩, by simp, fun x hx => by (simp at hx)⟩
  · simp only [List.cons.injEq, and_true] at hcs
    subst hcs
    simp only [if_true] at hz
    have hlen : (zs.take len).length = len := by rw [List.length_take]; omega
    have hb : ∀ x ∈ zs, 0 ≤ x ∧ x ≤ 255 := fun x hx => bounds_u8 (hwz x hx)
    have hlen2 : ((zs.take len).map Int.toNat).length = len := by rw [List.length_map, hlen]
    refine ⟨(zs.take len).map Int.toNat, ⟨some a, cap, by rw [hlen2], by omega, fun h => by (cases h), fun h0 => ?_⟩, ?_, ?_⟩
    · rw [hlen2] at h0
      obtain ⟨b, off, rfl, hc⟩ := ints_at hcell (by omega)
      refine ⟨b, off, rfl, lt_of_cell (hc 0 (by omega)), fun i hi => ?_⟩
      rw [hlen2] at hi
      rw [hc i (by omega)]
      have hz2 : i < zs.length := by omega
      have := hb zs[i] (List.getElem_mem hz2)
      simp [List.getD_eq_getElem?_getD, hi, hz2]
      omega
    · rw [hlen2]
      unfold maxLen at hm
      omega
    · intro x hx
      obtain ⟨z, hz, rfl⟩ := List.mem_map.1 hx
      have := hb z (List.mem_of_mem_take hz)
      omega
theorem ops_in {H : Type} {enc : TypeId × Value → H} {W : World} {base : Nat} {v : Value} {d : DataW H} {p : List MemPlace}
    (hok : Value.okWide Try.prog W .any base 22 v) (h : DataW.Trod enc Try.prog W 0 (fun _ => true) true 22 v d p) : ∃ L, Script W v L ∧ L.length ≤ big d := by
  obtain ⟨a0, len, cap, rfl⟩ := okWide_slice Try.underlying22 hok
  obtain ⟨fuel, hf⟩ := h
  rcases open_slice Try.underlying22 hf with ⟨hcs, hx⟩ | ⟨a, len', cap', m, n, D, Pl, hcs, _, hl, hm, hmm, hx, hel⟩
  · simp [Value.cells] at hcs
    obtain ⟨rfl, rfl, rfl⟩ := hcs
    exact ⟨[], ⟨none, 0, rfl, Nat.le_refl _, by simp, fun h => by simp at h⟩, by simp⟩
  · simp [Value.cells] at hcs
    obtain ⟨rfl, rfl, rfl⟩ := hcs
    have hlm : len ≤ m := by rw [hmm]; split <;> omega
    have each : ∀ i, i < m → ∃ o : OpC, o.fits ∧ ∃ bv, W.cell? (a.add (i * 4)) = some (.int .i64 o.kind) ∧ W.cell? (a.add (i * 4 + 1)) = some (.int .u64 o.area) ∧ W.cell? (a.add (i * 4 + 2)) = some (.int .i64 o.n) ∧ W.cell? (a.add (i * 4 + 3)) = some bv ∧ Row W.heap.size W bv o.xs := by
      intro i hi
      obtain ⟨cs', h1, h2⟩ := hel i hi
      rw [opCells] at h1
      obtain ⟨_, hlen, hcell⟩ := World.cells?_some h1
      obtain ⟨y0, y1, y2, y3, n2, _, _, g0, g1, g2, g3⟩ := Go.Joins.trod_struct4 Try.underlying38 h2
      match cs', hlen with
      | [v0, v1, v2, v3], _ =>
        simp [intCells, u64Cells, bytesCells] at g0 g1 g2 g3
        obtain ⟨z0, e0, _, w0⟩ := DataW.trod_int Try.underlying3 g0
        obtain ⟨z1, e1, _, w1⟩ := DataW.trod_int Try.underlying35 g1
        obtain ⟨z2, e2, _, w2⟩ := DataW.trod_int Try.underlying3 g2
        obtain ⟨xs, hrow, hxl, hxb⟩ := bytes_at g3
        have b1 := bounds_u64 w1
        have b2 := bounds_i64 w2
        simp only [List.cons.injEq, and_true] at e0 e1 e2
        subst e0 e1 e2
        have c0 := hcell 0 (by omega)
        have c1 := hcell 1 (by omega)
        have c2 := hcell 2 (by omega)
        have c3 := hcell 3 (by omega)
        rw [add_add] at c0 c1 c2 c3
        exact ⟨⟨z0, z1, z2, xs⟩, ⟨b2.1, b2.2, b1.1, b1.2, hxl, hxb⟩, v3, by simpa using c0, by simpa using c1, by simpa using c2, by simpa using c3, hrow⟩
    have hch : ∃ f : Nat → OpC, ∀ i, i < m → (f i).fits ∧ ∃ bv, W.cell? (a.add (i * 4)) = some (.int .i64 (f i).kind) ∧ W.cell? (a.add (i * 4 + 1)) = some (.int .u64 (f i).area) ∧ W.cell? (a.add (i * 4 + 2)) = some (.int .i64 (f i).n) ∧ W.cell? (a.add (i * 4 + 3)) = some bv ∧ Row W.heap.size W bv (f i).xs :=
      ⟨fun i => if hi : i < m then Classical.choose (each i hi) else ⟨0, 0, 0, []⟩, fun i hi => by
        simp only [dif_pos hi]
        exact Classical.choose_spec (each i hi)⟩
    obtain ⟨f, hfe⟩ := hch
    refine ⟨(List.range len).map f, ⟨some a, cap, by simp, by simpa using hl, by unfold maxLen at hm; simp; omega, fun h0 => ?_⟩, ?_⟩
    · have h0' : 0 < len := by simpa using h0
      obtain ⟨b, off, rfl⟩ : ∃ b off, a = ⟨b, off, none⟩ := by
        obtain ⟨_, bv, c0, _⟩ := hfe 0 (by omega)
        obtain ⟨b, off, sp⟩ := a
        cases sp with
        | none => exact ⟨b, off, rfl⟩
        | some s => exfalso; revert c0; unfold Addr.add World.cell?; split <;> simp
      have hadd : ∀ j, (⟨b, off, none⟩ : Addr).add j = ⟨b, off + j, none⟩ := fun j => by unfold Addr.add; split <;> simp_all
      refine ⟨b, off, rfl, ?_, fun i o hi => ?_⟩
      · obtain ⟨_, bv, c0, _⟩ := hfe 0 (by omega)
        rw [hadd] at c0
        exact lt_of_cell c0
      · rw [List.getElem?_map] at hi
        have hil : i < len := by
          cases hr : (List.range len)[i]? with
          | none => rw [hr] at hi; cases hi
          | some j => have := (List.getElem?_eq_some_iff.1 hr).1; simpa using this
        rw [List.getElem?_range hil] at hi
        simp only [Option.map_some, Option.some.injEq] at hi
        subst hi
        obtain ⟨q1, bv, c0, c1, c2, c3, q2⟩ := hfe i (by omega)
        rw [hadd] at c0 c1 c2 c3
        exact ⟨q1, bv, c0, by simpa [Nat.add_assoc] using c1, by simpa [Nat.add_assoc] using c2, by simpa [Nat.add_assoc] using c3, q2⟩
    · simp only [Prod.mk.injEq] at hx
      obtain ⟨rfl, _⟩ := hx
      simp [big]
end Go.Proofs.Ytpmmpdkeahmdiaa
