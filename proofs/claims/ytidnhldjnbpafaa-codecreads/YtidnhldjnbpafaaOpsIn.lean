/- A script of calls that came in. -/
import Derived.Test.YtidnhldjnbpafaaFrame
import Derived.Deep.Strs
namespace Go.Proofs.Ytidnhldjnbpafaa
open Go.ChangeShapes Go.WideShapes Go.ChangeAt Go.RowKit Go.Deep

theorem opCells : Try.prog.cellsOf 38 = 3 := by kernel_rfl
theorem intCells : Try.prog.cellsOf 3 = 1 := by kernel_rfl
theorem u64Cells : Try.prog.cellsOf 23 = 1 := by kernel_rfl

/-- The calls of a script, as they lie in memory. -/
def Script (W : World) (v : Value) (L : Nat) : Prop :=
  ∃ ao cap, v = .slice ao L cap ∧ L ≤ cap ∧ L ≤ 9223372036854775807 ∧ (0 < L → ∃ b off, ao = some ⟨b, off, none⟩ ∧ b < W.heap.size ∧ ∀ i, i < L → ∃ (kd n : Int) (m : Nat),
    W.cell? ⟨b, off + i * 3, none⟩ = some (.int .i64 kd) ∧ W.cell? ⟨b, off + i * 3 + 1, none⟩ = some (.int .i64 n) ∧ W.cell? ⟨b, off + i * 3 + 2, none⟩ = some (.int .u64 (m : Int)) ∧ -9223372036854775808 ≤ n ∧ n ≤ 9223372036854775807)

theorem ops_in {H : Type} {enc : TypeId × Value → H} {W : World} {base : Nat} {v : Value} {d : DataW H} {p : List MemPlace}
    (hok : Value.okWide Try.prog W .any base 31 v) (h : DataW.Trod enc Try.prog W 0 (fun _ => true) true 31 v d p) : ∃ L, Script W v L := by
  obtain ⟨a0, len, cap, rfl⟩ := okWide_slice Try.underlying31 hok
  obtain ⟨fuel, hf⟩ := h
  rcases open_slice Try.underlying31 hf with ⟨hcs, hx⟩ | ⟨a, len', cap', m, n, D, Pl, hcs, _, hl, hm, hmm, hx, hel⟩
  · simp [Value.cells] at hcs
    obtain ⟨rfl, rfl, rfl⟩ := hcs
    exact ⟨0, none, 0, rfl, Nat.le_refl _, by omega, fun h => by omega⟩
  · simp [Value.cells] at hcs
    obtain ⟨rfl, rfl, rfl⟩ := hcs
    refine ⟨len, some a, cap, rfl, hl, by unfold maxLen at hm; omega, fun h0 => ?_⟩
    have hlm : len ≤ m := by rw [hmm]; split <;> omega
    have each : ∀ i, i < m → ∃ (kd n : Int) (q : Nat), W.cell? (a.add (i * 3)) = some (.int .i64 kd) ∧ W.cell? (a.add (i * 3 + 1)) = some (.int .i64 n) ∧ W.cell? (a.add (i * 3 + 2)) = some (.int .u64 (q : Int)) ∧ -9223372036854775808 ≤ n ∧ n ≤ 9223372036854775807 := by
      intro i hi
      obtain ⟨cs', h1, h2⟩ := hel i hi
      rw [opCells] at h1
      obtain ⟨_, hlen, hcell⟩ := World.cells?_some h1
      obtain ⟨y0, y1, y2, n2, _, _, g0, g1, g2⟩ := trod_struct3 Try.underlying38 h2
      match cs', hlen with
      | [v0, v1, v2], _ =>
        simp [intCells, u64Cells] at g0 g1 g2
        obtain ⟨z0, e0, _, w0⟩ := DataW.trod_int Try.underlying3 g0
        obtain ⟨z1, e1, _, w1⟩ := DataW.trod_int Try.underlying3 g1
        obtain ⟨z2, e2, _, w2⟩ := DataW.trod_int Try.underlying23 g2
        have b1 := bounds_i64 w1
        have b2 := bounds_u64 w2
        obtain ⟨q, rfl⟩ : ∃ q : Nat, z2 = (q : Int) := ⟨z2.toNat, by omega⟩
        simp only [List.cons.injEq, and_true] at e0 e1 e2
        subst e0 e1 e2
        have c0 := hcell 0 (by omega)
        have c1 := hcell 1 (by omega)
        have c2 := hcell 2 (by omega)
        rw [add_add] at c0 c1 c2
        exact ⟨z0, z1, q, by simpa using c0, by simpa using c1, by simpa using c2, b1.1, b1.2⟩
    obtain ⟨b, off, rfl⟩ : ∃ b off, a = ⟨b, off, none⟩ := by
      obtain ⟨kd, n, q, c0, _⟩ := each 0 (by omega)
      obtain ⟨b, off, sp⟩ := a
      cases sp with
      | none => exact ⟨b, off, rfl⟩
      | some s => exfalso; revert c0; unfold Addr.add World.cell?; split <;> simp
    have hadd : ∀ j, (⟨b, off, none⟩ : Addr).add j = ⟨b, off + j, none⟩ := fun j => by unfold Addr.add; split <;> simp_all
    refine ⟨b, off, rfl, ?_, fun i hi => ?_⟩
    · obtain ⟨kd, n, q, c0, _⟩ := each 0 (by omega)
      rw [hadd] at c0
      exact lt_of_cell c0
    · obtain ⟨kd, n, q, c0, c1, c2, h3⟩ := each i (by omega)
      rw [hadd] at c0 c1 c2
      exact ⟨kd, n, q, c0, by rwa [← Nat.add_assoc] at c1, by rwa [← Nat.add_assoc] at c2, h3⟩
end Go.Proofs.Ytidnhldjnbpafaa
