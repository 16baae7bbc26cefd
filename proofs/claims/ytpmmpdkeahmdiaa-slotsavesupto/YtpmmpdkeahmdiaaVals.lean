/- Rows of bytes that came in. -/
import Derived.Test.YtpmmpdkeahmdiaaFrame
import Derived.Test.YtpmmpdkeahmdiaaScript
namespace Go.Proofs.Ytpmmpdkeahmdiaa
open Go.ChangeShapes Go.WideShapes Go.ChangeAt Go.RowKit Go.Deep
set_option maxRecDepth 100000

/-- Values that are read: each a row of bytes. -/
def Vals (W : World) (v : Value) (L : List (List Nat)) : Prop :=
  ∃ ao cap, v = .slice ao L.length cap ∧ L.length ≤ cap ∧ L.length ≤ 9223372036854775807 ∧ (0 < L.length → ∃ b off, ao = some ⟨b, off, none⟩ ∧ b < W.heap.size ∧ ∀ (i : Nat) (xs : List Nat), L[i]? = some xs → (∀ x ∈ xs, x < 256) ∧ ∃ rv, W.cell? ⟨b, off + i, none⟩ = some rv ∧ Row W.heap.size W rv xs)
theorem rowCells1 : Try.prog.cellsOf 36 = 1 := by kernel_rfl
theorem vals_in {H : Type} {enc : TypeId × Value → H} {W : World} {base : Nat} {v : Value} {d : DataW H} {p : List MemPlace}
    (hok : Value.okWide Try.prog W .any base 53 v) (h : DataW.Trod enc Try.prog W 0 (fun _ => true) true 53 v d p) : ∃ L, Vals W v L ∧ L.length ≤ big d := by
  obtain ⟨a0, len, cap, rfl⟩ := okWide_slice Try.underlying53 hok
  obtain ⟨fuel, hf⟩ := h
  rcases open_slice Try.underlying53 hf with ⟨hcs, hx⟩ | ⟨a, len', cap', m, n, D, Pl, hcs, _, hl, hm, hmm, hx, hel⟩
  · simp [Value.cells] at hcs
    obtain ⟨rfl, rfl, rfl⟩ := hcs
    exact ⟨[], ⟨none, 0, rfl, Nat.le_refl _, by simp, fun h => by simp at h⟩, by simp⟩
  · simp [Value.cells] at hcs
    obtain ⟨rfl, rfl, rfl⟩ := hcs
    have hlm : len ≤ m := by rw [hmm]; split <;> omega
    have each : ∀ i, i < m → ∃ xs : List Nat, (∀ x ∈ xs, x < 256) ∧ ∃ rv, W.cell? (a.add i) = some rv ∧ Row W.heap.size W rv xs := by
      intro i hi
      obtain ⟨cs', h1, h2⟩ := hel i hi
      rw [rowCells1] at h1
      obtain ⟨_, hlen, hcell⟩ := World.cells?_some h1
      match cs', hlen with
      | [v0], _ =>
        obtain ⟨xs, hrow, hxl, hxb⟩ := bytes_at h2
        have c0 := hcell 0 (by omega)
        refine ⟨xs, hxb, v0, ?_, hrow⟩
        rw [add_add] at c0
        simpa using c0
    have hch : ∃ f : Nat → List Nat, ∀ i, i < m → (∀ x ∈ f i, x < 256) ∧ ∃ rv, W.cell? (a.add i) = some rv ∧ Row W.heap.size W rv (f i) :=
      ⟨fun i => if hi : i < m then Classical.choose (each i hi) else [], fun i hi => by
        simp only [dif_pos hi]
        exact Classical.choose_spec (each i hi)⟩
    obtain ⟨f, hfe⟩ := hch
    refine ⟨(List.range len).map f, ⟨some a, cap, by simp, by simpa using hl, by unfold maxLen at hm; simp; omega, fun h0 => ?_⟩, ?_⟩
    · have h0' : 0 < len := by simpa using h0
      obtain ⟨b, off, rfl⟩ : ∃ b off, a = ⟨b, off, none⟩ := by
        obtain ⟨_, rv, c0, _⟩ := hfe 0 (by omega)
        obtain ⟨b, off, sp⟩ := a
        cases sp with
        | none => exact ⟨b, off, rfl⟩
        | some s => exfalso; revert c0; unfold Addr.add World.cell?; split <;> simp
      have hadd : ∀ j, (⟨b, off, none⟩ : Addr).add j = ⟨b, off + j, none⟩ := fun j => by unfold Addr.add; split <;> simp_all
      refine ⟨b, off, rfl, ?_, fun i o hi => ?_⟩
      · obtain ⟨_, rv, c0, _⟩ := hfe 0 (by omega)
        rw [hadd] at c0
        exact lt_of_cell c0
      · rw [List.getElem?_map] at hi
        have hil : i < len := by
          cases hr : (List.range len)[i]? with
          | none => rw [hr] at hi; cases hi
          | some j => have := (List.getElem?_eq_some_iff.1 hr).1; simpa using this
        rw [List.getElem?_range hil] at hi
        simp only [Option.map_some, Option.some.injEq] at hi
        subst hi
        obtain ⟨q1, rv, c0, q2⟩ := hfe i (by omega)
        rw [hadd] at c0
        exact ⟨q1, rv, c0, q2⟩
    · simp only [Prod.mk.injEq] at hx
      obtain ⟨rfl, _⟩ := hx
      simp [big]
end Go.Proofs.Ytpmmpdkeahmdiaa
