/- A slice of runes that came in: what the walks ask of it, out of its reading. -/
import Derived.Test.YtoikilbndhjfcaaDoorText
import Derived.ProofKit
import Derived.OpenShut
import Derived.SizedLaws
namespace Go.Proofs.YtoikilbndhjfcaaDoor
open Go.ChangeShapes Go.WideShapes Go.ChangeAt Go.RowKit Nums

theorem cellsRune' : Tryd.prog.cellsOf 21 = 1 := by kernel_rfl
theorem bytesRune : Tryd.prog.bytesOf 21 = 4 := by kernel_rfl

theorem row_in {H : Type} {enc : TypeId × Value → H} {W : World} {base : Nat} {v : Value} {d : DataW H} {p : List MemPlace}
    (hok : Value.okWide Tryd.prog W .any base 22 v) (h : DataW.Trod enc Tryd.prog W 0 (fun _ => true) true 22 v d p)
    (hsz : (DataW.weightsEach Tryd.prog [22] [d]).all (· ≤ reachBytes) = true) :
    ∃ xs : List Int, Row W v xs ∧ xs.length * 4 ≤ 140737488351232 ∧ ∀ x ∈ xs, -2147483648 ≤ x ∧ x < 2147483648 := by
  obtain ⟨a0, len, cap, rfl⟩ := okWide_slice Tryd.underlying22 hok
  obtain ⟨fuel, hf⟩ := h
  rcases open_ints Tryd.underlying22 Tryd.underlying21 cellsRune' hf with ⟨hcs, hx⟩ | ⟨a, len', cap', zs, hcs, _, hl, hm, hz, hx, hcell, hwz⟩
  · simp [Value.cells] at hcs
    obtain ⟨rfl, rfl, rfl⟩ := hcs
    exact ⟨[], ⟨none, 0, rfl, fun h => by simp at h⟩, by simp, fun x hx => by simp at hx⟩
  · simp [Value.cells] at hcs
    obtain ⟨rfl, rfl, rfl⟩ := hcs
    simp only [Prod.mk.injEq] at hx
    obtain ⟨rfl, _⟩ := hx
    simp only [if_true] at hz
    have hlen : (zs.take len).length = len := by rw [List.length_take]; omega
    refine ⟨zs.take len, ⟨some a, cap, by rw [hlen], fun h0 => ?_⟩, ?_, ?_⟩
    · rw [hlen] at h0
      obtain ⟨b, off, rfl, hc⟩ := ints_at hcell (by omega)
      refine ⟨b, off, rfl, fun i hi => ?_⟩
      rw [hlen] at hi
      rw [hc i (by omega)]
      simp [List.getD_eq_getElem?_getD, hi]
    · have := sized_slice hsz (j := 0) (t := 22) (e := 21) rfl rfl Tryd.underlying22
      rw [bytesRune] at this
      simp only [lits, List.length_map, List.length_take, List.length_drop, reachBytes] at this
      rw [hlen]
      omega
    · intro x hx
      have := bounds_i32 (hwz x (List.mem_of_mem_take hx))
      omega
end Go.Proofs.YtoikilbndhjfcaaDoor
