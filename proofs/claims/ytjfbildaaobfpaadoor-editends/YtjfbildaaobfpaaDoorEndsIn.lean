/- An array of two texts that came in. -/
import Derived.Test.YtjfbildaaobfpaaDoorFrame
import Derived.Deep.Strs
import Derived.Lib.SmallJoins
namespace Go.Proofs.YtjfbildaaobfpaaDoor
open Go.ChangeShapes Go.WideShapes Go.ChangeAt Go.RowKit Go.Deep
set_option maxRecDepth 100000

theorem laidOut : laidOutB Tryd.prog = true := by kernel_rfl
theorem twoCells : Tryd.prog.cellsOf 31 = 2 := by kernel_rfl
theorem strCells : Tryd.prog.cellsOf 9 = 1 := by kernel_rfl
theorem two_in {H : Type} {enc : TypeId × Value → H} {W : World} {base : Nat} {v : Value} {d : DataW H} {p : List MemPlace}
    (hok : Value.okWide Tryd.prog W .any base 31 v) (h : DataW.Trod enc Tryd.prog W 0 (fun _ => true) true 31 v d p) : ∃ a b : ByteArray, v = .agg #[.string a, .string b] ∧ a.size ≤ 9223372036854775807 ∧ b.size ≤ 9223372036854775807 := by
  obtain ⟨cs, rfl, hsz⟩ : ∃ cs, v = .agg cs ∧ cs.size = Tryd.prog.cellsOf 31 := by
    simp only [Value.okWide, Tryd.underlying31] at hok
    obtain ⟨cs, h1, h2, _⟩ := hok
    exact ⟨cs, h1, h2⟩
  obtain ⟨fuel, hf⟩ := h
  obtain ⟨xs, m, _, _, hl, hx, hel⟩ := DataW.trod_array Tryd.underlying31 hf
  rw [twoCells] at hl hsz
  obtain ⟨cl⟩ := cs
  simp only [List.size_toArray] at hsz
  match cl, hsz with
  | [v0, v1], _ =>
    have g0 := hel 0 (by omega)
    have g1 := hel 1 (by omega)
    obtain ⟨x0, e0⟩ : ∃ x, xs[0]? = some x := ⟨_, List.getElem?_eq_getElem (by omega)⟩
    obtain ⟨x1, e1⟩ : ∃ x, xs[1]? = some x := ⟨_, List.getElem?_eq_getElem (by omega)⟩
    rw [e0] at g0
    rw [e1] at g1
    simp [strCells, Value.cells] at g0 g1
    obtain ⟨s, k0, _, w0⟩ := DataW.trod_string Tryd.underlying9 g0
    obtain ⟨z, k1, _, w1⟩ := DataW.trod_string Tryd.underlying9 g1
    simp only [List.cons.injEq, and_true] at k0 k1
    subst k0 k1
    refine ⟨s, z, rfl, ?_, ?_⟩
    · have hw := w0; unfold maxLen at hw; exact hw
    · have hw := w1; unfold maxLen at hw; exact hw
end Go.Proofs.YtjfbildaaobfpaaDoor
