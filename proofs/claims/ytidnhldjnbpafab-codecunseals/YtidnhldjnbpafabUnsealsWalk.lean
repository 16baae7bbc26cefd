/- CodecUnseals: the law's own walk. -/
import Derived.Test.YtidnhldjnbpafabRefUnseal
namespace Go.Proofs.Ytidnhldjnbpafab
open Go.RowKit
set_option maxRecDepth 100000
set_option maxHeartbeats 2000000 in
theorem unseals_walk (v : Value) (w : World) (xs : List Nat) (hrow : Row w.heap.size w v xs) (hl : xs.length ≤ 140737488351232) (hx : ∀ x ∈ xs, x < 256) :
    Calls Try.prog 4 #[v] w fun e w' => e = .returned (.bool true) ∧ Below w.heap.size w w' := by
  have HR : Hid (Row w.heap.size w v xs) := hrow
  have HX : Hid (∀ x ∈ xs, x < 256) := hx
  clear hrow hx
  go_enter Try.func4, Try.ntmps4
  go_wp2_with fail
  refine (Unseal_any _ _ xs w HR.out (Nat.le_refl _) HX.out (by omega)).mono ?_
  rintro e w1 ⟨v1, rfl, hown1, hb1⟩
  have hs1 := hb1.size
  have HO1 : Hid (Bytes w.heap.size w1 v1 (unsealR xs).1) := hown1
  clear hown1
  go_wp2_with fail
  refine (refUnseal_any _ _ xs w1 (HR.out.below hb1) hs1 HX.out hl).mono ?_
  rintro e w2 ⟨v2, rfl, hown2, hb2⟩
  have hb02 := hb1.trans (hb2.mono hs1)
  have hs2 := hb02.size
  have HO2 : Hid (Bytes w1.heap.size w2 v2 (unsealR xs).1) := hown2
  have HO12 : Hid (Bytes w.heap.size w2 v1 (unsealR xs).1) := HO1.out.below hb2
  clear hown2 hb2 HO1 hb1
  go_wp2_with fail
  refine (alive_any w2).mono ?_
  rintro e w3 ⟨rfl, hb3⟩
  have hc1 := (HO12.out.below hb3).row.str
  have hc2 := (HO2.out.below hb3).row.str
  generalize strB (unsealR xs).1 = s at hc1 hc2
  go_wp2_with fail
  go_ret
  exact ⟨by first | rfl | simp, hb02.trans (hb3.mono hs2)⟩
end Go.Proofs.Ytidnhldjnbpafab
