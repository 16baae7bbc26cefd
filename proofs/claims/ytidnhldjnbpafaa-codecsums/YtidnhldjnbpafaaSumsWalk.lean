/- CodecSums: the law's own walk. -/
import Derived.Test.YtidnhldjnbpafaaSeal
import Derived.Test.YtidnhldjnbpafaaRefSum
namespace Go.Proofs.Ytidnhldjnbpafaa
open Go.RowKit
set_option maxRecDepth 100000
set_option maxHeartbeats 2000000 in
theorem sums_walk (v : Value) (w : World) (xs : List Nat) (hrow : Row w.heap.size w v xs) (hl : xs.length ≤ 140737488351232) (hx : ∀ x ∈ xs, x < 256) :
    Calls Try.prog 8 #[v] w fun e w' => e = .returned (.bool true) ∧ Below w.heap.size w w' := by
  have HR : Hid (Row w.heap.size w v xs) := hrow
  have HX : Hid (∀ x ∈ xs, x < 256) := hx
  clear hrow hx
  go_enter Try.func8, Try.ntmps8
  go_wp2_with fail
  refine (alive_any w).mono ?_
  rintro e w1 ⟨rfl, hb1⟩
  go_wp2_with fail
  refine (Sum_any _ _ xs _ (HR.out.below hb1) HX.out (by omega)).mono ?_
  rintro e w2 ⟨rfl, rfl⟩
  go_wp2_with fail
  refine (refSum_any _ _ xs _ (HR.out.below hb1) HX.out (by omega)).mono ?_
  rintro e w3 ⟨rfl, rfl⟩
  go_wp2_with fail
  go_ret
  exact ⟨rfl, hb1⟩
end Go.Proofs.Ytidnhldjnbpafaa
