/- LettersWrites: the law's own walk. -/
import Derived.Test.YtoikilbndhjfcaaDoorRefText
import Derived.Test.YtoikilbndhjfcaaDoorRowIn
namespace Go.Proofs.YtoikilbndhjfcaaDoor
open Go.RowKit Nums
set_option maxRecDepth 100000

set_option maxHeartbeats 1000000 in
theorem writes_walk (v : Value) (w : World) (ht : Tabs w) (xs : List Int) (hrow : Row w v xs) (hl : xs.length * 4 ≤ 140737488351232) (hw : ∀ x ∈ xs, -2147483648 ≤ x ∧ x < 2147483648) :
    Calls Tryd.prog 4 #[v] w fun e w' => e = .returned (.bool true) ∧ Below w.heap.size w w' := by
  have HW : Hid (∀ x ∈ xs, -2147483648 ≤ x ∧ x < 2147483648) := hw
  clear hw
  go_enter Tryd.func4, Tryd.ntmps4
  go_wp2_with fail
  refine (Text_any v xs _ ht hrow (by omega)).mono ?_
  rintro e w1 ⟨rfl, hb1⟩
  go_wp2_with fail
  refine (RefText_any v xs _ (hrow.below hb1) (by omega) HW.out).mono ?_
  rintro e w2 ⟨rfl, hb2⟩
  have hbb : Below w.heap.size w w2 := hb1.trans (hb2.mono hb1.size)
  clear hb1 hb2 hrow HW
  generalize textS xs = s
  generalize allR xs = q
  cases q
  all_goals
    go_wp2_with (go_at_call 11; refine (alive_any _ (ht.below hbb)).mono ?_; rintro e w3 ⟨rfl, hb3⟩)
    go_ret
    exact ⟨rfl, hbb.trans (hb3.mono hbb.size)⟩
end Go.Proofs.YtoikilbndhjfcaaDoor
