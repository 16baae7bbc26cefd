/- LettersBack: the law's own walk. -/
import Derived.Test.YtoikilbndhjfcaaDoorSame
import Derived.Test.YtoikilbndhjfcaaDoorWhole
import Derived.Test.YtoikilbndhjfcaaDoorRowIn
namespace Go.Proofs.YtoikilbndhjfcaaDoor
open Go.RowKit Nums
set_option maxRecDepth 100000

theorem back_data {xs : List Int} (h : allR xs = true) : (textS xs).data.toList = xs.flatMap wr := by
  unfold textS; rw [if_pos h, strOfNums_data, flat_bytes]
theorem back_size (xs : List Int) : (textS xs).size ≤ 4 * xs.length := by
  unfold textS
  split
  · rw [strOfNums_size]; exact flat_len xs
  · exact Nat.zero_le _

set_option maxHeartbeats 1000000 in
theorem back_walk (v : Value) (w : World) (ht : Tabs w) (xs : List Int) (hrow : Row w v xs) (hl : xs.length * 4 ≤ 140737488351232) (_ : ∀ x ∈ xs, -2147483648 ≤ x ∧ x < 2147483648) :
    Calls Tryd.prog 5 #[v] w fun e w' => e = .returned (.bool true) ∧ Below w.heap.size w w' := by
  have hsz := back_size xs
  cases hq : allR xs
  · have HQ : Hid (allR xs = false) := hq
    have HT : Hid ((textS xs).data.toList = []) := by show (textS xs).data.toList = []; unfold textS; rw [hq]; rfl
    clear hq
    go_enter Tryd.func5, Tryd.ntmps5
    go_wp2_with fail
    refine (Text_any v xs _ ht hrow (by omega)).mono ?_
    rintro e w1 ⟨rfl, hb1⟩
    rw [HQ.out]
    go_wp2_with fail
    refine (Runes_any _ _ (ht.below hb1) (by omega) (room_of_length (by rw [HT.out]; simp))).mono ?_
    rintro e w2 ⟨v2, hb2, hr2⟩
    rw [HT.out, rs_nil] at hr2
    have hbb : Below w.heap.size w w2 := hb1.trans (hb2.mono hb1.size)
    clear hb1 hb2
    rcases hr2 with ⟨hr2, _⟩ | ⟨ys, hr2, rfl, hmade2⟩
    · cases hr2
    clear hr2
    go_wp2_with (go_at_call 11; refine (alive_any _ (ht.below hbb)).mono ?_; rintro e w3 ⟨rfl, hb3⟩)
    go_ret
    exact ⟨rfl, hbb.trans (hb3.mono hbb.size)⟩
  · have HQ : Hid (allR xs = true) := hq
    have HT : Hid (rs (textS xs).data.toList = some xs) := by show rs _ = _; rw [back_data hq]; exact rs_text hq
    clear hq
    go_enter Tryd.func5, Tryd.ntmps5
    go_wp2_with fail
    refine (Text_any v xs _ ht hrow (by omega)).mono ?_
    rintro e w1 ⟨rfl, hb1⟩
    rw [HQ.out]
    go_wp2_with fail
    refine (Runes_any _ _ (ht.below hb1) (by omega) (room_of_runes HT.out (by omega))).mono ?_
    rintro e w2 ⟨v2, hb2, hr2⟩
    rw [HT.out] at hr2
    have hbb : Below w.heap.size w w2 := hb1.trans (hb2.mono hb1.size)
    have hrow2 := hrow.below hbb
    clear hb1 hb2 hrow
    rcases hr2 with ⟨hr2, _⟩ | ⟨ys, hr2, rfl, hmade2⟩
    · cases hr2
    obtain rfl : xs = ys := Option.some.inj hr2
    clear hr2
    go_wp2_with fail
    refine (alive_any _ (ht.below hbb)).mono ?_
    rintro e w3 ⟨rfl, hb3⟩
    have hbc := hbb.trans (hb3.mono hbb.size)
    have hrow3 := hrow2.below hb3
    have hrow4 := (hmade2.below hb3).row
    clear hbb hb3 hrow2 hmade2
    go_wp2_with fail
    refine (Same_any _ _ xs xs _ hrow3 hrow4 (by omega) (by omega)).mono ?_
    rintro e w4 ⟨rfl, n4, rfl⟩
    rw [decide_eq_true (rfl : xs = xs)]
    go_wp2
    go_ret
    exact ⟨rfl, below_drewN hbc _⟩
end Go.Proofs.YtoikilbndhjfcaaDoor
