/- LettersReads: the law's own walk. -/
import Derived.Test.YtoikilbndhjfcaaDoorSame
import Derived.Test.YtoikilbndhjfcaaDoorRefRunes
namespace Go.Proofs.YtoikilbndhjfcaaDoor
open Go.RowKit Nums
set_option maxRecDepth 100000

theorem reads_small {H : Type} {a : ByteArray} (hk : Rows.uptoSmall H [.lit (.string a.data.toList)] = true) : a.size ≤ 1048576 := by
  have h : Rows.uptoBulkAll [DataW.lit (H := H) (.string a.data.toList)] ≤ 1048576 := of_decide_eq_true hk
  simp only [Rows.uptoBulkAll, Rows.uptoBulk] at h
  rw [size_length] at h
  omega

set_option maxHeartbeats 1000000 in
theorem reads_walk (s : ByteArray) (w : World) (ht : Tabs w) (hm : s.size ≤ 9223372036854775807) (hs : s.size ≤ 1048576) :
    Calls Tryd.prog 3 #[.string s] w fun e w' => e = .returned (.bool true) ∧ Below w.heap.size w w' := by
  have R : Hid (Room s.data.toList) := room_of_length (by rw [size_length]; omega)
  go_enter Tryd.func3, Tryd.ntmps3
  go_wp2_with fail
  refine (Runes_any s _ ht hm R.out).mono ?_
  rintro e w1 ⟨v1, hb1, hr1⟩
  rcases hr1 with ⟨hr1, rfl, rfl⟩ | ⟨xs, hr1, rfl, hmade1⟩
  · go_wp2_with fail
    refine (RefRunes_any s _ hm R.out).mono ?_
    rintro e w2 ⟨v2, hb2, hr2⟩
    rcases hr2 with ⟨hr2, rfl, rfl⟩ | ⟨ys, hr2, rfl, hmade2⟩
    · clear hr1 hr2
      have hbb : Below w.heap.size w w2 := hb1.trans (hb2.mono hb1.size)
      clear hb1 hb2
      go_wp2_with fail
      refine (alive_any _ (ht.below hbb)).mono ?_
      rintro e w3 ⟨rfl, hb3⟩
      have hbc : Below w.heap.size w w3 := hbb.trans (hb3.mono hbb.size)
      clear hbb hb3
      go_wp2_with fail
      refine (Same_any _ _ [] [] _ ⟨none, 0, rfl, fun h => by simp at h⟩ ⟨none, 0, rfl, fun h => by simp at h⟩ (by simp) (by simp)).mono ?_
      rintro e w4 ⟨rfl, n4, rfl⟩
      go_wp2
      go_ret
      exact ⟨rfl, below_drewN hbc _⟩
    · exact absurd (hr1.symm.trans hr2) (by simp)
  · go_wp2_with fail
    refine (RefRunes_any s _ hm R.out).mono ?_
    rintro e w2 ⟨v2, hb2, hr2⟩
    rcases hr2 with ⟨hr2, rfl, rfl⟩ | ⟨ys, hr2, rfl, hmade2⟩
    · exact absurd (hr1.symm.trans hr2) (by simp)
    · obtain rfl : xs = ys := Option.some.inj (hr1.symm.trans hr2)
      have hl := (rs_len hr1).2
      rw [size_length] at hl
      clear hr1 hr2
      have hbb : Below w.heap.size w w2 := hb1.trans (hb2.mono hb1.size)
      have hrow1 := (hmade1.below hb2).row
      have hrow2 := hmade2.row
      clear hb1 hb2 hmade1 hmade2
      go_wp2_with fail
      refine (alive_any _ (ht.below hbb)).mono ?_
      rintro e w3 ⟨rfl, hb3⟩
      have hbc : Below w.heap.size w w3 := hbb.trans (hb3.mono hbb.size)
      have hrow3 := hrow1.below hb3
      have hrow4 := hrow2.below hb3
      clear hbb hb3 hrow1 hrow2
      go_wp2_with fail
      refine (Same_any _ _ xs xs _ hrow3 hrow4 (by omega) (by omega)).mono ?_
      rintro e w4 ⟨rfl, n4, rfl⟩
      rw [decide_eq_true (rfl : xs = xs)]
      go_wp2
      go_ret
      exact ⟨rfl, below_drewN hbc _⟩
end Go.Proofs.YtoikilbndhjfcaaDoor
