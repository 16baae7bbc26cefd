/- LettersCommon: the law's own walk. -/
import Derived.Test.YtoikilbndhjfcabDoorCommon
import Derived.Test.YtoikilbndhjfcabDoorRefCommon
namespace Go.Proofs.YtoikilbndhjfcabDoor
open Go.RowKit Nums
set_option maxRecDepth 100000

theorem common_small {H : Type} {a b : ByteArray} (hk : Rows.uptoSmall H [.lit (.string a.data.toList), .lit (.string b.data.toList)] = true) : a.size ≤ 1048576 ∧ b.size ≤ 1048576 := by
  have h : Rows.uptoBulkAll [DataW.lit (H := H) (.string a.data.toList), DataW.lit (H := H) (.string b.data.toList)] ≤ 1048576 := of_decide_eq_true hk
  simp only [Rows.uptoBulkAll, Rows.uptoBulk] at h
  rw [size_length, size_length] at h
  omega

set_option maxHeartbeats 1000000 in
theorem common_walk (a b : ByteArray) (w : World) (ht : Tabs w) (ha : a.size ≤ 9223372036854775807) (hb : b.size ≤ 9223372036854775807) (hs : a.size ≤ 1048576 ∧ b.size ≤ 1048576) :
    Calls Tryd.prog 5 #[.string a, .string b] w fun e w' => e = .returned (.bool true) ∧ Below w.heap.size w w' := by
  have RA : Hid (Room a.data.toList) := room_of_length (by rw [size_length]; omega)
  have RB : Hid (Room b.data.toList) := room_of_length (by rw [size_length]; omega)
  have HC : Hid (commonOf b.data.toList a.data.toList = commonOf a.data.toList b.data.toList) := common_comm _ _
  go_enter Tryd.func5, Tryd.ntmps5
  go_wp2_with fail
  refine (Common_any a b _ ht ha hb RA.out RB.out).mono ?_
  rintro e w1 ⟨rfl, hb1⟩
  go_wp2_with fail
  refine (alive_any _ (ht.below hb1)).mono ?_
  rintro e w2 ⟨rfl, hb2⟩
  have hbb : Below w.heap.size w w2 := hb1.trans (hb2.mono hb1.size)
  clear hb1 hb2
  go_wp2_with fail
  refine (RefCommon_any a b _ ha hb RA.out RB.out).mono ?_
  rintro e w3 ⟨rfl, hb3⟩
  have hbc : Below w.heap.size w w3 := hbb.trans (hb3.mono hbb.size)
  clear hbb hb3
  go_wp2_with fail
  refine (Common_any b a _ (ht.below hbc) hb ha RB.out RA.out).mono ?_
  rintro e w4 ⟨rfl, hb4⟩
  rw [HC.out]
  have hbd : Below w.heap.size w w4 := hbc.trans (hb4.mono hbc.size)
  clear hbc hb4
  generalize commonOf a.data.toList b.data.toList = n
  go_wp2
  go_ret
  exact ⟨rfl, hbd⟩
end Go.Proofs.YtoikilbndhjfcabDoor
