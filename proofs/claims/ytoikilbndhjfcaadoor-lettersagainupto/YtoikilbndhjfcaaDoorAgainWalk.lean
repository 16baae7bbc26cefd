/- LettersAgain: the law's own walk. -/
import Derived.Test.YtoikilbndhjfcaaDoorAlive
import Derived.Test.YtoikilbndhjfcaaDoorWhole
namespace Go.Proofs.YtoikilbndhjfcaaDoor
open Go.RowKit Nums
set_option maxRecDepth 100000

theorem again_small {H : Type} {a : ByteArray} (hk : Rows.uptoSmall H [.lit (.string a.data.toList)] = true) : a.size ≤ 1048576 := by
  have h : Rows.uptoBulkAll [DataW.lit (H := H) (.string a.data.toList)] ≤ 1048576 := of_decide_eq_true hk
  simp only [Rows.uptoBulkAll, Rows.uptoBulk] at h
  rw [size_length] at h
  omega
theorem textS_data {xs : List Int} (h : allR xs = true) : (textS xs).data.toList = xs.flatMap wr := by
  unfold textS; rw [if_pos h, strOfNums_data, flat_bytes]
theorem bytes_ext {a b : ByteArray} (h : a.data.toList = b.data.toList) : a = b := by
  cases a; cases b; congr; exact Array.toList_inj.1 h

set_option maxHeartbeats 1000000 in
theorem again_walk (s : ByteArray) (w : World) (ht : Tabs w) (hm : s.size ≤ 9223372036854775807) (hs : s.size ≤ 1048576) :
    Calls Tryd.prog 6 #[.string s] w fun e w' => e = .returned (.bool true) ∧ Below w.heap.size w w' := by
  have R : Hid (Room s.data.toList) := room_of_length (by rw [size_length]; omega)
  go_enter Tryd.func6, Tryd.ntmps6
  go_wp2_with fail
  refine (Runes_any s _ ht hm R.out).mono ?_
  rintro e w1 ⟨v1, hb1, hr1⟩
  rcases hr1 with ⟨hr1, rfl, rfl⟩ | ⟨xs, hr1, rfl, hmade1⟩
  · clear hr1
    go_wp2_with fail
    refine (Text_any _ [] _ (ht.below hb1) ⟨none, 0, rfl, fun h => by simp at h⟩ (by simp)).mono ?_
    rintro e w2 ⟨rfl, hb2⟩
    have hbb : Below w.heap.size w w2 := hb1.trans (hb2.mono hb1.size)
    clear hb1 hb2
    rw [show allR [] = true from rfl]
    go_wp2_with fail
    refine (alive_any _ (ht.below hbb)).mono ?_
    rintro e w3 ⟨rfl, hb3⟩
    have hbc : Below w.heap.size w w3 := hbb.trans (hb3.mono hbb.size)
    clear hbb hb3
    go_wp2
    go_ret
    exact ⟨rfl, hbc⟩
  · have hl := (rs_len hr1).2
    rw [size_length] at hl
    obtain ⟨hall, hfl⟩ := rs_write hr1
    have HA : Hid (allR xs = true) := hall
    have HT : Hid (textS xs = s) := bytes_ext (by rw [textS_data hall]; exact hfl)
    clear hr1 hall hfl
    go_wp2_with fail
    refine (Text_any _ xs _ (ht.below hb1) hmade1.row (by omega)).mono ?_
    rintro e w2 ⟨rfl, hb2⟩
    rw [HA.out, HT.out]
    have hbb : Below w.heap.size w w2 := hb1.trans (hb2.mono hb1.size)
    clear hb1 hb2 hmade1
    go_wp2_with fail
    refine (alive_any _ (ht.below hbb)).mono ?_
    rintro e w3 ⟨rfl, hb3⟩
    have hbc : Below w.heap.size w w3 := hbb.trans (hb3.mono hbb.size)
    clear hbb hb3
    go_wp2
    go_ret
    exact ⟨rfl, hbc⟩
end Go.Proofs.YtoikilbndhjfcaaDoor
