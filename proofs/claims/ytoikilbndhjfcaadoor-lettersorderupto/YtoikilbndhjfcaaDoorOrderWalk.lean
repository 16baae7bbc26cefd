/- LettersOrder: the law's own walk. -/
import Derived.Test.YtoikilbndhjfcaaDoorAhead
namespace Go.Proofs.YtoikilbndhjfcaaDoor
open Go.RowKit Nums
set_option maxRecDepth 100000

theorem order_small {H : Type} {a b : ByteArray} (hk : Rows.uptoSmall H [.lit (.string a.data.toList), .lit (.string b.data.toList)] = true) : a.size ≤ 1048576 ∧ b.size ≤ 1048576 := by
  have h : Rows.uptoBulkAll [DataW.lit (H := H) (.string a.data.toList), DataW.lit (H := H) (.string b.data.toList)] ≤ 1048576 := of_decide_eq_true hk
  simp only [Rows.uptoBulkAll, Rows.uptoBulk] at h
  rw [size_length, size_length] at h
  omega

set_option maxHeartbeats 2000000 in
theorem order_walk (a b : ByteArray) (w : World) (ht : Tabs w) (ha : a.size ≤ 9223372036854775807) (hb : b.size ≤ 9223372036854775807) (hs : a.size ≤ 1048576 ∧ b.size ≤ 1048576) :
    Calls Tryd.prog 7 #[.string a, .string b] w fun e w' => e = .returned (.bool true) ∧ Below w.heap.size w w' := by
  have RA : Hid (Room a.data.toList) := room_of_length (by rw [size_length]; omega)
  have RB : Hid (Room b.data.toList) := room_of_length (by rw [size_length]; omega)
  go_enter Tryd.func7, Tryd.ntmps7
  go_wp2_with fail
  refine (Runes_any a _ ht ha RA.out).mono ?_
  rintro e w1 ⟨v1, hb1, hr1⟩
  rcases hr1 with ⟨hr1, rfl, rfl⟩ | ⟨xs, hr1, rfl, hmade1⟩
  · clear hr1
    go_wp2_with fail
    refine (Runes_any b _ (ht.below hb1) hb RB.out).mono ?_
    rintro e w2 ⟨v2, hb2, hr2⟩
    have hbb : Below w.heap.size w w2 := hb1.trans (hb2.mono hb1.size)
    clear hb1 hb2
    rcases hr2 with ⟨hr2, rfl, rfl⟩ | ⟨ys, hr2, rfl, hmade2⟩
    all_goals
      clear hr2
      go_wp2_with fail
      refine (Less_any a b _).mono ?_
      rintro e w3 ⟨rfl, rfl⟩
      go_wp2_with fail
      refine (Ahead_any a b _ ha hb).mono ?_
      rintro e w4 ⟨rfl, n4, rfl⟩
      generalize lexL (a.data.toList.map N) (b.data.toList.map N) = q
      have hbc := below_drewN hbb n4
      cases q
      all_goals
        go_wp2_with (go_at_call 11; refine (alive_any _ (ht.below hbc)).mono ?_; rintro e w5 ⟨rfl, hb5⟩)
        go_ret
        exact ⟨rfl, hbc.trans (hb5.mono hbc.size)⟩
  have hl1 := (rs_len hr1).2
  rw [size_length] at hl1
  go_wp2_with fail
  refine (Runes_any b _ (ht.below hb1) hb RB.out).mono ?_
  rintro e w2 ⟨v2, hb2, hr2⟩
  have hbb : Below w.heap.size w w2 := hb1.trans (hb2.mono hb1.size)
  have hm1 := hmade1.below hb2
  clear hb1 hb2 hmade1
  rcases hr2 with ⟨hr2, rfl, rfl⟩ | ⟨ys, hr2, rfl, hmade2⟩
  · clear hr1 hr2
    go_wp2_with fail
    refine (Less_any a b _).mono ?_
    rintro e w3 ⟨rfl, rfl⟩
    go_wp2_with fail
    refine (Ahead_any a b _ ha hb).mono ?_
    rintro e w4 ⟨rfl, n4, rfl⟩
    generalize lexL (a.data.toList.map N) (b.data.toList.map N) = q
    have hbc := below_drewN hbb n4
    cases q
    all_goals
      go_wp2_with (go_at_call 11; refine (alive_any _ (ht.below hbc)).mono ?_; rintro e w5 ⟨rfl, hb5⟩)
      go_ret
      exact ⟨rfl, hbc.trans (hb5.mono hbc.size)⟩
  have hl2 := (rs_len hr2).2
  rw [size_length] at hl2
  have HO : Hid (lexL (a.data.toList.map N) (b.data.toList.map N) = lexL xs ys) := order_rs hr1 hr2
  clear hr1 hr2
  go_wp2_with fail
  refine (Less_any a b _).mono ?_
  rintro e w3 ⟨rfl, rfl⟩
  rw [HO.out]
  go_wp2_with fail
  refine (Ahead_any a b _ ha hb).mono ?_
  rintro e w4 ⟨rfl, n4, rfl⟩
  rw [HO.out]
  have hbc := below_drewN hbb n4
  have hm1' : Made w.heap.size (w3.drewN n4) v1 xs := hm1
  have hm2' := hmade2
  generalize hq : lexL xs ys = q
  have HQ : Hid (lexL xs ys = q) := hq
  clear hq
  cases q
  all_goals
    go_wp2_with fail
    refine (alive_any _ (ht.below hbc)).mono ?_
    rintro e w5 ⟨rfl, hb5⟩
    have hbd := hbc.trans (hb5.mono hbc.size)
    have hrow1 := (hm1'.below hb5).row
    have hrow2 := (Made.below (w := w3.drewN n4) hm2' hb5).row
    go_wp2_with fail
    refine (Less_any a b _).mono ?_
    rintro e w6 ⟨rfl, rfl⟩
    rw [HO.out, HQ.out]
    go_wp2_with fail
    refine (RefLess_any _ _ xs ys _ hrow1 hrow2 (by omega) (by omega)).mono ?_
    rintro e w7 ⟨rfl, n7, rfl⟩
    rw [HQ.out]
    go_wp2
    go_ret
    exact ⟨rfl, below_drewN hbd _⟩
end Go.Proofs.YtoikilbndhjfcaaDoor
