/- The reference's First: the rune with whose writing a text begins. -/
import Derived.Test.YtfhmamalanloaaaDoorRef
import Derived.Deep.QuietTactic
import Derived.BigQuiet
namespace Go.Proofs.YtfhmamalanloaaaDoor
open Go.RowKit Nums
set_option maxRecDepth 100000
attribute [local go_sem ↓] Go.wp_at_zero Go.wp_at_succ

theorem wr_toList (r : Int) : (strOfNums (wrI r)).toList = wr r := by
  rw [ByteArray.toList_eq, strOfNums_data]; rfl
theorem ext_toList (s : ByteArray) (n : Nat) : (s.extract 0 n).toList = s.data.toList.take n := by
  rw [ByteArray.toList_eq]; simp [ByteArray.extract, ByteArray.copySlice]

theorem Rune_is (r : Int) (w : World) {b : Bool} (h : isR r = b) : Calls Tryd.prog 34 #[.int .i64 r] w fun e w' => e = .returned (.bool b) ∧ w' = w := by
  rw [← h]; exact Rune_any r w

set_option maxHeartbeats 2000000 in
theorem First_any (s : ByteArray) (w : World) (h0 : 0 < s.size) (hm : s.size ≤ 9223372036854775807) :
    Calls Tryd.prog 30 #[.string s] w fun e w' => e = .returned (.tuple #[.int .i64 (rd s.data.toList).1, .int .i64 (rd s.data.toList).2]) ∧ Below w.heap.size w w' := by
  have HNE : Hid (s.data.toList ≠ []) := ne_of_size h0
  have HBD : Hid ((rd s.data.toList).2 ≤ s.data.toList.length ∧ (rd s.data.toList).2 ≤ 4) := rd_bd HNE.out
  go_enter Tryd.func30, Tryd.ntmps30
  go_wp2
  go_loopw [4] (fun i wr => ∃ k : Nat, 1 ≤ k ∧ k ≤ 5 ∧ i = .int .i64 k ∧ (∀ j, 1 ≤ j → j < k → (rd s.data.toList).2 ≠ j) ∧ Below w.heap.size w wr) (fun i _ => 5 - (intOf i).toNat)
  case atStart => exact ⟨1, by omega, by omega, rfl, fun j a b => by omega, Below.refl _ _⟩
  case round =>
    obtain ⟨k, hk1, hk5, rfl, hno, hbel⟩ := hrel
    have HNO : Hid (∀ j, 1 ≤ j → j < k → (rd s.data.toList).2 ≠ j) := hno
    clear hno
    by_cases hk : k ≤ 4 ∧ k ≤ s.size
    · obtain ⟨hk4, hks⟩ := hk
      have hsb := sd_bd s.data.toList k
      generalize hx : sd s.data.toList k = x at *
      have HX : Hid (sd s.data.toList k = x) := hx
      clear hx
      cases hr : isR x
      · have HR : Hid (isR x = false) := hr
        clear hr
        have HF : Hid (∀ j, 1 ≤ j → j < k + 1 → (rd s.data.toList).2 ≠ j) := fun j a b => by
          by_cases e : j = k
          · subst e; exact first_no HNE.out hk1 (fun h => by have h2 := h.1; rw [HX.out, HR.out] at h2; cases h2)
          · exact HNO.out j a (by omega)
        go_wp2_with (go_at_call 33; refine (said_any s k _ hk1 hk4 hks hm).mono ?_; rintro e w' ⟨rfl, rfl⟩; rw [HX.out])
        go_quiet ((go_at_call 34; exact Calls.quiet_of_same (Rune_is _ _ HR.out)))
        go_wp2
        go_roundw
        case rel => exact ⟨k + 1, by omega, by omega, by go_num, HF.out, below_drewN hbel _⟩
        case measure => simp [intOf]; omega
      · have HR : Hid (isR x = true) := hr
        clear hr
        have h1k : (k : Int) ≤ (s.size : Int) := by omega
        have h1k' : (0 : Int) ≤ (k : Int) := by omega
        by_cases hw : Nums.wr x = s.data.toList.take k
        · have HW : Hid (Nums.wr x = s.data.toList.take k) := hw
          have hq : ((strOfNums (wrI x)).toList == (s.extract 0 k).toList) = true := by rw [wr_toList, ext_toList, hw]; simp
          clear hw
          have HF : Hid (rd s.data.toList = (x, k)) := by
            have := first_yes (l := s.data.toList) (n := k) (by rw [size_length]; exact hks) (by rw [HX.out]; exact HR.out) (by rw [HX.out]; exact HW.out)
            rw [HX.out] at this; exact this
          go_wp2_with (go_at_call 33; refine (said_any s k _ hk1 hk4 hks hm).mono ?_; rintro e w' ⟨rfl, rfl⟩; rw [HX.out])
          go_region_held3 (fun _ => True) (trivial) (first | (go_at_call 34; refine (Rune_is _ _ HR.out).mono ?_; rintro e w' ⟨rfl, rfl⟩) | (go_at_call 35; refine (Write_any _ _ HR.out).mono ?_; rintro e w3 ⟨rfl, hb3⟩))
          all_goals go_wp2
          all_goals go_ret2
          refine ⟨?_, ?_⟩
          · rw [HF.out]; rfl
          · exact hbel.drew.trans (hb3.mono hbel.size)
        · have hq : ((strOfNums (wrI x)).toList == (s.extract 0 k).toList) = false := by rw [wr_toList, ext_toList]; simpa using hw
          have HW : Hid (¬ Nums.wr x = s.data.toList.take k) := hw
          clear hw
          have HF : Hid (∀ j, 1 ≤ j → j < k + 1 → (rd s.data.toList).2 ≠ j) := fun j a b => by
            by_cases e : j = k
            · subst e; exact first_no HNE.out hk1 (fun h => by have h2 := h.2; rw [HX.out] at h2; exact HW.out h2)
            · exact HNO.out j a (by omega)
          go_wp2_with (go_at_call 33; refine (said_any s k _ hk1 hk4 hks hm).mono ?_; rintro e w' ⟨rfl, rfl⟩; rw [HX.out])
          go_region_held3 (fun _ => True) (trivial) (first | (go_at_call 34; refine (Rune_is _ _ HR.out).mono ?_; rintro e w' ⟨rfl, rfl⟩) | (go_at_call 35; refine (Write_any _ _ HR.out).mono ?_; rintro e w3 ⟨rfl, hb3⟩))
          all_goals go_wp2
          go_roundw
          case rel => exact ⟨k + 1, by omega, by omega, by go_num, HF.out, hbel.drew.trans (hb3.mono hbel.size)⟩
          case measure => simp [intOf]; omega
    · have HZ : Hid (rd s.data.toList = (0, 0)) := by
        refine rd_zero ?_
        by_cases z : (rd s.data.toList).2 = 0
        · exact z
        · have h2 := HBD.out
          rw [size_length] at h2
          exact absurd rfl (HNO.out (rd s.data.toList).2 (by omega) (by omega))
      by_cases hk4 : k ≤ 4
      · have hks : ¬ k ≤ s.size := fun h => hk ⟨hk4, h⟩
        clear hk
        go_wp2
        go_ret2
        refine ⟨?_, hbel⟩
        rw [HZ.out]; rfl
      · clear hk
        go_wp2
        go_ret2
        refine ⟨?_, hbel⟩
        rw [HZ.out]; rfl
end Go.Proofs.YtfhmamalanloaaaDoor
