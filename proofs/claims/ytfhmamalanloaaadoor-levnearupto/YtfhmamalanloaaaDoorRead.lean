/- letters.readRune: what it returns of any text that is not empty. -/
import Derived.Test.YtfhmamalanloaaaDoorSmall
import Derived.Deep.QuietTactic
import Derived.BigQuiet
namespace Go.Proofs.YtfhmamalanloaaaDoor
open Go.RowKit Nums
set_option maxRecDepth 100000

theorem readRune_none (s : ByteArray) (w : World) (h0 : 0 < s.size) (h1 : ldSz ((s[0]'h0).toNat : Int) = 0) :
    Calls Tryd.prog 28 #[.string s] w fun e w' => e = .returned (.tuple #[.int .i32 0, .int .i64 0]) ∧ ∃ n, w' = w.drewN n := by
  go_enter Tryd.func28, Tryd.ntmps28
  go_wp2_with (go_at_call 31; refine (leadSize_any _ _).mono ?_; rintro e w' ⟨rfl, rfl⟩; rw [h1])
  go_ret2
  exact ⟨rfl, 0, rfl⟩

set_option maxHeartbeats 1000000 in
theorem readRune_short (s : ByteArray) (w : World) (n : Nat) (h0 : 0 < s.size) (hn2 : 2 ≤ n) (hn4 : n ≤ 4) (h1 : ldSz ((s[0]'h0).toNat : Int) = n) (hs : s.size < n) :
    Calls Tryd.prog 28 #[.string s] w fun e w' => e = .returned (.tuple #[.int .i32 0, .int .i64 0]) ∧ ∃ n, w' = w.drewN n := by
  go_enter Tryd.func28, Tryd.ntmps28
  go_wp2_with (go_at_call 31; refine (leadSize_any _ _).mono ?_; rintro e w' ⟨rfl, rfl⟩; rw [h1])
  go_ret2
  exact ⟨rfl, 0, rfl⟩

set_option maxHeartbeats 1000000 in
theorem readRune_ascii (s : ByteArray) (w : World) (ht : Tabs w) (h0 : 0 < s.size) (hm : s.size ≤ 9223372036854775807) (h1 : ((s[0]'h0).toNat : Int) < 128) :
    Calls Tryd.prog 28 #[.string s] w fun e w' => e = .returned (.tuple #[.int .i32 ((s[0]'h0).toNat : Int), .int .i64 1]) ∧ ∃ n, w' = w.drewN n := by
  obtain ⟨c2, c3, c4, c1, t1, t2, t3, t4⟩ := ht
  have hl : ldSz ((s[0]'h0).toNat : Int) = 1 := by unfold ldSz; repeat' split
                                                   all_goals omega
  go_enter Tryd.func28, Tryd.ntmps28
  go_wp2_with (go_at_call 31; refine (leadSize_any _ _).mono ?_; rintro e w' ⟨rfl, rfl⟩; rw [hl])
  go_quiet (fail)
  go_wp2
  refine wp_loop_rounds 1 ?_
  rw [rounds_succ]
  go_wp2_with (go_at_call 32; refine (isRune_any _ _).mono ?_; rintro e w' ⟨rfl, rfl⟩; rw [isR_of (by omega)])
  go_ret2
  exact ⟨rfl, _, rfl⟩

set_option maxHeartbeats 2000000 in
theorem readRune_long (s : ByteArray) (w : World) (ht : Tabs w) (n : Nat) (h0 : 0 < s.size) (hm : s.size ≤ 9223372036854775807) (hn2 : 2 ≤ n) (hn4 : n ≤ 4) (hl : ldSz ((s[0]'h0).toNat : Int) = n) (hs : n ≤ s.size) :
    Calls Tryd.prog 28 #[.string s] w fun e w' => e = .returned (.tuple #[.int .i32 (rd s.data.toList).1, .int .i64 (rd s.data.toList).2]) ∧ ∃ n, w' = w.drewN n := by
  obtain ⟨c2, c3, c4, c1, t1, t2, t3, t4⟩ := ht
  have hb0 : ldOf n ≤ ((s[0]'h0).toNat : Int) ∧ ((s[0]'h0).toNat : Int) - ldOf n < 32 := lead_bd hn2 hn4 hl
  have hcn : w.cell? ⟨0, n, none⟩ = some (.int .u8 (ldOf n)) := by
    obtain rfl | rfl | rfl : n = 2 ∨ n = 3 ∨ n = 4 := by omega
    · exact c2
    · exact c3
    · exact c4
  have htn : w.cell? ⟨1, n, none⟩ = some (.int .i32 (low n)) := by
    obtain rfl | rfl | rfl : n = 2 ∨ n = 3 ∨ n = 4 := by omega
    · exact t2
    · exact t3
    · exact t4
  have hld := ldOf_bd n
  clear c2 c3 c4 c1 t1 t2 t3 t4
  have hn0 : ((n : Int) == 0) = false := beq_eq_false_iff_ne.2 (by omega)
  have hns : decide (s.size < n) = false := by simpa using hs
  have HL : Hid (ldSz ((s[0]'h0).toNat : Int) = n) := hl
  clear hl
  have hbt : ∀ i (h : i < s.size), ((s[i]'h).toNat : Int) = bt s.data.toList i := bt_get s
  have HB : Hid (∀ i (h : i < s.size), ((s[i]'h).toNat : Int) = bt s.data.toList i) := hbt
  clear hbt
  go_enter Tryd.func28, Tryd.ntmps28
  go_wp2_with (go_at_call 31; refine (leadSize_any _ _).mono ?_; rintro e w' ⟨rfl, rfl⟩; rw [HL.out])
  go_quiet (fail)
  go_wp2
  have HA0 : 0 ≤ bt s.data.toList 0 - ldOf n ∧ bt s.data.toList 0 - ldOf n < 32 := by have := HB.out 0 h0; omega
  have HL' : Hid (ldSz (bt s.data.toList 0) = n) := by have e := HL.out; rw [HB.out 0 h0] at e; exact e
  go_loop [5, 6] (fun r i => ∃ k : Nat, 1 ≤ k ∧ k ≤ n ∧ i = .int .i64 k ∧ r = .int .i32 (acc (ldOf n) s.data.toList k) ∧ tails s.data.toList k) (fun _ i => n - (intOf i).toNat)
  case atStart => exact ⟨1, by omega, by omega, rfl, by rw [acc1, HB.out 0 h0], tails_one _⟩
  case round =>
    obtain ⟨k, hk1, hkn, rfl, rfl, htl⟩ := hrel
    have hfail : Hid (∀ k, 1 ≤ k → k < n → (bt s.data.toList k < 128 ∨ 192 ≤ bt s.data.toList k) → rd s.data.toList = (0, 0)) := fun k a b c =>
      rd_no hn2 hn4 HL'.out (fun h => tails_not a b c h.2.1)
    by_cases hlt : k < n
    · have hks : k < s.size := by omega
      have ha := acc_small HA0 k (by omega) htl
      by_cases hA : ((s[k]'hks).toNat : Int) < 128
      · go_wp2
        go_ret2
        refine ⟨?_, _, rfl⟩
        rw [hfail.out k hk1 hlt (by rw [← HB.out k hks]; omega)]
        rfl
      · by_cases hC : 192 ≤ ((s[k]'hks).toNat : Int)
        · go_wp2
          go_ret2
          refine ⟨?_, _, rfl⟩
          rw [hfail.out k hk1 hlt (by rw [← HB.out k hks]; omega)]
          rfl
        · go_wp2
          go_round
          case rel => exact ⟨k + 1, by omega, by omega, by go_num, by rw [acc_next _ _ hk1, ← HB.out k hks], tails_succ htl (by rw [← HB.out k hks]; omega)⟩
          case measure => simp [intOf]; omega
    · obtain rfl : k = n := by omega
      have ha := acc_bd HA0 k hn4 htl
      by_cases hlo : acc (ldOf k) s.data.toList k < low k
      · go_wp2
        go_ret2
        refine ⟨?_, _, rfl⟩
        rw [rd_no hn2 hn4 HL'.out (fun h => by have := h.2.2.1; omega)]
        rfl
      · by_cases hR : isR (acc (ldOf k) s.data.toList k) = true
        · have HR : Hid (isR (acc (ldOf k) s.data.toList k) = true) := hR
          clear hR
          have HF : Hid (rd s.data.toList = (acc (ldOf k) s.data.toList k, k)) := rd_yes hn2 hn4 HL'.out (by rw [size_length]; exact hs) htl (by omega) HR.out
          go_wp2_with (go_at_call 32; refine (isRune_any _ _).mono ?_; rintro e w' ⟨rfl, rfl⟩; rw [HR.out])
          go_ret2
          refine ⟨?_, _, rfl⟩
          rw [HF.out]
          rfl
        · have HR : Hid (isR (acc (ldOf k) s.data.toList k) = false) := (Bool.not_eq_true _).mp hR
          clear hR
          have HF : Hid (rd s.data.toList = (0, 0)) := rd_no hn2 hn4 HL'.out (fun h => by have := h.2.2.2; rw [HR.out] at this; cases this)
          go_wp2_with (go_at_call 32; refine (isRune_any _ _).mono ?_; rintro e w' ⟨rfl, rfl⟩; rw [HR.out])
          go_ret2
          refine ⟨?_, _, rfl⟩
          rw [HF.out]
          rfl

/-- letters.readRune returns what 'rd' tells of the text's bytes; it changes nothing. -/
theorem readRune_any (s : ByteArray) (w : World) (ht : Tabs w) (h0 : 0 < s.size) (hm : s.size ≤ 9223372036854775807) :
    Calls Tryd.prog 28 #[.string s] w fun e w' => e = .returned (.tuple #[.int .i32 (rd s.data.toList).1, .int .i64 (rd s.data.toList).2]) ∧ ∃ n, w' = w.drewN n := by
  have hb := bt_get s 0 h0
  have hbd := bt_bd s.data.toList 0
  by_cases h1 : bt s.data.toList 0 < 128
  · rw [rd_one h1, ← hb]
    exact readRune_ascii s w ht h0 hm (by omega)
  by_cases h2 : bt s.data.toList 0 < 192 ∨ 248 ≤ bt s.data.toList 0
  · rw [rd_none (by omega) h2]
    exact readRune_none s w h0 (by rw [hb]; unfold ldSz; repeat' split
                                   all_goals omega)
  obtain ⟨n, hn2, hn4, hl⟩ : ∃ n : Nat, 2 ≤ n ∧ n ≤ 4 ∧ ldSz (bt s.data.toList 0) = n := by
    by_cases a : bt s.data.toList 0 < 224
    · exact ⟨2, by omega, by omega, by unfold ldSz; repeat' split
                                       all_goals omega⟩
    by_cases b : bt s.data.toList 0 < 240
    · exact ⟨3, by omega, by omega, by unfold ldSz; repeat' split
                                       all_goals omega⟩
    · exact ⟨4, by omega, by omega, by unfold ldSz; repeat' split
                                       all_goals omega⟩
  by_cases hs : n ≤ s.size
  · exact readRune_long s w ht n h0 hm hn2 hn4 (by rw [hb]; exact hl) hs
  · rw [rd_no hn2 hn4 hl (fun h => hs (by have := h.1; rw [size_length] at this; exact this))]
    exact readRune_short s w n h0 hn2 hn4 (by rw [hb]; exact hl) (by omega)
end Go.Proofs.YtfhmamalanloaaaDoor
