/- Texts that were written apart, joined. -/
import Derived.Test.YtncnefpkfbngaaaGreatDoorRows
import Derived.Test.YtncnefpkfbngaaaGreatDoorJ0
import Derived.WalkKit
import Derived.ProofKit
import Derived.OpenShut
import Derived.Deep.QuietTactic
import Derived.BigQuiet
/- The small functions of letters and of its reference: what each of them returns. -/
namespace Go.Proofs.YtncnefpkfbngaaaGreatDoor
open Go.RowKit Nums

set_option maxHeartbeats 400000 in
theorem isRune_any (r : Int) (w : World) : Calls Tryz.prog 84 #[.int .i32 r] w fun e w' => e = .returned (.bool (isR r)) ∧ w' = w := by
 by_cases h0 : 0 ≤ r
 · by_cases h1 : r < 1114112
   · by_cases h2 : r < 55296
     · go_enter Tryz.func84, Tryz.ntmps84
       go_wp2
       go_ret
       exact ⟨ret_bool (by first | (rw [isR_of (by omega)]) | (rw [isR_not (by omega)])), rfl⟩
     · by_cases h3 : 57343 < r
       all_goals
        go_enter Tryz.func84, Tryz.ntmps84
        go_wp2
        go_ret
        exact ⟨ret_bool (by first | (rw [isR_of (by omega)]) | (rw [isR_not (by omega)])), rfl⟩
   · go_enter Tryz.func84, Tryz.ntmps84
     go_wp2
     go_ret
     exact ⟨ret_bool (by first | (rw [isR_of (by omega)]) | (rw [isR_not (by omega)])), rfl⟩
 · go_enter Tryz.func84, Tryz.ntmps84
   go_wp2
   go_ret
   exact ⟨ret_bool (by first | (rw [isR_of (by omega)]) | (rw [isR_not (by omega)])), rfl⟩

theorem inWord_any (r : Int) (w : World) : Calls Tryz.prog 60 #[.int .i32 r] w fun e w' => e = .returned (.bool (vis r)) ∧ w' = w := by
 by_cases h0 : 32 < r
 all_goals
  go_enter Tryz.func60, Tryz.ntmps60
  go_wp2
  go_ret
  exact ⟨ret_bool (by rw [Bool.eq_iff_iff]; simp [vis]; try omega), rfl⟩

theorem leadSize_any (b : Int) (w : World) : Calls Tryz.prog 83 #[.int .u8 b] w fun e w' => e = .returned (.int .i64 (ldSz b)) ∧ w' = w := by
 by_cases h0 : b < 128
 · go_enter Tryz.func83, Tryz.ntmps83
   go_wp2
   go_ret
   exact ⟨ret_int (by unfold ldSz; repeat' split; all_goals omega), rfl⟩
 by_cases h1 : b < 192
 · go_enter Tryz.func83, Tryz.ntmps83
   go_wp2
   go_ret
   exact ⟨ret_int (by unfold ldSz; repeat' split; all_goals omega), rfl⟩
 by_cases h2 : b < 224
 · go_enter Tryz.func83, Tryz.ntmps83
   go_wp2
   go_ret
   exact ⟨ret_int (by unfold ldSz; repeat' split; all_goals omega), rfl⟩
 by_cases h3 : b < 240
 · go_enter Tryz.func83, Tryz.ntmps83
   go_wp2
   go_ret
   exact ⟨ret_int (by unfold ldSz; repeat' split; all_goals omega), rfl⟩
 by_cases h4 : b < 248
 · go_enter Tryz.func83, Tryz.ntmps83
   go_wp2
   go_ret
   exact ⟨ret_int (by unfold ldSz; repeat' split; all_goals omega), rfl⟩
 · go_enter Tryz.func83, Tryz.ntmps83
   go_wp2
   go_ret
   exact ⟨ret_int (by unfold ldSz; repeat' split; all_goals omega), rfl⟩

/-- The two tables lie in memory as the program's text lays them. -/
def Tabs (w : World) : Prop :=
 w.cell? ⟨0, 2, none⟩ = some (.int .u8 192) ∧ w.cell? ⟨0, 3, none⟩ = some (.int .u8 224) ∧ w.cell? ⟨0, 4, none⟩ = some (.int .u8 240) ∧
 w.cell? ⟨0, 1, none⟩ = some (.int .u8 0) ∧
 w.cell? ⟨1, 1, none⟩ = some (.int .i32 0) ∧ w.cell? ⟨1, 2, none⟩ = some (.int .i32 128) ∧ w.cell? ⟨1, 3, none⟩ = some (.int .i32 2048) ∧ w.cell? ⟨1, 4, none⟩ = some (.int .i32 65536)
end Go.Proofs.YtncnefpkfbngaaaGreatDoor

/- letters.readRune: what it returns of any text that is not empty. -/
namespace Go.Proofs.YtncnefpkfbngaaaGreatDoor
open Go.RowKit Nums
set_option maxRecDepth 100000

theorem readRune_none (s : ByteArray) (w : World) (h0 : 0 < s.size) (h1 : ldSz ((s[0]'h0).toNat : Int) = 0) :
 Calls Tryz.prog 59 #[.string s] w fun e w' => e = .returned (.tuple #[.int .i32 0, .int .i64 0]) ∧ ∃ n, w' = w.drewN n := by
 go_enter Tryz.func59, Tryz.ntmps59
 go_wp2_with (go_at_call 83; refine (leadSize_any _ _).mono ?_; rintro e w' ⟨rfl, rfl⟩; rw [h1])
 go_ret2
 exact ⟨rfl, 0, rfl⟩

set_option maxHeartbeats 1000000 in
theorem readRune_short (s : ByteArray) (w : World) (n : Nat) (h0 : 0 < s.size) (hn2 : 2 ≤ n) (hn4 : n ≤ 4) (h1 : ldSz ((s[0]'h0).toNat : Int) = n) (hs : s.size < n) :
 Calls Tryz.prog 59 #[.string s] w fun e w' => e = .returned (.tuple #[.int .i32 0, .int .i64 0]) ∧ ∃ n, w' = w.drewN n := by
 go_enter Tryz.func59, Tryz.ntmps59
 go_wp2_with (go_at_call 83; refine (leadSize_any _ _).mono ?_; rintro e w' ⟨rfl, rfl⟩; rw [h1])
 go_ret2
 exact ⟨rfl, 0, rfl⟩

set_option maxHeartbeats 1000000 in
theorem readRune_ascii (s : ByteArray) (w : World) (ht : Tabs w) (h0 : 0 < s.size) (hm : s.size ≤ 9223372036854775807) (h1 : ((s[0]'h0).toNat : Int) < 128) :
 Calls Tryz.prog 59 #[.string s] w fun e w' => e = .returned (.tuple #[.int .i32 ((s[0]'h0).toNat : Int), .int .i64 1]) ∧ ∃ n, w' = w.drewN n := by
 obtain ⟨c2, c3, c4, c1, t1, t2, t3, t4⟩ := ht
 have hl : ldSz ((s[0]'h0).toNat : Int) = 1 := by unfold ldSz; repeat' split
                                                  all_goals omega
 go_enter Tryz.func59, Tryz.ntmps59
 go_wp2_with (go_at_call 83; refine (leadSize_any _ _).mono ?_; rintro e w' ⟨rfl, rfl⟩; rw [hl])
 go_quiet (fail)
 go_wp2
 refine wp_loop_rounds 1 ?_
 rw [rounds_succ]
 go_wp2_with (go_at_call 84; refine (isRune_any _ _).mono ?_; rintro e w' ⟨rfl, rfl⟩; rw [isR_of (by omega)])
 go_ret2
 exact ⟨rfl, _, rfl⟩

set_option maxHeartbeats 2000000 in
theorem readRune_long (s : ByteArray) (w : World) (ht : Tabs w) (n : Nat) (h0 : 0 < s.size) (hm : s.size ≤ 9223372036854775807) (hn2 : 2 ≤ n) (hn4 : n ≤ 4) (hl : ldSz ((s[0]'h0).toNat : Int) = n) (hs : n ≤ s.size) :
 Calls Tryz.prog 59 #[.string s] w fun e w' => e = .returned (.tuple #[.int .i32 (rd s.data.toList).1, .int .i64 (rd s.data.toList).2]) ∧ ∃ n, w' = w.drewN n := by
 obtain ⟨c2, c3, c4, c1, t1, t2, t3, t4⟩ := ht
 have hb0 : ldOf n ≤ ((s[0]'h0).toNat : Int) ∧ ((s[0]'h0).toNat : Int) - ldOf n < 32 := lead_bd hn2 hn4 hl
 have hcn : w.cell? ⟨0, n, none⟩ = some (.int .u8 (ldOf n)) := by
  obtain rfl | rfl | rfl : n = 2 ∨ n = 3 ∨ n = 4 := by omega
  · exact c2
  · exact c3
  · exact c4
 have htn : w.cell? ⟨1, n, none⟩ = some (.int .i32 (low n)) := by
  obtain rfl | rfl | rfl : n = 2 ∨ n = 3 ∨ n = 4 := by omega
  · exact t2
  · exact t3
  · exact t4
 have hld := ldOf_bd n
 clear c2 c3 c4 c1 t1 t2 t3 t4
 have hn0 : ((n : Int) == 0) = false := beq_eq_false_iff_ne.2 (by omega)
 have hns : decide (s.size < n) = false := by simpa using hs
 have HL : Hid (ldSz ((s[0]'h0).toNat : Int) = n) := hl
 clear hl
 have hbt : ∀ i (h : i < s.size), ((s[i]'h).toNat : Int) = bt s.data.toList i := bt_get s
 have HB : Hid (∀ i (h : i < s.size), ((s[i]'h).toNat : Int) = bt s.data.toList i) := hbt
 clear hbt
 go_enter Tryz.func59, Tryz.ntmps59
 go_wp2_with (go_at_call 83; refine (leadSize_any _ _).mono ?_; rintro e w' ⟨rfl, rfl⟩; rw [HL.out])
 go_quiet (fail)
 go_wp2
 have HA0 : 0 ≤ bt s.data.toList 0 - ldOf n ∧ bt s.data.toList 0 - ldOf n < 32 := by have := HB.out 0 h0; omega
 have HL' : Hid (ldSz (bt s.data.toList 0) = n) := by have e := HL.out; rw [HB.out 0 h0] at e; exact e
 go_loop [5, 6] (fun r i => ∃ k : Nat, 1 ≤ k ∧ k ≤ n ∧ i = .int .i64 k ∧ r = .int .i32 (acc (ldOf n) s.data.toList k) ∧ tails s.data.toList k) (fun _ i => n - (intOf i).toNat)
 case atStart => exact ⟨1, by omega, by omega, rfl, by rw [acc1, HB.out 0 h0], tails_one _⟩
 case round =>
  obtain ⟨k, hk1, hkn, rfl, rfl, htl⟩ := hrel
  have hfail : Hid (∀ k, 1 ≤ k → k < n → (bt s.data.toList k < 128 ∨ 192 ≤ bt s.data.toList k) → rd s.data.toList = (0, 0)) := fun k a b c =>
   rd_no hn2 hn4 HL'.out (fun h => tails_not a b c h.2.1)
  by_cases hlt : k < n
  · have hks : k < s.size := by omega
    have ha := acc_small HA0 k (by omega) htl
    by_cases hA : ((s[k]'hks).toNat : Int) < 128
    · go_wp2
      go_ret2
      refine ⟨?_, _, rfl⟩
      rw [hfail.out k hk1 hlt (by rw [← HB.out k hks]; omega)]
      rfl
    · by_cases hC : 192 ≤ ((s[k]'hks).toNat : Int)
      · go_wp2
        go_ret2
        refine ⟨?_, _, rfl⟩
        rw [hfail.out k hk1 hlt (by rw [← HB.out k hks]; omega)]
        rfl
      · go_wp2
        go_round
        case rel => exact ⟨k + 1, by omega, by omega, by go_num, by rw [acc_next _ _ hk1, ← HB.out k hks], tails_succ htl (by rw [← HB.out k hks]; omega)⟩
        case measure => simp [intOf]; omega
  · obtain rfl : k = n := by omega
    have ha := acc_bd HA0 k hn4 htl
    by_cases hlo : acc (ldOf k) s.data.toList k < low k
    · go_wp2
      go_ret2
      refine ⟨?_, _, rfl⟩
      rw [rd_no hn2 hn4 HL'.out (fun h => by have := h.2.2.1; omega)]
      rfl
    · by_cases hR : isR (acc (ldOf k) s.data.toList k) = true
      · have HR : Hid (isR (acc (ldOf k) s.data.toList k) = true) := hR
        clear hR
        have HF : Hid (rd s.data.toList = (acc (ldOf k) s.data.toList k, k)) := rd_yes hn2 hn4 HL'.out (by rw [size_length]; exact hs) htl (by omega) HR.out
        go_wp2_with (go_at_call 84; refine (isRune_any _ _).mono ?_; rintro e w' ⟨rfl, rfl⟩; rw [HR.out])
        go_ret2
        refine ⟨?_, _, rfl⟩
        rw [HF.out]
        rfl
      · have HR : Hid (isR (acc (ldOf k) s.data.toList k) = false) := (Bool.not_eq_true _).mp hR
        clear hR
        have HF : Hid (rd s.data.toList = (0, 0)) := rd_no hn2 hn4 HL'.out (fun h => by have := h.2.2.2; rw [HR.out] at this; cases this)
        go_wp2_with (go_at_call 84; refine (isRune_any _ _).mono ?_; rintro e w' ⟨rfl, rfl⟩; rw [HR.out])
        go_ret2
        refine ⟨?_, _, rfl⟩
        rw [HF.out]
        rfl

/-- letters.readRune returns what 'rd' tells of the text's bytes; it changes nothing. -/
theorem readRune_any (s : ByteArray) (w : World) (ht : Tabs w) (h0 : 0 < s.size) (hm : s.size ≤ 9223372036854775807) :
 Calls Tryz.prog 59 #[.string s] w fun e w' => e = .returned (.tuple #[.int .i32 (rd s.data.toList).1, .int .i64 (rd s.data.toList).2]) ∧ ∃ n, w' = w.drewN n := by
 have hb := bt_get s 0 h0
 have hbd := bt_bd s.data.toList 0
 by_cases h1 : bt s.data.toList 0 < 128
 · rw [rd_one h1, ← hb]
   exact readRune_ascii s w ht h0 hm (by omega)
 by_cases h2 : bt s.data.toList 0 < 192 ∨ 248 ≤ bt s.data.toList 0
 · rw [rd_none (by omega) h2]
   exact readRune_none s w h0 (by rw [hb]; unfold ldSz; repeat' split
                                  all_goals omega)
 obtain ⟨n, hn2, hn4, hl⟩ : ∃ n : Nat, 2 ≤ n ∧ n ≤ 4 ∧ ldSz (bt s.data.toList 0) = n := by
  by_cases a : bt s.data.toList 0 < 224
  · exact ⟨2, by omega, by omega, by unfold ldSz; repeat' split
                                     all_goals omega⟩
  by_cases b : bt s.data.toList 0 < 240
  · exact ⟨3, by omega, by omega, by unfold ldSz; repeat' split
                                     all_goals omega⟩
  · exact ⟨4, by omega, by omega, by unfold ldSz; repeat' split
                                     all_goals omega⟩
 by_cases hs : n ≤ s.size
 · exact readRune_long s w ht n h0 hm hn2 hn4 (by rw [hb]; exact hl) hs
 · rw [rd_no hn2 hn4 hl (fun h => hs (by have := h.1; rw [size_length] at this; exact this))]
   exact readRune_short s w n h0 hn2 hn4 (by rw [hb]; exact hl) (by omega)
end Go.Proofs.YtncnefpkfbngaaaGreatDoor

/- Whole texts: the runes of which a text is the writing. Plain lists; no program is named here. -/
namespace Go.Proofs.YtncnefpkfbngaaaGreatDoor.Nums

theorem rd_bd {l : List UInt8} (h : l ≠ []) : (rd l).2 ≤ l.length ∧ (rd l).2 ≤ 4 := by
 have : 1 ≤ l.length := List.length_pos_iff.2 h
 unfold rd
 by_cases c1 : bt l 0 < 128
 · rw [if_pos c1]; simp; omega
 rw [if_neg c1]
 split
 · simp; omega
 split
 · simp; omega
 split
 · simp; omega
 simp
theorem rd_isR {l : List UInt8} (h : (rd l).2 ≠ 0) : isR (rd l).1 = true := by
 revert h
 unfold rd
 by_cases c1 : bt l 0 < 128
 · rw [if_pos c1]; intro _; have := bt_bd l 0; exact isR_of (by omega)
 rw [if_neg c1]
 split
 · rename_i h; intro _; exact h.2.2.2.2.2
 split
 · rename_i h; intro _; exact h.2.2.2.2.2.2
 split
 · rename_i h; intro _; exact h.2.2.2.2.2.2.2
 intro h; exact absurd rfl h

/-- The runes of which a text is the writing, told with fuel. -/
def rsF : Nat → List UInt8 → Option (List Int)
 | 0, l => if l = [] then some [] else none
 | f + 1, l => if l = [] then some [] else if (rd l).2 = 0 then none else (rsF f (l.drop (rd l).2)).map (fun t => (rd l).1 :: t)
def rs (l : List UInt8) : Option (List Int) := rsF l.length l

theorem rsF_fuel : ∀ (f g : Nat) (l : List UInt8), l.length ≤ f → l.length ≤ g → rsF f l = rsF g l := by
 intro f
 induction f with
 | zero =>
  intro g l hf hg
  have e : l = [] := List.length_eq_zero_iff.1 (by omega)
  subst e
  cases g <;> simp [rsF]
 | succ f ih =>
  intro g l hf hg
  by_cases e : l = []
  · subst e; cases g <;> simp [rsF]
  cases g with
  | zero => exact absurd (List.length_eq_zero_iff.1 (by omega)) e
  | succ g =>
   simp only [rsF, if_neg e]
   by_cases z : (rd l).2 = 0
   · rw [if_pos z, if_pos z]
   · rw [if_neg z, if_neg z, ih g (l.drop (rd l).2) (by simp; omega) (by simp; omega)]
theorem rs_nil : rs [] = some [] := by simp [rs, rsF]
theorem rs_none {l : List UInt8} (h : l ≠ []) (z : (rd l).2 = 0) : rs l = none := by
 unfold rs
 cases e : l.length with
 | zero => exact absurd (List.length_eq_zero_iff.1 e) h
 | succ f => simp only [rsF, if_neg h, if_pos z]
theorem rs_cons {l : List UInt8} (h : l ≠ []) (z : (rd l).2 ≠ 0) : rs l = (rs (l.drop (rd l).2)).map (fun t => (rd l).1 :: t) := by
 have hl := rd_bd h
 unfold rs
 cases e : l.length with
 | zero => exact absurd (List.length_eq_zero_iff.1 e) h
 | succ f =>
  simp only [rsF, if_neg h, if_neg z]
  rw [rsF_fuel f (l.drop (rd l).2).length _ (by simp; omega) (Nat.le_refl _)]

/-- Just these texts are words. -/
def wordB (l : List UInt8) : Bool :=
 match rs l with
 | none => false
 | some xs => decide (1 ≤ xs.length) && decide (xs.length ≤ 24) && xs.all vis

/-- 'pre' has been read of l, and m is left. -/
def Remains (l m : List UInt8) (pre : List Int) : Prop := rs l = (rs m).map (fun t => pre ++ t)
theorem left_start (l : List UInt8) : Remains l l [] := by simp [Remains]
theorem left_step {l m : List UInt8} {pre : List Int} (h : Remains l m pre) (hm : m ≠ []) (z : (rd m).2 ≠ 0) : Remains l (m.drop (rd m).2) (pre ++ [(rd m).1]) := by
 unfold Remains at *
 rw [h, rs_cons hm z]
 cases rs (m.drop (rd m).2) <;> simp
theorem left_end {l : List UInt8} {pre : List Int} (h : Remains l [] pre) : rs l = some pre := by
 unfold Remains at h; rw [h, rs_nil]; simp
theorem left_none {l m : List UInt8} {pre : List Int} (h : Remains l m pre) (hm : m ≠ []) (z : (rd m).2 = 0) : rs l = none := by
 unfold Remains at h; rw [h, rs_none hm z]; rfl

theorem word_none {l m : List UInt8} {pre : List Int} (h : Remains l m pre) (hm : m ≠ []) (z : (rd m).2 = 0) : wordB l = false := by
 unfold wordB; rw [left_none h hm z]
theorem word_unseen {l m : List UInt8} {pre : List Int} (h : Remains l m pre) (hm : m ≠ []) (z : (rd m).2 ≠ 0) (hv : vis (rd m).1 = false) : wordB l = false := by
 have h2 := left_step h hm z
 unfold Remains at h2
 unfold wordB; rw [h2]
 cases rs (m.drop (rd m).2) with
 | none => rfl
 | some t => simp [hv]
theorem word_long {l m : List UInt8} {pre : List Int} (h : Remains l m pre) (hm : m ≠ []) (z : (rd m).2 ≠ 0) (hc : pre.length = 24) : wordB l = false := by
 have h2 := left_step h hm z
 unfold Remains at h2
 unfold wordB; rw [h2]
 cases rs (m.drop (rd m).2) with
 | none => rfl
 | some t => simp [hc]; omega
theorem word_end {l : List UInt8} {pre : List Int} (h : Remains l [] pre) (hc : pre.length ≤ 24) (hv : pre.all vis = true) : wordB l = decide (0 < pre.length) := by
 unfold wordB; rw [left_end h]
 simp only [hv, Bool.and_true]
 rw [decide_eq_true hc, Bool.and_true]
 exact decide_eq_decide.2 (by omega)
theorem drop_extract (s : ByteArray) (n : Nat) : (s.extract n s.size).data.toList = s.data.toList.drop n := by
 simp [ByteArray.extract, ByteArray.copySlice]
 rw [List.take_of_length_le (by rw [List.length_drop, size_length]; omega)]
/-- How long the text in a slot is. -/
def lenOf : Value → Nat | .string m => m.size | _ => 0
theorem rest_go {s : ByteArray} {l : List UInt8} {pre : List Int} {r : Int} {n : Nat} (h : Remains l s.data.toList pre) (hm : s.data.toList ≠ []) (hr : rd s.data.toList = (r, n)) (z : n ≠ 0) :
 Remains l (s.extract n s.size).data.toList (pre ++ [r]) := by
 have := left_step h hm (by rw [hr]; exact z)
 rw [hr] at this
 rw [drop_extract]; exact this
theorem extract_size (s : ByteArray) (n : Nat) : (s.extract n s.size).size = s.size - n := by
 rw [← size_length, drop_extract, List.length_drop, size_length]

/-- So many runes that a slice of them can be made. -/
def Room (l : List UInt8) : Prop := ∀ (m : List UInt8) (pre : List Int), Remains l m pre → m.length + pre.length ≤ l.length → m ≠ [] → (rd m).2 ≠ 0 → pre.length + 1 ≤ 35184372088832
theorem room_of_length {l : List UInt8} (h : l.length ≤ 35184372088832) : Room l := fun m pre _ h2 h3 _ => by
 have := List.length_pos_iff.2 h3; omega
theorem room_of_runes {l : List UInt8} {xs : List Int} (h : rs l = some xs) (hx : xs.length ≤ 35184372088832) : Room l := fun m pre hr _ hm z => by
 have h2 := left_step hr hm z
 unfold Remains at h2
 rw [h] at h2
 cases e : rs (m.drop (rd m).2) with
 | none => rw [e] at h2; cases h2
 | some t =>
  rw [e] at h2
  have h3 := Option.some.inj h2
  rw [h3] at hx
  simp at hx
  omega

theorem rsF_len : ∀ (f : Nat) (l : List UInt8) (xs : List Int), rsF f l = some xs → l.length ≤ 4 * xs.length ∧ xs.length ≤ l.length := by
 intro f
 induction f with
 | zero =>
  intro l xs h
  simp only [rsF] at h
  by_cases e : l = []
  · rw [if_pos e] at h; obtain rfl := Option.some.inj h; subst e; simp
  · rw [if_neg e] at h; cases h
 | succ f ih =>
  intro l xs h
  simp only [rsF] at h
  by_cases e : l = []
  · rw [if_pos e] at h; obtain rfl := Option.some.inj h; subst e; simp
  rw [if_neg e] at h
  by_cases z : (rd l).2 = 0
  · rw [if_pos z] at h; cases h
  rw [if_neg z] at h
  cases h2 : rsF f (l.drop (rd l).2) with
  | none => rw [h2] at h; cases h
  | some t =>
   rw [h2] at h
   obtain rfl := Option.some.inj h
   have h3 := ih _ _ h2
   have h4 := rd_bd e
   rw [List.length_drop] at h3
   rw [List.length_cons]
   omega
theorem rs_len {l : List UInt8} {xs : List Int} (h : rs l = some xs) : l.length ≤ 4 * xs.length ∧ xs.length ≤ l.length := rsF_len _ _ _ h
theorem word_far {l : List UInt8} (h : 96 < l.length) : wordB l = false := by
 unfold wordB
 cases e : rs l with
 | none => rfl
 | some xs =>
  have := (rs_len e).1
  simp
  intro _ h2
  omega
theorem word_of {l : List UInt8} {xs : List Int} (h : rs l = some xs) (hv : xs.all vis = true) : wordB l = (decide (1 ≤ xs.length) && decide (xs.length ≤ 24)) := by
 unfold wordB; rw [h]; simp only [hv, Bool.and_true]
theorem word_blind {l : List UInt8} {xs : List Int} {k : Nat} (h : rs l = some xs) (hk : k < xs.length) (hv : vis (xs.getD k 0) = false) : wordB l = false := by
 have hm : xs.getD k 0 ∈ xs := by simp [List.getD_eq_getElem?_getD, List.getElem?_eq_getElem hk]
 have : xs.all vis = false := by
  cases e : xs.all vis
  · rfl
  · have := List.all_eq_true.1 e _ hm; rw [hv] at this; cases this
 unfold wordB; rw [h]; simp only [this, Bool.and_false]
theorem all_next {xs : List Int} {k : Nat} (hk : k < xs.length) (h : (xs.take k).all vis = true) (hv : vis (xs.getD k 0) = true) : (xs.take (k + 1)).all vis = true := by
 rw [List.take_succ_eq_append_getElem hk, List.all_append, h]
 have : xs.getD k 0 = xs[k] := by simp [List.getD_eq_getElem?_getD, List.getElem?_eq_getElem hk]
 rw [this] at hv
 simp [hv]
end Go.Proofs.YtncnefpkfbngaaaGreatDoor.Nums

/- letters.Word: it tells just the words that 'wordB' tells. -/
namespace Go.Proofs.YtncnefpkfbngaaaGreatDoor
open Go.RowKit Nums
set_option maxRecDepth 100000

theorem lt_of_cell {w : World} {b o : Nat} {v : Value} (h : w.cell? ⟨b, o, none⟩ = some v) : b < w.heap.size := World.block_lt_of_cell? w ⟨b, o, none⟩ h
/-- The tables are there still. -/
theorem Tabs.below {w w' : World} (h : Tabs w) (hb : Below w.heap.size w w') : Tabs w' := by
 obtain ⟨c2, c3, c4, c1, t1, t2, t3, t4⟩ := h
 refine ⟨?_, ?_, ?_, ?_, ?_, ?_, ?_, ?_⟩
 all_goals (first
  | exact (hb.cell (p := ⟨0, 2, none⟩) (lt_of_cell c2)).trans c2
  | exact (hb.cell (p := ⟨0, 3, none⟩) (lt_of_cell c3)).trans c3
  | exact (hb.cell (p := ⟨0, 4, none⟩) (lt_of_cell c4)).trans c4
  | exact (hb.cell (p := ⟨0, 1, none⟩) (lt_of_cell c1)).trans c1
  | exact (hb.cell (p := ⟨1, 1, none⟩) (lt_of_cell t1)).trans t1
  | exact (hb.cell (p := ⟨1, 2, none⟩) (lt_of_cell t2)).trans t2
  | exact (hb.cell (p := ⟨1, 3, none⟩) (lt_of_cell t3)).trans t3
  | exact (hb.cell (p := ⟨1, 4, none⟩) (lt_of_cell t4)).trans t4)
theorem Tabs.drewN {w : World} (h : Tabs w) (n : Nat) : Tabs (w.drewN n) := h

theorem ne_of_size {s : ByteArray} (h : 0 < s.size) : s.data.toList ≠ [] := by
 intro e; have := size_length s; rw [e] at this; simp at this; omega
theorem nil_of_size {s : ByteArray} (h : ¬ 0 < s.size) : s.data.toList = [] := List.length_eq_zero_iff.1 (by rw [size_length]; omega)

set_option maxHeartbeats 2000000 in
theorem Word_any (s : ByteArray) (w : World) (ht : Tabs w) (hm : s.size ≤ 9223372036854775807) :
 Calls Tryz.prog 33 #[.string s] w fun e w' => e = .returned (.bool (wordB s.data.toList)) ∧ ∃ n, w' = w.drewN n := by
 go_enter Tryz.func33, Tryz.ntmps33
 go_wp2
 go_loopw [0, 3] (fun t c wr => ∃ (m : ByteArray) (pre : List Int), t = .string m ∧ m.size ≤ s.size ∧ c = .int .i64 pre.length ∧ pre.length ≤ 24 ∧ pre.all vis = true ∧ Remains s.data.toList m.data.toList pre ∧ ∃ n, wr = w.drewN n)
  (fun t _ _ => lenOf t)
 case atStart => exact ⟨s, [], rfl, Nat.le_refl _, rfl, by simp, rfl, left_start _, 0, rfl⟩
 case round =>
  obtain ⟨m, pre, rfl, hms, rfl, hp, hv, hL, nw, rfl⟩ := hrel
  have HL : Hid (Remains s.data.toList m.data.toList pre) := hL
  have HV : Hid (pre.all vis = true) := hv
  clear hL hv
  by_cases h0 : 0 < m.size
  · have hne := ne_of_size h0
    have hbd := rd_bd hne
    rw [size_length] at hbd
    have HNE : Hid (m.data.toList ≠ []) := hne
    clear hne
    generalize hr : rd m.data.toList = q at hbd
    obtain ⟨r, n⟩ := q
    have HR : Hid (rd m.data.toList = (r, n)) := hr
    clear hr
    simp only at hbd
    by_cases hn : n = 0
    · subst hn
      go_wp2_with (go_at_call 59; refine (readRune_any _ _ (ht.drewN _) h0 (by omega)).mono ?_; rintro e w' ⟨rfl, n2, rfl⟩; rw [HR.out])
      go_ret
      refine ⟨?_, _, by first | rfl | rw [World.drewN_drewN]⟩
      rw [word_none HL.out HNE.out (by rw [HR.out])]
      rfl
    have hn0 : ((n : Int) == 0) = false := beq_eq_false_iff_ne.2 (by omega)
    cases hvv : vis r
    · have HVV : Hid (vis r = false) := hvv
      clear hvv
      go_wp2_with (first
       | (go_at_call 59; refine (readRune_any _ _ (ht.drewN _) h0 (by omega)).mono ?_; rintro e w' ⟨rfl, n2, rfl⟩; rw [HR.out])
       | (go_at_call 60; refine (inWord_any _ _).mono ?_; rintro e w' ⟨rfl, rfl⟩; rw [HVV.out]))
      go_ret
      refine ⟨?_, _, by first | rfl | rw [World.drewN_drewN]⟩
      rw [word_unseen HL.out HNE.out (by rw [HR.out]; exact hn) (by rw [HR.out]; exact HVV.out)]
      rfl
    · have HVV : Hid (vis r = true) := hvv
      clear hvv
      by_cases hc : pre.length = 24
      · have HC : Hid (pre.length = 24) := hc
        have hc' : ((pre.length : Int) == 24) = true := beq_iff_eq.2 (by omega)
        clear hc
        go_wp2_with (first
         | (go_at_call 59; refine (readRune_any _ _ (ht.drewN _) h0 (by omega)).mono ?_; rintro e w' ⟨rfl, n2, rfl⟩; rw [HR.out])
         | (go_at_call 60; refine (inWord_any _ _).mono ?_; rintro e w' ⟨rfl, rfl⟩; rw [HVV.out]))
        go_ret
        refine ⟨?_, _, by first | rfl | rw [World.drewN_drewN]⟩
        rw [word_long HL.out HNE.out (by rw [HR.out]; exact hn) HC.out]
        rfl
      · have hc' : ((pre.length : Int) == 24) = false := beq_eq_false_iff_ne.2 (by omega)
        go_wp2_with (first
         | (go_at_call 59; refine (readRune_any _ _ (ht.drewN _) h0 (by omega)).mono ?_; rintro e w' ⟨rfl, n2, rfl⟩; rw [HR.out])
         | (go_at_call 60; refine (inWord_any _ _).mono ?_; rintro e w' ⟨rfl, rfl⟩; rw [HVV.out]))
        go_roundw
        case rel =>
         refine ⟨m.extract n m.size, pre ++ [r], rfl, by rw [extract_size]; omega, by simp, by simp; omega, ?_, rest_go HL.out HNE.out HR.out hn, _, by first | rfl | rw [World.drewN_drewN]⟩
         have := HV.out
         have h2 := HVV.out
         simp [this, h2]
        case measure => simp only [lenOf]; rw [extract_size]; omega
  · have HN : Hid (m.data.toList = []) := nil_of_size h0
    have HF : Hid (wordB s.data.toList = decide (0 < pre.length)) := word_end (by have := HL.out; rw [HN.out] at this; exact this) hp HV.out
    go_wp2
    go_ret
    refine ⟨?_, _, rfl⟩
    rw [HF.out]
    rfl
end Go.Proofs.YtncnefpkfbngaaaGreatDoor
