/- Texts that were written apart, joined. -/
import Derived.Test.YtncnefpkfbngaaaGreatDoorGh
import Derived.Test.YtncnefpkfbngaaaGreatDoorG7
import Derived.Deep.RegionHeld3
import Derived.Deep.DrawnRows
import Derived.Deep.QuietTactic
import Derived.BigQuiet
import Derived.Test.YtncnefpkfbngaaaGreatDoorJ7
import Derived.Test.YtncnefpkfbngaaaGreatDoorGd
/- What the reference reckons, in plain numbers. No program is named here. -/
namespace Go.Proofs.YtncnefpkfbngaaaGreatDoor.Nums

/-- The number that so many bytes would say. -/
def sd (l : List UInt8) (n : Nat) : Int :=
 if n = 1 then bt l 0 else if n = 2 then bt l 0 % 32 * 64 + bt l 1 % 64
 else if n = 3 then (bt l 0 % 16 * 64 + bt l 1 % 64) * 64 + bt l 2 % 64
 else ((bt l 0 % 8 * 64 + bt l 1 % 64) * 64 + bt l 2 % 64) * 64 + bt l 3 % 64
theorem sd1 (l : List UInt8) : sd l 1 = bt l 0 := rfl
theorem sd2 (l : List UInt8) : sd l 2 = bt l 0 % 32 * 64 + bt l 1 % 64 := rfl
theorem sd3 (l : List UInt8) : sd l 3 = (bt l 0 % 16 * 64 + bt l 1 % 64) * 64 + bt l 2 % 64 := rfl
theorem sd4 (l : List UInt8) : sd l 4 = ((bt l 0 % 8 * 64 + bt l 1 % 64) * 64 + bt l 2 % 64) * 64 + bt l 3 % 64 := rfl

theorem rd_zero {l : List UInt8} (h : (rd l).2 = 0) : rd l = (0, 0) := by
 revert h
 unfold rd
 by_cases c1 : bt l 0 < 128
 · rw [if_pos c1]; intro h; cases h
 rw [if_neg c1]
 split
 · intro h; cases h
 split
 · intro h; cases h
 split
 · intro h; cases h
 intro _; rfl
theorem rd_said {l : List UInt8} (h : (rd l).2 ≠ 0) : (rd l).1 = sd l (rd l).2 := by
 have c0 := bt_bd l 0
 revert h
 unfold rd
 by_cases c1 : bt l 0 < 128
 · rw [if_pos c1]; intro _; exact (sd1 l).symm
 rw [if_neg c1]
 split
 · rename_i c; intro _
   show acc 192 l 2 = sd l 2
   rw [acc2, sd2]; omega
 split
 · rename_i c; intro _
   show acc 224 l 3 = sd l 3
   rw [acc3, sd3]; omega
 split
 · rename_i c; intro _
   show acc 240 l 4 = sd l 4
   rw [acc4, sd4]; omega
 intro h; exact absurd rfl h

/-- The reference's test at n holds just where 'rd' tells n bytes. -/
theorem first_yes {l : List UInt8} {n : Nat} (hn : n ≤ l.length) (hr : isR (sd l n) = true) (hw : wr (sd l n) = l.take n) : rd l = (sd l n, n) := by
 have h := rd_wr hr (l.drop n)
 rw [hw, List.take_append_drop] at h
 rw [h]
 have : (wr (sd l n)).length = (l.take n).length := by rw [hw]
 rw [wr_len, List.length_take] at this
 rw [this, Nat.min_eq_left hn]
theorem first_no {l : List UInt8} (hl : l ≠ []) {n : Nat} (h1 : 1 ≤ n) (h : ¬ (isR (sd l n) = true ∧ wr (sd l n) = l.take n)) : (rd l).2 ≠ n := by
 intro e
 have h0 : (rd l).2 ≠ 0 := by omega
 have hs := rd_said h0
 rw [e] at hs
 obtain ⟨hr, hlen, hb⟩ := rd_back hl (r := sd l n) (n := n) (Prod.ext hs e) (by omega)
 refine h ⟨hr, ?_⟩
 have e2 : l.take n = (wr (sd l n) ++ l.drop n).take n := congrArg (List.take n) hb
 rw [e2, List.take_append_of_le_length (by rw [wr_len]; omega), List.take_of_length_le (by rw [wr_len]; omega)]
theorem sd_bd (l : List UInt8) (n : Nat) : 0 ≤ sd l n ∧ sd l n < 2097152 := by
 have c0 := bt_bd l 0
 unfold sd
 by_cases h1 : n = 1
 · rw [if_pos h1]; omega
 rw [if_neg h1]
 by_cases h2 : n = 2
 · rw [if_pos h2]; omega
 rw [if_neg h2]
 by_cases h3 : n = 3
 · rw [if_pos h3]; omega
 rw [if_neg h3]; omega
end Go.Proofs.YtncnefpkfbngaaaGreatDoor.Nums

/- The reference's own small functions: what each of them returns. -/
namespace Go.Proofs.YtncnefpkfbngaaaGreatDoor
open Go.RowKit Nums
set_option maxRecDepth 100000
attribute [local go_sem ↓] Go.wp_at_zero Go.wp_at_succ

set_option maxHeartbeats 400000 in
theorem Rune_any (r : Int) (w : World) : Calls Tryz.prog 90 #[.int .i64 r] w fun e w' => e = .returned (.bool (isR r)) ∧ w' = w := by
 by_cases h0 : 0 ≤ r
 · by_cases h1 : r ≤ 1114111
   · by_cases h2 : r < 55296
     · go_enter Tryz.func90, Tryz.ntmps90
       go_wp2
       go_ret
       exact ⟨ret_bool (by first | (rw [isR_of (by omega)]) | (rw [isR_not (by omega)])), rfl⟩
     · by_cases h3 : 57343 < r
       all_goals
        go_enter Tryz.func90, Tryz.ntmps90
        go_wp2
        go_ret
        exact ⟨ret_bool (by first | (rw [isR_of (by omega)]) | (rw [isR_not (by omega)])), rfl⟩
   · go_enter Tryz.func90, Tryz.ntmps90
     go_wp2
     go_ret
     exact ⟨ret_bool (by first | (rw [isR_of (by omega)]) | (rw [isR_not (by omega)])), rfl⟩
 · go_enter Tryz.func90, Tryz.ntmps90
   go_wp2
   go_ret
   exact ⟨ret_bool (by first | (rw [isR_of (by omega)]) | (rw [isR_not (by omega)])), rfl⟩

theorem conv_new (w : World) (xs : List Int) (n : Nat) (hn : xs.length = n) :
 (convert 162 9 (.slice (some ⟨w.heap.size, 0, none⟩) n n)).run Tryz.prog (w.alloc (.cells (xs.map (Value.int .u8)).toArray 5)) = .ok (.string (strOfNums xs)) (w.alloc (.cells (xs.map (Value.int .u8)).toArray 5)) := by
 refine run_convert_bytes_arg _ 162 5 Tryz.underlying162 Tryz.underlying5 w.heap.size 0 n n xs hn (fun i hi => ?_) 9 Tryz.underlying9
 rw [Nat.zero_add, World.cell?_alloc_new]
 subst hn
 simp [List.getD_eq_getElem?_getD, List.getElem?_eq_getElem hi]

set_option maxHeartbeats 1000000 in
theorem Write_any (r : Int) (w : World) (hr : isR r = true) : Calls Tryz.prog 91 #[.int .i64 r] w fun e w' => e = .returned (.string (strOfNums (wrI r))) ∧ Below w.heap.size w w' := by
 have hbd := isR_bd hr
 clear hr
 by_cases a : r < 128
 · have h := conv_new w [r] 1 rfl
   simp only [List.map] at h
   have HW : Hid (wrI r = [r]) := wrI1 a
   go_enter Tryz.func91, Tryz.ntmps91
   go_wp2
   go_ret
   exact ⟨by rw [HW.out]; rfl, (Below.refl _ _).alloc (Nat.le_refl _) _⟩
 by_cases b : r < 2048
 · have h := conv_new w [192 + r / 64, 128 + r % 64] 2 rfl
   simp only [List.map] at h
   have HW : Hid (wrI r = [192 + r / 64, 128 + r % 64]) := wrI2 (by omega) b
   go_enter Tryz.func91, Tryz.ntmps91
   go_wp2
   go_ret
   exact ⟨by rw [HW.out]; rfl, (Below.refl _ _).alloc (Nat.le_refl _) _⟩
 by_cases c : r < 65536
 · have h := conv_new w [224 + r / 4096, 128 + r / 64 % 64, 128 + r % 64] 3 rfl
   simp only [List.map] at h
   have HW : Hid (wrI r = [224 + r / 4096, 128 + r / 64 % 64, 128 + r % 64]) := by
    show wrI r = _
    rw [wrI3 (by omega) c, show r / 64 / 64 = r / 4096 by omega]
   go_enter Tryz.func91, Tryz.ntmps91
   go_wp2
   go_ret
   exact ⟨by rw [HW.out]; rfl, (Below.refl _ _).alloc (Nat.le_refl _) _⟩
 · have h := conv_new w [240 + r / 262144, 128 + r / 4096 % 64, 128 + r / 64 % 64, 128 + r % 64] 4 rfl
   simp only [List.map] at h
   have HW : Hid (wrI r = [240 + r / 262144, 128 + r / 4096 % 64, 128 + r / 64 % 64, 128 + r % 64]) := by
    show wrI r = _
    rw [wrI4 (by omega), show r / 64 / 64 / 64 = r / 262144 by omega, show r / 64 / 64 = r / 4096 by omega]
   go_enter Tryz.func91, Tryz.ntmps91
   go_wp2
   go_ret
   exact ⟨by rw [HW.out]; rfl, (Below.refl _ _).alloc (Nat.le_refl _) _⟩

theorem byte_bd (s : ByteArray) (i : Nat) (h : i < s.size) : ((s[i]'h).toNat : Int) < 256 := by have := (s[i]'h).toNat_lt; omega

set_option maxHeartbeats 1000000 in
theorem said_any (s : ByteArray) (n : Nat) (w : World) (h1 : 1 ≤ n) (h4 : n ≤ 4) (hn : n ≤ s.size) (hm : s.size ≤ 9223372036854775807) :
 Calls Tryz.prog 89 #[.string s, .int .i64 n] w fun e w' => e = .returned (.int .i64 (sd s.data.toList n)) ∧ w' = w := by
 have HB : Hid (∀ i (h : i < s.size), ((s[i]'h).toNat : Int) = bt s.data.toList i) := bt_get s
 obtain rfl | rfl | rfl | rfl : n = 1 ∨ n = 2 ∨ n = 3 ∨ n = 4 := by omega
 · have q0 := byte_bd s 0 (by omega)
   go_enter Tryz.func89, Tryz.ntmps89
   go_wp2
   go_ret
   exact ⟨ret_int (by rw [sd1, HB.out 0 (by omega)]), rfl⟩
 · have q0 := byte_bd s 0 (by omega)
   have q1 := byte_bd s 1 (by omega)
   go_enter Tryz.func89, Tryz.ntmps89
   go_wp2
   refine wp_loop_rounds 2 ?_
   rw [rounds_succ]
   go_wp2
   rw [rounds_succ]
   go_wp2
   go_ret
   exact ⟨ret_int (by rw [sd2, HB.out 0 (by omega), HB.out 1 (by omega)]), rfl⟩
 · have q0 := byte_bd s 0 (by omega)
   have q1 := byte_bd s 1 (by omega)
   have q2 := byte_bd s 2 (by omega)
   go_enter Tryz.func89, Tryz.ntmps89
   go_wp2
   refine wp_loop_rounds 3 ?_
   rw [rounds_succ]
   go_wp2
   rw [rounds_succ]
   go_wp2
   rw [rounds_succ]
   go_wp2
   go_ret
   exact ⟨ret_int (by rw [sd3, HB.out 0 (by omega), HB.out 1 (by omega), HB.out 2 (by omega)]), rfl⟩
 · have q0 := byte_bd s 0 (by omega)
   have q1 := byte_bd s 1 (by omega)
   have q2 := byte_bd s 2 (by omega)
   have q3 := byte_bd s 3 (by omega)
   go_enter Tryz.func89, Tryz.ntmps89
   go_wp2
   refine wp_loop_rounds 4 ?_
   rw [rounds_succ]
   go_wp2
   rw [rounds_succ]
   go_wp2
   rw [rounds_succ]
   go_wp2
   rw [rounds_succ]
   go_wp2
   go_ret
   exact ⟨ret_int (by rw [sd4, HB.out 0 (by omega), HB.out 1 (by omega), HB.out 2 (by omega), HB.out 3 (by omega)]), rfl⟩
end Go.Proofs.YtncnefpkfbngaaaGreatDoor

/- The reference's First: the rune with whose writing a text begins. -/
namespace Go.Proofs.YtncnefpkfbngaaaGreatDoor
open Go.RowKit Nums
set_option maxRecDepth 100000
attribute [local go_sem ↓] Go.wp_at_zero Go.wp_at_succ

theorem wr_toList (r : Int) : (strOfNums (wrI r)).toList = wr r := by
 rw [ByteArray.toList_eq, strOfNums_data]; rfl
theorem ext_toList (s : ByteArray) (n : Nat) : (s.extract 0 n).toList = s.data.toList.take n := by
 rw [ByteArray.toList_eq]; simp [ByteArray.extract, ByteArray.copySlice]

theorem Rune_is (r : Int) (w : World) {b : Bool} (h : isR r = b) : Calls Tryz.prog 90 #[.int .i64 r] w fun e w' => e = .returned (.bool b) ∧ w' = w := by
 rw [← h]; exact Rune_any r w

set_option maxHeartbeats 2000000 in
theorem First_any (s : ByteArray) (w : World) (h0 : 0 < s.size) (hm : s.size ≤ 9223372036854775807) :
 Calls Tryz.prog 71 #[.string s] w fun e w' => e = .returned (.tuple #[.int .i64 (rd s.data.toList).1, .int .i64 (rd s.data.toList).2]) ∧ Below w.heap.size w w' := by
 have HNE : Hid (s.data.toList ≠ []) := ne_of_size h0
 have HBD : Hid ((rd s.data.toList).2 ≤ s.data.toList.length ∧ (rd s.data.toList).2 ≤ 4) := rd_bd HNE.out
 go_enter Tryz.func71, Tryz.ntmps71
 go_wp2
 go_loopw [4] (fun i wr => ∃ k : Nat, 1 ≤ k ∧ k ≤ 5 ∧ i = .int .i64 k ∧ (∀ j, 1 ≤ j → j < k → (rd s.data.toList).2 ≠ j) ∧ Below w.heap.size w wr) (fun i _ => 5 - (intOf i).toNat)
 case atStart => exact ⟨1, by omega, by omega, rfl, fun j a b => by omega, Below.refl _ _⟩
 case round =>
  obtain ⟨k, hk1, hk5, rfl, hno, hbel⟩ := hrel
  have HNO : Hid (∀ j, 1 ≤ j → j < k → (rd s.data.toList).2 ≠ j) := hno
  clear hno
  by_cases hk : k ≤ 4 ∧ k ≤ s.size
  · obtain ⟨hk4, hks⟩ := hk
    have hsb := sd_bd s.data.toList k
    generalize hx : sd s.data.toList k = x at *
    have HX : Hid (sd s.data.toList k = x) := hx
    clear hx
    cases hr : isR x
    · have HR : Hid (isR x = false) := hr
      clear hr
      have HF : Hid (∀ j, 1 ≤ j → j < k + 1 → (rd s.data.toList).2 ≠ j) := fun j a b => by
       by_cases e : j = k
       · subst e; exact first_no HNE.out hk1 (fun h => by have h2 := h.1; rw [HX.out, HR.out] at h2; cases h2)
       · exact HNO.out j a (by omega)
      go_wp2_with (go_at_call 89; refine (said_any s k _ hk1 hk4 hks hm).mono ?_; rintro e w' ⟨rfl, rfl⟩; rw [HX.out])
      go_quiet ((go_at_call 90; exact Calls.quiet_of_same (Rune_is _ _ HR.out)))
      go_wp2
      go_roundw
      case rel => exact ⟨k + 1, by omega, by omega, by go_num, HF.out, below_drewN hbel _⟩
      case measure => simp [intOf]; omega
    · have HR : Hid (isR x = true) := hr
      clear hr
      have h1k : (k : Int) ≤ (s.size : Int) := by omega
      have h1k' : (0 : Int) ≤ (k : Int) := by omega
      by_cases hw : Nums.wr x = s.data.toList.take k
      · have HW : Hid (Nums.wr x = s.data.toList.take k) := hw
        have hq : ((strOfNums (wrI x)).toList == (s.extract 0 k).toList) = true := by rw [wr_toList, ext_toList, hw]; simp
        clear hw
        have HF : Hid (rd s.data.toList = (x, k)) := by
         have := first_yes (l := s.data.toList) (n := k) (by rw [size_length]; exact hks) (by rw [HX.out]; exact HR.out) (by rw [HX.out]; exact HW.out)
         rw [HX.out] at this; exact this
        go_wp2_with (go_at_call 89; refine (said_any s k _ hk1 hk4 hks hm).mono ?_; rintro e w' ⟨rfl, rfl⟩; rw [HX.out])
        go_region_held3 (fun _ => True) (trivial) (first | (go_at_call 90; refine (Rune_is _ _ HR.out).mono ?_; rintro e w' ⟨rfl, rfl⟩) | (go_at_call 91; refine (Write_any _ _ HR.out).mono ?_; rintro e w3 ⟨rfl, hb3⟩))
        all_goals go_wp2
        all_goals go_ret2
        refine ⟨?_, ?_⟩
        · rw [HF.out]; rfl
        · exact hbel.drew.trans (hb3.mono hbel.size)
      · have hq : ((strOfNums (wrI x)).toList == (s.extract 0 k).toList) = false := by rw [wr_toList, ext_toList]; simpa using hw
        have HW : Hid (¬ Nums.wr x = s.data.toList.take k) := hw
        clear hw
        have HF : Hid (∀ j, 1 ≤ j → j < k + 1 → (rd s.data.toList).2 ≠ j) := fun j a b => by
         by_cases e : j = k
         · subst e; exact first_no HNE.out hk1 (fun h => by have h2 := h.2; rw [HX.out] at h2; exact HW.out h2)
         · exact HNO.out j a (by omega)
        go_wp2_with (go_at_call 89; refine (said_any s k _ hk1 hk4 hks hm).mono ?_; rintro e w' ⟨rfl, rfl⟩; rw [HX.out])
        go_region_held3 (fun _ => True) (trivial) (first | (go_at_call 90; refine (Rune_is _ _ HR.out).mono ?_; rintro e w' ⟨rfl, rfl⟩) | (go_at_call 91; refine (Write_any _ _ HR.out).mono ?_; rintro e w3 ⟨rfl, hb3⟩))
        all_goals go_wp2
        go_roundw
        case rel => exact ⟨k + 1, by omega, by omega, by go_num, HF.out, hbel.drew.trans (hb3.mono hbel.size)⟩
        case measure => simp [intOf]; omega
  · have HZ : Hid (rd s.data.toList = (0, 0)) := by
     refine rd_zero ?_
     by_cases z : (rd s.data.toList).2 = 0
     · exact z
     · have h2 := HBD.out
       rw [size_length] at h2
       exact absurd rfl (HNO.out (rd s.data.toList).2 (by omega) (by omega))
    by_cases hk4 : k ≤ 4
    · have hks : ¬ k ≤ s.size := fun h => hk ⟨hk4, h⟩
      clear hk
      go_wp2
      go_ret2
      refine ⟨?_, hbel⟩
      rw [HZ.out]; rfl
    · clear hk
      go_wp2
      go_ret2
      refine ⟨?_, hbel⟩
      rw [HZ.out]; rfl
end Go.Proofs.YtncnefpkfbngaaaGreatDoor

/- The reference's Runes: the same runes, in new memory, or none. -/
namespace Go.Proofs.YtncnefpkfbngaaaGreatDoor
open Go.RowKit Nums
set_option maxRecDepth 100000

set_option maxHeartbeats 2000000 in
theorem RefRunes_any (s : ByteArray) (w : World) (hm : s.size ≤ 9223372036854775807) (hroom : Room s.data.toList) :
 Calls Tryz.prog 43 #[.string s] w fun e w' => ∃ v, Below w.heap.size w w' ∧
  ((rs s.data.toList = none ∧ v = .slice none 0 0 ∧ e = .returned (.tuple #[v, .bool false])) ∨
   ∃ xs, rs s.data.toList = some xs ∧ e = .returned (.tuple #[v, .bool true]) ∧ Made w.heap.size w' v xs) := by
 obtain ⟨i0, hi, hz0, hz1, hz2⟩ := info_parts infoRune
 go_enter Tryz.func43, Tryz.ntmps43
 go_wp2
 go_loopw [0, 4] (fun t v wr => ∃ (m : ByteArray) (pre : List Int), t = .string m ∧ m.size + pre.length ≤ s.size ∧ Made w.heap.size wr v pre ∧ Remains s.data.toList m.data.toList pre ∧ Below w.heap.size w wr)
  (fun t _ _ => lenOf t)
 case atStart => exact ⟨s, [], rfl, by simp, World.ownsRow_nil _ _ _ _, left_start _, Below.refl _ _⟩
 case round =>
  obtain ⟨m, pre, rfl, hms, hown, hL, hbel⟩ := hrel
  have HL : Hid (Remains s.data.toList m.data.toList pre) := hL
  clear hL
  by_cases h0 : 0 < m.size
  · have hne := ne_of_size h0
    have hbd := rd_bd hne
    rw [size_length] at hbd
    have HNE : Hid (m.data.toList ≠ []) := hne
    clear hne
    generalize hr : rd m.data.toList = q at hbd
    obtain ⟨r, n⟩ := q
    have HR : Hid (rd m.data.toList = (r, n)) := hr
    clear hr
    simp only at hbd
    by_cases hn : n = 0
    · subst hn
      have HF : Hid (rs s.data.toList = none) := left_none HL.out HNE.out (by rw [HR.out])
      go_wp2_with (go_at_call 71; refine (First_any _ _ h0 (by omega)).mono ?_; rintro e w2 ⟨rfl, hb2⟩; rw [HR.out])
      go_ret2
      exact ⟨_, hbel.trans (hb2.mono hbel.size), .inl ⟨HF.out, rfl, rfl⟩⟩
    have hrb : 0 ≤ r ∧ r < 1114112 := by
     have h2 := rd_isR (l := m.data.toList) (by rw [HR.out]; exact hn)
     rw [HR.out] at h2; exact isR_bd h2
    have hn0 : ((n : Int) == 0) = false := beq_eq_false_iff_ne.2 (by omega)
    have hrm : pre.length + 1 ≤ 35184372088832 := hroom m.data.toList pre HL.out (by rw [size_length, size_length]; exact hms) HNE.out (by rw [HR.out]; exact hn)
    go_wp2_with (first
     | (go_at_call 71; refine (First_any _ _ h0 (by omega)).mono ?_; rintro e w2 ⟨rfl, hb2⟩; rw [HR.out])
     | (at_builtin; refine wpList_append_own _ rfl _ _ 73 rfl w.heap.size 21 i0 (.int .i32 0) 1 4 Tryz.underlying73 hi hz0 hz1 hz2 rfl (by decide) _ _ _ rfl (World.ownsRow.alloc (hown.below hb2) _) ⟨w2.heap.size, 0, none⟩ 1 1 [.int .i32 r] rfl rfl ?c1 ?c2 ?c3 ?c4 ?c5 ?_))
    case c1 =>
     intro j u hj
     match j, hj with
     | 0, hj => simp at hj; subst hj; exact cell_new w2 r
    case c2 => intro u hu; simp at hu; subst hu; rfl
    case c3 => unfold maxLen; omega
    case c4 => omega
    case c5 => have := hbel.size; have := hb2.size; simp; omega
    intro v' w1 hown' hgrow _
    have hown2 : Made w.heap.size w1 v' (pre ++ [r]) := by unfold Made; simpa using hown'
    have hbw : Below w.heap.size w w2 := hbel.trans (hb2.mono hbel.size)
    have hb1 : Below w.heap.size w w1 := (hbw.alloc hbw.size _).grown hgrow (by have := hbw.size; simp; omega) (fun k hk => (World.ownsRow.lt hown k hk).1)
    clear hown' hgrow hown
    go_wp2
    go_roundw
    case rel => exact ⟨m.extract n m.size, pre ++ [r], rfl, by rw [extract_size]; simp; omega, hown2, rest_go HL.out HNE.out HR.out hn, hb1⟩
    case measure => simp only [lenOf]; rw [extract_size]; omega
  · have HN : Hid (m.data.toList = []) := nil_of_size h0
    have HF : Hid (rs s.data.toList = some pre) := left_end (by have := HL.out; rw [HN.out] at this; exact this)
    go_wp2
    go_ret2
    exact ⟨_, hbel, .inr ⟨pre, HF.out, rfl, hown⟩⟩
end Go.Proofs.YtncnefpkfbngaaaGreatDoor

/- The reference's Under, same, In, Rests. -/
namespace Go.Proofs.YtncnefpkfbngaaaGreatDoor
open Go.RowKit Nums Fm
set_option maxRecDepth 100000

theorem after_snoc (c : Int) {l : List En} {k : Nat} {e : En} (h : l[k]? = some e) : after c (l.take (k + 1)) = if e.1.head? = some c then after c (l.take k) ++ [tl e] else after c (l.take k) := by
 rw [List.take_add_one, h]
 show after c (l.take k ++ [e]) = _
 rw [after_append, after]
 split
 · rfl
 · exact List.append_nil _
theorem after_len (c : Int) : ∀ l : List En, (after c l).length ≤ l.length
 | [] => Nat.le_refl _
 | e :: r => by
  have := after_len c r
  rw [after]
  split
  · simp only [List.length_cons]; omega
  · simp only [List.length_cons]; omega
theorem RunesAt.tail {E : Nat} {w : World} {g o n cap : Nat} {xs : List Int} {ad : Option Addr} {c : Nat} (h : RunesAt E w (.slice (some ⟨g, o, none⟩) n cap) xs) (h0 : 0 < xs.length) (had : n = 1 ∨ ad = some ⟨g, o + 1, none⟩) : RunesAt E w (.slice ad (n - 1) c) xs.tail := by
 obtain ⟨ad', cap', e, hc⟩ := h
 simp only [Value.slice.injEq] at e
 obtain ⟨e1, rfl, rfl⟩ := e
 refine ⟨ad, c, by rw [List.length_tail], fun ht => ?_⟩
 rw [List.length_tail] at ht
 obtain ⟨g', off, e2, hg, hx⟩ := hc h0
 rw [← e1] at e2
 simp only [Option.some.injEq, Addr.mk.injEq, and_true] at e2
 obtain ⟨rfl, rfl⟩ := e2
 refine ⟨g, o + 1, had.resolve_left (by omega), hg, fun i x hi => ?_⟩
 have := hx (i + 1) x (by rw [← List.getElem?_tail]; exact hi)
 rwa [show o + (i + 1) = o + 1 + i by omega] at this
set_option maxHeartbeats 2000000 in
theorem refUnder_any (E : Nat) (w : World) (v : Value) (l : List En) (c : Int) (h : RR E w v l) (hl : l.length ≤ 1048576) (hE : E ≤ w.heap.size) :
 Calls Tryz.prog 80 #[v, .int .i32 c] w fun e w' => ∃ v', e = .returned v' ∧ RMade E w.heap.size w' v' (after c l) ∧ Below w.heap.size w w' := by
 obtain ⟨ad, cap, rfl⟩ := h.form
 obtain ⟨n, hn⟩ : ∃ n, l.length = n := ⟨_, rfl⟩
 have HN : Hid (l.length = n) := hn
 rw [hn] at h hl ⊢
 have HR : Hid (RR E w (.slice ad n cap) l) := h
 clear h hn
 go_enter Tryz.func80, Tryz.ntmps80
 go_wp2
 go_loopg [5, 6] n (fun gm s5 s6 wr => ∃ (k : Nat), s6 = .int .i64 k ∧ k ≤ n ∧ n - k ≤ gm ∧ Hid (RMade E w.heap.size wr s5 (after c (l.take k))) ∧ Hid (Below w.heap.size w wr))
 case atStart => exact ⟨0, rfl, Nat.zero_le _, by omega, RMade.nil _ _ _, Below.refl _ _⟩
 case round =>
  obtain ⟨k, rfl, hk, hgm, HM, HB⟩ := hrel
  by_cases hlt : k < n
  · have hltz : (k : Int) < (n : Int) := by omega
    obtain ⟨x, hxk⟩ : ∃ x, l[k]? = some x := ⟨l[k]'(by have := HN.out; omega), List.getElem?_eq_getElem _⟩
    obtain ⟨g, off, rfl, hg, hx⟩ := HR.out.at (by omega)
    obtain ⟨u, ⟨c0, c1, hr⟩, hck⟩ := hx k x hxk
    obtain ⟨ra, rc, hu, _⟩ := id hr
    obtain ⟨rn, hrn⟩ : ∃ rn, x.1.length = rn := ⟨_, rfl⟩
    rw [hrn] at hu
    subst hu
    have hck' : rn ≤ rc := hck
    obtain ⟨q, hq⟩ : ∃ q, x.2 = q := ⟨_, rfl⟩
    have HQ : Hid (x.2 = q) := hq
    rw [hq] at c1
    have c0r : wr.cell? ⟨g, off + k * 2, none⟩ = some (.slice ra rn rc) := (HB.out.cell (p := ⟨g, off + k * 2, none⟩) hg).trans c0
    have hAF := after_snoc c hxk
    by_cases hr0 : 0 < rn
    · have hr0z : (0 : Int) < (rn : Int) := by omega
      obtain ⟨gr, o, rfl, hz, hd⟩ := hr.get (k := 0) (by omega)
      clear hz
      obtain ⟨ch, hch⟩ : ∃ ch, x.1.headD 0 = ch := ⟨_, rfl⟩
      rw [Nat.add_zero, List.drop_zero, hch] at hd
      have hgr : gr < w.heap.size := lt_of_cell hd
      have d0 : wr.cell? ⟨gr, o, none⟩ = some (.int .i32 ch) := (HB.out.cell (p := ⟨gr, o, none⟩) hgr).trans hd
      have hhead : x.1.head? = some ch := by
       cases hx1 : x.1 with
       | nil => rw [hx1] at hrn; simp at hrn; omega
       | cons a t => rw [hx1] at hch; simp only [List.headD_cons] at hch; rw [hch]; rfl
      rw [hhead] at hAF
      by_cases hcc : ch = c
      · have hcb : (ch == c) = true := beq_iff_eq.2 hcc
        rw [if_pos (by rw [hcc])] at hAF
        have HAF : Hid (after c (l.take (k + 1)) = after c (l.take k) ++ [tl x]) := hAF
        have hS : SE g (off + k * 2) (.slice (some ⟨gr, o, none⟩) rn rc) q w := ⟨c0, c1⟩
        go_upto_region 6 with fail
        clear c0r d0
        by_cases hrc1 : rc = 1
        · subst hrc1
          have hrn1 : rn = 1 := by omega
          subst hrn1
          obtain ⟨td, htd⟩ : ∃ td : Option Addr, td = some ⟨gr, o, none⟩ := ⟨_, rfl⟩
          obtain ⟨tn, htn⟩ : ∃ tn : Nat, tn = 0 := ⟨_, rfl⟩
          obtain ⟨tc, htc⟩ : ∃ tc : Nat, tc = 0 := ⟨_, rfl⟩
          have HTL : Hid (RunesAt E w (.slice td tn tc) x.1.tail ∧ CapOk (.slice td tn tc)) := ⟨by rw [htn]; exact hr.tail (by omega) (.inl rfl), by rw [htn]; exact Nat.zero_le _⟩
          clear hAF hx hr hrn hck hck' hhead hch hcc hq c0 c1 hd hxk
          have hS0 : SE g (off + k * 2) (.slice (some ⟨gr, o, none⟩) 1 1) q wr.drew := (hS.below hg HB.out).below (B := wr.heap.size) (Nat.lt_of_lt_of_le hg HB.out.size) (Below.refl _ wr).drew
          obtain ⟨xss, ho, hxl, hxe⟩ := HM.out.ex
          obtain ⟨W4, hW4⟩ : ∃ W4, W4 = wr.drew.alloc (.cells #[.slice td tn tc, .int .i64 q] 135) := ⟨_, rfl⟩
          have hb4 : Below wr.heap.size wr W4 := by rw [hW4]; exact ((Below.refl _ wr).drew).alloc (by simp) _
          have hn4 : W4.heap[wr.heap.size]? = some (.cells #[.slice td tn tc, .int .i64 q] 135) := by rw [hW4]; exact alloc_newP _ _
          have hBr : w.heap.size ≤ wr.heap.size := HB.out.size
          obtain ⟨v5, W5, hap, ho5, hgr, _⟩ := gappend_run rtyR (ho.below hb4) (Nat.le_trans hBr hb4.size) (x := [.slice td tn tc, .int .i64 q]) ⟨rfl, by simp [Value.oneCell']⟩ (nb := wr.heap.size) (fun j u hj => by simp only [World.cell?, hn4]; simpa using hj) (by have := after_len c (l.take k); rw [hxl]; rw [List.length_take] at this; omega) 94 1
          have hB45 : Below w.heap.size W4 W5 := gBelow (ho.below hb4) hgr (Nat.le_trans hBr hb4.size)
          have hb5 : Below w.heap.size w W5 := (HB.out.trans (hb4.mono hBr)).trans hB45
          have hM5 : RMade E w.heap.size W5 v5 (after c (l.take (k + 1))) := by
           rw [HAF.out]
           refine RMade.push (w := wr) (u := .slice td tn tc) (xss := xss) hxl hxe ((hb4.mono (Nat.le_trans hE hBr)).trans (hB45.mono hE)) ?_ (HTL.out.1.below (HB.out.mono hE)) HTL.out.2
           simp only [tl, HQ.out]
           exact ho5
          obtain ⟨sd, sc, hsv, _⟩ := ho.shape
          obtain ⟨vd, vc, hvv, _⟩ := ho5.shape
          obtain ⟨n3, hn3⟩ : ∃ n3, xss.length = n3 := ⟨_, rfl⟩
          obtain ⟨n5, hn5⟩ : ∃ n5, (xss ++ [[Value.slice td tn tc, .int .i64 q]]).length = n5 := ⟨_, rfl⟩
          rw [hn3] at hsv
          rw [hn5] at hvv
          subst hsv
          subst hvv
          have hS4 : SE g (off + k * 2) (.slice (some ⟨gr, o, none⟩) 1 1) q W4 := (hS.below hg HB.out).below (Nat.lt_of_lt_of_le hg hBr) hb4
          have hS5 : SE g (off + k * 2) (.slice (some ⟨gr, o, none⟩) 1 1) q W5 := hS.below hg hb5
          have HM5 : Hid (RMade E w.heap.size W5 (.slice vd n5 vc) (after c (l.take (k + 1)))) := hM5
          have HB5 : Hid (Below w.heap.size w W5) := hb5
          have HAP : Hid ((Builtin.append_ #[94, 94] 94 #[.slice sd n3 sc, .slice (some ⟨wr.heap.size, 0, none⟩) 1 1]).run Tryz.prog W4 = .ok (.slice vd n5 vc) W5) := hap
          clear hS ho hxl hxe hb4 hn4 hap ho5 hgr hB45 hb5 hM5 hn3 hn5
          refine region_at (S := SE g (off + k * 2) (.slice (some ⟨gr, o, none⟩) 1 1) q) 16 rfl mixedP hS0 (fun _ => ?_)
          refine tk (i := 0) 31 rfl rfl (by kernel_rfl) (fun _ s => by (have h := SE.facts s; clear s; go_simp; first | done | exact rfl)) ?_
          simp only [sZa, sZb, sZc]
          refine tk (i := 1) 32 rfl rfl (by kernel_rfl) (fun _ s => by (have h := SE.facts s; clear s; go_simp; first | done | exact rfl)) ?_
          simp only [sZa, sZb, sZc]
          refine tk (i := 2) 33 rfl rfl (by kernel_rfl) (fun _ s => by (have h := SE.facts s; clear s; go_simp; first | done | exact rfl)) ?_
          simp only [sZa, sZb, sZc]
          refine tk (i := 3) 34 rfl rfl (by kernel_rfl) (fun _ s => by (have h := SE.facts s; clear s; go_simp; first | done | exact rfl)) ?_
          simp only [sZa, sZb, sZc]
          refine tk (i := 4) 35 rfl rfl (by kernel_rfl) (fun _ s => by (have h := SE.facts s; clear s; go_simp; first | done | exact rfl)) ?_
          simp only [sZa, sZb, sZc]
          refine tk (i := 5) 36 rfl rfl (by kernel_rfl) (fun _ s => by (have h := SE.facts s; clear s; go_simp; first | done | exact rfl)) ?_
          simp only [sZa, sZb, sZc]
          refine tk (i := 6) 37 rfl rfl (by kernel_rfl) (fun _ s => by (have h := SE.facts s; clear s; go_simp; first | done | exact rfl)) ?_
          simp only [sZa, sZb, sZc]
          refine tk (i := 7) 38 rfl rfl (by kernel_rfl) (fun _ s => by (have h := SE.facts s; clear s; go_simp; first | done | exact rfl)) ?_
          simp only [sZa, sZb, sZc]
          refine tk (i := 8) 39 rfl rfl (by kernel_rfl) (fun _ s => by (have h := SE.facts s; clear s; go_simp; first | done | exact rfl)) ?_
          simp only [sZa, sZb, sZc]
          refine tk (i := 9) 40 rfl rfl (by kernel_rfl) (fun _ s => by (have h := SE.facts s; clear s; go_simp; first | done | exact rfl)) ?_
          simp only [sZa, sZb, sZc]
          refine tk (i := 10) 41 rfl rfl (by kernel_rfl) (fun _ s => by (have h := SE.facts s; clear s; go_simp; first | done | exact rfl)) ?_
          simp only [sZa, sZb, sZc]
          refine tk (i := 11) 42 rfl rfl (by kernel_rfl) (fun _ s => by (have h := SE.facts s; clear s; go_simp; first | done | exact rfl)) ?_
          simp only [sZa, sZb, sZc]
          refine tk (i := 12) 43 rfl rfl (by kernel_rfl) (fun _ s => by (have h := SE.facts s; clear s; go_simp; first | done | exact rfl)) ?_
          simp only [sZa, sZb, sZc]
          rw [htd, htn, htc] at hW4
          refine one_value (i := 13) (v := .slice (some ⟨wr.heap.size, 0, none⟩) 1 1) (w' := W4) 44 (by kernel_rfl) rfl rfl (by rfl) (by rw [hW4]; go_simp; first | done | exact rfl) hS4 (fun _ => ?_)
          simp only [sZa, sZb, sZc]
          refine one_value (i := 14) (v := .slice vd n5 vc) (w' := W5) 45 (by kernel_rfl) rfl rfl (by rfl) (exec_app HAP.out) hS5 (fun _ => ?_)
          simp only [sZa, sZb, sZc]
          refine one_value (i := 15) (v := .slice vd n5 vc) (w' := W5) 5 (by kernel_rfl) rfl rfl (by rfl) (by kernel_rfl) hS5 (fun _ => ?_)
          refine wpAnyH_done (by kernel_rfl) ?_ _
          simp only [sZa, sZb, sZc]
          clear hW4 hS4 hS5 hS0
          go_wp2
          go_roundg (n - (k + 1))
          case measure => omega
          case rel => exact ⟨k + 1, by go_num, by omega, Nat.le_refl _, HM5, HB5⟩
        · have hrc1z : ¬ (rc : Int) = 1 := by omega
          have h1rn : (1 : Int) ≤ (rn : Int) := by omega
          obtain ⟨td, htd⟩ : ∃ td : Option Addr, td = some ⟨gr, o + 1, none⟩ := ⟨_, rfl⟩
          obtain ⟨tn, htn⟩ : ∃ tn : Nat, tn = rn - 1 := ⟨_, rfl⟩
          obtain ⟨tc, htc⟩ : ∃ tc : Nat, tc = rc - 1 := ⟨_, rfl⟩
          have HTL : Hid (RunesAt E w (.slice td tn tc) x.1.tail ∧ CapOk (.slice td tn tc)) := ⟨by rw [htn]; exact hr.tail (by omega) (.inr htd), by rw [htn, htc]; show rn - 1 ≤ rc - 1; omega⟩
          clear hAF hx hr hrn hck hhead hch hcc hq c0 c1 hd hxk
          have hS0 : SE g (off + k * 2) (.slice (some ⟨gr, o, none⟩) rn rc) q wr.drew := (hS.below hg HB.out).below (B := wr.heap.size) (Nat.lt_of_lt_of_le hg HB.out.size) (Below.refl _ wr).drew
          obtain ⟨xss, ho, hxl, hxe⟩ := HM.out.ex
          obtain ⟨W4, hW4⟩ : ∃ W4, W4 = wr.drew.alloc (.cells #[.slice td tn tc, .int .i64 q] 135) := ⟨_, rfl⟩
          have hb4 : Below wr.heap.size wr W4 := by rw [hW4]; exact ((Below.refl _ wr).drew).alloc (by simp) _
          have hn4 : W4.heap[wr.heap.size]? = some (.cells #[.slice td tn tc, .int .i64 q] 135) := by rw [hW4]; exact alloc_newP _ _
          have hBr : w.heap.size ≤ wr.heap.size := HB.out.size
          obtain ⟨v5, W5, hap, ho5, hgr, _⟩ := gappend_run rtyR (ho.below hb4) (Nat.le_trans hBr hb4.size) (x := [.slice td tn tc, .int .i64 q]) ⟨rfl, by simp [Value.oneCell']⟩ (nb := wr.heap.size) (fun j u hj => by simp only [World.cell?, hn4]; simpa using hj) (by have := after_len c (l.take k); rw [hxl]; rw [List.length_take] at this; omega) 94 1
          have hB45 : Below w.heap.size W4 W5 := gBelow (ho.below hb4) hgr (Nat.le_trans hBr hb4.size)
          have hb5 : Below w.heap.size w W5 := (HB.out.trans (hb4.mono hBr)).trans hB45
          have hM5 : RMade E w.heap.size W5 v5 (after c (l.take (k + 1))) := by
           rw [HAF.out]
           refine RMade.push (w := wr) (u := .slice td tn tc) (xss := xss) hxl hxe ((hb4.mono (Nat.le_trans hE hBr)).trans (hB45.mono hE)) ?_ (HTL.out.1.below (HB.out.mono hE)) HTL.out.2
           simp only [tl, HQ.out]
           exact ho5
          obtain ⟨sd, sc, hsv, _⟩ := ho.shape
          obtain ⟨vd, vc, hvv, _⟩ := ho5.shape
          obtain ⟨n3, hn3⟩ : ∃ n3, xss.length = n3 := ⟨_, rfl⟩
          obtain ⟨n5, hn5⟩ : ∃ n5, (xss ++ [[Value.slice td tn tc, .int .i64 q]]).length = n5 := ⟨_, rfl⟩
          rw [hn3] at hsv
          rw [hn5] at hvv
          subst hsv
          subst hvv
          have hS4 : SE g (off + k * 2) (.slice (some ⟨gr, o, none⟩) rn rc) q W4 := (hS.below hg HB.out).below (Nat.lt_of_lt_of_le hg hBr) hb4
          have hS5 : SE g (off + k * 2) (.slice (some ⟨gr, o, none⟩) rn rc) q W5 := hS.below hg hb5
          have HM5 : Hid (RMade E w.heap.size W5 (.slice vd n5 vc) (after c (l.take (k + 1)))) := hM5
          have HB5 : Hid (Below w.heap.size w W5) := hb5
          have HAP : Hid ((Builtin.append_ #[94, 94] 94 #[.slice sd n3 sc, .slice (some ⟨wr.heap.size, 0, none⟩) 1 1]).run Tryz.prog W4 = .ok (.slice vd n5 vc) W5) := hap
          clear hS ho hxl hxe hb4 hn4 hap ho5 hgr hB45 hb5 hM5 hn3 hn5
          refine region_at (S := SE g (off + k * 2) (.slice (some ⟨gr, o, none⟩) rn rc) q) 16 rfl mixedP hS0 (fun _ => ?_)
          refine tk (i := 0) 31 rfl rfl (by kernel_rfl) (fun _ s => by (have h := SE.facts s; clear s; go_simp; first | done | exact rfl)) ?_
          simp only [sZa, sZb, sZc]
          refine tk (i := 1) 32 rfl rfl (by kernel_rfl) (fun _ s => by (have h := SE.facts s; clear s; go_simp; first | done | exact rfl)) ?_
          simp only [sZa, sZb, sZc]
          refine tk (i := 2) 33 rfl rfl (by kernel_rfl) (fun _ s => by (have h := SE.facts s; clear s; go_simp; first | done | exact rfl)) ?_
          simp only [sZa, sZb, sZc]
          refine tk (i := 3) 34 rfl rfl (by kernel_rfl) (fun _ s => by (have h := SE.facts s; clear s; go_simp; first | done | exact rfl)) ?_
          simp only [sZa, sZb, sZc]
          refine tk (i := 4) 35 rfl rfl (by kernel_rfl) (fun _ s => by (have h := SE.facts s; clear s; go_simp; first | done | exact rfl)) ?_
          simp only [sZa, sZb, sZc]
          refine tk (i := 5) 36 rfl rfl (by kernel_rfl) (fun _ s => by (have h := SE.facts s; clear s; go_simp; first | done | exact rfl)) ?_
          simp only [sZa, sZb, sZc]
          refine tk (i := 6) 37 rfl rfl (by kernel_rfl) (fun _ s => by (have h := SE.facts s; clear s; go_simp; first | done | exact rfl)) ?_
          simp only [sZa, sZb, sZc]
          refine tk (i := 7) 38 rfl rfl (by kernel_rfl) (fun _ s => by (have h := SE.facts s; clear s; go_simp; first | done | exact rfl)) ?_
          simp only [sZa, sZb, sZc]
          refine tk (i := 8) 39 rfl rfl (by kernel_rfl) (fun _ s => by (have h := SE.facts s; clear s; go_simp; first | done | exact rfl)) ?_
          simp only [sZa, sZb, sZc]
          refine tk (i := 9) 40 rfl rfl (by kernel_rfl) (fun _ s => by (have h := SE.facts s; clear s; go_simp; first | done | exact rfl)) ?_
          simp only [sZa, sZb, sZc]
          refine tk (i := 10) 41 rfl rfl (by kernel_rfl) (fun _ s => by (have h := SE.facts s; clear s; go_simp; first | done | exact rfl)) ?_
          simp only [sZa, sZb, sZc]
          refine tk (i := 11) 42 rfl rfl (by kernel_rfl) (fun _ s => by (have h := SE.facts s; clear s; go_simp; first | done | exact rfl)) ?_
          simp only [sZa, sZb, sZc]
          refine tk (i := 12) 43 rfl rfl (by kernel_rfl) (fun _ s => by (have h := SE.facts s; clear s; go_simp; first | done | exact rfl)) ?_
          simp only [sZa, sZb, sZc]
          rw [htd, htn, htc] at hW4
          refine one_value (i := 13) (v := .slice (some ⟨wr.heap.size, 0, none⟩) 1 1) (w' := W4) 44 (by kernel_rfl) rfl rfl (by rfl) (by rw [hW4]; go_simp; first | done | exact rfl) hS4 (fun _ => ?_)
          simp only [sZa, sZb, sZc]
          refine one_value (i := 14) (v := .slice vd n5 vc) (w' := W5) 45 (by kernel_rfl) rfl rfl (by rfl) (exec_app HAP.out) hS5 (fun _ => ?_)
          simp only [sZa, sZb, sZc]
          refine one_value (i := 15) (v := .slice vd n5 vc) (w' := W5) 5 (by kernel_rfl) rfl rfl (by rfl) (by kernel_rfl) hS5 (fun _ => ?_)
          refine wpAnyH_done (by kernel_rfl) ?_ _
          simp only [sZa, sZb, sZc]
          clear hW4 hS4 hS5 hS0
          go_wp2
          go_roundg (n - (k + 1))
          case measure => omega
          case rel => exact ⟨k + 1, by go_num, by omega, Nat.le_refl _, HM5, HB5⟩
      · have hcb : (ch == c) = false := beq_eq_false_iff_ne.2 hcc
        rw [if_neg (fun e => hcc (Option.some.inj e))] at hAF
        have HM2 : Hid (RMade E w.heap.size wr u5 (after c (l.take (k + 1)))) := by show RMade _ _ _ _ _; rw [hAF]; exact HM.out
        clear hAF hx hr hrn hck hhead hch hcc hq c0 c1 hd hxk
        go_wp2
        go_roundg (n - (k + 1))
        case measure => omega
        case rel => exact ⟨k + 1, by go_num, by omega, Nat.le_refl _, HM2, HB⟩
    · have hr0z : ¬ (0 : Int) < (rn : Int) := by omega
      have hx1 : x.1 = [] := List.eq_nil_of_length_eq_zero (by omega)
      rw [hx1, if_neg (by simp)] at hAF
      have HM2 : Hid (RMade E w.heap.size wr u5 (after c (l.take (k + 1)))) := by show RMade _ _ _ _ _; rw [hAF]; exact HM.out
      clear hAF hx hr hrn hck hq c0 c1 hxk hx1
      go_wp2
      go_roundg (n - (k + 1))
      case measure => omega
      case rel => exact ⟨k + 1, by go_num, by omega, Nat.le_refl _, HM2, HB⟩
  · have hltz : ¬ (k : Int) < (n : Int) := by omega
    have HE : Hid (l.take k = l) := List.take_of_length_le (by have := HN.out; omega)
    go_wp2
    go_ret
    exact ⟨_, rfl, by have := HM.out; rwa [HE.out] at this, HB.out⟩
end Go.Proofs.YtncnefpkfbngaaaGreatDoor

/- The reference's same, In, Rests. -/
namespace Go.Proofs.YtncnefpkfbngaaaGreatDoor
open Go.RowKit Nums Fm
set_option maxRecDepth 100000

theorem RunesAt.row {E : Nat} {w : World} {v : Value} {xs : List Int} (h : RunesAt E w v xs) : Row w v xs := by
 obtain ⟨ad, cap, rfl, hc⟩ := h
 refine ⟨ad, cap, rfl, fun h0 => ?_⟩
 obtain ⟨g, off, rfl, _, hx⟩ := hc h0
 refine ⟨g, off, rfl, fun i hi => ?_⟩
 rw [hx i xs[i] (List.getElem?_eq_getElem hi), List.getD_eq_getElem?_getD, List.getElem?_eq_getElem hi]
 rfl
/-- Two rests. -/
structure SE2 (g o g' o' : Nat) (u u' : Value) (w : World) : Prop where
 c0 : w.cell? ⟨g, o, none⟩ = some u
 d0 : w.cell? ⟨g', o', none⟩ = some u'
theorem SE2.facts {g o g' o' : Nat} {u u' : Value} {w : World} (h : SE2 g o g' o' u u' w) : w.cell? ⟨g, o, none⟩ = some u ∧ w.cell? ⟨g', o', none⟩ = some u' := ⟨h.c0, h.d0⟩
set_option maxHeartbeats 4000000 in
theorem refsame_any (E E' : Nat) (w : World) (va vb : Value) (S T : List En) (h1 : RR E w va S) (h2 : RR E' w vb T) (hS : S.length ≤ 1048576) (hT : T.length ≤ 1048576) (hx : ∀ e ∈ S, e.1.length ≤ 1048576) (hy : ∀ e ∈ T, e.1.length ≤ 1048576) :
 Calls Tryz.prog 99 #[va, vb] w fun e w' => e = .returned (.bool (decide (S = T))) ∧ ∃ q, w' = w.drewN q := by
 obtain ⟨ad1, cap1, rfl⟩ := h1.form
 obtain ⟨ad2, cap2, rfl⟩ := h2.form
 obtain ⟨n1, hn1⟩ : ∃ n, S.length = n := ⟨_, rfl⟩
 obtain ⟨n2, hn2⟩ : ∃ n, T.length = n := ⟨_, rfl⟩
 have HN : Hid (S.length = n1 ∧ T.length = n2) := ⟨hn1, hn2⟩
 rw [hn1] at h1 hS ⊢
 rw [hn2] at h2 hT ⊢
 have HR1 : Hid (RR E w (.slice ad1 n1 cap1) S) := h1
 have HR2 : Hid (RR E' w (.slice ad2 n2 cap2) T) := h2
 have HX : Hid ((∀ e ∈ S, e.1.length ≤ 1048576) ∧ ∀ e ∈ T, e.1.length ≤ 1048576) := ⟨hx, hy⟩
 obtain ⟨F, hF⟩ : ∃ F, decide (S = T) = F := ⟨_, rfl⟩
 have HF : Hid (decide (S = T) = F) := hF
 rw [hF]
 clear h1 h2 hn1 hn2 hF hx hy
 by_cases hne : ¬ n1 = n2
 · have HE : Hid (F = false) := by
    show _ = _
    rw [← HF.out]
    exact decide_eq_false fun e => hne (by rw [← HN.out.1, ← HN.out.2, e])
   have hneb : ((n1 : Int) == (n2 : Int)) = false := beq_eq_false_iff_ne.2 (by omega)
   go_enter Tryz.func99, Tryz.ntmps99
   go_wp2
   go_ret
   exact ⟨by rw [HE.out]; rfl, 0, rfl⟩
 have hne' : n1 = n2 := Classical.not_not.1 hne
 subst hne'
 clear hne
 go_enter Tryz.func99, Tryz.ntmps99
 go_wp2
 go_loopg [5, 6] n1 (fun g s5 _ wr => ∃ (k q : Nat), s5 = .int .i64 k ∧ k ≤ n1 ∧ n1 - k ≤ g ∧ Hid (wr = w.drewN q) ∧ Hid (S.take k = T.take k))
 case atStart => exact ⟨0, 0, rfl, Nat.zero_le _, by omega, rfl, by show _ = _; simp⟩
 case round =>
  obtain ⟨k, q, rfl, hk, hg, HW, HK⟩ := hrel
  by_cases hlt : k < n1
  · have hltz : (k : Int) < (n1 : Int) := by omega
    obtain ⟨x, hx⟩ : ∃ x, S[k]? = some x := ⟨S[k]'(by have := HN.out; omega), List.getElem?_eq_getElem _⟩
    obtain ⟨y, hy⟩ : ∃ y, T[k]? = some y := ⟨T[k]'(by have := HN.out; omega), List.getElem?_eq_getElem _⟩
    obtain ⟨g1, o1, rfl, hg1, hc1⟩ := HR1.out.at (by omega)
    obtain ⟨g2, o2, rfl, hg2, hc2⟩ := HR2.out.at (by omega)
    obtain ⟨u1, ⟨p0, p1, pr⟩, hz1⟩ := hc1 k x hx
    obtain ⟨u2, ⟨q0, q1, qr⟩, hz2⟩ := hc2 k y hy
    clear hz1 hz2
    obtain ⟨xd, xc, hxv, _⟩ := id pr
    obtain ⟨yd, yc, hyv, _⟩ := id qr
    obtain ⟨xn, hxn⟩ : ∃ xn, x.1.length = xn := ⟨_, rfl⟩
    obtain ⟨yn, hyn⟩ : ∃ yn, y.1.length = yn := ⟨_, rfl⟩
    rw [hxn] at hxv
    rw [hyn] at hyv
    subst hxv
    subst hyv
    have hS2 : ∀ m, SE2 g1 (o1 + k * 2) g2 (o2 + k * 2) (.slice xd xn xc) (.slice yd yn yc) (w.drewN m) := fun m => ⟨p0, q0⟩
    have HS2 : Hid _ := hS2
    have hwrd : wr.drew = w.drewN (q + 1) := by rw [HW.out]; rfl
    have hS0 : SE2 g1 (o1 + k * 2) g2 (o2 + k * 2) (.slice xd xn xc) (.slice yd yn yc) wr.drew := by rw [hwrd]; exact hS2 _
    have hX := HX.out.1 x (List.mem_of_getElem? hx)
    have hY := HX.out.2 y (List.mem_of_getElem? hy)
    have HCALL : Hid (Calls Tryz.prog 113 #[.slice xd xn xc, .slice yd yn yc] wr.drew fun e w' => e = .returned (.bool (decide (x.1 = y.1))) ∧ ∃ m, w' = w.drewN m) := by
     show Calls _ _ _ _ _
     rw [hwrd]
     have r1 : Row (w.drewN (q + 1)) (.slice xd xn xc) x.1 := (pr.below (belowN (Below.refl E w) (q + 1))).row
     have r2 : Row (w.drewN (q + 1)) (.slice yd yn yc) y.1 := (qr.below (belowN (Below.refl E' w) (q + 1))).row
     refine (Same_any _ _ x.1 y.1 _ r1 r2 (by omega) (by omega)).mono ?_
     rintro e w' ⟨h1, m, h2⟩
     exact ⟨h1, _, by rw [h2]; exact World.drewN_drewN ..⟩
    have HP : Hid (∀ m, (w.drewN m).cell? ⟨g1, o1 + k * 2 + 1, none⟩ = some (.int .i64 x.2) ∧ (w.drewN m).cell? ⟨g2, o2 + k * 2 + 1, none⟩ = some (.int .i64 y.2)) := fun m => ⟨p1, q1⟩
    have HNX : Hid (x = y → S.take (k + 1) = T.take (k + 1)) := fun e => take_alike HK.out hx hy e
    have HNE : Hid (x ≠ y → F = false) := fun e => by
     rw [← HF.out]
     refine decide_eq_false fun e2 => e ?_
     have h1 := hx
     rw [e2, hy] at h1
     exact (Option.some.inj h1).symm
    clear hc1 hc2 hx hy pr qr p0 p1 q0 q1 hxn hyn hS2 hwrd hX hY
    go_upto_region 6 with fail
    refine region_at (S := SE2 g1 (o1 + k * 2) g2 (o2 + k * 2) (.slice xd xn xc) (.slice yd yn yc)) 12 rfl mixedP hS0 (fun _ => ?_)
    refine tk (i := 0) 18 rfl rfl (by kernel_rfl) (fun _ s => by (have h := SE2.facts s; clear s; go_simp; first | done | exact rfl)) ?_
    simp only [sZa, sZb, sZc]
    refine tk (i := 1) 19 rfl rfl (by kernel_rfl) (fun _ s => by (have h := SE2.facts s; clear s; go_simp; first | done | exact rfl)) ?_
    simp only [sZa, sZb, sZc]
    refine tk (i := 2) 20 rfl rfl (by kernel_rfl) (fun _ s => by (have h := SE2.facts s; clear s; go_simp; first | done | exact rfl)) ?_
    simp only [sZa, sZb, sZc]
    refine tk (i := 3) 21 rfl rfl (by kernel_rfl) (fun _ s => by (have h := SE2.facts s; clear s; go_simp; first | done | exact rfl)) ?_
    simp only [sZa, sZb, sZc]
    refine tk (i := 4) 22 rfl rfl (by kernel_rfl) (fun _ s => by (have h := SE2.facts s; clear s; go_simp; first | done | exact rfl)) ?_
    simp only [sZa, sZb, sZc]
    refine tk (i := 5) 23 rfl rfl (by kernel_rfl) (fun _ s => by (have h := SE2.facts s; clear s; go_simp; first | done | exact rfl)) ?_
    simp only [sZa, sZb, sZc]
    refine tk (i := 6) 24 rfl rfl (by kernel_rfl) (fun _ s => by (have h := SE2.facts s; clear s; go_simp; first | done | exact rfl)) ?_
    simp only [sZa, sZb, sZc]
    refine tk (i := 7) 25 rfl rfl (by kernel_rfl) (fun _ s => by (have h := SE2.facts s; clear s; go_simp; first | done | exact rfl)) ?_
    simp only [sZa, sZb, sZc]
    refine tk (i := 8) 26 rfl rfl (by kernel_rfl) (fun _ s => by (have h := SE2.facts s; clear s; go_simp; first | done | exact rfl)) ?_
    simp only [sZa, sZb, sZc]
    refine tk (i := 9) 27 rfl rfl (by kernel_rfl) (fun _ s => by (have h := SE2.facts s; clear s; go_simp; first | done | exact rfl)) ?_
    simp only [sZa, sZb, sZc]
    refine one_call (i := 10) (w0 := wr.drew) 28 113 #[.slice xd xn xc, .slice yd yn yc] (by kernel_rfl) rfl rfl (by rfl) (by kernel_rfl) ?_
    refine HCALL.out.mono ?_
    rintro e w3 ⟨rfl, m, hw3⟩
    have hS3 : SE2 g1 (o1 + k * 2) g2 (o2 + k * 2) (.slice xd xn xc) (.slice yd yn yc) w3 := by rw [hw3]; exact HS2.out m
    refine ⟨_, rfl, hS3, fun _ => ?_⟩
    simp only [sZa, sZb, sZc]
    refine one_value (i := 11) (v := .bool (decide (x.1 = y.1))) (w' := w3) 6 (by kernel_rfl) rfl rfl (by rfl) (by kernel_rfl) hS3 (fun _ => ?_)
    refine wpAnyH_done (by kernel_rfl) ?_ _
    obtain ⟨z0, z1⟩ := HP.out m
    rw [← hw3] at z0 z1
    have HW3 : Hid (∀ j, ∃ q, w3.drewN j = w.drewN q) := fun j => ⟨_, by rw [hw3]; exact World.drewN_drewN ..⟩
    clear hw3 hS3 hS0
    by_cases e1 : x.1 = y.1
    · rw [decide_eq_true e1]
      by_cases e2 : x.2 = y.2
      · have s2 : (x.2 == y.2) = true := beq_iff_eq.2 e2
        have HK2 : Hid (S.take (k + 1) = T.take (k + 1)) := HNX.out (Prod.ext e1 e2)
        clear e1 e2
        simp only [sZa, sZb, sZc]
        go_upto_region 7 with fail
        go_quiet (fail)
        go_wp2
        go_roundg (n1 - (k + 1))
        case measure => exact Nat.lt_of_lt_of_le (Nat.sub_lt_sub_left hlt (Nat.lt_succ_self k)) hg
        case rel =>
         obtain ⟨qq, hqq⟩ := HW3.out nq
         exact ⟨k + 1, qq, by clear s2; go_num, hlt, Nat.le_refl _, hqq, HK2⟩
      · have s2 : (x.2 == y.2) = false := beq_eq_false_iff_ne.2 e2
        have HE : Hid (F = false) := HNE.out (fun e => e2 (by rw [e]))
        clear e1 e2
        simp only [sZa, sZb, sZc]
        go_upto_region 7 with fail
        go_quiet (fail)
        go_wp2
        go_ret
        exact ⟨by rw [HE.out]; rfl, HW3.out _⟩
    · rw [decide_eq_false e1]
      have HE : Hid (F = false) := HNE.out (fun e => e1 (by rw [e]))
      clear e1
      simp only [sZa, sZb, sZc]
      go_upto_region 7 with fail
      go_quiet (fail)
      go_wp2
      go_ret
      exact ⟨by rw [HE.out]; rfl, HW3.out _⟩
  · have hltz : ¬ (k : Int) < (n1 : Int) := by omega
    have HE : Hid (F = true) := by
     show _ = _
     rw [← HF.out]
     refine decide_eq_true ?_
     have h := HK.out
     rw [List.take_of_length_le (by have := HN.out; omega), List.take_of_length_le (by have := HN.out; omega)] at h
     exact h
    go_wp2
    go_ret
    exact ⟨by rw [HE.out]; rfl, q, HW.out⟩
end Go.Proofs.YtncnefpkfbngaaaGreatDoor

/- The reference's In, Rests, Rises. -/
namespace Go.Proofs.YtncnefpkfbngaaaGreatDoor
open Go.RowKit Nums Fm
set_option maxRecDepth 100000

/-- Rows of rests, in a row that the call has made. -/
structure AllOwn (E B : Nat) (w : World) (v : Value) (Ds : List (List En)) : Prop where
 ex : ∃ xss : List (List Value), GOwn 94 1 B w v xss ∧ xss.length = Ds.length ∧ ∀ (i : Nat) (R : List En), Ds[i]? = some R → ∃ u, xss[i]? = some [u] ∧ RMade E B w u R
theorem AllOwn.nil (E B : Nat) (w : World) : AllOwn E B w (.slice none 0 0) [] := ⟨[], GOwn.nil _ _ _ _, rfl, fun i R hi => by simp at hi⟩
theorem AllOwn.below {E B : Nat} {w w' : World} {v : Value} {Ds : List (List En)} (h : AllOwn E B w v Ds) (hE : E ≤ w.heap.size) (hb : Below w.heap.size w w') : AllOwn E B w' v Ds := by
 obtain ⟨xss, ho, hl, hx⟩ := h
 refine ⟨xss, ho.below hb, hl, fun i R hi => ?_⟩
 obtain ⟨u, h1, h2⟩ := hx i R hi
 exact ⟨u, h1, h2.below hE hb⟩
theorem AllOwn.shape {E B : Nat} {w : World} {v : Value} {Ds : List (List En)} (h : AllOwn E B w v Ds) : ∃ ad cap, v = .slice ad Ds.length cap := by
 obtain ⟨xss, ho, hl, _⟩ := h
 obtain ⟨ad, cap, e, _⟩ := ho.shape
 exact ⟨ad, cap, by rw [e, hl]⟩
theorem AllOwn.at {E B : Nat} {w : World} {ad : Option Addr} {n cap : Nat} {Ds : List (List En)} (h : AllOwn E B w (.slice ad n cap) Ds) (h0 : 0 < n) : ∃ g, ad = some ⟨g, 0, none⟩ ∧ g < w.heap.size ∧ ∀ (i : Nat) (R : List En), Ds[i]? = some R → ∃ u, w.cell? ⟨g, i, none⟩ = some u ∧ RMade E B w u R := by
 obtain ⟨xss, ho, hl, hx⟩ := h
 obtain ⟨ad', cap', e, _⟩ := ho.shape
 simp only [Value.slice.injEq] at e
 obtain ⟨g, cap2, e2, hg, _, _, hc⟩ := ho.cell (by omega)
 simp only [Value.slice.injEq] at e2
 refine ⟨g, e2.1, hg, fun i R hi => ?_⟩
 obtain ⟨u, h1, h2⟩ := hx i R hi
 refine ⟨u, ?_, h2⟩
 have := hc i 0 _ u h1 rfl
 rwa [Nat.mul_one, Nat.add_zero] at this
theorem rtyRR : RTy 94 96 1 24 := ⟨by kernel_rfl, ⟨.slice none 0 0, by kernel_rfl, rfl⟩, by decide, by decide⟩
/-- Rests that are small. -/
def SmallR (R : List En) : Prop := R.length ≤ 1048576 ∧ ∀ e ∈ R, e.1.length ≤ 1048576
def inIx (Ds : List (List En)) (S : List En) : Int := if S ∈ Ds then (Ds.idxOf S : Int) else -1
theorem in_found {Ds : List (List En)} {S : List En} {k : Nat} (h : Ds[k]? = some S) (hn : S ∉ Ds.take k) : inIx Ds S = k := by
 have hm := List.mem_of_getElem? h
 rw [inIx, if_pos hm]
 have hk := (List.getElem?_eq_some_iff.1 h).1
 have e : Ds = Ds.take k ++ S :: Ds.drop (k + 1) := by
  have := List.drop_eq_getElem_cons hk
  rw [(List.getElem?_eq_some_iff.1 h).2] at this
  rw [← this, List.take_append_drop]
 have h2 : Ds.idxOf S = k := by
  rw [e, List.idxOf_append, if_neg hn, List.idxOf_cons_self, List.length_take]
  omega
 rw [h2]
set_option maxHeartbeats 2000000 in
theorem refIn_any (E B E' : Nat) (w : World) (v vl : Value) (Ds : List (List En)) (S : List En) (h : AllOwn E B w v Ds) (hS : RR E' w vl S) (hsm : SmallR S) (hds : ∀ R ∈ Ds, SmallR R) (hdl : Ds.length ≤ 1048576) :
 Calls Tryz.prog 78 #[v, vl] w fun e w' => e = .returned (.int .i64 (inIx Ds S)) ∧ ∃ q, w' = w.drewN q := by
 obtain ⟨ad, cap, rfl⟩ := h.shape
 obtain ⟨la, lc, rfl⟩ := hS.form
 obtain ⟨n, hn⟩ : ∃ n, Ds.length = n := ⟨_, rfl⟩
 obtain ⟨ln, hln⟩ : ∃ ln, S.length = ln := ⟨_, rfl⟩
 have HN : Hid (Ds.length = n) := hn
 rw [hn] at h hdl ⊢
 rw [hln] at hS ⊢
 have HA : Hid (AllOwn E B w (.slice ad n cap) Ds) := h
 have HS : Hid (RR E' w (.slice la ln lc) S) := hS
 have HSM : Hid (SmallR S ∧ ∀ R ∈ Ds, SmallR R) := ⟨hsm, hds⟩
 obtain ⟨F, hF⟩ : ∃ F, inIx Ds S = F := ⟨_, rfl⟩
 have HF : Hid (inIx Ds S = F) := hF
 rw [hF]
 clear h hS hn hln hF hsm hds
 go_enter Tryz.func78, Tryz.ntmps78
 go_wp2
 go_loopg [5, 6] n (fun g s5 _ wr => ∃ (k q : Nat), s5 = .int .i64 k ∧ k ≤ n ∧ n - k ≤ g ∧ Hid (wr = w.drewN q) ∧ Hid (S ∉ Ds.take k))
 case atStart => exact ⟨0, 0, rfl, Nat.zero_le _, by omega, rfl, fun h => by simp at h⟩
 case round =>
  obtain ⟨k, q, rfl, hk, hg, HW, HK⟩ := hrel
  by_cases hlt : k < n
  · have hltz : (k : Int) < (n : Int) := by omega
    obtain ⟨R, hR⟩ : ∃ R, Ds[k]? = some R := ⟨Ds[k]'(by have := HN.out; omega), List.getElem?_eq_getElem _⟩
    obtain ⟨ga, rfl, hga, hx⟩ := HA.out.at (by omega)
    obtain ⟨u, hu, hM⟩ := hx k R hR
    have c0 : wr.cell? ⟨ga, k, none⟩ = some u := by rw [HW.out]; exact hu
    obtain ⟨ud, uc, rfl⟩ := hM.row.form
    obtain ⟨un, hun⟩ : ∃ un, R.length = un := ⟨_, rfl⟩
    have HCALL : Hid (Calls Tryz.prog 99 #[.slice ud R.length uc, .slice la ln lc] wr fun e w' => e = .returned (.bool (decide (R = S))) ∧ ∃ q, w' = w.drewN q) := by
     show Calls _ _ _ _ _
     rw [HW.out]
     have r1 : RR E (w.drewN q) (.slice ud R.length uc) R := by
      obtain ⟨ad, cap, e, hc⟩ := hM.row
      refine ⟨ad, cap, e, fun h0 => ?_⟩
      obtain ⟨g, off, h1, h2, h3⟩ := hc h0
      exact ⟨g, off, h1, h2, fun i e hi => by obtain ⟨u, ⟨a, b, c⟩, d⟩ := h3 i e hi; exact ⟨u, ⟨a, b, c.below (belowN (Below.refl E w) q)⟩, d⟩⟩
     have r2 : RR E' (w.drewN q) (.slice la ln lc) S := by
      obtain ⟨ad, cap, e, hc⟩ := HS.out
      refine ⟨ad, cap, e, fun h0 => ?_⟩
      obtain ⟨g, off, h1, h2, h3⟩ := hc h0
      exact ⟨g, off, h1, h2, fun i e hi => by obtain ⟨u, ⟨a, b, c⟩, d⟩ := h3 i e hi; exact ⟨u, ⟨a, b, c.below (belowN (Below.refl E' w) q)⟩, d⟩⟩
     have hsr := HSM.out.2 R (List.mem_of_getElem? hR)
     refine (refsame_any E E' (w.drewN q) _ _ R S r1 r2 hsr.1 HSM.out.1.1 hsr.2 HSM.out.1.2).mono ?_
     rintro e w' ⟨h1, m, h2⟩
     exact ⟨h1, _, by rw [h2]; exact World.drewN_drewN ..⟩
    have HYES : Hid (R = S → F = (k : Int)) := fun e => by rw [← HF.out]; exact in_found (by rw [hR, e]) HK.out
    have HNO : Hid (R ≠ S → S ∉ Ds.take (k + 1)) := fun e hm => by
     rw [List.take_add_one, hR] at hm
     rcases List.mem_append.1 hm with hm | hm
     · exact HK.out hm
     · simp at hm; exact e hm.symm
    rw [hun] at c0 HCALL
    clear hx hR hu hM hun
    by_cases hRS : R = S
    · have HE : Hid (F = (k : Int)) := HYES.out hRS
      rw [decide_eq_true hRS] at HCALL
      clear hRS
      go_wp2_with (go_at_call 99; refine HCALL.out.mono ?_; rintro e w3 ⟨rfl, hw3⟩; have HW3 : Hid _ := hw3; clear hw3)
      go_ret
      exact ⟨by rw [HE.out]; rfl, HW3.out⟩
    · have HNO2 : Hid (S ∉ Ds.take (k + 1)) := HNO.out hRS
      rw [decide_eq_false hRS] at HCALL
      clear hRS
      go_wp2_with (go_at_call 99; refine HCALL.out.mono ?_; rintro e w3 ⟨rfl, hw3⟩; have HW3 : Hid _ := hw3; clear hw3)
      go_roundg (n - (k + 1))
      case measure => omega
      case rel =>
       obtain ⟨qq, hqq⟩ := HW3.out
       exact ⟨k + 1, qq, by go_num, by omega, Nat.le_refl _, hqq, HNO2⟩
  · have hltz : ¬ (k : Int) < (n : Int) := by omega
    have HE : Hid (F = -1) := by
     show _ = _
     rw [← HF.out]
     have h := HK.out
     rw [List.take_of_length_le (by have := HN.out; omega)] at h
     rw [inIx, if_neg h]
    go_wp2
    go_ret
    exact ⟨by rw [HE.out]; rfl, q, HW.out⟩
/-- Rests that are being made of words. -/
structure RstsAt (B : Nat) (w : World) (v : Value) (es : List En) : Prop where
 ex : ∃ xss : List (List Value), GOwn 135 2 B w v xss ∧ xss.length = es.length ∧ ∀ (i : Nat) (e : En), es[i]? = some e → ∃ u, xss[i]? = some [u, .int .i64 e.2] ∧ Made B w u e.1
theorem Made.cap {B : Nat} {w : World} {v : Value} {xs : List Int} (h : Made B w v xs) : CapOk v := by
 obtain ⟨_, ⟨e, _⟩ | ⟨g, cap, cur, rfl, _, _, h3, _⟩⟩ := h
 · rw [e]; exact Nat.le_refl _
 · exact h3
theorem RstsAt.row {B : Nat} {w : World} {v : Value} {es : List En} (h : RstsAt B w v es) : RR w.heap.size w v es := by
 obtain ⟨xss, ho, hl, hx⟩ := h
 by_cases h0 : 0 < xss.length
 · obtain ⟨g, cap, rfl, hg, _, _, hcell⟩ := ho.cell h0
   refine ⟨_, cap, by rw [hl], fun _ => ⟨g, 0, rfl, hg, fun i e hi => ?_⟩⟩
   obtain ⟨u, hu, hm⟩ := hx i e hi
   exact ⟨u, ⟨by rw [Nat.zero_add]; exact hcell i 0 _ u hu rfl, by rw [Nat.zero_add]; exact hcell i 1 _ _ hu rfl, hm.runes⟩, hm.cap⟩
 · obtain ⟨ad, cap, rfl, _⟩ := ho.shape
   exact ⟨ad, cap, by rw [hl], fun h => absurd h (by omega)⟩
set_option maxHeartbeats 1000000 in
theorem refRests_any (w : World) (v : Value) (l : List Pr) (h : PRow w v l) (hl : l.length ≤ 4096) (hwd : Wd l) :
 Calls Tryz.prog 48 #[v] w fun e w' => ∃ v', e = .returned v' ∧ RR w'.heap.size w' v' (ents l) ∧ Below w.heap.size w w' := by
 obtain ⟨ad, cap, rfl⟩ := h.form
 have HR : Hid (PRow w (.slice ad l.length cap) l) := h
 obtain ⟨n, hn⟩ : ∃ n, l.length = n := ⟨_, rfl⟩
 have HN : Hid (l.length = n) := hn
 have HS : Hid (Wd l) := hwd
 rw [hn] at HR hl
 clear h hwd
 rw [hn]
 clear hn
 go_enter Tryz.func48, Tryz.ntmps48
 go_wp2
 go_loopg [3, 4, 5, 6] n (fun g s3 s4 _ _ wr => ∃ (k : Nat), s4 = .int .i64 k ∧ k ≤ n ∧ n - k ≤ g ∧ Hid (Below w.heap.size w wr) ∧ Hid (RstsAt w.heap.size wr s3 (ents (l.take k))))
 case atStart => exact ⟨0, rfl, Nat.zero_le _, by omega, Below.refl _ _, ⟨[], GOwn.nil _ _ _ _, rfl, fun i e hi => by simp [ents] at hi⟩⟩
 case round =>
  obtain ⟨k, rfl, hk, hg, HB, HK⟩ := hrel
  by_cases hlt : k < n
  · have hltz : (k : Int) < (n : Int) := by omega
    obtain ⟨x, hx⟩ : ∃ x, l[k]? = some x := ⟨l[k]'(by have := HN.out; omega), List.getElem?_eq_getElem _⟩
    obtain ⟨b, off, rfl, hb, hcell⟩ := (HR.out.below HB.out).at (by omega)
    obtain ⟨c0, c1⟩ := hcell k x hx
    obtain ⟨xs, hxs, hx24, hx96⟩ := HS.out x (List.mem_of_getElem? hx)
    have HE : Hid (ents (l.take (k + 1)) = ents (l.take k) ++ [(xs, x.2)]) := by show _ = _; rw [ents_snoc hx, entOf, hxs]; rfl
    have HRN : Hid (Calls Tryz.prog 43 #[.string x.1] wr fun e w' => ∃ v, Below wr.heap.size wr w' ∧ e = .returned (.tuple #[v, .bool true]) ∧ Made wr.heap.size w' v xs) := by
     refine (RefRunes_any x.1 wr (by omega) (room_of_runes hxs (by omega))).mono ?_
     rintro e w' ⟨v, hb, ⟨h1, _⟩ | ⟨ys, h1, h2, h3⟩⟩
     · rw [hxs] at h1; cases h1
     · rw [hxs] at h1; cases h1; exact ⟨v, hb, h2, h3⟩
    have HC1 : Hid (wr.cell? ⟨b, off + k * 2 + 1, none⟩ = some (.int .i64 x.2) ∧ b < wr.heap.size) := ⟨c1, hb⟩
    clear hcell hx hxs
    go_upto_region 6 with (go_at_call 43; refine HRN.out.mono ?_; rintro e w2 ⟨v6, hb2, rfl, hm6⟩)
    obtain ⟨xss, ho, hxl, hxe⟩ := HK.out.ex
    have c21 : w2.cell? ⟨b, off + k * 2 + 1, none⟩ = some (.int .i64 x.2) := (hb2.cell (p := ⟨b, off + k * 2 + 1, none⟩) HC1.out.2).trans HC1.out.1
    have ho2 : GOwn 135 2 w.heap.size w2 u3 xss := ho.below hb2
    have hsz : w.heap.size ≤ wr.heap.size := HB.out.size
    have HO2 : Hid (GOwn 135 2 w.heap.size w2 u3 xss) := ho2
    have HM : Hid (∀ (i : Nat) (e : En), (ents (l.take k))[i]? = some e → ∃ u, xss[i]? = some [u, .int .i64 e.2] ∧ Made w.heap.size w2 u e.1) := fun i e hi => by
     obtain ⟨u, h1, h2⟩ := hxe i e hi
     exact ⟨u, h1, h2.below hb2⟩
    have HM6 : Hid (Made w.heap.size w2 v6 xs) := by
     obtain ⟨hl, hn | ⟨g, cap, cur, rfl, h1, h2⟩⟩ := hm6
     · exact ⟨hl, .inl hn⟩
     · exact ⟨hl, .inr ⟨g, cap, cur, rfl, by omega, h2⟩⟩
    obtain ⟨ra, rc, rfl⟩ := hm6.shape
    have HB2 : Hid (Below w.heap.size w w2) := HB.out.trans (hb2.mono HB.out.size)
    have HL : Hid (xss.length = k) := by show _ = _; rw [hxl, ents_len, List.length_take]; have := HN.out; omega
    clear ho ho2 hxe hxl hm6 hb2 c0 c1
    go_wp2_with (at_builtin; refine append_g rtyR (by rfl) _ _ [.slice ra xs.length rc, .int .i64 x.2] _ rfl w.heap.size _ _ _ _ rfl HO2.out rfl rfl ⟨rfl, by simp [Value.oneCell']⟩ (by have := HL.out; omega) HB2.out.size ?_)
    intro v7 w7 ho7 hb7 hg7
    have HB7 : Hid (Below w.heap.size w w7) := HB2.out.trans hb7
    have HK7 : Hid (RstsAt w.heap.size w7 v7 (ents (l.take (k + 1)))) := by
     show RstsAt _ _ _ _
     have hA2 : Below w2.heap.size w2 (w2.alloc (.cells [.slice ra xs.length rc, .int .i64 x.2].toArray 135)) := (Below.refl _ w2).alloc (Nat.le_refl _) _
     have hk7 : ∀ {u : Value} {ys : List Int}, Made w.heap.size w2 u ys → Made w.heap.size w7 u ys := fun h => (h.below hA2).kept (HO2.out.below hA2) (by decide) hg7
     rw [HE.out]
     refine ⟨xss ++ [[.slice ra xs.length rc, .int .i64 x.2]], ho7, by simp [HL.out, ents_len]; have := HN.out; omega, fun i e hi => ?_⟩
     have hlen : (ents (l.take k)).length = xss.length := by rw [ents_len, HL.out, List.length_take]; have := HN.out; omega
     by_cases hik : i < xss.length
     · rw [List.getElem?_append_left (by omega)] at hi ⊢
       obtain ⟨u, h1, h2⟩ := HM.out i e hi
       exact ⟨u, h1, hk7 h2⟩
     · rw [List.getElem?_append_right (by omega)] at hi ⊢
       rw [hlen] at hi
       cases hi0 : i - xss.length with
       | zero =>
        rw [hi0] at hi
        simp only [List.getElem?_cons_zero, Option.some.injEq] at hi
        subst hi
        exact ⟨_, rfl, hk7 HM6.out⟩
       | succ m => rw [hi0] at hi; simp at hi
    clear ho7 hb7 hg7 HM HM6 HO2
    go_wp2_with fail
    go_roundg (n - (k + 1))
    case measure => omega
    case rel => exact ⟨k + 1, by go_num, by omega, Nat.le_refl _, HB7, HK7⟩
  · have hltz : ¬ (k : Int) < (n : Int) := by omega
    have HE : Hid (l.take k = l) := List.take_of_length_le (by have := HN.out; omega)
    go_wp2
    go_ret
    exact ⟨_, rfl, by have := HK.out.row; rwa [HE.out] at this, HB.out⟩
end Go.Proofs.YtncnefpkfbngaaaGreatDoor

/- The reference's Rises, walked. -/
namespace Go.Proofs.YtncnefpkfbngaaaGreatDoor
open Go.RowKit Nums Fm
set_option maxRecDepth 100000

theorem RMade.mono {E B B' : Nat} {w : World} {v : Value} {S : List En} (h : RMade E B w v S) (hB : B' ≤ B) : RMade E B' w v S := by
 obtain ⟨xss, ho, hl, hx⟩ := h
 exact ⟨xss, ho.mono hB, hl, hx⟩
theorem RMade.kept {E B B' k : Nat} {T : TypeId} {w w' : World} {v u : Value} {S : List En} {yss : List (List Value)} (h : RMade E B w v S) (ho' : GOwn T k B' w u yss) (hT : T ≠ 135) (hg : w.grownBy w' u.ownBlock) (hb : Below E w w') : RMade E B w' v S := by
 obtain ⟨xss, ho, hl, hx⟩ := h
 refine ⟨xss, ho.same fun g hgv => ?_, hl, fun i e hi => ?_⟩
 · obtain ⟨_, cur, hc⟩ := ho.block hgv
   refine hg.block g (ho.lt hgv) fun e => ?_
   obtain ⟨_, cur', hc'⟩ := ho'.block e.symm
   rw [hc] at hc'
   simp only [Option.some.injEq, Obj.cells.injEq] at hc'
   exact hT hc'.2.1.symm
 · obtain ⟨y, h1, h2, h3⟩ := hx i e hi
   exact ⟨y, h1, h2.below hb, h3⟩
/-- Rests that lie below E, or that were made. -/
def RRb (E : Nat) (w : World) (v : Value) (S : List En) : Prop :=
 ∃ ad cap, v = .slice ad S.length cap ∧ (0 < S.length → ∃ g off, ad = some ⟨g, off, none⟩ ∧ g < E ∧ ∀ i e, S[i]? = some e → ∃ u, EntAt E w g (off + i * 2) u e ∧ CapOk u)
structure Und (E : Nat) (w : World) (v : Value) (S : List En) : Prop where
 or : RRb E w v S ∨ RMade E E w v S
theorem RRb.belowE {E : Nat} {w w' : World} {v : Value} {S : List En} (h : RRb E w v S) (hb : Below E w w') : RRb E w' v S := by
 obtain ⟨ad, cap, rfl, hc⟩ := h
 refine ⟨ad, cap, rfl, fun h0 => ?_⟩
 obtain ⟨g, off, rfl, hg, hx⟩ := hc h0
 refine ⟨g, off, rfl, hg, fun i e hi => ?_⟩
 obtain ⟨u, ⟨c0, c1, hr⟩, hk⟩ := hx i e hi
 exact ⟨u, ⟨(hb.cell (p := ⟨g, off + i * 2, none⟩) hg).trans c0, (hb.cell (p := ⟨g, off + i * 2 + 1, none⟩) hg).trans c1, hr.below hb⟩, hk⟩
theorem Und.row {E : Nat} {w : World} {v : Value} {S : List En} (h : Und E w v S) (hE : E ≤ w.heap.size) : RR E w v S := by
 rcases h.or with h | h
 · obtain ⟨ad, cap, rfl, hc⟩ := h
   refine ⟨ad, cap, rfl, fun h0 => ?_⟩
   obtain ⟨g, off, e, hg, hx⟩ := hc h0
   exact ⟨g, off, e, by omega, hx⟩
 · exact h.row
theorem Und.below {E : Nat} {w w' : World} {v : Value} {S : List En} (h : Und E w v S) (hE : E ≤ w.heap.size) (hb : Below w.heap.size w w') : Und E w' v S := by
 rcases h.or with h | h
 · exact ⟨.inl (h.belowE (hb.mono hE))⟩
 · exact ⟨.inr (h.below hE hb)⟩
theorem Und.kept {E B' k : Nat} {T : TypeId} {w w' : World} {v u : Value} {S : List En} {yss : List (List Value)} (h : Und E w v S) (ho' : GOwn T k B' w u yss) (hT : T ≠ 135) (hg : w.grownBy w' u.ownBlock) (hb : Below E w w') : Und E w' v S := by
 rcases h.or with h | h
 · exact ⟨.inl (h.belowE hb)⟩
 · exact ⟨.inr (h.kept ho' hT hg hb)⟩
end Go.Proofs.YtncnefpkfbngaaaGreatDoor

/- The reference's firsts. -/
namespace Go.Proofs.YtncnefpkfbngaaaGreatDoor
open Go.RowKit Nums Fm
set_option maxRecDepth 100000

namespace Fm
/-- First runes, one more. -/
def fstStep (acc : List Int) (e : En) : List Int := match e.1 with
 | [] => acc
 | c :: _ => if acc.getLast? = some c then acc else acc ++ [c]
def fsts (l : List En) : List Int := l.foldl fstStep []
theorem fsts_snoc {l : List En} {k : Nat} {e : En} (h : l[k]? = some e) : fsts (l.take (k + 1)) = fstStep (fsts (l.take k)) e := by
 rw [List.take_add_one, h]
 show fsts (l.take k ++ [e]) = _
 unfold fsts
 rw [List.foldl_append]
 rfl
theorem fstStep_len (acc : List Int) (e : En) : (fstStep acc e).length ≤ acc.length + 1 := by
 unfold fstStep
 split
 · omega
 · split <;> simp
theorem fstF_len : ∀ (l : List En) (acc : List Int), (l.foldl fstStep acc).length ≤ acc.length + l.length
 | [], _ => Nat.le_refl _
 | e :: r, acc => by
  have h1 := fstF_len r (fstStep acc e)
  have h2 := fstStep_len acc e
  simp only [List.foldl_cons, List.length_cons]
  omega
theorem fsts_len (l : List En) : (fsts l).length ≤ l.length := by have := fstF_len l []; simpa [fsts] using this
def fstMore (acc cs : List Int) : List Int := match cs with
 | [] => []
 | c :: r => if acc.getLast? = some c then r else c :: r
theorem fst_grp : ∀ (l : List En) (acc : List Int), (∀ e ∈ l, e.1 ≠ []) → l.foldl fstStep acc = acc ++ fstMore acc ((grp l).map (·.1))
 | [], acc, _ => by simp [grp, fstMore]
 | e :: r, acc, h => by
  obtain ⟨x, n⟩ := e
  cases x with
  | nil => exact absurd rfl (h ([], n) (by simp))
  | cons c t =>
   have ih := fst_grp r (fstStep acc (c :: t, n)) (fun e he => h e (by simp [he]))
   rw [List.foldl_cons, ih]
   have hst : fstStep acc (c :: t, n) = if acc.getLast? = some c then acc else acc ++ [c] := rfl
   have hlast : (fstStep acc (c :: t, n)).getLast? = some c := by
    rw [hst]
    split
    · assumption
    · simp
   have hhd : hd (c :: t, n) = c := rfl
   rw [grp]
   cases hg : grp r with
   | nil =>
    simp only [List.map_nil, List.map_cons, fstMore, hhd, hst]
    split <;> simp
   | cons p gs =>
    obtain ⟨c', G⟩ := p
    simp only [hhd, List.map_cons, fstMore, hlast]
    by_cases hc : c = c'
    · subst hc
      simp only [if_true, List.map_cons, hst]
      split <;> simp
    · have hc2 : ¬ some c = some c' := fun e => hc (Option.some.inj e)
      simp only [if_neg hc, if_neg hc2, List.map_cons, hst]
      split <;> simp
theorem fsts_grp {S : List En} (h : Rise S) : fsts S = (grp (restOf S)).map (·.1) := by
 obtain ⟨_, h2⟩ := rise_rest h
 have h3 : fsts S = (restOf S).foldl fstStep [] := by
  cases S with
  | nil => rfl
  | cons e r =>
   obtain ⟨x, n⟩ := e
   cases x with
   | nil => rfl
   | cons c t => rfl
 rw [h3, fst_grp _ _ h2, List.nil_append]
 cases (grp (restOf S)).map (·.1) with
 | nil => rfl
 | cons c r => simp [fstMore]
end Fm
def cellI (c : Int) : List Value := [.int .i32 c]
def IOwn (B : Nat) (w : World) (v : Value) (xs : List Int) : Prop := GOwn 21 1 B w v (xs.map cellI)
theorem rtyI : RTy 21 73 1 4 := ⟨by kernel_rfl, ⟨.int .i32 0, by kernel_rfl, rfl⟩, by decide, by decide⟩
theorem IOwn.last {B : Nat} {w : World} {ad : Option Addr} {n cap : Nat} {xs : List Int} (h : IOwn B w (.slice ad n cap) xs) (h0 : 0 < n) : ∃ g, ad = some ⟨g, 0, none⟩ ∧ n = xs.length ∧ ∃ d, xs.getLast? = some d ∧ w.cell? ⟨g, n - 1, none⟩ = some (.int .i32 d) := by
 obtain ⟨a', c', e, _⟩ := GOwn.shape h
 simp only [List.length_map, Value.slice.injEq] at e
 obtain ⟨e1, e2, e3⟩ := e
 subst e2
 obtain ⟨g, cp, e, _, _, _, hc⟩ := GOwn.cell h (by rw [List.length_map]; exact h0)
 simp only [List.length_map, Value.slice.injEq] at e
 obtain ⟨d, hd⟩ : ∃ d, xs[xs.length - 1]? = some d := ⟨xs[xs.length - 1]'(by omega), List.getElem?_eq_getElem _⟩
 refine ⟨g, e.1, rfl, d, by rw [List.getLast?_eq_getElem?]; exact hd, ?_⟩
 have := hc (xs.length - 1) 0 (cellI d) (.int .i32 d) (by rw [List.getElem?_map, hd]; rfl) rfl
 simpa using this
set_option maxHeartbeats 2000000 in
theorem refFirsts_any (E : Nat) (w : World) (v : Value) (l : List En) (h : RR E w v l) (hl : l.length ≤ 1048576) :
 Calls Tryz.prog 79 #[v] w fun e w' => ∃ v', e = .returned v' ∧ IOwn w.heap.size w' v' (fsts l) ∧ Below w.heap.size w w' := by
 obtain ⟨ad, cap, rfl⟩ := h.form
 obtain ⟨n, hn⟩ : ∃ n, l.length = n := ⟨_, rfl⟩
 have HN : Hid (l.length = n) := hn
 rw [hn] at h hl ⊢
 have HR : Hid (RR E w (.slice ad n cap) l) := h
 clear h hn
 go_enter Tryz.func79, Tryz.ntmps79
 go_wp2
 go_loopg [3, 4] n (fun gm s5 s6 wr => ∃ (k : Nat), s6 = .int .i64 k ∧ k ≤ n ∧ n - k ≤ gm ∧ Hid (IOwn w.heap.size wr s5 (fsts (l.take k))) ∧ Hid (Below w.heap.size w wr))
 case atStart => exact ⟨0, rfl, Nat.zero_le _, by omega, GOwn.nil _ _ _ _, Below.refl _ _⟩
 case round =>
  obtain ⟨k, rfl, hk, hgm, HM, HB⟩ := hrel
  obtain ⟨sd, no, sc, hsv⟩ : ∃ sd no sc, u3 = .slice sd no sc := by
   obtain ⟨sd, sc, hsv, _⟩ := GOwn.shape HM.out
   exact ⟨sd, _, sc, hsv⟩
  subst hsv
  by_cases hlt : k < n
  · have hltz : (k : Int) < (n : Int) := by omega
    obtain ⟨x, hxk⟩ : ∃ x, l[k]? = some x := ⟨l[k]'(by have := HN.out; omega), List.getElem?_eq_getElem _⟩
    obtain ⟨g, off, rfl, hg, hx⟩ := HR.out.at (by omega)
    obtain ⟨u, ⟨c0, c1, hr⟩, hck⟩ := hx k x hxk
    obtain ⟨ra, rc, hu, _⟩ := id hr
    obtain ⟨rn, hrn⟩ : ∃ rn, x.1.length = rn := ⟨_, rfl⟩
    rw [hrn] at hu
    subst hu
    have c0r : wr.cell? ⟨g, off + k * 2, none⟩ = some (.slice ra rn rc) := (HB.out.cell (p := ⟨g, off + k * 2, none⟩) hg).trans c0
    have hAF := fsts_snoc hxk
    by_cases hr0 : 0 < rn
    · have hr0z : (0 : Int) < (rn : Int) := by omega
      obtain ⟨gr, o, rfl, hz, hd⟩ := hr.get (k := 0) (by omega)
      clear hz
      obtain ⟨ch, hch⟩ : ∃ ch, x.1.headD 0 = ch := ⟨_, rfl⟩
      rw [Nat.add_zero, List.drop_zero, hch] at hd
      have hgr : gr < w.heap.size := lt_of_cell hd
      have d0 : wr.cell? ⟨gr, o, none⟩ = some (.int .i32 ch) := (HB.out.cell (p := ⟨gr, o, none⟩) hgr).trans hd
      have hAF2 : fsts (l.take (k + 1)) = if (fsts (l.take k)).getLast? = some ch then fsts (l.take k) else fsts (l.take k) ++ [ch] := by
       rw [hAF, fstStep]
       cases hx1 : x.1 with
       | nil => rw [hx1] at hrn; simp at hrn; omega
       | cons a t => rw [hx1] at hch; simp only [List.headD_cons] at hch; rw [hch]
      have HNO : Hid (no = (fsts (l.take k)).length) := by
       obtain ⟨_, _, e, _⟩ := GOwn.shape HM.out
       simp only [List.length_map, Value.slice.injEq] at e
       exact e.2.1
      clear hAF
      by_cases hno : 0 < no
      · obtain ⟨gl, rfl, hzz, d, hd1, hd2⟩ := IOwn.last HM.out hno
        clear hzz
        obtain ⟨m, hm⟩ : ∃ m, m = no - 1 := ⟨_, rfl⟩
        have hnom : no ≤ 1048576 := by
         have h1 := HNO.out
         have h2 := fsts_len (l.take k)
         rw [List.length_take] at h2
         omega
        have hwr : IntKind.i64.wrap ((no : Int) - 1) = (m : Int) := by simp [IntKind.wrap, IntKind.bits, IntKind.signed]; omega
        have hmz : (m : Int) < (no : Int) := by omega
        rw [← hm] at hd2
        clear hm hnom
        have hnoz : ((no : Int) == 0) = false := beq_eq_false_iff_ne.2 (by omega)
        by_cases hdc : d = ch
        · have hdb : (d == ch) = true := beq_iff_eq.2 hdc
          rw [hd1, hdc, if_pos rfl] at hAF2
          have HM2 : Hid (IOwn w.heap.size wr (.slice (some ⟨gl, 0, none⟩) no sc) (fsts (l.take (k + 1)))) := by show IOwn _ _ _ _; rw [hAF2]; exact HM.out
          clear hAF2 hx hr hrn hck c0 c1 hxk hd hd1 hch hdc
          go_upto_region 5 with fail
          go_quiet (fail)
          go_wp2
          go_roundg (n - (k + 1))
          case measure => omega
          case rel => exact ⟨k + 1, by go_num, by omega, Nat.le_refl _, GOwn.below HM2.out (belowN (Below.refl _ wr) _), HB.out.trans ((belowN (Below.refl _ wr) _).mono HB.out.size)⟩
        · have hdb : (d == ch) = false := beq_eq_false_iff_ne.2 hdc
          rw [hd1, if_neg (fun e => hdc (Option.some.inj e))] at hAF2
          have HAF : Hid (fsts (l.take (k + 1)) = fsts (l.take k) ++ [ch]) := hAF2
          clear hAF2 hx hr hrn hck c0 c1 hxk hd hd1 hch hdc
          go_upto_region 5 with fail
          go_quiet (fail)
          go_upto_region 6 with fail
          clear hd2
          obtain ⟨wz, hwz⟩ : ∃ wz, wz = wr.drewN nq := ⟨_, rfl⟩
          rw [← hwz]
          have hbz : Below wr.heap.size wr wz := by rw [hwz]; exact belowN (Below.refl _ wr) nq
          have cz : wz.cell? ⟨g, off + k * 2, none⟩ = some (.slice (some ⟨gr, o, none⟩) rn rc) := by rw [hwz]; exact c0r
          have dz : wz.cell? ⟨gr, o, none⟩ = some (.int .i32 ch) := by rw [hwz]; exact d0
          have HBZ : Hid (Below w.heap.size w wz) := HB.out.trans (hbz.mono HB.out.size)
          have HO : Hid (GOwn 21 1 w.heap.size wz _ ((fsts (l.take k)).map cellI)) := GOwn.below HM.out hbz
          have HLN : Hid (((fsts (l.take k)).map cellI).length < 1099511627776) := by
           have := fsts_len (l.take k)
           show _ < _
           rw [List.length_map]
           rw [List.length_take] at this
           omega
          clear hwz c0r d0 hbz
          go_wp2_with (at_builtin; refine append_g rtyI (by rfl) _ _ [.int .i32 ch] _ rfl w.heap.size _ _ _ _ rfl HO.out rfl rfl ⟨rfl, by simp [Value.oneCell']⟩ HLN.out HBZ.out.size ?_)
          intro v7 w7 ho7 hb7 hg7
          have HB7 : Hid (Below w.heap.size w w7) := HBZ.out.trans hb7
          have HM7 : Hid (IOwn w.heap.size w7 v7 (fsts (l.take (k + 1)))) := by
           show IOwn _ _ _ _
           rw [HAF.out]
           show GOwn _ _ _ _ _ _
           rw [List.map_append]
           exact ho7
          clear ho7 hb7 hg7 cz dz
          go_wp2
          go_roundg (n - (k + 1))
          case measure => omega
          case rel => exact ⟨k + 1, by go_num, by omega, Nat.le_refl _, HM7, HB7⟩
      · have hno0 : no = 0 := by omega
        subst hno0
        have hnoz : (((0 : Nat) : Int) == 0) = true := rfl
        have hl0 : (fsts (l.take k)).getLast? = none := by rw [List.getLast?_eq_none_iff]; exact List.eq_nil_of_length_eq_zero HNO.out.symm
        rw [hl0, if_neg (by simp)] at hAF2
        have HAF : Hid (fsts (l.take (k + 1)) = fsts (l.take k) ++ [ch]) := hAF2
        clear hAF2 hx hr hrn hck c0 c1 hxk hd hch hl0 hno
        go_upto_region 5 with fail
        go_quiet (fail)
        go_upto_region 6 with fail
        obtain ⟨wz, hwz⟩ : ∃ wz, wz = wr.drewN nq := ⟨_, rfl⟩
        rw [← hwz]
        have hbz : Below wr.heap.size wr wz := by rw [hwz]; exact belowN (Below.refl _ wr) nq
        have cz : wz.cell? ⟨g, off + k * 2, none⟩ = some (.slice (some ⟨gr, o, none⟩) rn rc) := by rw [hwz]; exact c0r
        have dz : wz.cell? ⟨gr, o, none⟩ = some (.int .i32 ch) := by rw [hwz]; exact d0
        have HBZ : Hid (Below w.heap.size w wz) := HB.out.trans (hbz.mono HB.out.size)
        have HO : Hid (GOwn 21 1 w.heap.size wz _ ((fsts (l.take k)).map cellI)) := GOwn.below HM.out hbz
        have HLN : Hid (((fsts (l.take k)).map cellI).length < 1099511627776) := by
         have := fsts_len (l.take k)
         show _ < _
         rw [List.length_map]
         rw [List.length_take] at this
         omega
        clear hwz c0r d0 hbz
        go_wp2_with (at_builtin; refine append_g rtyI (by rfl) _ _ [.int .i32 ch] _ rfl w.heap.size _ _ _ _ rfl HO.out rfl rfl ⟨rfl, by simp [Value.oneCell']⟩ HLN.out HBZ.out.size ?_)
        intro v7 w7 ho7 hb7 hg7
        have HB7 : Hid (Below w.heap.size w w7) := HBZ.out.trans hb7
        have HM7 : Hid (IOwn w.heap.size w7 v7 (fsts (l.take (k + 1)))) := by
         show IOwn _ _ _ _
         rw [HAF.out]
         show GOwn _ _ _ _ _ _
         rw [List.map_append]
         exact ho7
        clear ho7 hb7 hg7 cz dz
        go_wp2
        go_roundg (n - (k + 1))
        case measure => omega
        case rel => exact ⟨k + 1, by go_num, by omega, Nat.le_refl _, HM7, HB7⟩
    · have hr0z : ¬ (0 : Int) < (rn : Int) := by omega
      have hx1 : x.1 = [] := List.eq_nil_of_length_eq_zero (by omega)
      rw [fstStep, hx1] at hAF
      have HM2 : Hid (IOwn w.heap.size wr (.slice sd no sc) (fsts (l.take (k + 1)))) := by show IOwn _ _ _ _; rw [hAF]; exact HM.out
      clear hAF hx hr hrn hck c0 c1 hxk hx1
      go_upto_region 5 with fail
      go_quiet (fail)
      go_wp2
      go_roundg (n - (k + 1))
      case measure => omega
      case rel => exact ⟨k + 1, by go_num, by omega, Nat.le_refl _, GOwn.below HM2.out (belowN (Below.refl _ wr) _), HB.out.trans ((belowN (Below.refl _ wr) _).mono HB.out.size)⟩
  · have hltz : ¬ (k : Int) < (n : Int) := by omega
    have HE : Hid (l.take k = l) := List.take_of_length_le (by have := HN.out; omega)
    go_wp2
    go_ret
    exact ⟨_, rfl, by have := HM.out; rwa [HE.out] at this, HB.out⟩
end Go.Proofs.YtncnefpkfbngaaaGreatDoor
