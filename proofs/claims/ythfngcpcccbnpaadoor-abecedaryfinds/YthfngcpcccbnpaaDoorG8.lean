/- Texts that were written apart, joined. -/
import Derived.Test.YthfngcpcccbnpaaDoorGh
import Derived.Test.YthfngcpcccbnpaaDoorG7
import Derived.Deep.RegionHeld3
import Derived.Deep.DrawnRows
import Derived.Deep.QuietTactic
import Derived.BigQuiet
import Derived.Test.YthfngcpcccbnpaaDoorJ7
import Derived.Test.YthfngcpcccbnpaaDoorGd
/- What the reference reckons, in plain numbers. No program is named here. -/
namespace Go.Proofs.YthfngcpcccbnpaaDoor.Nums

/-- The number that so many bytes would say. -/
def sd (l : List UInt8) (n : Nat) : Int :=
  if n = 1 then bt l 0 else if n = 2 then bt l 0 % 32 * 64 + bt l 1 % 64
  else if n = 3 then (bt l 0 % 16 * 64 + bt l 1 % 64) * 64 + bt l 2 % 64
  else ((bt l 0 % 8 * 64 + bt l 1 % 64) * 64 + bt l 2 % 64) * 64 + bt l 3 % 64
theorem sd1 (l : List UInt8) : sd l 1 = bt l 0 := rfl
theorem sd2 (l : List UInt8) : sd l 2 = bt l 0 % 32 * 64 + bt l 1 % 64 := rfl
theorem sd3 (l : List UInt8) : sd l 3 = (bt l 0 % 16 * 64 + bt l 1 % 64) * 64 + bt l 2 % 64 := rfl
theorem sd4 (l : List UInt8) : sd l 4 = ((bt l 0 % 8 * 64 + bt l 1 % 64) * 64 + bt l 2 % 64) * 64 + bt l 3 % 64 := rfl

theorem rd_zero {l : List UInt8} (h : (rd l).2 = 0) : rd l = (0, 0) := by
  revert h
  unfold rd
  by_cases c1 : bt l 0 < 128
  · rw [if_pos c1]; intro h; cases h
  rw [if_neg c1]
  split
  · intro h; cases h
  split
  · intro h; cases h
  split
  · intro h; cases h
  intro _; rfl
theorem rd_said {l : List UInt8} (h : (rd l).2 ≠ 0) : (rd l).1 = sd l (rd l).2 := by
  have c0 := bt_bd l 0
  revert h
  unfold rd
  by_cases c1 : bt l 0 < 128
  · rw [if_pos c1]; intro _; exact (sd1 l).symm
  rw [if_neg c1]
  split
  · rename_i c; intro _
    show acc 192 l 2 = sd l 2
    rw [acc2, sd2]; omega
  split
  · rename_i c; intro _
    show acc 224 l 3 = sd l 3
    rw [acc3, sd3]; omega
  split
  · rename_i c; intro _
    show acc 240 l 4 = sd l 4
    rw [acc4, sd4]; omega
  intro h; exact absurd rfl h

/-- The reference's test at n holds just where 'rd' tells n bytes. -/
theorem first_yes {l : List UInt8} {n : Nat} (hn : n ≤ l.length) (hr : isR (sd l n) = true) (hw : wr (sd l n) = l.take n) : rd l = (sd l n, n) := by
  have h := rd_wr hr (l.drop n)
  rw [hw, List.take_append_drop] at h
  rw [h]
  have : (wr (sd l n)).length = (l.take n).length := by rw [hw]
  rw [wr_len, List.length_take] at this
  rw [this, Nat.min_eq_left hn]
theorem first_no {l : List UInt8} (hl : l ≠ []) {n : Nat} (h1 : 1 ≤ n) (h : ¬ (isR (sd l n) = true ∧ wr (sd l n) = l.take n)) : (rd l).2 ≠ n := by
  intro e
  have h0 : (rd l).2 ≠ 0 := by omega
  have hs := rd_said h0
  rw [e] at hs
  obtain ⟨hr, hlen, hb⟩ := rd_back hl (r := sd l n) (n := n) (Prod.ext hs e) (by omega)
  refine h ⟨hr, ?_⟩
  have e2 : l.take n = (wr (sd l n) ++ l.drop n).take n := congrArg (List.take n) hb
  rw [e2, List.take_append_of_le_length (by rw [wr_len]; omega), List.take_of_length_le (by rw [wr_len]; omega)]
theorem sd_bd (l : List UInt8) (n : Nat) : 0 ≤ sd l n ∧ sd l n < 2097152 := by
  have c0 := bt_bd l 0
  unfold sd
  by_cases h1 : n = 1
  · rw [if_pos h1]; omega
  rw [if_neg h1]
  by_cases h2 : n = 2
  · rw [if_pos h2]; omega
  rw [if_neg h2]
  by_cases h3 : n = 3
  · rw [if_pos h3]; omega
  rw [if_neg h3]; omega
end Go.Proofs.YthfngcpcccbnpaaDoor.Nums

/- The reference's own small functions: what each of them returns. -/
namespace Go.Proofs.YthfngcpcccbnpaaDoor
open Go.RowKit Nums
set_option maxRecDepth 100000
attribute [local go_sem ↓] Go.wp_at_zero Go.wp_at_succ

set_option maxHeartbeats 400000 in
theorem Rune_any (r : Int) (w : World) : Calls Tryd.prog 96 #[.int .i64 r] w fun e w' => e = .returned (.bool (isR r)) ∧ w' = w := by
  by_cases h0 : 0 ≤ r
  · by_cases h1 : r ≤ 1114111
    · by_cases h2 : r < 55296
      · go_enter Tryd.func96, Tryd.ntmps96
        go_wp2
        go_ret
        exact ⟨ret_bool (by first | (rw [isR_of (by omega)]) | (rw [isR_not (by omega)])), rfl⟩
      · by_cases h3 : 57343 < r
        all_goals
          go_enter Tryd.func96, Tryd.ntmps96
          go_wp2
          go_ret
          exact ⟨ret_bool (by first | (rw [isR_of (by omega)]) | (rw [isR_not (by omega)])), rfl⟩
    · go_enter Tryd.func96, Tryd.ntmps96
      go_wp2
      go_ret
      exact ⟨ret_bool (by first | (rw [isR_of (by omega)]) | (rw [isR_not (by omega)])), rfl⟩
  · go_enter Tryd.func96, Tryd.ntmps96
    go_wp2
    go_ret
    exact ⟨ret_bool (by first | (rw [isR_of (by omega)]) | (rw [isR_not (by omega)])), rfl⟩

theorem conv_new (w : World) (xs : List Int) (n : Nat) (hn : xs.length = n) :
    (convert 164 9 (.slice (some ⟨w.heap.size, 0, none⟩) n n)).run Tryd.prog (w.alloc (.cells (xs.map (Value.int .u8)).toArray 5)) = .ok (.string (strOfNums xs)) (w.alloc (.cells (xs.map (Value.int .u8)).toArray 5)) := by
  refine run_convert_bytes_arg _ 164 5 Tryd.underlying164 Tryd.underlying5 w.heap.size 0 n n xs hn (fun i hi => ?_) 9 Tryd.underlying9
  rw [Nat.zero_add, World.cell?_alloc_new]
  subst hn
  simp [List.getD_eq_getElem?_getD, List.getElem?_eq_getElem hi]

set_option maxHeartbeats 1000000 in
theorem Write_any (r : Int) (w : World) (hr : isR r = true) : Calls Tryd.prog 97 #[.int .i64 r] w fun e w' => e = .returned (.string (strOfNums (wrI r))) ∧ Below w.heap.size w w' := by
  have hbd := isR_bd hr
  clear hr
  by_cases a : r < 128
  · have h := conv_new w [r] 1 rfl
    simp only [List.map] at h
    have HW : Hid (wrI r = [r]) := wrI1 a
    go_enter Tryd.func97, Tryd.ntmps97
    go_wp2
    go_ret
    exact ⟨by rw [HW.out]; rfl, (Below.refl _ _).alloc (Nat.le_refl _) _⟩
  by_cases b : r < 2048
  · have h := conv_new w [192 + r / 64, 128 + r % 64] 2 rfl
    simp only [List.map] at h
    have HW : Hid (wrI r = [192 + r / 64, 128 + r % 64]) := wrI2 (by omega) b
    go_enter Tryd.func97, Tryd.ntmps97
    go_wp2
    go_ret
    exact ⟨by rw [HW.out]; rfl, (Below.refl _ _).alloc (Nat.le_refl _) _⟩
  by_cases c : r < 65536
  · have h := conv_new w [224 + r / 4096, 128 + r / 64 % 64, 128 + r % 64] 3 rfl
    simp only [List.map] at h
    have HW : Hid (wrI r = [224 + r / 4096, 128 + r / 64 % 64, 128 + r % 64]) := by
      show wrI r = _
      rw [wrI3 (by omega) c, show r / 64 / 64 = r / 4096 by omega]
    go_enter Tryd.func97, Tryd.ntmps97
    go_wp2
    go_ret
    exact ⟨by rw [HW.out]; rfl, (Below.refl _ _).alloc (Nat.le_refl _) _⟩
  · have h := conv_new w [240 + r / 262144, 128 + r / 4096 % 64, 128 + r / 64 % 64, 128 + r % 64] 4 rfl
    simp only [List.map] at h
    have HW : Hid (wrI r = [240 + r / 262144, 128 + r / 4096 % 64, 128 + r / 64 % 64, 128 + r % 64]) := by
      show wrI r = _
      rw [wrI4 (by omega), show r / 64 / 64 / 64 = r / 262144 by omega, show r / 64 / 64 = r / 4096 by omega]
    go_enter Tryd.func97, Tryd.ntmps97
    go_wp2
    go_ret
    exact ⟨by rw [HW.out]; rfl, (Below.refl _ _).alloc (Nat.le_refl _) _⟩

theorem byte_bd (s : ByteArray) (i : Nat) (h : i < s.size) : ((s[i]'h).toNat : Int) < 256 := by have := (s[i]'h).toNat_lt; omega

set_option maxHeartbeats 1000000 in
theorem said_any (s : ByteArray) (n : Nat) (w : World) (h1 : 1 ≤ n) (h4 : n ≤ 4) (hn : n ≤ s.size) (hm : s.size ≤ 9223372036854775807) :
    Calls Tryd.prog 95 #[.string s, .int .i64 n] w fun e w' => e = .returned (.int .i64 (sd s.data.toList n)) ∧ w' = w := by
  have HB : Hid (∀ i (h : i < s.size), ((s[i]'h).toNat : Int) = bt s.data.toList i) := bt_get s
  obtain rfl | rfl | rfl | rfl : n = 1 ∨ n = 2 ∨ n = 3 ∨ n = 4 := by omega
  · have q0 := byte_bd s 0 (by omega)
    go_enter Tryd.func95, Tryd.ntmps95
    go_wp2
    go_ret
    exact ⟨ret_int (by rw [sd1, HB.out 0 (by omega)]), rfl⟩
  · have q0 := byte_bd s 0 (by omega)
    have q1 := byte_bd s 1 (by omega)
    go_enter Tryd.func95, Tryd.ntmps95
    go_wp2
    refine wp_loop_rounds 2 ?_
    rw [rounds_succ]
    go_wp2
    rw [rounds_succ]
    go_wp2
    go_ret
    exact ⟨ret_int (by rw [sd2, HB.out 0 (by omega), HB.out 1 (by omega)]), rfl⟩
  · have q0 := byte_bd s 0 (by omega)
    have q1 := byte_bd s 1 (by omega)
    have q2 := byte_bd s 2 (by omega)
    go_enter Tryd.func95, Tryd.ntmps95
    go_wp2
    refine wp_loop_rounds 3 ?_
    rw [rounds_succ]
    go_wp2
    rw [rounds_succ]
    go_wp2
    rw [rounds_succ]
    go_wp2
    go_ret
    exact ⟨ret_int (by rw [sd3, HB.out 0 (by omega), HB.out 1 (by omega), HB.out 2 (by omega)]), rfl⟩
  · have q0 := byte_bd s 0 (by omega)
    have q1 := byte_bd s 1 (by omega)
    have q2 := byte_bd s 2 (by omega)
    have q3 := byte_bd s 3 (by omega)
    go_enter Tryd.func95, Tryd.ntmps95
    go_wp2
    refine wp_loop_rounds 4 ?_
    rw [rounds_succ]
    go_wp2
    rw [rounds_succ]
    go_wp2
    rw [rounds_succ]
    go_wp2
    rw [rounds_succ]
    go_wp2
    go_ret
    exact ⟨ret_int (by rw [sd4, HB.out 0 (by omega), HB.out 1 (by omega), HB.out 2 (by omega), HB.out 3 (by omega)]), rfl⟩
end Go.Proofs.YthfngcpcccbnpaaDoor

/- The reference's First: the rune with whose writing a text begins. -/
namespace Go.Proofs.YthfngcpcccbnpaaDoor
open Go.RowKit Nums
set_option maxRecDepth 100000
attribute [local go_sem ↓] Go.wp_at_zero Go.wp_at_succ

theorem wr_toList (r : Int) : (strOfNums (wrI r)).toList = wr r := by
  rw [ByteArray.toList_eq, strOfNums_data]; rfl
theorem ext_toList (s : ByteArray) (n : Nat) : (s.extract 0 n).toList = s.data.toList.take n := by
  rw [ByteArray.toList_eq]; simp [ByteArray.extract, ByteArray.copySlice]

theorem Rune_is (r : Int) (w : World) {b : Bool} (h : isR r = b) : Calls Tryd.prog 96 #[.int .i64 r] w fun e w' => e = .returned (.bool b) ∧ w' = w := by
  rw [← h]; exact Rune_any r w

set_option maxHeartbeats 2000000 in
theorem First_any (s : ByteArray) (w : World) (h0 : 0 < s.size) (hm : s.size ≤ 9223372036854775807) :
    Calls Tryd.prog 81 #[.string s] w fun e w' => e = .returned (.tuple #[.int .i64 (rd s.data.toList).1, .int .i64 (rd s.data.toList).2]) ∧ Below w.heap.size w w' := by
  have HNE : Hid (s.data.toList ≠ []) := ne_of_size h0
  have HBD : Hid ((rd s.data.toList).2 ≤ s.data.toList.length ∧ (rd s.data.toList).2 ≤ 4) := rd_bd HNE.out
  go_enter Tryd.func81, Tryd.ntmps81
  go_wp2
  go_loopw [4] (fun i wr => ∃ k : Nat, 1 ≤ k ∧ k ≤ 5 ∧ i = .int .i64 k ∧ (∀ j, 1 ≤ j → j < k → (rd s.data.toList).2 ≠ j) ∧ Below w.heap.size w wr) (fun i _ => 5 - (intOf i).toNat)
  case atStart => exact ⟨1, by omega, by omega, rfl, fun j a b => by omega, Below.refl _ _⟩
  case round =>
    obtain ⟨k, hk1, hk5, rfl, hno, hbel⟩ := hrel
    have HNO : Hid (∀ j, 1 ≤ j → j < k → (rd s.data.toList).2 ≠ j) := hno
    clear hno
    by_cases hk : k ≤ 4 ∧ k ≤ s.size
    · obtain ⟨hk4, hks⟩ := hk
      have hsb := sd_bd s.data.toList k
      generalize hx : sd s.data.toList k = x at *
      have HX : Hid (sd s.data.toList k = x) := hx
      clear hx
      cases hr : isR x
      · have HR : Hid (isR x = false) := hr
        clear hr
        have HF : Hid (∀ j, 1 ≤ j → j < k + 1 → (rd s.data.toList).2 ≠ j) := fun j a b => by
          by_cases e : j = k
          · subst e; exact first_no HNE.out hk1 (fun h => by have h2 := h.1; rw [HX.out, HR.out] at h2; cases h2)
          · exact HNO.out j a (by omega)
        go_wp2_with (go_at_call 95; refine (said_any s k _ hk1 hk4 hks hm).mono ?_; rintro e w' ⟨rfl, rfl⟩; rw [HX.out])
        go_quiet ((go_at_call 96; exact Calls.quiet_of_same (Rune_is _ _ HR.out)))
        go_wp2
        go_roundw
        case rel => exact ⟨k + 1, by omega, by omega, by go_num, HF.out, below_drewN hbel _⟩
        case measure => simp [intOf]; omega
      · have HR : Hid (isR x = true) := hr
        clear hr
        have h1k : (k : Int) ≤ (s.size : Int) := by omega
        have h1k' : (0 : Int) ≤ (k : Int) := by omega
        by_cases hw : Nums.wr x = s.data.toList.take k
        · have HW : Hid (Nums.wr x = s.data.toList.take k) := hw
          have hq : ((strOfNums (wrI x)).toList == (s.extract 0 k).toList) = true := by rw [wr_toList, ext_toList, hw]; simp
          clear hw
          have HF : Hid (rd s.data.toList = (x, k)) := by
            have := first_yes (l := s.data.toList) (n := k) (by rw [size_length]; exact hks) (by rw [HX.out]; exact HR.out) (by rw [HX.out]; exact HW.out)
            rw [HX.out] at this; exact this
          go_wp2_with (go_at_call 95; refine (said_any s k _ hk1 hk4 hks hm).mono ?_; rintro e w' ⟨rfl, rfl⟩; rw [HX.out])
          go_region_held3 (fun _ => True) (trivial) (first | (go_at_call 96; refine (Rune_is _ _ HR.out).mono ?_; rintro e w' ⟨rfl, rfl⟩) | (go_at_call 97; refine (Write_any _ _ HR.out).mono ?_; rintro e w3 ⟨rfl, hb3⟩))
          all_goals go_wp2
          all_goals go_ret2
          refine ⟨?_, ?_⟩
          · rw [HF.out]; rfl
          · exact hbel.drew.trans (hb3.mono hbel.size)
        · have hq : ((strOfNums (wrI x)).toList == (s.extract 0 k).toList) = false := by rw [wr_toList, ext_toList]; simpa using hw
          have HW : Hid (¬ Nums.wr x = s.data.toList.take k) := hw
          clear hw
          have HF : Hid (∀ j, 1 ≤ j → j < k + 1 → (rd s.data.toList).2 ≠ j) := fun j a b => by
            by_cases e : j = k
            · subst e; exact first_no HNE.out hk1 (fun h => by have h2 := h.2; rw [HX.out] at h2; exact HW.out h2)
            · exact HNO.out j a (by omega)
          go_wp2_with (go_at_call 95; refine (said_any s k _ hk1 hk4 hks hm).mono ?_; rintro e w' ⟨rfl, rfl⟩; rw [HX.out])
          go_region_held3 (fun _ => True) (trivial) (first | (go_at_call 96; refine (Rune_is _ _ HR.out).mono ?_; rintro e w' ⟨rfl, rfl⟩) | (go_at_call 97; refine (Write_any _ _ HR.out).mono ?_; rintro e w3 ⟨rfl, hb3⟩))
          all_goals go_wp2
          go_roundw
          case rel => exact ⟨k + 1, by omega, by omega, by go_num, HF.out, hbel.drew.trans (hb3.mono hbel.size)⟩
          case measure => simp [intOf]; omega
    · have HZ : Hid (rd s.data.toList = (0, 0)) := by
        refine rd_zero ?_
        by_cases z : (rd s.data.toList).2 = 0
        · exact z
        · have h2 := HBD.out
          rw [size_length] at h2
          exact absurd rfl (HNO.out (rd s.data.toList).2 (by omega) (by omega))
      by_cases hk4 : k ≤ 4
      · have hks : ¬ k ≤ s.size := fun h => hk ⟨hk4, h⟩
        clear hk
        go_wp2
        go_ret2
        refine ⟨?_, hbel⟩
        rw [HZ.out]; rfl
      · clear hk
        go_wp2
        go_ret2
        refine ⟨?_, hbel⟩
        rw [HZ.out]; rfl
end Go.Proofs.YthfngcpcccbnpaaDoor

/- The reference's Runes: the same runes, in new memory, or none. -/
namespace Go.Proofs.YthfngcpcccbnpaaDoor
open Go.RowKit Nums
set_option maxRecDepth 100000

set_option maxHeartbeats 2000000 in
theorem RefRunes_any (s : ByteArray) (w : World) (hm : s.size ≤ 9223372036854775807) (hroom : Room s.data.toList) :
    Calls Tryd.prog 59 #[.string s] w fun e w' => ∃ v, Below w.heap.size w w' ∧
      ((rs s.data.toList = none ∧ v = .slice none 0 0 ∧ e = .returned (.tuple #[v, .bool false])) ∨
       ∃ xs, rs s.data.toList = some xs ∧ e = .returned (.tuple #[v, .bool true]) ∧ Made w.heap.size w' v xs) := by
  obtain ⟨i0, hi, hz0, hz1, hz2⟩ := info_parts infoRune
  go_enter Tryd.func59, Tryd.ntmps59
  go_wp2
  go_loopw [0, 4] (fun t v wr => ∃ (m : ByteArray) (pre : List Int), t = .string m ∧ m.size + pre.length ≤ s.size ∧ Made w.heap.size wr v pre ∧ Remains s.data.toList m.data.toList pre ∧ Below w.heap.size w wr)
    (fun t _ _ => lenOf t)
  case atStart => exact ⟨s, [], rfl, by simp, World.ownsRow_nil _ _ _ _, left_start _, Below.refl _ _⟩
  case round =>
    obtain ⟨m, pre, rfl, hms, hown, hL, hbel⟩ := hrel
    have HL : Hid (Remains s.data.toList m.data.toList pre) := hL
    clear hL
    by_cases h0 : 0 < m.size
    · have hne := ne_of_size h0
      have hbd := rd_bd hne
      rw [size_length] at hbd
      have HNE : Hid (m.data.toList ≠ []) := hne
      clear hne
      generalize hr : rd m.data.toList = q at hbd
      obtain ⟨r, n⟩ := q
      have HR : Hid (rd m.data.toList = (r, n)) := hr
      clear hr
      simp only at hbd
      by_cases hn : n = 0
      · subst hn
        have HF : Hid (rs s.data.toList = none) := left_none HL.out HNE.out (by rw [HR.out])
        go_wp2_with (go_at_call 81; refine (First_any _ _ h0 (by omega)).mono ?_; rintro e w2 ⟨rfl, hb2⟩; rw [HR.out])
        go_ret2
        exact ⟨_, hbel.trans (hb2.mono hbel.size), .inl ⟨HF.out, rfl, rfl⟩⟩
      have hrb : 0 ≤ r ∧ r < 1114112 := by
        have h2 := rd_isR (l := m.data.toList) (by rw [HR.out]; exact hn)
        rw [HR.out] at h2; exact isR_bd h2
      have hn0 : ((n : Int) == 0) = false := beq_eq_false_iff_ne.2 (by omega)
      have hrm : pre.length + 1 ≤ 35184372088832 := hroom m.data.toList pre HL.out (by rw [size_length, size_length]; exact hms) HNE.out (by rw [HR.out]; exact hn)
      go_wp2_with (first
        | (go_at_call 81; refine (First_any _ _ h0 (by omega)).mono ?_; rintro e w2 ⟨rfl, hb2⟩; rw [HR.out])
        | (at_builtin; refine wpList_append_own _ rfl _ _ 51 rfl w.heap.size 21 i0 (.int .i32 0) 1 4 Tryd.underlying51 hi hz0 hz1 hz2 rfl (by decide) _ _ _ rfl (World.ownsRow.alloc (hown.below hb2) _) ⟨w2.heap.size, 0, none⟩ 1 1 [.int .i32 r] rfl rfl ?c1 ?c2 ?c3 ?c4 ?c5 ?_))
      case c1 =>
        intro j u hj
        match j, hj with
        | 0, hj => simp at hj; subst hj; exact cell_new w2 r
      case c2 => intro u hu; simp at hu; subst hu; rfl
      case c3 => unfold maxLen; omega
      case c4 => omega
      case c5 => have := hbel.size; have := hb2.size; simp; omega
      intro v' w1 hown' hgrow _
      have hown2 : Made w.heap.size w1 v' (pre ++ [r]) := by unfold Made; simpa using hown'
      have hbw : Below w.heap.size w w2 := hbel.trans (hb2.mono hbel.size)
      have hb1 : Below w.heap.size w w1 := (hbw.alloc hbw.size _).grown hgrow (by have := hbw.size; simp; omega) (fun k hk => (World.ownsRow.lt hown k hk).1)
      clear hown' hgrow hown
      go_wp2
      go_roundw
      case rel => exact ⟨m.extract n m.size, pre ++ [r], rfl, by rw [extract_size]; simp; omega, hown2, rest_go HL.out HNE.out HR.out hn, hb1⟩
      case measure => simp only [lenOf]; rw [extract_size]; omega
    · have HN : Hid (m.data.toList = []) := nil_of_size h0
      have HF : Hid (rs s.data.toList = some pre) := left_end (by have := HL.out; rw [HN.out] at this; exact this)
      go_wp2
      go_ret2
      exact ⟨_, hbel, .inr ⟨pre, HF.out, rfl, hown⟩⟩
end Go.Proofs.YthfngcpcccbnpaaDoor

/- The reference's Under, same, In, Rests. -/
namespace Go.Proofs.YthfngcpcccbnpaaDoor
open Go.RowKit Nums Fm
set_option maxRecDepth 100000

theorem RunesAt.tail {E : Nat} {w : World} {g o n cap : Nat} {xs : List Int} {ad : Option Addr} {c : Nat} (h : RunesAt E w (.slice (some ⟨g, o, none⟩) n cap) xs) (h0 : 0 < xs.length) (had : n = 1 ∨ ad = some ⟨g, o + 1, none⟩) : RunesAt E w (.slice ad (n - 1) c) xs.tail := by
  obtain ⟨ad', cap', e, hc⟩ := h
  simp only [Value.slice.injEq] at e
  obtain ⟨e1, rfl, rfl⟩ := e
  refine ⟨ad, c, by rw [List.length_tail], fun ht => ?_⟩
  rw [List.length_tail] at ht
  obtain ⟨g', off, e2, hg, hx⟩ := hc h0
  rw [← e1] at e2
  simp only [Option.some.injEq, Addr.mk.injEq, and_true] at e2
  obtain ⟨rfl, rfl⟩ := e2
  refine ⟨g, o + 1, had.resolve_left (by omega), hg, fun i x hi => ?_⟩
  have := hx (i + 1) x (by rw [← List.getElem?_tail]; exact hi)
  rwa [show o + (i + 1) = o + 1 + i by omega] at this
end Go.Proofs.YthfngcpcccbnpaaDoor

/- The reference's same, In, Rests. -/
namespace Go.Proofs.YthfngcpcccbnpaaDoor
open Go.RowKit Nums Fm
set_option maxRecDepth 100000

theorem RunesAt.row {E : Nat} {w : World} {v : Value} {xs : List Int} (h : RunesAt E w v xs) : Row w v xs := by
  obtain ⟨ad, cap, rfl, hc⟩ := h
  refine ⟨ad, cap, rfl, fun h0 => ?_⟩
  obtain ⟨g, off, rfl, _, hx⟩ := hc h0
  refine ⟨g, off, rfl, fun i hi => ?_⟩
  rw [hx i xs[i] (List.getElem?_eq_getElem hi), List.getD_eq_getElem?_getD, List.getElem?_eq_getElem hi]
  rfl
/-- Two rests. -/
structure SE2 (g o g' o' : Nat) (u u' : Value) (w : World) : Prop where
  c0 : w.cell? ⟨g, o, none⟩ = some u
  d0 : w.cell? ⟨g', o', none⟩ = some u'
theorem SE2.facts {g o g' o' : Nat} {u u' : Value} {w : World} (h : SE2 g o g' o' u u' w) : w.cell? ⟨g, o, none⟩ = some u ∧ w.cell? ⟨g', o', none⟩ = some u' := ⟨h.c0, h.d0⟩
end Go.Proofs.YthfngcpcccbnpaaDoor

/- The reference's In, Rests, Rises. -/
namespace Go.Proofs.YthfngcpcccbnpaaDoor
open Go.RowKit Nums Fm
set_option maxRecDepth 100000

/-- Rows of rests, in a row that the call has made. -/
structure AllOwn (E B : Nat) (w : World) (v : Value) (Ds : List (List En)) : Prop where
  ex : ∃ xss : List (List Value), GOwn 106 1 B w v xss ∧ xss.length = Ds.length ∧ ∀ (i : Nat) (R : List En), Ds[i]? = some R → ∃ u, xss[i]? = some [u] ∧ RMade E B w u R
theorem AllOwn.nil (E B : Nat) (w : World) : AllOwn E B w (.slice none 0 0) [] := ⟨[], GOwn.nil _ _ _ _, rfl, fun i R hi => by simp at hi⟩
theorem AllOwn.below {E B : Nat} {w w' : World} {v : Value} {Ds : List (List En)} (h : AllOwn E B w v Ds) (hE : E ≤ w.heap.size) (hb : Below w.heap.size w w') : AllOwn E B w' v Ds := by
  obtain ⟨xss, ho, hl, hx⟩ := h
  refine ⟨xss, ho.below hb, hl, fun i R hi => ?_⟩
  obtain ⟨u, h1, h2⟩ := hx i R hi
  exact ⟨u, h1, h2.below hE hb⟩
theorem AllOwn.shape {E B : Nat} {w : World} {v : Value} {Ds : List (List En)} (h : AllOwn E B w v Ds) : ∃ ad cap, v = .slice ad Ds.length cap := by
  obtain ⟨xss, ho, hl, _⟩ := h
  obtain ⟨ad, cap, e, _⟩ := ho.shape
  exact ⟨ad, cap, by rw [e, hl]⟩
theorem AllOwn.at {E B : Nat} {w : World} {ad : Option Addr} {n cap : Nat} {Ds : List (List En)} (h : AllOwn E B w (.slice ad n cap) Ds) (h0 : 0 < n) : ∃ g, ad = some ⟨g, 0, none⟩ ∧ g < w.heap.size ∧ ∀ (i : Nat) (R : List En), Ds[i]? = some R → ∃ u, w.cell? ⟨g, i, none⟩ = some u ∧ RMade E B w u R := by
  obtain ⟨xss, ho, hl, hx⟩ := h
  obtain ⟨ad', cap', e, _⟩ := ho.shape
  simp only [Value.slice.injEq] at e
  obtain ⟨g, cap2, e2, hg, _, _, hc⟩ := ho.cell (by omega)
  simp only [Value.slice.injEq] at e2
  refine ⟨g, e2.1, hg, fun i R hi => ?_⟩
  obtain ⟨u, h1, h2⟩ := hx i R hi
  refine ⟨u, ?_, h2⟩
  have := hc i 0 _ u h1 rfl
  rwa [Nat.mul_one, Nat.add_zero] at this
/-- Rests that are small. -/
def SmallR (R : List En) : Prop := R.length ≤ 1048576 ∧ ∀ e ∈ R, e.1.length ≤ 1048576
/-- Rests that are being made of words. -/
structure RstsAt (B : Nat) (w : World) (v : Value) (es : List En) : Prop where
  ex : ∃ xss : List (List Value), GOwn 139 2 B w v xss ∧ xss.length = es.length ∧ ∀ (i : Nat) (e : En), es[i]? = some e → ∃ u, xss[i]? = some [u, .int .i64 e.2] ∧ Made B w u e.1
theorem Made.cap {B : Nat} {w : World} {v : Value} {xs : List Int} (h : Made B w v xs) : CapOk v := by
  obtain ⟨_, ⟨e, _⟩ | ⟨g, cap, cur, rfl, _, _, h3, _⟩⟩ := h
  · rw [e]; exact Nat.le_refl _
  · exact h3
theorem RstsAt.row {B : Nat} {w : World} {v : Value} {es : List En} (h : RstsAt B w v es) : RR w.heap.size w v es := by
  obtain ⟨xss, ho, hl, hx⟩ := h
  by_cases h0 : 0 < xss.length
  · obtain ⟨g, cap, rfl, hg, _, _, hcell⟩ := ho.cell h0
    refine ⟨_, cap, by rw [hl], fun _ => ⟨g, 0, rfl, hg, fun i e hi => ?_⟩⟩
    obtain ⟨u, hu, hm⟩ := hx i e hi
    exact ⟨u, ⟨by rw [Nat.zero_add]; exact hcell i 0 _ u hu rfl, by rw [Nat.zero_add]; exact hcell i 1 _ _ hu rfl, hm.runes⟩, hm.cap⟩
  · obtain ⟨ad, cap, rfl, _⟩ := ho.shape
    exact ⟨ad, cap, by rw [hl], fun h => absurd h (by omega)⟩
end Go.Proofs.YthfngcpcccbnpaaDoor

/- The reference's Rises, walked. -/
namespace Go.Proofs.YthfngcpcccbnpaaDoor
open Go.RowKit Nums Fm
set_option maxRecDepth 100000

theorem RMade.mono {E B B' : Nat} {w : World} {v : Value} {S : List En} (h : RMade E B w v S) (hB : B' ≤ B) : RMade E B' w v S := by
  obtain ⟨xss, ho, hl, hx⟩ := h
  exact ⟨xss, ho.mono hB, hl, hx⟩
theorem RMade.kept {E B B' k : Nat} {T : TypeId} {w w' : World} {v u : Value} {S : List En} {yss : List (List Value)} (h : RMade E B w v S) (ho' : GOwn T k B' w u yss) (hT : T ≠ 139) (hg : w.grownBy w' u.ownBlock) (hb : Below E w w') : RMade E B w' v S := by
  obtain ⟨xss, ho, hl, hx⟩ := h
  refine ⟨xss, ho.same fun g hgv => ?_, hl, fun i e hi => ?_⟩
  · obtain ⟨_, cur, hc⟩ := ho.block hgv
    refine hg.block g (ho.lt hgv) fun e => ?_
    obtain ⟨_, cur', hc'⟩ := ho'.block e.symm
    rw [hc] at hc'
    simp only [Option.some.injEq, Obj.cells.injEq] at hc'
    exact hT hc'.2.1.symm
  · obtain ⟨y, h1, h2, h3⟩ := hx i e hi
    exact ⟨y, h1, h2.below hb, h3⟩
/-- Rests that lie below E, or that were made. -/
def RRb (E : Nat) (w : World) (v : Value) (S : List En) : Prop :=
  ∃ ad cap, v = .slice ad S.length cap ∧ (0 < S.length → ∃ g off, ad = some ⟨g, off, none⟩ ∧ g < E ∧ ∀ i e, S[i]? = some e → ∃ u, EntAt E w g (off + i * 2) u e ∧ CapOk u)
structure Und (E : Nat) (w : World) (v : Value) (S : List En) : Prop where
  or : RRb E w v S ∨ RMade E E w v S
theorem RRb.belowE {E : Nat} {w w' : World} {v : Value} {S : List En} (h : RRb E w v S) (hb : Below E w w') : RRb E w' v S := by
  obtain ⟨ad, cap, rfl, hc⟩ := h
  refine ⟨ad, cap, rfl, fun h0 => ?_⟩
  obtain ⟨g, off, rfl, hg, hx⟩ := hc h0
  refine ⟨g, off, rfl, hg, fun i e hi => ?_⟩
  obtain ⟨u, ⟨c0, c1, hr⟩, hk⟩ := hx i e hi
  exact ⟨u, ⟨(hb.cell (p := ⟨g, off + i * 2, none⟩) hg).trans c0, (hb.cell (p := ⟨g, off + i * 2 + 1, none⟩) hg).trans c1, hr.below hb⟩, hk⟩
theorem Und.row {E : Nat} {w : World} {v : Value} {S : List En} (h : Und E w v S) (hE : E ≤ w.heap.size) : RR E w v S := by
  rcases h.or with h | h
  · obtain ⟨ad, cap, rfl, hc⟩ := h
    refine ⟨ad, cap, rfl, fun h0 => ?_⟩
    obtain ⟨g, off, e, hg, hx⟩ := hc h0
    exact ⟨g, off, e, by omega, hx⟩
  · exact h.row
theorem Und.below {E : Nat} {w w' : World} {v : Value} {S : List En} (h : Und E w v S) (hE : E ≤ w.heap.size) (hb : Below w.heap.size w w') : Und E w' v S := by
  rcases h.or with h | h
  · exact ⟨.inl (h.belowE (hb.mono hE))⟩
  · exact ⟨.inr (h.below hE hb)⟩
theorem Und.kept {E B' k : Nat} {T : TypeId} {w w' : World} {v u : Value} {S : List En} {yss : List (List Value)} (h : Und E w v S) (ho' : GOwn T k B' w u yss) (hT : T ≠ 139) (hg : w.grownBy w' u.ownBlock) (hb : Below E w w') : Und E w' v S := by
  rcases h.or with h | h
  · exact ⟨.inl (h.belowE hb)⟩
  · exact ⟨.inr (h.kept ho' hT hg hb)⟩
end Go.Proofs.YthfngcpcccbnpaaDoor

/- The reference's firsts. -/
namespace Go.Proofs.YthfngcpcccbnpaaDoor
open Go.RowKit Nums Fm
set_option maxRecDepth 100000

namespace Fm
end Fm
def cellI (c : Int) : List Value := [.int .i32 c]
def IOwn (B : Nat) (w : World) (v : Value) (xs : List Int) : Prop := GOwn 21 1 B w v (xs.map cellI)
theorem IOwn.last {B : Nat} {w : World} {ad : Option Addr} {n cap : Nat} {xs : List Int} (h : IOwn B w (.slice ad n cap) xs) (h0 : 0 < n) : ∃ g, ad = some ⟨g, 0, none⟩ ∧ n = xs.length ∧ ∃ d, xs.getLast? = some d ∧ w.cell? ⟨g, n - 1, none⟩ = some (.int .i32 d) := by
  obtain ⟨a', c', e, _⟩ := GOwn.shape h
  simp only [List.length_map, Value.slice.injEq] at e
  obtain ⟨e1, e2, e3⟩ := e
  subst e2
  obtain ⟨g, cp, e, _, _, _, hc⟩ := GOwn.cell h (by rw [List.length_map]; exact h0)
  simp only [List.length_map, Value.slice.injEq] at e
  obtain ⟨d, hd⟩ : ∃ d, xs[xs.length - 1]? = some d := ⟨xs[xs.length - 1]'(by omega), List.getElem?_eq_getElem _⟩
  refine ⟨g, e.1, rfl, d, by rw [List.getLast?_eq_getElem?]; exact hd, ?_⟩
  have := hc (xs.length - 1) 0 (cellI d) (.int .i32 d) (by rw [List.getElem?_map, hd]; rfl) rfl
  simpa using this
end Go.Proofs.YthfngcpcccbnpaaDoor
