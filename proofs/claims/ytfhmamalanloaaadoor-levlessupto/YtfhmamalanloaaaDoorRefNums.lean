/- What the reference reckons, in plain numbers. No program is named here. -/
import Derived.Test.YtfhmamalanloaaaDoorCodes
namespace Go.Proofs.YtfhmamalanloaaaDoor.Nums

/-- The number that so many bytes would say. -/
def sd (l : List UInt8) (n : Nat) : Int :=
  if n = 1 then bt l 0 else if n = 2 then bt l 0 % 32 * 64 + bt l 1 % 64
  else if n = 3 then (bt l 0 % 16 * 64 + bt l 1 % 64) * 64 + bt l 2 % 64
  else ((bt l 0 % 8 * 64 + bt l 1 % 64) * 64 + bt l 2 % 64) * 64 + bt l 3 % 64
theorem sd1 (l : List UInt8) : sd l 1 = bt l 0 := rfl
theorem sd2 (l : List UInt8) : sd l 2 = bt l 0 % 32 * 64 + bt l 1 % 64 := rfl
theorem sd3 (l : List UInt8) : sd l 3 = (bt l 0 % 16 * 64 + bt l 1 % 64) * 64 + bt l 2 % 64 := rfl
theorem sd4 (l : List UInt8) : sd l 4 = ((bt l 0 % 8 * 64 + bt l 1 % 64) * 64 + bt l 2 % 64) * 64 + bt l 3 % 64 := rfl

theorem rd_zero {l : List UInt8} (h : (rd l).2 = 0) : rd l = (0, 0) := by
  revert h
  unfold rd
  by_cases c1 : bt l 0 < 128
  · rw [if_pos c1]; intro h; cases h
  rw [if_neg c1]
  split
  · intro h; cases h
  split
  · intro h; cases h
  split
  · intro h; cases h
  intro _; rfl
theorem rd_said {l : List UInt8} (h : (rd l).2 ≠ 0) : (rd l).1 = sd l (rd l).2 := by
  have c0 := bt_bd l 0
  revert h
  unfold rd
  by_cases c1 : bt l 0 < 128
  · rw [if_pos c1]; intro _; exact (sd1 l).symm
  rw [if_neg c1]
  split
  · rename_i c; intro _
    show acc 192 l 2 = sd l 2
    rw [acc2, sd2]; omega
  split
  · rename_i c; intro _
    show acc 224 l 3 = sd l 3
    rw [acc3, sd3]; omega
  split
  · rename_i c; intro _
    show acc 240 l 4 = sd l 4
    rw [acc4, sd4]; omega
  intro h; exact absurd rfl h

/-- The reference's test at n holds just where 'rd' tells n bytes. -/
theorem first_yes {l : List UInt8} {n : Nat} (hn : n ≤ l.length) (hr : isR (sd l n) = true) (hw : wr (sd l n) = l.take n) : rd l = (sd l n, n) := by
  have h := rd_wr hr (l.drop n)
  rw [hw, List.take_append_drop] at h
  rw [h]
  have : (wr (sd l n)).length = (l.take n).length := by rw [hw]
  rw [wr_len, List.length_take] at this
  rw [this, Nat.min_eq_left hn]
theorem first_no {l : List UInt8} (hl : l ≠ []) {n : Nat} (h1 : 1 ≤ n) (h : ¬ (isR (sd l n) = true ∧ wr (sd l n) = l.take n)) : (rd l).2 ≠ n := by
  intro e
  have h0 : (rd l).2 ≠ 0 := by omega
  have hs := rd_said h0
  rw [e] at hs
  obtain ⟨hr, hlen, hb⟩ := rd_back hl (r := sd l n) (n := n) (Prod.ext hs e) (by omega)
  refine h ⟨hr, ?_⟩
  have e2 : l.take n = (wr (sd l n) ++ l.drop n).take n := congrArg (List.take n) hb
  rw [e2, List.take_append_of_le_length (by rw [wr_len]; omega), List.take_of_length_le (by rw [wr_len]; omega)]
theorem sd_bd (l : List UInt8) (n : Nat) : 0 ≤ sd l n ∧ sd l n < 2097152 := by
  have c0 := bt_bd l 0
  unfold sd
  by_cases h1 : n = 1
  · rw [if_pos h1]; omega
  rw [if_neg h1]
  by_cases h2 : n = 2
  · rw [if_pos h2]; omega
  rw [if_neg h2]
  by_cases h3 : n = 3
  · rw [if_pos h3]; omega
  rw [if_neg h3]; omega
end Go.Proofs.YtfhmamalanloaaaDoor.Nums
