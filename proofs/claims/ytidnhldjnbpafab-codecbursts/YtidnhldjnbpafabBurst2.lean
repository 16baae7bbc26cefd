/- Turned bits in a row of bytes: plain mathematics. -/
import Derived.Test.YtidnhldjnbpafabBurst
import Derived.Test.YtidnhldjnbpafabOpensWalk
namespace Go.Proofs.Ytidnhldjnbpafab

theorem errB_get (m : Nat) : ∀ (n i : Nat), i < m → (errB n m)[i]? = some (n / 256 ^ i % 256) := by
  induction m with
  | zero => intro n i h; omega
  | succ m ih =>
    intro n i h
    cases i with
    | zero => simp [errB]
    | succ i =>
      show (errB (n / 256) m)[i]? = _
      rw [ih _ _ (by omega), Nat.div_div_eq_div_mul, Nat.pow_succ, Nat.mul_comm]
theorem byte_flip (n d j : Nat) : (n ^^^ 2 ^ d) / 256 ^ j % 256 = (n / 256 ^ j % 256) ^^^ (if d / 8 = j then 2 ^ (d % 8) else 0) := by
  apply Nat.eq_of_testBit_eq
  intro i
  rw [show (256 : Nat) = 2 ^ 8 by decide, ← Nat.pow_mul, Nat.testBit_xor, Nat.testBit_mod_two_pow, Nat.testBit_mod_two_pow, Nat.testBit_div_two_pow, Nat.testBit_div_two_pow, Nat.testBit_xor, Nat.testBit_two_pow]
  by_cases hi : i < 8
  · by_cases hj : d / 8 = j
    · rw [if_pos hj, Nat.testBit_two_pow]
      have e : decide (d = i + 8 * j) = decide (d % 8 = i) := by
        apply decide_eq_decide.2
        omega
      simp [hi, e]
    · rw [if_neg hj, Nat.zero_testBit]
      have e : ¬ d = i + 8 * j := by omega
      simp [hi, e]
  · by_cases hj : d / 8 = j
    · rw [if_pos hj, Nat.testBit_two_pow]
      have e : ¬ d % 8 = i := by omega
      simp [hi, e]
    · rw [if_neg hj, Nat.zero_testBit]
      simp [hi]
theorem add_is_xor {n d : Nat} (h : n < 2 ^ d) : n + 2 ^ d = n ^^^ 2 ^ d := by
  apply Nat.eq_of_testBit_eq
  intro i
  rw [Nat.testBit_xor, Nat.testBit_two_pow, Nat.add_comm]
  by_cases hi : d = i
  · subst hi
    rw [Nat.testBit_two_pow_add_eq, Nat.testBit_lt_two_pow h]
    simp
  · rcases Nat.lt_or_ge i d with hlt | hge
    · rw [Nat.testBit_two_pow_add_gt hlt]
      simp [hi]
    · have hlt : d < i := by omega
      have h2 : 2 ^ d + n < 2 ^ i := by
        have : 2 ^ (d + 1) ≤ 2 ^ i := Nat.pow_le_pow_right (by decide) hlt
        rw [Nat.pow_succ] at this
        omega
      have h3 : n < 2 ^ i := by omega
      rw [Nat.testBit_lt_two_pow h2, Nat.testBit_lt_two_pow h3]
      simp [hi]
theorem xorL_len {xs : List Nat} {n m : Nat} (h : xs.length = m) : (xorL xs (errB n m)).length = m := by
  unfold xorL; rw [List.length_zipWith, errB_len, h, Nat.min_self]
theorem xorL_get {xs : List Nat} {n m i : Nat} (h : xs.length = m) (hi : i < m) : (xorL xs (errB n m))[i]? = some (xs.getD i 0 ^^^ (n / 256 ^ i % 256)) := by
  unfold xorL
  rw [List.getElem?_zipWith, errB_get m n i hi, List.getElem?_eq_getElem (by omega)]
  simp [List.getD_eq_getElem?_getD, List.getElem?_eq_getElem (show i < xs.length by omega)]
theorem xorL_flip {xs : List Nat} {n m d : Nat} (h : xs.length = m) (hn : n < 2 ^ d) (hd : d / 8 < m) :
    xorL xs (errB (n + 2 ^ d) m) = (xorL xs (errB n m)).set (d / 8) ((xorL xs (errB n m)).getD (d / 8) 0 ^^^ 2 ^ (d % 8)) := by
  rw [add_is_xor hn]
  apply List.ext_getElem?
  intro i
  by_cases hi : i < m
  · rw [xorL_get h hi, byte_flip, List.getElem?_set, xorL_len h]
    by_cases hj : d / 8 = i
    · subst hj
      rw [if_pos rfl, if_pos rfl, if_pos hd, List.getD_eq_getElem?_getD (l := xorL xs (errB n m)), xorL_get h hd, Option.getD_some, Nat.xor_assoc]
    · rw [if_neg hj, if_neg hj, xorL_get h hi, Nat.xor_zero]
  · rw [List.getElem?_eq_none (by rw [xorL_len h]; omega), List.getElem?_eq_none (by rw [List.length_set, xorL_len h]; omega)]
theorem xorL_zero {xs : List Nat} {m : Nat} (h : xs.length = m) : xorL xs (errB 0 m) = xs := by
  apply List.ext_getElem?
  intro i
  by_cases hi : i < m
  · rw [xorL_get h hi, Nat.zero_div, Nat.zero_mod, Nat.xor_zero, List.getElem?_eq_getElem (by omega)]
    simp [List.getD_eq_getElem?_getD, List.getElem?_eq_getElem (show i < xs.length by omega)]
  · rw [List.getElem?_eq_none (by rw [xorL_len h]; omega), List.getElem?_eq_none (by omega)]
theorem xorL_byte {xs : List Nat} {n m : Nat} (h : xs.length = m) (hx : ∀ x ∈ xs, x < 256) : ∀ x ∈ xorL xs (errB n m), x < 256 := by
  intro x hm
  obtain ⟨i, hi, rfl⟩ := List.getElem_of_mem hm
  have hi2 : i < m := by rw [xorL_len h] at hi; exact hi
  have e := xorL_get (n := n) h hi2
  rw [List.getElem?_eq_getElem hi] at e
  rw [Option.some.inj e]
  have h1 : xs.getD i 0 < 256 := byte_at hx i
  exact Nat.xor_lt_two_pow (n := 8) h1 (Nat.mod_lt _ (by decide))
theorem errB_four {a b c d : Nat} (ha : a < 256) (hb : b < 256) (hc : c < 256) (hd : d < 256) : errB (val4 [a, b, c, d]) 4 = [a, b, c, d] := by
  show [(a + b * 256 + c * 65536 + d * 16777216) % 256, (a + b * 256 + c * 65536 + d * 16777216) / 256 % 256, (a + b * 256 + c * 65536 + d * 16777216) / 256 / 256 % 256, (a + b * 256 + c * 65536 + d * 16777216) / 256 / 256 / 256 % 256] = _
  rw [show (a + b * 256 + c * 65536 + d * 16777216) % 256 = a by omega, show (a + b * 256 + c * 65536 + d * 16777216) / 256 % 256 = b by omega, show (a + b * 256 + c * 65536 + d * 16777216) / 256 / 256 % 256 = c by omega, show (a + b * 256 + c * 65536 + d * 16777216) / 256 / 256 / 256 % 256 = d by omega]
theorem errB_val {l : List Nat} (h : l.length = 4) (hl : ∀ x ∈ l, x < 256) : errB (val4 l) 4 = l := by
  match l, h with
  | [a, b, c, d], _ => exact errB_four (hl a (by simp)) (hl b (by simp)) (hl c (by simp)) (hl d (by simp))

/-- A seal with turned bits. -/
theorem unseal_burst {xs : List Nat} {d b : Nat} (hx : ∀ x ∈ xs, x < 256) (h : xs.length ≤ 2097152) (hb : b < 4294967296) (h0 : b ≠ 0) (hm : 2 ^ d * b < 256 ^ (xs.length + 4)) :
    (unsealR (uw xs.length ++ xorL (xs ++ le4 (sumOf xs)) (errB (2 ^ d * b) (xs.length + 4)))).2.2 = 24 := by
  have hlen : (xs ++ le4 (sumOf xs)).length = xs.length + 4 := by rw [List.length_append, le4_len]
  have hbody : ∀ x ∈ xs ++ le4 (sumOf xs), x < 256 := by
    intro x hm
    rcases List.mem_append.1 hm with hm | hm
    · exact hx x hm
    · exact le4_byte _ x hm
  have hT := xorL_len (n := 2 ^ d * b) hlen
  have hTb := xorL_byte (n := 2 ^ d * b) hlen hbody
  generalize hG : xorL (xs ++ le4 (sumOf xs)) (errB (2 ^ d * b) (xs.length + 4)) = T at hT hTb
  have ht : (T.take xs.length).length = xs.length := by rw [List.length_take]; omega
  have hd4 : (T.drop xs.length).length = 4 := by rw [List.length_drop]; omega
  have hne : val4 (T.drop xs.length) ≠ sumOf (T.take xs.length) := by
    refine burst_found (xs := xs) (d := d) (b := b) hx (fun x hm => hTb x (List.mem_of_mem_take hm)) hb h0 hm ?_
    rw [errB_val hd4 (fun x hm => hTb x (List.mem_of_mem_drop hm)), List.take_append_drop]
    exact hG.symm
  have hbr : bytesR (uw xs.length ++ T) 0 2097152 = (T.take xs.length, T.drop xs.length, 0) := by
    have := bytes_write (xs := T.take xs.length) (m := 2097152) (by omega) (by rw [mostN_frame]; omega) (T.drop xs.length)
    rw [ht, List.append_assoc, List.take_append_drop] at this
    exact this
  rw [unsealR, hbr]
  simp only
  rw [if_neg (by simp), if_neg (by omega), if_pos hne]
end Go.Proofs.Ytidnhldjnbpafab
