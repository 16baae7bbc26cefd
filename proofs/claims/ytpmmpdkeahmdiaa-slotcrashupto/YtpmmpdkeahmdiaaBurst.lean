/- Why turned bits within 32 neighbours are found: the register as a number. -/
import Derived.Test.YtpmmpdkeahmdiaaCrc
namespace Go.Proofs.Ytpmmpdkeahmdiaa

theorem half_xor (a b : Nat) : (a ^^^ b) / 2 = a / 2 ^^^ b / 2 := by
  apply Nat.eq_of_testBit_eq
  intro i
  simp [Nat.testBit_xor, ← Nat.testBit_add_one]
theorem stp_odd {a : Nat} (h : a % 2 = 1) : stp a = a / 2 ^^^ 2197175160 := by rw [stp, if_pos h]
theorem stp_even {a : Nat} (h : a % 2 = 0) : stp a = a / 2 := by rw [stp, if_neg (by omega)]
theorem xor_par (a b : Nat) : (a ^^^ b) % 2 = (a + b) % 2 := by
  have h : decide ((a ^^^ b) % 2 = 1) = (decide (a % 2 = 1) ^^ decide (b % 2 = 1)) := by
    rw [← Nat.testBit_zero, ← Nat.testBit_zero, ← Nat.testBit_zero, Nat.testBit_xor]
  generalize a ^^^ b = x at h ⊢
  rcases Nat.mod_two_eq_zero_or_one a with ha | ha <;> rcases Nat.mod_two_eq_zero_or_one b with hb | hb <;> rcases Nat.mod_two_eq_zero_or_one x with hx | hx <;> rw [ha, hb, hx] at h <;>
    first | omega | exact absurd h (by decide)
theorem stp_xor (a b : Nat) : stp (a ^^^ b) = stp a ^^^ stp b := by
  have hp := xor_par a b
  have e : ∀ x y z : Nat, (x ^^^ z) ^^^ (y ^^^ z) = x ^^^ y := fun x y z => by
    rw [Nat.xor_assoc, Nat.xor_comm y z, ← Nat.xor_assoc z z y, Nat.xor_self, Nat.zero_xor]
  rcases Nat.mod_two_eq_zero_or_one a with ha | ha <;> rcases Nat.mod_two_eq_zero_or_one b with hb | hb
  · rw [stp_even ha, stp_even hb, stp_even (by omega), half_xor]
  · rw [stp_even ha, stp_odd hb, stp_odd (by omega), half_xor, Nat.xor_assoc]
  · rw [stp_odd ha, stp_even hb, stp_odd (by omega), half_xor, Nat.xor_assoc, Nat.xor_comm (b / 2), ← Nat.xor_assoc]
  · rw [stp_odd ha, stp_odd hb, stp_even (by omega), half_xor, e]
theorem stps_xor (k a b : Nat) : stps k (a ^^^ b) = stps k a ^^^ stps k b := by
  induction k with
  | zero => rfl
  | succ k ih => show stp (stps k (a ^^^ b)) = _; rw [ih, stp_xor]; rfl
theorem stps_succ (k s : Nat) : stps (k + 1) s = stps k (stp s) := by
  induction k with
  | zero => rfl
  | succ k ih => show stp (stps (k + 1) s) = stp (stps k (stp s)); rw [ih]
theorem stps_add (j k s : Nat) : stps (j + k) s = stps j (stps k s) := by
  induction j with
  | zero => rw [Nat.zero_add]; rfl
  | succ j ih => rw [Nat.succ_add]; show stp (stps (j + k) s) = stp (stps j (stps k s)); rw [ih]
theorem stps_pow (k y : Nat) : stps k (2 ^ k * y) = y := by
  induction k with
  | zero => simp [stps]
  | succ k ih =>
    rw [stps_succ, Nat.pow_succ, Nat.mul_right_comm, stp_even (by omega), Nat.mul_div_cancel _ (by decide), ih]
theorem stp_ne {s : Nat} (h : s < 4294967296) (h0 : s ≠ 0) : stp s ≠ 0 := by
  rcases Nat.mod_two_eq_zero_or_one s with hs | hs
  · rw [stp_even hs]; omega
  · rw [stp_odd hs]
    intro e
    have h1 : s / 2 = 2197175160 := by
      have := congrArg (· ^^^ 2197175160) e
      simpa [Nat.xor_assoc] using this
    omega
theorem stps_ne (k : Nat) {s : Nat} (h : s < 4294967296) (h0 : s ≠ 0) : stps k s ≠ 0 := by
  induction k with
  | zero => exact h0
  | succ k ih => exact stp_ne (stps_lt k h) ih

/-- A number's bytes, the lowest first. -/
def errB : Nat → Nat → List Nat
  | _, 0 => []
  | n, m + 1 => n % 256 :: errB (n / 256) m
theorem errB_len (n m : Nat) : (errB n m).length = m := by
  induction m generalizing n with
  | zero => rfl
  | succ m ih => simp [errB, ih]
theorem split_byte (n : Nat) : n = n % 256 ^^^ 256 * (n / 256) := by
  apply Nat.eq_of_testBit_eq
  intro i
  rw [Nat.testBit_xor, show (256 : Nat) = 2 ^ 8 by decide, Nat.testBit_mod_two_pow, Nat.testBit_two_pow_mul, Nat.testBit_div_two_pow]
  by_cases hi : i < 8
  · simp [hi, show ¬ 8 ≤ i by omega]
  · simp [hi, show 8 ≤ i by omega]
/-- Going through a number's bytes is going through its bits. -/
theorem crc_num (m : Nat) : ∀ (n s : Nat), n < 256 ^ m → crc (errB n m) s = stps (8 * m) (s ^^^ n) := by
  induction m with
  | zero =>
    intro n s h
    obtain rfl : n = 0 := by simpa using h
    rw [Nat.xor_zero]; rfl
  | succ m ih =>
    intro n s h
    have hd : n / 256 < 256 ^ m := by rw [Nat.div_lt_iff_lt_mul (by decide)]; rw [Nat.pow_succ] at h; exact h
    show crc (errB (n / 256) m) (byt s (n % 256)) = _
    rw [ih _ _ hd, show 8 * (m + 1) = 8 * m + 8 by omega, stps_add]
    congr 1
    have hs : s ^^^ n = (s ^^^ n % 256) ^^^ 2 ^ 8 * (n / 256) := by
      rw [Nat.xor_assoc]
      congr 1
      exact split_byte n
    rw [hs, stps_xor, stps_pow]
    rfl
/-- Bits that are turned leave a trace. -/
theorem crc_burst {m d b : Nat} (hb : b < 4294967296) (h0 : b ≠ 0) (hm : 2 ^ d * b < 256 ^ m) : crc (errB (2 ^ d * b) m) 0 ≠ 0 := by
  rw [crc_num m _ _ hm, Nat.zero_xor]
  have hd : d ≤ 8 * m := by
    rcases Nat.lt_or_ge (8 * m) d with h | h
    · have h1 : 2 ^ (8 * m) < 2 ^ d := Nat.pow_lt_pow_right (by decide) h
      have h2 : 2 ^ d * 1 ≤ 2 ^ d * b := Nat.mul_le_mul_left _ (by omega)
      rw [show (256 : Nat) = 2 ^ 8 by decide, ← Nat.pow_mul] at hm
      omega
    · exact h
  rw [show 8 * m = (8 * m - d) + d by omega, stps_add, stps_pow]
  exact stps_ne _ hb h0

/-- Two rows of bytes, xored. -/
def xorL (xs es : List Nat) : List Nat := List.zipWith (fun a b => a ^^^ b) xs es
theorem byt_xor (s t c d : Nat) : byt (s ^^^ t) (c ^^^ d) = byt s c ^^^ byt t d := by
  unfold byt
  rw [← stps_xor]
  congr 1
  rw [Nat.xor_assoc, Nat.xor_assoc]
  congr 1
  rw [← Nat.xor_assoc, Nat.xor_comm t c, Nat.xor_assoc]
theorem crc_xor : ∀ (xs es : List Nat) (s t : Nat), xs.length = es.length → crc (xorL xs es) (s ^^^ t) = crc xs s ^^^ crc es t
  | [], [], _, _, _ => rfl
  | [], _ :: _, _, _, h => by simp at h
  | _ :: _, [], _, _, h => by simp at h
  | x :: xs, e :: es, s, t, h => by
    show crc (xorL xs es) (byt (s ^^^ t) (x ^^^ e)) = crc xs (byt s x) ^^^ crc es (byt t e)
    rw [byt_xor]
    exact crc_xor xs es _ _ (by simpa using h)
theorem crc_append (xs ys : List Nat) (s : Nat) : crc (xs ++ ys) s = crc ys (crc xs s) := by unfold crc; rw [List.foldl_append]

/-- Bytes with their sum behind them all end alike. -/
theorem crc_sealed {xs : List Nat} (hx : ∀ x ∈ xs, x < 256) : crc (xs ++ errB (sumOf xs) 4) 4294967295 = stps 32 4294967295 := by
  rw [crc_append, crc_num 4 _ _ (Nat.lt_of_lt_of_le sumOf_lt (by decide))]
  congr 1
  have hlt := crc_lt xs 4294967295 (by decide) hx
  unfold sumOf
  rw [← turn_all hlt, Nat.xor_comm 4294967295, ← Nat.xor_assoc, Nat.xor_self, Nat.zero_xor]
/-- What was sealed, and turned within 32 neighbours, is not sealed. -/
theorem burst_found {xs ys : List Nat} {v d b : Nat} (hx : ∀ x ∈ xs, x < 256) (hy : ∀ x ∈ ys, x < 256) (hb : b < 4294967296) (h0 : b ≠ 0)
    (hm : 2 ^ d * b < 256 ^ (xs.length + 4)) (he : ys ++ errB v 4 = xorL (xs ++ errB (sumOf xs) 4) (errB (2 ^ d * b) (xs.length + 4))) : v ≠ sumOf ys := by
  rintro rfl
  have h1 := crc_sealed hx
  have h2 := crc_sealed hy
  rw [he] at h2
  have h3 := crc_xor (xs ++ errB (sumOf xs) 4) (errB (2 ^ d * b) (xs.length + 4)) 4294967295 0 (by rw [List.length_append, errB_len, errB_len])
  rw [Nat.xor_zero, h2, h1] at h3
  have h4 : crc (errB (2 ^ d * b) (xs.length + 4)) 0 = 0 := by
    have := congrArg (fun z => stps 32 4294967295 ^^^ z) h3
    simp only [Nat.xor_self, ← Nat.xor_assoc, Nat.zero_xor] at this
    exact this.symm
  exact crc_burst hb h0 hm h4
end Go.Proofs.Ytpmmpdkeahmdiaa
