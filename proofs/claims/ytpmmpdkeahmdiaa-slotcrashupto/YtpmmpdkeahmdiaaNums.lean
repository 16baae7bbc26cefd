/- Numbers written in bytes, and read: plain mathematics. -/
import Derived.Test.YtpmmpdkeahmdiaaBase
namespace Go.Proofs.Ytpmmpdkeahmdiaa

/-- The writing of a number. -/
def uw (n : Nat) : List Nat := if n < 128 then [n] else (n % 128 + 128) :: uw (n / 128)
termination_by n

theorem uw_lt {n : Nat} (h : n < 128) : uw n = [n] := by rw [uw, if_pos h]
theorem uw_ge {n : Nat} (h : 128 ≤ n) : uw n = (n % 128 + 128) :: uw (n / 128) := by rw [uw, if_neg (by omega)]
theorem uw_len : ∀ (k n : Nat), n < 128 ^ k → 0 < k → 0 < (uw n).length ∧ (uw n).length ≤ k
  | 0, _, _, h => by omega
  | 1, n, h, _ => by rw [uw_lt (by simpa using h)]; simp
  | k + 2, n, h, _ => by
    by_cases h1 : n < 128
    · rw [uw_lt h1]; simp
    · rw [uw_ge (by omega)]
      have := uw_len (k + 1) (n / 128) (by rw [Nat.div_lt_iff_lt_mul (by decide)]; rw [Nat.pow_succ] at h; exact h) (by omega)
      simp only [List.length_cons]; omega
theorem uw_len10 {n : Nat} (h : n < 18446744073709551616) : 0 < (uw n).length ∧ (uw n).length ≤ 10 := uw_len 10 n (Nat.lt_of_lt_of_le h (by decide)) (by decide)
theorem uw_byte : ∀ (n : Nat), ∀ x ∈ uw n, x < 256 := by
  intro n
  induction n using Nat.strongRecOn with
  | _ n ih =>
    intro x hx
    by_cases h : n < 128
    · rw [uw_lt h] at hx; simp at hx; omega
    · rw [uw_ge (by omega)] at hx
      rcases List.mem_cons.1 hx with rfl | hx
      · omega
      · exact ih (n / 128) (by omega) x hx

/-- What bytes say as a number from place i on, where the places ahead say n: the number, how many bytes, what is amiss. -/
def num : List Nat → Nat → Nat → Nat × Nat × Nat
  | [], _, _ => (0, 0, 20)
  | c :: r, i, n =>
    if i = 9 ∧ 1 < c then (0, 0, 21) else if 0 < i ∧ c = 0 then (0, 0, 21)
    else if c < 128 then (n + c * 128 ^ i, i + 1, 0) else num r (i + 1) (n + (c - 128) * 128 ^ i)

/-- The same with a bound. -/
def front (xs : List Nat) (most : Nat) : Nat × Nat × Nat :=
  if (num xs 0 0).2.2 = 0 ∧ most < (num xs 0 0).1 then (0, 0, 22) else num xs 0 0

theorem num_form9 {c : Nat} {r : List Nat} {n : Nat} (h : 1 < c) : num (c :: r) 9 n = (0, 0, 21) := by rw [num, if_pos ⟨rfl, h⟩]
theorem num_form0 {r : List Nat} {i n : Nat} (h : 0 < i) : num (0 :: r) i n = (0, 0, 21) := by rw [num, if_neg (by omega), if_pos ⟨h, rfl⟩]
theorem num_last {c : Nat} {r : List Nat} {i n : Nat} (h : c < 128) (h9 : i = 9 → c ≤ 1) (h0 : 0 < i → c ≠ 0) : num (c :: r) i n = (n + c * 128 ^ i, i + 1, 0) := by
  rw [num, if_neg (by omega), if_neg (by omega), if_pos h]
theorem num_more {c : Nat} {r : List Nat} {i n : Nat} (h : 128 ≤ c) (h9 : i ≠ 9) : num (c :: r) i n = num r (i + 1) (n + (c - 128) * 128 ^ i) := by
  rw [num, if_neg (by omega), if_neg (by omega), if_neg (by omega)]

/-- What a reading tells: the size fits, the number is within 64 bits, a failing tells zeros. -/
theorem num_facts : ∀ (xs : List Nat) (i n : Nat), i ≤ 9 → n < 128 ^ i → (∀ x ∈ xs, x < 256) →
    ((num xs i n).2.2 = 0 → i < (num xs i n).2.1 ∧ (num xs i n).2.1 ≤ i + xs.length ∧ (num xs i n).2.1 ≤ 10 ∧ (num xs i n).1 < 18446744073709551616) ∧
    ((num xs i n).2.2 ≠ 0 → (num xs i n).1 = 0 ∧ (num xs i n).2.1 = 0 ∧ ((num xs i n).2.2 = 20 ∨ (num xs i n).2.2 = 21))
  | [], i, n, _, _, _ => by simp [num]
  | c :: r, i, n, hi, hn, hx => by
    rw [num]
    split
    · simp
    split
    · simp
    split
    · rename_i h1 h2 h3
      have hp : n + c * 128 ^ i < 18446744073709551616 := by
        by_cases h9 : i = 9
        · subst h9
          have hc : c ≤ 1 := by omega
          have : c * 128 ^ 9 ≤ 1 * 128 ^ 9 := Nat.mul_le_mul_right _ hc
          have e : (128 : Nat) ^ 9 = 9223372036854775808 := by decide
          omega
        · have : (c + 1) * 128 ^ i ≤ 128 * 128 ^ i := Nat.mul_le_mul_right _ (by omega)
          rw [Nat.add_mul] at this
          have e : 128 * 128 ^ i = 128 ^ (i + 1) := by rw [Nat.pow_succ, Nat.mul_comm]
          have e2 : (128 : Nat) ^ (i + 1) ≤ 128 ^ 9 := Nat.pow_le_pow_right (by decide) (by omega)
          have e3 : (128 : Nat) ^ 9 = 9223372036854775808 := by decide
          omega
      simp only [List.length_cons]
      exact ⟨fun _ => ⟨by omega, by omega, by omega, hp⟩, fun h => absurd rfl h⟩
    · rename_i h1 h2 h3
      have hc : c < 256 := hx c (by simp)
      have hi9 : i ≠ 9 := by omega
      have := num_facts r (i + 1) (n + (c - 128) * 128 ^ i) (by omega) (by
        have : (c - 128 + 1) * 128 ^ i ≤ 128 * 128 ^ i := Nat.mul_le_mul_right _ (by omega)
        rw [Nat.add_mul] at this
        rw [Nat.pow_succ, Nat.mul_comm (128 ^ i)]
        omega) (fun x h => hx x (by simp [h]))
      simp only [List.length_cons]
      exact ⟨fun h => by have := this.1 h; omega, this.2⟩

theorem front_facts (xs : List Nat) (most : Nat) (hx : ∀ x ∈ xs, x < 256) :
    ((front xs most).2.2 = 0 → 0 < (front xs most).2.1 ∧ (front xs most).2.1 ≤ xs.length ∧ (front xs most).2.1 ≤ 10 ∧ (front xs most).1 < 18446744073709551616 ∧ (front xs most).1 ≤ most ∧ front xs most = num xs 0 0) ∧
    ((front xs most).2.2 ≠ 0 → (front xs most).1 = 0 ∧ (front xs most).2.1 = 0 ∧ (front xs most).2.2 < 100) := by
  have h := num_facts xs 0 0 (by decide) (by decide) hx
  unfold front
  split
  · simp
  · rename_i h2
    refine ⟨fun h3 => ?_, fun h3 => ?_⟩
    · have := h.1 h3; exact ⟨by omega, by omega, by omega, by omega, by omega, rfl⟩
    · have := h.2 h3; exact ⟨by omega, by omega, by omega⟩

/-- What was written is read as it was, whatever stands behind. -/
theorem num_uw : ∀ (k m i n : Nat) (r : List Nat), i + k = 10 → m < 128 ^ k → (m * 128 ^ i < 18446744073709551616) → (0 < i → m ≠ 0) → num (uw m ++ r) i n = (n + m * 128 ^ i, i + (uw m).length, 0)
  | 0, m, i, n, r, hk, hm, hb, h0 => by
    have : m = 0 := by simpa using hm
    have := h0 (by omega); omega
  | k + 1, m, i, n, r, hk, hm, hb, h0 => by
    by_cases h : m < 128
    · rw [uw_lt h]
      simp only [List.cons_append, List.nil_append, List.length_singleton]
      refine num_last h (fun h9 => ?_) (fun hi => h0 hi)
      subst h9
      have e : (128 : Nat) ^ 9 = 9223372036854775808 := by decide
      rw [e] at hb; omega
    · have hi9 : i ≠ 9 := by
        intro h9; subst h9
        have e : (128 : Nat) ^ 9 = 9223372036854775808 := by decide
        rw [e] at hb; omega
      rw [uw_ge (by omega), List.cons_append, num_more (by omega) hi9]
      have e1 : m / 128 * 128 ^ (i + 1) + m % 128 * 128 ^ i = m * 128 ^ i := by
        rw [Nat.pow_succ, Nat.mul_comm (128 ^ i) 128, ← Nat.mul_assoc, ← Nat.add_mul]
        congr 1; omega
      rw [num_uw k (m / 128) (i + 1) _ r (by omega) (by rw [Nat.div_lt_iff_lt_mul (by decide)]; rw [Nat.pow_succ] at hm; exact hm) (by omega) (fun _ => by omega)]
      simp only [List.length_cons, Nat.add_sub_cancel]
      refine Prod.ext ?_ (Prod.ext ?_ rfl)
      · show n + m % 128 * 128 ^ i + m / 128 * 128 ^ (i + 1) = n + m * 128 ^ i
        omega
      · show i + 1 + (uw (m / 128)).length = i + ((uw (m / 128)).length + 1)
        omega
theorem num_write {m : Nat} (h : m < 18446744073709551616) (r : List Nat) : num (uw m ++ r) 0 0 = (m, (uw m).length, 0) := by
  have := num_uw 10 m 0 0 r rfl (Nat.lt_of_lt_of_le h (by decide)) (by simpa using h) (fun h => absurd h (by decide))
  simpa using this

/-- What was read is written as the same bytes. -/
theorem num_back : ∀ (xs : List Nat) (i n : Nat), n < 128 ^ i → (∀ x ∈ xs, x < 256) → (num xs i n).2.2 = 0 →
    ∃ m, (num xs i n).1 = n + m * 128 ^ i ∧ xs.take ((num xs i n).2.1 - i) = uw m ∧ (0 < i → m ≠ 0)
  | [], i, n, _, _, h => by simp [num] at h
  | c :: r, i, n, hn, hx, h => by
    rw [num] at h ⊢
    split at h
    · simp at h
    split at h
    · simp at h
    split at h
    · rename_i h1 h2 h3
      rw [if_neg h1, if_neg h2, if_pos h3]
      refine ⟨c, rfl, ?_, fun h0 => by omega⟩
      show List.take (i + 1 - i) (c :: r) = uw c
      rw [uw_lt h3, show i + 1 - i = 1 by omega]; rfl
    · rename_i h1 h2 h3
      rw [if_neg h1, if_neg h2, if_neg h3]
      have hc : c < 256 := hx c (by simp)
      have hn' : n + (c - 128) * 128 ^ i < 128 ^ (i + 1) := by
        have : (c - 128 + 1) * 128 ^ i ≤ 128 * 128 ^ i := Nat.mul_le_mul_right _ (by omega)
        rw [Nat.add_mul] at this
        rw [Nat.pow_succ, Nat.mul_comm (128 ^ i)]
        omega
      have hr : ∀ x ∈ r, x < 256 := fun x h => hx x (by simp [h])
      obtain ⟨m, e1, e2, e3⟩ := num_back r (i + 1) (n + (c - 128) * 128 ^ i) hn' hr h
      have hm := e3 (by omega)
      refine ⟨m * 128 + (c - 128), ?_, ?_, fun _ => by omega⟩
      · rw [e1, Nat.pow_succ, Nat.mul_comm (128 ^ i) 128, ← Nat.mul_assoc, Nat.add_assoc, ← Nat.add_mul, Nat.add_comm (c - 128)]
      · generalize num r (i + 1) (n + (c - 128) * 128 ^ i) = z at *
        have hz : i + 1 < z.2.1 := by
          rcases Nat.lt_or_ge (i + 1) z.2.1 with h | h
          · exact h
          · rw [show z.2.1 - (i + 1) = 0 by omega, List.take_zero] at e2
            have := congrArg List.length e2
            have h3 : 0 < (uw m).length := by unfold uw; split <;> simp
            simp only [List.length_nil] at this
            omega
        rw [show z.2.1 - i = (z.2.1 - (i + 1)) + 1 by omega, List.take_succ_cons, e2, uw_ge (n := m * 128 + (c - 128)) (by omega)]
        rw [show (m * 128 + (c - 128)) % 128 + 128 = c by omega, show (m * 128 + (c - 128)) / 128 = m by omega]
theorem num_again {xs : List Nat} (hx : ∀ x ∈ xs, x < 256) (h : (num xs 0 0).2.2 = 0) : uw (num xs 0 0).1 = xs.take (num xs 0 0).2.1 := by
  obtain ⟨m, e1, e2, _⟩ := num_back xs 0 0 (by decide) hx h
  rw [e1]; simpa using e2.symm
end Go.Proofs.Ytpmmpdkeahmdiaa
