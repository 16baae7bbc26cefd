/- A seal, and its beginnings, unsealed: plain mathematics. -/
import Derived.Test.YtidnhldjnbpafabUnseal2
namespace Go.Proofs.Ytidnhldjnbpafab
open Go.RowKit

theorem le4_len (s : Nat) : (le4 s).length = 4 := rfl
theorem val4_le4 {s : Nat} (h : s < 4294967296) (r : List Nat) : val4 (le4 s ++ r) = s := by
  show s % 256 + s / 256 % 256 * 256 + s / 256 / 256 % 256 * 65536 + s / 256 / 256 / 256 % 256 * 16777216 = s
  omega
theorem mostN_frame : mostN 2097152 = 2097152 := by decide
/-- A seal with anything behind it. -/
theorem unseal_seal {xs : List Nat} (h : xs.length ≤ 2097152) (r : List Nat) : unsealR (sealOf xs ++ r) = (xs, (sealOf xs).length, 0) := by
  have hb : bytesR (sealOf xs ++ r) 0 2097152 = (xs, le4 (sumOf xs) ++ r, 0) := by
    have := bytes_write (xs := xs) (m := 2097152) (by omega) (by rw [mostN_frame]; exact h) (le4 (sumOf xs) ++ r)
    rw [sealOf, List.append_assoc]; exact this
  rw [unsealR, hb]
  simp only
  rw [if_neg (by simp), if_neg (by simp [le4_len]), val4_le4 sumOf_lt, if_neg (by simp)]
  simp only [List.length_append, le4_len]
  congr 2
  omega

/-- No shorter beginning of a number's writing is one. -/
theorem num_cut : ∀ (k m i n : Nat) (j : Nat), i + k = 10 → m < 128 ^ k → (m * 128 ^ i < 18446744073709551616) → (0 < i → m ≠ 0) → j < (uw m).length → num ((uw m).take j) i n = (0, 0, 20)
  | 0, m, i, n, j, hk, hm, hb, h0, hj => by
    have : m = 0 := by simpa using hm
    have := h0 (by omega); omega
  | k + 1, m, i, n, j, hk, hm, hb, h0, hj => by
    by_cases h : m < 128
    · rw [uw_lt h] at hj ⊢
      obtain rfl : j = 0 := by simpa using hj
      rfl
    · have hi9 : i ≠ 9 := by
        intro h9; subst h9
        have e : (128 : Nat) ^ 9 = 9223372036854775808 := by decide
        rw [e] at hb; omega
      have e1 : m / 128 * 128 ^ (i + 1) + m % 128 * 128 ^ i = m * 128 ^ i := by
        rw [Nat.pow_succ, Nat.mul_comm (128 ^ i) 128, ← Nat.mul_assoc, ← Nat.add_mul]
        congr 1; omega
      rw [uw_ge (by omega)] at hj ⊢
      cases j with
      | zero => rfl
      | succ j =>
        rw [List.take_succ_cons, num_more (by omega) hi9]
        exact num_cut k (m / 128) (i + 1) _ j (by omega) (by rw [Nat.div_lt_iff_lt_mul (by decide)]; rw [Nat.pow_succ] at hm; exact hm) (by omega) (fun _ => by omega) (by simpa using hj)

theorem unseal_cut {xs : List Nat} (h : xs.length ≤ 2097152) {n : Nat} (hn : n < (sealOf xs).length) : (unsealR ((sealOf xs).take n)).2.2 = 20 := by
  have hx64 : xs.length < 18446744073709551616 := by omega
  by_cases h1 : n < (uw xs.length).length
  · have ht : (sealOf xs).take n = (uw xs.length).take n := by rw [sealOf, List.append_assoc, List.take_append_of_le_length (by omega)]
    have hnum := num_cut 10 xs.length 0 0 n rfl (Nat.lt_of_lt_of_le hx64 (by decide)) (by simpa using hx64) (fun h => absurd h (by decide)) h1
    have hf : front ((uw xs.length).take n) (mostN 2097152) = (0, 0, 20) := by unfold front; rw [hnum, if_neg (by simp)]
    have hb : bytesR ((uw xs.length).take n) 0 2097152 = ([], (uw xs.length).take n, 20) := by rw [bytesR, if_neg (by simp), hf, if_pos (by simp)]; rfl
    rw [ht, unsealR, hb, if_pos (by simp)]
  · have hlen : (sealOf xs).length = (uw xs.length).length + xs.length + 4 := by rw [sealOf, List.length_append, List.length_append, le4_len]
    have ht : (sealOf xs).take n = uw xs.length ++ (xs ++ le4 (sumOf xs)).take (n - (uw xs.length).length) := by
      rw [sealOf, List.append_assoc, List.take_append, List.take_of_length_le (by omega)]
    have hf : front (uw xs.length ++ (xs ++ le4 (sumOf xs)).take (n - (uw xs.length).length)) (mostN 2097152) = (xs.length, (uw xs.length).length, 0) := front_write hx64 (by rw [mostN_frame]; exact h) _
    rw [ht]
    have hl2 : ((xs ++ le4 (sumOf xs)).take (n - (uw xs.length).length)).length = n - (uw xs.length).length := by
      rw [List.length_take, List.length_append, le4_len]; omega
    generalize (xs ++ le4 (sumOf xs)).take (n - (uw xs.length).length) = ts at hf hl2
    by_cases h2 : n - (uw xs.length).length < xs.length
    · have hb : bytesR (uw xs.length ++ ts) 0 2097152 = ([], uw xs.length ++ ts, 20) := by
        rw [bytesR, if_neg (by simp), hf, if_neg (by simp), if_pos (by rw [List.length_append, hl2]; show (uw xs.length).length + (n - (uw xs.length).length) - (uw xs.length).length < xs.length; omega)]
      rw [unsealR, hb, if_pos (by simp)]
    · have hb : (bytesR (uw xs.length ++ ts) 0 2097152).2 = (ts.drop xs.length, 0) := by
        rw [bytesR, if_neg (by simp), hf, if_neg (by simp), if_neg (by rw [List.length_append, hl2]; show ¬ (uw xs.length).length + (n - (uw xs.length).length) - (uw xs.length).length < xs.length; omega)]
        show (List.drop ((uw xs.length).length + xs.length) (uw xs.length ++ ts), (0 : Int)) = _
        rw [List.drop_append, List.drop_eq_nil_of_le (by omega), List.nil_append]
        congr 2; omega
      rw [unsealR, hb]
      simp only
      rw [if_neg (by simp), if_pos (by rw [List.length_drop, hl2]; omega)]
end Go.Proofs.Ytidnhldjnbpafab
