/- codec.placeFault, codec.frontUint: the number with whose writing bytes begin. -/
import Derived.Test.YtidnhldjnbpafaaSum
namespace Go.Proofs.Ytidnhldjnbpafaa
open Go.RowKit
set_option maxRecDepth 100000

def fault (p c : Nat) : Nat := if p = 9 ∧ 1 < c then 21 else if 0 < p ∧ c = 0 then 21 else 0

theorem placeFault_any (p c : Nat) (w : World) (hp : p ≤ 140737488355328) (hc : c < 256) : Calls Try.prog 31 #[.int .i64 (p : Int), bv c] w fun e w' => e = .returned (.int .i64 (fault p c : Int)) ∧ w' = w := by
  by_cases h1 : p = 9
  · subst h1
    by_cases h2 : 1 < c
    · have HF : Hid (fault 9 c = 21) := by show fault 9 c = 21; rw [fault, if_pos ⟨rfl, h2⟩]
      go_enter Try.func31, Try.ntmps31
      go_wp2
      go_ret
      exact ⟨by rw [HF.out]; rfl, rfl⟩
    · by_cases h3 : c = 0
      · subst h3
        go_enter Try.func31, Try.ntmps31
        go_wp2
        go_ret
        exact ⟨rfl, rfl⟩
      · obtain rfl : c = 1 := by omega
        go_enter Try.func31, Try.ntmps31
        go_wp2
        go_ret
        exact ⟨rfl, rfl⟩
  · have hb : ((p : Int) == 9) = false := by simp; omega
    by_cases h2 : 0 < p
    · by_cases h3 : c = 0
      · subst h3
        have HF : Hid (fault p 0 = 21) := by show fault p 0 = 21; rw [fault, if_neg (by omega), if_pos ⟨h2, rfl⟩]
        go_enter Try.func31, Try.ntmps31
        go_wp2
        go_ret
        exact ⟨by rw [HF.out]; rfl, rfl⟩
      · have HF : Hid (fault p c = 0) := by show fault p c = 0; rw [fault, if_neg (by omega), if_neg (by omega)]
        have hc0 : ((c : Int) == 0) = false := by simp; omega
        go_enter Try.func31, Try.ntmps31
        go_wp2
        go_ret
        exact ⟨by rw [HF.out]; rfl, rfl⟩
    · obtain rfl : p = 0 := by omega
      have HF : Hid (fault 0 c = 0) := by show fault 0 c = 0; rw [fault, if_neg (by omega), if_neg (by omega)]
      go_enter Try.func31, Try.ntmps31
      go_wp2
      go_ret
      exact ⟨by rw [HF.out]; rfl, rfl⟩

theorem num_fault {c : Nat} {r : List Nat} {i n : Nat} (h : fault i c ≠ 0) : num (c :: r) i n = (0, 0, 21) ∧ fault i c = 21 := by
  unfold fault at *
  by_cases h1 : i = 9 ∧ 1 < c
  · rw [if_pos h1] at *; exact ⟨by rw [num, if_pos h1], rfl⟩
  · rw [if_neg h1] at *
    by_cases h2 : 0 < i ∧ c = 0
    · rw [if_pos h2] at *; exact ⟨by rw [num, if_neg h1, if_pos h2], rfl⟩
    · rw [if_neg h2] at h; exact absurd rfl h
theorem num_well {c : Nat} {r : List Nat} {i n : Nat} (h : fault i c = 0) : num (c :: r) i n = if c < 128 then (n + c * 128 ^ i, i + 1, 0) else num r (i + 1) (n + (c - 128) * 128 ^ i) := by
  unfold fault at h
  by_cases h1 : i = 9 ∧ 1 < c
  · rw [if_pos h1] at h; omega
  · rw [if_neg h1] at h
    by_cases h2 : 0 < i ∧ c = 0
    · rw [if_pos h2] at h; omega
    · rw [num, if_neg h1, if_neg h2]
theorem wrapU {x : Int} (h0 : 0 ≤ x) (h1 : x < 18446744073709551616) : IntKind.u64.wrap x = x := by
  simp [IntKind.wrap, IntKind.bits, IntKind.signed]; omega
/-- The number one byte on stays within its bits. -/
theorem num_next {i n c : Nat} (hi : i ≤ 9) (hn : n < 128 ^ i) (h9 : i = 9 → c ≤ 1) : n + c % 128 * 128 ^ i < 18446744073709551616 ∧ (i < 9 → n + c % 128 * 128 ^ i < 128 ^ (i + 1)) ∧ c % 128 * 128 ^ i < 18446744073709551616 := by
  by_cases e9 : i = 9
  · subst e9
    have hc := h9 rfl
    have : c % 128 * 128 ^ 9 ≤ 1 * 128 ^ 9 := Nat.mul_le_mul_right _ (by omega)
    have e : (128 : Nat) ^ 9 = 9223372036854775808 := by decide
    omega
  · have : (c % 128 + 1) * 128 ^ i ≤ 128 * 128 ^ i := Nat.mul_le_mul_right _ (by omega)
    rw [Nat.add_mul] at this
    have e : 128 * 128 ^ i = 128 ^ (i + 1) := by rw [Nat.pow_succ, Nat.mul_comm]
    have e2 : (128 : Nat) ^ (i + 1) ≤ 128 ^ 9 := Nat.pow_le_pow_right (by decide) (by omega)
    have e3 : (128 : Nat) ^ 9 = 9223372036854775808 := by decide
    omega
theorem pow7 (i : Nat) : (2 : Nat) ^ (7 * i) = 128 ^ i := by rw [Nat.pow_mul]
theorem or_next {i n c : Nat} (hi : i ≤ 9) (hn : n < 128 ^ i) (h9 : i = 9 → c ≤ 1) :
    bits .or .u64 (n : Int) (IntKind.u64.wrap (((c : Int) % 128) * 2 ^ (7 * i))) = ((n + c % 128 * 128 ^ i : Nat) : Int) := by
  obtain ⟨h1, _, h3⟩ := num_next hi hn h9
  have e : ((c : Int) % 128) * 2 ^ (7 * i) = ((c % 128 * 128 ^ i : Nat) : Int) := by rw [← pow7]; push_cast; rfl
  rw [e, wrapU (by omega) (by omega), u64_or_nat _ _ (by omega) h3]
  congr 1
  rw [← pow7] at *
  rw [Nat.or_comm, Nat.mul_comm, ← Nat.two_pow_add_eq_or_of_lt hn]
  omega

set_option maxHeartbeats 4000000 in
theorem frontUint_any (N : Nat) (v : Value) (xs : List Nat) (most : Nat) (w : World) (hrow : Row N w v xs) (hx : ∀ x ∈ xs, x < 256) (hl : xs.length ≤ 140737488355328) :
    Calls Try.prog 30 #[v, .int .u64 (most : Int)] w fun e w' => e = .returned (.tuple #[.int .u64 ((front xs most).1 : Int), .int .i64 ((front xs most).2.1 : Int), .int .i64 ((front xs most).2.2 : Int)]) ∧ w' = w := by
  obtain ⟨ao, cap, rfl, hcap, hno, hcells⟩ := hrow
  have HC : Hid (0 < xs.length → ∃ b off, ao = some ⟨b, off, none⟩ ∧ b < N ∧ ∀ i, i < xs.length → w.cell? ⟨b, off + i, none⟩ = some (bv (xs.getD i 0))) := hcells
  have HX : Hid (∀ x ∈ xs, x < 256) := hx
  clear hcells hno hx
  go_enter Try.func30, Try.ntmps30
  go_wp2
  go_loop [7, 13] (fun vn vk => ∃ k n : Nat, k ≤ xs.length ∧ k ≤ 9 ∧ vk = .int .i64 (k : Int) ∧ vn = .int .u64 (n : Int) ∧ n < 128 ^ k ∧ num xs 0 0 = num (xs.drop k) k n)
    (fun _ vk => xs.length - (intOf vk).toNat)
  case atStart => exact ⟨0, 0, Nat.zero_le _, by decide, rfl, rfl, by decide, rfl⟩
  case round =>
    obtain ⟨k, n, hk, hk9, rfl, rfl, hn, heq⟩ := hrel
    have HE : Hid (num xs 0 0 = num (xs.drop k) k n) := heq
    have HN : Hid (n < 128 ^ k) := hn
    clear heq
    by_cases hlt : k < xs.length
    · obtain ⟨b, off, rfl, _, hc⟩ := HC.out (by omega)
      have hck := hc k hlt
      have hb := byte_at HX.out k
      have HD : Hid (xs.drop k = xs.getD k 0 :: xs.drop (k + 1)) := by show _ = _; rw [List.drop_eq_getElem_cons hlt]; simp [List.getD_eq_getElem?_getD, List.getElem?_eq_getElem hlt]
      clear hc
      generalize xs.getD k 0 = c at hck hb HD
      by_cases hf : fault k c = 0
      · have HF : Hid (fault k c = 0) := hf
        have h9 : k = 9 → c ≤ 1 := by
          intro e; subst e
          rcases Nat.lt_or_ge 1 c with h | h
          · rw [fault, if_pos ⟨rfl, h⟩] at hf; omega
          · exact h
        have hor := or_next hk9 hn h9
        have hnx := num_next hk9 hn h9
        have hW := num_well (r := xs.drop (k + 1)) (n := n) hf
        rw [← HD.out] at hW
        have HW : Hid (num (xs.drop k) k n = if c < 128 then (n + c * 128 ^ k, k + 1, 0) else num (xs.drop (k + 1)) (k + 1) (n + (c - 128) * 128 ^ k)) := hW
        clear hW hf
        by_cases h128 : c < 128
        · have hV := HW.out
          rw [if_pos h128, ← HE.out] at hV
          rw [show c % 128 = c by omega] at hor hnx
          have hor2 := hor
          rw [show (c : Int) % 128 = (c : Int) by omega] at hor2
          generalize hq : n + c * 128 ^ k = q at *
          have HV : Hid (num xs 0 0 = (q, k + 1, 0)) := hV
          have hq64 := hnx.1
          clear hV hnx hn hq HW
          by_cases hmost : most < q
          · have HFR : Hid (front xs most = (0, 0, 22)) := by show front xs most = _; unfold front; rw [HV.out, if_pos ⟨rfl, hmost⟩]
            go_wp2_with (go_at_call 31; refine (placeFault_any k c _ (by omega) hb).mono ?_; rintro e w' ⟨rfl, rfl⟩; rw [HF.out])
            go_ret3
            exact ⟨by rw [HFR.out]; rfl, rfl⟩
          · have HFR : Hid (front xs most = (q, k + 1, 0)) := by show front xs most = _; unfold front; rw [HV.out, if_neg (fun h => hmost h.2)]
            go_wp2_with (go_at_call 31; refine (placeFault_any k c _ (by omega) hb).mono ?_; rintro e w' ⟨rfl, rfl⟩; rw [HF.out])
            go_ret3
            exact ⟨by rw [HFR.out]; rfl, rfl⟩
        · have hV := HW.out
          rw [if_neg h128, ← HE.out] at hV
          have hk8 : k < 9 := by
            rcases Nat.lt_or_ge k 9 with h | h
            · exact h
            · have := h9 (by omega); omega
          rw [show c % 128 = c - 128 by omega] at hor hnx
          have hlt2 := hnx.2.1 hk8
          generalize hq : n + (c - 128) * 128 ^ k = q at *
          have HV : Hid (num xs 0 0 = num (xs.drop (k + 1)) (k + 1) q) := hV
          have HL : Hid (q < 128 ^ (k + 1)) := hlt2
          clear hV hnx hn hq HW hlt2
          go_wp2_with (go_at_call 31; refine (placeFault_any k c _ (by omega) hb).mono ?_; rintro e w' ⟨rfl, rfl⟩; rw [HF.out])
          go_round
          case rel => exact ⟨k + 1, q, by omega, by omega, by go_num, by go_num, HL.out, HV.out⟩
          case measure => simp [intOf]; omega
      · obtain ⟨e1, e2⟩ := num_fault (r := xs.drop (k + 1)) (n := n) hf
        rw [← HD.out, ← HE.out] at e1
        have HFR : Hid (front xs most = (0, 0, 21)) := by show front xs most = _; unfold front; rw [e1, if_neg (fun h => by simp at h)]
        have HF : Hid (fault k c = 21) := e2
        clear e1 e2 hf
        go_wp2_with (go_at_call 31; refine (placeFault_any k c _ (by omega) hb).mono ?_; rintro e w' ⟨rfl, rfl⟩; rw [HF.out])
        go_ret3
        exact ⟨by rw [HFR.out]; rfl, rfl⟩
    · obtain rfl : k = xs.length := by omega
      have e1 := HE.out
      rw [List.drop_length, num] at e1
      have HFR : Hid (front xs most = (0, 0, 20)) := by show front xs most = _; unfold front; rw [e1, if_neg (fun h => by simp at h)]
      clear e1
      go_wp2
      go_ret3
      exact ⟨by rw [HFR.out]; rfl, rfl⟩
end Go.Proofs.Ytidnhldjnbpafaa
