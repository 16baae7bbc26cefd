/- The reference's Number. -/
import Derived.Test.YtidnhldjnbpafaaFront
namespace Go.Proofs.Ytidnhldjnbpafaa
open Go.RowKit
set_option maxRecDepth 100000

theorem mul_step {k : Nat} (h : k < 9) : ((128 ^ k : Nat) : Int) * 128 = ((128 ^ (k + 1) : Nat) : Int) ∧ (128 : Nat) ^ k ≤ 72057594037927936 := by
  refine ⟨by rw [Nat.pow_succ]; push_cast; rfl, ?_⟩
  have : (128 : Nat) ^ k ≤ 128 ^ 8 := Nat.pow_le_pow_right (by decide) (by omega)
  exact Nat.le_trans this (by decide)

set_option maxHeartbeats 4000000 in
theorem refNumber_any (N : Nat) (v : Value) (xs : List Nat) (w : World) (hrow : Row N w v xs) (hx : ∀ x ∈ xs, x < 256) (hl : xs.length ≤ 140737488355328) :
    Calls Try.prog 29 #[v] w fun e w' => e = .returned (.tuple #[.int .u64 ((num xs 0 0).1 : Int), .int .i64 ((num xs 0 0).2.1 : Int), .int .i64 ((num xs 0 0).2.2 : Int)]) ∧ w' = w := by
  obtain ⟨ao, cap, rfl, hcap, hno, hcells⟩ := hrow
  have HC : Hid (0 < xs.length → ∃ b off, ao = some ⟨b, off, none⟩ ∧ b < N ∧ ∀ i, i < xs.length → w.cell? ⟨b, off + i, none⟩ = some (bv (xs.getD i 0))) := hcells
  have HX : Hid (∀ x ∈ xs, x < 256) := hx
  clear hcells hno hx
  go_enter Try.func29, Try.ntmps29
  go_wp2
  go_loop [5, 6, 7] (fun vn vp vk => ∃ k n p : Nat, k ≤ xs.length ∧ k ≤ 9 ∧ vk = .int .i64 (k : Int) ∧ vn = .int .u64 (n : Int) ∧ vp = .int .u64 (p : Int) ∧ p = 128 ^ k ∧ n < 128 ^ k ∧ num xs 0 0 = num (xs.drop k) k n)
    (fun _ _ vk => xs.length - (intOf vk).toNat)
  case atStart => exact ⟨0, 0, 1, Nat.zero_le _, by decide, rfl, rfl, rfl, rfl, by decide, rfl⟩
  case round =>
    obtain ⟨k, n, p, hk, hk9, rfl, rfl, rfl, hp, hn, heq⟩ := hrel
    have HE : Hid (num xs 0 0 = num (xs.drop k) k n) := heq
    have HN : Hid (n < 128 ^ k) := hn
    have HP : Hid (p = 128 ^ k) := hp
    clear heq
    by_cases hlt : k < xs.length
    · obtain ⟨b, off, rfl, _, hc⟩ := HC.out (by omega)
      have hck := hc k hlt
      have hb := byte_at HX.out k
      have HD : Hid (xs.drop k = xs.getD k 0 :: xs.drop (k + 1)) := by show _ = _; rw [List.drop_eq_getElem_cons hlt]; simp [List.getD_eq_getElem?_getD, List.getElem?_eq_getElem hlt]
      clear hc
      generalize xs.getD k 0 = c at hck hb HD
      by_cases h91 : k = 9 ∧ 1 < c
      · obtain ⟨rfl, h1⟩ := h91
        have HF : Hid (num xs 0 0 = (0, 0, 21)) := by show _ = _; rw [HE.out, HD.out]; exact num_form9 h1
        clear hp hn
        go_wp2
        go_ret3
        exact ⟨by rw [HF.out]; rfl, rfl⟩
      · have h9 : k = 9 → c ≤ 1 := by omega
        have hnx := num_next hk9 hn h9
        have hk9b : ¬ k = 9 ∨ c ≤ 1 := by omega
        by_cases h128 : c < 128
        · rw [show c % 128 = c by omega, ← hp] at hnx
          have hmul : ((c : Int) % 128) * (p : Int) = ((c * p : Nat) : Int) := by push_cast; rw [show (c : Int) % 128 = (c : Int) by omega]
          have h1 := hnx.1
          have h2 := hnx.2.2
          by_cases h0 : 0 < k ∧ c = 0
          · obtain ⟨hk0, rfl⟩ := h0
            have HF : Hid (num xs 0 0 = (0, 0, 21)) := by show _ = _; rw [HE.out, HD.out]; exact num_form0 hk0
            clear hp hn hnx h9 h91 hmul h1 h2 hk9b
            by_cases k9 : k = 9
            · subst k9
              go_wp2
              go_ret3
              exact ⟨by rw [HF.out]; rfl, rfl⟩
            · have hb9 : ((k : Int) == 9) = false := by simp; omega
              go_wp2
              go_ret3
              exact ⟨by rw [HF.out]; rfl, rfl⟩
          · have HF : Hid (num xs 0 0 = (n + c * p, k + 1, 0)) := by show _ = _; rw [HE.out, HD.out, HP.out]; exact num_last h128 h9 (by omega)
            by_cases hk0 : k = 0
            · subst hk0
              obtain rfl : p = 1 := hp
              obtain rfl : n = 0 := by simpa using hn
              rw [show 0 + c * 1 = c by omega] at HF
              clear hn hnx HP h91 h0 h1 h2 hmul
              have hcm : (c : Int) % 128 = (c : Int) := by omega
              have hck0 : w.cell? ⟨b, off, none⟩ = some (bv c) := hck
              by_cases hc0 : c = 0
              · subst hc0
                go_wp2
                go_ret3
                exact ⟨by rw [HF.out]; rfl, rfl⟩
              · have hcb : ((c : Int) == 0) = false := by simp; omega
                go_wp2
                go_ret3
                exact ⟨by rw [HF.out]; rfl, rfl⟩
            · have hcb : ((c : Int) == 0) = false := by simp; omega
              generalize hq : c * p = q at *
              clear hp hn hnx hq HP h91 h0
              by_cases k9 : k = 9
              · subst k9
                obtain rfl : c = 1 := by have := h9 rfl; simp at hcb; omega
                have hp1 : (p : Int) = (q : Int) := by simpa using hmul
                clear hmul hcb
                go_wp2
                go_ret3
                exact ⟨by rw [HF.out]; first | rfl | simp, rfl⟩
              · have hb9 : ((k : Int) == 9) = false := by simp; omega
                go_wp2
                go_ret3
                exact ⟨by rw [HF.out]; first | rfl | simp, rfl⟩
        · have hk8 : k < 9 := by omega
          obtain ⟨e1, e2⟩ := mul_step hk8
          have HF : Hid (num xs 0 0 = num (xs.drop (k + 1)) (k + 1) (n + (c - 128) * p)) := by show _ = _; rw [HE.out, HD.out, HP.out]; exact num_more (by omega) (by omega)
          have HP2 : Hid (128 ^ (k + 1) = 128 * p) := by show _ = _; rw [HP.out, Nat.pow_succ, Nat.mul_comm]
          rw [← hp] at e1 e2
          rw [show c % 128 = c - 128 by omega] at hnx
          have h3 := hnx.2.1 hk8
          have HL : Hid (n + (c - 128) * p < 128 ^ (k + 1)) := by show _ < _; rw [HP.out]; exact h3
          have hmul : ((c : Int) % 128) * (p : Int) = (((c - 128) * p : Nat) : Int) := by push_cast; rw [show (c : Int) % 128 = ((c - 128 : Nat) : Int) by omega]
          have h1 := hnx.1
          have h2 := hnx.2.2
          rw [← hp] at h1 h2
          generalize hq : (c - 128) * p = q at *
          clear hp hn hnx hq e1 h3 h91
          go_wp2
          go_round
          case rel => exact ⟨k + 1, n + q, 128 * p, by omega, by omega, by go_num, by go_num, by go_num, HP2.out.symm, HL.out, HF.out⟩
          case measure => simp [intOf]; omega
    · obtain rfl : k = xs.length := by omega
      have e1 := HE.out
      rw [List.drop_length, num] at e1
      have HF : Hid (num xs 0 0 = (0, 0, 20)) := e1
      clear e1 hp hn
      go_wp2
      go_ret3
      exact ⟨by rw [HF.out]; rfl, rfl⟩
end Go.Proofs.Ytidnhldjnbpafaa
