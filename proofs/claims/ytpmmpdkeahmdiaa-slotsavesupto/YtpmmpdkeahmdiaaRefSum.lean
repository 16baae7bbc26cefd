/- The reference's sum. -/
import Derived.Test.YtpmmpdkeahmdiaaSecAll
namespace Go.Proofs.Ytpmmpdkeahmdiaa
open Go.RowKit
set_option maxRecDepth 100000

set_option maxHeartbeats 2000000 in
theorem refSum_any (N : Nat) (v : Value) (xs : List Nat) (w : World) (hrow : Row N w v xs) (hx : ∀ x ∈ xs, x < 256) (hl : xs.length ≤ 140737488355328) :
    Calls Try.prog 80 #[v] w fun e w' => e = .returned (.int .u32 (sumOf xs : Int)) ∧ w' = w := by
  obtain ⟨ao, cap, rfl, hcap, hno, hcells⟩ := hrow
  have HC : Hid (0 < xs.length → ∃ b off, ao = some ⟨b, off, none⟩ ∧ b < N ∧ ∀ i, i < xs.length → w.cell? ⟨b, off + i, none⟩ = some (bv (xs.getD i 0))) := hcells
  have HX : Hid (∀ x ∈ xs, x < 256) := hx
  clear hcells hno hx
  go_enter Try.func80, Try.ntmps80
  go_wp2
  go_loop [3, 4] (fun vs vk => ∃ k s : Nat, k ≤ xs.length ∧ vk = .int .i64 (k : Int) ∧ vs = .int .u32 (s : Int) ∧ s < 4294967296 ∧ s = crc (xs.take k) 4294967295)
    (fun _ vk => xs.length - (intOf vk).toNat)
  case atStart => exact ⟨0, 4294967295, Nat.zero_le _, rfl, rfl, by decide, rfl⟩
  case round =>
    obtain ⟨k, s, hk, rfl, rfl, hs, heq⟩ := hrel
    have HE : Hid (s = crc (xs.take k) 4294967295) := heq
    clear heq
    by_cases hlt : k < xs.length
    · obtain ⟨b, off, rfl, _, hc⟩ := HC.out (by omega)
      have hck := hc k hlt
      have hb := byte_at HX.out k
      have HN : Hid (crc (xs.take (k + 1)) 4294967295 = byt (crc (xs.take k) 4294967295) (xs.getD k 0)) := crc_take hlt _
      clear hc
      generalize xs.getD k 0 = c at hck hb HN
      have hxor := u32_xor_nat s c hs (by omega)
      have hsc := xor_byte_lt hs hb
      have HT : Hid (byt s c = stps 8 (s ^^^ c)) := rfl
      generalize s ^^^ c = t at hxor hsc HT
      go_wp2
      go_loop [3, 5] (fun vs vj => ∃ j u : Nat, j ≤ 8 ∧ vj = .int .i64 (j : Int) ∧ vs = .int .u32 (u : Int) ∧ u < 4294967296 ∧ u = stps j t)
        (fun _ vj => 8 - (intOf vj).toNat)
      case atStart => exact ⟨0, t, Nat.zero_le _, rfl, rfl, hsc, rfl⟩
      case round =>
        obtain ⟨j, u, hj, rfl, rfl, hu, heu⟩ := hrel
        have HU : Hid (u = stps j t) := heu
        clear heu hxor
        by_cases hj8 : j < 8
        · have hand : (u : Int) % 2 = ((u % 2 : Nat) : Int) := by omega
          have hshr := shr1 u
          have hu2 : u / 2 < 4294967296 := by omega
          have HS : Hid (stps (j + 1) t = stp u) := by show stp (stps j t) = stp u; rw [← HU.out]
          by_cases hodd : u % 2 = 1
          · have hx2 := xorP hu2
            rw [hodd] at hand
            have HP : Hid (stp u = (u / 2) ^^^ 2197175160) := by show stp u = _; rw [stp, if_pos hodd]
            have hlt2 : (u / 2) ^^^ 2197175160 < 4294967296 := Nat.xor_lt_two_pow (n := 32) (by omega) (by decide)
            generalize hq : (u / 2) ^^^ 2197175160 = q at hx2 HP hlt2
            clear hq
            generalize hp : u / 2 = p at hshr hx2 hu2
            clear hp
            go_wp2
            go_round
            case rel => exact ⟨j + 1, q, by omega, by go_num, by go_num, hlt2, by rw [HS.out, HP.out]⟩
            case measure => simp [intOf]; omega
          · have h0 : u % 2 = 0 := by omega
            rw [h0] at hand
            have HP : Hid (stp u = u / 2) := by show stp u = _; rw [stp, if_neg hodd]
            generalize hp : u / 2 = p at hshr hu2 HP
            clear hp
            go_wp2
            go_round
            case rel => exact ⟨j + 1, p, by omega, by go_num, by go_num, by omega, by rw [HS.out, HP.out]⟩
            case measure => simp [intOf]; omega
        · obtain rfl : j = 8 := by omega
          go_wp2
          go_round
          case rel => exact ⟨k + 1, u, by omega, by go_num, rfl, hu, by rw [HN.out, ← HE.out, HT.out, HU.out]⟩
          case measure => simp [intOf]; omega
    · obtain rfl : k = xs.length := by omega
      have hnot : (4294967295 : Int) - (s : Int) = ((4294967295 - s : Nat) : Int) := by omega
      have HF : Hid ((4294967295 - s : Nat) = sumOf xs) := by have := HE.out; rw [List.take_length] at this; unfold sumOf; rw [← this]; rfl
      generalize hq : (4294967295 - s : Nat) = q at hnot HF
      clear hq
      go_wp2
      go_ret
      exact ⟨by rw [← HF.out]; first | rfl | (simp only [← hnot]; rfl), rfl⟩
end Go.Proofs.Ytpmmpdkeahmdiaa
