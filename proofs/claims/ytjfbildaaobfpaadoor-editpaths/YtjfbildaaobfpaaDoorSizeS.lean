/- letters.size. -/
import Derived.Test.YtjfbildaaobfpaaDoorRunes
namespace Go.Proofs.YtjfbildaaobfpaaDoor
open Go.RowKit Nums
set_option maxRecDepth 100000

set_option maxHeartbeats 400000 in
theorem size_any (r : Int) (w : World) (ht : Tabs w) : Calls Tryd.prog 45 #[.int .i32 r] w fun e w' => e = .returned (.int .i64 (sz r)) ∧ w' = w := by
  obtain ⟨_, _, _, _, _, t2, t3, t4⟩ := ht
  go_enter Tryd.func45, Tryd.ntmps45
  go_wp2
  go_loop [3] (fun n => ∃ k : Nat, 1 ≤ k ∧ k ≤ 4 ∧ n = .int .i64 k ∧ (2 ≤ k → 128 ≤ r) ∧ (3 ≤ k → 2048 ≤ r) ∧ (4 ≤ k → 65536 ≤ r)) (fun n => 4 - (intOf n).toNat)
  case atStart => exact ⟨1, by omega, by omega, rfl, by omega, by omega, by omega⟩
  case round =>
    obtain ⟨k, hk1, hk4, rfl, g2, g3, g4⟩ := hrel
    obtain rfl | rfl | rfl | rfl : k = 1 ∨ k = 2 ∨ k = 3 ∨ k = 4 := by omega
    · by_cases h : 128 ≤ r
      · go_wp2
        go_round
        case rel => exact ⟨2, by omega, by omega, rfl, by omega, by omega, by omega⟩
        case measure => simp [intOf]
      · go_wp2
        go_ret
        exact ⟨ret_int (by unfold sz; repeat' split; all_goals omega), rfl⟩
    · by_cases h : 2048 ≤ r
      · go_wp2
        go_round
        case rel => exact ⟨3, by omega, by omega, rfl, by omega, by omega, by omega⟩
        case measure => simp [intOf]
      · go_wp2
        go_ret
        exact ⟨ret_int (by unfold sz; repeat' split; all_goals omega), rfl⟩
    · by_cases h : 65536 ≤ r
      · go_wp2
        go_round
        case rel => exact ⟨4, by omega, by omega, rfl, by omega, by omega, by omega⟩
        case measure => simp [intOf]
      · go_wp2
        go_ret
        exact ⟨ret_int (by unfold sz; repeat' split; all_goals omega), rfl⟩
    · go_wp2
      go_ret
      exact ⟨ret_int (by unfold sz; repeat' split; all_goals omega), rfl⟩
end Go.Proofs.YtjfbildaaobfpaaDoor
