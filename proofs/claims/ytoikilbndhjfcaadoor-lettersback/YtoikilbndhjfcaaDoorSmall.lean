/- The small functions of letters and of its reference: what each of them returns. -/
import Derived.Test.YtoikilbndhjfcaaDoorRows
import Derived.Test.YtoikilbndhjfcaaDoorNums
import Derived.WalkKit
import Derived.ProofKit
import Derived.OpenShut
namespace Go.Proofs.YtoikilbndhjfcaaDoor
open Go.RowKit Nums

set_option maxHeartbeats 400000 in
theorem isRune_any (r : Int) (w : World) : Calls Tryd.prog 21 #[.int .i32 r] w fun e w' => e = .returned (.bool (isR r)) ∧ w' = w := by
  by_cases h0 : 0 ≤ r
  · by_cases h1 : r < 1114112
    · by_cases h2 : r < 55296
      · go_enter Tryd.func21, Tryd.ntmps21
        go_wp2
        go_ret
        exact ⟨ret_bool (by first | (rw [isR_of (by omega)]) | (rw [isR_not (by omega)])), rfl⟩
      · by_cases h3 : 57343 < r
        all_goals
          go_enter Tryd.func21, Tryd.ntmps21
          go_wp2
          go_ret
          exact ⟨ret_bool (by first | (rw [isR_of (by omega)]) | (rw [isR_not (by omega)])), rfl⟩
    · go_enter Tryd.func21, Tryd.ntmps21
      go_wp2
      go_ret
      exact ⟨ret_bool (by first | (rw [isR_of (by omega)]) | (rw [isR_not (by omega)])), rfl⟩
  · go_enter Tryd.func21, Tryd.ntmps21
    go_wp2
    go_ret
    exact ⟨ret_bool (by first | (rw [isR_of (by omega)]) | (rw [isR_not (by omega)])), rfl⟩

theorem inWord_any (r : Int) (w : World) : Calls Tryd.prog 27 #[.int .i32 r] w fun e w' => e = .returned (.bool (vis r)) ∧ w' = w := by
  by_cases h0 : 32 < r
  all_goals
    go_enter Tryd.func27, Tryd.ntmps27
    go_wp2
    go_ret
    exact ⟨ret_bool (by rw [Bool.eq_iff_iff]; simp [vis]; try omega), rfl⟩

theorem leadSize_any (b : Int) (w : World) : Calls Tryd.prog 25 #[.int .u8 b] w fun e w' => e = .returned (.int .i64 (ldSz b)) ∧ w' = w := by
  by_cases h0 : b < 128
  · go_enter Tryd.func25, Tryd.ntmps25
    go_wp2
    go_ret
    exact ⟨ret_int (by unfold ldSz; repeat' split; all_goals omega), rfl⟩
  by_cases h1 : b < 192
  · go_enter Tryd.func25, Tryd.ntmps25
    go_wp2
    go_ret
    exact ⟨ret_int (by unfold ldSz; repeat' split; all_goals omega), rfl⟩
  by_cases h2 : b < 224
  · go_enter Tryd.func25, Tryd.ntmps25
    go_wp2
    go_ret
    exact ⟨ret_int (by unfold ldSz; repeat' split; all_goals omega), rfl⟩
  by_cases h3 : b < 240
  · go_enter Tryd.func25, Tryd.ntmps25
    go_wp2
    go_ret
    exact ⟨ret_int (by unfold ldSz; repeat' split; all_goals omega), rfl⟩
  by_cases h4 : b < 248
  · go_enter Tryd.func25, Tryd.ntmps25
    go_wp2
    go_ret
    exact ⟨ret_int (by unfold ldSz; repeat' split; all_goals omega), rfl⟩
  · go_enter Tryd.func25, Tryd.ntmps25
    go_wp2
    go_ret
    exact ⟨ret_int (by unfold ldSz; repeat' split; all_goals omega), rfl⟩

/-- The two tables lie in memory as the program's text lays them. -/
def Tabs (w : World) : Prop :=
  w.cell? ⟨0, 2, none⟩ = some (.int .u8 192) ∧ w.cell? ⟨0, 3, none⟩ = some (.int .u8 224) ∧ w.cell? ⟨0, 4, none⟩ = some (.int .u8 240) ∧
  w.cell? ⟨0, 1, none⟩ = some (.int .u8 0) ∧
  w.cell? ⟨1, 1, none⟩ = some (.int .i32 0) ∧ w.cell? ⟨1, 2, none⟩ = some (.int .i32 128) ∧ w.cell? ⟨1, 3, none⟩ = some (.int .i32 2048) ∧ w.cell? ⟨1, 4, none⟩ = some (.int .i32 65536)

set_option maxHeartbeats 400000 in
theorem size_any (r : Int) (w : World) (ht : Tabs w) : Calls Tryd.prog 28 #[.int .i32 r] w fun e w' => e = .returned (.int .i64 (sz r)) ∧ w' = w := by
  obtain ⟨_, _, _, _, _, t2, t3, t4⟩ := ht
  go_enter Tryd.func28, Tryd.ntmps28
  go_wp2
  go_loop [3] (fun n => ∃ k : Nat, 1 ≤ k ∧ k ≤ 4 ∧ n = .int .i64 k ∧ (2 ≤ k → 128 ≤ r) ∧ (3 ≤ k → 2048 ≤ r) ∧ (4 ≤ k → 65536 ≤ r)) (fun n => 4 - (intOf n).toNat)
  case atStart => exact ⟨1, by omega, by omega, rfl, by omega, by omega, by omega⟩
  case round =>
    obtain ⟨k, hk1, hk4, rfl, g2, g3, g4⟩ := hrel
    obtain rfl | rfl | rfl | rfl : k = 1 ∨ k = 2 ∨ k = 3 ∨ k = 4 := by omega
    · by_cases h : 128 ≤ r
      · go_wp2
        go_round
        case rel => exact ⟨2, by omega, by omega, rfl, by omega, by omega, by omega⟩
        case measure => simp [intOf]
      · go_wp2
        go_ret
        exact ⟨ret_int (by unfold sz; repeat' split; all_goals omega), rfl⟩
    · by_cases h : 2048 ≤ r
      · go_wp2
        go_round
        case rel => exact ⟨3, by omega, by omega, rfl, by omega, by omega, by omega⟩
        case measure => simp [intOf]
      · go_wp2
        go_ret
        exact ⟨ret_int (by unfold sz; repeat' split; all_goals omega), rfl⟩
    · by_cases h : 65536 ≤ r
      · go_wp2
        go_round
        case rel => exact ⟨4, by omega, by omega, rfl, by omega, by omega, by omega⟩
        case measure => simp [intOf]
      · go_wp2
        go_ret
        exact ⟨ret_int (by unfold sz; repeat' split; all_goals omega), rfl⟩
    · go_wp2
      go_ret
      exact ⟨ret_int (by unfold sz; repeat' split; all_goals omega), rfl⟩
end Go.Proofs.YtoikilbndhjfcaaDoor
