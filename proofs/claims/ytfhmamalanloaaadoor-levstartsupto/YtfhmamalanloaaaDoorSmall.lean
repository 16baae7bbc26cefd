/- The small functions of letters and of its reference: what each of them returns. -/
import Derived.Test.YtfhmamalanloaaaDoorRows
import Derived.Test.YtfhmamalanloaaaDoorNums
import Derived.WalkKit
import Derived.ProofKit
import Derived.OpenShut
namespace Go.Proofs.YtfhmamalanloaaaDoor
open Go.RowKit Nums

set_option maxHeartbeats 400000 in
theorem isRune_any (r : Int) (w : World) : Calls Tryd.prog 32 #[.int .i32 r] w fun e w' => e = .returned (.bool (isR r)) ∧ w' = w := by
  by_cases h0 : 0 ≤ r
  · by_cases h1 : r < 1114112
    · by_cases h2 : r < 55296
      · go_enter Tryd.func32, Tryd.ntmps32
        go_wp2
        go_ret
        exact ⟨ret_bool (by first | (rw [isR_of (by omega)]) | (rw [isR_not (by omega)])), rfl⟩
      · by_cases h3 : 57343 < r
        all_goals
          go_enter Tryd.func32, Tryd.ntmps32
          go_wp2
          go_ret
          exact ⟨ret_bool (by first | (rw [isR_of (by omega)]) | (rw [isR_not (by omega)])), rfl⟩
    · go_enter Tryd.func32, Tryd.ntmps32
      go_wp2
      go_ret
      exact ⟨ret_bool (by first | (rw [isR_of (by omega)]) | (rw [isR_not (by omega)])), rfl⟩
  · go_enter Tryd.func32, Tryd.ntmps32
    go_wp2
    go_ret
    exact ⟨ret_bool (by first | (rw [isR_of (by omega)]) | (rw [isR_not (by omega)])), rfl⟩

theorem inWord_any (r : Int) (w : World) : Calls Tryd.prog 29 #[.int .i32 r] w fun e w' => e = .returned (.bool (vis r)) ∧ w' = w := by
  by_cases h0 : 32 < r
  all_goals
    go_enter Tryd.func29, Tryd.ntmps29
    go_wp2
    go_ret
    exact ⟨ret_bool (by rw [Bool.eq_iff_iff]; simp [vis]; try omega), rfl⟩

theorem leadSize_any (b : Int) (w : World) : Calls Tryd.prog 31 #[.int .u8 b] w fun e w' => e = .returned (.int .i64 (ldSz b)) ∧ w' = w := by
  by_cases h0 : b < 128
  · go_enter Tryd.func31, Tryd.ntmps31
    go_wp2
    go_ret
    exact ⟨ret_int (by unfold ldSz; repeat' split; all_goals omega), rfl⟩
  by_cases h1 : b < 192
  · go_enter Tryd.func31, Tryd.ntmps31
    go_wp2
    go_ret
    exact ⟨ret_int (by unfold ldSz; repeat' split; all_goals omega), rfl⟩
  by_cases h2 : b < 224
  · go_enter Tryd.func31, Tryd.ntmps31
    go_wp2
    go_ret
    exact ⟨ret_int (by unfold ldSz; repeat' split; all_goals omega), rfl⟩
  by_cases h3 : b < 240
  · go_enter Tryd.func31, Tryd.ntmps31
    go_wp2
    go_ret
    exact ⟨ret_int (by unfold ldSz; repeat' split; all_goals omega), rfl⟩
  by_cases h4 : b < 248
  · go_enter Tryd.func31, Tryd.ntmps31
    go_wp2
    go_ret
    exact ⟨ret_int (by unfold ldSz; repeat' split; all_goals omega), rfl⟩
  · go_enter Tryd.func31, Tryd.ntmps31
    go_wp2
    go_ret
    exact ⟨ret_int (by unfold ldSz; repeat' split; all_goals omega), rfl⟩

/-- The two tables lie in memory as the program's text lays them. -/
def Tabs (w : World) : Prop :=
  w.cell? ⟨0, 2, none⟩ = some (.int .u8 192) ∧ w.cell? ⟨0, 3, none⟩ = some (.int .u8 224) ∧ w.cell? ⟨0, 4, none⟩ = some (.int .u8 240) ∧
  w.cell? ⟨0, 1, none⟩ = some (.int .u8 0) ∧
  w.cell? ⟨1, 1, none⟩ = some (.int .i32 0) ∧ w.cell? ⟨1, 2, none⟩ = some (.int .i32 128) ∧ w.cell? ⟨1, 3, none⟩ = some (.int .i32 2048) ∧ w.cell? ⟨1, 4, none⟩ = some (.int .i32 65536)
end Go.Proofs.YtfhmamalanloaaaDoor
