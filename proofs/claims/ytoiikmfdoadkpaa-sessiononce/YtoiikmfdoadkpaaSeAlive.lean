/- alive. -/
import Derived.Test.YtoiikmfdoadkpaaSeDoes
import Derived.Test.YtoiikmfdoadkpaaSeLoad
namespace Go.Proofs.Ytoiikmfdoadkpaa
open Go.RowKit Go.Lib
set_option maxRecDepth 100000
namespace Se
theorem new_B (w : World) : ∃ B, Hid (w.heap.size = B) ∧ Calls Try.prog 9 #[] w fun e w' => e = .returned (.pointer (some ⟨B, 0, none⟩)) ∧ TAt B w' B (.slice none 0 0) [] ∧ Below B w w' := ⟨_, rfl, New_any w⟩
attribute [local go_sem ↓] exec_load_A exec_store_A
set_option maxHeartbeats 2000000 in
theorem alive_any (w : World) : Calls Try.prog 10 #[] w fun e w' => e = .returned (.bool true) ∧ Below w.heap.size w w' := by
  obtain ⟨B, hB⟩ : ∃ B, w.heap.size = B := ⟨_, rfl⟩
  have HB : Hid (w.heap.size = B) := hB
  have HN : Hid (Calls Try.prog 9 #[] w fun e w' => e = .returned (.pointer (some ⟨B, 0, none⟩)) ∧ TAt B w' B (.slice none 0 0) [] ∧ Below B w w') := by rw [← hB]; exact New_any w
  rw [hB]
  clear hB
  go_enter Try.func10, Try.ntmps10
  go_wp2_with (first
    | (go_at_call 9; go_loud (refine HN.out.mono ?_; rintro e w1 ⟨rfl, hT1, hb1⟩; have H1 : Hid (TAt B w1 B (.slice none 0 0) [] ∧ Below B w w1) := ⟨hT1, hb1⟩; clear hT1 hb1 HN))
    | (go_at_call 16; go_loud (refine (Open_any _ _ _ _ _ H1.out.1 (by simp)).mono ?_; rintro e w2 ⟨he, v2, hT2, hu2, _⟩; obtain rfl : e = .returned (.tuple #[.int .u64 1, .int .i64 0]) := he; have H2 : Hid (TAt B w2 B v2 [r0] ∧ Below B w w2) := ⟨hT2, H1.out.2.trans (hu2.below (fun k hk => TF.low H1.out.1 hk) (by have := H1.out.2.size; have := HB.out; omega))⟩; clear hT2 hu2 H1))
    | (go_at_call 18; go_loud (refine (Keep_any _ _ _ _ _ 1 5 (0, 0, 3) H2.out.1 (by simp)).mono ?_; rintro e w3 ⟨he, hT3, hu3⟩; obtain rfl : e = .returned (.bool true) := he; have H3 : Hid (TAt B w3 B v2 [(5, 0, 0, 3)] ∧ Below B w w3) := ⟨hT3, H2.out.2.trans (hu3.below (fun k hk => TF.low H2.out.1 hk) (by have := H2.out.2.size; have := HB.out; omega))⟩; clear hT3 hu3 H2))
    | (go_at_call 17; go_loud (refine (Check_any _ _ _ _ _ 1 5 H3.out.1 (by simp)).mono ?_; rintro e w4 ⟨he, hb4⟩; obtain rfl : e = .returned (.tuple #[.agg #[.int .i64 0, .int .u64 0, .int .i64 3], .bool true, .int .i64 0]) := he; obtain ⟨w5, hst, hb5, hc5⟩ := new_storeA w4 (0, 0, 3); have c5 : w5.cell? ⟨w4.heap.size, 2, none⟩ = some (.int .i64 3) := (by simp [World.cell?, hc5, cellsA]); have H5 : Hid (Below B w w5) := H3.out.2.trans ((hb4.mono (by have := H3.out.2.size; have := HB.out; omega)).trans (hb5.mono (by have := H3.out.2.size; have := hb4.size; have := HB.out; omega))); unfold valA zA at hst; simp only at hst; clear hb4 hb5 hc5 H3)))
  go_ret
  exact ⟨rfl, H5.out⟩
end Se
end Go.Proofs.Ytoiikmfdoadkpaa
