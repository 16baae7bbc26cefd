/- Does a slot tell what the document says? -/
import Derived.Test.YtpmmpdkeahmdiaaROpen
import Derived.Test.YtpmmpdkeahmdiaaSecAll
import Derived.Test.YtpmmpdkeahmdiaaSlotV
namespace Go.Proofs.Ytpmmpdkeahmdiaa
open Go.RowKit
set_option maxRecDepth 100000

attribute [local go_sem ↓] exec_alloc_D exec_box_D exec_load_D exec_store_D exec_alloc_T exec_box_T exec_load_T exec_store_T exec_build_T0
attribute [local go_sem] rdV_cells rdC_0 rdC_1 rdC_2 rdC_3 rdC_4 rdC_5 rtV_cells
structure SM (b : Nat) (r : RT) (W : World) : Prop where
  at_ : SltAt W b r
theorem SM.facts {b : Nat} {r : RT} {W : World} (h : SM b r W) : W.cell? ⟨b, 1, none⟩ = some (.int .u64 (r.num : Int)) ∧ W.cell? ⟨b, 2, none⟩ = some (.string r.val) := ⟨h.at_.cells.2.1, h.at_.cells.2.2.1⟩
set_option maxHeartbeats 1000000 in
theorem same_any (w : World) (s p : Nat) (a a' : Int) (n : Nat) (xs : List Nat) (g : Nat) (h : SlotAt w s p a n xs g) (hl : xs.length ≤ 140737488355328) :
    Calls Try.prog 30 #[.pointer (some ⟨s, 0, none⟩), rtV ⟨a', n, strB xs⟩] w fun e w' => e = .returned (.bool true) ∧ Below w.heap.size w w' := by
  obtain ⟨r, hr⟩ : ∃ r : RT, (⟨a', n, strB xs⟩ : RT) = r := ⟨_, rfl⟩
  have hrn : r.num = n := by rw [← hr]
  have hrv : r.val = strB xs := by rw [← hr]
  rw [hr]
  clear hr
  have S1 := SltAt.new w r
  have HB : Hid (Below w.heap.size w (w.alloc (.cells (rtC r) 63)).drew) := ((Below.refl _ w).alloc (Nat.le_refl _) _).drew
  have HSL : Hid (SlotAt (w.alloc (.cells (rtC r) 63)).drew s p a n xs g) := h.below HB.out
  have HSM : Hid (SM w.heap.size r (w.alloc (.cells (rtC r) 63)).drew) := ⟨S1⟩
  have hz : (w.alloc (.cells (rtC r) 63)).drew.heap.size = w.heap.size + 1 := by simp [World.drew]
  clear S1 h
  go_enter Try.func30, Try.ntmps30
  go_wp2_with fail
  obtain ⟨w1, hw1⟩ : ∃ w1, (w.alloc (.cells (rtC r) 63)).drew = w1 := ⟨_, rfl⟩
  refine region_at (S := SM w.heap.size r) 18 rfl (by kernel_rfl) HSM.out (fun hHeld => ?_)
  rw [hw1] at HSM HSL HB hHeld hz
  rw [hw1]
  clear hw1
  refine take_at (i := 0) 5 rfl rfl (by kernel_rfl) (by kernel_rfl) (by kernel_rfl) (fun _ _ _ h => h) (by rfl) (fun w hSw => by (have hSw2 := SM.facts hSw; clear hSw; go_simp; first | done | exact rfl)) (by assumption) ?_
  simp only [List.setIfInBounds_toArray, List.set_cons_zero, List.set_cons_succ]
  refine take_at (i := 1) 6 rfl rfl (by kernel_rfl) (by kernel_rfl) (by kernel_rfl) (fun _ _ _ h => h) (by rfl) (fun w hSw => by (have hSw2 := SM.facts hSw; clear hSw; go_simp; first | done | exact rfl)) (by assumption) ?_
  simp only [List.setIfInBounds_toArray, List.set_cons_zero, List.set_cons_succ]
  refine take_at (i := 2) 7 rfl rfl (by kernel_rfl) (by kernel_rfl) (by kernel_rfl) (fun _ _ _ h => h) (by rfl) (fun w hSw => by (have hSw2 := SM.facts hSw; clear hSw; go_simp; first | done | exact rfl)) (by assumption) ?_
  simp only [List.setIfInBounds_toArray, List.set_cons_zero, List.set_cons_succ]
  refine take_at (i := 3) 8 rfl rfl (by kernel_rfl) (by kernel_rfl) (by kernel_rfl) (fun _ _ _ h => h) (by rfl) (fun w hSw => by (have hSw2 := SM.facts hSw; clear hSw; go_simp; first | done | exact rfl)) (by assumption) ?_
  simp only [List.setIfInBounds_toArray, List.set_cons_zero, List.set_cons_succ]
  refine take_at (i := 6) 11 rfl rfl (by kernel_rfl) (by kernel_rfl) (by kernel_rfl) (fun _ _ _ h => h) (by rfl) (fun w hSw => by (have hSw2 := SM.facts hSw; clear hSw; go_simp; first | done | exact rfl)) (by assumption) ?_
  simp only [List.setIfInBounds_toArray, List.set_cons_zero, List.set_cons_succ]
  refine take_at (i := 7) 12 rfl rfl (by kernel_rfl) (by kernel_rfl) (by kernel_rfl) (fun _ _ _ h => h) (by rfl) (fun w hSw => by (have hSw2 := SM.facts hSw; clear hSw; go_simp; first | done | exact rfl)) (by assumption) ?_
  simp only [List.setIfInBounds_toArray, List.set_cons_zero, List.set_cons_succ]
  refine one_call (i := 4) (w0 := w1) 9 23 #[.pointer (some ⟨s, 0, none⟩)] (by kernel_rfl) rfl rfl (by rfl) (by kernel_rfl) ?_
  refine (Value_any w1 s p a n xs g HSL.out hl).mono ?_
  rintro e w2 ⟨⟨v2, rfl, hrow2⟩, hb2⟩
  have hcv := hrow2.str
  have S2 : SlotAt w2 s p a n xs g := HSL.out.below hb2
  have B2 : Below w.heap.size w w2 := HB.out.trans (hb2.mono HB.out.size)
  have hO2 : SM w.heap.size r w2 := ⟨HSM.out.at_.below (by omega) hb2⟩
  refine ⟨_, rfl, hO2, fun _ => ?_⟩
  simp only [List.setIfInBounds_toArray, List.set_cons_zero, List.set_cons_succ]
  refine one_value (i := 5) (v := .string (strB xs)) (w' := w2) 10 (by kernel_rfl) rfl rfl (by rfl) (by go_simp; first | done | exact rfl) hO2 (fun _ => ?_)
  simp only [List.setIfInBounds_toArray, List.set_cons_zero, List.set_cons_succ]
  refine one_value (i := 8) (v := .bool true) (w' := w2) 13 (by kernel_rfl) rfl rfl (by rfl) (by go_simp; first | done | exact rfl) hO2 (fun _ => ?_)
  simp only [List.setIfInBounds_toArray, List.set_cons_zero, List.set_cons_succ]
  refine take_at (i := 9) 14 rfl rfl (by kernel_rfl) (by kernel_rfl) (by kernel_rfl) (fun _ _ _ h => h) (by rfl) (fun w hSw => by (have hSw2 := SM.facts hSw; clear hSw; go_simp; first | done | exact rfl)) (by assumption) ?_
  simp only [List.setIfInBounds_toArray, List.set_cons_zero, List.set_cons_succ]
  refine take_at (i := 10) 15 rfl rfl (by kernel_rfl) (by kernel_rfl) (by kernel_rfl) (fun _ _ _ h => h) (by rfl) (fun w hSw => by (have hSw2 := SM.facts hSw; clear hSw; go_simp; first | done | exact rfl)) (by assumption) ?_
  simp only [List.setIfInBounds_toArray, List.set_cons_zero, List.set_cons_succ]
  refine take_at (i := 11) 16 rfl rfl (by kernel_rfl) (by kernel_rfl) (by kernel_rfl) (fun _ _ _ h => h) (by rfl) (fun w hSw => by (have hSw2 := SM.facts hSw; clear hSw; go_simp; first | done | exact rfl)) (by assumption) ?_
  simp only [List.setIfInBounds_toArray, List.set_cons_zero, List.set_cons_succ]
  refine take_at (i := 13) 18 rfl rfl (by kernel_rfl) (by kernel_rfl) (by kernel_rfl) (fun _ _ _ h => h) (by rfl) (fun w hSw => by (have hSw2 := SM.facts hSw; clear hSw; go_simp; first | done | exact rfl)) (by assumption) ?_
  simp only [List.setIfInBounds_toArray, List.set_cons_zero, List.set_cons_succ]
  refine take_at (i := 14) 19 rfl rfl (by kernel_rfl) (by kernel_rfl) (by kernel_rfl) (fun _ _ _ h => h) (by rfl) (fun w hSw => by (have hSw2 := SM.facts hSw; clear hSw; go_simp; first | done | exact rfl)) (by assumption) ?_
  simp only [List.setIfInBounds_toArray, List.set_cons_zero, List.set_cons_succ]
  refine one_call (i := 12) (w0 := w2) 17 22 #[.pointer (some ⟨s, 0, none⟩)] (by kernel_rfl) rfl rfl (by rfl) (by kernel_rfl) ?_
  refine (Number_any w2 s p a n xs g S2).mono ?_
  rintro e w3 ⟨rfl, rfl⟩
  refine ⟨_, rfl, hO2, fun _ => ?_⟩
  simp only [List.setIfInBounds_toArray, List.set_cons_zero, List.set_cons_succ]
  refine one_value (i := 15) (v := .bool true) (w' := w3) 20 (by kernel_rfl) rfl rfl (by rfl) (by go_simp; first | done | exact rfl) hO2 (fun _ => ?_)
  simp only [List.setIfInBounds_toArray, List.set_cons_zero, List.set_cons_succ]
  refine take_at (i := 16) 21 rfl rfl (by kernel_rfl) (by kernel_rfl) (by kernel_rfl) (fun _ _ _ h => h) (by rfl) (fun w hSw => by (have hSw2 := SM.facts hSw; clear hSw; go_simp; first | done | exact rfl)) (by assumption) ?_
  simp only [List.setIfInBounds_toArray, List.set_cons_zero, List.set_cons_succ]
  refine take_at (i := 17) 4 rfl rfl (by kernel_rfl) (by kernel_rfl) (by kernel_rfl) (fun _ _ _ h => h) (by rfl) (fun w hSw => by (clear hSw; go_simp; first | done | exact rfl)) (by assumption) ?_
  simp only [List.setIfInBounds_toArray, List.set_cons_zero, List.set_cons_succ]
  refine wpAnyH_done (by kernel_rfl) ?_ _
  have BH : Hid (Below w.heap.size w w3) := B2
  clear B2 S2 hO2 hcv hrow2 hb2 hHeld
  go_wp2_with fail
  go_ret
  exact ⟨rfl, BH.out⟩
end Go.Proofs.Ytpmmpdkeahmdiaa
