/- LevSteps: the walk. -/
import Derived.Test.YtfhmamalanloaaaDoorLvStB
import Derived.Test.YtfhmamalanloaaaDoorLvReads
namespace Go.Proofs.YtfhmamalanloaaaDoor
open Go.RowKit Nums Ed Lv
set_option maxRecDepth 100000

attribute [local go_sem ↓] exec_alloc_R exec_box_R exec_load_R exec_store_R exec_alloc_T exec_load_T exec_store_T
attribute [local go_sem] rV_cells
theorem stepL_byte {xs : List Int} {d : Nat} (R : List Nat) (r : Int) (hd : d ≤ 3) : ∀ x ∈ stepL xs d R r, x < 256 := by
  unfold stepL cutL
  exact mk_byte fun j _ => by have := cutF_le xs.length d (nxK xs r (mk (cutF xs.length d R)) xs.length) j; unfold cutL at *; omega
set_option maxHeartbeats 2000000 in
theorem steps_walk (s : ByteArray) (e : Int) (vl : Value) (L : List St) (w : World) (ht : Tabs w) (hm : s.size ≤ 1000000000) (hvl : StepsAt w.heap.size w vl L) (hll : L.length ≤ 1000000000) :
    Calls Tryd.prog 5 #[.string s, .int .i64 e, vl] w fun x w' => x = .returned (.bool true) ∧ Below w.heap.size w w' := by
  have h0 := Acc.refl ht
  obtain ⟨adt, capt, rfl⟩ := hvl.form
  have HVT : Hid (StepsAt w.heap.size w (.slice adt L.length capt) L) := hvl
  clear hvl
  go_enter Tryd.func5, Tryd.ntmps5
  go_upto_region 2 with (go_at_call 14; refine (made_acc h0 s e hm).mono ?_; rintro x w1 ⟨v, u, f, rfl, hb1, h1, hcase⟩)
  rcases hcase with ⟨hr, rfl, rfl⟩ | ⟨hr, rfl, p, xs, d, rfl, hx, hd, hl, hu⟩
  · have HR : Hid (rightB s.data.toList e = false) := hr
    clear hr
    go_wp2_with (first
      | (go_at_call 13; refine (alive_acc (by assumption)).mono ?_; rintro x w2 ⟨rfl, h2⟩)
      | (go_at_call 12; refine (Right_acc (by assumption) s e (by omega)).mono ?_; rintro x w3 ⟨rfl, h3⟩; rw [HR.out]))
    go_ret
    exact ⟨rfl, h3.bel⟩
  subst hd
  have hn := hl.len
  have hd3 := hl.few
  obtain ⟨ad, cap, rfl⟩ := hu.1.form
  have HVT1 : Hid (StepsAt w1.heap.size w1 (.slice adt L.length capt) L) := HVT.out.below hb1
  have HL : Hid (LevAt w1 p xs d) := hl
  have HU : Hid (RunesC w1.heap.size w1 (.slice ad xs.length cap) xs) := hu
  have H1 : Hid (Acc w w1) := h1
  clear hr hx HVT hu hl h1
  go_wp2_with fail
  go_loopw [30] (fun v wr => ∃ k : Nat, v = .int .i64 k ∧ k ≤ L.length ∧ Below w1.heap.size w1 wr) (fun v _ => L.length - (intOf v).toNat)
  case atStart => exact ⟨0, rfl, Nat.zero_le _, Below.refl _ _⟩
  case round =>
    obtain ⟨k, rfl, hk, hB⟩ := hrel
    have HB : Hid (Below w1.heap.size w1 wr) := hB
    have HVR : Hid (StepsAt wr.heap.size wr (.slice adt L.length capt) L) := HVT1.out.below hB
    have hsr := hB.size
    by_cases hk8 : k < L.length
    · obtain ⟨y, hy⟩ : ∃ y, L[k]? = some y := ⟨_, List.getElem?_eq_getElem hk8⟩
      obtain ⟨g1, off1, rfl, hg1, hr1, hok1⟩ := HVR.out.at hy
      have hldT := loadT_at hr1 hok1
      have hkl : (k : Int) < (L.length : Int) := by omega
      clear hB hy hr1
      go_upto_region 7 with fail
      obtain ⟨w4, hst, hR4, hb4, hs4⟩ := keep_step wr y hok1
      rw [hst]
      have hrune := step_rune_of hR4 hok1
      rw [Nat.zero_add] at hrune
      have HB4 : Hid (Below w1.heap.size w1 w4) := HB.out.trans (hb4.mono (by omega))
      have HL4 : Hid (LevAt w4 p xs d) := HL.out.below HB4.out
      have HU4 : Hid (RunesC w4.heap.size w4 (.slice ad xs.length cap) xs) := HU.out.below HB4.out
      obtain ⟨r, hr⟩ : ∃ r, y.2 = r := ⟨_, rfl⟩
      have HY2 : Hid (y.2 = r) := hr
      rw [hr] at hrune
      obtain ⟨R, hR⟩ : ∃ R, R = y.1 := ⟨_, rfl⟩
      have hRl : R.length = 25 := by rw [hR]; exact hok1.1
      have hRb : ∀ x ∈ R, x < 256 := by rw [hR]; exact hok1.2
      have HRY : Hid (R = y.1) := hR
      have hs4' : wr.heap.size < w4.heap.size := by omega
      clear hst hb4 hldT hr hR
      go_upto_region 7 with fail
      have hS0 : loadR Tryd.prog (.pointer (some ⟨wr.heap.size, 0, none⟩)) w4.drew = .ok (rV R) w4.drew ∧ w4.drew.cell? ⟨wr.heap.size, 25, none⟩ = some (.int .i32 r) := ⟨by rw [HRY.out]; exact loadR_at (range_of (w' := w4.drew) (step_row_of hR4) rfl) hok1.1, hrune⟩
      refine region_at (S := fun W' => loadR Tryd.prog (.pointer (some ⟨wr.heap.size, 0, none⟩)) W' = .ok (rV R) W' ∧ W'.cell? ⟨wr.heap.size, 25, none⟩ = some (.int .i32 r)) 14 rfl mixedP hS0 (fun _ => ?_)
      refine take_at (i := 0) 34 rfl rfl (by kernel_rfl) (by kernel_rfl) (by kernel_rfl) (fun _ _ _ h => h) (by rfl) (fun w hSw => by (have hSw2 := id hSw; clear hSw; go_simp; first | done | exact rfl)) (by assumption) ?_
      simp only [List.setIfInBounds_toArray, List.set_cons_zero, List.set_cons_succ]
      refine take_at (i := 1) 35 rfl rfl (by kernel_rfl) (by kernel_rfl) (by kernel_rfl) (fun _ _ _ h => h) (by rfl) (fun w hSw => by (have hSw2 := id hSw; clear hSw; go_simp; first | done | exact rfl)) (by assumption) ?_
      simp only [List.setIfInBounds_toArray, List.set_cons_zero, List.set_cons_succ]
      refine take_at (i := 2) (v := rV R) 36 rfl rfl (by kernel_rfl) (by kernel_rfl) (by kernel_rfl) (fun _ _ _ h => h) (by rfl) (fun w hSw => by (have h2 := hSw.1; exact (exec_load_R _ (.tmp 35) _ _ _ _ _ _).trans (congrArg (fun z => Result.andThen z (fun v w' => Result.ok (Next.value v) w')) h2))) (by assumption) ?_
      simp only [List.setIfInBounds_toArray, List.set_cons_zero, List.set_cons_succ]
      refine take_at (i := 3) 37 rfl rfl (by kernel_rfl) (by kernel_rfl) (by kernel_rfl) (fun _ _ _ h => h) (by rfl) (fun w hSw => by (have hSw2 := id hSw; clear hSw; go_simp; first | done | exact rfl)) (by assumption) ?_
      simp only [List.setIfInBounds_toArray, List.set_cons_zero, List.set_cons_succ]
      refine take_at (i := 4) 38 rfl rfl (by kernel_rfl) (by kernel_rfl) (by kernel_rfl) (fun _ _ _ h => h) (by rfl) (fun w hSw => by (have hSw2 := id hSw; clear hSw; go_simp; first | done | exact rfl)) (by assumption) ?_
      simp only [List.setIfInBounds_toArray, List.set_cons_zero, List.set_cons_succ]
      refine take_at (i := 6) 40 rfl rfl (by kernel_rfl) (by kernel_rfl) (by kernel_rfl) (fun _ _ _ h => h) (by rfl) (fun w hSw => by (have hSw2 := id hSw; clear hSw; go_simp; first | done | exact rfl)) (by assumption) ?_
      simp only [List.setIfInBounds_toArray, List.set_cons_zero, List.set_cons_succ]
      refine take_at (i := 7) 41 rfl rfl (by kernel_rfl) (by kernel_rfl) (by kernel_rfl) (fun _ _ _ h => h) (by rfl) (fun w hSw => by (have hSw2 := id hSw; clear hSw; go_simp; first | done | exact rfl)) (by assumption) ?_
      simp only [List.setIfInBounds_toArray, List.set_cons_zero, List.set_cons_succ]
      refine take_at (i := 8) 42 rfl rfl (by kernel_rfl) (by kernel_rfl) (by kernel_rfl) (fun _ _ _ h => h) (by rfl) (fun w hSw => by (have hSw2 := id hSw; clear hSw; go_simp; first | done | exact rfl)) (by assumption) ?_
      simp only [List.setIfInBounds_toArray, List.set_cons_zero, List.set_cons_succ]
      refine take_at (i := 9) (v := rV R) 43 rfl rfl (by kernel_rfl) (by kernel_rfl) (by kernel_rfl) (fun _ _ _ h => h) (by rfl) (fun w hSw => by (have h2 := hSw.1; exact (exec_load_R _ (.tmp 42) _ _ _ _ _ _).trans (congrArg (fun z => Result.andThen z (fun v w' => Result.ok (Next.value v) w')) h2))) (by assumption) ?_
      simp only [List.setIfInBounds_toArray, List.set_cons_zero, List.set_cons_succ]
      refine take_at (i := 10) 44 rfl rfl (by kernel_rfl) (by kernel_rfl) (by kernel_rfl) (fun _ _ _ h => h) (by rfl) (fun w hSw => by (have hSw2 := id hSw; clear hSw; go_simp; first | done | exact rfl)) (by assumption) ?_
      simp only [List.setIfInBounds_toArray, List.set_cons_zero, List.set_cons_succ]
      refine take_at (i := 11) 45 rfl rfl (by kernel_rfl) (by kernel_rfl) (by kernel_rfl) (fun _ _ _ h => h) (by rfl) (fun w hSw => by (have hSw2 := id hSw; clear hSw; go_simp; first | done | exact rfl)) (by assumption) ?_
      simp only [List.setIfInBounds_toArray, List.set_cons_zero, List.set_cons_succ]
      refine one_call (i := 5) (w0 := w4.drew) 39 17 #[.pointer (some ⟨p, 0, none⟩), rV R, .int .i32 r] (by kernel_rfl) rfl rfl (by rfl) (by kernel_rfl) ?_
      refine (Step_any p xs d R r w4.drew (HL4.out.below (Below.refl _ w4).drew) hRl).mono ?_
      rintro x w5 ⟨rfl, hb5⟩
      have hb5' : Below w4.heap.size w4 w5 := (Below.refl _ w4).drew.trans hb5
      have hR5 := range_of hR4 (hb5'.block _ (by omega))
      have hS5 : loadR Tryd.prog (.pointer (some ⟨wr.heap.size, 0, none⟩)) w5 = .ok (rV R) w5 ∧ w5.cell? ⟨wr.heap.size, 25, none⟩ = some (.int .i32 r) := ⟨by rw [HRY.out]; exact loadR_at (step_row_of hR5) hok1.1, by have := step_rune_of hR5 hok1; rw [Nat.zero_add, HY2.out] at this; exact this⟩
      refine ⟨_, rfl, hS5, fun _ => ?_⟩
      simp only [List.setIfInBounds_toArray, List.set_cons_zero, List.set_cons_succ]
      refine one_call (i := 12) (w0 := w5) 46 18 #[.slice ad xs.length cap, .int .i64 (d : Int), rV R, .int .i32 r] (by kernel_rfl) rfl rfl (by rfl) (by kernel_rfl) ?_
      refine (RefStep_any (.slice ad xs.length cap) xs d R r w5 (HU4.out.below hb5').1 hn hd3 hRl hRb).mono ?_
      rintro x w6 ⟨rfl, hb6⟩
      have hs5 := hb5'.size
      have hR6 := range_of hR5 (hb6.block _ (by omega))
      have hS6 : loadR Tryd.prog (.pointer (some ⟨wr.heap.size, 0, none⟩)) w6 = .ok (rV R) w6 ∧ w6.cell? ⟨wr.heap.size, 25, none⟩ = some (.int .i32 r) := ⟨by rw [HRY.out]; exact loadR_at (step_row_of hR6) hok1.1, by have := step_rune_of hR6 hok1; rw [Nat.zero_add, HY2.out] at this; exact this⟩
      refine ⟨_, rfl, hS6, fun _ => ?_⟩
      simp only [List.setIfInBounds_toArray, List.set_cons_zero, List.set_cons_succ]
      refine one_value (i := 13) (v := .bool false) (w' := w6) 47 (by kernel_rfl) rfl rfl (by rfl) ?_ hS6 (fun _ => ?_)
      · have hq := neq_same (stepL_len xs d R r) (stepL_byte R r hd3) w6
        have hg := guard_row .neq (.tmp 39) (.tmp 46) (stepL xs d R r) (stepL xs d R r) w6
        go_simp
      simp only [List.setIfInBounds_toArray, List.set_cons_zero, List.set_cons_succ]
      refine wpAnyH_done (by kernel_rfl) ?_ _
      have HB6 : Hid (Below w1.heap.size w1 w6) := (HB4.out.trans (hb5'.mono (by omega))).trans (hb6.mono (by omega))
      clear hS0 hS5 hS6 hR4 hR5 hR6 hRb
      go_wp2_with fail
      go_roundw
      case rel => exact ⟨k + 1, by go_num, by omega, HB6.out⟩
      case measure => simp [intOf]; omega
    · obtain rfl : k = L.length := by omega
      have HW : Hid (Acc w wr) := H1.out.step hB
      clear hB
      go_wp2_with (go_at_call 13; refine (alive_acc HW.out).mono ?_; rintro x w8 ⟨rfl, h8⟩)
      go_ret
      exact ⟨rfl, h8.bel⟩
end Go.Proofs.YtfhmamalanloaaaDoor
