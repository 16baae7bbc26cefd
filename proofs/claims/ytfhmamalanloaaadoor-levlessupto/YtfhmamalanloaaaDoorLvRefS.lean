/- The reference's Step. -/
import Derived.Test.YtfhmamalanloaaaDoorLvRef
namespace Go.Proofs.YtfhmamalanloaaaDoor
open Go.RowKit Nums Ed Lv
set_option maxRecDepth 100000

attribute [local go_sem ↓] exec_alloc_R exec_box_R exec_load_R exec_store_R run_min2
attribute [local go_sem] rV_cells
set_option maxHeartbeats 2000000 in
theorem RefStep_any (vx : Value) (xs : List Int) (d : Nat) (s : List Nat) (r : Int) (w : World) (hx : RunesAt w.heap.size w vx xs) (hxl : xs.length ≤ 24) (hd : d ≤ 3) (hs : s.length = 25) (hsb : ∀ x ∈ s, x < 256) :
    Calls Tryd.prog 18 #[vx, .int .i64 (d : Int), rV s, .int .i32 r] w fun e w' => e = .returned (rV (stepL xs d s r)) ∧ Below w.heap.size w w' := by
  obtain ⟨adx, capx, rfl⟩ := hx.form
  have HX : Hid (RunesAt w.heap.size w (.slice adx xs.length capx) xs) := hx
  obtain ⟨w2, hw2⟩ : ∃ w2, ((w.alloc (.cells (rC s) 32)).alloc (.cells (rC zeros) 32)).alloc (.cells (rC zeros) 32) = w2 := ⟨_, rfl⟩
  have A2 : Hid (RAt w2 w.heap.size s) := hw2 ▸ ((RAt.new w _).old _).old _
  have R2 : Hid (RAt w2 (w.heap.size + 1) zeros) := by
    have := (RAt.new (w.alloc (.cells (rC s) 32)) zeros).old (.cells (rC zeros) 32)
    rw [alloc_sizeR] at this
    exact hw2 ▸ this
  have C2 : Hid (RAt w2 (w.heap.size + 2) zeros) := by
    have := RAt.new ((w.alloc (.cells (rC s) 32)).alloc (.cells (rC zeros) 32)) zeros
    rw [alloc_sizeR, alloc_sizeR] at this
    exact hw2 ▸ this
  have B2 : Hid (Below w.heap.size w w2) := hw2 ▸ (((Below.refl _ w).alloc (Nat.le_refl _) _).alloc (by simp) _).alloc (by simp; omega) _
  have HW : Hid (((w.alloc (.cells (rC s) 32)).alloc (.cells (rC zeros) 32)).alloc (.cells (rC zeros) 32) = w2) := hw2
  have hwd : IntKind.i64.wrap ((d : Int) + 1) = (d : Int) + 1 := by rw [IntKind.wrap_i64]; omega
  have hld := loadR_at A2.out.range hs
  have hs2 := C2.out.lt
  have HAT : Hid (∀ (j : Nat) (W : World), j < 25 → Calls Tryd.prog 21 #[rV s, .int .i64 (j : Int), .int .i64 (d : Int)] W fun e w' => e = .returned (.int .i64 (min (s.getD j 0) (d + 1) : Nat)) ∧ Below W.heap.size W w') := fun j W hj => At_any s j d W hs hsb hj hd
  clear hw2 hx
  go_enter Tryd.func18, Tryd.ntmps18
  go_upto_region 2 with fail
  rw [HW.out]
  clear HW
  obtain ⟨y, hy⟩ : ∃ y, min (s.getD 0 0) (d + 1) = y := ⟨_, rfl⟩
  have hyb : y ≤ 4 := by omega
  have HU : Hid (min2 ((y : Int) + 1) ((d : Int) + 1) % 256 = (rx xs d r s 0 : Nat)) := by unfold Hid min2; rw [rx, hy]; split <;> omega
  have HA0 := HAT.out 0 w2 (by omega)
  rw [hy] at HA0
  go_upto_region 3 with (go_at_call 21; refine HA0.mono ?_; rintro e w3 ⟨rfl, hb3⟩; have hC3 := (C2.out.below (by omega) hb3).cell (i := 0) (by rw [zeros_len]; omega); have hF3 := (C2.out.below (by omega) hb3).frozen 0)
  rw [HU.out]
  have HA3 : Hid (RAt (w3.setCell ⟨w.heap.size + 1 + 1, 0, none⟩ (bv (rx xs d r s 0))) w.heap.size s) := (A2.out.below (by omega) hb3).off (by omega)
  have HR3 : Hid (RAt (w3.setCell ⟨w.heap.size + 1 + 1, 0, none⟩ (bv (rx xs d r s 0))) (w.heap.size + 1) zeros) := (R2.out.below (by omega) hb3).off (by omega)
  have HC3 : Hid (RAt (w3.setCell ⟨w.heap.size + 1 + 1, 0, none⟩ (bv (rx xs d r s 0))) (w.heap.size + 1 + 1) (rxK xs d r s 1)) := by
    have := (C2.out.below (by omega) hb3).set (k := 0) (x := rx xs d r s 0)
    rw [show zeros = rxK xs d r s 0 by rw [zeros_mk, rxK]; exact mk_congr fun j _ => by simp, rxK_next _ _ _ _ (by decide)] at this
    exact this
  have HB3 : Hid (Below w.heap.size w (w3.setCell ⟨w.heap.size + 1 + 1, 0, none⟩ (bv (rx xs d r s 0)))) := (B2.out.trans (hb3.mono (by omega))).setCell (by show w.heap.size ≤ w.heap.size + 1 + 1; omega) _
  clear hC3 hF3 hb3 A2 R2 C2 B2 hld hs2 HU hy hyb HA0
  go_wp2_with fail
  go_loopw [10] (fun v wr => ∃ k q : Nat, q = k + 1 ∧ v = .int .i64 q ∧ k ≤ xs.length ∧ RAt wr w.heap.size s ∧ RAt wr (w.heap.size + 1) zeros ∧ RAt wr (w.heap.size + 1 + 1) (rxK xs d r s q) ∧ Below w.heap.size w wr) (fun v _ => xs.length + 1 - (intOf v).toNat)
  case atStart => exact ⟨0, 1, rfl, rfl, by omega, HA3.out, HR3.out, HC3.out, HB3.out⟩
  case round =>
    clear HA3 HR3 HC3 HB3
    obtain ⟨k, q, hq, rfl, hk, hA, hR, hC, hB⟩ := hrel
    have HA : Hid (RAt wr w.heap.size s) := hA
    have HR : Hid (RAt wr (w.heap.size + 1) zeros) := hR
    have HC : Hid (RAt wr (w.heap.size + 1 + 1) (rxK xs d r s q)) := hC
    have HB : Hid (Below w.heap.size w wr) := hB
    have HQ : Hid (q = k + 1) := hq
    have hwr : w.heap.size + 1 + 1 < wr.heap.size := hC.lt
    by_cases hk8 : k < xs.length
    · obtain ⟨x, hx⟩ : ∃ x, xs[k]? = some x := ⟨_, List.getElem?_eq_getElem hk8⟩
      obtain ⟨gx, offx, rfl, hgx, hcx⟩ := (HX.out.below hB).at hx
      have hxD : xs.getD k 0 = x := by rw [List.getD_eq_getElem?_getD, hx]; rfl
      have hld := loadR_at hA.range hs
      obtain ⟨ck, hck⟩ : ∃ ck, min (s.getD k 0) (d + 1) = ck := ⟨_, rfl⟩
      obtain ⟨cq, hcq⟩ : ∃ cq, min (s.getD q 0) (d + 1) = cq := ⟨_, rfl⟩
      obtain ⟨m, hm⟩ : ∃ m, rx xs d r s k = m := ⟨_, rfl⟩
      have b0 : ck ≤ 4 := by omega
      have b1 : cq ≤ 4 := by omega
      have b2 : m ≤ 4 := by have := rx_le xs d r s k; omega
      have HM : Hid (rx xs d r s k = m) := hm
      have HUX : Hid (rx xs d r s (k + 1) = min (min (min (ck + if x = r then 0 else 1) (cq + 1)) (m + 1)) (d + 1)) := by unfold Hid; rw [rx, hck, hxD, ← hq, hcq, hm]
      have HK := HAT.out k
      rw [hck] at HK
      have HQC := HAT.out q
      rw [hcq] at HQC
      have hwq : IntKind.i64.wrap ((q : Int) - 1) = (k : Int) := by rw [IntKind.wrap_i64]; omega
      have hql : (q : Int) ≤ (xs.length : Int) := by omega
      have hq25 : (q : Int) < 25 := by omega
      have hk25 : (k : Int) < 25 := by omega
      have hq25n : q < 25 := by omega
      have hk25n : k < 25 := by omega
      have hkq : k < q := by omega
      have hkx : (k : Int) < (xs.length : Int) := by omega
      clear hA hR hC hB hx hxD hq hck hcq hm
      by_cases e : x = r
      · skip
        have HU : Hid (min2 (min2 (min2 (ck : Int) ((cq : Int) + 1)) ((m : Int) + 1)) ((d : Int) + 1) % 256 = (rx xs d r s (k + 1) : Nat)) := by
          have := HUX.out
          rw [if_pos e] at this
          unfold Hid
          rw [this]
          simp only [min2]
          repeat' split
          all_goals omega
        have hbm : min2 (ck : Int) ((cq : Int) + 1) ≤ 5 ∧ 0 ≤ min2 (ck : Int) ((cq : Int) + 1) := by simp only [min2]; split <;> omega
        have hxr : (x == r) = true := by simpa using e
        clear e HUX
        go_upto_region 7 with (go_at_call 21; refine (HK _ hk25n).mono ?_; rintro e w4 ⟨rfl, hb4⟩; have hld4 := loadR_at (HA.out.below (by omega) hb4).range hs; have hcx4 := (hb4.cell (p := ⟨gx, offx + k, none⟩) (by show gx < wr.heap.size; omega)).trans hcx)
        have hs4 := hb4.size
        go_upto_region 10 with (go_at_call 21; refine (HQC _ hq25n).mono ?_; rintro e w5 ⟨rfl, hb5⟩)
        have hs5 := hb5.size
        have HC5 : Hid (RAt w5 (w.heap.size + 1 + 1) (rxK xs d r s q)) := (HC.out.below (by omega) hb4).below (by omega) hb5
        have hC5 := HC5.out.cell (i := k) (by rw [rxK_len]; omega)
        have hC6 := HC5.out.cell (i := q) (by rw [rxK_len]; omega)
        have hF6 := HC5.out.frozen q
        rw [rxK_get _ _ _ _ hk25n hkq, HM.out] at hC5
        go_wp2_with fail
        rw [HU.out]
        go_roundw
        case rel =>
          refine ⟨k + 1, q + 1, by rw [HQ.out], by go_num, by omega, ((HA.out.below (by omega) hb4).below (by omega) hb5).off (by omega), ((HR.out.below (by omega) hb4).below (by omega) hb5).off (by omega), ?_, ((HB.out.trans (hb4.mono (by omega))).trans (hb5.mono (by omega))).setCell (by show w.heap.size ≤ w.heap.size + 1 + 1; omega) _⟩
          have := HC5.out.set (k := q) (x := rx xs d r s q)
          rw [rxK_next _ _ _ _ hq25n] at this
          rw [← HQ.out]
          exact this
        case measure => simp [intOf]; omega
      · skip
        have HU : Hid (min2 (min2 (min2 ((ck : Int) + 1) ((cq : Int) + 1)) ((m : Int) + 1)) ((d : Int) + 1) % 256 = (rx xs d r s (k + 1) : Nat)) := by
          have := HUX.out
          rw [if_neg e] at this
          unfold Hid
          rw [this]
          simp only [min2]
          repeat' split
          all_goals omega
        have hbm : min2 ((ck : Int) + 1) ((cq : Int) + 1) ≤ 5 ∧ 0 ≤ min2 ((ck : Int) + 1) ((cq : Int) + 1) := by simp only [min2]; split <;> omega
        have hxr : (x == r) = false := by simpa using e
        clear e HUX
        go_upto_region 7 with (go_at_call 21; refine (HK _ hk25n).mono ?_; rintro e w4 ⟨rfl, hb4⟩; have hld4 := loadR_at (HA.out.below (by omega) hb4).range hs; have hcx4 := (hb4.cell (p := ⟨gx, offx + k, none⟩) (by show gx < wr.heap.size; omega)).trans hcx)
        have hs4 := hb4.size
        go_upto_region 10 with (go_at_call 21; refine (HQC _ hq25n).mono ?_; rintro e w5 ⟨rfl, hb5⟩)
        have hs5 := hb5.size
        have HC5 : Hid (RAt w5 (w.heap.size + 1 + 1) (rxK xs d r s q)) := (HC.out.below (by omega) hb4).below (by omega) hb5
        have hC5 := HC5.out.cell (i := k) (by rw [rxK_len]; omega)
        have hC6 := HC5.out.cell (i := q) (by rw [rxK_len]; omega)
        have hF6 := HC5.out.frozen q
        rw [rxK_get _ _ _ _ hk25n hkq, HM.out] at hC5
        go_wp2_with fail
        rw [HU.out]
        go_roundw
        case rel =>
          refine ⟨k + 1, q + 1, by rw [HQ.out], by go_num, by omega, ((HA.out.below (by omega) hb4).below (by omega) hb5).off (by omega), ((HR.out.below (by omega) hb4).below (by omega) hb5).off (by omega), ?_, ((HB.out.trans (hb4.mono (by omega))).trans (hb5.mono (by omega))).setCell (by show w.heap.size ≤ w.heap.size + 1 + 1; omega) _⟩
          have := HC5.out.set (k := q) (x := rx xs d r s q)
          rw [rxK_next _ _ _ _ hq25n] at this
          rw [← HQ.out]
          exact this
        case measure => simp [intOf]; omega
    · obtain rfl : k = xs.length := by omega
      have hld := loadR_at hC.range (rxK_len _ _ _ _ _)
      obtain ⟨w5, hst, hP, hO⟩ := put_row (rxK xs d r s q) hR zeros_len (rxK_len _ _ _ _ _)
      have HBS : Hid (Below w.heap.size w w5) := hO.below hB (by omega)
      have HST : Hid (RAt w5 (w.heap.size + 1) (rxK xs d r s q)) := hP
      have hkk : ¬ (q : Int) ≤ (xs.length : Int) := by omega
      clear hA hC hB HA HC HB hP hO hq
      go_wp2_with fail
      refine ret_row Tryd.results18 rfl (rxK_len _ _ _ _ _) HST.out rfl ⟨?_, HBS.out⟩
      rw [HQ.out, step_ref d r s hxl]
end Go.Proofs.YtfhmamalanloaaaDoor
