/- The reference of the slot: Save, all of it. -/
import Derived.Test.YtpmmpdkeahmdiaaRSave
namespace Go.Proofs.Ytpmmpdkeahmdiaa
open Go.RowKit
set_option maxRecDepth 100000

attribute [local go_sem ↓] exec_alloc_D exec_box_D exec_load_D exec_store_D exec_alloc_T exec_box_T exec_load_T exec_store_T exec_build_T0
attribute [local go_sem] rdV_cells rdC_0 rdC_1 rdC_2 rdC_3 rdC_4 rdC_5 rtV_cells
theorem bytes_row (w : World) (B : List Nat) (hB : ∀ x ∈ B, x < 256) : Row (w.heap.size + 1) (Lib.bytesWorld w 5 (strB B)) (.slice (some ⟨w.heap.size, 0, none⟩) (strB B).size (grownCap w (strB B).size 0 5)) B := by
  have hsz := strB_size B
  refine ⟨some ⟨w.heap.size, 0, none⟩, _, by rw [hsz], (by first | exact grownCap_ge _ _ _ _ | (rw [hsz]; exact grownCap_ge _ _ _ _)), (fun h => by cases h), fun _ => ⟨w.heap.size, 0, rfl, by omega, fun i hi => ?_⟩⟩
  rw [Nat.zero_add, Lib.bytesWorld_cell w 5 (strB B) i (by rw [hsz]; exact hi)]
  have h1 : (strB B).data.toList = B.map UInt8.ofNat := by rw [← ByteArray.toList_eq, strB_list]
  have h2 := hB B[i] (List.getElem_mem hi)
  rw [h1]
  simp [List.getD_eq_getElem?_getD, List.getElem?_eq_getElem hi]
  omega
theorem bytes_below (w : World) (s : ByteArray) : Below w.heap.size w (Lib.bytesWorld w 5 s) :=
  ⟨rfl, rfl, rfl, by rw [Lib.bytesWorld_size]; omega, fun b hb => Lib.bytesWorld_at_old w _ s b hb⟩
theorem run_get_D {o : Oper} {ti : Tmp} {a : Act} {w : World} {b : Nat} {r : RD} {ad : Option Addr} {n c : Nat} (hop : o.op = Op.load 27 (.tmp ti)) (ht : a.eval (.tmp ti) = .pointer (some ⟨b, 0, none⟩)) (hb : DskAt w b r (.slice ad n c)) : (execOp a.eval o).run Try.prog w = .ok (.value (rdV r (.slice ad n c))) w := by
  obtain ⟨dst, op, ty, pos, af, g⟩ := o
  simp only at hop
  subst hop
  rw [exec_load_D, ht, loadD_at hb]
  rfl
set_option maxHeartbeats 1000000 in
theorem refSave_any (P : Nat → Prop) (N : Nat) (d : DS) (v : Value) (q : RT) (xs : List Nat) (w : World) (h : RefIs P w v d) (hd : DsOk N d) (hN : N + 1 < 1099511627776) (hn : q.num < 18446744073709551616) (hx : ∀ x ∈ xs, x < 256) :
    Calls Try.prog 31 #[v, rtV q, .string (strB xs)] w (RSaved P (saveD d q.area q.num xs).1 (saveD d q.area q.num xs).2 q xs w) := by
  by_cases hlg : 48 < xs.length ∨ q.num = 18446744073709551615
  · exact refSave_long P d v q xs w h hlg
  have h48 : xs.length ≤ 48 := by omega
  have hnm : q.num ≠ 18446744073709551615 := fun e => hlg (.inr e)
  have HLG : Hid (¬ (48 < xs.length ∨ q.num = 18446744073709551615)) := hlg
  obtain ⟨ad, n, c, rfl⟩ := h.form
  have h1 := sv4_at w q h
  obtain ⟨w1, hw1⟩ : ∃ w1, sv4 w (rdOf d) (.slice ad n c) q = w1 := ⟨_, rfl⟩
  rw [hw1] at h1
  have H1 : Hid (SvI P w w1 d ad n c q) := h1
  have HD : Hid (DsOk N d) := hd
  have HX : Hid (∀ x ∈ xs, x < 256) := hx
  obtain ⟨e0, e1, e2, ez⟩ := h1.s4.cells
  rw [← hw1] at e0 e1 e2 ez
  unfold sv4 at hw1 e0 e1 e2 ez
  have HW1 : Hid ((((w.alloc (.cells (rdC (rdOf d) (.slice ad n c)) 27)).alloc (.cells (rtC q) 63)).alloc (.cells (rdC rd0 (.slice none 0 0)) 27)).alloc (.cells (rtC rt0) 63) = w1) := hw1
  obtain ⟨sx, hsx⟩ : ∃ sx, strB xs = sx := ⟨_, rfl⟩
  have HSX : Hid (strB xs = sx) := hsx
  have hsz : sx.size = xs.length := by rw [← hsx, strB_size]
  obtain ⟨n1, hn1, hn1'⟩ : ∃ n1 : Nat, (q.num : Int) + 1 = (n1 : Int) ∧ q.num + 1 = n1 := ⟨q.num + 1, rfl, rfl⟩
  have HN1 : Hid (q.num + 1 = n1) := hn1'
  have hn1l : n1 < 18446744073709551616 := by omega
  have hn1n : (n1 : Int) < 18446744073709551616 := by omega
  obtain ⟨k, hk⟩ : ∃ k, n1 % 2 = k := ⟨_, rfl⟩
  have HK : Hid ((q.num + 1) % 2 = k) := by show _ = _; rw [hn1']; exact hk
  have hk2 : (k : Int) < 2 := by omega
  have ht1 : Int.tmod (n1 : Int) 2 = (k : Int) := by rw [Int.tmod_eq_emod_of_nonneg (by omega)]; omega
  have ht2 : (n1 : Int) % 2 = (k : Int) := by omega
  have hwk : IntKind.i64.wrap (k : Int) = (k : Int) := by simp [IntKind.wrap, IntKind.bits, IntKind.signed]; omega
  obtain ⟨B, hB⟩ : ∃ B, laySec n1 xs = B := ⟨_, rfl⟩
  have HB : Hid (laySec n1 xs = B) := hB
  have hBl : B.length = 64 := by rw [← hB]; exact lay_len h48
  have HBB : Hid (∀ x ∈ B, x < 256) := by rw [← hB]; exact lay_byte h48 hx
  obtain ⟨sB, hsB⟩ : ∃ sB, strB B = sB := ⟨_, rfl⟩
  have HSB : Hid (strB B = sB) := hsB
  have HSEC : Hid (∀ W, Calls Try.prog 62 #[.int .u64 (n1 : Int), .string sx] W fun e w' => e = .returned (.string sB) ∧ Below W.heap.size W w') := fun W => by
    have h := refSector_any n1 xs W hn1l hx h48
    rw [hsx, hB, hsB] at h
    exact h
  obtain ⟨e1, he1⟩ : ∃ e1, wrE d q.area (k : Int) B = e1 := ⟨_, rfl⟩
  obtain ⟨d1, hd1⟩ : ∃ d1, wrD d q.area (k : Int) B = d1 := ⟨_, rfl⟩
  have HWR : Hid (wrE d q.area (k : Int) B = e1 ∧ wrD d q.area (k : Int) B = d1) := ⟨he1, hd1⟩
  have HD1 : Hid (DsOk (N + 1) d1) := hd1 ▸ ds_wr hd _ _ _
  have HSV0 : Hid (saveD d q.area q.num xs = if e1 = 0 then (syD d1 q.area, stepE d1) else (d1, e1)) := by
    show _ = _
    rw [saveD, if_neg HLG.out, HK.out, hn1', hB, he1, hd1]
  have h48' : ¬ (48 : Int) < (xs.length : Int) := by omega
  have hnz : ((q.num : Int) == 18446744073709551615) = false := by rw [Bool.eq_false_iff]; intro h; have := beq_iff_eq.1 h; omega
  rw [hsx]
  clear hsx hw1 h1 h hd hx hlg hB hk hn1' hsB he1 hd1
  go_enter Try.func31, Try.ntmps31
  go_upto_region 4 with fail
  rw [HW1.out]
  try rw [hn1]
  go_cut [10] from 24 (fun s10 wc => ∃ (ad2 : Option Addr) (n2 c2 : Nat), s10 = .int .i64 e1 ∧ SvI P w wc d1 ad2 n2 c2 q)
  case first =>
    refine region_at (S := SQ (w.heap.size + 1) q) 16 rfl (by kernel_rfl) ⟨H1.out.s4⟩ (fun hHeld => ?_)
    refine take_at (i := 1) 26 rfl rfl (by kernel_rfl) (by kernel_rfl) (by kernel_rfl) (fun _ _ _ h => h) (by rfl) (fun w hSw => by (have hSw2 := SQ.facts hSw; clear hSw; go_simp; first | done | exact rfl)) (by assumption) ?_
    simp only [List.setIfInBounds_toArray, List.set_cons_zero, List.set_cons_succ]
    refine take_at (i := 2) 27 rfl rfl (by kernel_rfl) (by kernel_rfl) (by kernel_rfl) (fun _ _ _ h => h) (by rfl) (fun w hSw => by (have hSw2 := SQ.facts hSw; clear hSw; go_simp; first | done | exact rfl)) (by assumption) ?_
    simp only [List.setIfInBounds_toArray, List.set_cons_zero, List.set_cons_succ]
    refine take_at (i := 3) 28 rfl rfl (by kernel_rfl) (by kernel_rfl) (by kernel_rfl) (fun _ _ _ h => h) (by rfl) (fun w hSw => by (have hSw2 := SQ.facts hSw; clear hSw; go_simp; first | done | exact rfl)) (by assumption) ?_
    simp only [List.setIfInBounds_toArray, List.set_cons_zero, List.set_cons_succ]
    refine take_at (i := 4) 29 rfl rfl (by kernel_rfl) (by kernel_rfl) (by kernel_rfl) (fun _ _ _ h => h) (by rfl) (fun w hSw => by (have hSw2 := SQ.facts hSw; clear hSw; go_simp; first | done | exact rfl)) (by assumption) ?_
    simp only [List.setIfInBounds_toArray, List.set_cons_zero, List.set_cons_succ]
    refine take_at (i := 5) 30 rfl rfl (by kernel_rfl) (by kernel_rfl) (by kernel_rfl) (fun _ _ _ h => h) (by rfl) (fun w hSw => by (have hSw2 := SQ.facts hSw; clear hSw; go_simp; first | done | exact rfl)) (by assumption) ?_
    simp only [List.setIfInBounds_toArray, List.set_cons_zero, List.set_cons_succ]
    refine take_at (i := 6) 31 rfl rfl (by kernel_rfl) (by kernel_rfl) (by kernel_rfl) (fun _ _ _ h => h) (by rfl) (fun w hSw => by (have hSw2 := SQ.facts hSw; clear hSw; go_simp; first | done | exact rfl)) (by assumption) ?_
    simp only [List.setIfInBounds_toArray, List.set_cons_zero, List.set_cons_succ]
    refine take_at (i := 7) 32 rfl rfl (by kernel_rfl) (by kernel_rfl) (by kernel_rfl) (fun _ _ _ h => h) (by rfl) (fun w hSw => by (have hSw2 := SQ.facts hSw; clear hSw; go_simp; first | done | exact rfl)) (by assumption) ?_
    simp only [List.setIfInBounds_toArray, List.set_cons_zero, List.set_cons_succ]
    refine two_at (i := 0) (j := 8) 25 33 (by kernel_rfl) rfl rfl rfl rfl (by rfl) (by rfl) (fun K hK => ?_) (fun K hK => ?_)
    · refine wp_val (run_get_D rfl rfl H1.out.d3) (hK _ _ hHeld (fun _ => ?_))
      simp only [List.setIfInBounds_toArray, List.set_cons_zero, List.set_cons_succ]
      refine one_call (i := 8) (w0 := w1.drew) 33 62 #[.int .u64 (n1 : Int), .string sx] (by kernel_rfl) rfl rfl (by rfl) (by kernel_rfl) ?_
      refine (HSEC.out w1.drew).mono ?_
      rintro e w2 ⟨rfl, hb2⟩
      have H2 := H1.out.drew.then hb2
      refine ⟨_, rfl, ⟨H2.s4⟩, fun hHeld2 => ?_⟩
      simp only [List.setIfInBounds_toArray, List.set_cons_zero, List.set_cons_succ]
      obtain ⟨w3, hw3⟩ : ∃ w3, Lib.bytesWorld w2 5 sB = w3 := ⟨_, rfl⟩
      have hcv := Lib.run_convert_string_bytes (P := Try.prog) w2 9 36 5 sB Try.underlying9 Try.underlying36 Try.underlying5
      rw [hw3] at hcv
      have hz3 : w3.heap.size = w2.heap.size + 1 := by rw [← hw3, Lib.bytesWorld_size]
      have H3 : Hid (SvI P w w3 d ad n c q) := H2.then (hw3 ▸ bytes_below w2 sB)
      have HRW : Hid (Row (w2.heap.size + 1) w3 (.slice (some ⟨w2.heap.size, 0, none⟩) sB.size (grownCap w2 sB.size 0 5)) B) := by rw [← hw3, ← HSB.out]; exact bytes_row w2 B HBB.out
      refine one_value (i := 9) (w' := w3) 34 (by kernel_rfl) rfl rfl (by rfl) (by go_simp; first | done | exact rfl) ⟨H3.out.s4⟩ (fun hHeld3 => ?_)
      simp only [List.setIfInBounds_toArray, List.set_cons_zero, List.set_cons_succ]
      refine one_call (i := 10) (w0 := w3) 35 47 #[rdV (rdOf d) (.slice ad n c), .int .u64 q.area, .int .i64 (k : Int), .slice (some ⟨w2.heap.size, 0, none⟩) sB.size (grownCap w2 sB.size 0 5)] (by kernel_rfl) rfl rfl (by rfl) (by kernel_rfl) ?_
      refine (refWrite_any _ N (w2.heap.size + 1) d _ q.area (k : Int) _ B w3 H3.out.ref HD.out (by omega) HRW.out (by omega) (by omega)).mono ?_
      rintro e w4 ⟨v4, rfl, hR4, hb4⟩
      rw [HWR.out.2] at hR4
      obtain ⟨ad4, n4, c4, rfl⟩ := hR4.form
      have H4 := H3.out.then hb4
      refine ⟨_, rfl, ⟨H4.s4⟩, fun _ => ?_⟩
      simp only [List.setIfInBounds_toArray, List.set_cons_zero, List.set_cons_succ]
      rw [HWR.out.1]
      refine take_at (i := 11) 24 rfl rfl (by kernel_rfl) (by kernel_rfl) (by kernel_rfl) (fun _ _ _ h => h) (by rfl) (fun w hSw => by (have hSw2 := SQ.facts hSw; clear hSw; go_simp; first | done | exact rfl)) (by assumption) ?_
      simp only [List.setIfInBounds_toArray, List.set_cons_zero, List.set_cons_succ]
      refine take_at (i := 12) 36 rfl rfl (by kernel_rfl) (by kernel_rfl) (by kernel_rfl) (fun _ _ _ h => h) (by rfl) (fun w hSw => by (have hSw2 := SQ.facts hSw; clear hSw; go_simp; first | done | exact rfl)) (by assumption) ?_
      simp only [List.setIfInBounds_toArray, List.set_cons_zero, List.set_cons_succ]
      refine take_at (i := 13) 37 rfl rfl (by kernel_rfl) (by kernel_rfl) (by kernel_rfl) (fun _ _ _ h => h) (by rfl) (fun w hSw => by (have hSw2 := SQ.facts hSw; clear hSw; go_simp; first | done | exact rfl)) (by assumption) ?_
      simp only [List.setIfInBounds_toArray, List.set_cons_zero, List.set_cons_succ]
      have H5 := H3.out.next hb4 hR4
      refine one_skip (i := 14) (by kernel_rfl) rfl rfl (by rfl) (run_put_D rfl rfl rfl H4.d3) ⟨H5.s4⟩ (fun hHeld5 => ?_)
      refine take_at (i := 15) 10 rfl rfl (by kernel_rfl) (by kernel_rfl) (by kernel_rfl) (fun _ _ _ h => h) (by rfl) (fun w hSw => by (have hSw2 := SQ.facts hSw; clear hSw; go_simp; first | done | exact rfl)) (by assumption) ?_
      simp only [List.setIfInBounds_toArray, List.set_cons_zero, List.set_cons_succ]
      refine wpAnyH_done (by kernel_rfl) ?_ _
      have H5H : Hid (SvI P w (setD w4 w.heap.size (rdOf d1) (.slice ad4 n4 c4)) d1 ad4 n4 c4 q) := H5
      clear hHeld hHeld5 H4 H5 hb4 hR4
      go_wp2_with fail
      go_meet
      case rel => exact ⟨ad4, n4, c4, rfl, H5H.out⟩
    · refine wp_enter 62 #[.int .u64 (n1 : Int), .string sx] (w0 := w1.drew) (by kernel_rfl) ?_
      refine (HSEC.out w1.drew).mono ?_
      rintro e w2 ⟨rfl, hb2⟩
      have H2 := H1.out.drew.then hb2
      refine ⟨_, rfl, hK _ _ ⟨H2.s4⟩ (fun hHeld2 => ?_)⟩
      simp only [List.setIfInBounds_toArray, List.set_cons_zero, List.set_cons_succ]
      obtain ⟨w3, hw3⟩ : ∃ w3, Lib.bytesWorld w2 5 sB = w3 := ⟨_, rfl⟩
      have hcv := Lib.run_convert_string_bytes (P := Try.prog) w2 9 36 5 sB Try.underlying9 Try.underlying36 Try.underlying5
      rw [hw3] at hcv
      have hz3 : w3.heap.size = w2.heap.size + 1 := by rw [← hw3, Lib.bytesWorld_size]
      have H3 : Hid (SvI P w w3 d ad n c q) := H2.then (hw3 ▸ bytes_below w2 sB)
      have HRW : Hid (Row (w2.heap.size + 1) w3 (.slice (some ⟨w2.heap.size, 0, none⟩) sB.size (grownCap w2 sB.size 0 5)) B) := by rw [← hw3, ← HSB.out]; exact bytes_row w2 B HBB.out
      refine two_value (i := 0) (j := 9) (w1 := w2) (w2 := w3) 25 34 (by kernel_rfl) rfl rfl rfl rfl (by rfl) (by rfl) (run_get_D rfl rfl H2.d3) ⟨H2.s4⟩ (fun hHeld3 => ?_) (by go_simp; first | done | exact rfl) ⟨H3.out.s4⟩ (fun hHeld3 => ?_)
      · skip
        simp only [List.setIfInBounds_toArray, List.set_cons_zero, List.set_cons_succ]
        refine one_value (i := 9) (w' := w3) 34 (by kernel_rfl) rfl rfl (by rfl) (by go_simp; first | done | exact rfl) ⟨H3.out.s4⟩ (fun hHeld4 => ?_)
        simp only [List.setIfInBounds_toArray, List.set_cons_zero, List.set_cons_succ]
        refine one_call (i := 10) (w0 := w3) 35 47 #[rdV (rdOf d) (.slice ad n c), .int .u64 q.area, .int .i64 (k : Int), .slice (some ⟨w2.heap.size, 0, none⟩) sB.size (grownCap w2 sB.size 0 5)] (by kernel_rfl) rfl rfl (by rfl) (by kernel_rfl) ?_
        refine (refWrite_any _ N (w2.heap.size + 1) d _ q.area (k : Int) _ B w3 H3.out.ref HD.out (by omega) HRW.out (by omega) (by omega)).mono ?_
        rintro e w4 ⟨v4, rfl, hR4, hb4⟩
        rw [HWR.out.2] at hR4
        obtain ⟨ad4, n4, c4, rfl⟩ := hR4.form
        have H4 := H3.out.then hb4
        refine ⟨_, rfl, ⟨H4.s4⟩, fun _ => ?_⟩
        simp only [List.setIfInBounds_toArray, List.set_cons_zero, List.set_cons_succ]
        rw [HWR.out.1]
        refine take_at (i := 11) 24 rfl rfl (by kernel_rfl) (by kernel_rfl) (by kernel_rfl) (fun _ _ _ h => h) (by rfl) (fun w hSw => by (have hSw2 := SQ.facts hSw; clear hSw; go_simp; first | done | exact rfl)) (by assumption) ?_
        simp only [List.setIfInBounds_toArray, List.set_cons_zero, List.set_cons_succ]
        refine take_at (i := 12) 36 rfl rfl (by kernel_rfl) (by kernel_rfl) (by kernel_rfl) (fun _ _ _ h => h) (by rfl) (fun w hSw => by (have hSw2 := SQ.facts hSw; clear hSw; go_simp; first | done | exact rfl)) (by assumption) ?_
        simp only [List.setIfInBounds_toArray, List.set_cons_zero, List.set_cons_succ]
        refine take_at (i := 13) 37 rfl rfl (by kernel_rfl) (by kernel_rfl) (by kernel_rfl) (fun _ _ _ h => h) (by rfl) (fun w hSw => by (have hSw2 := SQ.facts hSw; clear hSw; go_simp; first | done | exact rfl)) (by assumption) ?_
        simp only [List.setIfInBounds_toArray, List.set_cons_zero, List.set_cons_succ]
        have H5 := H3.out.next hb4 hR4
        refine one_skip (i := 14) (by kernel_rfl) rfl rfl (by rfl) (run_put_D rfl rfl rfl H4.d3) ⟨H5.s4⟩ (fun hHeld5 => ?_)
        refine take_at (i := 15) 10 rfl rfl (by kernel_rfl) (by kernel_rfl) (by kernel_rfl) (fun _ _ _ h => h) (by rfl) (fun w hSw => by (have hSw2 := SQ.facts hSw; clear hSw; go_simp; first | done | exact rfl)) (by assumption) ?_
        simp only [List.setIfInBounds_toArray, List.set_cons_zero, List.set_cons_succ]
        refine wpAnyH_done (by kernel_rfl) ?_ _
        have H5H : Hid (SvI P w (setD w4 w.heap.size (rdOf d1) (.slice ad4 n4 c4)) d1 ad4 n4 c4 q) := H5
        clear hHeld hHeld5 H4 H5 hb4 hR4
        go_wp2_with fail
        go_meet
        case rel => exact ⟨ad4, n4, c4, rfl, H5H.out⟩
      · skip
        simp only [List.setIfInBounds_toArray, List.set_cons_zero, List.set_cons_succ]
        refine one_value (i := 0) (w' := w3) 25 (by kernel_rfl) rfl rfl (by rfl) (run_get_D rfl rfl H3.out.d3) ⟨H3.out.s4⟩ (fun hHeld4 => ?_)
        simp only [List.setIfInBounds_toArray, List.set_cons_zero, List.set_cons_succ]
        refine one_call (i := 10) (w0 := w3) 35 47 #[rdV (rdOf d) (.slice ad n c), .int .u64 q.area, .int .i64 (k : Int), .slice (some ⟨w2.heap.size, 0, none⟩) sB.size (grownCap w2 sB.size 0 5)] (by kernel_rfl) rfl rfl (by rfl) (by kernel_rfl) ?_
        refine (refWrite_any _ N (w2.heap.size + 1) d _ q.area (k : Int) _ B w3 H3.out.ref HD.out (by omega) HRW.out (by omega) (by omega)).mono ?_
        rintro e w4 ⟨v4, rfl, hR4, hb4⟩
        rw [HWR.out.2] at hR4
        obtain ⟨ad4, n4, c4, rfl⟩ := hR4.form
        have H4 := H3.out.then hb4
        refine ⟨_, rfl, ⟨H4.s4⟩, fun _ => ?_⟩
        simp only [List.setIfInBounds_toArray, List.set_cons_zero, List.set_cons_succ]
        rw [HWR.out.1]
        refine take_at (i := 11) 24 rfl rfl (by kernel_rfl) (by kernel_rfl) (by kernel_rfl) (fun _ _ _ h => h) (by rfl) (fun w hSw => by (have hSw2 := SQ.facts hSw; clear hSw; go_simp; first | done | exact rfl)) (by assumption) ?_
        simp only [List.setIfInBounds_toArray, List.set_cons_zero, List.set_cons_succ]
        refine take_at (i := 12) 36 rfl rfl (by kernel_rfl) (by kernel_rfl) (by kernel_rfl) (fun _ _ _ h => h) (by rfl) (fun w hSw => by (have hSw2 := SQ.facts hSw; clear hSw; go_simp; first | done | exact rfl)) (by assumption) ?_
        simp only [List.setIfInBounds_toArray, List.set_cons_zero, List.set_cons_succ]
        refine take_at (i := 13) 37 rfl rfl (by kernel_rfl) (by kernel_rfl) (by kernel_rfl) (fun _ _ _ h => h) (by rfl) (fun w hSw => by (have hSw2 := SQ.facts hSw; clear hSw; go_simp; first | done | exact rfl)) (by assumption) ?_
        simp only [List.setIfInBounds_toArray, List.set_cons_zero, List.set_cons_succ]
        have H5 := H3.out.next hb4 hR4
        refine one_skip (i := 14) (by kernel_rfl) rfl rfl (by rfl) (run_put_D rfl rfl rfl H4.d3) ⟨H5.s4⟩ (fun hHeld5 => ?_)
        refine take_at (i := 15) 10 rfl rfl (by kernel_rfl) (by kernel_rfl) (by kernel_rfl) (fun _ _ _ h => h) (by rfl) (fun w hSw => by (have hSw2 := SQ.facts hSw; clear hSw; go_simp; first | done | exact rfl)) (by assumption) ?_
        simp only [List.setIfInBounds_toArray, List.set_cons_zero, List.set_cons_succ]
        refine wpAnyH_done (by kernel_rfl) ?_ _
        have H5H : Hid (SvI P w (setD w4 w.heap.size (rdOf d1) (.slice ad4 n4 c4)) d1 ad4 n4 c4 q) := H5
        clear hHeld hHeld5 H4 H5 hb4 hR4
        go_wp2_with fail
        go_meet
        case rel => exact ⟨ad4, n4, c4, rfl, H5H.out⟩
  case rest =>
    clear H1 HW1 HSEC
    obtain ⟨ad2, n2, c2, rfl, hI⟩ := hcut
    have H2 : Hid (SvI P w wc d1 ad2 n2 c2 q) := hI
    clear hI
    have hs2 := H2.out.size
    by_cases h0 : e1 = 0
    · subst h0
      have hld := loadD_at H2.out.d3
      obtain ⟨a0, a1, a2, az⟩ := H2.out.s4.cells
      go_wp2_with fail
      refine (refSync_any _ (N + 1) d1 _ q.area wc H2.out.ref HD1.out (by omega)).mono ?_
      rintro e w4 ⟨v4, rfl, hR4, hb4⟩
      obtain ⟨ad5, n5, c5, rfl⟩ := hR4.form
      have hst := storeD_at (r := rdOf (syD d1 q.area)) (ad := ad5) (n := n5) (c := c5) (H2.out.then hb4).d3
      have h5 := H2.out.next hb4 hR4
      obtain ⟨dq, hdq⟩ : ∃ dq, syD d1 q.area = dq := ⟨_, rfl⟩
      obtain ⟨ee, hee⟩ : ∃ ee, stepE d1 = ee := ⟨_, rfl⟩
      have HSV : Hid (saveD d q.area q.num xs = (dq, ee)) := by show _ = _; rw [HSV0.out, ← hdq, ← hee]; exact if_pos (by first | trivial | rfl)
      rw [hdq] at hst h5
      rw [hdq, hee]
      obtain ⟨w5, hw5⟩ : ∃ w5, setD w4 w.heap.size (rdOf dq) (.slice ad5 n5 c5) = w5 := ⟨_, rfl⟩
      rw [hw5] at hst h5
      have H5 : Hid (SvI P w w5 dq ad5 n5 c5 q) := h5
      clear hw5 h5 hdq hee hR4 hb4 hld a0 a1 a2 az H2
      by_cases hz : ee = 0
      · subst hz
        have HT : Hid (newT q xs 0 = ⟨q.area, n1, sx⟩) := by show _ = _; rw [newT, if_pos rfl, HN1.out, HSX.out]
        go_wp2_with fail
        refine region_at (S := SV w.heap.size (w.heap.size + 1) (rdOf dq) (.slice ad5 n5 c5) q) 9 rfl (by kernel_rfl) ⟨H5.out.d3, H5.out.s4⟩ (fun hHeld => ?_)
        refine take_D (i := 0) 52 rfl rfl rfl rfl (by kernel_rfl) (by kernel_rfl) (by kernel_rfl) (fun _ _ _ h => h) (by rfl) (fun _ h => h.d) hHeld ?_
        simp only [List.setIfInBounds_toArray, List.set_cons_zero, List.set_cons_succ]
        refine take_at (i := 1) 53 rfl rfl (by kernel_rfl) (by kernel_rfl) (by kernel_rfl) (fun _ _ _ h => h) (by rfl) (fun w hSw => by (have hSw2 := SV.facts hSw; clear hSw; go_simp; first | done | exact rfl)) (by assumption) ?_
        simp only [List.setIfInBounds_toArray, List.set_cons_zero, List.set_cons_succ]
        refine take_at (i := 2) 54 rfl rfl (by kernel_rfl) (by kernel_rfl) (by kernel_rfl) (fun _ _ _ h => h) (by rfl) (fun w hSw => by (have hSw2 := SV.facts hSw; clear hSw; go_simp; first | done | exact rfl)) (by assumption) ?_
        simp only [List.setIfInBounds_toArray, List.set_cons_zero, List.set_cons_succ]
        refine take_at (i := 3) 55 rfl rfl (by kernel_rfl) (by kernel_rfl) (by kernel_rfl) (fun _ _ _ h => h) (by rfl) (fun w hSw => by (have hSw2 := SV.facts hSw; clear hSw; go_simp; first | done | exact rfl)) (by assumption) ?_
        simp only [List.setIfInBounds_toArray, List.set_cons_zero, List.set_cons_succ]
        refine take_at (i := 4) 56 rfl rfl (by kernel_rfl) (by kernel_rfl) (by kernel_rfl) (fun _ _ _ h => h) (by rfl) (fun w hSw => by (have hSw2 := SV.facts hSw; clear hSw; go_simp; first | done | exact rfl)) (by assumption) ?_
        simp only [List.setIfInBounds_toArray, List.set_cons_zero, List.set_cons_succ]
        refine take_at (i := 5) 57 rfl rfl (by kernel_rfl) (by kernel_rfl) (by kernel_rfl) (fun _ _ _ h => h) (by rfl) (fun w hSw => by (have hSw2 := SV.facts hSw; clear hSw; go_simp; first | done | exact rfl)) (by assumption) ?_
        simp only [List.setIfInBounds_toArray, List.set_cons_zero, List.set_cons_succ]
        refine put_chain (q := ⟨q.area, n1, sx⟩) (i := 6) (j := 7) (b6 := w.heap.size + 1 + 1) (b7 := w.heap.size + 1 + 1 + 1) (by kernel_rfl) (by kernel_rfl) rfl rfl rfl rfl (by rfl) (by rfl) rfl rfl rfl rfl rfl rfl H5.out.d6 H5.out.s7 (by omega) (fun W ho => hHeld.off ho (by omega) (by omega) (by omega) (by omega)) (fun W hd6 hs7 ho hHeld2 => ?_)
        refine take_at (i := 8) 8 rfl rfl (by kernel_rfl) (by kernel_rfl) (by kernel_rfl) (fun _ _ _ h => h) (by rfl) (fun w hSw => by (have hSw2 := SV.facts hSw; clear hSw; go_simp; first | done | exact rfl)) (by assumption) ?_
        simp only [List.setIfInBounds_toArray, List.set_cons_zero, List.set_cons_succ]
        refine wpAnyH_done (by kernel_rfl) ?_ _
        have D6 : Hid (DskAt W (w.heap.size + 1 + 1) (rdOf dq) (.slice ad5 n5 c5)) := hd6
        have S7 : Hid (SltAt W (w.heap.size + 1 + 1 + 1) ⟨q.area, n1, sx⟩) := hs7
        have HF : Hid (RSaved P dq 0 q xs w (.returned (.tuple #[rdV (rdOf dq) (.slice ad5 n5 c5), rtV ⟨q.area, n1, sx⟩, .int .i64 0])) W) := by
          have h := H5.out.drew.fin ho xs 0
          rw [HT.out] at h
          exact h
        clear hd6 hs7 ho hHeld hHeld2
        go_wp2_with fail
        exact retS3 rfl rfl rfl rfl D6.out S7.out rfl (by rw [HSV.out]; exact HF.out)
      · have hz' : (ee != 0) = true := by simpa using hz
        have HEE : Hid (¬ ee = 0) := hz
        clear hz
        go_wp2_with fail
        refine region_at (S := SV w.heap.size (w.heap.size + 1) (rdOf dq) (.slice ad5 n5 c5) q) 6 rfl (by kernel_rfl) ⟨H5.out.d3, H5.out.s4⟩ (fun hHeld => ?_)
        refine take_D (i := 0) 49 rfl rfl rfl rfl (by kernel_rfl) (by kernel_rfl) (by kernel_rfl) (fun _ _ _ h => h) (by rfl) (fun _ h => h.d) hHeld ?_
        simp only [List.setIfInBounds_toArray, List.set_cons_zero, List.set_cons_succ]
        refine take_T (i := 1) 50 rfl rfl rfl rfl (by kernel_rfl) (by kernel_rfl) (by kernel_rfl) (fun _ _ _ h => h) (by rfl) (fun _ h => h.s) hHeld ?_
        simp only [List.setIfInBounds_toArray, List.set_cons_zero, List.set_cons_succ]
        refine take_at (i := 2) 51 rfl rfl (by kernel_rfl) (by kernel_rfl) (by kernel_rfl) (fun _ _ _ h => h) (by rfl) (fun w hSw => by (have hSw2 := SV.facts hSw; clear hSw; go_simp; first | done | exact rfl)) (by assumption) ?_
        simp only [List.setIfInBounds_toArray, List.set_cons_zero, List.set_cons_succ]
        refine put_chain (i := 3) (j := 4) (b6 := w.heap.size + 1 + 1) (b7 := w.heap.size + 1 + 1 + 1) (by kernel_rfl) (by kernel_rfl) rfl rfl rfl rfl (by rfl) (by rfl) rfl rfl rfl rfl rfl rfl H5.out.d6 H5.out.s7 (by omega) (fun W ho => hHeld.off ho (by omega) (by omega) (by omega) (by omega)) (fun W hd6 hs7 ho hHeld2 => ?_)
        refine take_at (i := 5) 8 rfl rfl (by kernel_rfl) (by kernel_rfl) (by kernel_rfl) (fun _ _ _ h => h) (by rfl) (fun w hSw => by (have hSw2 := SV.facts hSw; clear hSw; go_simp; first | done | exact rfl)) (by assumption) ?_
        simp only [List.setIfInBounds_toArray, List.set_cons_zero, List.set_cons_succ]
        refine wpAnyH_done (by kernel_rfl) ?_ _
        have D6 : Hid (DskAt W (w.heap.size + 1 + 1) (rdOf dq) (.slice ad5 n5 c5)) := hd6
        have S7 : Hid (SltAt W (w.heap.size + 1 + 1 + 1) q) := hs7
        have HF : Hid (RSaved P dq ee q xs w (.returned (.tuple #[rdV (rdOf dq) (.slice ad5 n5 c5), rtV q, .int .i64 ee])) W) := by
          have h := H5.out.drew.fin ho xs ee
          rw [show newT q xs ee = q from if_neg HEE.out] at h
          exact h
        clear hd6 hs7 ho hHeld hHeld2
        go_wp2_with fail
        exact retS3 rfl rfl rfl rfl D6.out S7.out rfl (by rw [HSV.out]; exact HF.out)
    · have h0' : (e1 != 0) = true := by simpa using h0
      have h0'' : (e1 == 0) = false := by simpa using h0
      have HSV : Hid (saveD d q.area q.num xs = (d1, e1)) := by show _ = _; rw [HSV0.out, if_neg h0]
      have HEE : Hid (¬ e1 = 0) := h0
      have H5 : Hid (SvI P w wc d1 ad2 n2 c2 q) := H2.out
      clear h0
      go_wp2_with fail
      refine region_at (S := SV w.heap.size (w.heap.size + 1) (rdOf d1) (.slice ad2 n2 c2) q) 6 rfl (by kernel_rfl) ⟨H5.out.d3, H5.out.s4⟩ (fun hHeld => ?_)
      refine take_D (i := 0) 49 rfl rfl rfl rfl (by kernel_rfl) (by kernel_rfl) (by kernel_rfl) (fun _ _ _ h => h) (by rfl) (fun _ h => h.d) hHeld ?_
      simp only [List.setIfInBounds_toArray, List.set_cons_zero, List.set_cons_succ]
      refine take_T (i := 1) 50 rfl rfl rfl rfl (by kernel_rfl) (by kernel_rfl) (by kernel_rfl) (fun _ _ _ h => h) (by rfl) (fun _ h => h.s) hHeld ?_
      simp only [List.setIfInBounds_toArray, List.set_cons_zero, List.set_cons_succ]
      refine take_at (i := 2) 51 rfl rfl (by kernel_rfl) (by kernel_rfl) (by kernel_rfl) (fun _ _ _ h => h) (by rfl) (fun w hSw => by (have hSw2 := SV.facts hSw; clear hSw; go_simp; first | done | exact rfl)) (by assumption) ?_
      simp only [List.setIfInBounds_toArray, List.set_cons_zero, List.set_cons_succ]
      refine put_chain (i := 3) (j := 4) (b6 := w.heap.size + 1 + 1) (b7 := w.heap.size + 1 + 1 + 1) (by kernel_rfl) (by kernel_rfl) rfl rfl rfl rfl (by rfl) (by rfl) rfl rfl rfl rfl rfl rfl H5.out.d6 H5.out.s7 (by omega) (fun W ho => hHeld.off ho (by omega) (by omega) (by omega) (by omega)) (fun W hd6 hs7 ho hHeld2 => ?_)
      refine take_at (i := 5) 8 rfl rfl (by kernel_rfl) (by kernel_rfl) (by kernel_rfl) (fun _ _ _ h => h) (by rfl) (fun w hSw => by (have hSw2 := SV.facts hSw; clear hSw; go_simp; first | done | exact rfl)) (by assumption) ?_
      simp only [List.setIfInBounds_toArray, List.set_cons_zero, List.set_cons_succ]
      refine wpAnyH_done (by kernel_rfl) ?_ _
      have D6 : Hid (DskAt W (w.heap.size + 1 + 1) (rdOf d1) (.slice ad2 n2 c2)) := hd6
      have S7 : Hid (SltAt W (w.heap.size + 1 + 1 + 1) q) := hs7
      have HF : Hid (RSaved P d1 e1 q xs w (.returned (.tuple #[rdV (rdOf d1) (.slice ad2 n2 c2), rtV q, .int .i64 e1])) W) := by
        have h := H5.out.drew.fin ho xs e1
        rw [show newT q xs e1 = q from if_neg HEE.out] at h
        exact h
      clear hd6 hs7 ho hHeld hHeld2
      go_wp2_with fail
      exact retS3 rfl rfl rfl rfl D6.out S7.out rfl (by rw [HSV.out]; exact HF.out)
end Go.Proofs.Ytpmmpdkeahmdiaa
