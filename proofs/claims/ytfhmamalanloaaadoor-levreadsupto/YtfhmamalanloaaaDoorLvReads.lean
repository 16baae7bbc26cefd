/- LevReads: the walk. -/
import Derived.Test.YtfhmamalanloaaaDoorLvStarts
namespace Go.Proofs.YtfhmamalanloaaaDoor
open Go.RowKit Nums Ed Lv
set_option maxRecDepth 100000

attribute [local go_sem ↓] exec_alloc_R exec_box_R exec_load_R exec_store_R
attribute [local go_sem] rV_cells
theorem neq_same {bs : List Nat} (hb : bs.length = 25) (h1 : ∀ x ∈ bs, x < 256) (w : World) : (binOp .neq 32 (rV bs) (rV bs)).run Tryd.prog w = .ok (.bool false) w := by
  rw [neq_row hb hb h1 h1 w]; simp
theorem eql_same {bs : List Nat} (hb : bs.length = 25) (h1 : ∀ x ∈ bs, x < 256) (w : World) : (binOp .eql 32 (rV bs) (rV bs)).run Tryd.prog w = .ok (.bool true) w := by
  rw [eql_row hb hb h1 h1 w]; simp
set_option maxHeartbeats 2000000 in
theorem reads_walk (s : ByteArray) (e : Int) (vt : Value) (t : List Int) (w : World) (ht : Tabs w) (hm : s.size ≤ 1000000000) (hvt : RunesC w.heap.size w vt t) (htl : t.length ≤ 1000000000) :
    Calls Tryd.prog 6 #[.string s, .int .i64 e, vt] w fun x w' => x = .returned (.bool true) ∧ Below w.heap.size w w' := by
  have h0 := Acc.refl ht
  obtain ⟨adt, capt, rfl⟩ := hvt.1.form
  have HVT : Hid (RunesC w.heap.size w (.slice adt t.length capt) t) := hvt
  have hcap : t.length ≤ capt := hvt.2 _ _ _ rfl
  clear hvt
  go_enter Tryd.func6, Tryd.ntmps6
  go_upto_region 2 with (go_at_call 14; refine (made_acc h0 s e hm).mono ?_; rintro x w1 ⟨v, u, f, rfl, hb1, h1, hcase⟩)
  rcases hcase with ⟨hr, rfl, rfl⟩ | ⟨hr, rfl, p, xs, d, rfl, hx, hd, hl, hu⟩
  · have HR : Hid (rightB s.data.toList e = false) := hr
    clear hr
    go_wp2_with (first
      | (go_at_call 13; refine (alive_acc (by assumption)).mono ?_; rintro x w2 ⟨rfl, h2⟩)
      | (go_at_call 12; refine (Right_acc (by assumption) s e (by omega)).mono ?_; rintro x w3 ⟨rfl, h3⟩; rw [HR.out]))
    go_ret
    exact ⟨rfl, h3.bel⟩
  · subst hd
    have hn := hl.len
    have hd3 := hl.few
    obtain ⟨ad, cap, rfl⟩ := hu.1.form
    clear hr hx
    by_cases h300 : 300 < t.length
    · clear hl hu
      go_wp2_with (go_at_call 13; refine (alive_acc (by assumption)).mono ?_; rintro x w2 ⟨rfl, h2⟩)
      go_ret
      exact ⟨rfl, h2.bel⟩
    have HVT1 : Hid (RunesC w1.heap.size w1 (.slice adt t.length capt) t) := HVT.out.below hb1
    clear HVT
    go_upto_region 5 with (go_at_call 15; refine (Start_any p _ _ _ hl).mono ?_; rintro x w2 ⟨rfl, hb2⟩; rw [start_row])
    obtain ⟨w3, hst, hR3, hb3, hs3⟩ := keep_row w2 (rowL xs d []) (rowL_len _ _ _)
    rw [hst]
    have B3 : Hid (Below w1.heap.size w1 w3) := hb2.trans (hb3.mono hb2.size)
    have HR3 : Hid (RAt w3 w2.heap.size (rowL xs d (t.take 0))) := hR3
    have hb12 : w1.heap.size ≤ w2.heap.size := hb2.size
    have HL : Hid (LevAt w1 p xs d) := hl
    have HU : Hid (RunesC w1.heap.size w1 (.slice ad xs.length cap) xs) := hu
    have H1 : Hid (Acc w w1) := h1
    clear hst hR3 hb3 hs3 hl hu hb2 h1
    go_wp2_with fail
    go_loopw [41] (fun v wr => ∃ k : Nat, v = .int .i64 k ∧ k ≤ t.length ∧ RAt wr w2.heap.size (rowL xs d (t.take k)) ∧ Below w1.heap.size w1 wr) (fun v _ => t.length - (intOf v).toNat)
    case atStart => exact ⟨0, rfl, Nat.zero_le _, HR3.out, B3.out⟩
    case round =>
      clear HR3 B3
      obtain ⟨k, rfl, hk, hA, hB⟩ := hrel
      have HA : Hid (RAt wr w2.heap.size (rowL xs d (t.take k))) := hA
      have HB : Hid (Below w1.heap.size w1 wr) := hB
      have hwr : w2.heap.size < wr.heap.size := hA.lt
      have hld := loadR_at hA.range (rowL_len _ _ _)
      have HLR : Hid (LevAt wr p xs d) := HL.out.below hB
      have HVR : Hid (RunesC wr.heap.size wr (.slice adt t.length capt) t) := HVT1.out.below hB
      by_cases hk8 : k < t.length
      · obtain ⟨r, hr⟩ : ∃ r, t[k]? = some r := ⟨_, List.getElem?_eq_getElem hk8⟩
        obtain ⟨gx, offx, rfl, hgx, hcx⟩ := HVR.out.1.at hr
        have HT : Hid (t.take (k + 1) = t.take k ++ [r]) := by unfold Hid; rw [List.take_add_one, hr]; rfl
        clear hA hB hr
        go_upto_region 9 with (go_at_call 17; refine (Step_any p xs d _ r _ HLR.out (rowL_len _ _ _)).mono ?_; rintro x w4 ⟨rfl, hb4⟩; rw [step_row d (t.take k) r hn, ← HT.out])
        obtain ⟨w5, hst, hP, hO⟩ := put_row (rowL xs d (t.take (k + 1))) (HA.out.below (by omega) hb4) (rowL_len _ _ _) (rowL_len _ _ _)
        rw [hst]
        have HB5 : Hid (Below w1.heap.size w1 w5) := hO.below (HB.out.trans (hb4.mono (by omega))) hb12
        have HP5 : Hid (RAt w5 w2.heap.size (rowL xs d (t.take (k + 1)))) := hP
        clear hst hP hO hld
        go_upto_region 9 with fail
        by_cases h40 : k < 40
        · skip
          obtain ⟨R, hR⟩ : ∃ R, rowL xs d (t.take (k + 1)) = R := ⟨_, rfl⟩
          have hRl : R.length = 25 := by rw [← hR, rowL_len]
          have hRb : ∀ x ∈ R, x < 256 := by rw [← hR]; exact rowL_byte _ hd3 _
          have HR5 : Hid (rowL xs d (t.take (k + 1)) = R) := hR
          obtain ⟨q, hq⟩ : ∃ q, q = k + 1 := ⟨_, rfl⟩
          have HQ : Hid (q = k + 1) := hq
          have hwq : IntKind.i64.wrap ((k : Int) + 1) = (q : Int) := by rw [IntKind.wrap_i64]; omega
          have hqc : q ≤ capt := by omega
          have h40i : (k : Int) < 40 := by omega
          have hPR : RAt w5 w2.heap.size R := hR ▸ HP5.out
          have hS0 : loadR Tryd.prog (.pointer (some ⟨w2.heap.size, 0, none⟩)) w5.drew = .ok (rV R) w5.drew := loadR_at (RAt.range (w := w5.drew) hPR) hRl
          have HU5 : Hid (RunesC w5.drew.heap.size w5.drew (.slice ad xs.length cap) xs) := HU.out.below HB5.out.drew
          have HV5 : Hid (RunesC w5.drew.heap.size w5.drew (.slice (some ⟨gx, offx, none⟩) t.length capt) t) := HVT1.out.below HB5.out.drew
          have HROW := RefRow_any (.slice ad xs.length cap) (.slice (some ⟨gx, offx, none⟩) q capt) xs (t.take q) d w5.drew HU5.out (HV5.out.1.take q (by omega)) hn (by rw [List.length_take]; omega) hd3
          rw [hq, hR, ← hq] at HROW
          clear hq hR
          refine region_at (S := fun W' => loadR Tryd.prog (.pointer (some ⟨w2.heap.size, 0, none⟩)) W' = .ok (rV R) W') 13 rfl mixedP hS0 (fun _ => ?_)
          refine take_at (i := 0) 50 rfl rfl (by kernel_rfl) (by kernel_rfl) (by kernel_rfl) (fun _ _ _ h => h) (by rfl) (fun w hSw => by (have hSw2 := id hSw; clear hSw; go_simp; first | done | exact rfl)) (by assumption) ?_
          simp only [List.setIfInBounds_toArray, List.set_cons_zero, List.set_cons_succ]
          refine take_at (i := 1) (v := .bool true) 51 rfl rfl (by kernel_rfl) (by kernel_rfl) (by kernel_rfl) (fun _ _ _ h => h) (by rfl) (fun w hSw => by (have hSw2 := id hSw; clear hSw; go_simp; first | done | exact rfl | simp_all | (simp; omega))) (by assumption) ?_
          simp only [List.setIfInBounds_toArray, List.set_cons_zero, List.set_cons_succ]
          refine take_at (i := 2) 52 rfl rfl (by kernel_rfl) (by kernel_rfl) (by kernel_rfl) (fun _ _ _ h => h) (by rfl) (fun w hSw => by (have hSw2 := id hSw; clear hSw; go_simp; first | done | exact rfl)) (by assumption) ?_
          simp only [List.setIfInBounds_toArray, List.set_cons_zero, List.set_cons_succ]
          refine take_at (i := 3) (v := rV R) 53 rfl rfl (by kernel_rfl) (by kernel_rfl) (by kernel_rfl) (fun _ _ _ h => h) (by rfl) (fun w hSw => by (have h2 := hSw; exact (exec_load_R _ (.tmp 10) _ _ _ _ _ _).trans (congrArg (fun z => Result.andThen z (fun v w' => Result.ok (Next.value v) w')) h2))) (by assumption) ?_
          simp only [List.setIfInBounds_toArray, List.set_cons_zero, List.set_cons_succ]
          refine take_at (i := 4) 54 rfl rfl (by kernel_rfl) (by kernel_rfl) (by kernel_rfl) (fun _ _ _ h => h) (by rfl) (fun w hSw => by (have hSw2 := id hSw; clear hSw; go_simp; first | done | exact rfl)) (by assumption) ?_
          simp only [List.setIfInBounds_toArray, List.set_cons_zero, List.set_cons_succ]
          refine take_at (i := 5) 55 rfl rfl (by kernel_rfl) (by kernel_rfl) (by kernel_rfl) (fun _ _ _ h => h) (by rfl) (fun w hSw => by (have hSw2 := id hSw; clear hSw; go_simp; first | done | exact rfl)) (by assumption) ?_
          simp only [List.setIfInBounds_toArray, List.set_cons_zero, List.set_cons_succ]
          refine take_at (i := 6) 56 rfl rfl (by kernel_rfl) (by kernel_rfl) (by kernel_rfl) (fun _ _ _ h => h) (by rfl) (fun w hSw => by (have hSw2 := id hSw; clear hSw; go_simp; first | done | exact rfl)) (by assumption) ?_
          simp only [List.setIfInBounds_toArray, List.set_cons_zero, List.set_cons_succ]
          refine take_at (i := 7) 57 rfl rfl (by kernel_rfl) (by kernel_rfl) (by kernel_rfl) (fun _ _ _ h => h) (by rfl) (fun w hSw => by (have hSw2 := id hSw; clear hSw; go_simp; first | done | exact rfl)) (by assumption) ?_
          simp only [List.setIfInBounds_toArray, List.set_cons_zero, List.set_cons_succ]
          refine take_at (i := 8) (v := .int .i64 (q : Int)) 58 rfl rfl (by kernel_rfl) (by kernel_rfl) (by kernel_rfl) (fun _ _ _ h => h) (by rfl) (fun w hSw => by (have hSw2 := id hSw; clear hSw; go_simp; first | done | exact rfl | simp_all | (simp; omega))) (by assumption) ?_
          simp only [List.setIfInBounds_toArray, List.set_cons_zero, List.set_cons_succ]
          refine take_at (i := 9) (v := .slice (some ⟨gx, offx, none⟩) q capt) 59 rfl rfl (by kernel_rfl) (by kernel_rfl) (by kernel_rfl) (fun _ _ _ h => h) (by rfl) (fun w hSw => by (have hSw2 := id hSw; clear hSw; go_simp; first | done | exact rfl | simp_all | (simp; omega))) (by assumption) ?_
          simp only [List.setIfInBounds_toArray, List.set_cons_zero, List.set_cons_succ]
          refine one_call (i := 10) (w0 := w5.drew) 60 16 #[.slice ad xs.length cap, .int .i64 (d : Int), .slice (some ⟨gx, offx, none⟩) q capt] (by kernel_rfl) rfl rfl (by rfl) (by kernel_rfl) ?_
          refine HROW.mono ?_
          rintro x w6 ⟨rfl, hb6⟩
          have hP6 : RAt w6 w2.heap.size R := RAt.below (w := w5.drew) (B := w5.heap.size) hPR hPR.lt hb6
          have hS6 := loadR_at hP6.range hRl
          refine ⟨_, rfl, hS6, fun _ => ?_⟩
          simp only [List.setIfInBounds_toArray, List.set_cons_zero, List.set_cons_succ]
          refine one_value (i := 11) (v := .bool false) (w' := w6) 61 (by kernel_rfl) rfl rfl (by rfl) ?_ hS6 (fun _ => ?_)
          · have hq := neq_same hRl hRb w6
            have hg := guard_row .neq (.tmp 53) (.tmp 60) R R w6
            go_simp
          simp only [List.setIfInBounds_toArray, List.set_cons_zero, List.set_cons_succ]
          refine one_value (i := 12) (v := .bool false) (w' := w6) 62 (by kernel_rfl) rfl rfl (by rfl) (by kernel_rfl) hS6 (fun _ => ?_)
          simp only [List.setIfInBounds_toArray, List.set_cons_zero, List.set_cons_succ]
          refine wpAnyH_done (by kernel_rfl) ?_ _
          have HB6 : Hid (Below w1.heap.size w1 w6) := HB5.out.drew.trans (hb6.mono (by have := HB5.out.size; show w1.heap.size ≤ w5.heap.size; omega))
          have HP6 : Hid (RAt w6 w2.heap.size (rowL xs d (t.take (k + 1)))) := by unfold Hid; rw [HR5.out]; exact hP6
          clear hS0 hS6 HROW hP6 hPR hRb
          go_wp2_with fail
          go_roundw
          case rel => exact ⟨k + 1, by rw [HQ.out], by omega, HP6.out, HB6.out⟩
          case measure => simp [intOf]; have := HQ.out; omega
        · have h40i : ¬ (k : Int) < 40 := by omega
          go_quiet (fail)
          go_wp2_with fail
          go_roundw
          case rel => exact ⟨k + 1, by go_num, by omega, HP5.out, below_drewN HB5.out _⟩
          case measure => simp [intOf]; omega
      · obtain rfl : k = t.length := by omega
        rw [List.take_length] at hld HA
        have HW : Hid (Acc w wr) := H1.out.step hB
        have HUR : Hid (RunesC wr.heap.size wr (.slice ad xs.length cap) xs) := HU.out.below hB
        clear hA hB
        go_upto_region 12 with fail
        obtain ⟨R, hR⟩ : ∃ R, rowL xs d t = R := ⟨_, rfl⟩
        have hRl : R.length = 25 := by rw [← hR, rowL_len]
        have hRb : ∀ x ∈ R, x < 256 := by rw [← hR]; exact rowL_byte _ hd3 _
        rw [hR] at HA hld
        have hS0 : loadR Tryd.prog (.pointer (some ⟨w2.heap.size, 0, none⟩)) wr.drew = .ok (rV R) wr.drew := loadR_at (RAt.range (w := wr.drew) HA.out) hRl
        refine region_at (S := fun W' => loadR Tryd.prog (.pointer (some ⟨w2.heap.size, 0, none⟩)) W' = .ok (rV R) W') 10 rfl mixedP hS0 (fun _ => ?_)
        refine one_call (i := 0) (w0 := wr.drew) 64 13 #[] (by kernel_rfl) rfl rfl (by rfl) (by kernel_rfl) ?_
        refine (alive_any wr.drew (HW.out.step (Below.refl _ wr).drew).tabs).mono ?_
        rintro x w6 ⟨rfl, hb6⟩
        have hA6 : RAt w6 w2.heap.size R := RAt.below (w := wr.drew) (B := wr.heap.size) HA.out hwr hb6
        have hS6 := loadR_at hA6.range hRl
        have hb6' : Below wr.heap.size wr w6 := (Below.refl _ wr).drew.trans hb6
        refine ⟨_, rfl, hS6, fun _ => ?_⟩
        simp only [List.setIfInBounds_toArray, List.set_cons_zero, List.set_cons_succ]
        refine take_at (i := 1) 65 rfl rfl (by kernel_rfl) (by kernel_rfl) (by kernel_rfl) (fun _ _ _ h => h) (by rfl) (fun w hSw => by (have hSw2 := id hSw; clear hSw; go_simp; first | done | exact rfl)) (by assumption) ?_
        simp only [List.setIfInBounds_toArray, List.set_cons_zero, List.set_cons_succ]
        refine take_at (i := 2) (v := rV R) 66 rfl rfl (by kernel_rfl) (by kernel_rfl) (by kernel_rfl) (fun _ _ _ h => h) (by rfl) (fun w hSw => by (have h2 := hSw; exact (exec_load_R _ (.tmp 10) _ _ _ _ _ _).trans (congrArg (fun z => Result.andThen z (fun v w' => Result.ok (Next.value v) w')) h2))) (by assumption) ?_
        simp only [List.setIfInBounds_toArray, List.set_cons_zero, List.set_cons_succ]
        refine take_at (i := 3) 67 rfl rfl (by kernel_rfl) (by kernel_rfl) (by kernel_rfl) (fun _ _ _ h => h) (by rfl) (fun w hSw => by (have hSw2 := id hSw; clear hSw; go_simp; first | done | exact rfl)) (by assumption) ?_
        simp only [List.setIfInBounds_toArray, List.set_cons_zero, List.set_cons_succ]
        refine take_at (i := 4) 68 rfl rfl (by kernel_rfl) (by kernel_rfl) (by kernel_rfl) (fun _ _ _ h => h) (by rfl) (fun w hSw => by (have hSw2 := id hSw; clear hSw; go_simp; first | done | exact rfl)) (by assumption) ?_
        simp only [List.setIfInBounds_toArray, List.set_cons_zero, List.set_cons_succ]
        refine take_at (i := 5) 69 rfl rfl (by kernel_rfl) (by kernel_rfl) (by kernel_rfl) (fun _ _ _ h => h) (by rfl) (fun w hSw => by (have hSw2 := id hSw; clear hSw; go_simp; first | done | exact rfl)) (by assumption) ?_
        simp only [List.setIfInBounds_toArray, List.set_cons_zero, List.set_cons_succ]
        have HROW := RefRow_any (.slice ad xs.length cap) (.slice adt t.length capt) xs t d w6 (HUR.out.below hb6') (HVR.out.below hb6').1 hn (by omega) hd3
        rw [hR] at HROW
        refine one_call (i := 6) (w0 := w6) 70 16 #[.slice ad xs.length cap, .int .i64 (d : Int), .slice adt t.length capt] (by kernel_rfl) rfl rfl (by rfl) (by kernel_rfl) ?_
        refine HROW.mono ?_
        rintro x w7 ⟨rfl, hb7⟩
        have hS7 := loadR_at (hA6.below (B := w6.heap.size) hA6.lt hb7).range hRl
        refine ⟨_, rfl, hS7, fun _ => ?_⟩
        simp only [List.setIfInBounds_toArray, List.set_cons_zero, List.set_cons_succ]
        refine one_value (i := 7) (v := .bool true) (w' := w7) 71 (by kernel_rfl) rfl rfl (by rfl) ?_ hS7 (fun _ => ?_)
        · have hq := eql_same hRl hRb w7
          have hg := guard_row .eql (.tmp 66) (.tmp 70) R R w7
          go_simp
        simp only [List.setIfInBounds_toArray, List.set_cons_zero, List.set_cons_succ]
        refine one_value (i := 8) (v := .bool true) (w' := w7) 72 (by kernel_rfl) rfl rfl (by rfl) (by kernel_rfl) hS7 (fun _ => ?_)
        simp only [List.setIfInBounds_toArray, List.set_cons_zero, List.set_cons_succ]
        refine one_value (i := 9) (v := .bool true) (w' := w7) 6 (by kernel_rfl) rfl rfl (by rfl) (by kernel_rfl) hS7 (fun _ => ?_)
        simp only [List.setIfInBounds_toArray, List.set_cons_zero, List.set_cons_succ]
        refine wpAnyH_done (by kernel_rfl) ?_ _
        have h7 := (HW.out.step hb6').step hb7
        clear hS0 hS6 hS7 HROW hld
        go_wp2_with fail
        go_ret
        exact ⟨rfl, h7.bel⟩
end Go.Proofs.YtfhmamalanloaaaDoor
