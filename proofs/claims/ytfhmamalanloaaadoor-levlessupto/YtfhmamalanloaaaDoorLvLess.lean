/- LevLess, LevAsks: the walks. -/
import Derived.Test.YtfhmamalanloaaaDoorLvStarts
namespace Go.Proofs.YtfhmamalanloaaaDoor
open Go.RowKit Nums Ed Lv
set_option maxRecDepth 100000

attribute [local go_sem ↓] exec_alloc_R exec_box_R exec_load_R exec_store_R
attribute [local go_sem] rV_cells
set_option maxHeartbeats 2000000 in
theorem less_walk (s : ByteArray) (e : Int) (vt : Value) (t : List Int) (w : World) (ht : Tabs w) (hm : s.size ≤ 1000000000) (hvt : RunesC w.heap.size w vt t) (htl : t.length ≤ 1000000000) :
    Calls Tryd.prog 10 #[.string s, .int .i64 e, vt] w fun x w' => x = .returned (.bool true) ∧ Below w.heap.size w w' := by
  have h0 := Acc.refl ht
  obtain ⟨adt, capt, rfl⟩ := hvt.1.form
  have HVT : Hid (RunesC w.heap.size w (.slice adt t.length capt) t) := hvt
  clear hvt
  go_enter Tryd.func10, Tryd.ntmps10
  go_upto_region 2 with (go_at_call 14; refine (made_acc h0 s e hm).mono ?_; rintro x w1 ⟨v, u, f, rfl, hb1, h1, hcase⟩)
  go_upto_region 3 with (go_at_call 14; refine (made_acc h1 s _ hm).mono ?_; rintro x w2 ⟨v2, u2, f2, rfl, hb2, h2, hcase2⟩)
  rcases hcase with ⟨hr, rfl, rfl⟩ | ⟨hr, rfl, p, xs, d, rfl, hx, hd, hl, hu⟩
  · have HR : Hid (rightB s.data.toList e = false) := hr
    clear hr hcase2
    go_wp2_with (first
      | (go_at_call 13; refine (alive_acc (by assumption)).mono ?_; rintro x w3 ⟨rfl, h3⟩)
      | (go_at_call 12; refine (Right_acc (by assumption) s e (by omega)).mono ?_; rintro x w4 ⟨rfl, h4⟩; rw [HR.out]))
    go_ret
    exact ⟨rfl, h4.bel⟩
  subst hd
  have hn := hl.len
  have hd3 := hl.few
  rcases hcase2 with ⟨hr2, rfl, rfl⟩ | ⟨hr2, rfl, p2, xs2, d2, rfl, hx2, hd2, hl2, hu2⟩
  · clear hr hx hr2 hl hu
    go_wp2_with (go_at_call 13; refine (alive_acc (by assumption)).mono ?_; rintro x w3 ⟨rfl, h3⟩)
    go_ret
    exact ⟨rfl, h3.bel⟩
  obtain rfl : xs = xs2 := Option.some.inj (hx.symm.trans hx2)
  have HDD : Hid (d2 = d + 1) := by unfold wrap64 at hd2; unfold Hid; omega
  have hd23 := hl2.few
  have HL : Hid (LevAt w2 p xs d) := hl.below hb2
  have HL2 : Hid (LevAt w2 p2 xs d2) := hl2
  have HVT1 : Hid (RunesC w2.heap.size w2 (.slice adt t.length capt) t) := (HVT.out.below hb1).below hb2
  have HH2 : Hid (Acc w w2) := h2
  clear hr hx hr2 hx2 hl hl2 hu hu2 HVT hb1 hb2 hd2 h1 h2
  go_upto_region 6 with (go_at_call 15; refine (Start_any p _ _ _ HL.out).mono ?_; rintro x w3 ⟨rfl, hb3⟩; rw [start_row])
  obtain ⟨w4, hst, hR4, hb4, hs4⟩ := keep_row w3 (rowL xs d []) (rowL_len _ _ _)
  rw [hst]
  have B4 : Hid (Below w2.heap.size w2 w4) := hb3.trans (hb4.mono hb3.size)
  have HR4 : Hid (RAt w4 w3.heap.size (rowL xs d (t.take 0))) := hR4
  have hs23 : w2.heap.size ≤ w3.heap.size := hb3.size
  have HL24 : Hid (LevAt w4 p2 xs d2) := HL2.out.below B4.out
  clear hst hR4 hb4 hb3
  go_upto_region 7 with (go_at_call 15; refine (Start_any p2 _ _ _ HL24.out).mono ?_; rintro x w5 ⟨rfl, hb5⟩; rw [start_row])
  obtain ⟨w6, hst, hR6, hb6, hs6⟩ := keep_row w5 (rowL xs d2 []) (rowL_len _ _ _)
  rw [hst]
  have hs45 : w4.heap.size ≤ w5.heap.size := hb5.size
  have B46 : Below w4.heap.size w4 w6 := hb5.trans (hb6.mono hb5.size)
  have B6 : Hid (Below w2.heap.size w2 w6) := B4.out.trans (B46.mono (by omega))
  have HR46 : Hid (RAt w6 w3.heap.size (rowL xs d (t.take 0))) := HR4.out.below (by omega) B46
  have HR6 : Hid (RAt w6 w5.heap.size (rowL xs d2 (t.take 0))) := hR6
  have hne : w3.heap.size ≠ w5.heap.size := by omega
  clear hst hR6 hb6 hs6 hb5 B46 HR4 HL24 B4
  go_wp2_with fail
  go_loopw [58] (fun v wr => ∃ k : Nat, v = .int .i64 k ∧ k ≤ t.length ∧ RAt wr w3.heap.size (rowL xs d (t.take k)) ∧ RAt wr w5.heap.size (rowL xs d2 (t.take k)) ∧ Below w2.heap.size w2 wr) (fun v _ => t.length - (intOf v).toNat)
  case atStart => exact ⟨0, rfl, Nat.zero_le _, HR46.out, HR6.out, B6.out⟩
  case round =>
    clear HR46 HR6 B6
    obtain ⟨k, rfl, hk, hA, hC, hB⟩ := hrel
    have HA : Hid (RAt wr w3.heap.size (rowL xs d (t.take k))) := hA
    have HC : Hid (RAt wr w5.heap.size (rowL xs d2 (t.take k))) := hC
    have HB : Hid (Below w2.heap.size w2 wr) := hB
    have hwr : w5.heap.size < wr.heap.size := hC.lt
    have hld := loadR_at hA.range (rowL_len _ _ _)
    have HLR : Hid (LevAt wr p xs d) := HL.out.below hB
    have HVR : Hid (RunesC wr.heap.size wr (.slice adt t.length capt) t) := HVT1.out.below hB
    by_cases hk8 : k < t.length
    · obtain ⟨r, hr⟩ : ∃ r, t[k]? = some r := ⟨_, List.getElem?_eq_getElem hk8⟩
      obtain ⟨gx, offx, rfl, hgx, hcx⟩ := HVR.out.1.at hr
      have HT : Hid (t.take (k + 1) = t.take k ++ [r]) := by unfold Hid; rw [List.take_add_one, hr]; rfl
      clear hA hC hB hr
      go_upto_region 11 with (go_at_call 17; refine (Step_any p xs d _ r _ HLR.out (rowL_len _ _ _)).mono ?_; rintro x w7 ⟨rfl, hb7⟩; rw [step_row d (t.take k) r hn, ← HT.out])
      obtain ⟨w8, hst, hP, hO⟩ := put_row (rowL xs d (t.take (k + 1))) (HA.out.below (by omega) hb7) (rowL_len _ _ _) (rowL_len _ _ _)
      rw [hst]
      have hs7 := hb7.size
      have HC8 : Hid (RAt w8 w5.heap.size (rowL xs d2 (t.take k))) := (HC.out.below (by omega) hb7).same (hO.block _ (fun e => hne e.symm))
      have HB8 : Hid (Below w2.heap.size w2 w8) := hO.below (HB.out.trans (hb7.mono (by omega))) hs23
      have HP8 : Hid (RAt w8 w3.heap.size (rowL xs d (t.take (k + 1)))) := hP
      have HL8 : Hid (LevAt w8 p2 xs d2) := HL2.out.below HB8.out
      have hld8 := loadR_at HC8.out.range (rowL_len _ _ _)
      have hw8 := HC8.out.lt
      clear hst hP hO hld
      go_wp2_with (go_at_call 17; refine (Step_any p2 xs d2 _ r _ HL8.out (rowL_len _ _ _)).mono ?_; rintro x w9 ⟨rfl, hb9⟩; rw [step_row d2 (t.take k) r hn, ← HT.out])
      obtain ⟨w10, hst, hP, hO⟩ := put_row (rowL xs d2 (t.take (k + 1))) (HC8.out.below (by omega) hb9) (rowL_len _ _ _) (rowL_len _ _ _)
      rw [hst]
      have hs8 := HP8.out.lt
      have HA10 : Hid (RAt w10 w3.heap.size (rowL xs d (t.take (k + 1)))) := (HP8.out.below (by omega) hb9).same (hO.block _ hne)
      have HB10 : Hid (Below w2.heap.size w2 w10) := hO.below (HB8.out.trans (hb9.mono (by omega))) (by omega)
      have HP10 : Hid (RAt w10 w5.heap.size (rowL xs d2 (t.take (k + 1)))) := hP
      clear hst hP hO
      go_wp2_with fail
      go_roundw
      case rel => exact ⟨k + 1, by go_num, by omega, HA10.out, HP10.out, HB10.out⟩
      case measure => simp [intOf]; omega
    · obtain rfl : k = t.length := by omega
      rw [List.take_length] at hld HC
      have HW : Hid (Acc w wr) := HH2.out.step hB
      have HD1 := (dist_row (xs := xs) d t hn).1
      have HD2 : Hid (lv t xs ≤ d → distN xs.length d (rowL xs d t) = lv t xs) := (dist_row (xs := xs) d t hn).2
      have HE1 := (dist_row (xs := xs) d2 t hn).1
      have HE2 : Hid (lv t xs ≤ d2 → distN xs.length d2 (rowL xs d2 t) = lv t xs) := (dist_row (xs := xs) d2 t hn).2
      have HL2R : Hid (LevAt wr p2 xs d2) := HL2.out.below hB
      clear hA hC hB
      go_upto_region 14 with (go_at_call 19; refine (Dist_any p xs d _ _ HLR.out (rowL_len _ _ _)).mono ?_; rintro x w7 ⟨rfl, hb7⟩; rw [HD1])
      have h7 := HW.out.step hb7
      have HL7 : Hid (LevAt w7 p2 xs d2) := HL2R.out.below hb7
      have hld7 := loadR_at (HC.out.below (by omega) hb7).range (rowL_len _ _ _)
      go_upto_region 15 with (go_at_call 19; refine (Dist_any p2 xs d2 _ _ HL7.out (rowL_len _ _ _)).mono ?_; rintro x w8 ⟨rfl, hb8⟩; rw [HE1])
      have h8 := h7.step hb8
      clear h7 HD1 HE1
      obtain ⟨y, hy⟩ : ∃ y, lv t xs = y := ⟨_, rfl⟩
      rw [hy] at HD2 HE2 ⊢
      by_cases hyd : y ≤ d
      · rw [HD2.out hyd, decide_eq_true hyd, HE2.out (by have := HDD.out; omega), decide_eq_true (show y ≤ d2 by have := HDD.out; omega)]
        clear HD2 HE2 hy
        go_wp2_with (go_at_call 13; refine (alive_acc (by assumption)).mono ?_; rintro x w9 ⟨rfl, h9⟩)
        go_ret
        exact ⟨ret_bool (by simp), h9.bel⟩
      · rw [decide_eq_false hyd]
        clear HD2 HE2 hy
        generalize distN xs.length d (rowL xs d t) = z1
        generalize distN xs.length d2 (rowL xs d2 t) = z2
        generalize decide (y ≤ d2) = z3
        go_wp2_with (go_at_call 13; refine (alive_acc (by assumption)).mono ?_; rintro x w9 ⟨rfl, h9⟩)
        go_ret
        exact ⟨ret_bool (by simp), h9.bel⟩
end Go.Proofs.YtfhmamalanloaaaDoor
