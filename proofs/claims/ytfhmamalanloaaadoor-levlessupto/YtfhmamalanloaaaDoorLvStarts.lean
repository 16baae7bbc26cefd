/- LevStarts, LevNear, LevLess, LevAsks: the walks. -/
import Derived.Test.YtfhmamalanloaaaDoorLvRefS
namespace Go.Proofs.YtfhmamalanloaaaDoor
open Go.RowKit Nums Ed Lv
set_option maxRecDepth 100000

attribute [local go_sem ↓] exec_alloc_R exec_box_R exec_load_R exec_store_R
attribute [local go_sem] rV_cells
theorem rowL_byte (xs : List Int) {d : Nat} (hd : d ≤ 3) (t : List Int) : ∀ x ∈ rowL xs d t, x < 256 := by
  unfold rowL rowK
  refine mk_byte fun j _ => ?_
  split
  · have := rowF_le xs d t j; omega
  · decide
theorem runes_nil (w : World) : RunesAt w.heap.size w (.slice none 0 0) [] := ⟨none, 0, rfl, fun h => by simp at h⟩
set_option maxHeartbeats 1000000 in
theorem starts_walk (s : ByteArray) (e : Int) (w : World) (ht : Tabs w) (hm : s.size ≤ 1000000000) :
    Calls Tryd.prog 4 #[.string s, .int .i64 e] w fun x w' => x = .returned (.bool true) ∧ Below w.heap.size w w' := by
  have h0 := Acc.refl ht
  go_enter Tryd.func4, Tryd.ntmps4
  go_upto_region 2 with (go_at_call 14; refine (made_acc h0 s e hm).mono ?_; rintro x w1 ⟨v, u, f, rfl, hb1, h1, hcase⟩)
  rcases hcase with ⟨hr, rfl, rfl⟩ | ⟨hr, rfl, p, xs, d, rfl, hx, hd, hl, hu⟩
  · have HR : Hid (rightB s.data.toList e = false) := hr
    clear hr
    go_wp2_with (first
      | (go_at_call 13; refine (alive_acc (by assumption)).mono ?_; rintro x w2 ⟨rfl, h2⟩)
      | (go_at_call 12; refine (Right_acc (by assumption) s e (by omega)).mono ?_; rintro x w3 ⟨rfl, h3⟩; rw [HR.out]))
    go_ret
    exact ⟨rfl, h3.bel⟩
  · subst hd
    have hn := hl.len
    have hd3 := hl.few
    obtain ⟨ad, cap, rfl⟩ := hu.1.form
    have heq : ∀ W, (binOp .eql 32 (rV (rowL xs d [])) (rV (rowL xs d []))).run Tryd.prog W = .ok (.bool true) W := fun W => by
      rw [eql_row (rowL_len _ _ _) (rowL_len _ _ _) (rowL_byte _ hd3 _) (rowL_byte _ hd3 _) W]; simp
    have hgd : ∀ (x y : Operand) W, (eqGuard .eql 32 x y (rV (rowL xs d [])) (rV (rowL xs d []))).run Tryd.prog W = .ok () W := fun x y W => guard_row _ x y _ _ W
    clear hr hx
    go_wp2_with (first
      | (go_at_call 13; refine (alive_any _ h1.tabs).mono ?_; rintro x w2 ⟨rfl, hb2⟩; have hl2 := hl.below hb2; have hu2 := hu.below hb2; have h2 := h1.step hb2)
      | (go_at_call 15; refine (Start_any p _ _ _ hl2).mono ?_; rintro x w3 ⟨rfl, hb3⟩; have hu3 := hu2.below hb3; have h3 := h2.step hb3; rw [start_row])
      | (go_at_call 16; refine (RefRow_acc h3 _ _ xs [] d hu3 (runes_nil _) hn (by decide) hd3).mono ?_; rintro x w4 ⟨rfl, h4⟩))
    go_ret
    exact ⟨rfl, h4.bel⟩
set_option maxHeartbeats 1000000 in
theorem near_walk (s : ByteArray) (e : Int) (vt : Value) (t : List Int) (w : World) (ht : Tabs w) (hm : s.size ≤ 1000000000) (hvt : RunesC w.heap.size w vt t) (htl : t.length ≤ 1000000000) :
    Calls Tryd.prog 7 #[.string s, .int .i64 e, vt] w fun x w' => x = .returned (.bool true) ∧ Below w.heap.size w w' := by
  have h0 := Acc.refl ht
  obtain ⟨adt, capt, rfl⟩ := hvt.1.form
  have HVT : Hid (RunesC w.heap.size w (.slice adt t.length capt) t) := hvt
  clear hvt
  go_enter Tryd.func7, Tryd.ntmps7
  go_upto_region 2 with (go_at_call 14; refine (made_acc h0 s e hm).mono ?_; rintro x w1 ⟨v, u, f, rfl, hb1, h1, hcase⟩)
  rcases hcase with ⟨hr, rfl, rfl⟩ | ⟨hr, rfl, p, xs, d, rfl, hx, hd, hl, hu⟩
  · have HR : Hid (rightB s.data.toList e = false) := hr
    clear hr
    go_wp2_with (first
      | (go_at_call 13; refine (alive_acc (by assumption)).mono ?_; rintro x w2 ⟨rfl, h2⟩)
      | (go_at_call 12; refine (Right_acc (by assumption) s e (by omega)).mono ?_; rintro x w3 ⟨rfl, h3⟩; rw [HR.out]))
    go_ret
    exact ⟨rfl, h3.bel⟩
  · subst hd
    have hn := hl.len
    have hd3 := hl.few
    obtain ⟨ad, cap, rfl⟩ := hu.1.form
    clear hr hx
    by_cases h300 : 300 < t.length
    · clear hl hu
      go_wp2_with (go_at_call 13; refine (alive_acc (by assumption)).mono ?_; rintro x w2 ⟨rfl, h2⟩)
      go_ret
      exact ⟨rfl, h2.bel⟩
    have HVT1 : Hid (RunesC w1.heap.size w1 (.slice adt t.length capt) t) := HVT.out.below hb1
    clear HVT
    go_upto_region 5 with (go_at_call 15; refine (Start_any p _ _ _ hl).mono ?_; rintro x w2 ⟨rfl, hb2⟩; rw [start_row])
    obtain ⟨w3, hst, hR3, hb3, hs3⟩ := keep_row w2 (rowL xs d []) (rowL_len _ _ _)
    rw [hst]
    have B3 : Hid (Below w1.heap.size w1 w3) := hb2.trans (hb3.mono hb2.size)
    have HR3 : Hid (RAt w3 w2.heap.size (rowL xs d (t.take 0))) := hR3
    have hb12 : w1.heap.size ≤ w2.heap.size := hb2.size
    have HL : Hid (LevAt w1 p xs d) := hl
    have HU : Hid (RunesC w1.heap.size w1 (.slice ad xs.length cap) xs) := hu
    clear hst hR3 hb3 hs3 hl hu hb2
    go_wp2_with fail
    go_loopw [44] (fun v wr => ∃ k : Nat, v = .int .i64 k ∧ k ≤ t.length ∧ RAt wr w2.heap.size (rowL xs d (t.take k)) ∧ Below w1.heap.size w1 wr) (fun v _ => t.length - (intOf v).toNat)
    case atStart => exact ⟨0, rfl, Nat.zero_le _, HR3.out, B3.out⟩
    case round =>
      clear HR3 B3
      obtain ⟨k, rfl, hk, hA, hB⟩ := hrel
      have HA : Hid (RAt wr w2.heap.size (rowL xs d (t.take k))) := hA
      have HB : Hid (Below w1.heap.size w1 wr) := hB
      have hwr : w2.heap.size < wr.heap.size := hA.lt
      have hld := loadR_at hA.range (rowL_len _ _ _)
      have HLR : Hid (LevAt wr p xs d) := HL.out.below hB
      have HUR : Hid (RunesC wr.heap.size wr (.slice ad xs.length cap) xs) := HU.out.below hB
      have HVR : Hid (RunesC wr.heap.size wr (.slice adt t.length capt) t) := HVT1.out.below hB
      by_cases hk8 : k < t.length
      · obtain ⟨r, hr⟩ : ∃ r, t[k]? = some r := ⟨_, List.getElem?_eq_getElem hk8⟩
        obtain ⟨gx, offx, rfl, hgx, hcx⟩ := HVR.out.1.at hr
        have HT : Hid (t.take (k + 1) = t.take k ++ [r]) := by unfold Hid; rw [List.take_add_one, hr]; rfl
        clear hA hB hr
        go_wp2_with (go_at_call 17; refine (Step_any p xs d _ r _ HLR.out (rowL_len _ _ _)).mono ?_; rintro x w4 ⟨rfl, hb4⟩; rw [step_row d (t.take k) r hn, ← HT.out])
        obtain ⟨w5, hst, hP, hO⟩ := put_row (rowL xs d (t.take (k + 1))) (HA.out.below (by omega) hb4) (rowL_len _ _ _) (rowL_len _ _ _)
        rw [hst]
        have HB5 : Hid (Below w1.heap.size w1 w5) := hO.below (HB.out.trans (hb4.mono (by omega))) hb12
        have HP5 : Hid (RAt w5 w2.heap.size (rowL xs d (t.take (k + 1)))) := hP
        clear hst hP hO
        go_wp2_with fail
        go_roundw
        case rel => exact ⟨k + 1, by go_num, by omega, HP5.out, HB5.out⟩
        case measure => simp [intOf]; omega
      · obtain rfl : k = t.length := by omega
        rw [List.take_length] at hld
        have HW : Hid (Acc w wr) := h1.step hB
        have HD1 := (dist_row (xs := xs) d t hn).1
        have HD2 : Hid (lv t xs ≤ d → distN xs.length d (rowL xs d t) = lv t xs) := (dist_row (xs := xs) d t hn).2
        clear hA hB
        go_upto_region 11 with (go_at_call 19; refine (Dist_any p xs d _ _ HLR.out (rowL_len _ _ _)).mono ?_; rintro x w6 ⟨rfl, hb6⟩; rw [HD1])
        have HU6 : Hid (RunesC w6.heap.size w6 (.slice ad xs.length cap) xs) := HUR.out.below hb6
        have HV6 : Hid (RunesC w6.heap.size w6 (.slice adt t.length capt) t) := HVR.out.below hb6
        have h6 := HW.out.step hb6
        go_upto_region 12 with (go_at_call 20; refine (Far_any _ _ t xs _ HV6.out.1 HU6.out.1 (by omega) (by omega)).mono ?_; rintro x w7 ⟨rfl, hb7⟩)
        have h7 := h6.step hb7
        clear h6 HD1
        obtain ⟨y, hy⟩ : ∃ y, lv t xs = y := ⟨_, rfl⟩
        rw [hy] at HD2 ⊢
        by_cases hyd : y ≤ d
        · rw [HD2.out hyd, decide_eq_true hyd]
          clear HD2 hy
          go_wp2_with (go_at_call 13; refine (alive_acc (by assumption)).mono ?_; rintro x w8 ⟨rfl, h8⟩)
          go_ret
          exact ⟨ret_bool (by simp), h8.bel⟩
        · rw [decide_eq_false hyd]
          clear HD2 hy
          generalize distN xs.length d (rowL xs d t) = z
          go_wp2_with (go_at_call 13; refine (alive_acc (by assumption)).mono ?_; rintro x w8 ⟨rfl, h8⟩)
          go_ret
          exact ⟨ret_bool (by simp), h8.bel⟩
end Go.Proofs.YtfhmamalanloaaaDoor
