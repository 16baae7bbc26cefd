/- LevDead: the walk. -/
import Derived.Test.YtfhmamalanloaaaDoorLvStB
namespace Go.Proofs.YtfhmamalanloaaaDoor
open Go.RowKit Nums Ed Lv
set_option maxRecDepth 100000

attribute [local go_sem ↓] exec_alloc_R exec_box_R exec_load_R exec_store_R exec_alloc_T exec_load_T exec_store_T
attribute [local go_sem] rV_cells
set_option maxHeartbeats 2000000 in
theorem dead_walk (s : ByteArray) (e : Int) (vl : Value) (L : List St) (w : World) (ht : Tabs w) (hm : s.size ≤ 1000000000) (hvl : StepsAt w.heap.size w vl L) (hll : L.length ≤ 1000000000) :
    Calls Tryd.prog 9 #[.string s, .int .i64 e, vl] w fun x w' => x = .returned (.bool true) ∧ Below w.heap.size w w' := by
  have h0 := Acc.refl ht
  obtain ⟨adt, capt, rfl⟩ := hvl.form
  have HVT : Hid (StepsAt w.heap.size w (.slice adt L.length capt) L) := hvl
  clear hvl
  go_enter Tryd.func9, Tryd.ntmps9
  go_upto_region 2 with (go_at_call 14; refine (made_acc h0 s e hm).mono ?_; rintro x w1 ⟨v, u, f, rfl, hb1, h1, hcase⟩)
  rcases hcase with ⟨hr, rfl, rfl⟩ | ⟨hr, rfl, p, xs, d, rfl, hx, hd, hl, hu⟩
  · have HR : Hid (rightB s.data.toList e = false) := hr
    clear hr
    go_wp2_with (first
      | (go_at_call 13; refine (alive_acc (by assumption)).mono ?_; rintro x w2 ⟨rfl, h2⟩)
      | (go_at_call 12; refine (Right_acc (by assumption) s e (by omega)).mono ?_; rintro x w3 ⟨rfl, h3⟩; rw [HR.out]))
    go_ret
    exact ⟨rfl, h3.bel⟩
  subst hd
  have hn := hl.len
  have hd3 := hl.few
  have HVT1 : Hid (StepsAt w1.heap.size w1 (.slice adt L.length capt) L) := HVT.out.below hb1
  have HL : Hid (LevAt w1 p xs d) := hl
  have H1 : Hid (Acc w w1) := h1
  clear hr hx HVT hu
  by_cases hz : L.length = 0
  · have hz2 : ((L.length : Nat) : Int) = 0 := by omega
    clear hl
    go_wp2_with (go_at_call 13; refine (alive_acc (by assumption)).mono ?_; rintro x w2 ⟨rfl, h2⟩)
    go_ret
    exact ⟨rfl, h2.bel⟩
  have hz2 : (((L.length : Nat) : Int) == 0) = false := by simpa using hz
  have hpos : (0 : Int) < (L.length : Int) := by omega
  obtain ⟨x0, hx0⟩ : ∃ x0, L[0]? = some x0 := ⟨_, List.getElem?_eq_getElem (by omega)⟩
  obtain ⟨g0, off0, rfl, hg0, hr0, hok0⟩ := HVT1.out.at hx0
  have hld0 := loadR_at (step_row_of hr0) hok0.1
  rw [Nat.zero_mul, Nat.add_zero] at hld0
  clear hl hx0 hr0 h1 hz
  go_upto_region 5 with fail
  obtain ⟨w2, hst, hR2, hb2, hs2⟩ := keep_row w1 x0.1 hok0.1
  rw [hst]
  have HR2 : Hid (RAt w2 w1.heap.size x0.1) := hR2
  have HL2 : Hid (LevAt w2 p xs d) := HL.out.below hb2
  have HB2 : Hid (Below w1.heap.size w1 w2) := hb2
  have hld2 := loadR_at hR2.range hok0.1
  have hx0l : x0.1.length = 25 := hok0.1
  clear hst hR2 hb2 hld0
  go_upto_region 6 with (go_at_call 22; refine (Alive_any p xs d _ _ HL2.out hx0l).mono ?_; rintro x w3 ⟨rfl, hb3⟩)
  have HR3 : Hid (RAt w3 w1.heap.size x0.1) := HR2.out.below (by omega) hb3
  have HB3 : Hid (Below w1.heap.size w1 w3) := HB2.out.trans (hb3.mono (by omega))
  clear hld2 HR2 HL2 HB2 hb3
  go_wp2_with fail
  go_loopw [11, 50] (fun b v wr => ∃ (k : Nat) (R : List Nat) (dead : Bool), v = .int .i64 k ∧ k ≤ L.length ∧ b = .bool dead ∧ R.length = 25 ∧ (dead = true → aliveB xs.length d R = false) ∧ RAt wr w1.heap.size R ∧ Below w1.heap.size w1 wr) (fun _ v _ => L.length - (intOf v).toNat)
  case atStart => exact ⟨0, x0.1, _, rfl, Nat.zero_le _, rfl, hx0l, fun h => by simpa using h, HR3.out, HB3.out⟩
  case round =>
    clear HR3 HB3
    obtain ⟨k, R, dead, rfl, hk, rfl, hRl, hdead, hA, hB⟩ := hrel
    have HA : Hid (RAt wr w1.heap.size R) := hA
    have HB : Hid (Below w1.heap.size w1 wr) := hB
    have HD : Hid (dead = true → aliveB xs.length d R = false) := hdead
    have hwr : w1.heap.size < wr.heap.size := hA.lt
    have HVR : Hid (StepsAt wr.heap.size wr (.slice (some ⟨g0, off0, none⟩) L.length capt) L) := HVT1.out.below hB
    by_cases hk8 : k < L.length
    · obtain ⟨y, hy⟩ : ∃ y, L[k]? = some y := ⟨_, List.getElem?_eq_getElem hk8⟩
      obtain ⟨g1, off1, e1, hg1, hr1, hok1⟩ := HVR.out.at hy
      cases e1
      have hldT := loadT_at hr1 hok1
      have hkl : (k : Int) < (L.length : Int) := by omega
      clear hA hB hdead hy hr1
      go_upto_region 9 with fail
      obtain ⟨w4, hst, hR4, hb4, hs4⟩ := keep_step wr y hok1
      rw [hst]
      have hrune := step_rune_of hR4 hok1
      rw [Nat.zero_add] at hrune
      have HA4 : Hid (RAt w4 w1.heap.size R) := HA.out.below (by omega) hb4
      have HB4 : Hid (Below w1.heap.size w1 w4) := HB.out.trans (hb4.mono (by omega))
      have HL4 : Hid (LevAt w4 p xs d) := HL.out.below HB4.out
      have hldR := loadR_at HA4.out.range hRl
      obtain ⟨r, hr⟩ : ∃ r, y.2 = r := ⟨_, rfl⟩
      rw [hr] at hrune
      obtain ⟨R2, hR2⟩ : ∃ R2, stepL xs d R r = R2 := ⟨_, rfl⟩
      have HR2 : Hid (stepL xs d R r = R2) := hR2
      have hR2l : R2.length = 25 := by rw [← hR2, stepL_len]
      have hs4' : w1.heap.size < w4.heap.size := by omega
      clear hst hR4 hb4 hldT hr hR2
      go_upto_region 10 with (go_at_call 17; refine (Step_any p xs d R r _ HL4.out hRl).mono ?_; rintro x w5 ⟨rfl, hb5⟩; rw [HR2.out])
      obtain ⟨w6, hst, hP6, hO6⟩ := put_row R2 (HA4.out.below (by omega) hb5) hRl hR2l
      rw [hst]
      have HA6 : Hid (RAt w6 w1.heap.size R2) := hP6
      have HB6 : Hid (Below w1.heap.size w1 w6) := hO6.below (HB4.out.trans (hb5.mono (by omega))) (Nat.le_refl _)
      have HL6 : Hid (LevAt w6 p xs d) := HL.out.below HB6.out
      have hld6 := loadR_at hP6.range hR2l
      have hs6 := hP6.lt
      clear hst hP6 hO6 hldR hrune hb5
      go_upto_region 11 with (go_at_call 19; refine (Dist_any p xs d R2 _ HL6.out hR2l).mono ?_; rintro x w7 ⟨rfl, hb7⟩)
      have HA7 : Hid (RAt w7 w1.heap.size R2) := HA6.out.below (by omega) hb7
      have HB7 : Hid (Below w1.heap.size w1 w7) := HB6.out.trans (hb7.mono (by omega))
      have HL7 : Hid (LevAt w7 p xs d) := HL.out.below HB7.out
      have hld7 := loadR_at HA7.out.range hR2l
      have hs7 := HA7.out.lt
      generalize distN xs.length d R2 = dn
      clear hld6 hb7 HA6 HB6 HL6
      cases dead
      · clear HD
        generalize distB xs.length d R2 = db
        go_wp2_with (go_at_call 22; refine (Alive_any p xs d R2 _ HL7.out hR2l).mono ?_; rintro x w8 ⟨rfl, hb8⟩)
        go_roundw
        case rel => exact ⟨k + 1, R2, _, by go_num, by omega, rfl, hR2l, fun h => by simpa using h, HA7.out.below (by omega) hb8, HB7.out.trans (hb8.mono (by omega))⟩
        case measure => simp [intOf]; omega
      · have hds := dead_step (xs := xs) (d := d) r hn (HD.out rfl)
        rw [HR2.out] at hds
        have HDS : Hid (aliveB xs.length d R2 = false) := hds.1
        rw [hds.2]
        clear hds HD
        go_wp2_with (go_at_call 22; refine (Alive_any p xs d R2 _ HL7.out hR2l).mono ?_; rintro x w8 ⟨rfl, hb8⟩; rw [HDS.out])
        go_roundw
        case rel => exact ⟨k + 1, R2, true, by go_num, by omega, rfl, hR2l, fun _ => HDS.out, HA7.out.below (by omega) hb8, HB7.out.trans (hb8.mono (by omega))⟩
        case measure => simp [intOf]; omega
    · obtain rfl : k = L.length := by omega
      have HW : Hid (Acc w wr) := H1.out.step hB
      clear hA hB
      go_wp2_with (go_at_call 13; refine (alive_acc HW.out).mono ?_; rintro x w8 ⟨rfl, h8⟩)
      go_ret
      exact ⟨rfl, h8.bel⟩
end Go.Proofs.YtfhmamalanloaaaDoor
