/- DiskWhole. -/
import Derived.Test.YthdclljacdcolaaWholeMath
import Derived.Test.YthdclljacdcolaaRefEnd
namespace Go.Proofs.Ythdclljacdcolaa
open Go.RowKit Go.Lib
set_option maxRecDepth 100000

attribute [local go_sem ↓] exec_alloc_D exec_box_D exec_load_D exec_store_D
attribute [local go_sem] rdV_cells rdC_0 rdC_1 rdC_2 rdC_3 rdC_4 rdC_5
/-- The bytes that Read answers. -/
theorem read_row {W : World} {o : Option (List Nat)} {e : Ending} {M : Nat} (h : (o = none ∧ e = .returned (.tuple #[.slice none 0 0, .bool false])) ∨ ∃ v b, o = some v ∧ v.length = 64 ∧ e = .returned (.tuple #[.slice (some ⟨b, 0, none⟩) 64 64, .bool true]) ∧ M ≤ b ∧ W.heap[b]? = some (.cells (verC v) 81 (0, 0))) :
    ∃ (ao : Option Addr) (cap : Nat), e = .returned (.tuple #[.slice ao (o.getD []).length cap, .bool o.isSome]) ∧ Row W.heap.size W (.slice ao (o.getD []).length cap) (o.getD []) ∧ (o.getD []).length ≤ 64 ∧ (o.getD []).length ≤ cap := by
  rcases h with ⟨rfl, he⟩ | ⟨v, b, rfl, hv, he, _, hblk⟩
  · exact ⟨none, 0, he, ⟨none, 0, rfl, Nat.le_refl _, fun _ => rfl, fun h => by simp at h⟩, by simp, by simp⟩
  · refine ⟨some ⟨b, 0, none⟩, 64, ?_, ?_, by simp [hv], by simp [hv]⟩
    · simpa [hv] using he
    · have := ver_row hblk hv
      simpa [hv] using this
theorem row_take {N : Nat} {w : World} {ao : Option Addr} {len cap n : Nat} {xs : List Nat} (h : Row N w (.slice ao len cap) xs) (hn : n ≤ xs.length) : Row N w (.slice ao n cap) (xs.take n) := by
  obtain ⟨ao', cap', e, hcap, hno, hc⟩ := h
  simp only [Value.slice.injEq] at e
  obtain ⟨rfl, rfl, rfl⟩ := e
  have hl : (xs.take n).length = n := by rw [List.length_take]; omega
  refine ⟨_, _, by rw [hl], by rw [hl]; omega, hno, fun h0 => ?_⟩
  rw [hl] at h0
  obtain ⟨b, off, e, hN, hd⟩ := hc (by omega)
  refine ⟨b, off, e, hN, fun i hi => ?_⟩
  rw [hl] at hi
  rw [hd i (by omega)]
  simp [List.getD_eq_getElem?_getD, hi]

/-- An operation that wrote vs to (a, n). -/
def MtO (a n : Int) (vs : List Nat) (o : OpC) : Prop := o.kind = 0 ∧ o.area = a ∧ o.n = n ∧ vs = pad o.xs ∧ o.xs.length ≤ 64
theorem pad_take (xs : List Nat) : (pad xs).take xs.length = xs := by unfold pad; simp
set_option maxHeartbeats 1000000 in
theorem whole_walk (v0 : Value) (v1 : Value) (w : World) (L : List OpC) (hS : Script w v0 L) (ps : List Int) (hP : IntsAt w v1 ps) (hL : L.length ≤ 1048576) :
    Calls Try.prog 7 #[v0, v1] w fun e w' => e = .returned (.bool true) ∧ Below w.heap.size w w' := by
  have HP : Hid (IntsAt w v1 ps) := hP
  have HSC : Hid (Script w v0 L) := hS
  clear hP
  obtain ⟨ao, cap, rfl, hcap, _, hcs⟩ := hS
  have HCS : Hid (0 < L.length → ∃ b off, ao = some ⟨b, off, none⟩ ∧ b < w.heap.size ∧ ∀ (i : Nat) (o : OpC), L[i]? = some o → o.fits ∧ ∃ bv,
    w.cell? ⟨b, off + i * 4, none⟩ = some (.int .i64 o.kind) ∧ w.cell? ⟨b, off + i * 4 + 1, none⟩ = some (.int .u64 o.area) ∧ w.cell? ⟨b, off + i * 4 + 2, none⟩ = some (.int .i64 o.n) ∧ w.cell? ⟨b, off + i * 4 + 3, none⟩ = some bv ∧ Row w.heap.size w bv o.xs) := hcs
  clear hcs
  go_enter Try.func7, Try.ntmps7
  go_wp2_with fail
  refine (begun_any 1073741824 _ w L HSC.out (by omega) (by omega) hL).mono ?_
  rintro e w1 ⟨p, fp, rv, rfl, hd1, hr1, hb1, hf1⟩
  obtain ⟨ad, n, c, rfl⟩ := hr1.form
  obtain ⟨d, hd⟩ : ∃ d, behind 1073741824 L = d := ⟨_, rfl⟩
  have HSO : Hid (SecsOk d.secs) := hd ▸ behind_ok 1073741824 L
  have HWR : Hid (Wrote L d.secs) := hd ▸ behind_wrote 1073741824 L
  rw [hd] at hd1 hr1
  rw [hd]
  have hst := storeD_at (r := rdOf d) (ad := ad) (n := n) (c := c) (DskAt.new w1 rd0 (.slice none 0 0))
  obtain ⟨w2, hw2⟩ : ∃ w2, setD (w1.alloc (.cells (rdC rd0 (.slice none 0 0)) 27)) w1.heap.size (rdOf d) (.slice ad n c) = w2 := ⟨_, rfl⟩
  rw [hw2] at hst
  have hst2 : ∀ b, b < w1.heap.size → w2.heap[b]? = w1.heap[b]? := fun b hb => by rw [← hw2, setD_far _ _ _ _ _ (by omega), alloc_old _ _ hb]
  have D2 : Hid (DiskAt L.length w2 p d fp) := hd1.same fun b hb => hst2 b (hd1.lt b hb)
  have B2 : Hid (Below w.heap.size w w2) := by
    rw [← hw2]
    exact setD_below (hb1.alloc hb1.size _) hb1.size _ _
  clear hd1 hr1 hb1 hf1 hd hw2 hst2
  go_wp2_with fail
  refine (Crash_any L.length p d fp v1 ps w2 D2.out (HP.out.below B2.out) (by omega)).mono ?_
  rintro e w4 ⟨q, fq, rfl, hc4, hb4, hf4⟩
  obtain ⟨dq, hdq⟩ : ∃ dq, crashD d ps = dq := ⟨_, rfl⟩
  have HSQ : Hid (SecsOk dq.secs) := hdq ▸ crash_ok HSO.out
  have HWQ : Hid (Wrote L dq.secs) := hdq ▸ crash_wrote HWR.out
  rw [hdq] at hc4
  have C4 : Hid (DiskAt L.length w4 q dq fq) := hc4
  have B4 : Hid (Below w.heap.size w w4) := B2.out.trans (hb4.mono B2.out.size)
  have hl4 := hc4.bounds.2.2.2.2.1
  clear hc4 hb4 hf4 hdq HSO HWR D2 B2 hst
  go_wp2_with fail
  refine (Areas_any L.length q dq fq w4 C4.out (by omega)).mono ?_
  rintro e w5 ⟨va, rfl, hva, hb5⟩
  obtain ⟨ada, capa, rfl⟩ := hva.form
  obtain ⟨A, hA⟩ : ∃ A, areasS dq.secs = A := ⟨_, rfl⟩
  rw [hA] at hva
  rw [hA]
  have hAl : A.length ≤ L.length := by
    rw [← hA, areasS, Lib.compact, compactUpTo, List.length_map]
    have h1 := List.length_filter_le (keeps (dq.secs.map (·.area)).toArray) (List.range (dq.secs.map (·.area)).length)
    simp at h1
    simp
    omega
  have VA : Hid (NumRow w5 (.slice ada A.length capa) A) := hva
  have C5 : Hid (DiskAt L.length w5 q dq fq) := C4.out.below hb5
  have B5 : Hid (Below w.heap.size w w5) := B4.out.trans (hb5.mono B4.out.size)
  clear hva hb5 hA C4 B4 hl4
  go_wp2_with fail
  go_loopw [33] (fun v wr => ∃ i : Nat, v = .int .i64 i ∧ i ≤ A.length ∧ Below w5.heap.size w5 wr) (fun v _ => A.length - (intOf v).toNat)
  case atStart => exact ⟨0, rfl, Nat.zero_le _, Below.refl _ _⟩
  case round =>
    obtain ⟨i, rfl, hi, hbr⟩ := hrel
    have BR : Hid (Below w5.heap.size w5 wr) := hbr
    clear hbr
    by_cases hin : i < A.length
    · obtain ⟨a, ha⟩ : ∃ a, A[i]? = some a := ⟨_, List.getElem?_eq_getElem hin⟩
      obtain ⟨g5, c5', e5, hg5, hc5⟩ := VA.out.get ha
      simp only [Value.slice.injEq] at e5
      obtain ⟨rfl, _, rfl⟩ := e5
      have hil : (i : Int) < (A.length : Int) := by omega
      have hca := (BR.out.cell (p := ⟨g5, i, none⟩) hg5).trans hc5
      clear ha hc5
      go_wp2_with fail
      refine (Sectors_any L.length q dq fq a wr (C5.out.below BR.out) HSQ.out).mono ?_
      rintro e w6 ⟨rfl, hb6⟩
      have B6 : Hid (Below w5.heap.size w5 w6) := BR.out.trans (hb6.mono BR.out.size)
      obtain ⟨E, hE⟩ : ∃ E, endS a dq.secs = E := ⟨_, rfl⟩
      rw [hE]
      have hE0 : 0 ≤ E ∧ E ≤ 16777216 := by
        rw [← hE]
        exact ⟨topS_nonneg _, topS_le _ _ (by omega) fun k hk => by
          obtain ⟨s, hs, rfl⟩ := List.mem_map.1 hk
          have := (HSQ.out s (List.mem_filter.1 hs).1).2
          omega⟩
      clear hE hb6 hca
      go_wp2_with fail
      go_loopw [40] (fun v wr => ∃ k : Nat, v = .int .i64 k ∧ (k : Int) ≤ E ∧ Below w5.heap.size w5 wr) (fun v _ => (E - intOf v).toNat)
      case atStart => exact ⟨0, rfl, by omega, B6.out⟩
      case round =>
        obtain ⟨k, rfl, hk, hbr⟩ := hrel
        have BK : Hid (Below w5.heap.size w5 wr) := hbr
        clear hbr
        by_cases hkE : (k : Int) < E
        · go_wp2_with fail
          refine (Read_any L.length q dq fq a (k : Int) wr (C5.out.below BK.out) (by omega)).mono ?_
          rintro e w8 ⟨hb8, hc8⟩
          obtain ⟨xo, xc, rfl, hrow, hx64, hxc⟩ := read_row hc8
          have B8 : Hid (Below w5.heap.size w5 w8) := BK.out.trans (hb8.mono BK.out.size)
          obtain ⟨o, ho⟩ : ∃ o, curOf dq.secs a (k : Int) = o := ⟨_, rfl⟩
          have HCW : Hid (∀ v, o = some v → WrotV L a (k : Int) v) := fun v hv => cur_wrote HWQ.out (ho.trans hv)
          rw [ho] at hrow hx64 hxc
          rw [ho]
          obtain ⟨vs, hvs⟩ : ∃ vs, o.getD [] = vs := ⟨_, rfl⟩
          rw [hvs] at hrow hx64 hxc
          rw [hvs]
          obtain ⟨is, his⟩ : ∃ is, o.isSome = is := ⟨_, rfl⟩
          rw [his]
          have HF : Hid (is = true → ∃ o ∈ L, MtO a (k : Int) vs o) := fun h => by
            cases o with
            | none => simp at his; rw [h] at his; cases his
            | some v =>
              obtain ⟨o', h1, h2, h3, h4, h5, h6⟩ := HCW.out v rfl
              exact ⟨o', h1, h2, h3, h4, by rw [← hvs]; exact h5, h6⟩
          have HROW : Hid (Row w8.heap.size w8 (.slice xo vs.length xc) vs) := hrow
          clear hb8 hc8 hrow ho hvs his HCW
          go_wp2_with fail
          go_loopw [14, 54] (fun f v wr => ∃ (m : Nat) (b : Bool), f = .bool b ∧ v = .int .i64 m ∧ m ≤ L.length ∧ (b = false → is = true ∧ ∀ j o, j < m → L[j]? = some o → ¬ MtO a (k : Int) vs o) ∧ Below w8.heap.size w8 wr) (fun _ v _ => L.length - (intOf v).toNat)
          case atStart => exact ⟨0, !is, rfl, rfl, Nat.zero_le _, fun h => ⟨by simpa using h, fun j o hj => by omega⟩, Below.refl _ _⟩
          case round =>
            obtain ⟨m, f, rfl, rfl, hm, hf, hbr⟩ := hrel
            have BM : Hid (Below w8.heap.size w8 wr) := hbr
            have HFF : Hid (f = false → is = true ∧ ∀ j o, j < m → L[j]? = some o → ¬ MtO a (k : Int) vs o) := hf
            clear hbr hf
            by_cases hmL : m < L.length
            · obtain ⟨b, off, rfl, hbw, hel⟩ := HCS.out (by omega)
              obtain ⟨o, ho⟩ : ∃ o, L[m]? = some o := ⟨_, List.getElem?_eq_getElem hmL⟩
              obtain ⟨hfit, bv, c0, c1, c2, c3, hrow⟩ := hel m o ho
              obtain ⟨ao2, cap2, rfl, hcap2⟩ := hrow.shape
              have HFit : Hid o.fits := hfit
              have hfl := hfit.len
              have hBw : Below w.heap.size w wr := B5.out.trans ((B8.out.trans (BM.out.mono B8.out.size)).mono B5.out.size)
              have d0 := (hBw.cell (p := ⟨b, off + m * 4, none⟩) hbw).trans c0
              have d1 := (hBw.cell (p := ⟨b, off + m * 4 + 1, none⟩) hbw).trans c1
              have d2 := (hBw.cell (p := ⟨b, off + m * 4 + 2, none⟩) hbw).trans c2
              have d3 := (hBw.cell (p := ⟨b, off + m * 4 + 3, none⟩) hbw).trans c3
              have hml : (m : Int) < (L.length : Int) := by omega
              obtain ⟨wx, hwx⟩ : ∃ wx, wr.alloc (.cells #[.int .i64 o.kind, .int .u64 o.area, .int .i64 o.n, .slice ao2 o.xs.length cap2] 34) = wx := ⟨_, rfl⟩
              have HWX : Hid (wr.alloc (.cells #[.int .i64 o.kind, .int .u64 o.area, .int .i64 o.n, .slice ao2 o.xs.length cap2] 34) = wx) := hwx
              have hbx : Below wr.heap.size wr wx := hwx ▸ (Below.refl _ wr).alloc (Nat.le_refl _) _
              have BX : Hid (Below w8.heap.size w8 wx) := BM.out.trans (hbx.mono BM.out.size)
              have HOR : Hid (Row w.heap.size wx (.slice ao2 o.xs.length cap2) o.xs) := hrow.below (hBw.trans (hbx.mono hBw.size))
              have HVR : Hid (Row w8.heap.size wx (.slice xo vs.length xc) vs) := HROW.out.below BX.out
              obtain ⟨x0, x1, x2, x3, _⟩ := four_cells (w := wx) (b := wr.heap.size) (by rw [← hwx]; exact alloc_new _ _)
              have X0 : Hid (wx.cell? ⟨wr.heap.size, 0, none⟩ = some (.int .i64 o.kind)) := x0
              have X1 : Hid (wx.cell? ⟨wr.heap.size, 1, none⟩ = some (.int .u64 o.area)) := x1
              have X2 : Hid (wx.cell? ⟨wr.heap.size, 2, none⟩ = some (.int .i64 o.n)) := x2
              have X3 : Hid (wx.cell? ⟨wr.heap.size, 3, none⟩ = some (.slice ao2 o.xs.length cap2)) := x3
              have HO : Hid (L[m]? = some o) := ho
              clear hel c0 c1 c2 c3 hfit hrow ho hBw hwx hbx x0 x1 x2 x3
              have STEP : Hid (¬ MtO a (k : Int) vs o → (f = false → is = true ∧ ∀ j o', j < m + 1 → L[j]? = some o' → ¬ MtO a (k : Int) vs o')) := fun hno hf => ⟨(HFF.out hf).1, fun j o' hj hjo => by
                by_cases e : j = m
                · rw [e, HO.out] at hjo
                  rw [← Option.some.inj hjo]; exact hno
                · exact (HFF.out hf).2 j o' (by omega) hjo⟩
              have y0 := X0.out
              have y1 := X1.out
              have y2 := X2.out
              have y3 := X3.out
              by_cases h1 : o.kind = 0
              · have g1 : (o.kind == 0) = true := by simpa using h1
                have H1 : Hid (o.kind = 0) := h1
                clear h1
                by_cases h2 : o.area = a
                · have g2 : (o.area == a) = true := by simpa using h2
                  have H2 : Hid (o.area = a) := h2
                  clear h2
                  by_cases h3 : o.n = (k : Int)
                  · have g3 : (o.n == (k : Int)) = true := by simpa using h3
                    have H3 : Hid (o.n = (k : Int)) := h3
                    clear h3
                    by_cases h4 : o.xs.length ≤ vs.length
                    · have g4 : ((o.xs.length : Int) ≤ (vs.length : Int)) := by omega
                      have g4' : ((o.xs.length : Int) ≤ (xc : Int)) := by omega
                      have g4'' : (0 : Int) ≤ (o.xs.length : Int) := by omega
                      have HCS2 : ∀ n, (convert 32 9 (.slice xo o.xs.length xc)).run Try.prog (wx.drewN n) = .ok (.string (strB (vs.take o.xs.length))) (wx.drewN n) := fun n => (row_take (HVR.out.below (below_drewN (Below.refl _ wx) n)) h4).str
                      have HCS1 : ∀ n, (convert 32 9 (.slice ao2 o.xs.length cap2)).run Try.prog (wx.drewN n) = .ok (.string (strB o.xs)) (wx.drewN n) := fun n => (HOR.out.below (below_drewN (Below.refl _ wx) n)).str
                      go_wp2_with fail
                      rw [HWX.out]
                      clear d0 d1 d2 d3 HWX
                      go_quiet (fail)
                      go_wp2_with fail
                      · go_roundw
                        case rel => exact ⟨m + 1, true, rfl, by go_num, by omega, (fun h => by cases h), BX.out.trans (below_drewN (Below.refl _ wx) nq)⟩
                        case measure => simp [intOf]; omega
                      · rename_i hq
                        go_roundw
                        case rel => exact ⟨m + 1, f, rfl, by go_num, by omega, STEP.out fun h => by rw [h.2.2.2.1, pad_take] at hq; simp at hq, BX.out.trans (below_drewN (Below.refl _ wx) nq)⟩
                        case measure => simp [intOf]; omega
                    · have g4 : ¬ ((o.xs.length : Int) ≤ (vs.length : Int)) := by omega
                      have g4' : decide ((o.xs.length : Int) ≤ (vs.length : Int)) = false := by simpa using g4
                      have HNO : Hid (¬ MtO a (k : Int) vs o) := fun h => h4 (by rw [h.2.2.2.1, pad_len h.2.2.2.2]; exact h.2.2.2.2)
                      go_wp2_with fail
                      rw [HWX.out]
                      clear d0 d1 d2 d3 HWX
                      go_quiet (fail)
                      go_wp2_with fail
                      go_roundw
                      case rel => exact ⟨m + 1, f, rfl, by go_num, by omega, STEP.out HNO.out, BX.out.trans (below_drewN (Below.refl _ wx) nq)⟩
                      case measure => simp [intOf]; omega
                  · have g3 : (o.n == (k : Int)) = false := by simpa using h3
                    go_wp2_with fail
                    rw [HWX.out]
                    clear d0 d1 d2 d3 HWX
                    go_quiet (fail)
                    go_wp2_with fail
                    go_roundw
                    case rel => exact ⟨m + 1, f, rfl, by go_num, by omega, STEP.out fun h => h3 h.2.2.1, BX.out.trans (below_drewN (Below.refl _ wx) nq)⟩
                    case measure => simp [intOf]; omega
                · have g2 : (o.area == a) = false := by simpa using h2
                  go_wp2_with fail
                  rw [HWX.out]
                  clear d0 d1 d2 d3 HWX
                  go_quiet (fail)
                  go_wp2_with fail
                  go_roundw
                  case rel => exact ⟨m + 1, f, rfl, by go_num, by omega, STEP.out fun h => h2 h.2.1, BX.out.trans (below_drewN (Below.refl _ wx) nq)⟩
                  case measure => simp [intOf]; omega
              · have g1 : (o.kind == 0) = false := by simpa using h1
                go_wp2_with fail
                rw [HWX.out]
                clear d0 d1 d2 d3 HWX
                go_quiet (fail)
                go_wp2_with fail
                go_roundw
                case rel => exact ⟨m + 1, f, rfl, by go_num, by omega, STEP.out fun h => h1 h.1, BX.out.trans (below_drewN (Below.refl _ wx) nq)⟩
                case measure => simp [intOf]; omega
            · have hmn : ¬ ((m : Int) < (L.length : Int)) := by omega
              have hft : f = true := by
                cases f with
                | true => rfl
                | false =>
                  obtain ⟨h1, h2⟩ := HFF.out rfl
                  obtain ⟨o, h3, h4⟩ := HF.out h1
                  obtain ⟨j, hj, e⟩ := List.mem_iff_getElem.1 h3
                  exact absurd h4 (h2 j o (by omega) (by rw [List.getElem?_eq_getElem hj, e]))
              subst hft
              go_wp2_with fail
              go_roundw
              case rel => exact ⟨k + 1, by go_num, by omega, B8.out.trans (BM.out.mono B8.out.size)⟩
              case measure => simp [intOf]; omega
        · go_wp2_with fail
          go_roundw
          case rel => exact ⟨i + 1, by go_num, by omega, BK.out⟩
          case measure => simp [intOf]; omega
    · have hxn : ¬ ((i : Int) < (A.length : Int)) := by omega
      go_wp2_with fail
      go_ret
      exact ⟨rfl, B5.out.trans (BR.out.mono B5.out.size)⟩
end Go.Proofs.Ythdclljacdcolaa
