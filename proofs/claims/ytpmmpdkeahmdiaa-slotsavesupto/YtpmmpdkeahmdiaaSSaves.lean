/- SlotSaves. -/
import Derived.Test.YtpmmpdkeahmdiaaSSavB
namespace Go.Proofs.Ytpmmpdkeahmdiaa
open Go.RowKit
set_option maxRecDepth 100000

attribute [local go_sem ↓] exec_alloc_D exec_box_D exec_load_D exec_store_D exec_alloc_T exec_box_T exec_load_T exec_store_T exec_build_T0
attribute [local go_sem] rdV_cells rdC_0 rdC_1 rdC_2 rdC_3 rdC_4 rdC_5 rtV_cells
theorem said_lt {i : Nat} {o : Option (List Nat)} (h : ∀ bs, o = some bs → ∀ x ∈ bs, x < 256) : (saidC i o).1 < 18446744073709551616 := by
  cases o with
  | none => simp [saidC]
  | some bs =>
    rw [saidC_some]
    split
    · show leV (bs.take 8) < 18446744073709551616
      have h1 := leV_lt (bs.take 8) fun x hx => h bs rfl x (List.mem_of_mem_take hx)
      refine Nat.lt_of_lt_of_le h1 (Nat.pow_le_pow_right (by omega) (show _ ≤ 8 from ?_))
      rw [List.length_take]; omega
    · simp
theorem open_lt {d : DS} {a : Int} (h : Sec64 d a) : (openS d.secs a).1 < 18446744073709551616 := by
  rw [openS_C, open_said]
  split
  · exact said_lt fun bs e => (h 0 bs e).2
  · exact said_lt fun bs e => (h 1 bs e).2
/-- What the last region of a round reads. -/
structure SX (br bt : Nat) (r : RD) (l : Value) (q : RT) (W : World) : Prop where
  d : DskAt W br r l
  s : SltAt W bt q
theorem SX.facts {br bt : Nat} {r : RD} {l : Value} {q : RT} {W : World} (h : SX br bt r l q W) : W.cell? ⟨br, 1, none⟩ = some (.int .i64 r.steps) := h.d.cells.2.1
theorem ver_row4 {W : World} {b : Nat} {v : List Nat} {t : TypeId} (h : W.heap[b]? = some (.cells (verC v) t (0, 0))) (hv : v.length = 64) : Row W.heap.size W (.slice (some ⟨b, 0, none⟩) 64 64) v := by
  refine ⟨some ⟨b, 0, none⟩, 64, by rw [hv], by omega, (fun h => by cases h), fun _ => ⟨b, 0, rfl, (Array.getElem?_eq_some_iff.1 h).1, fun i hi => ?_⟩⟩
  simp [World.cell?, h, verC, hi]
set_option maxHeartbeats 1000000 in
theorem ssaves_walk (room : Int) (v1 v2 : Value) (w : World) (hr1 : -9223372036854775808 ≤ room) (hr2 : room ≤ 9223372036854775807) (L : List OpC) (hS : Script w v1 L) (L2 : List (List Nat)) (hV : Vals w v2 L2) (hL : L.length + L2.length ≤ 1048576) :
    Calls Try.prog 10 #[.int .i64 room, v1, v2] w fun e w' => e = .returned (.bool true) ∧ Below w.heap.size w w' := by
  have hL1 : L.length ≤ 1048576 := by omega
  have HS : Hid (Script w v1 L) := hS
  obtain ⟨ao, cap, rfl, _, _, hcs⟩ := hV
  have HCS : Hid (0 < L2.length → ∃ b off, ao = some ⟨b, off, none⟩ ∧ b < w.heap.size ∧ ∀ (i : Nat) (xs : List Nat), L2[i]? = some xs → (∀ x ∈ xs, x < 256) ∧ ∃ rv, w.cell? ⟨b, off + i, none⟩ = some rv ∧ Row w.heap.size w rv xs) := hcs
  clear hS hcs
  go_enter Try.func10, Try.ntmps10
  go_wp2_with fail
  refine (laid_any room v1 w L HS.out (by omega) (by omega) hL1).mono ?_
  rintro e w1 ⟨p, fp, rv, rfl, hd1, hR1, hb1, hf1⟩
  obtain ⟨ad, n, c, rfl⟩ := hR1.form
  have HBY : Hid (ByteS (behind room L).secs) := behind_bytes _ (script_fits HS.out)
  obtain ⟨d, hdd⟩ : ∃ d, behind room L = d := ⟨_, rfl⟩
  rw [hdd] at hd1 hR1 HBY
  rw [hdd]
  clear hdd
  have hst := storeD_at (r := rdOf d) (ad := ad) (n := n) (c := c) (DskAt.new w1 rd0 (.slice none 0 0))
  obtain ⟨w2, hw2⟩ : ∃ w2, setD (w1.alloc (.cells (rdC rd0 (.slice none 0 0)) 27)) w1.heap.size (rdOf d) (.slice ad n c) = w2 := ⟨_, rfl⟩
  rw [hw2] at hst
  have hb2 : Below w1.heap.size w1 w2 := hw2 ▸ setD_below ((Below.refl _ w1).alloc (Nat.le_refl _) _) (Nat.le_refl _) _ _
  have hD2 : DskAt w2 w1.heap.size (rdOf d) (.slice ad n c) := hw2 ▸ (DskAt.new w1 rd0 (.slice none 0 0)).set
  have HD2 : Hid (DskAt w2 w1.heap.size (rdOf d) (.slice ad n c)) := hD2
  have HR2 : Hid (RefIs (fun b => b ∉ fp ∧ b < w1.heap.size) w2 (rdV (rdOf d) (.slice ad n c)) d) := (hR1.mono fun b hb hP => ⟨hP, hb⟩).below hb2
  have HLT : Hid (∀ b ∈ fp, b < w1.heap.size) := hd1.lt
  have HFB : Hid (∀ b ∈ fp, w.heap.size ≤ b) := hf1
  have HK2 : Hid (DiskAt L.length w2 p d fp) := hd1.below hb2
  have HB2 : Hid (Below w.heap.size w w2) := hb1.trans (hb2.mono hb1.size)
  have hs1 := hb1.size
  have hs2 := hD2.lt
  clear hw2 hb2 hD2 hR1 hd1 hb1 hf1
  go_wp2_with fail
  refine (alive4_any w2).mono ?_
  rintro e w3 ⟨rfl, hb3⟩
  have HD3 : Hid (DskAt w3 w1.heap.size (rdOf d) (.slice ad n c)) := HD2.out.below hs2 hb3
  have HR3 : Hid (RefIs (fun b => b ∉ fp ∧ b < w1.heap.size) w3 (rdV (rdOf d) (.slice ad n c)) d) := HR2.out.below hb3
  have HK3 : Hid (DiskAt L.length w3 p d fp) := HK2.out.below hb3
  have HB3 : Hid (Below w.heap.size w w3) := HB2.out.trans (hb3.mono HB2.out.size)
  have hs3 : w1.heap.size < w3.heap.size := HD3.out.lt
  clear hb3 HD2 HR2 HK2 hst
  go_wp2_with fail
  refine (Open_any L.length p d fp 1 w3 HK3.out (by omega) HBY.out).mono ?_
  rintro e w4 (⟨hdead, rfl, rfl⟩ | ⟨hdead, s, g, rfl, hsl, hs, hg, hb4⟩)
  · have hld := loadD_at HD3.out
    have HDE : Hid (openE d = 30) := by show _ = _; unfold openE; rw [hdead]; rfl
    go_wp2_with fail
    refine (refOpen_any _ L.length d _ 1 w4 HR3.out HK3.out.ok (by omega) (sec64_of HK3.out HBY.out _)).mono ?_
    rintro e w5 ⟨rfl, hb5⟩
    rw [HDE.out]
    have HB5 : Hid (Below w.heap.size w w5) := HB3.out.trans (hb5.mono HB3.out.size)
    obtain ⟨r, hr⟩ : ∃ r, openR d 1 = r := ⟨_, rfl⟩
    rw [hr]
    have hst := storeT_at (r := r) (SltAt.new w5 rt0)
    have HB6 : Hid (Below w.heap.size w (setT (w5.alloc (.cells (rtC rt0) 63)) w5.heap.size r)) := setT_below (HB5.out.alloc HB5.out.size _) HB5.out.size _
    clear hld hb5 hr
    go_wp2_with fail
    go_ret
    exact ⟨rfl, HB6.out⟩
  · have HD4 : Hid (DskAt w4 w1.heap.size (rdOf d) (.slice ad n c)) := HD3.out.below hs3 hb4
    have HR4 : Hid (RefIs (fun b => b ∉ fp ∧ b < w1.heap.size) w4 (rdV (rdOf d) (.slice ad n c)) d) := HR3.out.below hb4
    have HK4 : Hid (DiskAt L.length w4 p d fp) := HK3.out.below hb4
    have HB4 : Hid (Below w.heap.size w w4) := HB3.out.trans (hb4.mono HB3.out.size)
    have H64 := sec64_of HK4.out HBY.out 1
    have HNL : Hid ((openS d.secs 1).1 < 18446744073709551616) := open_lt H64
    have H48 : Hid ((openS d.secs 1).2.length ≤ 48) := open_48 _ _
    have HH64 : Hid (Sec64 d 1) := H64
    have HDE : Hid (openE d = 0 ∧ openR d 1 = ⟨1, (openS d.secs 1).1, strB (openS d.secs 1).2⟩) := by show _ ∧ _; unfold openE openR; rw [hdead]; exact ⟨rfl, rfl⟩
    obtain ⟨n0, hn0⟩ : ∃ n0, (openS d.secs 1).1 = n0 := ⟨_, rfl⟩
    obtain ⟨x0, hx0⟩ : ∃ x0, (openS d.secs 1).2 = x0 := ⟨_, rfl⟩
    rw [hn0] at hsl HNL HDE
    rw [hx0] at hsl H48 HDE
    have HSL4 : Hid (SlotAt w4 s p 1 n0 x0 g) := hsl
    have hsl4 := hsl.lt
    have hld := loadD_at HD4.out
    clear hsl hb4 HD3 HR3 HK3 H64 hn0 hx0
    go_wp2_with fail
    refine (refOpen_any _ L.length d _ 1 w4 HR4.out HK4.out.ok (by omega) HH64.out).mono ?_
    rintro e w5 ⟨rfl, hb5⟩
    rw [HDE.out.1, HDE.out.2]
    have hs4 : w1.heap.size < w4.heap.size := HD4.out.lt
    have hs5 := hb5.size
    have hst := storeT_at (r := ⟨1, n0, strB x0⟩) (SltAt.new w5 rt0)
    obtain ⟨w6, hw6⟩ : ∃ w6, setT (w5.alloc (.cells (rtC rt0) 63)) w5.heap.size ⟨1, n0, strB x0⟩ = w6 := ⟨_, rfl⟩
    rw [hw6] at hst
    have hb46 : Below w4.heap.size w4 w6 := by
      rw [← hw6]
      exact setT_below (hb5.alloc hs5 _) hs5 _
    have H6 : Hid (SavR w w1.heap.size w5.heap.size s p (L.length + 2 * 0) d n0 x0 w6 fp g ad n c) := by
      have hlt := HLT.out
      refine ⟨HK4.out.below hb46, (HR4.out.below hb46).mono fun b hb hP => ⟨by omega, by omega, by omega, hP.1⟩, HD4.out.below hs4 hb46, hw6 ▸ (SltAt.new w5 rt0).set, HSL4.out.below hb46, HBY.out, H48.out, HNL.out, fun hm => ?_, fun hm => ?_, ⟨fun hm => ?_, fun hm => ?_⟩, ⟨by omega, by omega, by omega, by omega, by omega⟩, ⟨by omega, by omega, by omega⟩, HFB.out, HB4.out.trans (hb46.mono HB4.out.size)⟩
      · have := hlt _ hm; omega
      · have := hlt _ hm; omega
      · have := hlt _ hm; omega
      · have := hlt _ hm; omega
    clear hw6 hb46 hb5 hld HD4 HR4 HK4 HB4 HSL4 HDE HH64 HNL H48
    go_wp2_with fail
    obtain ⟨br, hbr⟩ : ∃ br, w1.heap.size = br := ⟨_, rfl⟩
    obtain ⟨bt, hbt⟩ : ∃ bt, w5.heap.size = bt := ⟨_, rfl⟩
    rw [hbr, hbt] at H6
    simp only [hbr, hbt]
    clear hst hbr hbt hs hg hs1 hs2 hs3 hs4 hs5 hsl4 HLT HB2 HB3
    go_loopw [57] (fun v57 wr => ∃ (k : Nat) (d : DS) (n : Nat) (val : List Nat) (fp : List Nat) (g : Nat) (ad : Option Addr) (m c : Nat), v57 = .int .i64 k ∧ k ≤ L2.length ∧ SavR w br bt s p (L.length + 2 * k) d n val wr fp g ad m c) (fun v57 _ => L2.length - (intOf v57).toNat)
    case atStart => exact ⟨0, d, n0, x0, fp, g, ad, n, c, rfl, Nat.zero_le _, H6.out⟩
    case round =>
      clear H6
      obtain ⟨k, d, n, val, fp, g, ad, m, c, rfl, hk, hI⟩ := hrel
      have HI : Hid (SavR w br bt s p (L.length + 2 * k) d n val wr fp g ad m c) := hI
      clear hI
      by_cases hlt : k < L2.length
      · obtain ⟨b, off, rfl, hbw, hel⟩ := HCS.out (by omega)
        obtain ⟨xs, hxs⟩ : ∃ xs, L2[k]? = some xs := ⟨_, List.getElem?_eq_getElem hlt⟩
        obtain ⟨hxb, rv, hc, hrow⟩ := hel k xs hxs
        obtain ⟨ao2, cap2, rfl, _⟩ := hrow.shape
        have HXB : Hid (∀ x ∈ xs, x < 256) := hxb
        have HRow : Hid (Row w.heap.size w (.slice ao2 xs.length cap2) xs) := hrow
        have hc' := (HI.out.below.cell (p := ⟨b, off + k, none⟩) hbw).trans hc
        have hlt' : (k : Int) < (L2.length : Int) := by omega
        clear hel hc hrow hxb hxs
        go_wp2_with fail
        have hRX : RowX (s :: fp) wr (.slice ao2 xs.length cap2) xs := row_xx HRow.out HI.out.below fun b hb => by
          rcases List.mem_cons.1 hb with rfl | hb
          · exact HI.out.ge.1
          · exact HI.out.fpb b hb
        refine (Save_any (L.length + 2 * k) s p d fp 1 n val xs g _ wr HI.out.dk HI.out.sl HI.out.sf HI.out.gf hRX HXB.out HI.out.nn (by omega)).mono ?_
        rintro e w4 ⟨rfl, fp', g', hsa⟩
        obtain ⟨r4, rb4, tb4, hb4⟩ := HI.out.saved hsa.only
        have HSA : Hid (SaveAt (L.length + 2 * k) s p d fp 1 n val xs g wr (saveD d 1 n xs).2 w4 fp' g') := hsa
        have HR4 : Hid (RefIs (fun b => (b ≠ s ∧ b ≠ br ∧ b ≠ bt ∧ b ∉ fp) ∧ b < wr.heap.size) w4 (rdV (rdOf d) (.slice ad m c)) d) := r4
        have hcv : (convert 36 9 (.slice ao2 xs.length cap2)).run Try.prog w4 = .ok (.string (strB xs)) w4 := (HRow.out.below hb4).str
        have hldr := loadD_at rb4
        have hldt := loadT_at tb4
        clear hsa r4 rb4 tb4 hb4 hRX hc'
        obtain ⟨C, hC⟩ : ∃ C, (saveD d 1 n xs).2 = C := ⟨_, rfl⟩
        have HC : Hid ((saveD d 1 n xs).2 = C) := hC
        rw [hC]
        go_wp2_with fail
        refine (refSave_any _ (L.length + 2 * k) d _ ⟨1, n, strB val⟩ xs w4 HR4.out HI.out.dk.ok (by omega) HI.out.nn HXB.out).mono ?_
        rintro e w5 ⟨v5, rfl, hR5, hb5⟩
        obtain ⟨ad5, m5, c5, rfl⟩ := hR5.form
        rw [show (saveD d ((⟨1, n, strB val⟩ : RT).area) ((⟨1, n, strB val⟩ : RT).num) xs).2 = C from hC]
        obtain ⟨d', hd'⟩ : ∃ d', (saveD d 1 n xs).1 = d' := ⟨_, rfl⟩
        rw [show saveD d ((⟨1, n, strB val⟩ : RT).area) ((⟨1, n, strB val⟩ : RT).num) xs = saveD d 1 n xs from rfl, hd'] at hR5
        rw [show (saveD d ((⟨1, n, strB val⟩ : RT).area) ((⟨1, n, strB val⟩ : RT).num) xs).1 = d' from hd']
        have HD' : Hid ((saveD d 1 n xs).1 = d') := hd'
        obtain ⟨q', hq'⟩ : ∃ q', newT ⟨1, n, strB val⟩ xs C = q' := ⟨_, rfl⟩
        have HQ' : Hid (newT ⟨1, n, strB val⟩ xs (saveD d 1 n xs).2 = q') := by show _ = _; rw [hC]; exact hq'
        rw [hq']
        have HR5 : Hid (RefIs (fun b => ((b ≠ s ∧ b ≠ br ∧ b ≠ bt ∧ b ∉ fp) ∧ b < wr.heap.size) ∨ w4.heap.size ≤ b) w5 (rdV (rdOf d') (.slice ad5 m5 c5)) d') := hR5
        have HB5 : Hid (Below w4.heap.size w4 w5) := hb5
        have D5 := (DskAt.new w5 rd0 (.slice none 0 0)).old (.cells (rtC rt0) 63)
        have hst1 := storeD_at (r := rdOf d') (ad := ad5) (n := m5) (c := c5) D5
        have T5 := SltAt.new (w5.alloc (.cells (rdC rd0 (.slice none 0 0)) 27)) rt0
        rw [alloc_size] at T5
        have D5s : DskAt _ w5.heap.size (rdOf d') (.slice ad5 m5 c5) := D5.set
        have B5s := setD_below (((Below.refl w5.heap.size w5).alloc (Nat.le_refl _) (.cells (rdC rd0 (.slice none 0 0)) 27)).alloc (by simp) (.cells (rtC rt0) 63)) (Nat.le_refl w5.heap.size) (rdOf d') (.slice ad5 m5 c5)
        have T5s : SltAt (setD ((w5.alloc (.cells (rdC rd0 (.slice none 0 0)) 27)).alloc (.cells (rtC rt0) 63)) w5.heap.size (rdOf d') (.slice ad5 m5 c5)) (w5.heap.size + 1) rt0 := (setD_far _ _ _ _ _ (by omega)).trans T5
        have hst2 := storeT_at (r := q') T5s
        obtain ⟨wx, hwx⟩ : ∃ wx, setD ((w5.alloc (.cells (rdC rd0 (.slice none 0 0)) 27)).alloc (.cells (rtC rt0) 63)) w5.heap.size (rdOf d') (.slice ad5 m5 c5) = wx := ⟨_, rfl⟩
        rw [hwx] at hst1 hst2 D5s B5s T5s
        have HW6 : Hid (SV w5.heap.size (w5.heap.size + 1) (rdOf d') (.slice ad5 m5 c5) q' (setT wx (w5.heap.size + 1) q') ∧ Below w5.heap.size w5 (setT wx (w5.heap.size + 1) q')) := ⟨⟨(setT_far _ _ _ _ (by omega)).trans D5s, T5s.set⟩, setT_below B5s (by omega) _⟩
        obtain ⟨w6, hw6⟩ : ∃ w6, setT wx (w5.heap.size + 1) q' = w6 := ⟨_, rfl⟩
        rw [hw6] at hst2 HW6
        clear hR5 hb5 D5 T5 D5s B5s T5s hwx hw6 hC hd' hq'
        go_wp2_with fail
        clear hst1 hst2 hldr hldt hcv
        have hSV : SV w5.heap.size (w5.heap.size + 1) (rdOf d') (.slice ad5 m5 c5) q' w6.drew := ⟨HW6.out.1.d, HW6.out.1.s⟩
        have hz5 := HB5.out.size
        have hz6 := HW6.out.2.size
        have hzr := HSA.out.only.size
        have lbr := HI.out.rb.lt
        have lbt := HI.out.tb.lt
        have hrb6 : DskAt w6 br (rdOf d) (.slice ad m c) := ((HI.out.saved HSA.out.only).2.1.below (by omega) HB5.out).below (by omega) HW6.out.2
        have htb6 : SltAt w6 bt ⟨1, n, strB val⟩ := ((HI.out.saved HSA.out.only).2.2.1.below (by omega) HB5.out).below (by omega) HW6.out.2
        have hbrt := HI.out.ne.1
        refine region_at (S := SV w5.heap.size (w5.heap.size + 1) (rdOf d') (.slice ad5 m5 c5) q') 4 rfl (by kernel_rfl) hSV (fun hHeld => ?_)
        refine take_D (i := 0) 73 rfl rfl rfl rfl (by kernel_rfl) (by kernel_rfl) (by kernel_rfl) (fun _ _ _ h => h) (by rfl) (fun _ h => h.d) hHeld ?_
        simp only [List.setIfInBounds_toArray, List.set_cons_zero, List.set_cons_succ]
        refine take_T (i := 1) 74 rfl rfl rfl rfl (by kernel_rfl) (by kernel_rfl) (by kernel_rfl) (fun _ _ _ h => h) (by rfl) (fun _ h => h.s) hHeld ?_
        simp only [List.setIfInBounds_toArray, List.set_cons_zero, List.set_cons_succ]
        refine put_chain (i := 2) (j := 3) (b6 := br) (b7 := bt) (by kernel_rfl) (by kernel_rfl) rfl rfl rfl rfl (by rfl) (by rfl) rfl rfl rfl rfl rfl rfl hrb6 htb6 hbrt (fun W ho => hHeld.off ho (by omega) (by omega) (by omega) (by omega)) (fun w7 hd7 hs7 ho7 hHeld2 => ?_)
        refine wpAnyH_done (by kernel_rfl) ?_ _
        have H7 : Hid (SavR w br bt s p (L.length + 2 * k + 2) d' (if C = 0 then n + 1 else n) (if C = 0 then xs else val) w7 fp' g' ad5 m5 c5) := by
          have h := HI.out.next (ad' := ad5) (m' := m5) (c' := c5) HXB.out HSA.out (by rw [HD'.out]; exact HR5.out) HB5.out (HW6.out.2.trans ((Below.refl _ w6).drew.mono HW6.out.2.size)) ho7 (by rw [HD'.out]; exact hd7) (by rw [HQ'.out]; exact hs7)
          rw [HD'.out, HC.out] at h
          exact h
        obtain ⟨n', hn'⟩ : ∃ n', (if C = 0 then n + 1 else n) = n' := ⟨_, rfl⟩
        obtain ⟨val', hval'⟩ : ∃ val', (if C = 0 then xs else val) = val' := ⟨_, rfl⟩
        rw [hn', hval'] at H7
        clear hHeld hHeld2 hd7 hs7 ho7 hSV hrb6 htb6 hn' hval' HR5 HB5 HW6 HSA HR4 HD' HQ' HC HI hz5 hz6 hzr lbr lbt hbrt
        go_wp2_with fail
        refine (Read_any (L.length + 2 * k + 2) p d' fp' 1 0 w7 H7.out.dk (by omega)).mono ?_
        rintro e w8 ⟨hb8, hcase⟩
        have H8 : Hid (SavR w br bt s p (L.length + 2 * k + 2) d' n' val' w8 fp' g' ad5 m5 c5) := H7.out.then hb8
        have hld8 := loadD_at H8.out.rb
        rcases hcase with ⟨hcur, rfl⟩ | ⟨cv, cb, hcur, hcl, rfl, hcb, hcell⟩
        · have HCU : Hid (curOf d'.secs 1 0 = none) := hcur
          clear hcur hb8
          go_wp2_with fail
          refine (refRead_any _ (L.length + 2 * k + 2) d' _ 1 0 w8 H8.out.ref H8.out.dk.ok (by omega)).mono ?_
          rintro e w9 ⟨rfl, hb9⟩
          have H9 : Hid (SavR w br bt s p (L.length + 2 * k + 2) d' n' val' w9 fp' g' ad5 m5 c5) := H8.out.then hb9
          rw [HCU.out]
          unfold readV
          obtain ⟨bS, hbS⟩ : ∃ bS, ByteArray.mk #[] = bS := ⟨_, rfl⟩
          simp only [hbS]
          have HCV : Hid (∀ W, Below w9.heap.size w9 W → (convert 36 9 (.slice none 0 0)).run Try.prog W = .ok (.string bS) W) := fun W _ => by
            rw [← hbS]
            exact Row.str (N := W.heap.size) (xs := []) ⟨none, 0, rfl, Nat.le_refl _, fun _ => rfl, fun h => by simp at h⟩
          clear hb9 hld8 hbS H7 H8
          have hstp : (rdOf d').steps = d'.steps := rfl
          have hO9 : SX br bt (rdOf d') (.slice ad5 m5 c5) ⟨1, n', strB val'⟩ w9.drew := ⟨H9.out.rb, H9.out.tb⟩
          go_wp2_with fail
          refine region_at (S := SX br bt (rdOf d') (.slice ad5 m5 c5) ⟨1, n', strB val'⟩) 27 rfl (by kernel_rfl) hO9 (fun hHeld => ?_)
          refine take_at (i := 0) 85 rfl rfl (by kernel_rfl) (by kernel_rfl) (by kernel_rfl) (fun _ _ _ h => h) (by rfl) (fun w hSw => by (have hSw2 := SX.facts hSw; clear hSw; go_simp; first | done | exact rfl)) (by assumption) ?_
          simp only [List.setIfInBounds_toArray, List.set_cons_zero, List.set_cons_succ]
          refine take_at (i := 1) 86 rfl rfl (by kernel_rfl) (by kernel_rfl) (by kernel_rfl) (fun _ _ _ h => h) (by rfl) (fun w hSw => by (have hSw2 := SX.facts hSw; clear hSw; go_simp; first | done | exact rfl)) (by assumption) ?_
          simp only [List.setIfInBounds_toArray, List.set_cons_zero, List.set_cons_succ]
          refine take_at (i := 2) 87 rfl rfl (by kernel_rfl) (by kernel_rfl) (by kernel_rfl) (fun _ _ _ h => h) (by rfl) (fun w hSw => by (have hSw2 := SX.facts hSw; clear hSw; go_simp; first | done | exact rfl)) (by assumption) ?_
          simp only [List.setIfInBounds_toArray, List.set_cons_zero, List.set_cons_succ]
          refine take_at (i := 3) 88 rfl rfl (by kernel_rfl) (by kernel_rfl) (by kernel_rfl) (fun _ _ _ h => h) (by rfl) (fun w hSw => by (have hSw2 := SX.facts hSw; clear hSw; go_simp; first | done | exact rfl)) (by assumption) ?_
          simp only [List.setIfInBounds_toArray, List.set_cons_zero, List.set_cons_succ]
          refine take_at (i := 4) 89 rfl rfl (by kernel_rfl) (by kernel_rfl) (by kernel_rfl) (fun _ _ _ h => h) (by rfl) (fun w hSw => by (have hSw2 := SX.facts hSw; clear hSw; go_simp; first | done | exact rfl)) (by assumption) ?_
          simp only [List.setIfInBounds_toArray, List.set_cons_zero, List.set_cons_succ]
          refine take_T (i := 5) 90 rfl rfl rfl rfl (by kernel_rfl) (by kernel_rfl) (by kernel_rfl) (fun _ _ _ h => h) (by rfl) (fun _ h => h.s) hHeld ?_
          simp only [List.setIfInBounds_toArray, List.set_cons_zero, List.set_cons_succ]
          refine one_call (i := 6) (w0 := w9.drew) 91 30 #[.pointer (some ⟨s, 0, none⟩), rtV ⟨1, n', strB val'⟩] (by kernel_rfl) rfl rfl (by rfl) (by kernel_rfl) ?_
          refine (same_any w9.drew s p 1 1 n' val' g' H9.out.sl (by have := H9.out.l48; omega)).mono ?_
          rintro e w10 ⟨rfl, hb10⟩
          have H10 := (H9.out.then (Below.refl _ w9).drew).then hb10
          refine ⟨_, rfl, ⟨H10.rb, H10.tb⟩, fun hHeld10 => ?_⟩
          simp only [List.setIfInBounds_toArray, List.set_cons_zero, List.set_cons_succ]
          refine take_at (i := 7) 92 rfl rfl (by kernel_rfl) (by kernel_rfl) (by kernel_rfl) (fun _ _ _ h => h) (by rfl) (fun w hSw => by (have hSw2 := SX.facts hSw; clear hSw; go_simp; first | done | exact rfl)) (by assumption) ?_
          simp only [List.setIfInBounds_toArray, List.set_cons_zero, List.set_cons_succ]
          refine take_at (i := 8) 93 rfl rfl (by kernel_rfl) (by kernel_rfl) (by kernel_rfl) (fun _ _ _ h => h) (by rfl) (fun w hSw => by (have hSw2 := SX.facts hSw; clear hSw; go_simp; first | done | exact rfl)) (by assumption) ?_
          simp only [List.setIfInBounds_toArray, List.set_cons_zero, List.set_cons_succ]
          refine take_at (i := 9) 94 rfl rfl (by kernel_rfl) (by kernel_rfl) (by kernel_rfl) (fun _ _ _ h => h) (by rfl) (fun w hSw => by (have hSw2 := SX.facts hSw; clear hSw; go_simp; first | done | exact rfl)) (by assumption) ?_
          simp only [List.setIfInBounds_toArray, List.set_cons_zero, List.set_cons_succ]
          refine take_at (i := 10) 95 rfl rfl (by kernel_rfl) (by kernel_rfl) (by kernel_rfl) (fun _ _ _ h => h) (by rfl) (fun w hSw => by (have hSw2 := SX.facts hSw; clear hSw; go_simp; first | done | exact rfl)) (by assumption) ?_
          simp only [List.setIfInBounds_toArray, List.set_cons_zero, List.set_cons_succ]
          refine take_at (i := 11) 96 rfl rfl (by kernel_rfl) (by kernel_rfl) (by kernel_rfl) (fun _ _ _ h => h) (by rfl) (fun w hSw => by (have hSw2 := SX.facts hSw; clear hSw; go_simp; first | done | exact rfl)) (by assumption) ?_
          simp only [List.setIfInBounds_toArray, List.set_cons_zero, List.set_cons_succ]
          refine take_at (i := 12) 97 rfl rfl (by kernel_rfl) (by kernel_rfl) (by kernel_rfl) (fun _ _ _ h => h) (by rfl) (fun w hSw => by (have hSw2 := SX.facts hSw; clear hSw; go_simp; first | done | exact rfl)) (by assumption) ?_
          simp only [List.setIfInBounds_toArray, List.set_cons_zero, List.set_cons_succ]
          refine take_at (i := 13) 98 rfl rfl (by kernel_rfl) (by kernel_rfl) (by kernel_rfl) (fun _ _ _ h => h) (by rfl) (fun w hSw => by (have hSw2 := SX.facts hSw; clear hSw; go_simp; first | done | exact rfl)) (by assumption) ?_
          simp only [List.setIfInBounds_toArray, List.set_cons_zero, List.set_cons_succ]
          refine take_at (i := 14) 99 rfl rfl (by kernel_rfl) (by kernel_rfl) (by kernel_rfl) (fun _ _ _ h => h) (by rfl) (fun w hSw => by (have hSw2 := SX.facts hSw; clear hSw; go_simp; first | done | exact rfl)) (by assumption) ?_
          simp only [List.setIfInBounds_toArray, List.set_cons_zero, List.set_cons_succ]
          refine take_at (i := 15) 100 rfl rfl (by kernel_rfl) (by kernel_rfl) (by kernel_rfl) (fun _ _ _ h => h) (by rfl) (fun w hSw => by (have hSw2 := SX.facts hSw; clear hSw; go_simp; first | done | exact rfl)) (by assumption) ?_
          simp only [List.setIfInBounds_toArray, List.set_cons_zero, List.set_cons_succ]
          refine take_at (i := 17) 102 rfl rfl (by kernel_rfl) (by kernel_rfl) (by kernel_rfl) (fun _ _ _ h => h) (by rfl) (fun w hSw => by (have hSw2 := SX.facts hSw; clear hSw; go_simp; first | done | exact rfl)) (by assumption) ?_
          simp only [List.setIfInBounds_toArray, List.set_cons_zero, List.set_cons_succ]
          have hcvX := HCV.out w10 (((Below.refl _ w9).drew).trans hb10)
          refine one_value (i := 16) (v := .string bS) (w' := w10) 101 (by kernel_rfl) rfl rfl (by rfl) (by go_simp; first | done | exact rfl) hHeld10 (fun _ => ?_)
          simp only [List.setIfInBounds_toArray, List.set_cons_zero, List.set_cons_succ]
          refine take_at (i := 18) 103 rfl rfl (by kernel_rfl) (by kernel_rfl) (by kernel_rfl) (fun _ _ _ h => h) (by rfl) (fun w hSw => by (have hSw2 := SX.facts hSw; clear hSw; go_simp; first | done | exact rfl)) (by assumption) ?_
          simp only [List.setIfInBounds_toArray, List.set_cons_zero, List.set_cons_succ]
          refine take_at (i := 19) 104 rfl rfl (by kernel_rfl) (by kernel_rfl) (by kernel_rfl) (fun _ _ _ h => h) (by rfl) (fun w hSw => by (have hSw2 := SX.facts hSw; clear hSw; go_simp; first | done | exact rfl)) (by assumption) ?_
          simp only [List.setIfInBounds_toArray, List.set_cons_zero, List.set_cons_succ]
          refine take_at (i := 20) 105 rfl rfl (by kernel_rfl) (by kernel_rfl) (by kernel_rfl) (fun _ _ _ h => h) (by rfl) (fun w hSw => by (have hSw2 := SX.facts hSw; clear hSw; go_simp; first | done | exact rfl)) (by assumption) ?_
          simp only [List.setIfInBounds_toArray, List.set_cons_zero, List.set_cons_succ]
          refine take_at (i := 21) 106 rfl rfl (by kernel_rfl) (by kernel_rfl) (by kernel_rfl) (fun _ _ _ h => h) (by rfl) (fun w hSw => by (have hSw2 := SX.facts hSw; clear hSw; go_simp; first | done | exact rfl)) (by assumption) ?_
          simp only [List.setIfInBounds_toArray, List.set_cons_zero, List.set_cons_succ]
          refine take_at (i := 23) 108 rfl rfl (by kernel_rfl) (by kernel_rfl) (by kernel_rfl) (fun _ _ _ h => h) (by rfl) (fun w hSw => by (have hSw2 := SX.facts hSw; clear hSw; go_simp; first | done | exact rfl)) (by assumption) ?_
          simp only [List.setIfInBounds_toArray, List.set_cons_zero, List.set_cons_succ]
          refine take_at (i := 24) 109 rfl rfl (by kernel_rfl) (by kernel_rfl) (by kernel_rfl) (fun _ _ _ h => h) (by rfl) (fun w hSw => by (have hSw2 := SX.facts hSw; clear hSw; go_simp; first | done | exact rfl)) (by assumption) ?_
          simp only [List.setIfInBounds_toArray, List.set_cons_zero, List.set_cons_succ]
          refine one_call (i := 22) (w0 := w10) 107 33 #[.pointer (some ⟨p, 0, none⟩)] (by kernel_rfl) rfl rfl (by rfl) (by kernel_rfl) ?_
          refine (Steps_any _ p d' fp' w10 H10.dk).mono ?_
          rintro e w11 ⟨rfl, rfl⟩
          refine ⟨_, rfl, hHeld10, fun _ => ?_⟩
          simp only [List.setIfInBounds_toArray, List.set_cons_zero, List.set_cons_succ]
          refine take_at (i := 25) 110 rfl rfl (by kernel_rfl) (by kernel_rfl) (by kernel_rfl) (fun _ _ _ h => h) (by rfl) (fun w hSw => by (have hSw2 := SX.facts hSw; clear hSw; go_simp; first | done | exact rfl)) (by assumption) ?_
          simp only [List.setIfInBounds_toArray, List.set_cons_zero, List.set_cons_succ]
          refine take_at (i := 26) 111 rfl rfl (by kernel_rfl) (by kernel_rfl) (by kernel_rfl) (fun _ _ _ h => h) (by rfl) (fun w hSw => by (have hSw2 := SX.facts hSw; clear hSw; go_simp; first | done | exact rfl)) (by assumption) ?_
          simp only [List.setIfInBounds_toArray, List.set_cons_zero, List.set_cons_succ]
          refine wpAnyH_done (by kernel_rfl) ?_ _
          have H11 : Hid (SavR w br bt s p (L.length + 2 * (k + 1)) d' n' val' w11 fp' g' ad5 m5 c5) := H10
          clear hHeld hHeld10 hO9 H10 hb10 hcvX hstp
          go_wp2_with fail
          go_roundw
          case rel => exact ⟨k + 1, d', n', val', fp', g', ad5, m5, c5, by go_num, by omega, H11.out⟩
          case measure => simp [intOf]; omega
        · have HCU : Hid (curOf d'.secs 1 0 = some cv) := hcur
          have hrow8 := ver_row4 hcell hcl
          have HRW8 : Hid (Row w8.heap.size w8 (.slice (some ⟨cb, 0, none⟩) 64 64) cv) := hrow8
          clear hcur hb8 hcell hrow8
          go_wp2_with fail
          refine (refRead_any _ (L.length + 2 * k + 2) d' _ 1 0 w8 H8.out.ref H8.out.dk.ok (by omega)).mono ?_
          rintro e w9 ⟨rfl, hb9⟩
          have H9 : Hid (SavR w br bt s p (L.length + 2 * k + 2) d' n' val' w9 fp' g' ad5 m5 c5) := H8.out.then hb9
          rw [HCU.out]
          unfold readV
          obtain ⟨bS, hbS⟩ : ∃ bS, strB cv = bS := ⟨_, rfl⟩
          simp only [hbS]
          have HCV : Hid (∀ W, Below w9.heap.size w9 W → (convert 36 9 (.slice (some ⟨cb, 0, none⟩) 64 64)).run Try.prog W = .ok (.string bS) W) := fun W hW => by
            rw [← hbS]
            exact Row.str (HRW8.out.below (hb9.trans (hW.mono hb9.size)))
          clear hb9 hld8 hbS H7 H8 HRW8
          have hstp : (rdOf d').steps = d'.steps := rfl
          have hO9 : SX br bt (rdOf d') (.slice ad5 m5 c5) ⟨1, n', strB val'⟩ w9.drew := ⟨H9.out.rb, H9.out.tb⟩
          go_wp2_with fail
          refine region_at (S := SX br bt (rdOf d') (.slice ad5 m5 c5) ⟨1, n', strB val'⟩) 27 rfl (by kernel_rfl) hO9 (fun hHeld => ?_)
          refine take_at (i := 0) 85 rfl rfl (by kernel_rfl) (by kernel_rfl) (by kernel_rfl) (fun _ _ _ h => h) (by rfl) (fun w hSw => by (have hSw2 := SX.facts hSw; clear hSw; go_simp; first | done | exact rfl)) (by assumption) ?_
          simp only [List.setIfInBounds_toArray, List.set_cons_zero, List.set_cons_succ]
          refine take_at (i := 1) 86 rfl rfl (by kernel_rfl) (by kernel_rfl) (by kernel_rfl) (fun _ _ _ h => h) (by rfl) (fun w hSw => by (have hSw2 := SX.facts hSw; clear hSw; go_simp; first | done | exact rfl)) (by assumption) ?_
          simp only [List.setIfInBounds_toArray, List.set_cons_zero, List.set_cons_succ]
          refine take_at (i := 2) 87 rfl rfl (by kernel_rfl) (by kernel_rfl) (by kernel_rfl) (fun _ _ _ h => h) (by rfl) (fun w hSw => by (have hSw2 := SX.facts hSw; clear hSw; go_simp; first | done | exact rfl)) (by assumption) ?_
          simp only [List.setIfInBounds_toArray, List.set_cons_zero, List.set_cons_succ]
          refine take_at (i := 3) 88 rfl rfl (by kernel_rfl) (by kernel_rfl) (by kernel_rfl) (fun _ _ _ h => h) (by rfl) (fun w hSw => by (have hSw2 := SX.facts hSw; clear hSw; go_simp; first | done | exact rfl)) (by assumption) ?_
          simp only [List.setIfInBounds_toArray, List.set_cons_zero, List.set_cons_succ]
          refine take_at (i := 4) 89 rfl rfl (by kernel_rfl) (by kernel_rfl) (by kernel_rfl) (fun _ _ _ h => h) (by rfl) (fun w hSw => by (have hSw2 := SX.facts hSw; clear hSw; go_simp; first | done | exact rfl)) (by assumption) ?_
          simp only [List.setIfInBounds_toArray, List.set_cons_zero, List.set_cons_succ]
          refine take_T (i := 5) 90 rfl rfl rfl rfl (by kernel_rfl) (by kernel_rfl) (by kernel_rfl) (fun _ _ _ h => h) (by rfl) (fun _ h => h.s) hHeld ?_
          simp only [List.setIfInBounds_toArray, List.set_cons_zero, List.set_cons_succ]
          refine one_call (i := 6) (w0 := w9.drew) 91 30 #[.pointer (some ⟨s, 0, none⟩), rtV ⟨1, n', strB val'⟩] (by kernel_rfl) rfl rfl (by rfl) (by kernel_rfl) ?_
          refine (same_any w9.drew s p 1 1 n' val' g' H9.out.sl (by have := H9.out.l48; omega)).mono ?_
          rintro e w10 ⟨rfl, hb10⟩
          have H10 := (H9.out.then (Below.refl _ w9).drew).then hb10
          refine ⟨_, rfl, ⟨H10.rb, H10.tb⟩, fun hHeld10 => ?_⟩
          simp only [List.setIfInBounds_toArray, List.set_cons_zero, List.set_cons_succ]
          refine take_at (i := 7) 92 rfl rfl (by kernel_rfl) (by kernel_rfl) (by kernel_rfl) (fun _ _ _ h => h) (by rfl) (fun w hSw => by (have hSw2 := SX.facts hSw; clear hSw; go_simp; first | done | exact rfl)) (by assumption) ?_
          simp only [List.setIfInBounds_toArray, List.set_cons_zero, List.set_cons_succ]
          refine take_at (i := 8) 93 rfl rfl (by kernel_rfl) (by kernel_rfl) (by kernel_rfl) (fun _ _ _ h => h) (by rfl) (fun w hSw => by (have hSw2 := SX.facts hSw; clear hSw; go_simp; first | done | exact rfl)) (by assumption) ?_
          simp only [List.setIfInBounds_toArray, List.set_cons_zero, List.set_cons_succ]
          refine take_at (i := 9) 94 rfl rfl (by kernel_rfl) (by kernel_rfl) (by kernel_rfl) (fun _ _ _ h => h) (by rfl) (fun w hSw => by (have hSw2 := SX.facts hSw; clear hSw; go_simp; first | done | exact rfl)) (by assumption) ?_
          simp only [List.setIfInBounds_toArray, List.set_cons_zero, List.set_cons_succ]
          refine take_at (i := 10) 95 rfl rfl (by kernel_rfl) (by kernel_rfl) (by kernel_rfl) (fun _ _ _ h => h) (by rfl) (fun w hSw => by (have hSw2 := SX.facts hSw; clear hSw; go_simp; first | done | exact rfl)) (by assumption) ?_
          simp only [List.setIfInBounds_toArray, List.set_cons_zero, List.set_cons_succ]
          refine take_at (i := 11) 96 rfl rfl (by kernel_rfl) (by kernel_rfl) (by kernel_rfl) (fun _ _ _ h => h) (by rfl) (fun w hSw => by (have hSw2 := SX.facts hSw; clear hSw; go_simp; first | done | exact rfl)) (by assumption) ?_
          simp only [List.setIfInBounds_toArray, List.set_cons_zero, List.set_cons_succ]
          refine take_at (i := 12) 97 rfl rfl (by kernel_rfl) (by kernel_rfl) (by kernel_rfl) (fun _ _ _ h => h) (by rfl) (fun w hSw => by (have hSw2 := SX.facts hSw; clear hSw; go_simp; first | done | exact rfl)) (by assumption) ?_
          simp only [List.setIfInBounds_toArray, List.set_cons_zero, List.set_cons_succ]
          refine take_at (i := 13) 98 rfl rfl (by kernel_rfl) (by kernel_rfl) (by kernel_rfl) (fun _ _ _ h => h) (by rfl) (fun w hSw => by (have hSw2 := SX.facts hSw; clear hSw; go_simp; first | done | exact rfl)) (by assumption) ?_
          simp only [List.setIfInBounds_toArray, List.set_cons_zero, List.set_cons_succ]
          refine take_at (i := 14) 99 rfl rfl (by kernel_rfl) (by kernel_rfl) (by kernel_rfl) (fun _ _ _ h => h) (by rfl) (fun w hSw => by (have hSw2 := SX.facts hSw; clear hSw; go_simp; first | done | exact rfl)) (by assumption) ?_
          simp only [List.setIfInBounds_toArray, List.set_cons_zero, List.set_cons_succ]
          refine take_at (i := 15) 100 rfl rfl (by kernel_rfl) (by kernel_rfl) (by kernel_rfl) (fun _ _ _ h => h) (by rfl) (fun w hSw => by (have hSw2 := SX.facts hSw; clear hSw; go_simp; first | done | exact rfl)) (by assumption) ?_
          simp only [List.setIfInBounds_toArray, List.set_cons_zero, List.set_cons_succ]
          refine take_at (i := 17) 102 rfl rfl (by kernel_rfl) (by kernel_rfl) (by kernel_rfl) (fun _ _ _ h => h) (by rfl) (fun w hSw => by (have hSw2 := SX.facts hSw; clear hSw; go_simp; first | done | exact rfl)) (by assumption) ?_
          simp only [List.setIfInBounds_toArray, List.set_cons_zero, List.set_cons_succ]
          have hcvX := HCV.out w10 (((Below.refl _ w9).drew).trans hb10)
          refine one_value (i := 16) (v := .string bS) (w' := w10) 101 (by kernel_rfl) rfl rfl (by rfl) (by go_simp; first | done | exact rfl) hHeld10 (fun _ => ?_)
          simp only [List.setIfInBounds_toArray, List.set_cons_zero, List.set_cons_succ]
          refine take_at (i := 18) 103 rfl rfl (by kernel_rfl) (by kernel_rfl) (by kernel_rfl) (fun _ _ _ h => h) (by rfl) (fun w hSw => by (have hSw2 := SX.facts hSw; clear hSw; go_simp; first | done | exact rfl)) (by assumption) ?_
          simp only [List.setIfInBounds_toArray, List.set_cons_zero, List.set_cons_succ]
          refine take_at (i := 19) 104 rfl rfl (by kernel_rfl) (by kernel_rfl) (by kernel_rfl) (fun _ _ _ h => h) (by rfl) (fun w hSw => by (have hSw2 := SX.facts hSw; clear hSw; go_simp; first | done | exact rfl)) (by assumption) ?_
          simp only [List.setIfInBounds_toArray, List.set_cons_zero, List.set_cons_succ]
          refine take_at (i := 20) 105 rfl rfl (by kernel_rfl) (by kernel_rfl) (by kernel_rfl) (fun _ _ _ h => h) (by rfl) (fun w hSw => by (have hSw2 := SX.facts hSw; clear hSw; go_simp; first | done | exact rfl)) (by assumption) ?_
          simp only [List.setIfInBounds_toArray, List.set_cons_zero, List.set_cons_succ]
          refine take_at (i := 21) 106 rfl rfl (by kernel_rfl) (by kernel_rfl) (by kernel_rfl) (fun _ _ _ h => h) (by rfl) (fun w hSw => by (have hSw2 := SX.facts hSw; clear hSw; go_simp; first | done | exact rfl)) (by assumption) ?_
          simp only [List.setIfInBounds_toArray, List.set_cons_zero, List.set_cons_succ]
          refine take_at (i := 23) 108 rfl rfl (by kernel_rfl) (by kernel_rfl) (by kernel_rfl) (fun _ _ _ h => h) (by rfl) (fun w hSw => by (have hSw2 := SX.facts hSw; clear hSw; go_simp; first | done | exact rfl)) (by assumption) ?_
          simp only [List.setIfInBounds_toArray, List.set_cons_zero, List.set_cons_succ]
          refine take_at (i := 24) 109 rfl rfl (by kernel_rfl) (by kernel_rfl) (by kernel_rfl) (fun _ _ _ h => h) (by rfl) (fun w hSw => by (have hSw2 := SX.facts hSw; clear hSw; go_simp; first | done | exact rfl)) (by assumption) ?_
          simp only [List.setIfInBounds_toArray, List.set_cons_zero, List.set_cons_succ]
          refine one_call (i := 22) (w0 := w10) 107 33 #[.pointer (some ⟨p, 0, none⟩)] (by kernel_rfl) rfl rfl (by rfl) (by kernel_rfl) ?_
          refine (Steps_any _ p d' fp' w10 H10.dk).mono ?_
          rintro e w11 ⟨rfl, rfl⟩
          refine ⟨_, rfl, hHeld10, fun _ => ?_⟩
          simp only [List.setIfInBounds_toArray, List.set_cons_zero, List.set_cons_succ]
          refine take_at (i := 25) 110 rfl rfl (by kernel_rfl) (by kernel_rfl) (by kernel_rfl) (fun _ _ _ h => h) (by rfl) (fun w hSw => by (have hSw2 := SX.facts hSw; clear hSw; go_simp; first | done | exact rfl)) (by assumption) ?_
          simp only [List.setIfInBounds_toArray, List.set_cons_zero, List.set_cons_succ]
          refine take_at (i := 26) 111 rfl rfl (by kernel_rfl) (by kernel_rfl) (by kernel_rfl) (fun _ _ _ h => h) (by rfl) (fun w hSw => by (have hSw2 := SX.facts hSw; clear hSw; go_simp; first | done | exact rfl)) (by assumption) ?_
          simp only [List.setIfInBounds_toArray, List.set_cons_zero, List.set_cons_succ]
          refine wpAnyH_done (by kernel_rfl) ?_ _
          have H11 : Hid (SavR w br bt s p (L.length + 2 * (k + 1)) d' n' val' w11 fp' g' ad5 m5 c5) := H10
          clear hHeld hHeld10 hO9 H10 hb10 hcvX hstp
          go_wp2_with fail
          go_roundw
          case rel => exact ⟨k + 1, d', n', val', fp', g', ad5, m5, c5, by go_num, by omega, H11.out⟩
          case measure => simp [intOf]; omega
      · have hxn : ¬ ((k : Int) < (L2.length : Int)) := by omega
        have HBE : Hid (Below w.heap.size w wr) := HI.out.below
        go_wp2_with fail
        go_ret
        exact ⟨rfl, HBE.out⟩
end Go.Proofs.Ytpmmpdkeahmdiaa
