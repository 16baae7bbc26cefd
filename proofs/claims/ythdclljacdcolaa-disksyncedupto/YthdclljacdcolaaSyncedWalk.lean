/- DiskSynced. -/
import Derived.Test.YthdclljacdcolaaRefEnd
namespace Go.Proofs.Ythdclljacdcolaa
open Go.RowKit
set_option maxRecDepth 100000

attribute [local go_sem ↓] exec_alloc_D exec_box_D exec_load_D exec_store_D
attribute [local go_sem] rdV_cells rdC_0 rdC_1 rdC_2 rdC_3 rdC_4 rdC_5
theorem read_tells {W : World} {o : Option (List Nat)} {e : Ending} (h : (o = none ∧ e = .returned (.tuple #[.slice none 0 0, .bool false])) ∨ ∃ v b, o = some v ∧ v.length = 64 ∧ e = .returned (.tuple #[.slice (some ⟨b, 0, none⟩) 64 64, .bool true]) ∧ True ∧ W.heap[b]? = some (.cells (verC v) 81 (0, 0))) :
    ∃ (xv : Value), e = .returned (.tuple #[xv, .bool o.isSome]) ∧ ∀ W', Below W.heap.size W W' → (convert 32 9 xv).run Try.prog W' = .ok (.string (strB (o.getD []))) W' := by
  rcases h with ⟨rfl, he⟩ | ⟨v, b, rfl, hv, he, _, hblk⟩
  · exact ⟨_, he, fun W' _ => by rw [show strB ((none : Option (List Nat)).getD []) = ByteArray.mk #[] from str_nil]; exact conv_nil W'⟩
  · exact ⟨_, he, fun W' hW => conv_ver ((hW.block b (Array.getElem?_eq_some_iff.1 hblk).1).trans hblk) hv⟩
set_option maxHeartbeats 1000000 in
theorem synced_walk (v0 : Value) (n1 : Nat) (v2 : Value) (w : World) (L : List OpC) (hS : Script w v0 L) (_h1 : n1 < 18446744073709551616) (ps : List Int) (hP : IntsAt w v2 ps) (hL : L.length ≤ 1048576) :
    Calls Try.prog 6 #[v0, .int .u64 (n1 : Int), v2] w fun e w' => e = .returned (.bool true) ∧ Below w.heap.size w w' := by
  have HP : Hid (IntsAt w v2 ps) := hP
  have HSC : Hid (Script w v0 L) := hS
  obtain ⟨a, ha⟩ : ∃ a : Int, (n1 : Int) = a := ⟨_, rfl⟩
  rw [ha]
  clear hP hS ha
  go_enter Try.func6, Try.ntmps6
  go_wp2_with fail
  refine (begun_any 1073741824 v0 w L HSC.out (by omega) (by omega) hL).mono ?_
  rintro e w1 ⟨p, fp, rv, rfl, hd1, hr1, hb1, hf1⟩
  obtain ⟨ad, n, c, rfl⟩ := hr1.form
  obtain ⟨d, hd⟩ : ∃ d, behind 1073741824 L = d := ⟨_, rfl⟩
  have HSO : Hid (SecsOk d.secs) := hd ▸ behind_ok 1073741824 L
  rw [hd] at hd1 hr1
  rw [hd]
  have hst := storeD_at (r := rdOf d) (ad := ad) (n := n) (c := c) (DskAt.new w1 rd0 (.slice none 0 0))
  obtain ⟨w2, hw2⟩ : ∃ w2, setD (w1.alloc (.cells (rdC rd0 (.slice none 0 0)) 27)) w1.heap.size (rdOf d) (.slice ad n c) = w2 := ⟨_, rfl⟩
  rw [hw2] at hst
  have hst2 : ∀ b, b < w1.heap.size → w2.heap[b]? = w1.heap[b]? := fun b hb => by rw [← hw2, setD_far _ _ _ _ _ (by omega), alloc_old _ _ hb]
  have D2 : Hid (DiskAt L.length w2 p d fp) := hd1.same fun b hb => hst2 b (hd1.lt b hb)
  have B2 : Hid (Below w.heap.size w w2) := by
    rw [← hw2]
    exact setD_below (hb1.alloc hb1.size _) hb1.size _ _
  have HF : Hid (∀ b ∈ fp, w.heap.size ≤ b) := hf1
  clear hd1 hr1 hb1 hf1 hd hw2 hst2
  go_wp2_with fail
  refine (Sync_any L.length p d fp a w2 D2.out (by omega)).mono ?_
  rintro e w3 ⟨rfl, fp3, hd3, ho3, hf3⟩
  have D3 : Hid (DiskAt (L.length + 1) w3 p (syD d a) fp3) := hd3
  have hs2 := B2.out.size
  have B3 : Hid (Below w.heap.size w w3) := B2.out.trans (ho3.below hs2 HF.out)
  clear hd3 ho3 hf3 hst
  by_cases h0 : stepE d = 0
  · have HSY : Hid (syD d a = { stepD d with secs := sy a d.secs }) := by show _ = _; rw [syD, if_pos h0]
    have h0' : (stepE d != 0) = false := by simp [h0]
    have HS3 : Hid (SecsOk (syD d a).secs) := by show SecsOk _; rw [HSY.out]; exact sy_ok HSO.out
    have HSM : Hid (endS a (crashS ps (syD d a).secs) = endS a (syD d a).secs ∧ ∀ n, curOf (crashS ps (syD d a).secs) a n = curOf (syD d a).secs a n) := by
      rw [HSY.out]
      exact synced_same (sy_fresh a d.secs)
    obtain ⟨dq, hdq⟩ : ∃ dq, syD d a = dq := ⟨_, rfl⟩
    rw [hdq] at D3 HS3 HSM
    clear h0 HSY hdq
    go_wp2_with fail
    refine (Crash_any (L.length + 1) p dq fp3 v2 ps w3 D3.out (HP.out.below B3.out) (by omega)).mono ?_
    rintro e w4 ⟨q, fq, rfl, hc4, hb4, hf4⟩
    have C4 : Hid (DiskAt (L.length + 1) w4 q (crashD dq ps) fq) := hc4
    have D4 : Hid (DiskAt (L.length + 1) w4 p dq fp3) := D3.out.below hb4
    have B4 : Hid (Below w.heap.size w w4) := B3.out.trans (hb4.mono B3.out.size)
    have HSC4 : Hid (SecsOk (crashD dq ps).secs) := crash_ok HS3.out
    clear hc4 hb4 hf4
    go_wp2_with fail
    refine (Sectors_any (L.length + 1) q (crashD dq ps) fq a w4 C4.out HSC4.out).mono ?_
    rintro e w5 ⟨rfl, hb5⟩
    rw [show endS a (crashD dq ps).secs = endS a dq.secs from HSM.out.1]
    have C5 : Hid (DiskAt (L.length + 1) w5 q (crashD dq ps) fq) := C4.out.below hb5
    have D5 : Hid (DiskAt (L.length + 1) w5 p dq fp3) := D4.out.below hb5
    have B5 : Hid (Below w.heap.size w w5) := B4.out.trans (hb5.mono B4.out.size)
    clear hb5
    go_wp2_with fail
    refine (Sectors_any (L.length + 1) p dq fp3 a w5 D5.out HS3.out).mono ?_
    rintro e w6 ⟨rfl, hb6⟩
    have C6 : Hid (DiskAt (L.length + 1) w6 q (crashD dq ps) fq) := C5.out.below hb6
    have D6 : Hid (DiskAt (L.length + 1) w6 p dq fp3) := D5.out.below hb6
    have B6 : Hid (Below w.heap.size w w6) := B5.out.trans (hb6.mono B5.out.size)
    obtain ⟨E, hE⟩ : ∃ E, endS a dq.secs = E := ⟨_, rfl⟩
    have HEE : Hid (endS a dq.secs = E) := hE
    rw [hE]
    have hE0 : 0 ≤ E ∧ E ≤ 16777216 := by
      rw [← hE]
      exact ⟨topS_nonneg _, topS_le _ _ (by omega) fun k hk => by
        obtain ⟨s, hs, rfl⟩ := List.mem_map.1 hk
        have := (HS3.out s (List.mem_filter.1 hs).1).2
        omega⟩
    clear hb6 hE C4 D4 B4 C5 D5 B5
    go_wp2_with fail
    go_loopw [11] (fun v wr => ∃ k : Nat, v = .int .i64 k ∧ (k : Int) ≤ E ∧ Below w6.heap.size w6 wr) (fun v _ => (E - intOf v).toNat)
    case atStart => exact ⟨0, rfl, by omega, Below.refl _ _⟩
    case round =>
      obtain ⟨k, rfl, hk, hbr⟩ := hrel
      have BR : Hid (Below w6.heap.size w6 wr) := hbr
      clear hbr
      go_wp2_with fail
      refine (Sectors_any (L.length + 1) p dq fp3 a wr (D6.out.below BR.out) HS3.out).mono ?_
      rintro e w7 ⟨rfl, hb7⟩
      rw [HEE.out]
      have B7 : Hid (Below w6.heap.size w6 w7) := BR.out.trans (hb7.mono BR.out.size)
      clear hb7
      by_cases hkE : (k : Int) < E
      · go_wp2_with fail
        refine (Read_any (L.length + 1) p dq fp3 a (k : Int) w7 (D6.out.below B7.out) (by omega)).mono ?_
        rintro e w8 ⟨hb8, hc8⟩
        obtain ⟨xv, rfl, hcv⟩ := read_tells (W := w8) (hc8.imp id fun ⟨v, b, h1, h2, h3, _, h5⟩ => ⟨v, b, h1, h2, h3, trivial, h5⟩)
        have B8 : Hid (Below w6.heap.size w6 w8) := B7.out.trans (hb8.mono B7.out.size)
        have HCV : Hid (∀ W', Below w8.heap.size w8 W' → (convert 32 9 xv).run Try.prog W' = .ok (.string (strB ((curOf dq.secs a (k : Int)).getD []))) W') := hcv
        clear hb8 hc8 hcv
        go_wp2_with fail
        refine (Read_any (L.length + 1) q (crashD dq ps) fq a (k : Int) w8 (C6.out.below B8.out) (by omega)).mono ?_
        rintro e w9 ⟨hb9, hc9⟩
        rw [show curOf (crashD dq ps).secs a (k : Int) = curOf dq.secs a (k : Int) from HSM.out.2 _] at hc9
        obtain ⟨yv, rfl, hcv2⟩ := read_tells (W := w9) (hc9.imp id fun ⟨v, b, h1, h2, h3, _, h5⟩ => ⟨v, b, h1, h2, h3, trivial, h5⟩)
        have B9 : Hid (Below w6.heap.size w6 w9) := B8.out.trans (hb9.mono B8.out.size)
        have hq1 := HCV.out w9 hb9
        have hq2 := hcv2 w9 (Below.refl _ _)
        generalize (curOf dq.secs a (k : Int)) = o at *
        obtain ⟨bo, hbo⟩ : ∃ b, o.isSome = b := ⟨_, rfl⟩
        rw [hbo]
        clear hb9 hc9 hcv2 hbo
        go_wp2_with fail
        go_roundw
        case rel => exact ⟨k + 1, by go_num, by omega, B9.out⟩
        case measure => simp [intOf]; omega
      · go_wp2_with fail
        go_ret
        exact ⟨rfl, B6.out.trans (B7.out.mono B6.out.size)⟩
  · have h0' : (stepE d != 0) = true := by simpa using h0
    have HDD : Hid ((syD d a).dead = true) := by
      show _ = _
      rw [syD, if_neg h0]
      exact dies_dead d h0
    clear h0
    go_wp2_with fail
    refine (Dead_any (L.length + 1) p (syD d a) fp3 w3 D3.out).mono ?_
    rintro e w4 ⟨rfl, rfl⟩
    rw [HDD.out]
    go_wp2_with fail
    go_ret
    exact ⟨rfl, B3.out⟩
end Go.Proofs.Ythdclljacdcolaa
