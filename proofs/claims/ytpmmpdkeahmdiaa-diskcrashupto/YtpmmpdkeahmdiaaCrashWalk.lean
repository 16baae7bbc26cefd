/- DiskCrash. -/
import Derived.Test.YtpmmpdkeahmdiaaRefCrash2
import Derived.Test.YtpmmpdkeahmdiaaStands
namespace Go.Proofs.Ytpmmpdkeahmdiaa
open Go.RowKit
set_option maxRecDepth 100000

attribute [local go_sem ↓] exec_alloc_D exec_box_D exec_load_D exec_store_D
attribute [local go_sem] rdV_cells rdC_0 rdC_1 rdC_2 rdC_3 rdC_4 rdC_5
set_option maxHeartbeats 1000000 in
theorem crash_walk (room : Int) (v0 v2 : Value) (w : World) (h1 : -9223372036854775808 ≤ room) (h2 : room ≤ 9223372036854775807) (L : List OpC) (hS : Script w v0 L) (ps : List Int) (hP : IntsAt w v2 ps) (hL : L.length ≤ 1048576) :
    Calls Try.prog 3 #[.int .i64 room, v0, v2] w fun e w' => e = .returned (.bool true) ∧ Below w.heap.size w w' := by
  have HP : Hid (IntsAt w v2 ps) := hP
  have HSC : Hid (Script w v0 L) := hS
  clear hP hS
  go_enter Try.func3, Try.ntmps3
  go_wp2_with fail
  refine (begun_any room v0 w L HSC.out h1 h2 hL).mono ?_
  rintro e w1 ⟨p, fp, rv, rfl, hd1, hr1, hb1, hf1⟩
  obtain ⟨ad, n, c, rfl⟩ := hr1.form
  obtain ⟨d, hd⟩ : ∃ d, behind room L = d := ⟨_, rfl⟩
  have HSO : Hid (SecsOk d.secs) := hd ▸ behind_ok room L
  rw [hd] at hd1 hr1
  rw [hd]
  have hst := storeD_at (r := rdOf d) (ad := ad) (n := n) (c := c) (DskAt.new w1 rd0 (.slice none 0 0))
  obtain ⟨w2, hw2⟩ : ∃ w2, setD (w1.alloc (.cells (rdC rd0 (.slice none 0 0)) 27)) w1.heap.size (rdOf d) (.slice ad n c) = w2 := ⟨_, rfl⟩
  rw [hw2] at hst
  have hst2 : ∀ b, b < w1.heap.size → w2.heap[b]? = w1.heap[b]? := fun b hb => by rw [← hw2, setD_far _ _ _ _ _ (by omega), alloc_old _ _ hb]
  have hz2 : w1.heap.size ≤ w2.heap.size := by rw [← hw2, setD_size]; simp
  have D2 : Hid (DiskAt L.length w2 p d fp) := hd1.same fun b hb => hst2 b (hd1.lt b hb)
  have R2 : Hid (RefIs (fun b => b ∉ fp) w2 (rdV (rdOf d) (.slice ad n c)) d) := hr1.same hz2 fun b _ hb => hst2 b hb
  have S2 : Hid (DskAt w2 w1.heap.size (rdOf d) (.slice ad n c)) := hw2 ▸ (DskAt.new w1 rd0 (.slice none 0 0)).set
  have B2 : Hid (Below w.heap.size w w2) := by
    rw [← hw2]
    exact setD_below (hb1.alloc hb1.size _) hb1.size _ _
  clear hd1 hr1 hb1 hf1 hd hw2 hst2 hz2
  go_wp2_with fail
  refine (Crash_any L.length p d fp v2 ps w2 D2.out (HP.out.below B2.out) (by omega)).mono ?_
  rintro e w3 ⟨q, fq, rfl, hc3, hb3, hf3⟩
  have C3 : Hid (DiskAt L.length w3 q (crashD d ps) fq) := hc3
  have D3 : Hid (DiskAt L.length w3 p d fp) := D2.out.below hb3
  have R3 : Hid (RefIs (fun b => b ∉ fp) w3 (rdV (rdOf d) (.slice ad n c)) d) := R2.out.below hb3
  have S3 : Hid (DskAt w3 w1.heap.size (rdOf d) (.slice ad n c)) := S2.out.below S2.out.lt hb3
  have B3 : Hid (Below w.heap.size w w3) := B2.out.trans (hb3.mono B2.out.size)
  have HSC3 : Hid (SecsOk (crashD d ps).secs) := crash_ok HSO.out
  clear hc3 hb3 hf3 hst D2 R2 S2 B2
  have hld3 := loadD_at S3.out
  have HOK : Hid (DsOk L.length d) := D3.out.ok
  obtain ⟨adp, cpp, rfl, _⟩ := id HP.out
  go_wp2_with fail
  refine (refCrash_any _ L.length _ _ d ps w3 R3.out HOK.out (HP.out.below B3.out)).mono ?_
  rintro e w6 ⟨rv6, rfl, hr6, hb6⟩
  obtain ⟨ad6, n6, c6, rfl⟩ := hr6.form
  have R6 : Hid (RefIs _ w6 (rdV (rdOf (crashD d ps)) (.slice ad6 n6 c6)) (crashD d ps)) := hr6
  have C6 : Hid (DiskAt L.length w6 q (crashD d ps) fq) := C3.out.below hb6
  have D6 : Hid (DiskAt L.length w6 p d fp) := D3.out.below hb6
  have RR6 : Hid (RefIs (fun b => b ∉ fp) w6 (rdV (rdOf d) (.slice ad n c)) d) := R3.out.below hb6
  have S6 : Hid (DskAt w6 w1.heap.size (rdOf d) (.slice ad n c)) := S3.out.below S3.out.lt hb6
  have B6 : Hid (Below w.heap.size w w6) := B3.out.trans (hb6.mono B3.out.size)
  clear hr6 hb6 hld3 C3 D3 R3 S3 B3
  go_wp2_with fail
  refine (stands_any _ L.length q (crashD d ps) fq _ w6 C6.out R6.out HSC3.out (by omega)).mono ?_
  rintro e w7 ⟨rfl, hb7⟩
  have D7 : Hid (DiskAt L.length w7 p d fp) := D6.out.below hb7
  have R7 : Hid (RefIs (fun b => b ∉ fp) w7 (rdV (rdOf d) (.slice ad n c)) d) := RR6.out.below hb7
  have hld7 := loadD_at (S6.out.below S6.out.lt hb7)
  have B7 : Hid (Below w.heap.size w w7) := B6.out.trans (hb7.mono B6.out.size)
  clear hb7 C6 D6 R6 RR6 S6 B6
  go_wp2_with fail
  refine (stands_any _ L.length p d fp _ w7 D7.out R7.out HSO.out (by omega)).mono ?_
  rintro e w8 ⟨rfl, hb8⟩
  have B8 : Hid (Below w.heap.size w w8) := B7.out.trans (hb8.mono B7.out.size)
  clear hb8
  go_wp2_with fail
  go_ret
  exact ⟨rfl, B8.out⟩
end Go.Proofs.Ytpmmpdkeahmdiaa
