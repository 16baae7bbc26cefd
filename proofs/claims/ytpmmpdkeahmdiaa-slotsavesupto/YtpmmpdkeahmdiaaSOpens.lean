/- SlotOpens. -/
import Derived.Test.YtpmmpdkeahmdiaaSSame
import Derived.Test.YtpmmpdkeahmdiaaSLaid
import Derived.Test.YtpmmpdkeahmdiaaSlotA
namespace Go.Proofs.Ytpmmpdkeahmdiaa
open Go.RowKit
set_option maxRecDepth 100000

attribute [local go_sem ↓] exec_alloc_D exec_box_D exec_load_D exec_store_D exec_alloc_T exec_box_T exec_load_T exec_store_T exec_build_T0
attribute [local go_sem] rdV_cells rdC_0 rdC_1 rdC_2 rdC_3 rdC_4 rdC_5 rtV_cells
theorem pad_byte {xs : List Nat} (h : ∀ x ∈ xs, x < 256) : ∀ x ∈ pad xs, x < 256 := fun x hx => by
  unfold pad at hx
  rcases List.mem_append.1 hx with hx | hx
  · exact h x hx
  · rw [(List.mem_replicate.1 hx).2]; omega
theorem doD_bytes {d : DS} {o : OpC} (ho : o.fits) (h : ByteS d.secs) : ByteS (doD d o).secs := by
  unfold doD
  split
  · unfold wrD
    split
    · exact h
    · split
      · exact h
      · split
        · exact h
        · exact bytes_wr h (pad_byte ho.bytes)
  · split
    · unfold syD
      split
      · exact bytes_sy h _
      · rw [(stepD_secs _).1]; exact h
    · split
      · unfold frD
        split
        · intro s hs
          exact h s (List.mem_filter.1 hs).1
        · rw [(stepD_secs _).1]; exact h
      · split
        · unfold armD
          split
          · exact h
          · exact h
        · exact h
theorem behind_bytes (room : Int) {L : List OpC} (hL : ∀ o ∈ L, o.fits) : ByteS (behind room L).secs := by
  unfold behind
  suffices h : ∀ (L : List OpC) (d : DS), (∀ o ∈ L, o.fits) → ByteS d.secs → ByteS (L.foldl doD d).secs from h L _ hL (new_bytes room)
  intro L
  induction L with
  | nil => intro d _ h; exact h
  | cons o r ih => intro d hf h; exact ih _ (fun o ho => hf o (.tail _ ho)) (doD_bytes (hf o (.head _)) h)
theorem script_fits {w : World} {v : Value} {L : List OpC} (h : Script w v L) : ∀ o ∈ L, o.fits := by
  obtain ⟨_, _, _, _, _, hc⟩ := h
  intro o ho
  obtain ⟨i, hi⟩ := List.getElem?_of_mem ho
  obtain ⟨_, _, _, _, hel⟩ := hc (by have := (List.getElem?_eq_some_iff.1 hi).1; omega)
  exact (hel i o hi).1
theorem sec64_of {N : Nat} {w : World} {p : Nat} {d : DS} {fp : List Nat} (h : DiskAt N w p d fp) (hB : ByteS d.secs) (a : Int) : Sec64 d a := by
  intro i bs hc
  have h64 := h.cur_len a (i : Int)
  rw [hc] at h64
  exact ⟨h64, hB.cur hc⟩
theorem said_48 (i : Nat) (o : Option (List Nat)) : (saidC i o).2.length ≤ 48 := by
  cases o with
  | none => simp [saidC]
  | some bs =>
    rw [saidC_some]
    split
    · rename_i h
      show (secV bs).length ≤ 48
      unfold secV
      rw [List.length_take]
      omega
    · simp
theorem open_48 (S : List Sec) (a : Int) : (openS S a).2.length ≤ 48 := by
  rw [openS_C, open_said]
  split
  · exact said_48 _ _
  · exact said_48 _ _
set_option maxHeartbeats 1000000 in
theorem sopens_walk (v : Value) (n1 : Nat) (w : World) (L : List OpC) (hS : Script w v L) (_h1 : n1 < 18446744073709551616) (hL : L.length ≤ 1048576) :
    Calls Try.prog 9 #[v, .int .u64 (n1 : Int)] w fun e w' => e = .returned (.bool true) ∧ Below w.heap.size w w' := by
  have HS : Hid (Script w v L) := hS
  clear hS
  go_enter Try.func9, Try.ntmps9
  go_wp2_with fail
  refine (laid_any 1073741824 v w L HS.out (by omega) (by omega) hL).mono ?_
  rintro e w1 ⟨p, fp, rv, rfl, hd1, hR1, hb1, hf1⟩
  obtain ⟨ad, n, c, rfl⟩ := hR1.form
  have HBY : Hid (ByteS (behind 1073741824 L).secs) := behind_bytes _ (script_fits HS.out)
  obtain ⟨d, hdd⟩ : ∃ d, behind 1073741824 L = d := ⟨_, rfl⟩
  rw [hdd] at hd1 hR1 HBY
  rw [hdd]
  clear hdd
  have hst := storeD_at (r := rdOf d) (ad := ad) (n := n) (c := c) (DskAt.new w1 rd0 (.slice none 0 0))
  obtain ⟨w2, hw2⟩ : ∃ w2, setD (w1.alloc (.cells (rdC rd0 (.slice none 0 0)) 27)) w1.heap.size (rdOf d) (.slice ad n c) = w2 := ⟨_, rfl⟩
  rw [hw2] at hst
  have hb2 : Below w1.heap.size w1 w2 := hw2 ▸ setD_below ((Below.refl _ w1).alloc (Nat.le_refl _) _) (Nat.le_refl _) _ _
  have hD2 : DskAt w2 w1.heap.size (rdOf d) (.slice ad n c) := hw2 ▸ (DskAt.new w1 rd0 (.slice none 0 0)).set
  have HD2 : Hid (DskAt w2 w1.heap.size (rdOf d) (.slice ad n c)) := hD2
  have HR2 : Hid (RefIs (fun b => b ∉ fp) w2 (rdV (rdOf d) (.slice ad n c)) d) := hR1.below hb2
  have HK2 : Hid (DiskAt L.length w2 p d fp) := hd1.below hb2
  have HB2 : Hid (Below w.heap.size w w2) := hb1.trans (hb2.mono hb1.size)
  have hs2 := hD2.lt
  clear hw2 hb2 hD2 hR1 hd1 hb1 hf1
  go_wp2_with fail
  refine (alive4_any w2).mono ?_
  rintro e w3 ⟨rfl, hb3⟩
  have HD3 : Hid (DskAt w3 w1.heap.size (rdOf d) (.slice ad n c)) := HD2.out.below hs2 hb3
  have HR3 : Hid (RefIs (fun b => b ∉ fp) w3 (rdV (rdOf d) (.slice ad n c)) d) := HR2.out.below hb3
  have HK3 : Hid (DiskAt L.length w3 p d fp) := HK2.out.below hb3
  have HB3 : Hid (Below w.heap.size w w3) := HB2.out.trans (hb3.mono HB2.out.size)
  have hs3 : w1.heap.size < w3.heap.size := HD3.out.lt
  clear hb3 HD2 HR2 HK2 hst
  go_wp2_with fail
  refine (Open_any L.length p d fp (n1 : Int) w3 HK3.out (by omega) HBY.out).mono ?_
  rintro e w4 (⟨hdead, rfl, rfl⟩ | ⟨hdead, s, g, rfl, hsl, hs, hg, hb4⟩)
  · have hld := loadD_at HD3.out
    have HDE : Hid (openE d = 30) := by show _ = _; unfold openE; rw [hdead]; rfl
    go_wp2_with fail
    refine (refOpen_any _ L.length d _ (n1 : Int) w4 HR3.out HK3.out.ok (by omega) (sec64_of HK3.out HBY.out _)).mono ?_
    rintro e w5 ⟨rfl, hb5⟩
    rw [HDE.out]
    have HB5 : Hid (Below w.heap.size w w5) := HB3.out.trans (hb5.mono HB3.out.size)
    obtain ⟨r, hr⟩ : ∃ r, openR d (n1 : Int) = r := ⟨_, rfl⟩
    rw [hr]
    have hst := storeT_at (r := r) (SltAt.new w5 rt0)
    have HB6 : Hid (Below w.heap.size w (setT (w5.alloc (.cells (rtC rt0) 63)) w5.heap.size r)) := setT_below (HB5.out.alloc HB5.out.size _) HB5.out.size _
    clear hld hb5 hr
    go_wp2_with fail
    go_ret
    exact ⟨rfl, HB6.out⟩
  · have HD4 : Hid (DskAt w4 w1.heap.size (rdOf d) (.slice ad n c)) := HD3.out.below hs3 hb4
    have HR4 : Hid (RefIs (fun b => b ∉ fp) w4 (rdV (rdOf d) (.slice ad n c)) d) := HR3.out.below hb4
    have HK4 : Hid (DiskAt L.length w4 p d fp) := HK3.out.below hb4
    have HB4 : Hid (Below w.heap.size w w4) := HB3.out.trans (hb4.mono HB3.out.size)
    have HSL4 : Hid (SlotAt w4 s p (n1 : Int) (openS d.secs (n1 : Int)).1 (openS d.secs (n1 : Int)).2 g) := hsl
    have hld := loadD_at HD4.out
    have HDE : Hid (openE d = 0 ∧ openR d (n1 : Int) = ⟨(n1 : Int), (openS d.secs (n1 : Int)).1, strB (openS d.secs (n1 : Int)).2⟩) := by show _ ∧ _; unfold openE openR; rw [hdead]; exact ⟨rfl, rfl⟩
    have H48 : Hid ((openS d.secs (n1 : Int)).2.length ≤ 48) := open_48 _ _
    clear hsl hs hg hb4 HD3 HR3 HK3
    go_wp2_with fail
    refine (refOpen_any _ L.length d _ (n1 : Int) w4 HR4.out HK4.out.ok (by omega) (sec64_of HK4.out HBY.out _)).mono ?_
    rintro e w5 ⟨rfl, hb5⟩
    rw [HDE.out.1]
    have HB5 : Hid (Below w.heap.size w w5) := HB4.out.trans (hb5.mono HB4.out.size)
    obtain ⟨r, hr⟩ : ∃ r, openR d (n1 : Int) = r := ⟨_, rfl⟩
    have HRR : Hid (r = ⟨(n1 : Int), (openS d.secs (n1 : Int)).1, strB (openS d.secs (n1 : Int)).2⟩) := by rw [← hr]; exact HDE.out.2
    rw [hr]
    have hst := storeT_at (r := r) (SltAt.new w5 rt0)
    have hld6 := loadT_at (SltAt.set (r' := r) (SltAt.new w5 rt0))
    have HB6 : Hid (Below w.heap.size w (setT (w5.alloc (.cells (rtC rt0) 63)) w5.heap.size r)) := setT_below (HB5.out.alloc HB5.out.size _) HB5.out.size _
    have HSL6 : Hid (SlotAt (setT (w5.alloc (.cells (rtC rt0) 63)) w5.heap.size r) s p (n1 : Int) (openS d.secs (n1 : Int)).1 (openS d.secs (n1 : Int)).2 g) := (HSL4.out.below hb5).below (setT_below ((Below.refl _ w5).alloc (Nat.le_refl _) _) (Nat.le_refl _) _)
    clear hld hb5 hr
    go_wp2_with fail
    rw [HRR.out]
    refine (same_any _ s p (n1 : Int) (n1 : Int) _ _ g (HRR.out ▸ HSL6.out) (by have := H48.out; omega)).mono ?_
    rintro e w7 ⟨rfl, hb7⟩
    have HB7 : Hid (Below w.heap.size w w7) := (HRR.out ▸ HB6.out).trans (hb7.mono (HRR.out ▸ HB6.out).size)
    clear hb7 hst hld6
    go_wp2_with fail
    go_ret
    exact ⟨rfl, HB7.out⟩
end Go.Proofs.Ytpmmpdkeahmdiaa
