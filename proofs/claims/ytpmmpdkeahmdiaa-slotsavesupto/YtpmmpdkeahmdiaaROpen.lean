/- The reference of the slot: Open. -/
import Derived.Test.YtpmmpdkeahmdiaaRSlot
namespace Go.Proofs.Ytpmmpdkeahmdiaa
open Go.RowKit
set_option maxRecDepth 100000

attribute [local go_sem ↓] exec_alloc_D exec_box_D exec_load_D exec_store_D exec_alloc_T exec_box_T exec_load_T exec_store_T exec_build_T0
attribute [local go_sem] rdV_cells rdC_0 rdC_1 rdC_2 rdC_3 rdC_4 rdC_5 rtV_cells
def openR (d : DS) (a : Int) : RT := if d.dead then rt0 else ⟨a, (openS d.secs a).1, strB (openS d.secs a).2⟩
def openE (d : DS) : Int := if d.dead then 30 else 0
/-- Sectors are 64 bytes. -/
def Sec64 (d : DS) (a : Int) : Prop := ∀ (i : Nat) (bs : List Nat), curOf d.secs a (i : Int) = some bs → bs.length = 64 ∧ ∀ x ∈ bs, x < 256
set_option maxHeartbeats 1000000 in
theorem refOpen_any (P : Nat → Prop) (N : Nat) (d : DS) (v : Value) (a : Int) (w : World) (h : RefIs P w v d) (hd : DsOk N d) (hN : N < 1099511627776) (hlen : Sec64 d a) :
    Calls Try.prog 29 #[v, .int .u64 a] w fun e w' => e = .returned (.tuple #[rtV (openR d a), .int .i64 (openE d)]) ∧ Below w.heap.size w w' := by
  obtain ⟨ad, n, c, rfl⟩ := h.form
  have t1 := (DskAt.new w (rdOf d) (.slice ad n c)).old (.cells (rtC rt0) 63)
  have s1 := SltAt.new (w.alloc (.cells (rdC (rdOf d) (.slice ad n c)) 27)) rt0
  obtain ⟨w1, hw1⟩ : ∃ w1, (w.alloc (.cells (rdC (rdOf d) (.slice ad n c)) 27)).alloc (.cells (rtC rt0) 63) = w1 := ⟨_, rfl⟩
  have hz : (w.alloc (.cells (rdC (rdOf d) (.slice ad n c)) 27)).heap.size = w.heap.size + 1 := by simp
  have B1 : Hid (Below w.heap.size w w1) := hw1 ▸ ((Below.refl _ w).alloc (Nat.le_refl _) _).alloc (by omega) _
  rw [hz] at s1
  rw [hw1] at t1 s1
  obtain ⟨d0, d1, d2, d3, d4, d5, dz⟩ := t1.cells
  have hld := loadD_at t1
  have D1 : Hid (DskAt w1 w.heap.size (rdOf d) (.slice ad n c)) := t1
  have S1 : Hid (SltAt w1 (w.heap.size + 1) rt0) := s1
  have HR : Hid (RefIs P w1 (rdV (rdOf d) (.slice ad n c)) d) := h.below B1.out
  have HD : Hid (DsOk N d) := hd
  have HL : Hid (Sec64 d a) := hlen
  have hs1 : w1.heap.size = w.heap.size + 2 := by rw [← hw1]; simp
  have HW1 : Hid ((w.alloc (.cells (rdC (rdOf d) (.slice ad n c)) 27)).alloc (.cells (rtC rt0) 63) = w1) := hw1
  have hdead : (rdOf d).dead = d.dead := rfl
  clear t1 s1 h hd hlen d0 d1 d2 d3 d5 hz
  rw [← hw1] at d4 hld
  cases hdd : d.dead with
  | true =>
    have HDD : Hid (d.dead = true) := hdd
    rw [hdead, hdd] at d4
    have hst := storeT_at (r := rt0) S1.out
    rw [← hw1] at hst
    have S2 : Hid (SltAt (setT w1 (w.heap.size + 1) rt0) (w.heap.size + 1) rt0) := S1.out.set
    have HE : Hid (openR d a = rt0 ∧ openE d = 30) := by
      show _ ∧ _
      unfold openR openE
      rw [hdd]; exact ⟨rfl, rfl⟩
    have BE : Hid (Below w.heap.size w (setT w1 (w.heap.size + 1) rt0)) := setT_below B1.out (by omega) _
    clear hdd hdead hw1 hld
    go_enter Try.func29, Try.ntmps29
    go_wp2_with fail
    rw [HW1.out]
    exact retT rfl rfl rfl S2.out rfl ⟨by rw [HE.out.1, HE.out.2]; rfl, BE.out⟩
  | false =>
    have HDD : Hid (d.dead = false) := hdd
    rw [hdead, hdd] at d4
    clear hdd hdead hw1
    go_enter Try.func29, Try.ntmps29
    go_wp2_with fail
    rw [HW1.out]
    clear d4 hld HW1
    refine (refSaid_any P N d _ a 0 w1 HR.out HD.out hN (by omega) (HL.out 0)).mono ?_
    rintro e w2 ⟨rfl, hb2⟩
    have B2 : Hid (Below w.heap.size w w2) := B1.out.trans (hb2.mono (by omega))
    have hld2 := loadD_at (D1.out.below (by omega) hb2)
    have S2 : Hid (SltAt w2 (w.heap.size + 1) rt0) := S1.out.below (by omega) hb2
    have HR2 : Hid (RefIs P w2 (rdV (rdOf d) (.slice ad n c)) d) := HR.out.below hb2
    have hs2 := hb2.size
    clear hb2
    obtain ⟨A, hA⟩ : ∃ A, saidC 0 (curOf d.secs a (0 : Nat)) = A := ⟨_, rfl⟩
    have HA : Hid (saidC 0 (curOf d.secs a (0 : Nat)) = A) := hA
    simp only [hA]
    clear hA
    go_wp2_with fail
    refine (refSaid_any P N d _ a 1 w2 HR2.out HD.out hN (by omega) (HL.out 1)).mono ?_
    rintro e w3 ⟨rfl, hb3⟩
    have B3 : Hid (Below w.heap.size w w3) := B2.out.trans (hb3.mono (by omega))
    have S3 : Hid (SltAt w3 (w.heap.size + 1) rt0) := S2.out.below (by omega) hb3
    have hs3 := hb3.size
    clear hb3 hld2
    obtain ⟨B, hB⟩ : ∃ B, saidC 1 (curOf d.secs a (1 : Nat)) = B := ⟨_, rfl⟩
    have HB : Hid (saidC 1 (curOf d.secs a (1 : Nat)) = B) := hB
    simp only [hB]
    clear hB
    have HO : Hid (openS d.secs a = if B.1 < A.1 then A else B) := by
      show _ = _
      rw [openS_C, open_said, ← HA.out, ← HB.out, said_num, said_num]
      rfl
    have HE : Hid (openR d a = ⟨a, (if B.1 < A.1 then A else B).1, strB (if B.1 < A.1 then A else B).2⟩ ∧ openE d = 0) := by
      show _ ∧ _
      unfold openR openE
      rw [HDD.out, HO.out]; exact ⟨rfl, rfl⟩
    by_cases hlt : B.1 < A.1
    · have hlt' : (B.1 : Int) < (A.1 : Int) := by omega
      have hst := storeT_agg S3.out a A.1 (strB A.2)
      have S4 : Hid (SltAt (setT w3 (w.heap.size + 1) ⟨a, A.1, strB A.2⟩) (w.heap.size + 1) ⟨a, A.1, strB A.2⟩) := S3.out.set
      have BE : Hid (Below w.heap.size w (setT w3 (w.heap.size + 1) ⟨a, A.1, strB A.2⟩)) := setT_below B3.out (by omega) _
      rw [if_pos hlt] at HE
      clear hlt
      go_wp2_with fail
      exact retT rfl rfl rfl S4.out rfl ⟨by rw [HE.out.1, HE.out.2]; rfl, BE.out⟩
    · have hlt' : ¬ (B.1 : Int) < (A.1 : Int) := by omega
      have hst := storeT_agg S3.out a B.1 (strB B.2)
      have S4 : Hid (SltAt (setT w3 (w.heap.size + 1) ⟨a, B.1, strB B.2⟩) (w.heap.size + 1) ⟨a, B.1, strB B.2⟩) := S3.out.set
      have BE : Hid (Below w.heap.size w (setT w3 (w.heap.size + 1) ⟨a, B.1, strB B.2⟩)) := setT_below B3.out (by omega) _
      rw [if_neg hlt] at HE
      clear hlt
      go_wp2_with fail
      exact retT rfl rfl rfl S4.out rfl ⟨by rw [HE.out.1, HE.out.2]; rfl, BE.out⟩
end Go.Proofs.Ytpmmpdkeahmdiaa
