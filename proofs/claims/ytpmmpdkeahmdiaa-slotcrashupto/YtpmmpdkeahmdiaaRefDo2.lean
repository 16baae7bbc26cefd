/- The reference's Do. -/
import Derived.Test.YtpmmpdkeahmdiaaRefDo
namespace Go.Proofs.Ytpmmpdkeahmdiaa
open Go.RowKit
set_option maxRecDepth 100000

attribute [local go_sem ↓] exec_alloc_D exec_box_D exec_load_D exec_store_D
attribute [local go_sem] rdV_cells rdC_0 rdC_1 rdC_2 rdC_3 rdC_4 rdC_5
def do3 (w : World) (r : RD) (l : Value) (o : OpC) (b : Value) : World :=
  ((w.alloc (.cells (rdC r l) 27)).alloc (.cells #[.int .i64 o.kind, .int .u64 o.area, .int .i64 o.n, b] 38)).alloc (.cells (rdC rd0 (.slice none 0 0)) 27)
theorem do3_at (w : World) (r : RD) (l : Value) (o : OpC) (b : Value) : DskAt (do3 w r l o b) w.heap.size r l ∧ DskAt (do3 w r l o b) (w.heap.size + 1 + 1) rd0 (.slice none 0 0) ∧ Below w.heap.size w (do3 w r l o b) ∧ (do3 w r l o b).heap.size = w.heap.size + 3 := by
  refine ⟨((DskAt.new w r l).old _).old _, ?_, (((Below.refl _ w).alloc (Nat.le_refl _) _).alloc (by simp) _).alloc (by simp; omega) _, by simp [do3]⟩
  have := DskAt.new ((w.alloc (.cells (rdC r l) 27)).alloc (.cells #[.int .i64 o.kind, .int .u64 o.area, .int .i64 o.n, b] 38)) rd0 (.slice none 0 0)
  rwa [alloc_size, alloc_size] at this
theorem RefIs.form {P : Nat → Prop} {w : World} {v : Value} {d : DS} (h : RefIs P w v d) : ∃ ad n c, v = rdV (rdOf d) (.slice ad n c) := by
  obtain ⟨l, X, rfl, ⟨ad, cap, rfl, _⟩, _⟩ := h
  exact ⟨ad, _, cap, rfl⟩
/-- A result that is stored into a block of the call's own. -/
theorem RefIs.stored {P : Nat → Prop} {w w4 : World} {v : Value} {d : DS} {b B : Nat} {r : RD} {l : Value} (h : RefIs (fun k => (P k ∧ k < w.heap.size) ∨ B ≤ k) w4 v d) (hb : w.heap.size ≤ b) (hB : b < B) : RefIs (fun k => P k ∨ w.heap.size ≤ k) (setD w4 b r l) v d :=
  (h.same (by rw [setD_size]; exact Nat.le_refl _) fun k hk _ => setD_far _ _ _ _ _ (by rcases hk with ⟨_, hk⟩ | hk <;> omega)).mono fun k _ hk => hk.imp (·.1) (fun hk => by omega)
set_option maxHeartbeats 4000000 in
theorem refDo_any (P : Nat → Prop) (N M : Nat) (d : DS) (v : Value) (o : OpC) (b : Value) (w : World) (h : RefIs P w v d) (hd : DsOk N d) (hN : N < 1099511627776) (ho : o.fits) (hr : Row M w b o.xs) (hM : M ≤ w.heap.size) :
    Calls Try.prog 16 #[v, opV o b] w (RefSays P (doD d o) (doE d o) w) := by
  obtain ⟨ad, n, c, rfl⟩ := h.form
  obtain ⟨t1, t2, t3, t4⟩ := do3_at w (rdOf d) (.slice ad n c) o b
  have hld := loadD_at t1
  obtain ⟨w3, hw3⟩ : ∃ w3, do3 w (rdOf d) (.slice ad n c) o b = w3 := ⟨_, rfl⟩
  unfold do3 at hld
  rw [hw3] at t1 t2 t3 t4
  have HW3 : Hid (((w.alloc (.cells (rdC (rdOf d) (.slice ad n c)) 27)).alloc (.cells #[.int .i64 o.kind, .int .u64 o.area, .int .i64 o.n, b] 38)).alloc (.cells (rdC rd0 (.slice none 0 0)) 27) = w3) := hw3
  have T2 : Hid (DskAt w3 (w.heap.size + 1 + 1) rd0 (.slice none 0 0)) := t2
  have T3 : Hid (Below w.heap.size w w3) := t3
  have HD : Hid (DsOk N d) := hd
  have H3 : Hid (RefIs (fun k => P k ∧ k < w.heap.size) w3 (rdV (rdOf d) (.slice ad n c)) d) := (h.mono fun k hk hP => ⟨hP, hk⟩).below t3
  have HR : Hid (Row M w3 b o.xs) := hr.below (t3.mono hM)
  have HL : Hid (o.xs.length ≤ 9223372036854775807) := ho.len
  have hM3 : M ≤ w3.heap.size := by omega
  unfold opV
  clear hw3 t1 t2 t3 h hd hr ho
  obtain ⟨dq, hdq⟩ : ∃ dq, doD d o = dq := ⟨_, rfl⟩
  obtain ⟨cq, hcq⟩ : ∃ cq, doE d o = cq := ⟨_, rfl⟩
  rw [hdq, hcq]
  by_cases k0 : o.kind = 0
  · have eD : wrD d o.area o.n o.xs = dq := by rw [← hdq, doD, if_pos k0]
    have eE : wrE d o.area o.n o.xs = cq := by rw [← hcq, doE, if_pos k0]
    have e0 : (o.kind == 0) = true := by simpa using k0
    have HC : Hid (Calls Try.prog 47 #[rdV (rdOf d) (.slice ad n c), .int .u64 o.area, .int .i64 o.n, b] w3 (RefSays (fun k => P k ∧ k < w.heap.size) dq cq w3)) := by
      rw [← eD, ← eE]
      exact refWrite_any _ N M d _ o.area o.n b o.xs w3 H3.out HD.out hN HR.out hM3 HL.out
    clear hdq hcq eD eE k0
    go_enter Try.func16, Try.ntmps16
    go_wp2_with fail
    rw [HW3.out]
    clear hld
    refine HC.out.mono ?_
    rintro e w4 ⟨v4, rfl, hR4, hb4⟩
    obtain ⟨ad4, n4, c4, rfl⟩ := hR4.form
    have T4 : Hid (DskAt w4 (w.heap.size + 1 + 1) rd0 (.slice none 0 0)) := T2.out.below (by omega) hb4
    have B4 : Hid (Below w.heap.size w w4) := T3.out.trans (hb4.mono (by omega))
    rw [t4] at hR4
    have hst4 := storeD_at (r := rdOf dq) (ad := ad4) (n := n4) (c := c4) T4.out
    have HE : Hid (RefSays P dq cq w (.returned (.tuple #[rdV (rdOf dq) (.slice ad4 n4 c4), .int .i64 cq])) (setD w4 (w.heap.size + 1 + 1) (rdOf dq) (.slice ad4 n4 c4))) :=
      ⟨_, rfl, hR4.stored (by omega) (by omega), setD_below B4.out (by omega) _ _⟩
    have HR : Hid (DskAt (setD w4 (w.heap.size + 1 + 1) (rdOf dq) (.slice ad4 n4 c4)) (w.heap.size + 1 + 1) (rdOf dq) (.slice ad4 n4 c4)) := T4.out.set
    obtain ⟨w5, hw5⟩ : ∃ w5, setD w4 (w.heap.size + 1 + 1) (rdOf dq) (.slice ad4 n4 c4) = w5 := ⟨_, rfl⟩
    rw [hw5] at hst4 HE HR
    clear hw5 hR4 hb4
    go_wp2_with fail
    exact retD2 rfl rfl rfl HR.out rfl HE.out
  have e0 : (o.kind == 0) = false := by simpa using k0
  by_cases k1 : o.kind = 1
  · have eD : syD d o.area = dq := by rw [← hdq, doD, if_neg k0, if_pos k1]
    have eE : stepE d = cq := by rw [← hcq, doE, if_neg k0, if_pos k1]
    have e1 : (o.kind == 1) = true := by simpa using k1
    have HC : Hid (Calls Try.prog 48 #[rdV (rdOf d) (.slice ad n c), .int .u64 o.area] w3 (RefSays (fun k => P k ∧ k < w.heap.size) dq cq w3)) := by
      rw [← eD, ← eE]
      exact refSync_any _ N d _ o.area w3 H3.out HD.out hN
    clear hdq hcq eD eE k0 k1
    go_enter Try.func16, Try.ntmps16
    go_wp2_with fail
    rw [HW3.out]
    clear hld
    refine HC.out.mono ?_
    rintro e w4 ⟨v4, rfl, hR4, hb4⟩
    obtain ⟨ad4, n4, c4, rfl⟩ := hR4.form
    have T4 : Hid (DskAt w4 (w.heap.size + 1 + 1) rd0 (.slice none 0 0)) := T2.out.below (by omega) hb4
    have B4 : Hid (Below w.heap.size w w4) := T3.out.trans (hb4.mono (by omega))
    rw [t4] at hR4
    have hst4 := storeD_at (r := rdOf dq) (ad := ad4) (n := n4) (c := c4) T4.out
    have HE : Hid (RefSays P dq cq w (.returned (.tuple #[rdV (rdOf dq) (.slice ad4 n4 c4), .int .i64 cq])) (setD w4 (w.heap.size + 1 + 1) (rdOf dq) (.slice ad4 n4 c4))) :=
      ⟨_, rfl, hR4.stored (by omega) (by omega), setD_below B4.out (by omega) _ _⟩
    have HR : Hid (DskAt (setD w4 (w.heap.size + 1 + 1) (rdOf dq) (.slice ad4 n4 c4)) (w.heap.size + 1 + 1) (rdOf dq) (.slice ad4 n4 c4)) := T4.out.set
    obtain ⟨w5, hw5⟩ : ∃ w5, setD w4 (w.heap.size + 1 + 1) (rdOf dq) (.slice ad4 n4 c4) = w5 := ⟨_, rfl⟩
    rw [hw5] at hst4 HE HR
    clear hw5 hR4 hb4
    go_wp2_with fail
    exact retD2 rfl rfl rfl HR.out rfl HE.out
  have e1 : (o.kind == 1) = false := by simpa using k1
  by_cases k2 : o.kind = 2
  · have eD : frD d o.area = dq := by rw [← hdq, doD, if_neg k0, if_neg k1, if_pos k2]
    have eE : stepE d = cq := by rw [← hcq, doE, if_neg k0, if_neg k1, if_pos k2]
    have e2 : (o.kind == 2) = true := by simpa using k2
    have HC : Hid (Calls Try.prog 49 #[rdV (rdOf d) (.slice ad n c), .int .u64 o.area] w3 (RefSays (fun k => P k ∧ k < w.heap.size) dq cq w3)) := by
      rw [← eD, ← eE]
      exact refFree_any _ N d _ o.area w3 H3.out HD.out hN
    clear hdq hcq eD eE k0 k1 k2
    go_enter Try.func16, Try.ntmps16
    go_wp2_with fail
    rw [HW3.out]
    clear hld
    refine HC.out.mono ?_
    rintro e w4 ⟨v4, rfl, hR4, hb4⟩
    obtain ⟨ad4, n4, c4, rfl⟩ := hR4.form
    have T4 : Hid (DskAt w4 (w.heap.size + 1 + 1) rd0 (.slice none 0 0)) := T2.out.below (by omega) hb4
    have B4 : Hid (Below w.heap.size w w4) := T3.out.trans (hb4.mono (by omega))
    rw [t4] at hR4
    have hst4 := storeD_at (r := rdOf dq) (ad := ad4) (n := n4) (c := c4) T4.out
    have HE : Hid (RefSays P dq cq w (.returned (.tuple #[rdV (rdOf dq) (.slice ad4 n4 c4), .int .i64 cq])) (setD w4 (w.heap.size + 1 + 1) (rdOf dq) (.slice ad4 n4 c4))) :=
      ⟨_, rfl, hR4.stored (by omega) (by omega), setD_below B4.out (by omega) _ _⟩
    have HR : Hid (DskAt (setD w4 (w.heap.size + 1 + 1) (rdOf dq) (.slice ad4 n4 c4)) (w.heap.size + 1 + 1) (rdOf dq) (.slice ad4 n4 c4)) := T4.out.set
    obtain ⟨w5, hw5⟩ : ∃ w5, setD w4 (w.heap.size + 1 + 1) (rdOf dq) (.slice ad4 n4 c4) = w5 := ⟨_, rfl⟩
    rw [hw5] at hst4 HE HR
    clear hw5 hR4 hb4
    go_wp2_with fail
    exact retD2 rfl rfl rfl HR.out rfl HE.out
  have e2 : (o.kind == 2) = false := by simpa using k2
  have eE : cq = 0 := by rw [← hcq, doE, if_neg k0, if_neg k1, if_neg k2]
  by_cases k3 : o.kind = 3
  · have eD : armD d o.n = dq := by rw [← hdq, doD, if_neg k0, if_neg k1, if_neg k2, if_pos k3]
    have e3 : (o.kind == 3) = true := by simpa using k3
    have HA : Hid (rdArm (rdOf d) o.n = rdOf dq ∧ dq.secs = d.secs) := ⟨by rw [← eD, rdOf_arm], by rw [← eD]; unfold armD; split <;> rfl⟩
    clear hdq hcq eD k0 k1 k2 k3
    subst eE
    go_enter Try.func16, Try.ntmps16
    go_wp2_with fail
    rw [HW3.out]
    clear hld
    refine (refArm_any (rdOf d) ad n c o.n w3).mono ?_
    rintro e w4 ⟨rfl, hb4⟩
    rw [HA.out.1]
    have hR4 : RefIs (fun k => (P k ∧ k < w.heap.size) ∨ w3.heap.size ≤ k) w4 (rdV (rdOf dq) (.slice ad n c)) dq := by
      obtain ⟨l, X, e, hS, hX⟩ := H3.out
      have el : l = .slice ad n c := by
        have := congrArg (fun v => match v with | .agg a => a[5]? | _ => none) e
        simpa [rdV] using this.symm
      subst el
      exact ⟨_, X, rfl, (hS.below hb4).mono fun k _ h => .inl h, by rw [HA.out.2]; exact hX⟩
    have T4 : Hid (DskAt w4 (w.heap.size + 1 + 1) rd0 (.slice none 0 0)) := T2.out.below (by omega) hb4
    have B4 : Hid (Below w.heap.size w w4) := T3.out.trans (hb4.mono (by omega))
    rw [t4] at hR4
    have hst4 := storeD_at (r := rdOf dq) (ad := ad) (n := n) (c := c) T4.out
    have HE : Hid (RefSays P dq 0 w (.returned (.tuple #[rdV (rdOf dq) (.slice ad n c), .int .i64 0])) (setD w4 (w.heap.size + 1 + 1) (rdOf dq) (.slice ad n c))) :=
      ⟨_, rfl, hR4.stored (by omega) (by omega), setD_below B4.out (by omega) _ _⟩
    have HR : Hid (DskAt (setD w4 (w.heap.size + 1 + 1) (rdOf dq) (.slice ad n c)) (w.heap.size + 1 + 1) (rdOf dq) (.slice ad n c)) := T4.out.set
    obtain ⟨w5, hw5⟩ : ∃ w5, setD w4 (w.heap.size + 1 + 1) (rdOf dq) (.slice ad n c) = w5 := ⟨_, rfl⟩
    rw [hw5] at hst4 HE HR
    clear hw5 hR4 hb4
    go_wp2_with fail
    exact retD2 rfl rfl rfl HR.out rfl HE.out
  · have eD : dq = d := by rw [← hdq, doD, if_neg k0, if_neg k1, if_neg k2, if_neg k3]
    have e3 : (o.kind == 3) = false := by simpa using k3
    clear hdq hcq k0 k1 k2 k3
    subst eE eD
    have hst4 := storeD_at (r := rdOf dq) (ad := ad) (n := n) (c := c) T2.out
    have hR4 : RefIs (fun k => (P k ∧ k < w.heap.size) ∨ w3.heap.size ≤ k) w3 (rdV (rdOf dq) (.slice ad n c)) dq := H3.out.mono fun k _ h => .inl h
    rw [t4] at hR4
    have HE : Hid (RefSays P dq 0 w (.returned (.tuple #[rdV (rdOf dq) (.slice ad n c), .int .i64 0])) (setD w3 (w.heap.size + 1 + 1) (rdOf dq) (.slice ad n c))) :=
      ⟨_, rfl, hR4.stored (by omega) (by omega), setD_below T3.out (by omega) _ _⟩
    have HR : Hid (DskAt (setD w3 (w.heap.size + 1 + 1) (rdOf dq) (.slice ad n c)) (w.heap.size + 1 + 1) (rdOf dq) (.slice ad n c)) := T2.out.set
    obtain ⟨w5, hw5⟩ : ∃ w5, setD w3 (w.heap.size + 1 + 1) (rdOf dq) (.slice ad n c) = w5 := ⟨_, rfl⟩
    rw [hw5] at hst4 HE HR
    rw [← HW3.out] at hst4
    clear hw5 hR4 HW3
    go_enter Try.func16, Try.ntmps16
    go_wp2_with fail
    exact retD2 rfl rfl rfl HR.out rfl HE.out
end Go.Proofs.Ytpmmpdkeahmdiaa
