/- The slot's sectors: lay. -/
import Derived.Test.YtpmmpdkeahmdiaaSecN
import Derived.Test.YtpmmpdkeahmdiaaSum
import Derived.Test.YtpmmpdkeahmdiaaDrawn
namespace Go.Proofs.Ytpmmpdkeahmdiaa
open Go.RowKit
set_option maxRecDepth 100000

/-- A sector ahead of its sum. -/
def front60 (n : Nat) (xs : List Nat) : List Nat := errB n 8 ++ (xs.length :: (xs ++ zeros (51 - xs.length)))
/-- A sector. -/
def laySec (n : Nat) (xs : List Nat) : List Nat := front60 n xs ++ errB (sumOf (front60 n xs)) 4
theorem front_len {n : Nat} {xs : List Nat} (h : xs.length ≤ 48) : (front60 n xs).length = 60 := by simp [front60, errB_len, zeros]; omega
theorem lay_len {n : Nat} {xs : List Nat} (h : xs.length ≤ 48) : (laySec n xs).length = 64 := by rw [laySec, List.length_append, front_len h, errB_len]
theorem errB_byte (m : Nat) : ∀ n, ∀ x ∈ errB n m, x < 256 := by
  induction m with
  | zero => intro n x hx; cases hx
  | succ m ih =>
    intro n x hx
    rcases List.mem_cons.1 hx with rfl | hx
    · exact Nat.mod_lt _ (by decide)
    · exact ih _ x hx
theorem zeros_byte (m : Nat) : ∀ x ∈ zeros m, x < 256 := fun x hx => by rw [(List.mem_replicate.1 hx).2]; decide
theorem front_byte {n : Nat} {xs : List Nat} (h : xs.length ≤ 48) (hx : ∀ x ∈ xs, x < 256) : ∀ x ∈ front60 n xs, x < 256 := by
  intro x hm
  rcases List.mem_append.1 hm with hm | hm
  · exact errB_byte 8 n x hm
  · rcases List.mem_cons.1 hm with rfl | hm
    · omega
    · rcases List.mem_append.1 hm with hm | hm
      · exact hx x hm
      · exact zeros_byte _ x hm
theorem lay_byte {n : Nat} {xs : List Nat} (h : xs.length ≤ 48) (hx : ∀ x ∈ xs, x < 256) : ∀ x ∈ laySec n xs, x < 256 := by
  intro x hm
  rcases List.mem_append.1 hm with hm | hm
  · exact front_byte h hx x hm
  · exact errB_byte 4 _ x hm
theorem lay1 {E : List Nat} (h : E.length = 8) : over (zeros 64) 0 E = E ++ zeros 56 := by
  simp [over, zeros, h]
theorem lay2 {E : List Nat} (h : E.length = 8) (m : Nat) : (E ++ zeros 56).set 8 m = E ++ (m :: zeros 55) := by
  rw [List.set_append_right _ _ (by omega), h, Nat.sub_self]
  rfl
theorem lay3 {E xs : List Nat} (h : E.length = 8) (m : Nat) (hx : xs.length ≤ 48) : over (E ++ (m :: zeros 55)) 9 xs = E ++ (m :: (xs ++ zeros (51 - xs.length))) ++ zeros 4 := by
  have e1 : E ++ (m :: zeros 55) = (E ++ [m]) ++ zeros 55 := by simp
  have h9 : (E ++ [m]).length = 9 := by simp [h]
  unfold over
  rw [e1, List.take_left' h9, show 9 + xs.length = (E ++ [m]).length + xs.length by rw [h9], List.drop_append]
  have e2 : (zeros 55).drop xs.length = zeros (51 - xs.length) ++ zeros 4 := by
    rw [zeros, List.drop_replicate, show 55 - xs.length = (51 - xs.length) + 4 by omega, ← List.replicate_append_replicate]
    rfl
  rw [List.drop_eq_nil_of_le (by omega), Nat.add_sub_cancel_left, e2]
  simp
theorem lay4 {A S : List Nat} (h : A.length = 60) (hs : S.length = 4) : over (A ++ zeros 4) 60 S = A ++ S := by
  unfold over
  rw [List.take_left' h, hs, List.drop_eq_nil_of_le (by simp [h, zeros]), List.append_nil]
theorem errB_take (s : Nat) : (errB s 8).take 4 = errB s 4 := by simp [errB]
theorem triv_in (h : True) : True := h
attribute [local go_sem ↓] exec_alloc_S exec_box_S exec_load_S exec_store_S exec_alloc_8 exec_load_8 exec_store_8 exec_copy_ver
attribute [local go_sem] verV_cells
set_option maxHeartbeats 1000000 in
theorem lay_any (N : Nat) (n : Nat) (v : Value) (xs : List Nat) (w : World) (hr : Row N w v xs) (hN : N ≤ w.heap.size) (hx : ∀ x ∈ xs, x < 256) (hl : xs.length ≤ 48) :
    Calls Try.prog 56 #[.int .u64 (n : Int), v] w fun e w' => e = .returned (verV (laySec n xs)) ∧ Below w.heap.size w w' := by
  obtain ⟨ao, cap, rfl, hcap⟩ := hr.shape
  have HR : Hid (Row N w (.slice ao xs.length cap) xs) := hr
  have HX : Hid (∀ x ∈ xs, x < 256) := hx
  obtain ⟨w2, hw2⟩ : ∃ w2, (w.alloc (.cells (verC (zeros 64)) 104)).alloc (.cells (verC (zeros 64)) 104) = w2 := ⟨_, rfl⟩
  have A2 : Hid (ArrAt 104 w2 w.heap.size (zeros 64)) := hw2 ▸ (ArrAt.new _ w _).old _
  have C2 : Hid (ArrAt 104 w2 (w.heap.size + 1) (zeros 64)) := by
    have := ArrAt.new 104 (w.alloc (.cells (verC (zeros 64)) 104)) (zeros 64)
    rw [alloc_size] at this
    exact hw2 ▸ this
  have B2 : Hid (Below w.heap.size w w2) := hw2 ▸ ((Below.refl _ w).alloc (Nat.le_refl _) _).alloc (by simp) _
  have HW : Hid ((w.alloc (.cells (verC (zeros 64)) 104)).alloc (.cells (verC (zeros 64)) 104) = w2) := hw2
  have hs2 := C2.out.lt
  clear hw2 hr hx
  go_enter Try.func56, Try.ntmps56
  go_wp2_with fail
  rw [HW.out]
  clear HW
  refine (lowestFirst_any n w2).mono ?_
  rintro e w3 ⟨rfl, hb3⟩
  obtain ⟨E, hE⟩ : ∃ E, errB n 8 = E := ⟨_, rfl⟩
  have hEl : E.length = 8 := by rw [← hE, errB_len]
  have HE : Hid (errB n 8 = E) := hE
  rw [hE]
  have A3 := A2.out.below A2.out.lt hb3
  have C3 := C2.out.below C2.out.lt hb3
  have F3 := ArrAt.new 134 w3 (zeros 8)
  have hst := store8_at (vs := E) F3 (by simp [zeros]) hEl
  obtain ⟨w4, hw4⟩ : ∃ w4, setA (w3.alloc (.cells (verC (zeros 8)) 134)) w3.heap.size 0 E = w4 := ⟨_, rfl⟩
  rw [hw4] at hst
  have o4 := setA_one F3 0 E
  rw [hw4] at o4
  have hs3 := hb3.size
  have F4 : Hid (ArrAt 134 w4 w3.heap.size E) := by
    have := F3.set 0 E (by simp [zeros, hEl])
    rw [over_all (by simp [zeros, hEl]), hw4] at this
    exact this
  have A4 : Hid (ArrAt 104 w4 w.heap.size (zeros 64)) := (o4.block _ (by omega)).trans (A3.old _)
  have C4 : Hid (ArrAt 104 w4 (w.heap.size + 1) (zeros 64)) := (o4.block _ (by omega)).trans (C3.old _)
  have B4 : Hid (Below w.heap.size w w4) := by
    rw [← hw4]
    exact setA_below ((B2.out.trans (hb3.mono B2.out.size)).alloc (by omega) _) F3 (by omega) _ _
  have hs4 : w4.heap.size = w3.heap.size + 1 := by rw [o4.size]; simp
  clear hb3 hE A3 C3 F3 hw4 o4 A2 C2 B2
  go_wp2_with fail
  clear hst
  -- the first copy
  have hw5 : ∀ ty, copyV Try.prog (.slice (some ⟨w.heap.size + 1, 0, none⟩) 8 64) (.slice (some ⟨w3.heap.size, 0, none⟩) 8 8) ty w4.drew = .ok (.int .i64 (E.length : Int)) (setA w4.drew (w.heap.size + 1) 0 E) := fun ty => by
    have := copyV_at (N := w4.heap.size) (cap := 64) (n := 8) (k := 0) ty (show ArrAt 104 w4.drew (w.heap.size + 1) (zeros 64) from C4.out) (show Row w4.heap.size w4.drew (.slice (some ⟨w3.heap.size, 0, none⟩) 8 8) E from by
      have h := (show ArrAt 134 w4.drew w3.heap.size E from F4.out).row 0 8 8 (by omega) (by omega) (N := w4.heap.size) (by omega)
      rwa [List.drop_zero, List.take_of_length_le (by omega)] at h) (by simp [zeros])
    rwa [List.take_of_length_le (by omega)] at this
  refine region_at (S := fun _ => True) 3 rfl (by kernel_rfl) trivial (fun hHeld => ?_)
  refine take_at (i := 0) 10 rfl rfl (by kernel_rfl) (by kernel_rfl) (by kernel_rfl) (fun _ _ _ h => h) (by rfl) (fun w hSw => by (have hSw2 := triv_in hSw; clear hSw; go_simp; first | done | exact rfl)) (by assumption) ?_
  simp only [List.setIfInBounds_toArray, List.set_cons_zero, List.set_cons_succ]
  refine take_at (i := 1) 11 rfl rfl (by kernel_rfl) (by kernel_rfl) (by kernel_rfl) (fun _ _ _ h => h) (by rfl) (fun w hSw => by (have hSw2 := triv_in hSw; clear hSw; go_simp; first | done | exact rfl)) (by assumption) ?_
  simp only [List.setIfInBounds_toArray, List.set_cons_zero, List.set_cons_succ]
  refine one_value (i := 2) (v := .int .i64 (E.length : Int)) (w' := setA w4.drew (w.heap.size + 1) 0 E) 12 (by kernel_rfl) rfl rfl (by rfl) ?_ trivial (fun _ => ?_)
  · refine (exec_copy_ver _ (.tmp 10) (.tmp 11) _ _ _ _ _ _).trans ?_
    show Result.andThen (copyV Try.prog (.slice (some ⟨w.heap.size + 1, 0, none⟩) 8 64) (.slice (some ⟨w3.heap.size, 0, none⟩) 8 8) _ w4.drew) _ = _
    rw [hw5]
    rfl
  simp only [List.setIfInBounds_toArray, List.set_cons_zero, List.set_cons_succ]
  refine wpAnyH_done (by kernel_rfl) ?_ _
  have C4d : ArrAt 104 w4.drew (w.heap.size + 1) (zeros 64) := C4.out
  have o5 := setA_one C4d 0 E
  have C5 := C4d.set 0 E (by simp [zeros, hEl])
  rw [lay1 hEl] at C5
  obtain ⟨w5, hw5e⟩ : ∃ w5, setA w4.drew (w.heap.size + 1) 0 E = w5 := ⟨_, rfl⟩
  have B5 : Hid (Below w.heap.size w w5) := hw5e ▸ setA_below B4.out.drew C4d (by omega) _ _
  rw [hw5e] at o5 C5
  rw [hw5e]
  have A5 : Hid (ArrAt 104 w5 w.heap.size (zeros 64)) := (o5.block _ (by omega)).trans A4.out
  -- the size
  have C6 := set_arr (k := 8) (x := xs.length) C5
  rw [lay2 hEl] at C6
  have R6 : Row N (w5.setCell ⟨w.heap.size + 1, 8, none⟩ (bv xs.length)) (.slice ao xs.length cap) xs := HR.out.below ((B5.out.mono hN).setCell (by show N ≤ w.heap.size + 1; omega) _)
  have c8 := C5.cell (i := 8) (by simp [hEl, zeros])
  have z8 := C5.frozen 8
  have hsz5 : w.heap.size + 1 < w5.heap.size := C5.lt
  have hcp : ∀ ty, copyV Try.prog (.slice (some ⟨w.heap.size + 1, 9, none⟩) 51 55) (.slice ao xs.length cap) ty (w5.setCell ⟨w.heap.size + 1, 8, none⟩ (bv xs.length)) = .ok (.int .i64 (xs.length : Int)) (setA (w5.setCell ⟨w.heap.size + 1, 8, none⟩ (bv xs.length)) (w.heap.size + 1) 9 xs) := fun ty => by
    have := copyV_at (cap := 55) (n := 51) (k := 9) ty C6 R6 (by simp [hEl, zeros])
    rwa [List.take_of_length_le (by omega)] at this
  have C7 := C6.set 9 xs (by simp [hEl, zeros]; omega)
  rw [lay3 hEl _ hl] at C7
  have o7 := setA_one C6 9 xs
  have B6 : Below w.heap.size w (w5.setCell ⟨w.heap.size + 1, 8, none⟩ (bv xs.length)) := B5.out.setCell (by show w.heap.size ≤ w.heap.size + 1; omega) _
  obtain ⟨w7, hw7⟩ : ∃ w7, setA (w5.setCell ⟨w.heap.size + 1, 8, none⟩ (bv xs.length)) (w.heap.size + 1) 9 xs = w7 := ⟨_, rfl⟩
  have B7 : Hid (Below w.heap.size w w7) := hw7 ▸ setA_below B6 C6 (by omega) _ _
  rw [hw7] at o7 C7
  simp only [hw7] at hcp
  have A7 : Hid (ArrAt 104 w7 w.heap.size (zeros 64)) := (o7.block _ (by omega)).trans ((Below.heap_setCell _ _ _ _ (by show w.heap.size ≠ w.heap.size + 1; omega)).trans A5.out)
  have hF : E ++ (xs.length :: (xs ++ zeros (51 - xs.length))) = front60 n xs := by rw [← HE.out]; rfl
  rw [hF] at C7
  obtain ⟨FR, hFR⟩ : ∃ FR, front60 n xs = FR := ⟨_, rfl⟩
  have hFRl : FR.length = 60 := by rw [← hFR]; exact front_len hl
  have HFR : Hid (front60 n xs = FR) := hFR
  have HFB : Hid (∀ x ∈ FR, x < 256) := by rw [← hFR]; exact front_byte hl HX.out
  rw [hFR] at C7
  have C7H : Hid (ArrAt 104 w7 (w.heap.size + 1) (FR ++ zeros 4)) := C7
  have hxl : (xs.length : Int) < 256 := by omega
  clear hw5 C4d o5 C5 hw5e C6 R6 C7 o7 B6 hw7 hF hFR A4 C4 B4 F4 hs4 hs3 hs2 hHeld
  go_wp2_with fail
  have hrow7 : Row w7.heap.size w7 (.slice (some ⟨w.heap.size + 1, 0, none⟩) 60 64) FR := by
    have h := C7H.out.row 0 60 64 (by simp [hFRl, zeros]) (by omega) C7H.out.lt
    rwa [List.drop_zero, List.take_left' hFRl] at h
  refine (Sum_any w7.heap.size _ FR w7 hrow7 HFB.out (by omega)).mono ?_
  rintro e w7' ⟨rfl, rfl⟩
  obtain ⟨sm, hsm⟩ : ∃ sm, sumOf FR = sm := ⟨_, rfl⟩
  have hsml : (sm : Int) < 4294967296 := by have := sumOf_lt (xs := FR); omega
  have HSM : Hid (sumOf FR = sm) := hsm
  rw [hsm]
  have hs7 := C7H.out.lt
  clear hrow7 hsm hcp c8 z8
  go_wp2_with fail
  refine (lowestFirst_any sm w7').mono ?_
  rintro e w8 ⟨rfl, hb8⟩
  obtain ⟨G, hG⟩ : ∃ G, errB sm 8 = G := ⟨_, rfl⟩
  have hGl : G.length = 8 := by rw [← hG, errB_len]
  have HG : Hid (G.take 4 = errB sm 4) := by show _ = _; rw [← hG]; exact errB_take sm
  rw [hG]
  have A8 := A7.out.below A7.out.lt hb8
  have C8 := C7H.out.below C7H.out.lt hb8
  have F8 := ArrAt.new 134 w8 (zeros 8)
  have hst := store8_at (vs := G) F8 (by simp [zeros]) hGl
  obtain ⟨w9, hw9⟩ : ∃ w9, setA (w8.alloc (.cells (verC (zeros 8)) 134)) w8.heap.size 0 G = w9 := ⟨_, rfl⟩
  rw [hw9] at hst
  have o9 := setA_one F8 0 G
  rw [hw9] at o9
  have hs8 := hb8.size
  have F9 : Hid (ArrAt 134 w9 w8.heap.size G) := by
    have := F8.set 0 G (by simp [zeros, hGl])
    rw [over_all (by simp [zeros, hGl]), hw9] at this
    exact this
  have A9 : Hid (ArrAt 104 w9 w.heap.size (zeros 64)) := (o9.block _ (by omega)).trans (A8.old _)
  have C9 : Hid (ArrAt 104 w9 (w.heap.size + 1) (FR ++ zeros 4)) := (o9.block _ (by omega)).trans (C8.old _)
  have B9 : Hid (Below w.heap.size w w9) := by
    rw [← hw9]
    exact setA_below ((B7.out.trans (hb8.mono B7.out.size)).alloc (by omega) _) F8 (by omega) _ _
  have hs9 : w9.heap.size = w8.heap.size + 1 := by rw [o9.size]; simp
  clear hb8 hG A8 C8 F8 hw9 o9 A7 C7H B7 A5 B5
  go_wp2_with fail
  clear hst
  have hw10 : ∀ ty, copyV Try.prog (.slice (some ⟨w.heap.size + 1, 60, none⟩) 4 4) (.slice (some ⟨w8.heap.size, 0, none⟩) 8 8) ty w9.drew = .ok (.int .i64 4) (setA w9.drew (w.heap.size + 1) 60 (G.take 4)) := fun ty => by
    have := copyV_at (N := w9.heap.size) (cap := 4) (n := 4) (k := 60) ty (show ArrAt 104 w9.drew (w.heap.size + 1) (FR ++ zeros 4) from C9.out) (show Row w9.heap.size w9.drew (.slice (some ⟨w8.heap.size, 0, none⟩) 8 8) G from by
      have h := (show ArrAt 134 w9.drew w8.heap.size G from F9.out).row 0 8 8 (by omega) (by omega) (N := w9.heap.size) (by omega)
      rwa [List.drop_zero, List.take_of_length_le (by omega)] at h) (by simp [zeros, hFRl])
    rwa [show ((G.take 4).length : Int) = 4 by simp [hGl]] at this
  refine region_at (S := fun _ => True) 3 rfl (by kernel_rfl) trivial (fun hHeld => ?_)
  refine take_at (i := 0) 24 rfl rfl (by kernel_rfl) (by kernel_rfl) (by kernel_rfl) (fun _ _ _ h => h) (by rfl) (fun w hSw => by (have hSw2 := triv_in hSw; clear hSw; go_simp; first | done | exact rfl)) (by assumption) ?_
  simp only [List.setIfInBounds_toArray, List.set_cons_zero, List.set_cons_succ]
  refine take_at (i := 1) 25 rfl rfl (by kernel_rfl) (by kernel_rfl) (by kernel_rfl) (fun _ _ _ h => h) (by rfl) (fun w hSw => by (have hSw2 := triv_in hSw; clear hSw; go_simp; first | done | exact rfl)) (by assumption) ?_
  simp only [List.setIfInBounds_toArray, List.set_cons_zero, List.set_cons_succ]
  refine one_value (i := 2) (v := .int .i64 4) (w' := setA w9.drew (w.heap.size + 1) 60 (G.take 4)) 26 (by kernel_rfl) rfl rfl (by rfl) ?_ trivial (fun _ => ?_)
  · refine (exec_copy_ver _ (.tmp 24) (.tmp 25) _ _ _ _ _ _).trans ?_
    show Result.andThen (copyV Try.prog (.slice (some ⟨w.heap.size + 1, 60, none⟩) 4 4) (.slice (some ⟨w8.heap.size, 0, none⟩) 8 8) _ w9.drew) _ = _
    rw [hw10]
    rfl
  simp only [List.setIfInBounds_toArray, List.set_cons_zero, List.set_cons_succ]
  refine wpAnyH_done (by kernel_rfl) ?_ _
  have C9d : ArrAt 104 w9.drew (w.heap.size + 1) (FR ++ zeros 4) := C9.out
  have oq := setA_one C9d 60 (G.take 4)
  have Cq := C9d.set 60 (G.take 4) (by simp [zeros, hGl, hFRl])
  have hres : FR ++ errB sm 4 = laySec n xs := by rw [laySec, HFR.out, HSM.out]
  obtain ⟨wq, hwq⟩ : ∃ wq, setA w9.drew (w.heap.size + 1) 60 (G.take 4) = wq := ⟨_, rfl⟩
  have Bq : Below w.heap.size w wq := hwq ▸ setA_below B9.out.drew C9d (by omega) _ _
  rw [hwq] at oq Cq
  rw [lay4 hFRl (by simp [hGl]), HG.out, hres] at Cq
  rw [hwq]
  have Aq : ArrAt 104 wq w.heap.size (zeros 64) := (oq.block _ (by omega)).trans A9.out
  have hll := lay_len (n := n) hl
  have hld := loadS_at Cq hll
  have hst := storeS_at (vs := laySec n xs) Aq (by simp [zeros]) hll
  have HST : Hid (ArrAt 104 (setA wq w.heap.size 0 (laySec n xs)) w.heap.size (laySec n xs)) := by
    have := Aq.set 0 (laySec n xs) (by simp [zeros, hll])
    rwa [over_all (by simp [zeros, hll])] at this
  have HBS : Hid (Below w.heap.size w (setA wq w.heap.size 0 (laySec n xs))) := setA_below Bq Aq (Nat.le_refl _) _ _
  obtain ⟨wz, hwz⟩ : ∃ wz, setA wq w.heap.size 0 (laySec n xs) = wz := ⟨_, rfl⟩
  rw [hwz] at hst HST HBS
  have HLL : Hid ((laySec n xs).length = 64) := hll
  clear C9d oq Cq hwq Bq Aq hll hwz hHeld hw10 hres
  go_wp2_with fail
  exact ret_arr sect rfl rfl HLL.out HST.out rfl ⟨rfl, HBS.out⟩
end Go.Proofs.Ytpmmpdkeahmdiaa
