/- codec.Unseal. -/
import Derived.Test.YtidnhldjnbpafabUnseal
namespace Go.Proofs.Ytidnhldjnbpafab
open Go.RowKit
set_option maxRecDepth 100000

/-- What is sealed at the front of bytes. -/
def unsealR (xs : List Nat) : List Nat × Nat × Int :=
  if (bytesR xs 0 2097152).2.2 ≠ 0 then ([], 0, (bytesR xs 0 2097152).2.2)
  else if (bytesR xs 0 2097152).2.1.length < 4 then ([], 0, 20)
  else if val4 (bytesR xs 0 2097152).2.1 ≠ sumOf (bytesR xs 0 2097152).1 then ([], 0, 24)
  else ((bytesR xs 0 2097152).1, xs.length - ((bytesR xs 0 2097152).2.1.length - 4), 0)

theorem bytesR_sub {xs : List Nat} {e m : Int} (hx : ∀ x ∈ xs, x < 256) : (∀ x ∈ (bytesR xs e m).1, x < 256) ∧ (bytesR xs e m).1.length ≤ xs.length ∧ (bytesR xs e m).2.1.length ≤ xs.length ∧ (∀ x ∈ (bytesR xs e m).2.1, x < 256) := by
  unfold bytesR
  split
  · exact ⟨fun x h => by simp at h, by simp, Nat.le_refl _, hx⟩
  split
  · exact ⟨fun x h => by simp at h, by simp, Nat.le_refl _, hx⟩
  split
  · exact ⟨fun x h => by simp at h, by simp, Nat.le_refl _, hx⟩
  · exact ⟨fun x h => hx x (List.mem_of_mem_drop (List.mem_of_mem_take h)), by simp; omega, by simp, fun x h => hx x (List.mem_of_mem_drop h)⟩
set_option maxHeartbeats 4000000 in
theorem Unseal_any (N : Nat) (v : Value) (xs : List Nat) (w : World) (hrow : Row N w v xs) (hN : N ≤ w.heap.size) (hx : ∀ x ∈ xs, x < 256) (hl : xs.length ≤ 140737488355328) :
    Calls Try.prog 11 #[v] w fun x w' => ∃ v', x = .returned (.tuple #[v', .int .i64 ((unsealR xs).2.1 : Int), .int .i64 (unsealR xs).2.2]) ∧ Bytes w.heap.size w' v' (unsealR xs).1 ∧ Below w.heap.size w w' := by
  obtain ⟨ao, cap, rfl, hcap⟩ := hrow.shape
  have hb0 : Below w.heap.size w (w.alloc (Obj.cells #[.slice ao xs.length cap, .int .i64 0] 44)) := (Below.refl _ _).alloc (Nat.le_refl _) _
  have HRD0 : Hid (Rd (w.alloc (Obj.cells #[.slice ao xs.length cap, .int .i64 0] 44)) w.heap.size xs 0) :=
    ⟨_, heap_alloc_new w _, (hrow.mono hN).below hb0, hx, hl⟩
  have HB0 : Hid (Below w.heap.size w (w.alloc (Obj.cells #[.slice ao xs.length cap, .int .i64 0] 44))) := hb0
  have hsub := bytesR_sub (e := 0) (m := 2097152) hx
  have HU : Hid (unsealR xs = if (bytesR xs 0 2097152).2.2 ≠ 0 then ([], 0, (bytesR xs 0 2097152).2.2) else if (bytesR xs 0 2097152).2.1.length < 4 then ([], 0, 20)
    else if val4 (bytesR xs 0 2097152).2.1 ≠ sumOf (bytesR xs 0 2097152).1 then ([], 0, 24) else ((bytesR xs 0 2097152).1, xs.length - ((bytesR xs 0 2097152).2.1.length - 4), 0)) := rfl
  clear hrow hb0
  have HC := Bytes_any w.heap.size xs 0 2097152 _ HRD0.out (by omega) (by omega)
  generalize hR : bytesR xs 0 2097152 = R at hsub HU HC
  clear hR
  obtain ⟨ys, rs, e⟩ := R
  simp only at hsub HU HC
  obtain ⟨hy, hyl, hrl, _⟩ := hsub
  have HC : Hid (Calls Try.prog 20 #[.pointer (some ⟨w.heap.size, 0, none⟩), .int .i64 2097152] (w.alloc (Obj.cells #[.slice ao xs.length cap, .int .i64 0] 44)) fun x w' => ∃ v, x = .returned v ∧ Bytes (w.alloc (Obj.cells #[.slice ao xs.length cap, .int .i64 0] 44)).heap.size w' v ys ∧ Rd w' w.heap.size rs e ∧ But w.heap.size (w.alloc (Obj.cells #[.slice ao xs.length cap, .int .i64 0] 44)) w') := HC
  have HY : Hid (∀ x ∈ ys, x < 256) := hy
  clear hy hx
  go_enter Try.func11, Try.ntmps11
  go_wp2_with fail
  refine HC.out.mono ?_
  rintro x w1 ⟨v1, rfl, hown1, hrd1, hbut1⟩
  have hb01 : Below w.heap.size w w1 := HB0.out.trans (hbut1.below (Nat.le_refl _) (by simp))
  have HO1 : Hid (Bytes (w.heap.size + 1) w1 v1 ys) := by have := hown1; rwa [World.size_alloc] at this
  have HRD1 : Hid (Rd w1 w.heap.size rs e) := hrd1
  clear HC hown1 hrd1 hbut1 HRD0 HB0
  have hs1 := hb01.size
  go_wp2_with fail
  refine (sum_any w.heap.size rs e w1 HRD1.out).mono ?_
  by_cases he : e = 0
  · subst he
    by_cases h4 : rs.length < 4
    · rw [if_neg (by simp), if_pos h4] at HU
      have hs20 := sumS_short h4
      generalize sumS rs 0 4 = S at hs20
      obtain ⟨sv, rs', e'⟩ := S
      simp only at hs20
      subst hs20
      rintro x w2 ⟨rfl, hrd2, hbut2⟩
      have HRD2 : Hid (Rd w2 w.heap.size rs' 20) := hrd2
      have hb02 := hb01.trans (hbut2.below (Nat.le_refl _) hs1)
      clear hrd2 hbut2 hb01 HRD1
      go_wp2_with fail
      refine (Err_any w.heap.size rs' 20 w2 HRD2.out).mono ?_
      rintro x w2' ⟨rfl, rfl⟩
      go_wp2_with fail
      refine (Err_any w.heap.size rs' 20 _ HRD2.out).mono ?_
      rintro x w2'' ⟨rfl, rfl⟩
      go_wp2_with fail
      go_ret3
      rw [HU.out]
      exact ⟨_, rfl, Bytes.nil _ _, hb02⟩
    · rw [if_neg (by simp), if_neg h4] at HU
      rw [sumS_all (by omega)]
      have hv4 : val4 rs < 4294967296 ∨ True := .inr trivial
      rintro x w2 ⟨rfl, hrd2, hbut2⟩
      have HRD2 : Hid (Rd w2 w.heap.size (rs.drop 4) 0) := hrd2
      have hb02 := hb01.trans (hbut2.below (Nat.le_refl _) hs1)
      have hs2 := hb02.size
      have HO2 : Hid (Bytes (w.heap.size + 1) w2 v1 ys) := HO1.out.but hbut2 (by omega)
      clear hrd2 hbut2 hb01 HRD1 HO1 hv4
      have hd4 : (rs.drop 4).length = rs.length - 4 := List.length_drop
      generalize rs.drop 4 = ts at HRD2 hd4
      generalize val4 rs = q at HU
      go_wp2_with fail
      refine (Err_any w.heap.size ts 0 w2 HRD2.out).mono ?_
      rintro x w2' ⟨rfl, rfl⟩
      go_wp2_with fail
      refine (Sum_any _ _ ys _ HO2.out.row HY.out (by omega)).mono ?_
      rintro x w2'' ⟨rfl, rfl⟩
      generalize sumOf ys = z at HU
      by_cases hq : q = z
      · subst hq
        rw [if_neg (by simp)] at HU
        go_wp2_with fail
        refine (Err_any w.heap.size ts 0 _ HRD2.out).mono ?_
        rintro x w3 ⟨rfl, rfl⟩
        go_wp2_with fail
        refine (Left_any w.heap.size ts 0 _ HRD2.out).mono ?_
        rintro x w3' ⟨rfl, rfl⟩
        have hsb : (xs.length : Int) - (ts.length : Int) = ((xs.length - (rs.length - 4) : Nat) : Int) := by omega
        generalize xs.length - (rs.length - 4) = k at HU hsb
        clear hd4
        go_wp2_with fail
        go_ret3
        rw [HU.out]
        exact ⟨_, by first | rfl | (rw [← hsb]; rfl), HO2.out.mono (by omega), hb02⟩
      · rw [if_pos hq] at HU
        have hne : ((q : Int) == (z : Int)) = false := by simp; omega
        go_wp2_with fail
        refine (Fail_any w.heap.size ts 0 24 _ HRD2.out).mono ?_
        rintro x w3 ⟨rfl, hrd3, hbut3⟩
        have HRD3 : Hid (Rd w3 w.heap.size ts 24) := hrd3
        have hb03 := hb02.trans (hbut3.below (Nat.le_refl _) hs2)
        clear hrd3 hbut3 HRD2 hb02
        go_wp2_with fail
        refine (Err_any w.heap.size ts 24 _ HRD3.out).mono ?_
        rintro x w4 ⟨rfl, rfl⟩
        go_wp2_with fail
        go_ret3
        rw [HU.out]
        exact ⟨_, rfl, Bytes.nil _ _, hb03⟩
  · rw [if_pos he] at HU
    rw [sumS_fail he]
    have hb : (e == 0) = false := by simpa using he
    rintro x w2 ⟨rfl, hrd2, hbut2⟩
    have HRD2 : Hid (Rd w2 w.heap.size rs e) := hrd2
    have hb02 := hb01.trans (hbut2.below (Nat.le_refl _) hs1)
    clear hrd2 hbut2 hb01 HRD1
    go_wp2_with fail
    refine (Err_any w.heap.size rs e w2 HRD2.out).mono ?_
    rintro x w2' ⟨rfl, rfl⟩
    go_wp2_with fail
    refine (Err_any w.heap.size rs e _ HRD2.out).mono ?_
    rintro x w2'' ⟨rfl, rfl⟩
    go_wp2_with fail
    go_ret3
    rw [HU.out]
    exact ⟨_, rfl, Bytes.nil _ _, hb02⟩
end Go.Proofs.Ytidnhldjnbpafab
