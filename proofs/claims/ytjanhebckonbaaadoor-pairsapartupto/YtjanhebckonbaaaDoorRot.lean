/- slices.rotateCmpFunc at pairs. -/
import Derived.Test.YtjanhebckonbaaaDoorSwapR
namespace Go.Proofs.YtjanhebckonbaaaDoor
open Go.RowKit Go.Shelf Go.Lib Go.Sort Pm
set_option maxRecDepth 1000000

set_option maxHeartbeats 4000000 in
theorem rotate_any (blk off n cap : Nat) (w0 w : World) (R : RowP w0 blk off n) (A X Y B : List Pr) (S : SWK encP 2 w0 blk off (A ++ (X ++ (Y ++ B))).toArray w) (hn : (A ++ (X ++ (Y ++ B))).length = n) (hx : 0 < X.length) (hy : 0 < Y.length) (a m b : Nat) (ha : a = A.length) (hm : m = A.length + X.length) (hb : b = A.length + X.length + Y.length) :
    Calls Tryd.prog 50 #[.slice (some ⟨blk, off, none⟩) n cap, .int .i64 a, .int .i64 m, .int .i64 b, .func (.func 31) #[] #[]] w fun e w' => e = .returned (.tuple #[]) ∧ SWK encP 2 w0 blk off (A ++ (Y ++ (X ++ B))).toArray w' := by
  have hbig := R.big
  have hn' : A.length + (X.length + (Y.length + B.length)) = n := by simpa using hn
  have HN : Hid (A.length + (X.length + (Y.length + B.length)) = n) := hn'
  obtain ⟨i0, hi0⟩ : ∃ i, i = X.length := ⟨_, rfl⟩
  obtain ⟨j0, hj0⟩ : ∃ i, i = Y.length := ⟨_, rfl⟩
  have e1 : (m : Int) - (a : Int) = (i0 : Int) := by omega
  have e2 : (b : Int) - (m : Int) = (j0 : Int) := by omega
  have hmi : i0 ≤ m := by omega
  have hmj : m + j0 ≤ n := by omega
  have hi00 : 0 < i0 := by omega
  have hj00 : 0 < j0 := by omega
  have S0 : Aside (SWK encP 2 w0 blk off (A ++ (X ++ (Y ++ B))).toArray w) := S
  have HI : Hid (i0 = X.length) := hi0
  have HJ : Hid (j0 = Y.length) := hj0
  have HM : Hid (m = A.length + X.length) := hm
  clear S hn hn' hx hy ha hm hb hi0 hj0
  go_enter Tryd.func50, Tryd.ntmps50
  go_wp2
  go_loopg [10, 11] (i0 + j0) (fun g s10 s11 wr => ∃ (i j : Nat) (A' X' Y' B' : List Pr), s10 = .int .i64 i ∧ s11 = .int .i64 j ∧ i ≤ m ∧ m + j ≤ n ∧ 0 < i ∧ 0 < j ∧ i + j ≤ g ∧ Aside (SWK encP 2 w0 blk off (A' ++ (X' ++ (Y' ++ B'))).toArray wr) ∧ Hid (i = X'.length ∧ j = Y'.length ∧ m = A'.length + X'.length ∧ (A' ++ (X' ++ (Y' ++ B'))).length = n ∧ A' ++ (Y' ++ (X' ++ B')) = A ++ (Y ++ (X ++ B))))
  case atStart => exact ⟨i0, j0, A, X, Y, B, rfl, rfl, hmi, hmj, hi00, hj00, Nat.le_refl _, S0, HI.out, HJ.out, HM.out, by have := HN.out; simpa using this, rfl⟩
  case round =>
    clear S0
    obtain ⟨i, j, A', X', Y', B', rfl, rfl, him, hjn, hi, hj, hg, S1, H⟩ := hrel
    have emi : (m : Int) - (i : Int) = ((m - i : Nat) : Int) := by omega
    by_cases heq : i = j
    · subst heq
      have hc := fun (W : World) (SW : SWK encP 2 w0 blk off (A' ++ (X' ++ (Y' ++ B'))).toArray W) => swapRange_any blk off n cap w0 W R A' X' [] Y' B' SW H.out.2.2.2.1 (by have := H.out; omega) (m - i) m i (by have := H.out; omega) (by have := H.out; simp; omega) H.out.1
      go_wp2_with (go_at_call 51; refine (hc _ S1.out).mono ?_; rintro e w' ⟨rfl, S2⟩)
      go_end0
      exact ⟨rfl, H.out.2.2.2.2 ▸ S2⟩
    · have hne : ((i : Int) == (j : Int)) = false := beq_eq_false_iff_ne.2 (by omega)
      by_cases hgt : j < i
      · have hgtz : (j : Int) < (i : Int) := by omega
        obtain ⟨X1, X2, hX, hX1⟩ := cut_at X' j (by have := H.out; omega)
        have eij : (i : Int) - (j : Int) = ((i - j : Nat) : Int) := by omega
        have hX2 : Hid (X2.length = i - j) := by show _ = _; have h := H.out.1; rw [hX] at h; simp at h; omega
        have HX1 : Hid (X1.length = j) := hX1
        have HXX : Hid (X' = X1 ++ X2) := hX
        have hc := fun (W : World) (SW : SWK encP 2 w0 blk off (A' ++ (X1 ++ (X2 ++ (Y' ++ B')))).toArray W) => swapRange_any blk off n cap w0 W R A' X1 X2 Y' B' SW (by have := H.out.2.2.2.1; rw [hX] at this; simpa using this) (by have := H.out; omega) (m - i) m j (by have := H.out; omega) (by have := H.out; have := hX2.out; omega) hX1.symm
        have S1' : Aside (SWK encP 2 w0 blk off (A' ++ (X1 ++ (X2 ++ (Y' ++ B')))).toArray wr) := by
          have := S1.out
          rw [hX, List.append_assoc] at this
          exact this
        clear S1 hX hX1
        go_wp2_with (go_at_call 51; refine (hc _ S1'.out).mono ?_; rintro e w' ⟨rfl, S2⟩)
        have S2' : Aside (SWK encP 2 w0 blk off ((A' ++ Y') ++ (X2 ++ (X1 ++ B'))).toArray w') := by
          have := S2
          rw [show A' ++ (Y' ++ (X2 ++ (X1 ++ B'))) = (A' ++ Y') ++ (X2 ++ (X1 ++ B')) by simp] at this
          exact this
        clear S2
        go_roundg (i - j + j)
        case measure => omega
        case rel =>
          refine ⟨i - j, j, A' ++ Y', X2, X1, B', by rw [← eij], rfl, by omega, hjn, by omega, hj, Nat.le_refl _, S2', hX2.out.symm, HX1.out.symm, ?_, ?_, ?_⟩
          · have := H.out; have := hX2.out; simp; omega
          · have h1 := H.out.2.2.2.1; have h2 := H.out; have h3 := hX2.out; have h4 := HX1.out; simp at h1 ⊢; omega
          · rw [← H.out.2.2.2.2, HXX.out]; simp
      · have hgtz : ¬ (j : Int) < (i : Int) := by omega
        have hlt : i < j := by omega
        obtain ⟨Y1, Y2, hY, hY1⟩ := cut_at Y' (j - i) (by have := H.out; omega)
        have eji : (j : Int) - (i : Int) = ((j - i : Nat) : Int) := by omega
        have emj : (m : Int) + (j : Int) - (i : Int) = ((m + j - i : Nat) : Int) := by omega
        have hY2 : Hid (Y2.length = i) := by show _ = _; have h := H.out.2.1; rw [hY] at h; simp at h; omega
        have HY1 : Hid (Y1.length = j - i) := hY1
        have HYY : Hid (Y' = Y1 ++ Y2) := hY
        have hc := fun (W : World) (SW : SWK encP 2 w0 blk off (A' ++ (X' ++ (Y1 ++ (Y2 ++ B')))).toArray W) => swapRange_any blk off n cap w0 W R A' X' Y1 Y2 B' SW (by have := H.out.2.2.2.1; rw [hY] at this; simpa using this) (by have := H.out; have := hY2.out; omega) (m - i) (m + j - i) i (by have := H.out; omega) (by have := H.out; omega) H.out.1
        have S1' : Aside (SWK encP 2 w0 blk off (A' ++ (X' ++ (Y1 ++ (Y2 ++ B')))).toArray wr) := by
          have := S1.out
          rw [hY, List.append_assoc Y1] at this
          exact this
        clear S1 hY hY1
        go_wp2_with (go_at_call 51; refine (hc _ S1'.out).mono ?_; rintro e w' ⟨rfl, S2⟩)
        have S2' : Aside (SWK encP 2 w0 blk off (A' ++ (Y2 ++ (Y1 ++ (X' ++ B')))).toArray w') := S2
        clear S2
        go_roundg (i + (j - i))
        case measure => omega
        case rel =>
          refine ⟨i, j - i, A', Y2, Y1, X' ++ B', rfl, by rw [← eji], him, by omega, hi, by omega, Nat.le_refl _, S2', hY2.out.symm, HY1.out.symm, ?_, ?_, ?_⟩
          · have := H.out; have := hY2.out; omega
          · have h1 := H.out.2.2.2.1; have h2 := H.out; have h3 := hY2.out; have h4 := HY1.out; simp at h1 ⊢; omega
          · rw [← H.out.2.2.2.2, HYY.out]; simp
end Go.Proofs.YtjanhebckonbaaaDoor
