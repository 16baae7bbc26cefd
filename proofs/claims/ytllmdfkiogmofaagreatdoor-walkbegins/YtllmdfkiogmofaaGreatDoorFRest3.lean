/- The reference's same, In, Rests. -/
import Derived.Test.YtllmdfkiogmofaaGreatDoorFRest2
import Derived.Test.YtllmdfkiogmofaaGreatDoorJ16
namespace Go.Proofs.YtllmdfkiogmofaaGreatDoor
open Go.RowKit Nums Fm
set_option maxRecDepth 100000

theorem RunesAt.row {E : Nat} {w : World} {v : Value} {xs : List Int} (h : RunesAt E w v xs) : Row w v xs := by
  obtain ⟨ad, cap, rfl, hc⟩ := h
  refine ⟨ad, cap, rfl, fun h0 => ?_⟩
  obtain ⟨g, off, rfl, _, hx⟩ := hc h0
  refine ⟨g, off, rfl, fun i hi => ?_⟩
  rw [hx i xs[i] (List.getElem?_eq_getElem hi), List.getD_eq_getElem?_getD, List.getElem?_eq_getElem hi]
  rfl
/-- Two rests. -/
structure SE2 (g o g' o' : Nat) (u u' : Value) (w : World) : Prop where
  c0 : w.cell? ⟨g, o, none⟩ = some u
  d0 : w.cell? ⟨g', o', none⟩ = some u'
theorem SE2.facts {g o g' o' : Nat} {u u' : Value} {w : World} (h : SE2 g o g' o' u u' w) : w.cell? ⟨g, o, none⟩ = some u ∧ w.cell? ⟨g', o', none⟩ = some u' := ⟨h.c0, h.d0⟩
set_option maxHeartbeats 4000000 in
theorem refsame_any (E E' : Nat) (w : World) (va vb : Value) (S T : List En) (h1 : RR E w va S) (h2 : RR E' w vb T) (hS : S.length ≤ 1048576) (hT : T.length ≤ 1048576) (hx : ∀ e ∈ S, e.1.length ≤ 1048576) (hy : ∀ e ∈ T, e.1.length ≤ 1048576) :
    Calls Tryz.prog 106 #[va, vb] w fun e w' => e = .returned (.bool (decide (S = T))) ∧ ∃ q, w' = w.drewN q := by
  obtain ⟨ad1, cap1, rfl⟩ := h1.form
  obtain ⟨ad2, cap2, rfl⟩ := h2.form
  obtain ⟨n1, hn1⟩ : ∃ n, S.length = n := ⟨_, rfl⟩
  obtain ⟨n2, hn2⟩ : ∃ n, T.length = n := ⟨_, rfl⟩
  have HN : Hid (S.length = n1 ∧ T.length = n2) := ⟨hn1, hn2⟩
  rw [hn1] at h1 hS ⊢
  rw [hn2] at h2 hT ⊢
  have HR1 : Hid (RR E w (.slice ad1 n1 cap1) S) := h1
  have HR2 : Hid (RR E' w (.slice ad2 n2 cap2) T) := h2
  have HX : Hid ((∀ e ∈ S, e.1.length ≤ 1048576) ∧ ∀ e ∈ T, e.1.length ≤ 1048576) := ⟨hx, hy⟩
  obtain ⟨F, hF⟩ : ∃ F, decide (S = T) = F := ⟨_, rfl⟩
  have HF : Hid (decide (S = T) = F) := hF
  rw [hF]
  clear h1 h2 hn1 hn2 hF hx hy
  by_cases hne : ¬ n1 = n2
  · have HE : Hid (F = false) := by
      show _ = _
      rw [← HF.out]
      exact decide_eq_false fun e => hne (by rw [← HN.out.1, ← HN.out.2, e])
    have hneb : ((n1 : Int) == (n2 : Int)) = false := beq_eq_false_iff_ne.2 (by omega)
    go_enter Tryz.func106, Tryz.ntmps106
    go_wp2
    go_ret
    exact ⟨by rw [HE.out]; rfl, 0, rfl⟩
  have hne' : n1 = n2 := Classical.not_not.1 hne
  subst hne'
  clear hne
  go_enter Tryz.func106, Tryz.ntmps106
  go_wp2
  go_loopg [5, 6] n1 (fun g s5 _ wr => ∃ (k q : Nat), s5 = .int .i64 k ∧ k ≤ n1 ∧ n1 - k ≤ g ∧ Hid (wr = w.drewN q) ∧ Hid (S.take k = T.take k))
  case atStart => exact ⟨0, 0, rfl, Nat.zero_le _, by omega, rfl, by show _ = _; simp⟩
  case round =>
    obtain ⟨k, q, rfl, hk, hg, HW, HK⟩ := hrel
    by_cases hlt : k < n1
    · have hltz : (k : Int) < (n1 : Int) := by omega
      obtain ⟨x, hx⟩ : ∃ x, S[k]? = some x := ⟨S[k]'(by have := HN.out; omega), List.getElem?_eq_getElem _⟩
      obtain ⟨y, hy⟩ : ∃ y, T[k]? = some y := ⟨T[k]'(by have := HN.out; omega), List.getElem?_eq_getElem _⟩
      obtain ⟨g1, o1, rfl, hg1, hc1⟩ := HR1.out.at (by omega)
      obtain ⟨g2, o2, rfl, hg2, hc2⟩ := HR2.out.at (by omega)
      obtain ⟨u1, ⟨p0, p1, pr⟩, hz1⟩ := hc1 k x hx
      obtain ⟨u2, ⟨q0, q1, qr⟩, hz2⟩ := hc2 k y hy
      clear hz1 hz2
      obtain ⟨xd, xc, hxv, _⟩ := id pr
      obtain ⟨yd, yc, hyv, _⟩ := id qr
      obtain ⟨xn, hxn⟩ : ∃ xn, x.1.length = xn := ⟨_, rfl⟩
      obtain ⟨yn, hyn⟩ : ∃ yn, y.1.length = yn := ⟨_, rfl⟩
      rw [hxn] at hxv
      rw [hyn] at hyv
      subst hxv
      subst hyv
      have hS2 : ∀ m, SE2 g1 (o1 + k * 2) g2 (o2 + k * 2) (.slice xd xn xc) (.slice yd yn yc) (w.drewN m) := fun m => ⟨p0, q0⟩
      have HS2 : Hid _ := hS2
      have hwrd : wr.drew = w.drewN (q + 1) := by rw [HW.out]; rfl
      have hS0 : SE2 g1 (o1 + k * 2) g2 (o2 + k * 2) (.slice xd xn xc) (.slice yd yn yc) wr.drew := by rw [hwrd]; exact hS2 _
      have hX := HX.out.1 x (List.mem_of_getElem? hx)
      have hY := HX.out.2 y (List.mem_of_getElem? hy)
      have HCALL : Hid (Calls Tryz.prog 124 #[.slice xd xn xc, .slice yd yn yc] wr.drew fun e w' => e = .returned (.bool (decide (x.1 = y.1))) ∧ ∃ m, w' = w.drewN m) := by
        show Calls _ _ _ _ _
        rw [hwrd]
        have r1 : Row (w.drewN (q + 1)) (.slice xd xn xc) x.1 := (pr.below (belowN (Below.refl E w) (q + 1))).row
        have r2 : Row (w.drewN (q + 1)) (.slice yd yn yc) y.1 := (qr.below (belowN (Below.refl E' w) (q + 1))).row
        refine (Same_any _ _ x.1 y.1 _ r1 r2 (by omega) (by omega)).mono ?_
        rintro e w' ⟨h1, m, h2⟩
        exact ⟨h1, _, by rw [h2]; exact World.drewN_drewN ..⟩
      have HP : Hid (∀ m, (w.drewN m).cell? ⟨g1, o1 + k * 2 + 1, none⟩ = some (.int .i64 x.2) ∧ (w.drewN m).cell? ⟨g2, o2 + k * 2 + 1, none⟩ = some (.int .i64 y.2)) := fun m => ⟨p1, q1⟩
      have HNX : Hid (x = y → S.take (k + 1) = T.take (k + 1)) := fun e => take_alike HK.out hx hy e
      have HNE : Hid (x ≠ y → F = false) := fun e => by
        rw [← HF.out]
        refine decide_eq_false fun e2 => e ?_
        have h1 := hx
        rw [e2, hy] at h1
        exact (Option.some.inj h1).symm
      clear hc1 hc2 hx hy pr qr p0 p1 q0 q1 hxn hyn hS2 hwrd hX hY
      go_upto_region 6 with fail
      refine region_at (S := SE2 g1 (o1 + k * 2) g2 (o2 + k * 2) (.slice xd xn xc) (.slice yd yn yc)) 12 rfl mixedP hS0 (fun _ => ?_)
      refine take_at (i := 0) 18 rfl rfl (by kernel_rfl) (by kernel_rfl) (by kernel_rfl) (fun _ _ _ h => h) (by rfl) (fun w hSw => by (have hSw2 := SE2.facts hSw; clear hSw; go_simp; first | done | exact rfl)) (by assumption) ?_
      simp only [List.setIfInBounds_toArray, List.set_cons_zero, List.set_cons_succ]
      refine take_at (i := 1) 19 rfl rfl (by kernel_rfl) (by kernel_rfl) (by kernel_rfl) (fun _ _ _ h => h) (by rfl) (fun w hSw => by (have hSw2 := SE2.facts hSw; clear hSw; go_simp; first | done | exact rfl)) (by assumption) ?_
      simp only [List.setIfInBounds_toArray, List.set_cons_zero, List.set_cons_succ]
      refine take_at (i := 2) 20 rfl rfl (by kernel_rfl) (by kernel_rfl) (by kernel_rfl) (fun _ _ _ h => h) (by rfl) (fun w hSw => by (have hSw2 := SE2.facts hSw; clear hSw; go_simp; first | done | exact rfl)) (by assumption) ?_
      simp only [List.setIfInBounds_toArray, List.set_cons_zero, List.set_cons_succ]
      refine take_at (i := 3) 21 rfl rfl (by kernel_rfl) (by kernel_rfl) (by kernel_rfl) (fun _ _ _ h => h) (by rfl) (fun w hSw => by (have hSw2 := SE2.facts hSw; clear hSw; go_simp; first | done | exact rfl)) (by assumption) ?_
      simp only [List.setIfInBounds_toArray, List.set_cons_zero, List.set_cons_succ]
      refine take_at (i := 4) 22 rfl rfl (by kernel_rfl) (by kernel_rfl) (by kernel_rfl) (fun _ _ _ h => h) (by rfl) (fun w hSw => by (have hSw2 := SE2.facts hSw; clear hSw; go_simp; first | done | exact rfl)) (by assumption) ?_
      simp only [List.setIfInBounds_toArray, List.set_cons_zero, List.set_cons_succ]
      refine take_at (i := 5) 23 rfl rfl (by kernel_rfl) (by kernel_rfl) (by kernel_rfl) (fun _ _ _ h => h) (by rfl) (fun w hSw => by (have hSw2 := SE2.facts hSw; clear hSw; go_simp; first | done | exact rfl)) (by assumption) ?_
      simp only [List.setIfInBounds_toArray, List.set_cons_zero, List.set_cons_succ]
      refine take_at (i := 6) 24 rfl rfl (by kernel_rfl) (by kernel_rfl) (by kernel_rfl) (fun _ _ _ h => h) (by rfl) (fun w hSw => by (have hSw2 := SE2.facts hSw; clear hSw; go_simp; first | done | exact rfl)) (by assumption) ?_
      simp only [List.setIfInBounds_toArray, List.set_cons_zero, List.set_cons_succ]
      refine take_at (i := 7) 25 rfl rfl (by kernel_rfl) (by kernel_rfl) (by kernel_rfl) (fun _ _ _ h => h) (by rfl) (fun w hSw => by (have hSw2 := SE2.facts hSw; clear hSw; go_simp; first | done | exact rfl)) (by assumption) ?_
      simp only [List.setIfInBounds_toArray, List.set_cons_zero, List.set_cons_succ]
      refine take_at (i := 8) 26 rfl rfl (by kernel_rfl) (by kernel_rfl) (by kernel_rfl) (fun _ _ _ h => h) (by rfl) (fun w hSw => by (have hSw2 := SE2.facts hSw; clear hSw; go_simp; first | done | exact rfl)) (by assumption) ?_
      simp only [List.setIfInBounds_toArray, List.set_cons_zero, List.set_cons_succ]
      refine take_at (i := 9) 27 rfl rfl (by kernel_rfl) (by kernel_rfl) (by kernel_rfl) (fun _ _ _ h => h) (by rfl) (fun w hSw => by (have hSw2 := SE2.facts hSw; clear hSw; go_simp; first | done | exact rfl)) (by assumption) ?_
      simp only [List.setIfInBounds_toArray, List.set_cons_zero, List.set_cons_succ]
      refine one_call (i := 10) (w0 := wr.drew) 28 124 #[.slice xd xn xc, .slice yd yn yc] (by kernel_rfl) rfl rfl (by rfl) (by kernel_rfl) ?_
      refine HCALL.out.mono ?_
      rintro e w3 ⟨rfl, m, hw3⟩
      have hS3 : SE2 g1 (o1 + k * 2) g2 (o2 + k * 2) (.slice xd xn xc) (.slice yd yn yc) w3 := by rw [hw3]; exact HS2.out m
      refine ⟨_, rfl, hS3, fun _ => ?_⟩
      simp only [List.setIfInBounds_toArray, List.set_cons_zero, List.set_cons_succ]
      refine one_value (i := 11) (v := .bool (decide (x.1 = y.1))) (w' := w3) 6 (by kernel_rfl) rfl rfl (by rfl) (by kernel_rfl) hS3 (fun _ => ?_)
      refine wpAnyH_done (by kernel_rfl) ?_ _
      obtain ⟨z0, z1⟩ := HP.out m
      rw [← hw3] at z0 z1
      have HW3 : Hid (∀ j, ∃ q, w3.drewN j = w.drewN q) := fun j => ⟨_, by rw [hw3]; exact World.drewN_drewN ..⟩
      clear hw3 hS3 hS0
      by_cases e1 : x.1 = y.1
      · rw [decide_eq_true e1]
        by_cases e2 : x.2 = y.2
        · have s2 : (x.2 == y.2) = true := beq_iff_eq.2 e2
          have HK2 : Hid (S.take (k + 1) = T.take (k + 1)) := HNX.out (Prod.ext e1 e2)
          clear e1 e2
          simp only [List.setIfInBounds_toArray, List.set_cons_zero, List.set_cons_succ]
          go_upto_region 7 with fail
          go_quiet (fail)
          go_wp2
          go_roundg (n1 - (k + 1))
          case measure => exact Nat.lt_of_lt_of_le (Nat.sub_lt_sub_left hlt (Nat.lt_succ_self k)) hg
          case rel =>
            obtain ⟨qq, hqq⟩ := HW3.out nq
            exact ⟨k + 1, qq, by clear s2; go_num, hlt, Nat.le_refl _, hqq, HK2⟩
        · have s2 : (x.2 == y.2) = false := beq_eq_false_iff_ne.2 e2
          have HE : Hid (F = false) := HNE.out (fun e => e2 (by rw [e]))
          clear e1 e2
          simp only [List.setIfInBounds_toArray, List.set_cons_zero, List.set_cons_succ]
          go_upto_region 7 with fail
          go_quiet (fail)
          go_wp2
          go_ret
          exact ⟨by rw [HE.out]; rfl, HW3.out _⟩
      · rw [decide_eq_false e1]
        have HE : Hid (F = false) := HNE.out (fun e => e1 (by rw [e]))
        clear e1
        simp only [List.setIfInBounds_toArray, List.set_cons_zero, List.set_cons_succ]
        go_upto_region 7 with fail
        go_quiet (fail)
        go_wp2
        go_ret
        exact ⟨by rw [HE.out]; rfl, HW3.out _⟩
    · have hltz : ¬ (k : Int) < (n1 : Int) := by omega
      have HE : Hid (F = true) := by
        show _ = _
        rw [← HF.out]
        refine decide_eq_true ?_
        have h := HK.out
        rw [List.take_of_length_le (by have := HN.out; omega), List.take_of_length_le (by have := HN.out; omega)] at h
        exact h
      go_wp2
      go_ret
      exact ⟨by rw [HE.out]; rfl, q, HW.out⟩
end Go.Proofs.YtllmdfkiogmofaaGreatDoor
