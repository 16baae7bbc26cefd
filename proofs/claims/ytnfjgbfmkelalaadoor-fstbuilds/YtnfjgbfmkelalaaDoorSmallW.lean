/- FstSmallest: the law's own walk. -/
import Derived.Test.YtnfjgbfmkelalaaDoorRisAll
namespace Go.Proofs.YtnfjgbfmkelalaaDoor
open Go.RowKit Nums Fm
set_option maxRecDepth 100000

theorem mach_subs {l : List Pr} (h : buildE l = 0) : ∃ D, Inv D (machOf l).2 ∧ ∀ R, R ∈ D ↔ (ents l ≠ [] ∧ Sub (ents l) R) := by
  by_cases hl : l = []
  · subst hl
    exact ⟨[], Inv.nil, fun R => ⟨fun h => (by cases h), fun h => absurd rfl h.1⟩⟩
  · obtain ⟨D, M⟩ := stF_spec 25 [] [] (ents l) Inv.nil (dict_good h hl)
    rw [machOf, if_pos ⟨h, hl⟩]
    refine ⟨D, M.inv, fun R => ⟨fun hR => ⟨ents_ne hl, ?_⟩, fun hR => M.all R hR.2⟩⟩
    rcases M.sub R hR with h | h
    · cases h
    · exact h
set_option maxHeartbeats 4000000 in
theorem small_walk (v : Value) (w : World) (ht : Tabs w) (l : List Pr) (h : PRow w v l) (hs : Sm l) (hl : l.length ≤ 9223372036854775807) :
    Calls Tryd.prog 8 #[v] w fun e w' => e = .returned (.bool true) ∧ Below w.heap.size w w' := by
  have HBLD := Build_any w v l h hl hs ht
  obtain ⟨C, hC⟩ : ∃ C, buildE l = C := ⟨_, rfl⟩
  rw [hC] at HBLD
  have HT : Hid (Tabs w) := ht
  have HC : Hid (buildE l = C) := hC
  obtain ⟨ad0, cap0, rfl⟩ := h.form
  obtain ⟨nl, hnl⟩ : ∃ nl, l.length = nl := ⟨_, rfl⟩
  have HNL : Hid (l.length = nl) := hnl
  rw [hnl] at HBLD hl h ⊢
  have HPR : Hid (PRow w (.slice ad0 nl cap0) l) := h
  have HB0 : Hid (Calls Tryd.prog 13 #[.slice ad0 nl cap0] w fun e w' => ∃ base vs b, e = .returned (.tuple #[.agg #[.int .i64 base, vs], .int .i64 C]) ∧ BuildSays w w' l base vs b) := HBLD
  have HFEW : Hid (∀ W, Calls Tryd.prog 11 #[.slice ad0 nl cap0] W fun e w' => e = .returned (.bool (decide (nl ≤ 300) || decide (4096 < nl))) ∧ w' = W) := fun W => few_any ad0 nl cap0 W hl
  have HA : Hid (∀ w1 base vs b, BuildSays w w1 l base vs b → ∀ o, Tabs (w1.alloc o) ∧ Below w.heap.size w (w1.alloc o)) := fun w1 base vs b h o => by
    have hb := h.bel.alloc h.bel.size o
    exact ⟨HT.out.below hb, hb⟩
  clear h hs ht HBLD hC hnl
  go_enter Tryd.func8, Tryd.ntmps8
  by_cases hC0 : ¬ C = 0
  · have hCb : (C == 0) = false := beq_eq_false_iff_ne.2 hC0
    have hCn : (C != 0) = true := by simp [bne, hCb]
    clear hC0
    go_wp2_with (first
      | (go_at_call 13; refine HB0.out.mono ?_; rintro e w1 ⟨base, vs, b, rfl, hS⟩; obtain ⟨sd, sc, hvs⟩ := hS.row.shape; subst hvs; have HS : Hid _ := hS; clear hS)
      | (go_at_call 12; refine (alive_any _ (HA.out _ _ _ _ HS.out _).1).mono ?_; rintro e w2 ⟨rfl, hb2⟩))
    go_ret
    exact ⟨rfl, (HA.out _ _ _ _ HS.out _).2.trans (hb2.mono (HA.out _ _ _ _ HS.out _).2.size)⟩
  have hC0' : C = 0 := Classical.not_not.1 hC0
  subst hC0'
  clear hC0
  by_cases hfw : (decide (nl ≤ 300) || decide (4096 < nl)) = false
  · rw [hfw] at HFEW
    clear hfw
    go_wp2_with (first
      | (go_at_call 13; refine HB0.out.mono ?_; rintro e w1 ⟨base, vs, b, rfl, hS⟩; obtain ⟨sd, sc, hvs⟩ := hS.row.shape; subst hvs; have HS : Hid _ := hS; clear hS)
      | (go_at_call 11; refine (HFEW.out _).mono ?_; rintro e w2 ⟨rfl, rfl⟩)
      | (go_at_call 12; refine (alive_any _ (HA.out _ _ _ _ HS.out _).1).mono ?_; rintro e w2 ⟨rfl, hb2⟩))
    go_ret
    exact ⟨rfl, (HA.out _ _ _ _ HS.out _).2.trans (hb2.mono (HA.out _ _ _ _ HS.out _).2.size)⟩
  have hfw2 : (decide (nl ≤ 300) || decide (4096 < nl)) = true := eq_true_of_ne_false hfw
  have HD : Hid (DictOk l) := dict_ok HC.out
  have hnl3 : nl ≤ 300 := by
    have h1 := HD.out.len
    rw [HNL.out] at h1
    simp only [Bool.or_eq_true, decide_eq_true_eq] at hfw2
    omega
  rw [hfw2] at HFEW
  clear hfw hfw2
  go_upto_region 4 with (first
    | (go_at_call 13; refine HB0.out.mono ?_; rintro e w1 ⟨base, vs, b, rfl, hS⟩; obtain ⟨sd, sc, hvs⟩ := hS.row.shape; obtain ⟨nb, hnb⟩ : ∃ nb, b.length = nb := ⟨_, rfl⟩; rw [hnb] at hvs; subst hvs; have HS : Hid _ := hS; have HNB : Hid (b.length = nb) := hnb; clear hS hnb)
    | (go_at_call 11; refine (HFEW.out _).mono ?_; rintro e w2 ⟨rfl, rfl⟩))
  have HBH : Hid _ := Behind.mk' HS.out
  obtain ⟨D, hD, hsubs⟩ := mach_subs HC.out
  rw [HS.out.mach] at hD
  have HI : Hid (Inv D b) := hD
  have HSU : Hid (∀ R, R ∈ D ↔ (ents l ≠ [] ∧ Sub (ents l) R)) := hsubs
  obtain ⟨mb, hmb⟩ : ∃ mb, mb = w1.heap.size := ⟨_, rfl⟩
  obtain ⟨wm, hwm⟩ : ∃ wm, wm = w1.alloc (.cells #[.int .i64 base, .slice sd nb sc] 27) := ⟨_, rfl⟩
  have HST : Hid (Behind w wm mb base (.slice sd nb sc) b) := by rw [hmb, hwm]; exact HBH.out
  rw [← hmb, ← hwm]
  clear hmb hwm HBH HS hD hsubs
  have hbd : Below wm.heap.size wm wm.drew := (Below.refl _ wm).drew
  have HBd : Hid (Behind w wm.drew mb base (.slice sd nb sc) b) := HST.out.below hbd
  have sOf : ∀ W, Behind w W mb base (.slice sd nb sc) b → W.cell? ⟨mb, 1, none⟩ = some (.slice sd nb sc) := fun W h => by simp [World.cell?, h.mac]
  have SOF : Hid _ := sOf
  have hS0 := sOf _ HBd.out
  clear sOf
  refine region_at (S := fun W => W.cell? ⟨mb, 1, none⟩ = some (.slice sd nb sc)) 11 rfl mixedP hS0 (fun _ => ?_)
  refine one_call (i := 0) (w0 := wm.drew) 18 12 #[] (by kernel_rfl) rfl rfl (by rfl) (by kernel_rfl) ?_
  refine (alive_any wm.drew (HT.out.below HBd.out.bel)).mono ?_
  rintro e w3 ⟨rfl, hb3⟩
  have HB3 : Hid (Behind w w3 mb base (.slice sd nb sc) b) := HBd.out.below hb3
  have hS3 := SOF.out _ HB3.out
  refine ⟨_, rfl, hS3, fun _ => ?_⟩
  simp only [List.setIfInBounds_toArray, List.set_cons_zero, List.set_cons_succ]
  refine take_at (i := 1) 19 rfl rfl (by kernel_rfl) (by kernel_rfl) (by kernel_rfl) (fun _ _ _ h => h) (by rfl) (fun w hSw => by (have hSw2 := id hSw; clear hSw; go_simp; first | done | exact rfl)) (by assumption) ?_
  simp only [List.setIfInBounds_toArray, List.set_cons_zero, List.set_cons_succ]
  refine take_at (i := 2) 20 rfl rfl (by kernel_rfl) (by kernel_rfl) (by kernel_rfl) (fun _ _ _ h => h) (by rfl) (fun w hSw => by (have hSw2 := id hSw; clear hSw; go_simp; first | done | exact rfl)) (by assumption) ?_
  simp only [List.setIfInBounds_toArray, List.set_cons_zero, List.set_cons_succ]
  refine take_at (i := 3) 21 rfl rfl (by kernel_rfl) (by kernel_rfl) (by kernel_rfl) (fun _ _ _ h => h) (by rfl) (fun w hSw => by (have hSw2 := id hSw; clear hSw; go_simp; first | done | exact rfl)) (by assumption) ?_
  simp only [List.setIfInBounds_toArray, List.set_cons_zero, List.set_cons_succ]
  refine take_at (i := 4) 22 rfl rfl (by kernel_rfl) (by kernel_rfl) (by kernel_rfl) (fun _ _ _ h => h) (by rfl) (fun w hSw => by (have hSw2 := id hSw; clear hSw; go_simp; first | done | exact rfl)) (by assumption) ?_
  simp only [List.setIfInBounds_toArray, List.set_cons_zero, List.set_cons_succ]
  refine take_at (i := 5) 23 rfl rfl (by kernel_rfl) (by kernel_rfl) (by kernel_rfl) (fun _ _ _ h => h) (by rfl) (fun w hSw => by (have hSw2 := id hSw; clear hSw; go_simp; first | done | exact rfl)) (by assumption) ?_
  simp only [List.setIfInBounds_toArray, List.set_cons_zero, List.set_cons_succ]
  refine one_call (i := 6) (w0 := w3) 24 20 #[.slice ad0 nl cap0] (by kernel_rfl) rfl rfl (by rfl) (by kernel_rfl) ?_
  refine (refRises_any w3 _ l (HPR.out.below HB3.out.bel) HD.out (by rw [HNL.out]; exact hnl3)).mono ?_
  rintro e w4 ⟨ra, rc, Ds, rfl, hnd, hsub, hall, hlen, hb4⟩
  have HB4 : Hid (Behind w w4 mb base (.slice sd nb sc) b) := HB3.out.below hb4
  have hS4 := SOF.out _ HB4.out
  have hnb : Ds.length = nb := by
    rw [← HNB.out, ← HI.out.len]
    refine same_len Ds D hnd HI.out.nd fun R => ⟨fun h => ?_, fun h => ?_⟩
    · refine (HSU.out R).2 ⟨fun e => ?_, hsub R h⟩
      rw [e] at hlen
      have : Ds = [] := List.eq_nil_of_length_eq_zero (by simpa using hlen)
      rw [this] at h
      cases h
    · obtain ⟨h1, h2⟩ := (HSU.out R).1 h
      exact hall R h1 h2
  rw [hnb]
  refine ⟨_, rfl, hS4, fun _ => ?_⟩
  simp only [List.setIfInBounds_toArray, List.set_cons_zero, List.set_cons_succ]
  clear hnd hsub hall hlen hnb hb4 hb3
  refine take_at (i := 7) 25 rfl rfl (by kernel_rfl) (by kernel_rfl) (by kernel_rfl) (fun _ _ _ h => h) (by rfl) (fun w hSw => by (have hSw2 := id hSw; clear hSw; go_simp; first | done | exact rfl)) (by assumption) ?_
  simp only [List.setIfInBounds_toArray, List.set_cons_zero, List.set_cons_succ]
  refine take_at (i := 8) 26 rfl rfl (by kernel_rfl) (by kernel_rfl) (by kernel_rfl) (fun _ _ _ h => h) (by rfl) (fun w hSw => by (have hSw2 := id hSw; clear hSw; go_simp; first | done | exact rfl)) (by assumption) ?_
  simp only [List.setIfInBounds_toArray, List.set_cons_zero, List.set_cons_succ]
  refine take_at (i := 9) 27 rfl rfl (by kernel_rfl) (by kernel_rfl) (by kernel_rfl) (fun _ _ _ h => h) (by rfl) (fun w hSw => by (have hSw2 := id hSw; clear hSw; go_simp; first | done | exact rfl)) (by assumption) ?_
  simp only [List.setIfInBounds_toArray, List.set_cons_zero, List.set_cons_succ]
  refine one_value (i := 10) (v := .bool true) (w' := w4) 2 (by kernel_rfl) rfl rfl (by rfl) (by go_simp; first | done | exact rfl) hS4 (fun _ => ?_)
  refine wpAnyH_done (by kernel_rfl) ?_ _
  simp only [List.setIfInBounds_toArray, List.set_cons_zero, List.set_cons_succ]
  go_wp2
  go_ret
  exact ⟨rfl, HB4.out.bel⟩
end Go.Proofs.YtnfjgbfmkelalaaDoor
