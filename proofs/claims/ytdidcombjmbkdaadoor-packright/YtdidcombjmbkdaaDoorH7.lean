/- Texts that were written apart, joined. -/
import Derived.Test.YtdidcombjmbkdaaDoorH3
import Derived.Test.YtdidcombjmbkdaaDoorFRState
import Derived.Test.YtdidcombjmbkdaaDoorH2
import Derived.Test.YtdidcombjmbkdaaDoorH5
import Derived.Test.YtdidcombjmbkdaaDoorH1
import Derived.Test.YtdidcombjmbkdaaDoorPairsIn
import Derived.Test.YtdidcombjmbkdaaDoorH0
import Derived.Deep.Strs
import Derived.Deep.Slices
/- FstSmallest: the law's own walk. -/
namespace Go.Proofs.YtdidcombjmbkdaaDoor
open Go.RowKit Nums Fm
set_option maxRecDepth 100000

theorem mach_subs {l : List Pr} (h : buildE l = 0) : ∃ D, Inv D (machOf l).2 ∧ ∀ R, R ∈ D ↔ (ents l ≠ [] ∧ Sub (ents l) R) := by
  by_cases hl : l = []
  · subst hl
    exact ⟨[], Inv.nil, fun R => ⟨fun h => (by cases h), fun h => absurd rfl h.1⟩⟩
  · obtain ⟨D, M⟩ := stF_spec 25 [] [] (ents l) Inv.nil (dict_good h hl)
    rw [machOf, if_pos ⟨h, hl⟩]
    refine ⟨D, M.inv, fun R => ⟨fun hR => ⟨ents_ne hl, ?_⟩, fun hR => M.all R hR.2⟩⟩
    rcases M.sub R hR with h | h
    · cases h
    · exact h
end Go.Proofs.YtdidcombjmbkdaaDoor

/- The reference's Build, whole. -/
namespace Go.Proofs.YtdidcombjmbkdaaDoor
open Go.RowKit Nums Fm Pm
set_option maxRecDepth 100000

theorem state_top (w : World) (v : Value) (l : List Pr) (hC : buildE l = 0) (hl : l ≠ []) (hr : RR w.heap.size w v (ents l)) : StateTop v l w := by
  have hG := dict_good hC hl
  have hD := dict_ok hC
  obtain ⟨e1, e2⟩ := ref_st 25 [] [] (ents l) Inv.nil hG
  have hM : machOf l = (least (ents l), (stF 25 [] (ents l)).1) := by rw [machOf, if_pos ⟨hC, hl⟩]
  obtain ⟨D, hI, hS⟩ := mach_subs hC
  rw [hM] at hI
  have hDD : (refF 25 [] [] (ents l)).1 = D := inv_one e2 hI
  have hsm := mach_small (l := l)
  rw [hM] at hsm
  have hin : StIn (fun _ => False) 25 w.heap.size w.heap.size w (.slice none 0 0) (.slice none 0 0) v [] [] (ents l) := by
    refine ⟨Inv.nil, hG, AllOwn.nil _ _ _, ⟨⟨[], GOwn.nil _ _ _ _, rfl, fun i s hi => by simp at hi⟩, fun k h => h.elim⟩, hr, Nat.le_refl _, Nat.le_refl _, ?_, fun R hR => ?_, fun e he => ?_⟩
    · rw [hDD, hI.len]
      simp only at hsm ⊢
      omega
    · rw [hDD] at hR
      obtain ⟨h0, hs⟩ := (hS R).1 hR
      obtain ⟨xs, n, hx, k, hk, rfl⟩ := sub_word hs hD.rise h0
      have hb := behind_len (xs.take k) (ents l)
      have hel := ents_len l
      have hl4 := hD.len
      refine ⟨?_, fun e he => ?_⟩
      · have : (level (behind (xs.take k) (ents l))).length = (behind (xs.take k) (ents l)).length := by simp [level, shift]
        omega
      · obtain ⟨y, hy, rfl⟩ := List.mem_map.1 he
        obtain ⟨z, hz, _, h3⟩ := behind_mem _ _ _ hy
        have := hD.en.ln z hz
        simp only
        omega
    · have := hD.en.wt e he
      omega
  refine (refState_any 25 _ _ _ _ _ _ _ _ _ _ hin).mono ?_
  rintro e w' ⟨A', vR', vS', rfl, hK⟩
  obtain ⟨ra, rc, h1⟩ := hK.rests.shape
  obtain ⟨sa, sc, h2⟩ := hK.states.shape
  have h3 : (refF 25 [] [] (ents l)).2.1 = (stF 25 [] (ents l)).1 := by rw [e1]
  have hb : Below w.heap.size w w' := ⟨hK.upd.os, hK.upd.tape, hK.upd.output, hK.upd.size, fun j hj => hK.upd.block j hj (fun h => by rcases h with h | h <;> cases h)⟩
  have hrow := hK.states.row
  rw [h3] at hrow
  subst h1
  subst h2
  exact ⟨_, _, _, _, _, _, _, rfl, hb, hrow⟩
theorem refBuild_all (w : World) (v : Value) (l : List Pr) (h : PRow w v l) (hsm : Sm l) :
    Calls Tryd.prog 23 #[v] w fun e w' => ∃ base vs b, e = .returned (.tuple #[.agg #[.int .i64 base, vs], .int .i64 (buildE l)]) ∧ BuildSays w w' l base vs b :=
  refBuild_any w v l h hsm fun hC w1 hb1 => refMake_any w1 v l (h.below hb1) hC fun hl w2 v2 _ hr => state_top w2 v2 l hC hl hr
end Go.Proofs.YtdidcombjmbkdaaDoor

/- PackRight: the law's own walk. -/
namespace Go.Proofs.YtdidcombjmbkdaaDoor
open Go.RowKit Nums Fm Pk
set_option maxRecDepth 100000

theorem refRight_all (E : Nat) (w : World) (base : Int) (m : List RSt) (vs : Value) (h : StsAt E w vs m) (hE : E ≤ w.heap.size) :
    Calls Tryd.prog 12 #[.agg #[.int .i64 base, vs]] w fun e w' => e = .returned (.bool (rightB base m)) ∧ Below w.heap.size w w' :=
  refRight_any E w base m vs h hE (fun W hW => (refPairs_any E W base m vs (h.below (hW.mono hE)) (Nat.le_trans hE hW.size)).mono fun _ _ hp => hp) (fun W vl l hp hs => refBuild_all W vl l hp hs)
set_option maxHeartbeats 4000000 in
theorem right_walk (v : Value) (w : World) (ht : Tabs w) (n : Int) (vs : Value) (m : List RSt) (hv : v = .agg #[.int .i64 n, vs]) (h : StsAt w.heap.size w vs m) :
    Calls Tryd.prog 3 #[v] w fun e w' => e = .returned (.bool true) ∧ Below w.heap.size w w' := by
  subst hv
  obtain ⟨ad, cap, rfl⟩ := h.shape
  obtain ⟨ns, hns⟩ : ∃ ns, m.length = ns := ⟨_, rfl⟩
  have HNS : Hid (m.length = ns) := hns
  have h63 := h.len
  rw [hns] at h h63 ⊢
  have HR : Hid (StsAt w.heap.size w (.slice ad ns cap) m) := h
  have HT : Hid (Tabs w) := ht
  obtain ⟨W0, hW0⟩ : ∃ W0, W0 = w.alloc (.cells #[.int .i64 n, .slice ad ns cap] 24) := ⟨_, rfl⟩
  obtain ⟨mb, hmb⟩ : ∃ mb, mb = w.heap.size := ⟨_, rfl⟩
  have HPB : Hid (PB w W0 mb n (.slice ad ns cap)) := ⟨by rw [hW0]; exact (Below.refl _ w).alloc (Nat.le_refl _) _, by rw [hW0, hmb]; exact alloc_newP _ _⟩
  clear h ht hns
  go_enter Tryd.func3, Tryd.ntmps3
  go_upto_region 1 with fail
  rw [← hW0, ← hmb]
  clear hW0 hmb
  by_cases hbig : 300 < ns
  · have hbz : (300 : Int) < (ns : Int) := by omega
    have HS0 : Hid (PB w W0.drew mb n (.slice ad ns cap)) := HPB.out.below (Below.refl _ W0).drew
    have hS0 : PB w W0.drew mb n (.slice ad ns cap) := HS0.out
    refine region_at (S := fun W => PB w W mb n (.slice ad ns cap)) 15 rfl mixedP hS0 (fun _ => ?_)
    refine one_call (i := 0) (w0 := W0.drew) 3 10 #[] (by kernel_rfl) rfl rfl (by rfl) (by kernel_rfl) ?_
    refine (alive_any W0.drew (HT.out.below HS0.out.bel)).mono ?_
    rintro e w1 ⟨rfl, hb1⟩
    have HP1 : Hid (PB w w1 mb n (.slice ad ns cap)) := HS0.out.below hb1
    have hS1 : PB w w1 mb n (.slice ad ns cap) := HP1.out
    clear hS0
    refine ⟨_, rfl, hS1, fun _ => ?_⟩
    simp only [List.setIfInBounds_toArray, List.set_cons_zero, List.set_cons_succ]
    refine take_at (i := 1) 4 rfl rfl (by kernel_rfl) (by kernel_rfl) (by kernel_rfl) (fun _ _ _ h => h) (by rfl) (fun w hSw => by (have hSw2 := PB.facts hSw; clear hSw; go_simp; first | done | exact rfl)) (by assumption) ?_
    simp only [List.setIfInBounds_toArray, List.set_cons_zero, List.set_cons_succ]
    refine take_at (i := 2) 5 rfl rfl (by kernel_rfl) (by kernel_rfl) (by kernel_rfl) (fun _ _ _ h => h) (by rfl) (fun w hSw => by (have hSw2 := PB.facts hSw; clear hSw; go_simp; first | done | exact rfl)) (by assumption) ?_
    simp only [List.setIfInBounds_toArray, List.set_cons_zero, List.set_cons_succ]
    refine take_at (i := 3) 6 rfl rfl (by kernel_rfl) (by kernel_rfl) (by kernel_rfl) (fun _ _ _ h => h) (by rfl) (fun w hSw => by (have hSw2 := PB.facts hSw; clear hSw; go_simp; first | done | exact rfl)) (by assumption) ?_
    simp only [List.setIfInBounds_toArray, List.set_cons_zero, List.set_cons_succ]
    refine take_at (i := 4) 7 rfl rfl (by kernel_rfl) (by kernel_rfl) (by kernel_rfl) (fun _ _ _ h => h) (by rfl) (fun w hSw => by (have hSw2 := PB.facts hSw; clear hSw; go_simp; first | done | exact rfl)) (by assumption) ?_
    simp only [List.setIfInBounds_toArray, List.set_cons_zero, List.set_cons_succ]
    refine take_at (i := 5) (v := .bool true) 8 rfl rfl (by kernel_rfl) (by kernel_rfl) (by kernel_rfl) (fun _ _ _ h => h) (by rfl) (fun w hSw => by (have hSw2 := PB.facts hSw; clear hSw; go_simp; first | done | exact rfl | simp_all | (simp; omega))) (by assumption) ?_
    simp only [List.setIfInBounds_toArray, List.set_cons_zero, List.set_cons_succ]
    refine take_at (i := 6) 9 rfl rfl (by kernel_rfl) (by kernel_rfl) (by kernel_rfl) (fun _ _ _ h => h) (by rfl) (fun w hSw => by (have hSw2 := PB.facts hSw; clear hSw; go_simp; first | done | exact rfl)) (by assumption) ?_
    simp only [List.setIfInBounds_toArray, List.set_cons_zero, List.set_cons_succ]
    refine pass_at (i := 7) 10 rfl rfl (by kernel_rfl) (by kernel_rfl) (by kernel_rfl) (fun _ _ _ h => h) (by rfl) (by assumption) ?_
    simp only [List.setIfInBounds_toArray, List.set_cons_zero, List.set_cons_succ]
    refine pass_at (i := 8) 11 rfl rfl (by kernel_rfl) (by kernel_rfl) (by kernel_rfl) (fun _ _ _ h => h) (by rfl) (by assumption) ?_
    simp only [List.setIfInBounds_toArray, List.set_cons_zero, List.set_cons_succ]
    refine pass_at (i := 9) 12 rfl rfl (by kernel_rfl) (by kernel_rfl) (by kernel_rfl) (fun _ _ _ h => h) (by rfl) (by assumption) ?_
    simp only [List.setIfInBounds_toArray, List.set_cons_zero, List.set_cons_succ]
    refine pass_at (i := 10) 13 rfl rfl (by kernel_rfl) (by kernel_rfl) (by kernel_rfl) (fun _ _ _ h => h) (by rfl) (by assumption) ?_
    simp only [List.setIfInBounds_toArray, List.set_cons_zero, List.set_cons_succ]
    refine pass_at (i := 11) 14 rfl rfl (by kernel_rfl) (by kernel_rfl) (by kernel_rfl) (fun _ _ _ h => h) (by rfl) (by assumption) ?_
    simp only [List.setIfInBounds_toArray, List.set_cons_zero, List.set_cons_succ]
    refine take_at (i := 12) 15 rfl rfl (by kernel_rfl) (by kernel_rfl) (by kernel_rfl) (fun _ _ _ h => h) (by rfl) (fun w hSw => by (have hSw2 := PB.facts hSw; clear hSw; go_simp; first | done | exact rfl)) (by assumption) ?_
    simp only [List.setIfInBounds_toArray, List.set_cons_zero, List.set_cons_succ]
    refine take_at (i := 13) 16 rfl rfl (by kernel_rfl) (by kernel_rfl) (by kernel_rfl) (fun _ _ _ h => h) (by rfl) (fun w hSw => by (have hSw2 := PB.facts hSw; clear hSw; go_simp; first | done | exact rfl)) (by assumption) ?_
    simp only [List.setIfInBounds_toArray, List.set_cons_zero, List.set_cons_succ]
    refine one_value (i := 14) (v := .bool true) (w' := w1) 2 (by kernel_rfl) rfl rfl (by rfl) (by kernel_rfl) hS1 (fun _ => ?_)
    refine wpAnyH_done (by kernel_rfl) ?_ _
    simp only [List.setIfInBounds_toArray, List.set_cons_zero, List.set_cons_succ]
    clear hS1
    go_wp2
    go_ret
    exact ⟨rfl, HP1.out.bel⟩
  · have hbz : ¬ (300 : Int) < (ns : Int) := by omega
    obtain ⟨F, hF⟩ : ∃ F, rightB n m = F := ⟨_, rfl⟩
    have HF : Hid (rightB n m = F) := hF
    have HRA : Hid (∀ W, Below w.heap.size w W → Calls Tryd.prog 11 #[.agg #[.int .i64 n, .slice ad ns cap]] W fun e w' => e = .returned (.bool F) ∧ Below W.heap.size W w') := fun W hW => by
      have := Right_any W.heap.size W n m (.slice ad ns cap) ((HR.out.below hW).mono hW.size) (Nat.le_refl _) (HT.out.below hW) (by have := HNS.out; omega)
      rw [hF] at this
      exact this
    have HRB : Hid (∀ W, Below w.heap.size w W → Calls Tryd.prog 12 #[.agg #[.int .i64 n, .slice ad ns cap]] W fun e w' => e = .returned (.bool F) ∧ Below W.heap.size W w') := fun W hW => by
      have := refRight_all W.heap.size W n m (.slice ad ns cap) ((HR.out.below hW).mono hW.size) (Nat.le_refl _)
      rw [hF] at this
      exact this
    clear hF
    have HS0 : Hid (PB w W0.drew mb n (.slice ad ns cap)) := HPB.out.below (Below.refl _ W0).drew
    have hS0 : PB w W0.drew mb n (.slice ad ns cap) := HS0.out
    refine region_at (S := fun W => PB w W mb n (.slice ad ns cap)) 15 rfl mixedP hS0 (fun _ => ?_)
    refine one_call (i := 0) (w0 := W0.drew) 3 10 #[] (by kernel_rfl) rfl rfl (by rfl) (by kernel_rfl) ?_
    refine (alive_any W0.drew (HT.out.below HS0.out.bel)).mono ?_
    rintro e w1 ⟨rfl, hb1⟩
    have HP1 : Hid (PB w w1 mb n (.slice ad ns cap)) := HS0.out.below hb1
    have hS1 : PB w w1 mb n (.slice ad ns cap) := HP1.out
    clear hS0
    refine ⟨_, rfl, hS1, fun _ => ?_⟩
    simp only [List.setIfInBounds_toArray, List.set_cons_zero, List.set_cons_succ]
    refine take_at (i := 1) 4 rfl rfl (by kernel_rfl) (by kernel_rfl) (by kernel_rfl) (fun _ _ _ h => h) (by rfl) (fun w hSw => by (have hSw2 := PB.facts hSw; clear hSw; go_simp; first | done | exact rfl)) (by assumption) ?_
    simp only [List.setIfInBounds_toArray, List.set_cons_zero, List.set_cons_succ]
    refine take_at (i := 2) 5 rfl rfl (by kernel_rfl) (by kernel_rfl) (by kernel_rfl) (fun _ _ _ h => h) (by rfl) (fun w hSw => by (have hSw2 := PB.facts hSw; clear hSw; go_simp; first | done | exact rfl)) (by assumption) ?_
    simp only [List.setIfInBounds_toArray, List.set_cons_zero, List.set_cons_succ]
    refine take_at (i := 3) 6 rfl rfl (by kernel_rfl) (by kernel_rfl) (by kernel_rfl) (fun _ _ _ h => h) (by rfl) (fun w hSw => by (have hSw2 := PB.facts hSw; clear hSw; go_simp; first | done | exact rfl)) (by assumption) ?_
    simp only [List.setIfInBounds_toArray, List.set_cons_zero, List.set_cons_succ]
    refine take_at (i := 4) 7 rfl rfl (by kernel_rfl) (by kernel_rfl) (by kernel_rfl) (fun _ _ _ h => h) (by rfl) (fun w hSw => by (have hSw2 := PB.facts hSw; clear hSw; go_simp; first | done | exact rfl)) (by assumption) ?_
    simp only [List.setIfInBounds_toArray, List.set_cons_zero, List.set_cons_succ]
    refine take_at (i := 5) (v := .bool false) 8 rfl rfl (by kernel_rfl) (by kernel_rfl) (by kernel_rfl) (fun _ _ _ h => h) (by rfl) (fun w hSw => by (have hSw2 := PB.facts hSw; clear hSw; go_simp; first | done | exact rfl | simp_all | (simp; omega))) (by assumption) ?_
    simp only [List.setIfInBounds_toArray, List.set_cons_zero, List.set_cons_succ]
    refine take_at (i := 6) 9 rfl rfl (by kernel_rfl) (by kernel_rfl) (by kernel_rfl) (fun _ _ _ h => h) (by rfl) (fun w hSw => by (have hSw2 := PB.facts hSw; clear hSw; go_simp; first | done | exact rfl)) (by assumption) ?_
    simp only [List.setIfInBounds_toArray, List.set_cons_zero, List.set_cons_succ]
    refine take_at (i := 7) 10 rfl rfl (by kernel_rfl) (by kernel_rfl) (by kernel_rfl) (fun _ _ _ h => h) (by rfl) (fun w hSw => by (have hSw2 := PB.facts hSw; clear hSw; go_simp; first | done | exact rfl)) (by assumption) ?_
    simp only [List.setIfInBounds_toArray, List.set_cons_zero, List.set_cons_succ]
    refine take_at (i := 9) 12 rfl rfl (by kernel_rfl) (by kernel_rfl) (by kernel_rfl) (fun _ _ _ h => h) (by rfl) (fun w hSw => by (have hSw2 := PB.facts hSw; clear hSw; go_simp; first | done | exact rfl)) (by assumption) ?_
    simp only [List.setIfInBounds_toArray, List.set_cons_zero, List.set_cons_succ]
    refine one_call (i := 8) (w0 := w1) 11 11 #[.agg #[.int .i64 n, .slice ad ns cap]] (by kernel_rfl) rfl rfl (by rfl) (by kernel_rfl) ?_
    refine (HRA.out _ HP1.out.bel).mono ?_
    rintro e w2 ⟨rfl, hb2⟩
    have HP2 : Hid (PB w w2 mb n (.slice ad ns cap)) := HP1.out.below hb2
    have hS2 : PB w w2 mb n (.slice ad ns cap) := HP2.out
    refine ⟨_, rfl, hS2, fun _ => ?_⟩
    simp only [List.setIfInBounds_toArray, List.set_cons_zero, List.set_cons_succ]
    refine one_call (i := 10) (w0 := w2) 13 12 #[.agg #[.int .i64 n, .slice ad ns cap]] (by kernel_rfl) rfl rfl (by rfl) (by kernel_rfl) ?_
    refine (HRB.out _ HP2.out.bel).mono ?_
    rintro e w3 ⟨rfl, hb3⟩
    have HP3 : Hid (PB w w3 mb n (.slice ad ns cap)) := HP2.out.below hb3
    have hS3 : PB w w3 mb n (.slice ad ns cap) := HP3.out
    refine ⟨_, rfl, hS3, fun _ => ?_⟩
    simp only [List.setIfInBounds_toArray, List.set_cons_zero, List.set_cons_succ]
    clear hS1 hS2
    refine take_at (i := 11) (v := .bool true) 14 rfl rfl (by kernel_rfl) (by kernel_rfl) (by kernel_rfl) (fun _ _ _ h => h) (by rfl) (fun w hSw => by (have hSw2 := PB.facts hSw; clear hSw; go_simp; first | done | exact rfl | simp_all | (simp; omega))) (by assumption) ?_
    simp only [List.setIfInBounds_toArray, List.set_cons_zero, List.set_cons_succ]
    refine take_at (i := 12) 15 rfl rfl (by kernel_rfl) (by kernel_rfl) (by kernel_rfl) (fun _ _ _ h => h) (by rfl) (fun w hSw => by (have hSw2 := PB.facts hSw; clear hSw; go_simp; first | done | exact rfl)) (by assumption) ?_
    simp only [List.setIfInBounds_toArray, List.set_cons_zero, List.set_cons_succ]
    refine take_at (i := 13) 16 rfl rfl (by kernel_rfl) (by kernel_rfl) (by kernel_rfl) (fun _ _ _ h => h) (by rfl) (fun w hSw => by (have hSw2 := PB.facts hSw; clear hSw; go_simp; first | done | exact rfl)) (by assumption) ?_
    simp only [List.setIfInBounds_toArray, List.set_cons_zero, List.set_cons_succ]
    refine one_value (i := 14) (v := .bool true) (w' := w3) 2 (by kernel_rfl) rfl rfl (by rfl) (by kernel_rfl) hS3 (fun _ => ?_)
    refine wpAnyH_done (by kernel_rfl) ?_ _
    simp only [List.setIfInBounds_toArray, List.set_cons_zero, List.set_cons_succ]
    clear hS3
    go_wp2
    go_ret
    exact ⟨rfl, HP3.out.bel⟩
end Go.Proofs.YtdidcombjmbkdaaDoor

/- Machines that came in: what the walks ask of them, out of their reading. -/
namespace Go.Proofs.YtdidcombjmbkdaaDoor
open Go.ChangeShapes Go.WideShapes Go.ChangeAt Go.RowKit Go.Deep Fm Pk
set_option maxRecDepth 100000

theorem arcCells : Tryd.prog.cellsOf 74 = 3 := by kernel_rfl
theorem stateCells : Tryd.prog.cellsOf 44 = 3 := by kernel_rfl
theorem machCells : Tryd.prog.cellsOf 24 = 2 := by kernel_rfl
theorem i32Cells : Tryd.prog.cellsOf 21 = 1 := by kernel_rfl
theorem boolCells : Tryd.prog.cellsOf 4 = 1 := by kernel_rfl
theorem arcsCells : Tryd.prog.cellsOf 42 = 1 := by kernel_rfl
theorem statesCells : Tryd.prog.cellsOf 22 = 1 := by kernel_rfl
theorem choose_list {α : Type} {len : Nat} {P : Nat → α → Prop} (each : ∀ i, i < len → ∃ o, P i o) : ∃ L : List α, L.length = len ∧ ∀ i o, L[i]? = some o → P i o := by
  refine ⟨(List.range len).attach.map fun i => Classical.choose (each i.1 (List.mem_range.1 i.2)), by simp, fun i o hi => ?_⟩
  obtain ⟨h, rfl⟩ := List.getElem?_eq_some_iff.1 hi
  simp only [List.getElem_map, List.getElem_attach, List.getElem_range]
  have hlt : i < len := by simpa using h
  exact Classical.choose_spec (each i hlt)
theorem plain_addr {W : World} {a : Addr} {v : Value} (h : W.cell? (a.add 0) = some v) : ∃ b off, a = ⟨b, off, none⟩ := by
  obtain ⟨b, off, sp⟩ := a
  cases sp with
  | none => exact ⟨b, off, rfl⟩
  | some s => exfalso; revert h; unfold Addr.add World.cell?; split <;> simp
theorem addr_add (b off j : Nat) : (⟨b, off, none⟩ : Addr).add j = ⟨b, off + j, none⟩ := by unfold Addr.add; split <;> simp_all
/-- A row of three cells each, out of its elements. -/
theorem row3 {W : World} {a : Addr} {len cap : Nat} {xss : List (List Value)} (hl : xss.length = len) (h : ∀ (i : Nat) (x : List Value), xss[i]? = some x → ∃ u0 u1 u2, x = [u0, u1, u2] ∧ W.cell? (a.add (i * 3)) = some u0 ∧ W.cell? (a.add (i * 3 + 1)) = some u1 ∧ W.cell? (a.add (i * 3 + 2)) = some u2) : GRow W.heap.size 3 W (.slice (some a) len cap) xss := by
  refine ⟨some a, cap, by rw [hl], fun h0 => ?_⟩
  obtain ⟨x, hx⟩ : ∃ x, xss[0]? = some x := ⟨xss[0], List.getElem?_eq_getElem h0⟩
  obtain ⟨u0, u1, u2, _, c0, _⟩ := h 0 x hx
  rw [Nat.zero_mul] at c0
  obtain ⟨b, off, rfl⟩ := plain_addr c0
  rw [addr_add] at c0
  refine ⟨b, off, rfl, lt_of_cell c0, fun i j x u hi hj => ?_⟩
  obtain ⟨u0, u1, u2, rfl, c0, c1, c2⟩ := h i x hi
  rw [addr_add] at c0 c1 c2
  match j, hj with
  | 0, hj => simp only [List.getElem?_cons_zero, Option.some.injEq] at hj; rw [← hj]; exact c0
  | 1, hj => simp at hj; rw [← hj]; simpa [Nat.add_assoc] using c1
  | 2, hj => simp at hj; rw [← hj]; simpa [Nat.add_assoc] using c2
  | n + 3, hj => simp at hj
theorem three_cells {W : World} {a : Addr} {i : Nat} {cs : List Value} (h : W.cells? 0 (a.add (i * 3)) 3 = some cs) : ∃ u0 u1 u2, cs = [u0, u1, u2] ∧ W.cell? (a.add (i * 3)) = some u0 ∧ W.cell? (a.add (i * 3 + 1)) = some u1 ∧ W.cell? (a.add (i * 3 + 2)) = some u2 := by
  obtain ⟨_, hlen, hcell⟩ := World.cells?_some h
  match cs, hlen with
  | [u0, u1, u2], _ =>
    have c0 := hcell 0 (by simp)
    have c1 := hcell 1 (by simp)
    have c2 := hcell 2 (by simp)
    rw [add_add] at c0 c1 c2
    exact ⟨u0, u1, u2, rfl, by simpa using c0, by simpa using c1, by simpa using c2⟩
theorem arc_cells {H : Type} {enc : TypeId × Value → H} {W : World} {fuel : Nat} {u0 u1 u2 : Value} {x : DataW H × List MemPlace}
    (h : DataW.trod enc Tryd.prog W 0 (fun _ => true) true fuel 74 [u0, u1, u2] = some x) : ∃ q : RArc, [u0, u1, u2] = cellsRA q ∧ OkRA q := by
  obtain ⟨y0, y1, y2, n, _, _, g0, g1, g2⟩ := trod_struct3 Tryd.underlying74 h
  simp [i32Cells, intCells] at g0 g1 g2
  obtain ⟨z0, e0, _, w0⟩ := DataW.trod_int Tryd.underlying21 g0
  obtain ⟨z1, e1, _, w1⟩ := DataW.trod_int Tryd.underlying3 g1
  obtain ⟨z2, e2, _, w2⟩ := DataW.trod_int Tryd.underlying3 g2
  simp only [List.cons.injEq, and_true] at e0 e1 e2
  subst e0 e1 e2
  exact ⟨⟨z0, z1, z2⟩, rfl, bounds_i32 w0, bounds_i64 w1, bounds_i64 w2⟩
theorem arcs_in {H : Type} {enc : TypeId × Value → H} {W : World} {fuel : Nat} {va : Value} {x : DataW H × List MemPlace}
    (h : DataW.trod enc Tryd.prog W 0 (fun _ => true) true fuel 42 [va] = some x) : ∃ l : List RArc, ArcsAt W.heap.size W va l := by
  rcases open_slice Tryd.underlying42 h with ⟨hcs, _⟩ | ⟨a, len, cap, m, n, D, Pl, hcs, _, hl, hm, hmm, _, hel⟩
  · simp only [List.cons.injEq, and_true] at hcs
    subst hcs
    exact ⟨[], ⟨⟨none, 0, rfl, fun h => by simp at h⟩, (fun a ha => absurd ha List.not_mem_nil), by simp⟩⟩
  · simp only [List.cons.injEq, and_true] at hcs
    subst hcs
    have hlm : len ≤ m := by rw [hmm]; split <;> omega
    have each : ∀ i, i < len → ∃ q : RArc, OkRA q ∧ W.cell? (a.add (i * 3)) = some (.int .i32 q.label) ∧ W.cell? (a.add (i * 3 + 1)) = some (.int .i64 q.out) ∧ W.cell? (a.add (i * 3 + 2)) = some (.int .i64 q.to) := by
      intro i hi
      obtain ⟨cs', h1, h2⟩ := hel i (by omega)
      rw [arcCells] at h1
      obtain ⟨u0, u1, u2, rfl, c0, c1, c2⟩ := three_cells h1
      obtain ⟨q, e, hq⟩ := arc_cells h2
      simp only [cellsRA, List.cons.injEq, and_true] at e
      rw [e.1] at c0
      rw [e.2.1] at c1
      rw [e.2.2] at c2
      exact ⟨q, hq, c0, c1, c2⟩
    obtain ⟨L, hL, hP⟩ := choose_list each
    refine ⟨L, ⟨row3 (by rw [List.length_map, hL]) (fun i x hi => ?_), fun q hq => ?_, by unfold maxLen at hm; omega⟩⟩
    · rw [List.getElem?_map] at hi
      obtain ⟨q, hq, rfl⟩ := Option.map_eq_some_iff.1 hi
      obtain ⟨_, c0, c1, c2⟩ := hP i q hq
      exact ⟨_, _, _, rfl, c0, c1, c2⟩
    · obtain ⟨i, hi⟩ := List.mem_iff_getElem?.1 hq
      exact (hP i q hi).1
theorem state_cells {H : Type} {enc : TypeId × Value → H} {W : World} {fuel : Nat} {u0 u1 u2 : Value} {x : DataW H × List MemPlace}
    (h : DataW.trod enc Tryd.prog W 0 (fun _ => true) true fuel 44 [u0, u1, u2] = some x) : ∃ q : RSt, u0 = .bool q.final ∧ u1 = .int .i64 q.out ∧ Fits64 q.out ∧ ArcsAt W.heap.size W u2 q.arcs := by
  obtain ⟨y0, y1, y2, n, _, _, g0, g1, g2⟩ := trod_struct3 Tryd.underlying44 h
  simp [boolCells, intCells, arcsCells] at g0 g1 g2
  obtain ⟨z0, e0, _⟩ := DataW.trod_bool Tryd.underlying4 g0
  obtain ⟨z1, e1, _, w1⟩ := DataW.trod_int Tryd.underlying3 g1
  obtain ⟨l, hl⟩ := arcs_in g2
  simp only [List.cons.injEq, and_true] at e0 e1
  subst e0 e1
  exact ⟨⟨z0, z1, l⟩, rfl, rfl, bounds_i64 w1, hl⟩
theorem states_in {H : Type} {enc : TypeId × Value → H} {W : World} {fuel : Nat} {vs : Value} {x : DataW H × List MemPlace}
    (h : DataW.trod enc Tryd.prog W 0 (fun _ => true) true fuel 22 [vs] = some x) : ∃ m : List RSt, StsAt W.heap.size W vs m := by
  rcases open_slice Tryd.underlying22 h with ⟨hcs, _⟩ | ⟨a, len, cap, m, n, D, Pl, hcs, _, hl, hm, hmm, _, hel⟩
  · simp only [List.cons.injEq, and_true] at hcs
    subst hcs
    exact ⟨[], ⟨⟨[], ⟨none, 0, rfl, fun h => by simp at h⟩, rfl, fun i s hi => by simp at hi⟩, (fun s hs => absurd hs List.not_mem_nil), by simp⟩⟩
  · simp only [List.cons.injEq, and_true] at hcs
    subst hcs
    have hlm : len ≤ m := by rw [hmm]; split <;> omega
    have each : ∀ i, i < len → ∃ q : RSt × Value, Fits64 q.1.out ∧ ArcsAt W.heap.size W q.2 q.1.arcs ∧ W.cell? (a.add (i * 3)) = some (.bool q.1.final) ∧ W.cell? (a.add (i * 3 + 1)) = some (.int .i64 q.1.out) ∧ W.cell? (a.add (i * 3 + 2)) = some q.2 := by
      intro i hi
      obtain ⟨cs', h1, h2⟩ := hel i (by omega)
      rw [stateCells] at h1
      obtain ⟨u0, u1, u2, rfl, c0, c1, c2⟩ := three_cells h1
      obtain ⟨q, rfl, rfl, hq, ha⟩ := state_cells h2
      exact ⟨(q, u2), hq, ha, c0, c1, c2⟩
    obtain ⟨L, hL, hP⟩ := choose_list each
    refine ⟨L.map Prod.fst, ⟨⟨L.map fun q => [.bool q.1.final, .int .i64 q.1.out, q.2], row3 (by rw [List.length_map, hL]) (fun i x hi => ?_), by simp, fun i s hi => ?_⟩, fun s hs => ?_, by unfold maxLen at hm; rw [List.length_map]; omega⟩⟩
    · rw [List.getElem?_map] at hi
      obtain ⟨q, hq, rfl⟩ := Option.map_eq_some_iff.1 hi
      obtain ⟨_, _, c0, c1, c2⟩ := hP i q hq
      exact ⟨_, _, _, rfl, c0, c1, c2⟩
    · rw [List.getElem?_map] at hi
      obtain ⟨q, hq, rfl⟩ := Option.map_eq_some_iff.1 hi
      obtain ⟨_, ha, _⟩ := hP i q hq
      exact ⟨q.2, by rw [List.getElem?_map, hq]; rfl, ha⟩
    · obtain ⟨q, hq, rfl⟩ := List.mem_map.1 hs
      obtain ⟨i, hi⟩ := List.mem_iff_getElem?.1 hq
      exact (hP i q hi).1
/-- A machine that came in. -/
theorem mach_in {H : Type} {enc : TypeId × Value → H} {W : World} {base : Nat} {v : Value} {d : DataW H} {p : List MemPlace}
    (hok : Value.okWide Tryd.prog W .any base 24 v) (h : DataW.Trod enc Tryd.prog W 0 (fun _ => true) true 24 v d p) : ∃ (n : Int) (vs : Value) (m : List RSt), v = .agg #[.int .i64 n, vs] ∧ Fits64 n ∧ StsAt W.heap.size W vs m := by
  obtain ⟨cs, rfl, hsz⟩ := okWide_struct Tryd.underlying24 hok
  obtain ⟨fuel, hf⟩ := h
  obtain ⟨y0, y1, n, _, hl, g0, g1⟩ := trod_struct2 Tryd.underlying24 hf
  rw [machCells] at hl
  have hcs : (Value.agg cs).cells.toList = cs.toList := by simp [Value.cells]
  rw [hcs] at hl g0 g1
  obtain ⟨u0, u1, hu⟩ : ∃ u0 u1, cs.toList = [u0, u1] := by
    match hh : cs.toList, hl with
    | [u0, u1], _ => exact ⟨u0, u1, rfl⟩
  rw [hu] at g0 g1
  simp [intCells, statesCells] at g0 g1
  obtain ⟨z, e0, _, w0⟩ := DataW.trod_int Tryd.underlying3 g0
  obtain ⟨m, hm⟩ := states_in g1
  simp only [List.cons.injEq, and_true] at e0
  subst e0
  exact ⟨z, u1, m, by rw [show cs = #[.int .i64 z, u1] from Array.toList_inj.1 hu], bounds_i64 w0, hm⟩
end Go.Proofs.YtdidcombjmbkdaaDoor
