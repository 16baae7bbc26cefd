/- PairsApart: the law's own walk. -/
import Derived.Test.YtjanhebckonbaaaDoorAlive6
import Derived.Test.YtjanhebckonbaaaDoorSameP
import Derived.Test.YtjanhebckonbaaaDoorTwiceW
import Derived.Test.YtjanhebckonbaaaDoorDrawn6
namespace Go.Proofs.YtjanhebckonbaaaDoor
open Go.RowKit Nums Pm
set_option maxRecDepth 100000

/-- All that lay there when the boxes were laid lies there still. -/
def AS (wB : World) (W : World) : Prop := Below wB.heap.size wB W
set_option maxHeartbeats 2000000 in
theorem apart_walk (v : Value) (p q : Pr) (w : World) (ht : Tabs w) (l : List Pr) (h : PRow w v l) (_ : Sm l) (hl : l.length ≤ 1048576) (_ : p.1.size ≤ 9223372036854775807) (_ : q.1.size ≤ 9223372036854775807) :
    Calls Tryd.prog 10 #[v, .agg #[.string p.1, .int .i64 p.2], .agg #[.string q.1, .int .i64 q.2]] w fun e w' => e = .returned (.bool true) ∧ Below w.heap.size w w' := by
  obtain ⟨wB, hwB⟩ : ∃ wB, wB = (w.alloc (.cells #[.string p.1, .int .i64 p.2] 32)).alloc (.cells #[.string q.1, .int .i64 q.2] 32) := ⟨_, rfl⟩
  have HBB : Hid (Below w.heap.size w wB) := by show Below _ _ _; rw [hwB]; exact ((Below.refl _ w).alloc (Nat.le_refl _) _).alloc (by simp) _
  have HTP : Hid (TwoAt wB w.heap.size 0 p) := by show TwoAt _ _ _ _; rw [hwB]; exact (TwoAt.new w p _).below (by simp) ((Below.refl _ _).alloc (Nat.le_refl _) _)
  have HTQ : Hid (TwoAt wB (w.heap.size + 1) 0 q) := by
    show TwoAt _ _ _ _
    have h := TwoAt.new (w.alloc (.cells #[.string p.1, .int .i64 p.2] 32)) q 32
    have e : (w.alloc (.cells #[.string p.1, .int .i64 p.2] 32)).heap.size = w.heap.size + 1 := by simp
    rw [e] at h
    rw [hwB]
    exact h
  have hsB : wB.heap.size = w.heap.size + 1 + 1 := by rw [hwB]; simp
  have HASF : Hid (∀ W, AS wB W → W.cell? ⟨w.heap.size, 0, none⟩ = some (.string p.1) ∧ W.cell? ⟨w.heap.size, 1, none⟩ = some (.int .i64 p.2) ∧ W.cell? ⟨w.heap.size + 1, 0, none⟩ = some (.string q.1) ∧ W.cell? ⟨w.heap.size + 1, 1, none⟩ = some (.int .i64 q.2)) := fun W hW => by
    have a := HTP.out.below (by omega) hW
    have b := HTQ.out.below (by omega) hW
    exact ⟨a.c0, a.c1, b.c0, b.c1⟩
  have HR : Hid (∀ W, AS wB W → PRow W v l ∧ Tabs W ∧ Below w.heap.size w W) := fun W hW => ⟨(h.below HBB.out).below hW, (ht.below HBB.out).below hW, HBB.out.trans (hW.mono HBB.out.size)⟩
  have HAL : Hid (∀ W, AS wB W → ∀ o, AS wB (W.alloc o)) := fun W hW o => hW.alloc hW.size o
  have HS0 : Hid (AS wB wB.drew) := (Below.refl _ wB).drew
  clear h ht HBB HTP HTQ hsB
  by_cases hpq : p.1 = q.1
  · have hb : (p.1.toList == q.1.toList) = true := by rw [strEq]; exact decide_eq_true hpq
    clear hpq
    go_enter Tryd.func10, Tryd.ntmps10
    go_wp2_with (go_at_call 11; rw [← hwB]; refine (alive_any _ (HR.out _ (Below.refl _ _)).2.1).mono ?_; rintro e w2 ⟨rfl, hb2⟩)
    go_ret
    exact ⟨rfl, (HR.out _ (Below.refl _ _)).2.2.trans (hb2.mono (HR.out _ (Below.refl _ _)).2.2.size)⟩
  · have hb : (p.1.toList == q.1.toList) = false := by rw [strEq]; exact decide_eq_false hpq
    have HM : Hid (merge lessB l [p, q] = merge lessB l [q, p]) := merge_swap lessB_sto l p q hpq
    have HML : Hid ((merge lessB l [p, q]).length ≤ 1048578) := by show _ ≤ _; have a := merge_len l [p, q]; simp at a; omega
    clear hpq
    go_enter Tryd.func10, Tryd.ntmps10
    go_upto_region 3 with fail
    rw [← hwB]
    clear hwB
    refine region_at (S := AS wB) 15 rfl (by kernel_rfl) HS0.out (fun hHeld => ?_)
    refine one_call (i := 0) (w0 := wB.drew) 13 11 #[] (by kernel_rfl) rfl rfl (by rfl) (by kernel_rfl) ?_
    refine (alive_any _ (HR.out _ HS0.out).2.1).mono ?_
    rintro e w1 ⟨rfl, hb1⟩
    have hS1 : AS wB w1 := HS0.out.trans (hb1.mono HS0.out.size)
    refine ⟨_, rfl, hS1, fun _ => ?_⟩
    simp only [List.setIfInBounds_toArray, List.set_cons_zero, List.set_cons_succ]
    clear hHeld
    refine take_at (i := 1) 14 rfl rfl (by kernel_rfl) (by kernel_rfl) (by kernel_rfl) (fun _ _ _ h => h) (by rfl) (fun w hSw => by (have hSw2 := HASF.out _ hSw; clear hSw; go_simp; first | done | exact rfl)) (by assumption) ?_
    simp only [List.setIfInBounds_toArray, List.set_cons_zero, List.set_cons_succ]
    refine take_at (i := 2) 15 rfl rfl (by kernel_rfl) (by kernel_rfl) (by kernel_rfl) (fun _ _ _ h => h) (by rfl) (fun w hSw => by (have hSw2 := HASF.out _ hSw; clear hSw; go_simp; first | done | exact rfl)) (by assumption) ?_
    simp only [List.setIfInBounds_toArray, List.set_cons_zero, List.set_cons_succ]
    refine take_at (i := 3) 16 rfl rfl (by kernel_rfl) (by kernel_rfl) (by kernel_rfl) (fun _ _ _ h => h) (by rfl) (fun w hSw => by (have hSw2 := HASF.out _ hSw; clear hSw; go_simp; first | done | exact rfl)) (by assumption) ?_
    simp only [List.setIfInBounds_toArray, List.set_cons_zero, List.set_cons_succ]
    refine take_at (i := 4) 17 rfl rfl (by kernel_rfl) (by kernel_rfl) (by kernel_rfl) (fun _ _ _ h => h) (by rfl) (fun w hSw => by (have hSw2 := HASF.out _ hSw; clear hSw; go_simp; first | done | exact rfl)) (by assumption) ?_
    simp only [List.setIfInBounds_toArray, List.set_cons_zero, List.set_cons_succ]
    refine take_at (i := 7) 20 rfl rfl (by kernel_rfl) (by kernel_rfl) (by kernel_rfl) (fun _ _ _ h => h) (by rfl) (fun w hSw => by (have hSw2 := HASF.out _ hSw; clear hSw; go_simp; first | done | exact rfl)) (by assumption) ?_
    simp only [List.setIfInBounds_toArray, List.set_cons_zero, List.set_cons_succ]
    refine take_at (i := 8) 21 rfl rfl (by kernel_rfl) (by kernel_rfl) (by kernel_rfl) (fun _ _ _ h => h) (by rfl) (fun w hSw => by (have hSw2 := HASF.out _ hSw; clear hSw; go_simp; first | done | exact rfl)) (by assumption) ?_
    simp only [List.setIfInBounds_toArray, List.set_cons_zero, List.set_cons_succ]
    refine take_at (i := 9) 22 rfl rfl (by kernel_rfl) (by kernel_rfl) (by kernel_rfl) (fun _ _ _ h => h) (by rfl) (fun w hSw => by (have hSw2 := HASF.out _ hSw; clear hSw; go_simp; first | done | exact rfl)) (by assumption) ?_
    simp only [List.setIfInBounds_toArray, List.set_cons_zero, List.set_cons_succ]
    clear hb1
    have hab := fun (W : World) (h : AS wB W) => (⟨two_new W p q 32 2, HAL.out W h _⟩ : PRow (W.alloc (.cells #[.string p.1, .int .i64 p.2, .string q.1, .int .i64 q.2] 32)) (.slice (some ⟨W.heap.size, 0, none⟩) 2 2) [p, q] ∧ AS wB (W.alloc (.cells #[.string p.1, .int .i64 p.2, .string q.1, .int .i64 q.2] 32)))
    have hba := fun (W : World) (h : AS wB W) => (⟨two_new W q p 32 2, HAL.out W h _⟩ : PRow (W.alloc (.cells #[.string q.1, .int .i64 q.2, .string p.1, .int .i64 p.2] 32)) (.slice (some ⟨W.heap.size, 0, none⟩) 2 2) [q, p] ∧ AS wB (W.alloc (.cells #[.string q.1, .int .i64 q.2, .string p.1, .int .i64 p.2] 32)))
    have HAB : Hid _ := hab
    have HBA : Hid _ := hba
    clear hab hba
    refine two_value (i := 5) (j := 10) (v := .slice (some ⟨w1.heap.size, 0, none⟩) 2 2) (v' := .slice (some ⟨w1.heap.size, 0, none⟩) 2 2) (w1 := w1.alloc (.cells #[.string p.1, .int .i64 p.2, .string q.1, .int .i64 q.2] 32)) (w2 := w1.alloc (.cells #[.string q.1, .int .i64 q.2, .string p.1, .int .i64 p.2] 32)) 18 23 (by kernel_rfl) rfl rfl rfl rfl (by rfl) (by rfl) (by go_simp; first | done | exact rfl) (HAB.out _ hS1).2 (fun _ => ?_) (by go_simp; first | done | exact rfl) (HBA.out _ hS1).2 (fun _ => ?_)
    · -- [p, q] is made first
      obtain ⟨hra, hS2⟩ := HAB.out _ hS1
      generalize w1.alloc (.cells #[.string p.1, .int .i64 p.2, .string q.1, .int .i64 q.2] 32) = w2 at hra hS2 ⊢
      simp only [List.setIfInBounds_toArray, List.set_cons_zero, List.set_cons_succ]
      generalize Value.slice (some ⟨w1.heap.size, 0, none⟩) 2 2 = sa at hra ⊢
      refine two_at (i := 6) (j := 10) 19 23 (by kernel_rfl) rfl rfl rfl rfl (by rfl) (by rfl) (fun K hK => ?_) (fun K hK => ?_)
      · refine wp_enter 19 #[v, sa] (w0 := w2) (by kernel_rfl) ?_
        refine (Merge_any w2 v sa l [p, q] (HR.out _ hS2).1 hra (by omega) (by simp)).mono ?_
        rintro e w3 ⟨va, rfl, hoa, hb3⟩
        have hS3 : AS wB w3 := hS2.trans (hb3.mono hS2.size)
        refine ⟨va, rfl, hK va w3 hS3 (fun _ => ?_)⟩
        simp only [List.setIfInBounds_toArray, List.set_cons_zero, List.set_cons_succ]
        obtain ⟨hrb, hSx⟩ := HBA.out _ hS3
        refine one_value (i := 10) (v := .slice (some ⟨w3.heap.size, 0, none⟩) 2 2) (w' := w3.alloc (.cells #[.string q.1, .int .i64 q.2, .string p.1, .int .i64 p.2] 32)) 23 (by kernel_rfl) rfl rfl (by rfl) (by go_simp; first | done | exact rfl) hSx (fun _ => ?_)
        simp only [List.setIfInBounds_toArray, List.set_cons_zero, List.set_cons_succ]
        clear hra
        have hra := hoa.row.below ((Below.refl _ w3).alloc (Nat.le_refl _) (.cells #[.string q.1, .int .i64 q.2, .string p.1, .int .i64 p.2] 32))
        generalize w3.alloc (.cells #[.string q.1, .int .i64 q.2, .string p.1, .int .i64 p.2] 32) = wx at hra hrb hSx ⊢
        generalize Value.slice (some ⟨w3.heap.size, 0, none⟩) 2 2 = sb at hrb ⊢
        clear hoa hb3 hS3 hS2 hS1
        refine one_call (i := 11) (w0 := wx) 24 19 #[v, sb] (by kernel_rfl) rfl rfl (by rfl) (by kernel_rfl) ?_
        refine (Merge_any wx v sb l [q, p] (HR.out _ hSx).1 hrb (by omega) (by simp)).mono ?_
        rintro e wy ⟨vb, rfl, hob, hby⟩
        have hSy : AS wB wy := hSx.trans (hby.mono hSx.size)
        have hpa := hra.below hby
        have hpb := hob.row
        rw [← HM.out] at hpb
        refine ⟨_, rfl, hSy, fun _ => ?_⟩
        simp only [List.setIfInBounds_toArray, List.set_cons_zero, List.set_cons_succ]
        clear hob hby hra hrb hSx
        refine one_call (i := 12) (w0 := wy) 25 15 #[va, vb] (by kernel_rfl) rfl rfl (by rfl) (by kernel_rfl) ?_
        refine (same_any wy va vb _ _ hpa hpb (by have := HML.out; omega) (by have := HML.out; omega)).mono ?_
        rintro e w9 ⟨rfl, q9, rfl⟩
        rw [decide_eq_true rfl]
        have hS9 : AS wB (wy.drewN q9) := belowN hSy q9
        refine ⟨_, rfl, hS9, fun _ => ?_⟩
        simp only [List.setIfInBounds_toArray, List.set_cons_zero, List.set_cons_succ]
        refine take_at (i := 13) 26 rfl rfl (by kernel_rfl) (by kernel_rfl) (by kernel_rfl) (fun _ _ _ h => h) (by rfl) (fun w hSw => by (have hSw2 := HASF.out _ hSw; clear hSw; go_simp; first | done | exact rfl)) (by assumption) ?_
        simp only [List.setIfInBounds_toArray, List.set_cons_zero, List.set_cons_succ]
        refine take_at (i := 14) 6 rfl rfl (by kernel_rfl) (by kernel_rfl) (by kernel_rfl) (fun _ _ _ h => h) (by rfl) (fun w hSw => by (have hSw2 := HASF.out _ hSw; clear hSw; go_simp; first | done | exact rfl)) (by assumption) ?_
        simp only [List.setIfInBounds_toArray, List.set_cons_zero, List.set_cons_succ]
        refine wpAnyH_done (by kernel_rfl) ?_ _
        have HFI : Hid (Below w.heap.size w (wy.drewN q9)) := (HR.out _ hS9).2.2
        clear hpa hpb hSy hS9
        go_wp2_with fail
        go_ret
        exact ⟨rfl, HFI.out⟩
      · obtain ⟨hrb4, hS4⟩ := HBA.out _ hS2
        refine wp_val (v := .slice (some ⟨w2.heap.size, 0, none⟩) 2 2) (w' := w2.alloc (.cells #[.string q.1, .int .i64 q.2, .string p.1, .int .i64 p.2] 32)) (by go_simp; first | done | exact rfl) (hK _ _ hS4 (fun _ => ?_))
        simp only [List.setIfInBounds_toArray, List.set_cons_zero, List.set_cons_succ]
        have hra4 := hra.below ((Below.refl _ w2).alloc (Nat.le_refl _) (.cells #[.string q.1, .int .i64 q.2, .string p.1, .int .i64 p.2] 32))
        generalize w2.alloc (.cells #[.string q.1, .int .i64 q.2, .string p.1, .int .i64 p.2] 32) = w4 at hra4 hrb4 hS4 ⊢
        generalize Value.slice (some ⟨w2.heap.size, 0, none⟩) 2 2 = sb at hrb4 ⊢
        clear hra hS2 hS1
        refine one_call (i := 6) (w0 := w4) 19 19 #[v, sa] (by kernel_rfl) rfl rfl (by rfl) (by kernel_rfl) ?_
        refine (Merge_any w4 v sa l [p, q] (HR.out _ hS4).1 hra4 (by omega) (by simp)).mono ?_
        rintro e wx ⟨va, rfl, hoa, hb5⟩
        have hSx : AS wB wx := hS4.trans (hb5.mono hS4.size)
        have hra := hoa.row
        have hrb := hrb4.below hb5
        refine ⟨_, rfl, hSx, fun _ => ?_⟩
        simp only [List.setIfInBounds_toArray, List.set_cons_zero, List.set_cons_succ]
        clear hra4 hrb4 hoa hb5 hS4
        refine one_call (i := 11) (w0 := wx) 24 19 #[v, sb] (by kernel_rfl) rfl rfl (by rfl) (by kernel_rfl) ?_
        refine (Merge_any wx v sb l [q, p] (HR.out _ hSx).1 hrb (by omega) (by simp)).mono ?_
        rintro e wy ⟨vb, rfl, hob, hby⟩
        have hSy : AS wB wy := hSx.trans (hby.mono hSx.size)
        have hpa := hra.below hby
        have hpb := hob.row
        rw [← HM.out] at hpb
        refine ⟨_, rfl, hSy, fun _ => ?_⟩
        simp only [List.setIfInBounds_toArray, List.set_cons_zero, List.set_cons_succ]
        clear hob hby hra hrb hSx
        refine one_call (i := 12) (w0 := wy) 25 15 #[va, vb] (by kernel_rfl) rfl rfl (by rfl) (by kernel_rfl) ?_
        refine (same_any wy va vb _ _ hpa hpb (by have := HML.out; omega) (by have := HML.out; omega)).mono ?_
        rintro e w9 ⟨rfl, q9, rfl⟩
        rw [decide_eq_true rfl]
        have hS9 : AS wB (wy.drewN q9) := belowN hSy q9
        refine ⟨_, rfl, hS9, fun _ => ?_⟩
        simp only [List.setIfInBounds_toArray, List.set_cons_zero, List.set_cons_succ]
        refine take_at (i := 13) 26 rfl rfl (by kernel_rfl) (by kernel_rfl) (by kernel_rfl) (fun _ _ _ h => h) (by rfl) (fun w hSw => by (have hSw2 := HASF.out _ hSw; clear hSw; go_simp; first | done | exact rfl)) (by assumption) ?_
        simp only [List.setIfInBounds_toArray, List.set_cons_zero, List.set_cons_succ]
        refine take_at (i := 14) 6 rfl rfl (by kernel_rfl) (by kernel_rfl) (by kernel_rfl) (fun _ _ _ h => h) (by rfl) (fun w hSw => by (have hSw2 := HASF.out _ hSw; clear hSw; go_simp; first | done | exact rfl)) (by assumption) ?_
        simp only [List.setIfInBounds_toArray, List.set_cons_zero, List.set_cons_succ]
        refine wpAnyH_done (by kernel_rfl) ?_ _
        have HFI : Hid (Below w.heap.size w (wy.drewN q9)) := (HR.out _ hS9).2.2
        clear hpa hpb hSy hS9
        go_wp2_with fail
        go_ret
        exact ⟨rfl, HFI.out⟩
    · -- [q, p] is made first
      obtain ⟨hrb, hS2⟩ := HBA.out _ hS1
      generalize w1.alloc (.cells #[.string q.1, .int .i64 q.2, .string p.1, .int .i64 p.2] 32) = w2 at hrb hS2 ⊢
      simp only [List.setIfInBounds_toArray, List.set_cons_zero, List.set_cons_succ]
      generalize Value.slice (some ⟨w1.heap.size, 0, none⟩) 2 2 = sb at hrb ⊢
      obtain ⟨hra4, hS4⟩ := HAB.out _ hS2
      refine one_value (i := 5) (v := .slice (some ⟨w2.heap.size, 0, none⟩) 2 2) (w' := w2.alloc (.cells #[.string p.1, .int .i64 p.2, .string q.1, .int .i64 q.2] 32)) 18 (by kernel_rfl) rfl rfl (by rfl) (by go_simp; first | done | exact rfl) hS4 (fun _ => ?_)
      simp only [List.setIfInBounds_toArray, List.set_cons_zero, List.set_cons_succ]
      have hrb4 := hrb.below ((Below.refl _ w2).alloc (Nat.le_refl _) (.cells #[.string p.1, .int .i64 p.2, .string q.1, .int .i64 q.2] 32))
      generalize w2.alloc (.cells #[.string p.1, .int .i64 p.2, .string q.1, .int .i64 q.2] 32) = w4 at hra4 hrb4 hS4 ⊢
      generalize Value.slice (some ⟨w2.heap.size, 0, none⟩) 2 2 = sa at hra4 ⊢
      clear hrb hS2 hS1
      refine one_call (i := 6) (w0 := w4) 19 19 #[v, sa] (by kernel_rfl) rfl rfl (by rfl) (by kernel_rfl) ?_
      refine (Merge_any w4 v sa l [p, q] (HR.out _ hS4).1 hra4 (by omega) (by simp)).mono ?_
      rintro e wx ⟨va, rfl, hoa, hb5⟩
      have hSx : AS wB wx := hS4.trans (hb5.mono hS4.size)
      have hra := hoa.row
      have hrb := hrb4.below hb5
      refine ⟨_, rfl, hSx, fun _ => ?_⟩
      simp only [List.setIfInBounds_toArray, List.set_cons_zero, List.set_cons_succ]
      clear hra4 hrb4 hoa hb5 hS4
      refine one_call (i := 11) (w0 := wx) 24 19 #[v, sb] (by kernel_rfl) rfl rfl (by rfl) (by kernel_rfl) ?_
      refine (Merge_any wx v sb l [q, p] (HR.out _ hSx).1 hrb (by omega) (by simp)).mono ?_
      rintro e wy ⟨vb, rfl, hob, hby⟩
      have hSy : AS wB wy := hSx.trans (hby.mono hSx.size)
      have hpa := hra.below hby
      have hpb := hob.row
      rw [← HM.out] at hpb
      refine ⟨_, rfl, hSy, fun _ => ?_⟩
      simp only [List.setIfInBounds_toArray, List.set_cons_zero, List.set_cons_succ]
      clear hob hby hra hrb hSx
      refine one_call (i := 12) (w0 := wy) 25 15 #[va, vb] (by kernel_rfl) rfl rfl (by rfl) (by kernel_rfl) ?_
      refine (same_any wy va vb _ _ hpa hpb (by have := HML.out; omega) (by have := HML.out; omega)).mono ?_
      rintro e w9 ⟨rfl, q9, rfl⟩
      rw [decide_eq_true rfl]
      have hS9 : AS wB (wy.drewN q9) := belowN hSy q9
      refine ⟨_, rfl, hS9, fun _ => ?_⟩
      simp only [List.setIfInBounds_toArray, List.set_cons_zero, List.set_cons_succ]
      refine take_at (i := 13) 26 rfl rfl (by kernel_rfl) (by kernel_rfl) (by kernel_rfl) (fun _ _ _ h => h) (by rfl) (fun w hSw => by (have hSw2 := HASF.out _ hSw; clear hSw; go_simp; first | done | exact rfl)) (by assumption) ?_
      simp only [List.setIfInBounds_toArray, List.set_cons_zero, List.set_cons_succ]
      refine take_at (i := 14) 6 rfl rfl (by kernel_rfl) (by kernel_rfl) (by kernel_rfl) (fun _ _ _ h => h) (by rfl) (fun w hSw => by (have hSw2 := HASF.out _ hSw; clear hSw; go_simp; first | done | exact rfl)) (by assumption) ?_
      simp only [List.setIfInBounds_toArray, List.set_cons_zero, List.set_cons_succ]
      refine wpAnyH_done (by kernel_rfl) ?_ _
      have HFI : Hid (Below w.heap.size w (wy.drewN q9)) := (HR.out _ hS9).2.2
      clear hpa hpb hSy hS9
      go_wp2_with fail
      go_ret
      exact ⟨rfl, HFI.out⟩
end Go.Proofs.YtjanhebckonbaaaDoor
