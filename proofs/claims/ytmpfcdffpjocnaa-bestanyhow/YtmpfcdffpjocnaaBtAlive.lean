/- The laws' alive. -/
import Derived.Test.YtmpfcdffpjocnaaBtSelect
namespace Go.Proofs.Ytmpfcdffpjocnaa
open Go.RowKit Go.Lib Nums Pm
set_option maxRecDepth 100000
namespace Bt
def alL : List Mt := [(⟨#[98]⟩, 9, 2), (⟨#[97]⟩, 3, 1), (⟨#[99]⟩, 4, 1)]
theorem al_best : bestF (kk 2) alL = [(⟨#[99]⟩, 4, 1), (⟨#[97]⟩, 3, 1)] := by decide +kernel
theorem al_row (w : World) (T : TypeId) (c : Nat) : MRow (w.alloc (.cells #[.string ⟨#[98]⟩, .int .i64 9, .int .i64 2, .string ⟨#[97]⟩, .int .i64 3, .int .i64 1, .string ⟨#[99]⟩, .int .i64 4, .int .i64 1] T)) (.slice (some ⟨w.heap.size, 0, none⟩) 3 c) alL := by
  have hn := alloc_newM w (.cells #[.string ⟨#[98]⟩, .int .i64 9, .int .i64 2, .string ⟨#[97]⟩, .int .i64 3, .int .i64 1, .string ⟨#[99]⟩, .int .i64 4, .int .i64 1] T)
  generalize w.alloc (.cells #[.string ⟨#[98]⟩, .int .i64 9, .int .i64 2, .string ⟨#[97]⟩, .int .i64 3, .int .i64 1, .string ⟨#[99]⟩, .int .i64 4, .int .i64 1] T) = W at hn ⊢
  refine ⟨_, c, rfl, fun _ => ⟨w.heap.size, 0, rfl, (Array.getElem?_eq_some_iff.1 hn).1, fun i j x u hi hj => ?_⟩⟩
  match i, hi with
  | 0, hi =>
    simp [alL] at hi; subst hi
    match j, hj with
    | 0, hj => simp [cellsM] at hj; subst hj; simp [World.cell?, hn]
    | 1, hj => simp [cellsM] at hj; subst hj; simp [World.cell?, hn]
    | 2, hj => simp [cellsM] at hj; subst hj; simp [World.cell?, hn]
    | n + 3, hj => simp [cellsM] at hj
  | 1, hi =>
    simp [alL] at hi; subst hi
    match j, hj with
    | 0, hj => simp [cellsM] at hj; subst hj; simp [World.cell?, hn]
    | 1, hj => simp [cellsM] at hj; subst hj; simp [World.cell?, hn]
    | 2, hj => simp [cellsM] at hj; subst hj; simp [World.cell?, hn]
    | n + 3, hj => simp [cellsM] at hj
  | 2, hi =>
    simp [alL] at hi; subst hi
    match j, hj with
    | 0, hj => simp [cellsM] at hj; subst hj; simp [World.cell?, hn]
    | 1, hj => simp [cellsM] at hj; subst hj; simp [World.cell?, hn]
    | 2, hj => simp [cellsM] at hj; subst hj; simp [World.cell?, hn]
    | n + 3, hj => simp [cellsM] at hj
  | n + 3, hi => simp [alL] at hi
/-- What alive looks at. -/
structure SAl (g : Nat) (W : World) : Prop where
  a0 : W.cell? ⟨g, 0, none⟩ = some (.string ⟨#[99]⟩)
  a1 : W.cell? ⟨g, 1, none⟩ = some (.int .i64 4)
  a2 : W.cell? ⟨g, 2, none⟩ = some (.int .i64 1)
  b0 : W.cell? ⟨g, 3, none⟩ = some (.string ⟨#[97]⟩)
  b1 : W.cell? ⟨g, 4, none⟩ = some (.int .i64 3)
  b2 : W.cell? ⟨g, 5, none⟩ = some (.int .i64 1)
theorem SAl.facts {g : Nat} {W : World} (h : SAl g W) : W.cell? ⟨g, 0, none⟩ = some (.string ⟨#[99]⟩) ∧ W.cell? ⟨g, 1, none⟩ = some (.int .i64 4) ∧ W.cell? ⟨g, 2, none⟩ = some (.int .i64 1) ∧ W.cell? ⟨g, 3, none⟩ = some (.string ⟨#[97]⟩) ∧ W.cell? ⟨g, 4, none⟩ = some (.int .i64 3) ∧ W.cell? ⟨g, 5, none⟩ = some (.int .i64 1) := ⟨h.a0, h.a1, h.a2, h.b0, h.b1, h.b2⟩
theorem SAl.below {g : Nat} {W W' : World} (h : SAl g W) (hg : g < W.heap.size) (hb : Below W.heap.size W W') : SAl g W' :=
  ⟨(hb.cell (p := ⟨g, 0, none⟩) hg).trans h.a0, (hb.cell (p := ⟨g, 1, none⟩) hg).trans h.a1, (hb.cell (p := ⟨g, 2, none⟩) hg).trans h.a2, (hb.cell (p := ⟨g, 3, none⟩) hg).trans h.b0, (hb.cell (p := ⟨g, 4, none⟩) hg).trans h.b1, (hb.cell (p := ⟨g, 5, none⟩) hg).trans h.b2⟩
theorem al_better (W : World) : Calls Try.prog 11 #[.agg #[.string ⟨#[99]⟩, .int .i64 4, .int .i64 1], .agg #[.string ⟨#[97]⟩, .int .i64 3, .int .i64 1]] W fun e w' => e = .returned (.bool true) ∧ Below W.heap.size W w' := by
  have := Better_any (⟨#[99]⟩, 4, 1) (⟨#[97]⟩, 3, 1) W
  have e : btr (⟨#[99]⟩, 4, 1) (⟨#[97]⟩, 3, 1) = true := by decide +kernel
  rw [e] at this
  exact this
set_option maxHeartbeats 2000000 in
theorem alive_any (w : World) : Calls Try.prog 10 #[] w fun e w' => e = .returned (.bool true) ∧ Below w.heap.size w w' := by
  obtain ⟨V1, hV1⟩ : ∃ V1, w.alloc (.cells #[.string ⟨#[98]⟩, .int .i64 9, .int .i64 2, .string ⟨#[97]⟩, .int .i64 3, .int .i64 1, .string ⟨#[99]⟩, .int .i64 4, .int .i64 1] 23) = V1 := ⟨_, rfl⟩
  have hb1 : Below w.heap.size w V1 := by rw [← hV1]; exact (Below.refl _ w).alloc (Nat.le_refl _) _
  have hrow : MRow V1 (.slice (some ⟨w.heap.size, 0, none⟩) 3 3) alL := by rw [← hV1]; exact al_row w _ _
  have HSE : Hid (Calls Try.prog 14 #[.slice (some ⟨w.heap.size, 0, none⟩) 3 3, .int .i64 2] V1 fun e w' => ∃ vl, e = .returned vl ∧ GOwn 23 3 V1.heap.size w' vl ((bestF (kk 2) alL).map cellsM) ∧ Below V1.heap.size V1 w') := Select_any V1 _ alL 2 hrow (by decide)
  have HB1 : Hid (Below w.heap.size w V1) := hb1
  obtain ⟨lb, hlb⟩ : ∃ lb, w.heap.size = lb := ⟨_, rfl⟩
  rw [hlb] at HSE
  have HLB : Hid (w.heap.size = lb) := hlb
  clear hb1 hrow
  go_enter Try.func10, Try.ntmps10
  go_upto_region 2 with (go_at_call 14; refine HSE.out.mono ?_; rintro e w2 ⟨vl, rfl, hG, hb2⟩)
  rw [al_best] at hG
  obtain ⟨g, cap, hv, hg, hlo, hcap, hc⟩ := GOwn.mt hG (by decide)
  obtain ⟨a0, a1, a2, _⟩ := hc 0 (by decide)
  obtain ⟨b0, b1, b2, _⟩ := hc 1 (by decide)
  have hS0 : SAl g w2.drew := ⟨a0, a1, a2, b0, b1, b2⟩
  have hv2 : vl = .slice (some ⟨g, 0, none⟩) 2 cap := hv
  subst hv2
  have hcap2 : 2 ≤ cap := hcap
  have HB2 : Hid (Below w.heap.size w w2) := HB1.out.trans (hb2.mono HB1.out.size)
  clear hc a0 a1 a2 b0 b1 b2 hG hv hb2 hcap hlb hV1
  refine region_at (S := SAl g) 27 rfl mixedB hS0 (fun _ => ?_)
  refine take_at (i := 0) 7 rfl rfl (by kernel_rfl) (by kernel_rfl) (by kernel_rfl) (fun _ _ _ h => h) (by rfl) (fun w hSw => by (have hSw2 := SAl.facts hSw; clear hSw; go_simp; first | done | exact rfl)) (by assumption) ?_
  simp only [List.setIfInBounds_toArray, List.set_cons_zero, List.set_cons_succ]
  refine take_at (i := 1) 8 rfl rfl (by kernel_rfl) (by kernel_rfl) (by kernel_rfl) (fun _ _ _ h => h) (by rfl) (fun w hSw => by (have hSw2 := SAl.facts hSw; clear hSw; go_simp; first | done | exact rfl)) (by assumption) ?_
  simp only [List.setIfInBounds_toArray, List.set_cons_zero, List.set_cons_succ]
  refine take_at (i := 2) 9 rfl rfl (by kernel_rfl) (by kernel_rfl) (by kernel_rfl) (fun _ _ _ h => h) (by rfl) (fun w hSw => by (have hSw2 := SAl.facts hSw; clear hSw; go_simp; first | done | exact rfl)) (by assumption) ?_
  simp only [List.setIfInBounds_toArray, List.set_cons_zero, List.set_cons_succ]
  refine take_at (i := 3) 10 rfl rfl (by kernel_rfl) (by kernel_rfl) (by kernel_rfl) (fun _ _ _ h => h) (by rfl) (fun w hSw => by (have hSw2 := SAl.facts hSw; clear hSw; go_simp; first | done | exact rfl)) (by assumption) ?_
  simp only [List.setIfInBounds_toArray, List.set_cons_zero, List.set_cons_succ]
  refine take_at (i := 4) 11 rfl rfl (by kernel_rfl) (by kernel_rfl) (by kernel_rfl) (fun _ _ _ h => h) (by rfl) (fun w hSw => by (have hSw2 := SAl.facts hSw; clear hSw; go_simp; first | done | exact rfl)) (by assumption) ?_
  simp only [List.setIfInBounds_toArray, List.set_cons_zero, List.set_cons_succ]
  refine take_at (i := 5) 12 rfl rfl (by kernel_rfl) (by kernel_rfl) (by kernel_rfl) (fun _ _ _ h => h) (by rfl) (fun w hSw => by (have hSw2 := SAl.facts hSw; clear hSw; go_simp; first | done | exact rfl)) (by assumption) ?_
  simp only [List.setIfInBounds_toArray, List.set_cons_zero, List.set_cons_succ]
  refine take_at (i := 6) 13 rfl rfl (by kernel_rfl) (by kernel_rfl) (by kernel_rfl) (fun _ _ _ h => h) (by rfl) (fun w hSw => by (have hSw2 := SAl.facts hSw; clear hSw; go_simp; first | done | exact rfl)) (by assumption) ?_
  simp only [List.setIfInBounds_toArray, List.set_cons_zero, List.set_cons_succ]
  refine take_at (i := 7) 14 rfl rfl (by kernel_rfl) (by kernel_rfl) (by kernel_rfl) (fun _ _ _ h => h) (by rfl) (fun w hSw => by (have hSw2 := SAl.facts hSw; clear hSw; go_simp; first | done | exact rfl)) (by assumption) ?_
  simp only [List.setIfInBounds_toArray, List.set_cons_zero, List.set_cons_succ]
  refine take_at (i := 8) (v := .bool true) 15 rfl rfl (by kernel_rfl) (by kernel_rfl) (by kernel_rfl) (fun _ _ _ h => h) (by rfl) (fun w hSw => by (have hSw2 := SAl.facts hSw; clear hSw; go_simp; first | done | exact rfl | simp_all | (simp; omega))) (by assumption) ?_
  simp only [List.setIfInBounds_toArray, List.set_cons_zero, List.set_cons_succ]
  refine take_at (i := 9) 16 rfl rfl (by kernel_rfl) (by kernel_rfl) (by kernel_rfl) (fun _ _ _ h => h) (by rfl) (fun w hSw => by (have hSw2 := SAl.facts hSw; clear hSw; go_simp; first | done | exact rfl)) (by assumption) ?_
  simp only [List.setIfInBounds_toArray, List.set_cons_zero, List.set_cons_succ]
  refine take_at (i := 10) 17 rfl rfl (by kernel_rfl) (by kernel_rfl) (by kernel_rfl) (fun _ _ _ h => h) (by rfl) (fun w hSw => by (have hSw2 := SAl.facts hSw; clear hSw; go_simp; first | done | exact rfl)) (by assumption) ?_
  simp only [List.setIfInBounds_toArray, List.set_cons_zero, List.set_cons_succ]
  refine take_at (i := 11) 18 rfl rfl (by kernel_rfl) (by kernel_rfl) (by kernel_rfl) (fun _ _ _ h => h) (by rfl) (fun w hSw => by (have hSw2 := SAl.facts hSw; clear hSw; go_simp; first | done | exact rfl)) (by assumption) ?_
  simp only [List.setIfInBounds_toArray, List.set_cons_zero, List.set_cons_succ]
  refine take_at (i := 12) 19 rfl rfl (by kernel_rfl) (by kernel_rfl) (by kernel_rfl) (fun _ _ _ h => h) (by rfl) (fun w hSw => by (have hSw2 := SAl.facts hSw; clear hSw; go_simp; first | done | exact rfl)) (by assumption) ?_
  simp only [List.setIfInBounds_toArray, List.set_cons_zero, List.set_cons_succ]
  refine take_at (i := 13) 20 rfl rfl (by kernel_rfl) (by kernel_rfl) (by kernel_rfl) (fun _ _ _ h => h) (by rfl) (fun w hSw => by (have hSw2 := SAl.facts hSw; clear hSw; go_simp; first | done | exact rfl)) (by assumption) ?_
  simp only [List.setIfInBounds_toArray, List.set_cons_zero, List.set_cons_succ]
  refine take_at (i := 14) 21 rfl rfl (by kernel_rfl) (by kernel_rfl) (by kernel_rfl) (fun _ _ _ h => h) (by rfl) (fun w hSw => by (have hSw2 := SAl.facts hSw; clear hSw; go_simp; first | done | exact rfl)) (by assumption) ?_
  simp only [List.setIfInBounds_toArray, List.set_cons_zero, List.set_cons_succ]
  refine take_at (i := 15) (v := .bool true) 22 rfl rfl (by kernel_rfl) (by kernel_rfl) (by kernel_rfl) (fun _ _ _ h => h) (by rfl) (fun w hSw => by (have hSw2 := SAl.facts hSw; clear hSw; go_simp; first | done | exact rfl | simp_all | (simp; omega))) (by assumption) ?_
  simp only [List.setIfInBounds_toArray, List.set_cons_zero, List.set_cons_succ]
  refine take_at (i := 16) 23 rfl rfl (by kernel_rfl) (by kernel_rfl) (by kernel_rfl) (fun _ _ _ h => h) (by rfl) (fun w hSw => by (have hSw2 := SAl.facts hSw; clear hSw; go_simp; first | done | exact rfl)) (by assumption) ?_
  simp only [List.setIfInBounds_toArray, List.set_cons_zero, List.set_cons_succ]
  refine take_at (i := 17) 24 rfl rfl (by kernel_rfl) (by kernel_rfl) (by kernel_rfl) (fun _ _ _ h => h) (by rfl) (fun w hSw => by (have hSw2 := SAl.facts hSw; clear hSw; go_simp; first | done | exact rfl)) (by assumption) ?_
  simp only [List.setIfInBounds_toArray, List.set_cons_zero, List.set_cons_succ]
  refine take_at (i := 18) 25 rfl rfl (by kernel_rfl) (by kernel_rfl) (by kernel_rfl) (fun _ _ _ h => h) (by rfl) (fun w hSw => by (have hSw2 := SAl.facts hSw; clear hSw; go_simp; first | done | exact rfl)) (by assumption) ?_
  simp only [List.setIfInBounds_toArray, List.set_cons_zero, List.set_cons_succ]
  refine take_at (i := 19) 26 rfl rfl (by kernel_rfl) (by kernel_rfl) (by kernel_rfl) (fun _ _ _ h => h) (by rfl) (fun w hSw => by (have hSw2 := SAl.facts hSw; clear hSw; go_simp; first | done | exact rfl)) (by assumption) ?_
  simp only [List.setIfInBounds_toArray, List.set_cons_zero, List.set_cons_succ]
  refine take_at (i := 20) 27 rfl rfl (by kernel_rfl) (by kernel_rfl) (by kernel_rfl) (fun _ _ _ h => h) (by rfl) (fun w hSw => by (have hSw2 := SAl.facts hSw; clear hSw; go_simp; first | done | exact rfl)) (by assumption) ?_
  simp only [List.setIfInBounds_toArray, List.set_cons_zero, List.set_cons_succ]
  refine take_at (i := 21) 28 rfl rfl (by kernel_rfl) (by kernel_rfl) (by kernel_rfl) (fun _ _ _ h => h) (by rfl) (fun w hSw => by (have hSw2 := SAl.facts hSw; clear hSw; go_simp; first | done | exact rfl)) (by assumption) ?_
  simp only [List.setIfInBounds_toArray, List.set_cons_zero, List.set_cons_succ]
  refine take_at (i := 22) 29 rfl rfl (by kernel_rfl) (by kernel_rfl) (by kernel_rfl) (fun _ _ _ h => h) (by rfl) (fun w hSw => by (have hSw2 := SAl.facts hSw; clear hSw; go_simp; first | done | exact rfl)) (by assumption) ?_
  simp only [List.setIfInBounds_toArray, List.set_cons_zero, List.set_cons_succ]
  refine take_at (i := 23) 30 rfl rfl (by kernel_rfl) (by kernel_rfl) (by kernel_rfl) (fun _ _ _ h => h) (by rfl) (fun w hSw => by (have hSw2 := SAl.facts hSw; clear hSw; go_simp; first | done | exact rfl)) (by assumption) ?_
  simp only [List.setIfInBounds_toArray, List.set_cons_zero, List.set_cons_succ]
  refine one_call (i := 24) (w0 := w2.drew) 31 11 #[.agg #[.string ⟨#[99]⟩, .int .i64 4, .int .i64 1], .agg #[.string ⟨#[97]⟩, .int .i64 3, .int .i64 1]] (by kernel_rfl) rfl rfl (by rfl) (by kernel_rfl) ((al_better w2.drew).mono ?_)
  rintro e w3 ⟨rfl, hb3⟩
  have hS3 : SAl g w3 := hS0.below hg hb3
  refine ⟨_, rfl, hS3, fun _ => ?_⟩
  simp only [List.setIfInBounds_toArray, List.set_cons_zero, List.set_cons_succ]
  refine one_value (i := 25) (v := .bool true) (w' := w3) 32 (by kernel_rfl) rfl rfl (by rfl) (by kernel_rfl) hS3 (fun _ => ?_)
  simp only [List.setIfInBounds_toArray, List.set_cons_zero, List.set_cons_succ]
  refine one_value (i := 26) (v := .bool true) (w' := w3) 0 (by kernel_rfl) rfl rfl (by rfl) (by kernel_rfl) hS3 (fun _ => ?_)
  simp only [List.setIfInBounds_toArray, List.set_cons_zero]
  refine wpAnyH_done (by kernel_rfl) ?_ _
  have hb4 : Below w2.heap.size w2 w3 := (Below.refl _ w2).drew.trans hb3
  go_wp2
  go_ret
  exact ⟨rfl, HB2.out.trans (hb4.mono HB2.out.size)⟩
end Bt
end Go.Proofs.Ytmpfcdffpjocnaa
