/- Texts that were written apart, joined. -/
import Derived.Test.YtdidcombjmbkdaaDoorH0
import Derived.Test.YtdidcombjmbkdaaDoorH1
import Derived.Sort.Grow
import Derived.Sort.Statements
import Derived.Shelf.SlSortCmp.Insertion
import Derived.Shelf.Lay
import Derived.Shelf.SlicesE.Clone
import Derived.Shelf.SlSortCmp.WholeK
import Derived.Ground.SlgnProg
import Derived.Ground.SlsfProg
import Derived.Test.YtdidcombjmbkdaaDoorH2
import Derived.WalkMore
import Derived.Laws.EntriesVeiled
import Derived.Test.YtdidcombjmbkdaaDoorPkBuilt2
import Derived.Laws.StructEq
import Derived.Test.YtdidcombjmbkdaaDoorH4
/- cmp.Compare, cmp.Or, the comparing of arcs and states. -/
namespace Go.Proofs.YtdidcombjmbkdaaDoor
open Go.RowKit Nums Fm Pk
set_option maxRecDepth 100000

/-- Blocks were laid, and the order drawn: nothing else. -/
structure Gr (w w' : World) : Prop where
  bel : Below w.heap.size w w'
  dr : w.drawn ≤ w'.drawn
theorem Gr.refl (w : World) : Gr w w := ⟨Below.refl _ _, Nat.le_refl _⟩
theorem Gr.trans {w w1 w2 : World} (h1 : Gr w w1) (h2 : Gr w1 w2) : Gr w w2 := ⟨h1.bel.trans (h2.bel.mono h1.bel.size), Nat.le_trans h1.dr h2.dr⟩
theorem Gr.alloc {w w1 : World} (h : Gr w w1) (o : Obj) : Gr w (w1.alloc o) := ⟨h.bel.alloc h.bel.size o, h.dr⟩
theorem Gr.drew {w w1 : World} (h : Gr w w1) : Gr w w1.drew := ⟨h.bel.drew, Nat.le_trans h.dr (Nat.le_succ _)⟩
theorem Gr.grown {w w' : World} (h : Gr w w') : ∃ q os, w' = Go.Sort.grow (w.drewN q) os := by
  refine ⟨w'.drawn - w.drawn, w'.heap.extract w.heap.size w'.heap.size, ?_⟩
  have hh : w'.heap = w.heap ++ w'.heap.extract w.heap.size w'.heap.size := by
    have hs := h.bel.size
    refine Array.ext ?_ fun i h1 h2 => ?_
    · simp; omega
    · by_cases hi : i < w.heap.size
      · rw [Array.getElem_append_left hi]
        have e := h.bel.block i hi
        rw [Array.getElem?_eq_getElem h1, Array.getElem?_eq_getElem hi] at e
        exact Option.some.inj e
      · rw [Array.getElem_append_right (by omega), Array.getElem_extract]
        congr 1
        omega
  have hd : w'.drawn = w.drawn + (w'.drawn - w.drawn) := by have := h.dr; omega
  cases w' with
  | mk heap tape drawn os output =>
    have e1 := h.bel.os
    have e2 := h.bel.tape
    have e3 := h.bel.output
    simp only at e1 e2 e3 hh hd
    simp only [Go.Sort.grow, World.drewN, World.mk.injEq]
    exact ⟨hh, e2, hd, e1, e3⟩
theorem cmpU_any (x y : Int) (w : World) : Calls Tryd.prog 62 #[.int .u64 x, .int .u64 y] w fun e w' => e = .returned (.int .i64 (cmpI x y)) ∧ w' = w := by
  unfold cmpI
  go_enter Tryd.func62, Tryd.ntmps62
  by_cases h1 : x < y
  · rw [if_pos h1]
    go_wp2
    go_ret
    exact ⟨rfl, rfl⟩
  · rw [if_neg h1]
    by_cases h2 : y < x
    · rw [if_pos h2]
      go_wp2
      go_ret
      exact ⟨rfl, rfl⟩
    · rw [if_neg h2]
      go_wp2
      go_ret
      exact ⟨rfl, rfl⟩
theorem cmpN_any (x y : Int) (w : World) : Calls Tryd.prog 63 #[.int .i64 x, .int .i64 y] w fun e w' => e = .returned (.int .i64 (cmpI x y)) ∧ w' = w := by
  unfold cmpI
  go_enter Tryd.func63, Tryd.ntmps63
  by_cases h1 : x < y
  · rw [if_pos h1]
    go_wp2
    go_ret
    exact ⟨rfl, rfl⟩
  · rw [if_neg h1]
    by_cases h2 : y < x
    · rw [if_pos h2]
      go_wp2
      go_ret
      exact ⟨rfl, rfl⟩
    · rw [if_neg h2]
      go_wp2
      go_ret
      exact ⟨rfl, rfl⟩
theorem cmpR_any (x y : Int) (w : World) : Calls Tryd.prog 91 #[.int .i32 x, .int .i32 y] w fun e w' => e = .returned (.int .i64 (cmpI x y)) ∧ w' = w := by
  unfold cmpI
  go_enter Tryd.func91, Tryd.ntmps91
  by_cases h1 : x < y
  · rw [if_pos h1]
    go_wp2
    go_ret
    exact ⟨rfl, rfl⟩
  · rw [if_neg h1]
    by_cases h2 : y < x
    · rw [if_pos h2]
      go_wp2
      go_ret
      exact ⟨rfl, rfl⟩
    · rw [if_neg h2]
      go_wp2
      go_ret
      exact ⟨rfl, rfl⟩
theorem cmpI_bd (x y : Int) : -1 ≤ cmpI x y ∧ cmpI x y ≤ 1 := by unfold cmpI; repeat' split; all_goals omega
namespace Pk
theorem orI_at {l : List Int} {k : Nat} {c : Int} (h : l[k]? = some c) : orI (l.drop k) = if c ≠ 0 then c else orI (l.drop (k + 1)) := by
  obtain ⟨hk, rfl⟩ := List.getElem?_eq_some_iff.1 h
  rw [List.drop_eq_getElem_cons hk, orI]
end Pk
set_option maxHeartbeats 1000000 in
theorem or_any (g n c : Nat) (l : List Int) (w : World) (hn : l.length = n) (hl : n ≤ 4096) (hc : ∀ (i : Nat) (x : Int), l[i]? = some x → w.cell? ⟨g, i, none⟩ = some (.int .i64 x)) :
    Calls Tryd.prog 61 #[.slice (some ⟨g, 0, none⟩) n c] w fun e w' => e = .returned (.int .i64 (orI l)) ∧ w' = w := by
  have HC : Hid (∀ (i : Nat) (x : Int), l[i]? = some x → w.cell? ⟨g, i, none⟩ = some (.int .i64 x)) := hc
  have HN : Hid (l.length = n) := hn
  clear hc hn
  go_enter Tryd.func61, Tryd.ntmps61
  go_wp2
  go_loopg [5, 8] n (fun gm _ s8 wr => ∃ (k : Nat), s8 = .int .i64 k ∧ k ≤ n ∧ n - k ≤ gm ∧ Hid (orI l = orI (l.drop k)) ∧ wr = w)
  case atStart => exact ⟨0, rfl, Nat.zero_le _, by omega, rfl, rfl⟩
  case round =>
    obtain ⟨k, rfl, hk, hgm, HO, rfl⟩ := hrel
    by_cases hlt : k < n
    · have hltz : (k : Int) < (n : Int) := by omega
      obtain ⟨x, hx⟩ : ∃ x, l[k]? = some x := ⟨l[k]'(by have := HN.out; omega), List.getElem?_eq_getElem _⟩
      have hcx := HC.out k x hx
      have HOA : Hid (orI l = if x ≠ 0 then x else orI (l.drop (k + 1))) := HO.out.trans (orI_at hx)
      clear hx
      by_cases h0 : x = 0
      · subst h0
        have HF : Hid (orI l = orI (l.drop (k + 1))) := HOA.out
        go_wp2
        go_roundg (n - (k + 1))
        case measure => omega
        case rel => exact ⟨k + 1, by go_num, by omega, Nat.le_refl _, HF, rfl⟩
      · have HF : Hid (orI l = x) := by show _ = _; rw [HOA.out, if_pos h0]
        have h1b : (x == 0) = false := beq_eq_false_iff_ne.2 h0
        have h1n : (x != 0) = true := by simp [bne, h1b]
        go_wp2
        go_ret
        exact ⟨by rw [HF.out]; rfl, rfl⟩
    · have hltz : ¬ (k : Int) < (n : Int) := by omega
      have HF : Hid (orI l = 0) := by show _ = _; rw [HO.out, List.drop_of_length_le (by have := HN.out; omega)]; rfl
      go_wp2
      go_ret
      exact ⟨by rw [HF.out]; rfl, rfl⟩
/-- Two arcs in boxes. -/
structure SA (ab bb : Nat) (x y : RArc) (w : World) : Prop where
  a : w.heap[ab]? = some (.cells #[.int .i32 x.label, .int .i64 x.out, .int .i64 x.to] 74)
  b : w.heap[bb]? = some (.cells #[.int .i32 y.label, .int .i64 y.out, .int .i64 y.to] 74)
theorem SA.facts {ab bb : Nat} {x y : RArc} {w : World} (h : SA ab bb x y w) : w.cell? ⟨ab, 0, none⟩ = some (.int .i32 x.label) ∧ w.cell? ⟨ab, 1, none⟩ = some (.int .i64 x.out) ∧ w.cell? ⟨ab, 2, none⟩ = some (.int .i64 x.to) ∧ w.cell? ⟨bb, 0, none⟩ = some (.int .i32 y.label) ∧ w.cell? ⟨bb, 1, none⟩ = some (.int .i64 y.out) ∧ w.cell? ⟨bb, 2, none⟩ = some (.int .i64 y.to) :=
  ⟨by simp [World.cell?, h.a], by simp [World.cell?, h.a], by simp [World.cell?, h.a], by simp [World.cell?, h.b], by simp [World.cell?, h.b], by simp [World.cell?, h.b]⟩
theorem SA.below {ab bb : Nat} {x y : RArc} {w w' : World} (h : SA ab bb x y w) (hb : Below w.heap.size w w') : SA ab bb x y w' := ⟨(hb.block ab (Array.getElem?_eq_some_iff.1 h.a).1).trans h.a, (hb.block bb (Array.getElem?_eq_some_iff.1 h.b).1).trans h.b⟩
set_option maxHeartbeats 1000000 in
theorem compareArcs_any (x y : RArc) (w : World) : Calls Tryd.prog 65 #[.agg #[.int .i32 x.label, .int .i64 x.out, .int .i64 x.to], .agg #[.int .i32 y.label, .int .i64 y.out, .int .i64 y.to]] w fun e w' => e = .returned (.int .i64 (cmpA x y)) ∧ Gr w w' := by
  obtain ⟨ab, hab⟩ : ∃ ab, ab = w.heap.size := ⟨_, rfl⟩
  obtain ⟨bb, hbb⟩ : ∃ bb, bb = w.heap.size + 1 := ⟨_, rfl⟩
  obtain ⟨W, hW⟩ : ∃ W, W = (w.alloc (.cells #[.int .i32 x.label, .int .i64 x.out, .int .i64 x.to] 74)).alloc (.cells #[.int .i32 y.label, .int .i64 y.out, .int .i64 y.to] 74) := ⟨_, rfl⟩
  have HG : Hid (Gr w W) := by show Gr w W; rw [hW]; exact ((Gr.refl w).alloc _).alloc _
  have hS : SA ab bb x y W := by
    constructor
    · rw [hW, (MapKept.heap_alloc _ _).2 ab (by rw [hab]; simp), hab]
      exact alloc_newP _ _
    · have e : (w.alloc (.cells #[.int .i32 x.label, .int .i64 x.out, .int .i64 x.to] 74)).heap.size = bb := by rw [hbb]; simp
      rw [hW, ← e]
      exact alloc_newP _ _
  have hS0 : SA ab bb x y W.drew := hS.below (Below.refl _ W).drew
  have HA : Hid (cmpA x y = orI [cmpI x.label y.label, cmpI x.out y.out, cmpI x.to y.to]) := rfl
  have h1 := cmpR_any x.label y.label W.drew
  have h2 := cmpN_any x.out y.out W.drew
  have h3 := cmpN_any x.to y.to W.drew
  obtain ⟨W4, hW4⟩ : ∃ W4, W4 = W.drew.alloc (.cells #[.int .i64 (cmpI x.label y.label), .int .i64 (cmpI x.out y.out), .int .i64 (cmpI x.to y.to)] 3) := ⟨_, rfl⟩
  have HG4 : Hid (Gr w W4) := by show Gr w W4; rw [hW4]; exact (HG.out.drew).alloc _
  have hn4 : W4.heap[W.heap.size]? = some (.cells #[.int .i64 (cmpI x.label y.label), .int .i64 (cmpI x.out y.out), .int .i64 (cmpI x.to y.to)] 3) := by rw [hW4]; exact alloc_newP W.drew _
  have hS4 : SA ab bb x y W4 := by rw [hW4]; exact hS0.below ((Below.refl _ _).alloc (Nat.le_refl _) _)
  have h4 := or_any W.heap.size 3 3 [cmpI x.label y.label, cmpI x.out y.out, cmpI x.to y.to] W4 rfl (by decide) (fun i z hi => by
    match i, hi with
    | 0, hi => simp at hi; subst hi; simp [World.cell?, hn4]
    | 1, hi => simp at hi; subst hi; simp [World.cell?, hn4]
    | 2, hi => simp at hi; subst hi; simp [World.cell?, hn4]
    | k + 3, hi => simp at hi)
  rw [← HA.out] at h4
  generalize cmpA x y = CA at *
  generalize cmpI x.label y.label = c1 at *
  generalize cmpI x.out y.out = c2 at *
  generalize cmpI x.to y.to = c3 at *
  go_enter Tryd.func65, Tryd.ntmps65
  go_upto_region 1 with fail
  rw [← hbb, ← hab, ← hW]
  clear hbb hab hW hS hn4
  refine region_at (S := SA ab bb x y) 18 rfl mixedP hS0 (fun _ => ?_)
  refine take_at (i := 0) 5 rfl rfl (by kernel_rfl) (by kernel_rfl) (by kernel_rfl) (fun _ _ _ h => h) (by rfl) (fun w hSw => by (have hSw2 := SA.facts hSw; clear hSw; go_simp; first | done | exact rfl)) (by assumption) ?_
  simp only [List.setIfInBounds_toArray, List.set_cons_zero, List.set_cons_succ]
  refine take_at (i := 1) 6 rfl rfl (by kernel_rfl) (by kernel_rfl) (by kernel_rfl) (fun _ _ _ h => h) (by rfl) (fun w hSw => by (have hSw2 := SA.facts hSw; clear hSw; go_simp; first | done | exact rfl)) (by assumption) ?_
  simp only [List.setIfInBounds_toArray, List.set_cons_zero, List.set_cons_succ]
  refine take_at (i := 2) 7 rfl rfl (by kernel_rfl) (by kernel_rfl) (by kernel_rfl) (fun _ _ _ h => h) (by rfl) (fun w hSw => by (have hSw2 := SA.facts hSw; clear hSw; go_simp; first | done | exact rfl)) (by assumption) ?_
  simp only [List.setIfInBounds_toArray, List.set_cons_zero, List.set_cons_succ]
  refine take_at (i := 3) 8 rfl rfl (by kernel_rfl) (by kernel_rfl) (by kernel_rfl) (fun _ _ _ h => h) (by rfl) (fun w hSw => by (have hSw2 := SA.facts hSw; clear hSw; go_simp; first | done | exact rfl)) (by assumption) ?_
  simp only [List.setIfInBounds_toArray, List.set_cons_zero, List.set_cons_succ]
  refine take_at (i := 5) 10 rfl rfl (by kernel_rfl) (by kernel_rfl) (by kernel_rfl) (fun _ _ _ h => h) (by rfl) (fun w hSw => by (have hSw2 := SA.facts hSw; clear hSw; go_simp; first | done | exact rfl)) (by assumption) ?_
  simp only [List.setIfInBounds_toArray, List.set_cons_zero, List.set_cons_succ]
  refine take_at (i := 6) 11 rfl rfl (by kernel_rfl) (by kernel_rfl) (by kernel_rfl) (fun _ _ _ h => h) (by rfl) (fun w hSw => by (have hSw2 := SA.facts hSw; clear hSw; go_simp; first | done | exact rfl)) (by assumption) ?_
  simp only [List.setIfInBounds_toArray, List.set_cons_zero, List.set_cons_succ]
  refine take_at (i := 7) 12 rfl rfl (by kernel_rfl) (by kernel_rfl) (by kernel_rfl) (fun _ _ _ h => h) (by rfl) (fun w hSw => by (have hSw2 := SA.facts hSw; clear hSw; go_simp; first | done | exact rfl)) (by assumption) ?_
  simp only [List.setIfInBounds_toArray, List.set_cons_zero, List.set_cons_succ]
  refine take_at (i := 8) 13 rfl rfl (by kernel_rfl) (by kernel_rfl) (by kernel_rfl) (fun _ _ _ h => h) (by rfl) (fun w hSw => by (have hSw2 := SA.facts hSw; clear hSw; go_simp; first | done | exact rfl)) (by assumption) ?_
  simp only [List.setIfInBounds_toArray, List.set_cons_zero, List.set_cons_succ]
  refine take_at (i := 10) 15 rfl rfl (by kernel_rfl) (by kernel_rfl) (by kernel_rfl) (fun _ _ _ h => h) (by rfl) (fun w hSw => by (have hSw2 := SA.facts hSw; clear hSw; go_simp; first | done | exact rfl)) (by assumption) ?_
  simp only [List.setIfInBounds_toArray, List.set_cons_zero, List.set_cons_succ]
  refine take_at (i := 11) 16 rfl rfl (by kernel_rfl) (by kernel_rfl) (by kernel_rfl) (fun _ _ _ h => h) (by rfl) (fun w hSw => by (have hSw2 := SA.facts hSw; clear hSw; go_simp; first | done | exact rfl)) (by assumption) ?_
  simp only [List.setIfInBounds_toArray, List.set_cons_zero, List.set_cons_succ]
  refine take_at (i := 12) 17 rfl rfl (by kernel_rfl) (by kernel_rfl) (by kernel_rfl) (fun _ _ _ h => h) (by rfl) (fun w hSw => by (have hSw2 := SA.facts hSw; clear hSw; go_simp; first | done | exact rfl)) (by assumption) ?_
  simp only [List.setIfInBounds_toArray, List.set_cons_zero, List.set_cons_succ]
  refine take_at (i := 13) 18 rfl rfl (by kernel_rfl) (by kernel_rfl) (by kernel_rfl) (fun _ _ _ h => h) (by rfl) (fun w hSw => by (have hSw2 := SA.facts hSw; clear hSw; go_simp; first | done | exact rfl)) (by assumption) ?_
  simp only [List.setIfInBounds_toArray, List.set_cons_zero, List.set_cons_succ]
  refine one_call (i := 4) (w0 := W.drew) 9 91 #[.int .i32 x.label, .int .i32 y.label] (by kernel_rfl) rfl rfl (by rfl) (by kernel_rfl) ?_
  refine h1.mono ?_
  rintro e w1 ⟨rfl, rfl⟩
  refine ⟨_, rfl, hS0, fun _ => ?_⟩
  simp only [List.setIfInBounds_toArray, List.set_cons_zero, List.set_cons_succ]
  refine one_call (i := 9) (w0 := W.drew) 14 63 #[.int .i64 x.out, .int .i64 y.out] (by kernel_rfl) rfl rfl (by rfl) (by kernel_rfl) ?_
  refine h2.mono ?_
  rintro e w1 ⟨rfl, rfl⟩
  refine ⟨_, rfl, hS0, fun _ => ?_⟩
  simp only [List.setIfInBounds_toArray, List.set_cons_zero, List.set_cons_succ]
  refine one_call (i := 14) (w0 := W.drew) 19 63 #[.int .i64 x.to, .int .i64 y.to] (by kernel_rfl) rfl rfl (by rfl) (by kernel_rfl) ?_
  refine h3.mono ?_
  rintro e w1 ⟨rfl, rfl⟩
  refine ⟨_, rfl, hS0, fun _ => ?_⟩
  simp only [List.setIfInBounds_toArray, List.set_cons_zero, List.set_cons_succ]
  refine one_value (i := 15) (v := .slice (some ⟨W.heap.size, 0, none⟩) 3 3) (w' := W4) 20 (by kernel_rfl) rfl rfl (by rfl) (by rw [hW4]; go_simp; first | done | exact rfl) hS4 (fun _ => ?_)
  simp only [List.setIfInBounds_toArray, List.set_cons_zero, List.set_cons_succ]
  refine one_call (i := 16) (w0 := W4) 21 61 #[.slice (some ⟨W.heap.size, 0, none⟩) 3 3] (by kernel_rfl) rfl rfl (by rfl) (by kernel_rfl) ?_
  refine h4.mono ?_
  rintro e w1 ⟨rfl, hw1⟩
  rw [hw1]
  refine ⟨_, rfl, hS4, fun _ => ?_⟩
  simp only [List.setIfInBounds_toArray, List.set_cons_zero, List.set_cons_succ]
  refine one_value (i := 17) (v := .int .i64 CA) (w' := W4) 4 (by kernel_rfl) rfl rfl (by rfl) (by go_simp; first | done | exact rfl) hS4 (fun _ => ?_)
  simp only [List.setIfInBounds_toArray, List.set_cons_zero, List.set_cons_succ]
  refine wpAnyH_done (by kernel_rfl) ?_ _
  go_wp2
  go_ret
  exact ⟨rfl, HG4.out⟩
/-- The number that says how many arcs a state has. -/
theorem head_any (s : RSt) (ad : Option Addr) (cap : Nat) (w : World) (hl : s.arcs.length ≤ 1114112) : Calls Tryd.prog 53 #[.agg #[.bool s.final, .int .i64 s.out, .slice ad s.arcs.length cap]] w fun e w' => e = .returned (.int .u64 (headS s)) ∧ Gr w w' := by
  obtain ⟨n, hn⟩ : ∃ n, s.arcs.length = n := ⟨_, rfl⟩
  have HH : Hid (headS s = 2 * (n : Int) + (if s.final then 1 else 0)) := by show _ = _; rw [← hn]; rfl
  rw [hn] at hl ⊢
  clear hn
  have HG : Hid (∀ o, Gr w (w.alloc o)) := fun o => (Gr.refl w).alloc o
  have w1 : IntKind.u64.wrap (n : Int) = (n : Int) := by simp [IntKind.wrap, IntKind.bits, IntKind.signed]; omega
  have w2 : IntKind.u64.wrap (2 * (n : Int)) = 2 * (n : Int) := by simp [IntKind.wrap, IntKind.bits, IntKind.signed]; omega
  have w3 : IntKind.u64.wrap (2 * (n : Int) + 1) = 2 * (n : Int) + 1 := by simp [IntKind.wrap, IntKind.bits, IntKind.signed]; omega
  generalize s.out = so at *
  cases hf : s.final with
  | true =>
    rw [hf, if_pos rfl] at HH
    go_enter Tryd.func53, Tryd.ntmps53
    go_wp2
    go_ret
    refine ⟨?_, HG.out _⟩
    rw [HH.out]
    simp
  | false =>
    rw [hf, if_neg (by decide)] at HH
    go_enter Tryd.func53, Tryd.ntmps53
    go_wp2
    go_ret
    refine ⟨?_, HG.out _⟩
    rw [HH.out]
    simp
namespace Pk
theorem cmpL_at {xs ys : List RArc} {k : Nat} {x y : RArc} (hx : xs[k]? = some x) (hy : ys[k]? = some y) : cmpL (xs.drop k) (ys.drop k) = if cmpA x y ≠ 0 then cmpA x y else cmpL (xs.drop (k + 1)) (ys.drop (k + 1)) := by
  obtain ⟨h1, rfl⟩ := List.getElem?_eq_some_iff.1 hx
  obtain ⟨h2, rfl⟩ := List.getElem?_eq_some_iff.1 hy
  rw [List.drop_eq_getElem_cons h1, List.drop_eq_getElem_cons h2, cmpL]
theorem cmpL_long {xs ys : List RArc} {k : Nat} (hx : k < xs.length) (hy : ys.length ≤ k) : cmpL (xs.drop k) (ys.drop k) = 1 := by
  rw [List.drop_eq_getElem_cons hx, List.drop_of_length_le hy, cmpL]
theorem cmpL_end {xs ys : List RArc} {k : Nat} (hx : xs.length ≤ k) : cmpL (xs.drop k) (ys.drop k) = if k < ys.length then -1 else 0 := by
  rw [List.drop_of_length_le hx]
  by_cases h : k < ys.length
  · rw [List.drop_eq_getElem_cons h, cmpL, if_pos h]
  · rw [List.drop_of_length_le (by omega), cmpL, if_neg h]
end Pk
set_option maxHeartbeats 2000000 in
theorem compareFunc_any (E : Nat) (xs ys : List RArc) (va vb : Value) (w : World) (ha : ArcsAt E w va xs) (hb : ArcsAt E w vb ys) (hE : E ≤ w.heap.size) :
    Calls Tryd.prog 64 #[va, vb, .func (.func 65) #[] #[]] w fun e w' => e = .returned (.int .i64 (cmpL xs ys)) ∧ Gr w w' := by
  obtain ⟨ad, cap, rfl⟩ := ha.shape
  obtain ⟨bd, bcap, rfl⟩ := hb.shape
  obtain ⟨nx, hnx⟩ : ∃ n, xs.length = n := ⟨_, rfl⟩
  obtain ⟨ny, hny⟩ : ∃ n, ys.length = n := ⟨_, rfl⟩
  have hlx := ha.len
  have hly := hb.len
  have HA : Hid (ArcsAt E w (.slice ad xs.length cap) xs) := ha
  have HB : Hid (ArcsAt E w (.slice bd ys.length bcap) ys) := hb
  have HNX : Hid (xs.length = nx) := hnx
  have HNY : Hid (ys.length = ny) := hny
  rw [hnx] at HA hlx ⊢
  rw [hny] at HB hly ⊢
  clear ha hb hnx hny
  go_enter Tryd.func64, Tryd.ntmps64
  go_wp2
  go_loopg [7, 8, 9, 10, 13] nx (fun gm _ _ _ _ s13 wr => ∃ (k : Nat), s13 = .int .i64 k ∧ k ≤ nx ∧ nx - k ≤ gm ∧ Hid (cmpL xs ys = cmpL (xs.drop k) (ys.drop k)) ∧ Hid (Gr w wr))
  case atStart => exact ⟨0, rfl, Nat.zero_le _, by omega, rfl, Gr.refl _⟩
  case round =>
    obtain ⟨k, rfl, hk, hgm, HO, HG⟩ := hrel
    by_cases hlt : k < nx
    · have hltz : (k : Int) < (nx : Int) := by omega
      obtain ⟨x, hx⟩ : ∃ x, xs[k]? = some x := ⟨xs[k]'(by have := HNX.out; omega), List.getElem?_eq_getElem _⟩
      obtain ⟨g, off, rfl, hg, c0, c1, c2⟩ := (HA.out.below (HG.out.bel.mono hE)).at hx
      by_cases hly2 : k < ny
      · have hlyz : (k : Int) < (ny : Int) := by omega
        obtain ⟨y, hy⟩ : ∃ y, ys[k]? = some y := ⟨ys[k]'(by have := HNY.out; omega), List.getElem?_eq_getElem _⟩
        obtain ⟨h, oh, rfl, hh, d0, d1, d2⟩ := (HB.out.below (HG.out.bel.mono hE)).at hy
        have hdA : ∀ (o : Obj) (j : Nat), (wr.alloc o).cell? ⟨h, j, none⟩ = wr.cell? ⟨h, j, none⟩ := fun o j => ((Below.refl _ wr).alloc (Nat.le_refl _) o).cell (p := ⟨h, j, none⟩) (Nat.lt_of_lt_of_le hh (Nat.le_trans hE HG.out.bel.size))
        have d0' := fun o => (hdA o _).trans d0
        have d1' := fun o => (hdA o _).trans d1
        have d2' := fun o => (hdA o _).trans d2
        have HOA : Hid (cmpL xs ys = if cmpA x y ≠ 0 then cmpA x y else cmpL (xs.drop (k + 1)) (ys.drop (k + 1))) := HO.out.trans (cmpL_at hx hy)
        obtain ⟨ab, hab⟩ : ∃ ab, ab = wr.heap.size := ⟨_, rfl⟩
        obtain ⟨bb, hbb⟩ : ∃ bb, bb = wr.heap.size + 1 := ⟨_, rfl⟩
        obtain ⟨W, hW⟩ : ∃ W, W = (wr.alloc (.cells #[.int .i32 x.label, .int .i64 x.out, .int .i64 x.to] 74)).alloc (.cells #[.int .i32 y.label, .int .i64 y.out, .int .i64 y.to] 74) := ⟨_, rfl⟩
        have HGW : Hid (Gr w W) := by show Gr w W; rw [hW]; exact (HG.out.alloc _).alloc _
        have hS : SA ab bb x y W := by
          constructor
          · rw [hW, (MapKept.heap_alloc _ _).2 ab (by rw [hab]; simp), hab]
            exact alloc_newP _ _
          · have e : (wr.alloc (.cells #[.int .i32 x.label, .int .i64 x.out, .int .i64 x.to] 74)).heap.size = bb := by rw [hbb]; simp
            rw [hW, ← e]
            exact alloc_newP _ _
        obtain ⟨p0, p1, p2, p3, p4, p5⟩ := hS.facts
        have HCA : Hid (Calls Tryd.prog 65 #[.agg #[.int .i32 x.label, .int .i64 x.out, .int .i64 x.to], .agg #[.int .i32 y.label, .int .i64 y.out, .int .i64 y.to]] W fun e w' => e = .returned (.int .i64 (cmpA x y)) ∧ Gr W w') := compareArcs_any x y W
        clear hx hy hdA d0 d1 d2 hS
        generalize cmpA x y = c at *
        go_upto_region 7 with fail
        rw [← hbb, ← hab, ← hW]
        clear hbb hab hW c0 c1 c2 d0' d1' d2'
        by_cases hc0 : c = 0
        · subst hc0
          have HF : Hid (cmpL xs ys = cmpL (xs.drop (k + 1)) (ys.drop (k + 1))) := HOA.out
          go_wp2_with (go_at_call 65; refine HCA.out.mono ?_; rintro e w2 ⟨rfl, hg2⟩; have HG2 : Hid (Gr W w2) := hg2; clear hg2)
          go_roundg (nx - (k + 1))
          case measure => omega
          case rel => exact ⟨k + 1, by go_num, by omega, Nat.le_refl _, HF, HGW.out.trans HG2.out⟩
        · have HF : Hid (cmpL xs ys = c) := by show _ = _; rw [HOA.out, if_pos hc0]
          have h1b : (c == 0) = false := beq_eq_false_iff_ne.2 hc0
          have h1n : (c != 0) = true := by simp [bne, h1b]
          go_wp2_with (go_at_call 65; refine HCA.out.mono ?_; rintro e w2 ⟨rfl, hg2⟩; have HG2 : Hid (Gr W w2) := hg2; clear hg2)
          go_ret
          exact ⟨by rw [HF.out]; rfl, HGW.out.trans HG2.out⟩
      · have hlyz : ¬ (k : Int) < (ny : Int) := by omega
        have HF : Hid (cmpL xs ys = 1) := by show _ = _; rw [HO.out, cmpL_long (by have := HNX.out; omega) (by have := HNY.out; omega)]
        have HGA : Hid (∀ o, Gr w (wr.alloc o)) := fun o => HG.out.alloc o
        clear hx
        go_wp2
        go_ret
        exact ⟨by rw [HF.out]; rfl, HGA.out _⟩
    · have hltz : ¬ (k : Int) < (nx : Int) := by omega
      have hkx : k = nx := by omega
      have HE : Hid (cmpL xs ys = if nx < ny then -1 else 0) := by
        show _ = _
        rw [HO.out, cmpL_end (by have := HNX.out; omega), HNY.out, hkx]
      by_cases hyx : nx < ny
      · have hyz : (nx : Int) < (ny : Int) := by omega
        rw [if_pos hyx] at HE
        go_wp2
        go_ret
        exact ⟨by rw [HE.out]; rfl, HG.out⟩
      · have hyz : ¬ (nx : Int) < (ny : Int) := by omega
        rw [if_neg hyx] at HE
        go_wp2
        go_ret
        exact ⟨by rw [HE.out]; rfl, HG.out⟩
end Go.Proofs.YtdidcombjmbkdaaDoor

/- The comparing of states. -/
namespace Go.Proofs.YtdidcombjmbkdaaDoor
open Go.RowKit Nums Fm Pk
set_option maxRecDepth 100000

/-- Two states in boxes. -/
structure SS (ab bb : Nat) (s t : RSt) (va vb : Value) (w : World) : Prop where
  a : w.heap[ab]? = some (.cells #[.bool s.final, .int .i64 s.out, va] 44)
  b : w.heap[bb]? = some (.cells #[.bool t.final, .int .i64 t.out, vb] 44)
theorem SS.facts {ab bb : Nat} {s t : RSt} {va vb : Value} {w : World} (h : SS ab bb s t va vb w) : w.cell? ⟨ab, 0, none⟩ = some (.bool s.final) ∧ w.cell? ⟨ab, 1, none⟩ = some (.int .i64 s.out) ∧ w.cell? ⟨ab, 2, none⟩ = some va ∧ w.cell? ⟨bb, 0, none⟩ = some (.bool t.final) ∧ w.cell? ⟨bb, 1, none⟩ = some (.int .i64 t.out) ∧ w.cell? ⟨bb, 2, none⟩ = some vb :=
  ⟨by simp [World.cell?, h.a], by simp [World.cell?, h.a], by simp [World.cell?, h.a], by simp [World.cell?, h.b], by simp [World.cell?, h.b], by simp [World.cell?, h.b]⟩
theorem SS.below {ab bb : Nat} {s t : RSt} {va vb : Value} {w w' : World} (h : SS ab bb s t va vb w) (hb : Below w.heap.size w w') : SS ab bb s t va vb w' := ⟨(hb.block ab (Array.getElem?_eq_some_iff.1 h.a).1).trans h.a, (hb.block bb (Array.getElem?_eq_some_iff.1 h.b).1).trans h.b⟩
set_option maxHeartbeats 2000000 in
theorem compareStates_any (E : Nat) (s t : RSt) (va vb : Value) (w : World) (ha : ArcsAt E w va s.arcs) (hb : ArcsAt E w vb t.arcs) (hE : E ≤ w.heap.size) (hs : s.arcs.length ≤ 1114112) (ht : t.arcs.length ≤ 1114112) :
    Calls Tryd.prog 41 #[.agg #[.bool s.final, .int .i64 s.out, va], .agg #[.bool t.final, .int .i64 t.out, vb]] w fun e w' => e = .returned (.int .i64 (cmpS s t)) ∧ Gr w w' := by
  obtain ⟨ad, cap, rfl⟩ := ha.shape
  obtain ⟨bd, bcap, rfl⟩ := hb.shape
  have HH1 : Hid (∀ W, Calls Tryd.prog 53 #[.agg #[.bool s.final, .int .i64 s.out, .slice ad s.arcs.length cap]] W fun e w' => e = .returned (.int .u64 (headS s)) ∧ Gr W w') := fun W => head_any s ad cap W hs
  have HH2 : Hid (∀ W, Calls Tryd.prog 53 #[.agg #[.bool t.final, .int .i64 t.out, .slice bd t.arcs.length bcap]] W fun e w' => e = .returned (.int .u64 (headS t)) ∧ Gr W w') := fun W => head_any t bd bcap W ht
  have HCF : Hid (∀ W, Gr w W → Calls Tryd.prog 64 #[.slice ad s.arcs.length cap, .slice bd t.arcs.length bcap, .func (.func 65) #[] #[]] W fun e w' => e = .returned (.int .i64 (cmpL s.arcs t.arcs)) ∧ Gr W w') := fun W hW => compareFunc_any E _ _ _ _ W (ha.below (hW.bel.mono hE)) (hb.below (hW.bel.mono hE)) (Nat.le_trans hE hW.bel.size)
  have HU : Hid (∀ W, Calls Tryd.prog 62 #[.int .u64 (headS s), .int .u64 (headS t)] W fun e w' => e = .returned (.int .i64 (cmpI (headS s) (headS t))) ∧ w' = W) := fun W => cmpU_any _ _ W
  have HO : Hid (∀ W, Calls Tryd.prog 63 #[.int .i64 s.out, .int .i64 t.out] W fun e w' => e = .returned (.int .i64 (cmpI s.out t.out)) ∧ w' = W) := fun W => cmpN_any _ _ W
  obtain ⟨ab, hab⟩ : ∃ ab, ab = w.heap.size := ⟨_, rfl⟩
  obtain ⟨bb, hbb⟩ : ∃ bb, bb = w.heap.size + 1 := ⟨_, rfl⟩
  generalize s.arcs.length = na at *
  generalize t.arcs.length = nb at *
  obtain ⟨W, hW⟩ : ∃ W, W = (w.alloc (.cells #[.bool s.final, .int .i64 s.out, .slice ad na cap] 44)).alloc (.cells #[.bool t.final, .int .i64 t.out, .slice bd nb bcap] 44) := ⟨_, rfl⟩
  have HG : Hid (Gr w W) := by show Gr w W; rw [hW]; exact ((Gr.refl w).alloc _).alloc _
  have hS : SS ab bb s t (.slice ad na cap) (.slice bd nb bcap) W := by
    constructor
    · rw [hW, (MapKept.heap_alloc _ _).2 ab (by rw [hab]; simp), hab]
      exact alloc_newP _ _
    · have e : (w.alloc (.cells #[.bool s.final, .int .i64 s.out, .slice ad na cap] 44)).heap.size = bb := by rw [hbb]; simp
      rw [hW, ← e]
      exact alloc_newP _ _
  have hS0 : SS ab bb s t (.slice ad na cap) (.slice bd nb bcap) W.drew := hS.below (Below.refl _ W).drew
  have HCS : Hid (cmpS s t = if cmpH s t ≠ 0 then cmpH s t else cmpL s.arcs t.arcs) := rfl
  have HCH : Hid (cmpH s t = orI [cmpI (headS s) (headS t), cmpI s.out t.out]) := rfl
  generalize cmpL s.arcs t.arcs = CL at *
  generalize headS s = h1 at *
  generalize headS t = h2 at *
  generalize cmpH s t = CH at *
  generalize cmpS s t = CS at *
  generalize cmpI h1 h2 = c1 at *
  generalize cmpI s.out t.out = c2 at *
  go_enter Tryd.func41, Tryd.ntmps41
  go_upto_region 1 with fail
  rw [← hbb, ← hab, ← hW]
  clear hbb hab hW hS ha hb
  refine region_at (S := SS ab bb s t (.slice ad na cap) (.slice bd nb bcap)) 13 rfl mixedP hS0 (fun _ => ?_)
  refine take_at (i := 0) 6 rfl rfl (by kernel_rfl) (by kernel_rfl) (by kernel_rfl) (fun _ _ _ h => h) (by rfl) (fun w hSw => by (have hSw2 := SS.facts hSw; clear hSw; go_simp; first | done | exact rfl)) (by assumption) ?_
  simp only [List.setIfInBounds_toArray, List.set_cons_zero, List.set_cons_succ]
  refine take_at (i := 2) 8 rfl rfl (by kernel_rfl) (by kernel_rfl) (by kernel_rfl) (fun _ _ _ h => h) (by rfl) (fun w hSw => by (have hSw2 := SS.facts hSw; clear hSw; go_simp; first | done | exact rfl)) (by assumption) ?_
  simp only [List.setIfInBounds_toArray, List.set_cons_zero, List.set_cons_succ]
  refine take_at (i := 5) 11 rfl rfl (by kernel_rfl) (by kernel_rfl) (by kernel_rfl) (fun _ _ _ h => h) (by rfl) (fun w hSw => by (have hSw2 := SS.facts hSw; clear hSw; go_simp; first | done | exact rfl)) (by assumption) ?_
  simp only [List.setIfInBounds_toArray, List.set_cons_zero, List.set_cons_succ]
  refine take_at (i := 6) 12 rfl rfl (by kernel_rfl) (by kernel_rfl) (by kernel_rfl) (fun _ _ _ h => h) (by rfl) (fun w hSw => by (have hSw2 := SS.facts hSw; clear hSw; go_simp; first | done | exact rfl)) (by assumption) ?_
  simp only [List.setIfInBounds_toArray, List.set_cons_zero, List.set_cons_succ]
  refine take_at (i := 7) 13 rfl rfl (by kernel_rfl) (by kernel_rfl) (by kernel_rfl) (fun _ _ _ h => h) (by rfl) (fun w hSw => by (have hSw2 := SS.facts hSw; clear hSw; go_simp; first | done | exact rfl)) (by assumption) ?_
  simp only [List.setIfInBounds_toArray, List.set_cons_zero, List.set_cons_succ]
  refine take_at (i := 8) 14 rfl rfl (by kernel_rfl) (by kernel_rfl) (by kernel_rfl) (fun _ _ _ h => h) (by rfl) (fun w hSw => by (have hSw2 := SS.facts hSw; clear hSw; go_simp; first | done | exact rfl)) (by assumption) ?_
  simp only [List.setIfInBounds_toArray, List.set_cons_zero, List.set_cons_succ]
  refine one_call (i := 1) (w0 := W.drew) 7 53 #[.agg #[.bool s.final, .int .i64 s.out, .slice ad na cap]] (by kernel_rfl) rfl rfl (by rfl) (by kernel_rfl) ?_
  refine (HH1.out _).mono ?_
  rintro e w1 ⟨rfl, hg1⟩
  have hS1 := hS0.below hg1.bel
  have HG1 : Hid (Gr w w1) := (HG.out.drew).trans hg1
  refine ⟨_, rfl, hS1, fun _ => ?_⟩
  simp only [List.setIfInBounds_toArray, List.set_cons_zero, List.set_cons_succ]
  refine one_call (i := 3) (w0 := w1) 9 53 #[.agg #[.bool t.final, .int .i64 t.out, .slice bd nb bcap]] (by kernel_rfl) rfl rfl (by rfl) (by kernel_rfl) ?_
  refine (HH2.out _).mono ?_
  rintro e w2 ⟨rfl, hg2⟩
  have hS2 := hS1.below hg2.bel
  have HG2 : Hid (Gr w w2) := HG1.out.trans hg2
  refine ⟨_, rfl, hS2, fun _ => ?_⟩
  simp only [List.setIfInBounds_toArray, List.set_cons_zero, List.set_cons_succ]
  refine one_call (i := 4) (w0 := w2) 10 62 #[.int .u64 h1, .int .u64 h2] (by kernel_rfl) rfl rfl (by rfl) (by kernel_rfl) ?_
  refine (HU.out _).mono ?_
  rintro e w3 ⟨rfl, hw3⟩
  rw [hw3]
  refine ⟨_, rfl, hS2, fun _ => ?_⟩
  simp only [List.setIfInBounds_toArray, List.set_cons_zero, List.set_cons_succ]
  refine one_call (i := 9) (w0 := w2) 15 63 #[.int .i64 s.out, .int .i64 t.out] (by kernel_rfl) rfl rfl (by rfl) (by kernel_rfl) ?_
  refine (HO.out _).mono ?_
  rintro e w4 ⟨rfl, hw4⟩
  rw [hw4]
  refine ⟨_, rfl, hS2, fun _ => ?_⟩
  simp only [List.setIfInBounds_toArray, List.set_cons_zero, List.set_cons_succ]
  obtain ⟨W5, hW5⟩ : ∃ W5, W5 = w2.alloc (.cells #[.int .i64 c1, .int .i64 c2] 3) := ⟨_, rfl⟩
  have HG5 : Hid (Gr w W5) := by show Gr w W5; rw [hW5]; exact HG2.out.alloc _
  have hn5 : W5.heap[w2.heap.size]? = some (.cells #[.int .i64 c1, .int .i64 c2] 3) := by rw [hW5]; exact alloc_newP _ _
  have hS5 : SS ab bb s t (.slice ad na cap) (.slice bd nb bcap) W5 := by rw [hW5]; exact hS2.below ((Below.refl _ _).alloc (Nat.le_refl _) _)
  have h5 := or_any w2.heap.size 2 2 [c1, c2] W5 rfl (by decide) (fun i z hi => by
    match i, hi with
    | 0, hi => simp at hi; subst hi; simp [World.cell?, hn5]
    | 1, hi => simp at hi; subst hi; simp [World.cell?, hn5]
    | k + 2, hi => simp at hi)
  rw [← HCH.out] at h5
  refine one_value (i := 10) (v := .slice (some ⟨w2.heap.size, 0, none⟩) 2 2) (w' := W5) 16 (by kernel_rfl) rfl rfl (by rfl) (by rw [hW5]; go_simp; first | done | exact rfl) hS5 (fun _ => ?_)
  simp only [List.setIfInBounds_toArray, List.set_cons_zero, List.set_cons_succ]
  refine one_call (i := 11) (w0 := W5) 17 61 #[.slice (some ⟨w2.heap.size, 0, none⟩) 2 2] (by kernel_rfl) rfl rfl (by rfl) (by kernel_rfl) ?_
  refine h5.mono ?_
  rintro e w6 ⟨rfl, hw6⟩
  rw [hw6]
  refine ⟨_, rfl, hS5, fun _ => ?_⟩
  simp only [List.setIfInBounds_toArray, List.set_cons_zero, List.set_cons_succ]
  refine one_value (i := 12) (v := .int .i64 CH) (w' := W5) 5 (by kernel_rfl) rfl rfl (by rfl) (by go_simp; first | done | exact rfl) hS5 (fun _ => ?_)
  simp only [List.setIfInBounds_toArray, List.set_cons_zero, List.set_cons_succ]
  refine wpAnyH_done (by kernel_rfl) ?_ _
  obtain ⟨q0, q1, q2, q3, q4, q5⟩ := hS5.facts
  clear hW5 hn5 hw3 hw4 hw6 hS5
  by_cases hc : CH = 0
  · subst hc
    have HF : Hid (CS = CL) := HCS.out
    go_wp2_with (go_at_call 64; refine (HCF.out _ HG5.out).mono ?_; rintro e w8 ⟨rfl, hg8⟩)
    go_ret
    exact ⟨by rw [HF.out]; rfl, HG5.out.trans hg8⟩
  · have HF : Hid (CS = CH) := by show _ = _; rw [HCS.out, if_pos hc]
    have h1b : (CH == 0) = false := beq_eq_false_iff_ne.2 hc
    have h1n : (CH != 0) = true := by simp [bne, h1b]
    go_wp2
    go_ret
    exact ⟨by rw [HF.out]; rfl, HG5.out⟩
end Go.Proofs.YtdidcombjmbkdaaDoor

/- States that are sorted: two that are alike are neighbours. No program is named here. -/
namespace Go.Proofs.YtdidcombjmbkdaaDoor.Pk
open Go.Sort

def zS : RSt := ⟨false, 0, []⟩
def cfS (m : List RSt) (i j : Nat) : Int := cmpS (m.getD i zS) (m.getD j zS)
theorem cmpS_self (s : RSt) : cmpS s s = 0 := (cmpS_ord.eq _ _).2 rfl
theorem cmpS_pos {s t : RSt} (h : 0 < cmpS s t) : cmpS t s < 0 := (cmpS_ord.anti _ _).2 h
theorem cmpS_le {s t : RSt} (h : ¬ cmpS s t < 0) : s = t ∨ cmpS t s < 0 := by
  by_cases h0 : cmpS s t = 0
  · exact .inl ((cmpS_ord.eq _ _).1 h0)
  · exact .inr (cmpS_pos (by omega))
theorem cfS_swo (m : List RSt) : SWO (Go.Proofs.ltOf (cfS m)) := by
  refine ⟨fun x => ?_, fun x y z => ?_, fun x y z => ?_⟩ <;> unfold Go.Proofs.ltOf cfS
  · rw [cmpS_self]; rfl
  · simp only [decide_eq_true_eq]
    exact cmpS_ord.tr _ _ _
  · simp only [decide_eq_false_iff_not]
    intro h1 h2 h3
    rcases cmpS_le h1 with e1 | g1
    · rw [e1] at h3; exact h2 h3
    · rcases cmpS_le h2 with e2 | g2
      · rw [← e2] at h3; exact h1 h3
      · have := cmpS_ord.tr _ _ _ g2 g1
        have h4 := (cmpS_ord.anti _ _).1 h3
        omega
theorem perm_get {d : Array Nat} {n : Nat} (hp : d.toList.Perm (List.range n)) {a : Nat} (ha : a < n) : ∃ i, i < d.size ∧ d[i]! = a := by
  have := hp.mem_iff.2 (List.mem_range.2 ha)
  obtain ⟨i, hi, e⟩ := List.getElem_of_mem this
  have hi' : i < d.size := by simpa using hi
  exact ⟨i, hi', by rw [getElem!_pos d i hi']; simpa using e⟩
theorem perm_lt {d : Array Nat} {n : Nat} (hp : d.toList.Perm (List.range n)) {i : Nat} (hi : i < d.size) : d[i]! < n := by
  rw [getElem!_pos d i hi]
  exact List.mem_range.1 (hp.mem_iff.1 (by simp))
theorem adj_lt {m : List RSt} {d : Array Nat} (hs : SortedIn (Go.Proofs.ltOf (cfS m)) 0 m.length d) (hadj : ∀ i, i + 1 < m.length → cfS m d[i]! d[i + 1]! ≠ 0) : ∀ (k i : Nat), i + k + 1 < m.length → cfS m d[i]! d[i + k + 1]! < 0
  | 0, i, h => by
    have h1 := hs i (i + 1) (Nat.zero_le _) (by omega) (by omega)
    have h2 := hadj i (by omega)
    unfold Go.Proofs.ltOf at h1
    have h1' := of_decide_eq_false h1
    show cfS m d[i]! d[i + 1]! < 0
    unfold cfS at h1' h2 ⊢
    rcases cmpS_le h1' with e | g
    · rw [e, cmpS_self] at h2; exact absurd rfl h2
    · exact g
  | k + 1, i, h => by
    have h1 := adj_lt hs hadj k i (by omega)
    have h2 := adj_lt hs hadj 0 (i + k + 1) (by omega)
    exact cmpS_ord.tr _ _ _ h1 h2
theorem nodup_adj {m : List RSt} {d : Array Nat} (hd : d.size = m.length) (hp : d.toList.Perm (List.range m.length)) (hs : SortedIn (Go.Proofs.ltOf (cfS m)) 0 m.length d) (hadj : ∀ i, i + 1 < m.length → cfS m d[i]! d[i + 1]! ≠ 0) : m.Nodup := by
  unfold List.Nodup
  rw [List.pairwise_iff_getElem]
  intro a b ha hb hab e
  obtain ⟨i, hi, hia⟩ := perm_get hp ha
  obtain ⟨j, hj, hjb⟩ := perm_get hp hb
  have hf : ∀ x, (hx : x < m.length) → m.getD x zS = m[x] := fun x hx => by rw [List.getD_eq_getElem?_getD, List.getElem?_eq_getElem hx]; rfl
  have key : ∀ i j, i < j → j < m.length → d[i]! ≠ d[j]! → cfS m d[i]! d[j]! < 0 := fun i j h1 h2 _ => by
    have := adj_lt hs hadj (j - i - 1) i (by omega)
    rwa [show i + (j - i - 1) + 1 = j by omega] at this
  have hc : cfS m a b = 0 := by unfold cfS; rw [hf a ha, hf b hb, e, cmpS_self]
  have hc' : cfS m b a = 0 := by unfold cfS; rw [hf a ha, hf b hb, e, cmpS_self]
  rcases Nat.lt_trichotomy i j with h | h | h
  · have := key i j h (by omega) (by rw [hia, hjb]; omega)
    rw [hia, hjb] at this
    omega
  · subst h
    rw [hia] at hjb
    omega
  · have := key j i h (by omega) (by rw [hia, hjb]; omega)
    rw [hia, hjb] at this
    omega
theorem dup_adj {m : List RSt} {d : Array Nat} (hd : d.size = m.length) (hp : d.toList.Perm (List.range m.length)) {i : Nat} (hi : i + 1 < m.length) (h : cfS m d[i]! d[i + 1]! = 0) : ¬ m.Nodup := fun hn => by
  have h1 := perm_lt hp (i := i) (by omega)
  have h2 := perm_lt hp (i := i + 1) (by omega)
  have hne : d[i]! ≠ d[i + 1]! := by
    have hnd : d.toList.Nodup := hp.nodup_iff.2 List.nodup_range
    unfold List.Nodup at hnd
    rw [List.pairwise_iff_getElem] at hnd
    have := hnd i (i + 1) (by simpa using (show i < d.size by omega)) (by simpa using (show i + 1 < d.size by omega)) (by omega)
    rw [getElem!_pos d i (by omega), getElem!_pos d (i + 1) (by omega)]
    simpa using this
  have he := (cmpS_ord.eq _ _).1 h
  have hf : ∀ x, (hx : x < m.length) → m.getD x zS = m[x] := fun x hx => by rw [List.getD_eq_getElem?_getD, List.getElem?_eq_getElem hx]; rfl
  rw [hf _ h1, hf _ h2] at he
  unfold List.Nodup at hn
  rw [List.pairwise_iff_getElem] at hn
  rcases Nat.lt_trichotomy d[i]! d[i + 1]! with h | h | h
  · exact hn _ _ h1 h2 h he
  · exact hne h
  · exact hn _ _ h2 h1 h he.symm
end Go.Proofs.YtdidcombjmbkdaaDoor.Pk

/- slices.Clone and slices.SortFunc at states. -/
namespace Go.Proofs.YtdidcombjmbkdaaDoor
open Go.RowKit Go.Shelf Nums Fm Pk
set_option maxRecDepth 1000000
shelf_lay_g SlLaysE0.n41 Slgn 41 at Tryd 39 as cloneSt
shelf_lay_g SlLaysF0.n6 Slsf 6 at Tryd 40 as sortSt

/-- The cells of states, with their arcs. -/
structure StX (E : Nat) (w : World) (xss : List (List Value)) (m : List RSt) : Prop where
  len : xss.length = m.length
  all : ∀ (i : Nat) (s : RSt), m[i]? = some s → ∃ va, xss[i]? = some [.bool s.final, .int .i64 s.out, va] ∧ ArcsAt E w va s.arcs
  sml : ∀ s ∈ m, s.arcs.length ≤ 1114112
theorem StX.below {E : Nat} {w w' : World} {xss : List (List Value)} {m : List RSt} (h : StX E w xss m) (hb : Below E w w') : StX E w' xss m := ⟨h.len, fun i s hi => by obtain ⟨va, e1, e2⟩ := h.all i s hi; exact ⟨va, e1, e2.below hb⟩, h.sml⟩
theorem StX.cells {E : Nat} {w : World} {xss : List (List Value)} {m : List RSt} (h : StX E w xss m) : ∀ x ∈ xss, Cells 3 x := fun x hx => by
  obtain ⟨i, hi, rfl⟩ := List.getElem_of_mem hx
  obtain ⟨s, hs⟩ : ∃ s, m[i]? = some s := ⟨m[i]'(by have := h.len; omega), List.getElem?_eq_getElem _⟩
  obtain ⟨va, e1, e2⟩ := h.all i s hs
  obtain ⟨ad, cap, rfl⟩ := e2.shape
  rw [List.getElem?_eq_getElem hi] at e1
  rw [Option.some.inj e1]
  exact ⟨rfl, by simp [Value.oneCell']⟩
theorem flat_at : ∀ (xss : List (List Value)), (∀ x ∈ xss, x.length = 3) → ∀ (j : Nat) (u : Value), xss.flatten[j]? = some u → ∃ i c x, j = i * 3 + c ∧ xss[i]? = some x ∧ x[c]? = some u
  | [], _, j, u, h => by simp at h
  | y :: r, hk, j, u, h => by
    have hy := hk y (by simp)
    rw [List.flatten_cons] at h
    by_cases hj : j < 3
    · rw [List.getElem?_append_left (by omega)] at h
      exact ⟨0, j, y, by omega, rfl, h⟩
    · rw [List.getElem?_append_right (by omega), hy] at h
      obtain ⟨i, c, x, e, h1, h2⟩ := flat_at r (fun x hx => hk x (by simp [hx])) (j - 3) u h
      exact ⟨i + 1, c, x, by omega, by simpa using h1, h2⟩
theorem flat_len3 : ∀ (xss : List (List Value)), (∀ x ∈ xss, x.length = 3) → xss.flatten.length = xss.length * 3
  | [], _ => rfl
  | y :: r, hk => by
    rw [List.flatten_cons, List.length_append, flat_len3 r (fun x hx => hk x (by simp [hx])), hk y (by simp), List.length_cons]
    omega
theorem cloneS_any (E : Nat) (w : World) (xss : List (List Value)) (m : List RSt) (vs : Value) (h : GRow E 3 w vs xss) (hX : StX E w xss m) (h0 : m ≠ []) (hm : m.length ≤ 1048576) :
    Calls Tryd.prog 39 #[vs] w fun e w' => ∃ g cap, e = .returned (.slice (some ⟨g, 0, none⟩) m.length cap) ∧ GOwn 44 3 w.heap.size w' (.slice (some ⟨g, 0, none⟩) m.length cap) xss ∧ Below w.heap.size w w' := by
  obtain ⟨z, hz, hzs⟩ := rtyS.inf
  obtain ⟨i, hi, hz0, hz1, hz2⟩ := info_parts hz
  have hsz : ∀ w, (Go.sizeOf 44).run Tryd.prog w = .ok 3 w := fun w => by simp [sizeOf, typeInfo, hi, hz1, Result.andThen]
  have hcl := hX.cells
  have hl3 : ∀ x ∈ xss, x.length = 3 := fun x hx => (hcl x hx).1
  have hpos := List.length_pos_iff.2 h0
  have hlen := hX.len
  obtain ⟨ad, cap, rfl, hc⟩ := h.ex
  obtain ⟨g, off, rfl, hg, hx⟩ := hc (by omega)
  have hcell : ∀ (j : Nat) u, xss.flatten[j]? = some u → w.cell? ⟨g, off + j, none⟩ = some u := fun j u hj => by
    obtain ⟨i, c, x, rfl, h1, h2⟩ := flat_at xss hl3 j u hj
    have := hx i c x u h1 h2
    rwa [Nat.add_assoc] at this
  have hone : ∀ u ∈ xss.flatten, u.oneCell' = true := fun u hu => by
    obtain ⟨x, hx, hux⟩ := List.mem_flatten.1 hu
    exact (hcl x hx).2 u hux
  have hcall : Calls Tryd.prog 39 #[.slice (some ⟨g, off, none⟩) xss.length cap] w fun e w' => ∃ v', e = .returned v' ∧ w'.ownsRow w.heap.size 44 3 v' xss.length xss.flatten ∧ v' ≠ .slice none 0 0 ∧ Below w.heap.size w w' :=
    AnyE.slices_Clone cloneSt i z 3 40 hi hz0 hz1 hz2 hzs (by decide) hsz g off xss.length cap xss.flatten w (flat_len3 xss hl3) (by unfold maxLen; omega) (by omega) hcell hone
  refine hcall.mono ?_
  rintro e w' ⟨v', rfl, ho, hne, hb⟩
  have hO : GOwn 44 3 w.heap.size w' v' xss := ⟨hcl, ho⟩
  obtain ⟨g', cap', hv, _⟩ := hO.cell (by omega)
  subst hv
  rw [hlen] at hO ⊢
  exact ⟨g', cap', rfl, hO, hb⟩
def encS (xss : List (List Value)) (i : Nat) : List Value := xss.getD i [.bool false, .int .i64 0, .slice none 0 0]
theorem encS_get {E : Nat} {w : World} {xss : List (List Value)} {m : List RSt} (h : StX E w xss m) (i : Nat) : ∃ va, encS xss i = [.bool (m.getD i zS).final, .int .i64 (m.getD i zS).out, va] ∧ ArcsAt E w va (m.getD i zS).arcs ∧ (m.getD i zS).arcs.length ≤ 1114112 ∧ va.oneCell' = true := by
  cases hs : m[i]? with
  | none =>
    have hx : xss[i]? = none := List.getElem?_eq_none (by have := h.len; have := List.getElem?_eq_none_iff.1 hs; omega)
    rw [encS, List.getD_eq_getElem?_getD, hx, List.getD_eq_getElem?_getD, hs]
    exact ⟨_, rfl, ⟨⟨_, _, rfl, fun h => by simp [zS] at h⟩, fun a ha => by simp [zS] at ha, by simp [zS]⟩, by simp [zS], rfl⟩
  | some s =>
    obtain ⟨va, e1, e2⟩ := h.all i s hs
    rw [encS, List.getD_eq_getElem?_getD, e1, List.getD_eq_getElem?_getD, hs]
    obtain ⟨ad, cap, hv⟩ := e2.shape
    exact ⟨va, rfl, e2, h.sml s (List.mem_of_getElem? hs), by rw [hv]; rfl⟩
theorem sortFar {enc : Nat → List Value} {w : World} {blk off q : Nat} {d : Array Nat} {os : Array Obj} {k : Nat} (hk : k < w.heap.size) (hne : k ≠ blk) : (sortWorldK enc 3 w blk off q d os).heap[k]? = w.heap[k]? := by
  unfold sortWorldK Go.Sort.grow Go.Sort.putRowK Go.Sort.putRow Go.Sort.mapBlock
  simp only
  rw [Array.getElem?_append_left (by simpa [Go.Sort.ahead] using hk), Array.getElem?_modify, if_neg (fun e => hne e.symm)]
  rfl
theorem sortBelow {enc : Nat → List Value} {w : World} {blk off q : Nat} {d : Array Nat} {os : Array Obj} {B : Nat} (hB : B ≤ blk) (hBw : B ≤ w.heap.size) : Below B w (sortWorldK enc 3 w blk off q d os) := by
  refine ⟨rfl, rfl, rfl, ?_, fun k hk => sortFar (by omega) (by omega)⟩
  unfold sortWorldK Go.Sort.grow Go.Sort.putRowK Go.Sort.putRow Go.Sort.mapBlock
  simp [Go.Sort.ahead]
theorem sortS_any (E B : Nat) (w : World) (xss : List (List Value)) (m : List RSt) (g cap : Nat) (hO : GOwn 44 3 B w (.slice (some ⟨g, 0, none⟩) m.length cap) xss) (hX : StX E w xss m) (hEB : E ≤ B) (hBw : B ≤ w.heap.size) (h0 : m ≠ []) (hm : m.length ≤ 1048576) :
    Calls Tryd.prog 40 #[.slice (some ⟨g, 0, none⟩) m.length cap, .func (.func 41) #[] #[]] w fun e w' => e = .returned (.tuple #[]) ∧ ∃ d : Array Nat, d.size = m.length ∧ d.toList.Perm (List.range m.length) ∧ Go.Sort.SortedIn (ltOf (cfS m)) 0 m.length d ∧ Go.Sort.HoldsK (encS xss) 3 w' g 0 d ∧ Below B w w' := by
  have hlen := hX.len
  have hpos := List.length_pos_iff.2 h0
  have eg : ∀ args w, (callFunc 41 args).run Tryd.prog w = .ok (.enter 41 args) w := enters_of Tryd.func41 (by kernel_rfl) rfl
  have hk : ∀ x, (encS xss x).length = 3 := fun x => by obtain ⟨va, e, _⟩ := encS_get hX x; rw [e]; rfl
  have h1 : ∀ x, ∀ v ∈ encS xss x, v.oneCell' = true := fun x v hv => by
    obtain ⟨va, e, _, _, ho⟩ := encS_get hX x
    rw [e] at hv
    simp only [List.mem_cons, List.not_mem_nil, or_false] at hv
    rcases hv with rfl | rfl | rfl
    · rfl
    · rfl
    · exact ho
  obtain ⟨hg, cur, hblk⟩ := hO.block (g := g) rfl
  have hgw := (Array.getElem?_eq_some_iff.1 hblk).1
  have hH : Go.Sort.HoldsK (encS xss) 3 w g 0 (Array.range m.length) := by
    obtain ⟨g', cap', e, _, _, _, hc⟩ := hO.cell (by omega)
    simp only [Value.slice.injEq, Option.some.injEq, Addr.mk.injEq, and_true] at e
    have eg' : g = g' := e.1
    subst eg'
    intro t ht
    have ht2 : t < m.length * 3 := by simpa using ht
    obtain ⟨i, j, rfl, hj⟩ : ∃ i j, t = i * 3 + j ∧ j < 3 := ⟨t / 3, t % 3, by omega, by omega⟩
    have hi : i < m.length := by omega
    have hx : xss[i]? = some (xss[i]'(by omega)) := List.getElem?_eq_getElem _
    have hl := hk i
    have he : encS xss i = xss[i]'(by omega) := by rw [encS, List.getD_eq_getElem?_getD, hx]; rfl
    rw [he] at hl
    refine ⟨?_, by simp [World.frozen?, hblk]⟩
    rw [Go.Sort.get_flatK _ _ _ _ (by simpa using ht2), show (i * 3 + j) / 3 = i by omega, show (i * 3 + j) % 3 = j by omega]
    have el : (Array.range m.length)[i]! = i := by simp [hi]
    rw [el, he, Nat.zero_add]
    have hjl : j < (xss[i]'(by omega)).length := by omega
    rw [getElem!_pos _ j hjl]
    exact hc i j _ _ hx (List.getElem?_eq_getElem hjl)
  have hcmp : CmpLays Tryd.prog 41 #[] (encS xss) 3 (cfS m) g 0 (Array.range m.length).size w := fun q os dk _ x y => by
    obtain ⟨va, ea, ha, hla, _⟩ := encS_get hX x
    obtain ⟨vb, eb, hb, hlb, _⟩ := encS_get hX y
    have hbl : Below E w (sortWorldK (encS xss) 3 w g 0 q dk os) := sortBelow (by omega) (by omega)
    rw [ea, eb]
    refine (compareStates_any E _ _ va vb _ (ha.below hbl) (hb.below hbl) (Nat.le_trans (by omega) hbl.size) hla hlb).mono ?_
    rintro e w' ⟨rfl, hgr⟩
    exact ⟨rfl, hgr.grown⟩
  have hc := AnyQ.slices_SortFunc sortSt 3 Tryd.isAgg44 Tryd.sizeOf44 (encS xss) hk h1 (cfS m) (cfS_swo m) 41 #[] g 0 cap (Array.range m.length) w eg hcmp hH hgw (by simp; omega)
  rw [Array.size_range] at hc
  refine hc.mono ?_
  rintro e w' ⟨rfl, d, q, os, hp, hs, rfl⟩
  obtain ⟨hp1, _, hp3⟩ := hp
  have hds : d.size = m.length := by simpa using hp1
  have hsw : SWK (encS xss) 3 w g 0 d (sortWorldK (encS xss) 3 w g 0 q d os) := ⟨q, os, rfl⟩
  refine ⟨rfl, d, hds, ?_, hs, hsw.holds hgw hH (by simpa using hds), sortBelow hg hBw⟩
  have e1 : d.extract 0 m.length = d := by rw [← hds]; simp
  have e2 : (Array.range m.length).extract 0 m.length = Array.range m.length := by simp
  rw [e1, e2] at hp3
  simpa using hp3
end Go.Proofs.YtdidcombjmbkdaaDoor

/- unlike: no two states alike. -/
namespace Go.Proofs.YtdidcombjmbkdaaDoor
open Go.RowKit Nums Fm Pk
set_option maxRecDepth 100000

/-- Two states of the row, as the region reads them. -/
structure SU (g k : Nat) (s t : RSt) (va vb : Value) (w0 w : World) : Prop where
  a0 : w.cell? ⟨g, k * 3, none⟩ = some (.bool s.final)
  a1 : w.cell? ⟨g, k * 3 + 1, none⟩ = some (.int .i64 s.out)
  a2 : w.cell? ⟨g, k * 3 + 2, none⟩ = some va
  b0 : w.cell? ⟨g, (k + 1) * 3, none⟩ = some (.bool t.final)
  b1 : w.cell? ⟨g, (k + 1) * 3 + 1, none⟩ = some (.int .i64 t.out)
  b2 : w.cell? ⟨g, (k + 1) * 3 + 2, none⟩ = some vb
  gr : Gr w0 w
theorem SU.facts {g k : Nat} {s t : RSt} {va vb : Value} {w0 w : World} (h : SU g k s t va vb w0 w) : w.cell? ⟨g, k * 3, none⟩ = some (.bool s.final) ∧ w.cell? ⟨g, k * 3 + 1, none⟩ = some (.int .i64 s.out) ∧ w.cell? ⟨g, k * 3 + 2, none⟩ = some va ∧ w.cell? ⟨g, (k + 1) * 3, none⟩ = some (.bool t.final) ∧ w.cell? ⟨g, (k + 1) * 3 + 1, none⟩ = some (.int .i64 t.out) ∧ w.cell? ⟨g, (k + 1) * 3 + 2, none⟩ = some vb := ⟨h.a0, h.a1, h.a2, h.b0, h.b1, h.b2⟩
theorem SU.grow {g k : Nat} {s t : RSt} {va vb : Value} {w0 w w' : World} (h : SU g k s t va vb w0 w) (hg : g < w0.heap.size) (hr : Gr w w') : SU g k s t va vb w0 w' := by
  have e : ∀ j, w'.cell? ⟨g, j, none⟩ = w.cell? ⟨g, j, none⟩ := fun j => hr.bel.cell (p := ⟨g, j, none⟩) (Nat.lt_of_lt_of_le hg h.gr.bel.size)
  exact ⟨(e _).trans h.a0, (e _).trans h.a1, (e _).trans h.a2, (e _).trans h.b0, (e _).trans h.b1, (e _).trans h.b2, h.gr.trans hr⟩
set_option maxHeartbeats 4000000 in
theorem unlike_any (E : Nat) (w : World) (m : List RSt) (vs : Value) (h : StsAt E w vs m) (hE : E ≤ w.heap.size) (hF : formB 0 m = true) (hm : m.length ≤ 1048576) (h0 : m ≠ []) :
    Calls Tryd.prog 21 #[vs] w fun e w' => e = .returned (.bool (decide m.Nodup)) ∧ Below w.heap.size w w' := by
  obtain ⟨xss, hR, hxl, hx⟩ := h.ex
  have hX : StX E w xss m := ⟨hxl, hx, fun s hs => by
    obtain ⟨i, hi, rfl⟩ := List.getElem_of_mem hs
    have := form_get m 0 i _ hF (List.getElem?_eq_getElem hi)
    exact (form_facts this).2.2⟩
  obtain ⟨ad, cap, rfl⟩ := h.shape
  have hpos := List.length_pos_iff.2 h0
  obtain ⟨n, hn⟩ : ∃ n, m.length = n + 1 := ⟨m.length - 1, by omega⟩
  have HN : Hid (m.length = n + 1) := hn
  have HX : Hid (StX E w xss m) := hX
  have HCL : Hid (Calls Tryd.prog 39 #[.slice ad (n + 1) cap] w fun e w' => ∃ g cap, e = .returned (.slice (some ⟨g, 0, none⟩) (n + 1) cap) ∧ GOwn 44 3 w.heap.size w' (.slice (some ⟨g, 0, none⟩) (n + 1) cap) xss ∧ Below w.heap.size w w') := by
    have := cloneS_any E w xss m _ hR hX h0 hm
    rw [hn] at this
    exact this
  have HSO : Hid (∀ w1 g cap, GOwn 44 3 w.heap.size w1 (.slice (some ⟨g, 0, none⟩) (n + 1) cap) xss → Below w.heap.size w w1 → Calls Tryd.prog 40 #[.slice (some ⟨g, 0, none⟩) (n + 1) cap, .func (.func 41) #[] #[]] w1 fun e w' => e = .returned (.tuple #[]) ∧ ∃ d : Array Nat, d.size = m.length ∧ d.toList.Perm (List.range m.length) ∧ Go.Sort.SortedIn (ltOf (cfS m)) 0 m.length d ∧ Go.Sort.HoldsK (encS xss) 3 w' g 0 d ∧ Below w.heap.size w1 w') := fun w1 g cap ho hb => by
    have := sortS_any E w.heap.size w1 xss m g cap (by rw [hn]; exact ho) (hX.below (hb.mono hE)) hE hb.size h0 hm
    rw [hn] at this ⊢
    exact this
  rw [hn] at hm ⊢
  clear h hR hxl hx hX hn hF
  go_enter Tryd.func21, Tryd.ntmps21
  go_upto_region 2 with (go_at_call 39; refine HCL.out.mono ?_; rintro e w1 ⟨g, gc, rfl, ho1, hb1⟩; have HO1 : Hid (GOwn 44 3 w.heap.size w1 (.slice (some ⟨g, 0, none⟩) (n + 1) gc) xss) := ho1; have HB1 : Hid (Below w.heap.size w w1) := hb1; clear ho1 hb1)
  go_upto_region 3 with (go_at_call 40; refine (HSO.out w1 g gc HO1.out HB1.out).mono ?_; rintro e w2 ⟨rfl, d, hd1, hd2, hd3, hd4, hb2⟩)
  have hgc : n + 1 ≤ gc := by
    obtain ⟨_, c', e, hc⟩ := HO1.out.shape
    simp only [Value.slice.injEq] at e
    omega
  have hgw : g < w2.heap.size := Nat.lt_of_lt_of_le (HO1.out.lt (g := g) rfl) hb2.size
  have HBW : Hid (Below w.heap.size w w2) := HB1.out.trans (hb2.mono (Nat.le_refl _))
  have HD : Hid (d.size = m.length ∧ d.toList.Perm (List.range m.length) ∧ Go.Sort.SortedIn (ltOf (cfS m)) 0 m.length d ∧ Go.Sort.HoldsK (encS xss) 3 w2 g 0 d) := ⟨hd1, hd2, hd3, hd4⟩
  have HX2 : Hid (StX E w2 xss m) := HX.out.below (HBW.out.mono hE)
  have hgcz : ((n : Int) + 1) ≤ (gc : Int) := by omega
  clear hd1 hd2 hd3 hd4 hb2
  go_wp2
  all_goals
    go_loopg [4, 12] n (fun gm _ s12 wr => ∃ (k : Nat), s12 = .int .i64 k ∧ k ≤ n ∧ n - k ≤ gm ∧ Hid (∀ i, i < k → cfS m d[i]! d[i + 1]! ≠ 0) ∧ Hid (Gr w2 wr))
    case atStart => exact ⟨0, rfl, Nat.zero_le _, by omega, fun i hi => absurd hi (Nat.not_lt_zero _), Gr.refl _⟩
    case round =>
      obtain ⟨k, rfl, hk, hgm, HA, HG⟩ := hrel
      by_cases hlt : k < n
      · have hltz : (k : Int) < (n : Int) := by omega
        have hn1 := HN.out
        have hds := HD.out.1
        obtain ⟨va, ea, haa, hla, _⟩ := encS_get HX2.out d[k]!
        obtain ⟨vb, eb, hbb, hlb, _⟩ := encS_get HX2.out d[k + 1]!
        obtain ⟨s, hs⟩ : ∃ s, m.getD d[k]! zS = s := ⟨_, rfl⟩
        obtain ⟨t, ht⟩ : ∃ t, m.getD d[k + 1]! zS = t := ⟨_, rfl⟩
        rw [hs] at ea haa hla
        rw [ht] at eb hbb hlb
        have hcell : ∀ (i c : Nat), i < d.size → c < 3 → wr.cell? ⟨g, i * 3 + c, none⟩ = some (encS xss d[i]!)[c]! := fun i c hi hc => by
          have := (HD.out.2.2.2.cell hi hc).1
          rw [Nat.zero_add] at this
          exact (HG.out.bel.cell (p := ⟨g, i * 3 + c, none⟩) hgw).trans this
        have hS : SU g k s t va vb w2 wr := by
          have a0 := hcell k 0 (by omega) (by omega)
          have a1 := hcell k 1 (by omega) (by omega)
          have a2 := hcell k 2 (by omega) (by omega)
          have b0 := hcell (k + 1) 0 (by omega) (by omega)
          have b1 := hcell (k + 1) 1 (by omega) (by omega)
          have b2 := hcell (k + 1) 2 (by omega) (by omega)
          rw [ea] at a0 a1 a2
          rw [eb] at b0 b1 b2
          exact ⟨a0, a1, a2, b0, b1, b2, HG.out⟩
        obtain ⟨vd, vc, hva⟩ := haa.shape
        obtain ⟨ud, uc, hvb⟩ := hbb.shape
        obtain ⟨na, hna⟩ : ∃ na, s.arcs.length = na := ⟨_, rfl⟩
        obtain ⟨nb, hnb⟩ : ∃ nb, t.arcs.length = nb := ⟨_, rfl⟩
        rw [hna] at hva
        rw [hnb] at hvb
        subst hva
        subst hvb
        have hS0 := hS.grow hgw ((Gr.refl wr).drew)
        have hE2 : E ≤ w2.heap.size := Nat.le_trans hE HBW.out.size
        have hbd : Below E w2 wr.drew := (HG.out.drew).bel.mono hE2
        have HCS : Hid (Calls Tryd.prog 41 #[.agg #[.bool s.final, .int .i64 s.out, .slice vd na vc], .agg #[.bool t.final, .int .i64 t.out, .slice ud nb uc]] wr.drew fun e w' => e = .returned (.int .i64 (cfS m d[k]! d[k + 1]!)) ∧ Gr wr.drew w') := by
          have := compareStates_any E s t _ _ wr.drew (haa.below hbd) (hbb.below hbd) (Nat.le_trans hE2 hbd.size) hla hlb
          unfold cfS
          rw [hs, ht]
          exact this
        have HS0 : Hid (SU g k s t (.slice vd na vc) (.slice ud nb uc) w2 wr.drew) := hS0
        have HK1 : Hid (cfS m d[k]! d[k + 1]! = 0 → ¬ m.Nodup) := fun h => dup_adj hds HD.out.2.1 (by omega) h
        have HK2 : Hid (cfS m d[k]! d[k + 1]! ≠ 0 → ∀ i, i < k + 1 → cfS m d[i]! d[i + 1]! ≠ 0) := fun h i hi => by
          by_cases hik : i = k
          · rw [hik]; exact h
          · exact HA.out i (by omega)
        have hk1 : IntKind.i64.wrap ((k : Int) + 1) = (k : Int) + 1 := by rw [IntKind.wrap_i64]; omega
        have hk2 : (k : Int) + 1 < (n : Int) + 1 := by omega
        have hk3 : (0 : Int) ≤ (k : Int) + 1 := by omega
        have hk4 : ((k : Int) + 1).toNat = k + 1 := by omega
        have hk5 : (k : Int) < (n : Int) + 1 := by omega
        clear hs ht hcell hS ea eb haa hbb hna hnb hds hn1
        generalize cfS m d[k]! d[k + 1]! = c at HCS HK1 HK2
        go_upto_region 6 with fail
        refine region_at (S := SU g k s t (.slice vd na vc) (.slice ud nb uc) w2) 11 rfl mixedP hS0 (fun _ => ?_)
        refine take_at (i := 0) 15 rfl rfl (by kernel_rfl) (by kernel_rfl) (by kernel_rfl) (fun _ _ _ h => h) (by rfl) (fun w hSw => by (have hSw2 := SU.facts hSw; clear hSw; go_simp; first | done | exact rfl)) (by assumption) ?_
        simp only [List.setIfInBounds_toArray, List.set_cons_zero, List.set_cons_succ]
        refine take_at (i := 1) 16 rfl rfl (by kernel_rfl) (by kernel_rfl) (by kernel_rfl) (fun _ _ _ h => h) (by rfl) (fun w hSw => by (have hSw2 := SU.facts hSw; clear hSw; go_simp; first | done | exact rfl)) (by assumption) ?_
        simp only [List.setIfInBounds_toArray, List.set_cons_zero, List.set_cons_succ]
        refine take_at (i := 2) 17 rfl rfl (by kernel_rfl) (by kernel_rfl) (by kernel_rfl) (fun _ _ _ h => h) (by rfl) (fun w hSw => by (have hSw2 := SU.facts hSw; clear hSw; go_simp; first | done | exact rfl)) (by assumption) ?_
        simp only [List.setIfInBounds_toArray, List.set_cons_zero, List.set_cons_succ]
        refine take_at (i := 3) 18 rfl rfl (by kernel_rfl) (by kernel_rfl) (by kernel_rfl) (fun _ _ _ h => h) (by rfl) (fun w hSw => by (have hSw2 := SU.facts hSw; clear hSw; go_simp; first | done | exact rfl)) (by assumption) ?_
        simp only [List.setIfInBounds_toArray, List.set_cons_zero, List.set_cons_succ]
        refine take_at (i := 4) 19 rfl rfl (by kernel_rfl) (by kernel_rfl) (by kernel_rfl) (fun _ _ _ h => h) (by rfl) (fun w hSw => by (have hSw2 := SU.facts hSw; clear hSw; go_simp; first | done | exact rfl)) (by assumption) ?_
        simp only [List.setIfInBounds_toArray, List.set_cons_zero, List.set_cons_succ]
        refine take_at (i := 5) 20 rfl rfl (by kernel_rfl) (by kernel_rfl) (by kernel_rfl) (fun _ _ _ h => h) (by rfl) (fun w hSw => by (have hSw2 := SU.facts hSw; clear hSw; go_simp; first | done | exact rfl)) (by assumption) ?_
        simp only [List.setIfInBounds_toArray, List.set_cons_zero, List.set_cons_succ]
        refine take_at (i := 6) (v := .int .i64 ((k : Int) + 1)) 21 rfl rfl (by kernel_rfl) (by kernel_rfl) (by kernel_rfl) (fun _ _ _ h => h) (by rfl) (fun w hSw => by (have hSw2 := SU.facts hSw; clear hSw; go_simp; first | done | exact rfl | simp_all | (simp; omega))) (by assumption) ?_
        simp only [List.setIfInBounds_toArray, List.set_cons_zero, List.set_cons_succ]
        refine take_at (i := 7) 22 rfl rfl (by kernel_rfl) (by kernel_rfl) (by kernel_rfl) (fun _ _ _ h => h) (by rfl) (fun w hSw => by (have hSw2 := SU.facts hSw; clear hSw; go_simp; first | done | exact rfl)) (by assumption) ?_
        simp only [List.setIfInBounds_toArray, List.set_cons_zero, List.set_cons_succ]
        refine take_at (i := 8) 23 rfl rfl (by kernel_rfl) (by kernel_rfl) (by kernel_rfl) (fun _ _ _ h => h) (by rfl) (fun w hSw => by (have hSw2 := SU.facts hSw; clear hSw; go_simp; first | done | exact rfl)) (by assumption) ?_
        simp only [List.setIfInBounds_toArray, List.set_cons_zero, List.set_cons_succ]
        refine one_call (i := 9) (w0 := wr.drew) 24 41 #[.agg #[.bool s.final, .int .i64 s.out, .slice vd na vc], .agg #[.bool t.final, .int .i64 t.out, .slice ud nb uc]] (by kernel_rfl) rfl rfl (by rfl) (by kernel_rfl) ?_
        refine HCS.out.mono ?_
        rintro e w3 ⟨rfl, hg3⟩
        have hS3 := HS0.out.grow hgw hg3
        have HG3 : Hid (Gr w2 w3) := hS3.gr
        refine ⟨_, rfl, hS3, fun _ => ?_⟩
        simp only [List.setIfInBounds_toArray, List.set_cons_zero, List.set_cons_succ]
        by_cases hc : c = 0
        · subst hc
          have HF : Hid (decide m.Nodup = false) := decide_eq_false (HK1.out rfl)
          refine take_at (i := 10) (v := .bool true) 25 rfl rfl (by kernel_rfl) (by kernel_rfl) (by kernel_rfl) (fun _ _ _ h => h) (by rfl) (fun w hSw => by (have hSw2 := SU.facts hSw; clear hSw; go_simp; first | done | exact rfl | simp_all | (simp; omega))) (by assumption) ?_
          simp only [List.setIfInBounds_toArray, List.set_cons_zero, List.set_cons_succ]
          refine wpAnyH_done (by kernel_rfl) ?_ _
          go_wp2
          go_ret
          exact ⟨by rw [HF.out]; rfl, HBW.out.trans (HG3.out.bel.mono HBW.out.size)⟩
        · have HF : Hid (∀ i, i < k + 1 → cfS m d[i]! d[i + 1]! ≠ 0) := HK2.out hc
          have h1b : (c == 0) = false := beq_eq_false_iff_ne.2 hc
          refine take_at (i := 10) (v := .bool false) 25 rfl rfl (by kernel_rfl) (by kernel_rfl) (by kernel_rfl) (fun _ _ _ h => h) (by rfl) (fun w hSw => by (have hSw2 := SU.facts hSw; clear hSw; go_simp; first | done | exact rfl | simp_all | (simp; omega))) (by assumption) ?_
          simp only [List.setIfInBounds_toArray, List.set_cons_zero, List.set_cons_succ]
          refine wpAnyH_done (by kernel_rfl) ?_ _
          go_wp2
          go_roundg (n - (k + 1))
          case measure => omega
          case rel => exact ⟨k + 1, by go_num, by omega, Nat.le_refl _, HF, HG3⟩
      · have hltz : ¬ (k : Int) < (n : Int) := by omega
        have hkn : k = n := by omega
        have HF : Hid (decide m.Nodup = true) := by
          refine decide_eq_true (nodup_adj HD.out.1 HD.out.2.1 HD.out.2.2.1 fun i hi => ?_)
          have := HN.out
          exact HA.out i (by omega)
        go_wp2
        go_ret
        exact ⟨by rw [HF.out]; rfl, HBW.out.trans (HG.out.bel.mono HBW.out.size)⟩
end Go.Proofs.YtdidcombjmbkdaaDoor

/- numbered: the numbers anew. -/
namespace Go.Proofs.YtdidcombjmbkdaaDoor
open Go.RowKit Nums Fm Pk
set_option maxRecDepth 100000

def visitF (sb ab nb vb : Nat) : Value := .func (.func 38) #[] #[.pointer (some ⟨sb, 0, none⟩), .pointer (some ⟨ab, 0, none⟩), .pointer (some ⟨nb, 0, none⟩), .pointer (some ⟨vb, 0, none⟩)]
/-- The boxes of the closure. -/
structure NumAt (w : World) (sb ab nb vb : Nat) (vs : Value) (am : Bool) (nx : Int) : Prop where
  s : w.heap[sb]? = some (.cells #[vs] 22)
  a : w.heap[ab]? = some (.cells #[.bool am] 4)
  n : w.heap[nb]? = some (.cells #[.int .i64 nx] 3)
  v : w.heap[vb]? = some (.cells #[visitF sb ab nb vb] 72)
theorem NumAt.facts {w : World} {sb ab nb vb : Nat} {vs : Value} {am : Bool} {nx : Int} (h : NumAt w sb ab nb vb vs am nx) : w.cell? ⟨sb, 0, none⟩ = some vs ∧ w.cell? ⟨ab, 0, none⟩ = some (.bool am) ∧ w.cell? ⟨nb, 0, none⟩ = some (.int .i64 nx) ∧ w.cell? ⟨vb, 0, none⟩ = some (visitF sb ab nb vb) ∧ (∀ o, w.frozen? ⟨ab, o, none⟩ = false) ∧ (∀ o, w.frozen? ⟨nb, o, none⟩ = false) :=
  ⟨by simp [World.cell?, h.s], by simp [World.cell?, h.a], by simp [World.cell?, h.n], by simp [World.cell?, h.v], fun o => by simp [World.frozen?, h.a], fun o => by simp [World.frozen?, h.n]⟩
theorem NumAt.below {w w' : World} {sb ab nb vb : Nat} {vs : Value} {am : Bool} {nx : Int} (h : NumAt w sb ab nb vb vs am nx) (hb : Below w.heap.size w w') : NumAt w' sb ab nb vb vs am nx :=
  ⟨(hb.block _ (Array.getElem?_eq_some_iff.1 h.s).1).trans h.s, (hb.block _ (Array.getElem?_eq_some_iff.1 h.a).1).trans h.a, (hb.block _ (Array.getElem?_eq_some_iff.1 h.n).1).trans h.n, (hb.block _ (Array.getElem?_eq_some_iff.1 h.v).1).trans h.v⟩
/-- The boxes are apart. -/
structure Boxes (E sb ab nb vb : Nat) : Prop where
  ea : E ≤ ab
  en : E ≤ nb
  an : ab ≠ nb
  sa : sb ≠ ab
  sn : sb ≠ nb
  va : vb ≠ ab
  vn : vb ≠ nb
theorem NumAt.setA {E : Nat} {w : World} {sb ab nb vb : Nat} {vs : Value} {am : Bool} {nx : Int} (h : NumAt w sb ab nb vb vs am nx) (hp : Boxes E sb ab nb vb) (A : Bool) : NumAt (w.setCell ⟨ab, 0, none⟩ (.bool A)) sb ab nb vb vs A nx :=
  ⟨(set_other _ _ _ _ hp.sa).trans h.s, by rw [set_at h.a]; rfl, (set_other _ _ _ _ (fun e => hp.an e.symm)).trans h.n, (set_other _ _ _ _ hp.va).trans h.v⟩
theorem NumAt.setN {E : Nat} {w : World} {sb ab nb vb : Nat} {vs : Value} {am : Bool} {nx : Int} (h : NumAt w sb ab nb vb vs am nx) (hp : Boxes E sb ab nb vb) (x : Int) : NumAt (w.setCell ⟨nb, 0, none⟩ (.int .i64 x)) sb ab nb vb vs am x :=
  ⟨(set_other _ _ _ _ hp.sn).trans h.s, (set_other _ _ _ _ hp.an).trans h.a, by rw [set_at h.n]; rfl, (set_other _ _ _ _ hp.vn).trans h.v⟩
theorem upd_end {ab nb : Nat} {w wr : World} (h : Upd (fun j => j = ab ∨ j = nb) w wr) (x y : Value) : Upd (fun j => j = ab ∨ j = nb) w ((wr.setCell ⟨ab, 0, none⟩ x).setCell ⟨nb, 0, none⟩ y) := by
  obtain ⟨a1, a2, a3, a4⟩ := set_rest wr ab 0 x
  obtain ⟨b1, b2, b3, b4⟩ := set_rest (wr.setCell ⟨ab, 0, none⟩ x) nb 0 y
  exact ⟨(b1.trans a1).trans h.os, (b2.trans a2).trans h.tape, (b3.trans a3).trans h.output, by rw [b4, a4]; exact h.size, fun j hj hn => (set_other _ _ _ _ (fun e => hn (.inr e))).trans ((set_other _ _ _ _ (fun e => hn (.inl e))).trans (h.block j hj hn))⟩
/-- What a visit says. -/
def VisSays (m : List RSt) (f n next : Nat) (am : Bool) (nx : Int) : Prop := (am = false ∧ ∃ k : Nat, nx = k ∧ vis8 m f n next = some k) ∨ (am = true ∧ vis8 m f n next = none)
namespace Pk
theorem vArcs_at {V : Nat → Nat → Option Nat} {l : List RArc} {k next : Nat} {a : RArc} (h : l[k]? = some a) : vArcs V (l.drop k) next = if (next : Int) ≤ a.to then (V a.to.toNat next).bind (vArcs V (l.drop (k + 1))) else vArcs V (l.drop (k + 1)) next := by
  obtain ⟨hk, rfl⟩ := List.getElem?_eq_some_iff.1 h
  rw [List.drop_eq_getElem_cons hk, vArcs]
end Pk
/-- While arcs are gone through. -/
structure VLoop (E : Nat) (w wr : World) (sb ab nb vb : Nat) (vs : Value) (m : List RSt) (V : Nat → Nat → Option Nat) (arcs : List RArc) (next k : Nat) (am : Bool) (nx : Int) : Prop where
  num : NumAt wr sb ab nb vb vs am nx
  upd : Upd (fun j => j = ab ∨ j = nb) w wr
  go : am = false → ∃ q : Nat, nx = q ∧ vArcs V arcs next = vArcs V (arcs.drop k) q
  no : am = true → vArcs V arcs next = none
set_option maxHeartbeats 4000000 in
theorem visit_any (E : Nat) (m : List RSt) (ad : Option Addr) (cap sb ab nb vb : Nat) (hF : formB 0 m = true) (hm : m.length ≤ 1048576) (hap : Boxes E sb ab nb vb) :
    ∀ (f n next : Nat) (w : World), n < f → n < m.length → next ≤ 1048576 → StsAt E w (.slice ad m.length cap) m → E ≤ w.heap.size → NumAt w sb ab nb vb (.slice ad m.length cap) false next →
    Calls Tryd.prog 38 #[.int .i64 n, .pointer (some ⟨sb, 0, none⟩), .pointer (some ⟨ab, 0, none⟩), .pointer (some ⟨nb, 0, none⟩), .pointer (some ⟨vb, 0, none⟩)] w fun e w' => e = .returned (.tuple #[]) ∧ ∃ am nx, NumAt w' sb ab nb vb (.slice ad m.length cap) am nx ∧ VisSays m f n next am nx ∧ Upd (fun j => j = ab ∨ j = nb) w w'
  | 0, n, _, _, hn, _, _, _, _, _ => absurd hn (by omega)
  | f + 1, n, next, w, hn, hnm, hnx, hS, hE, hN => by
    obtain ⟨s, hs⟩ : ∃ s, m[n]? = some s := ⟨m[n], List.getElem?_eq_getElem hnm⟩
    have hFS := form_get m 0 n s hF hs
    rw [Nat.zero_add] at hFS
    obtain ⟨q1, q2, q3⟩ := form_facts hFS
    obtain ⟨ml, hml⟩ : ∃ ml, m.length = ml := ⟨_, rfl⟩
    have HML : Hid (m.length = ml) := hml
    rw [hml] at hnm hm hS hN ⊢
    obtain ⟨g, off, va, rfl, hg, c0, c1, c2, hA⟩ := hS.at hs
    obtain ⟨vd, vc, hva⟩ := hA.shape
    obtain ⟨na, hna⟩ : ∃ na, s.arcs.length = na := ⟨_, rfl⟩
    have HNA : Hid (s.arcs.length = na) := hna
    rw [hna] at hva q3
    subst hva
    have hnz : (n : Int) < (ml : Int) := by omega
    have HIH : Hid (∀ (n next : Nat) (w : World), n < f → n < m.length → next ≤ 1048576 → StsAt E w (.slice (some ⟨g, off, none⟩) m.length cap) m → E ≤ w.heap.size → NumAt w sb ab nb vb (.slice (some ⟨g, off, none⟩) m.length cap) false next →
      Calls Tryd.prog 38 #[.int .i64 n, .pointer (some ⟨sb, 0, none⟩), .pointer (some ⟨ab, 0, none⟩), .pointer (some ⟨nb, 0, none⟩), .pointer (some ⟨vb, 0, none⟩)] w fun e w' => e = .returned (.tuple #[]) ∧ ∃ am nx, NumAt w' sb ab nb vb (.slice (some ⟨g, off, none⟩) m.length cap) am nx ∧ VisSays m f n next am nx ∧ Upd (fun j => j = ab ∨ j = nb) w w') := visit_any E m _ cap sb ab nb vb hF (by omega) hap f
    obtain ⟨f0, f1, f2, f3, f4, f5⟩ := hN.facts
    have HL0 : Hid (VLoop E w w sb ab nb vb (.slice (some ⟨g, off, none⟩) ml cap) m (vis8 m f) s.arcs next 0 false next) := ⟨hN, Upd.refl _ _, fun _ => ⟨next, rfl, rfl⟩, fun h => by cases h⟩
    have HV8 : Hid (vis8 m (f + 1) n next = (vArcs (vis8 m f) s.arcs next).bind fun k => if n = k then some (k + 1) else none) := by
      show _ = _
      rw [vis8, List.getD_eq_getElem?_getD, hs]
      rfl
    have HS : Hid (StsAt E w (.slice (some ⟨g, off, none⟩) ml cap) m) := hS
    have HA : Hid (ArcsAt E w (.slice vd na vc) s.arcs) := hA
    clear hs hFS hS hN hA hF
    go_enter Tryd.func38, Tryd.ntmps38
    go_wp2
    go_step3
    go_wp2
    go_step3
    go_wp2
    go_loopg [7, 14] na (fun gm _ s14 wr => ∃ (k : Nat) (am : Bool) (nx : Int), s14 = .int .i64 k ∧ k ≤ na ∧ na - k ≤ gm ∧ Hid (VLoop E w wr sb ab nb vb (.slice (some ⟨g, off, none⟩) ml cap) m (vis8 m f) s.arcs next k am nx))
    case atStart => exact ⟨0, false, next, rfl, Nat.zero_le _, by omega, HL0⟩
    case round =>
      obtain ⟨k, am, nx, rfl, hk, hgm, HL⟩ := hrel
      clear f0 f1 f2 f3 f4 f5
      obtain ⟨f0, f1, f2, f3, f4, f5⟩ := HL.out.num.facts
      have hbE : Below E w wr := HL.out.upd.below hE (fun j hj => hj.elim (fun e => e ▸ hap.ea) (fun e => e ▸ hap.en))
      have HBE : Hid (Below E w wr) := hbE
      have hEr : E ≤ wr.heap.size := Nat.le_trans hE HL.out.upd.size
      by_cases hlt : k < na
      · have hltz : (k : Int) < (na : Int) := by omega
        obtain ⟨x, hx⟩ : ∃ x, s.arcs[k]? = some x := ⟨s.arcs[k]'(by have := HNA.out; omega), List.getElem?_eq_getElem _⟩
        obtain ⟨ag, aoff, rfl, hag, d0, d1, d2⟩ := (HA.out.below hbE).at hx
        obtain ⟨p0, p1, _⟩ := q1 x (List.mem_of_getElem? hx)
        obtain ⟨t, ht⟩ : ∃ t : Nat, x.to = (t : Int) := ⟨x.to.toNat, by omega⟩
        rw [ht] at d2 p0 p1
        obtain ⟨xb, hxb⟩ : ∃ xb, xb = wr.heap.size := ⟨_, rfl⟩
        obtain ⟨W1, hW1⟩ : ∃ W1, W1 = wr.alloc (.cells #[.int .i32 x.label, .int .i64 x.out, .int .i64 (t : Int)] 74) := ⟨_, rfl⟩
        have hb1 : Below wr.heap.size wr W1 := by rw [hW1]; exact (Below.refl _ wr).alloc (Nat.le_refl _) _
        have hn1 : W1.heap[xb]? = some (.cells #[.int .i32 x.label, .int .i64 x.out, .int .i64 (t : Int)] 74) := by rw [hW1, hxb]; exact alloc_newP _ _
        have HN1 := HL.out.num.below hb1
        have HU1 : Hid (Upd (fun j => j = ab ∨ j = nb) w W1) := HL.out.upd.trans (Upd.of_below hb1 : Upd (fun _ => False) wr W1) (fun _ _ h => h.elim)
        have HNN : Hid (NumAt W1 sb ab nb vb (.slice (some ⟨g, off, none⟩) ml cap) am nx) := HN1
        have e2 : W1.cell? ⟨xb, 2, none⟩ = some (.int .i64 (t : Int)) := by simp [World.cell?, hn1]
        obtain ⟨g0, g1, g2, g3, g4, g5⟩ := HN1.facts
        unfold visitF at g3
        have HE1 : Hid (E ≤ W1.heap.size) := Nat.le_trans hEr hb1.size
        have HBE1 : Hid (Below E w W1) := hbE.trans (hb1.mono hEr)
        cases am with
        | true =>
          have HVN : Hid (vis8 m (f + 1) n next = none) := by show _ = _; rw [HV8.out, HL.out.no rfl]; rfl
          have k2 := fun A => ((HNN.out.setA hap A).facts).2.2.1
          have k5 := fun A => ((HNN.out.setA hap A).facts).2.2.2.2.2
          clear hx hn1 hb1 HN1
          go_upto_region 3 with fail
          rw [← hxb, ← hW1]
          clear hxb hW1 d0 d1 d2 f0 f1 f2 f3 f4 f5
          have HFIN : Hid (∀ x, NumAt ((W1.setCell ⟨ab, 0, none⟩ (.bool true)).setCell ⟨nb, 0, none⟩ (.int .i64 x)) sb ab nb vb (.slice (some ⟨g, off, none⟩) ml cap) true x) := fun x => (HNN.out.setA hap true).setN hap x
          go_wp2
          try simp only [Exit.noGoto]
          go_end0
          exact ⟨rfl, true, _, HFIN.out _, .inr ⟨rfl, HVN.out⟩, upd_end HU1.out _ _⟩
        | false =>
          obtain ⟨q, hq, hgo⟩ := HL.out.go rfl
          subst hq
          have HGO : Hid (vArcs (vis8 m f) s.arcs next = if (q : Int) ≤ x.to then (vis8 m f x.to.toNat q).bind (vArcs (vis8 m f) (s.arcs.drop (k + 1))) else vArcs (vis8 m f) (s.arcs.drop (k + 1)) q) := hgo.trans (vArcs_at hx)
          rw [ht, Int.toNat_natCast] at HGO
          clear hx hn1 hb1 HN1 hgo
          go_upto_region 3 with fail
          rw [← hxb, ← hW1]
          clear hxb hW1 d0 d1 d2 f0 f1 f2 f3 f4 f5
          by_cases hqt : q ≤ t
          · have hqz : (q : Int) ≤ (t : Int) := by omega
            rw [if_pos hqz] at HGO
            have HCL : Hid (Calls Tryd.prog 38 #[.int .i64 t, .pointer (some ⟨sb, 0, none⟩), .pointer (some ⟨ab, 0, none⟩), .pointer (some ⟨nb, 0, none⟩), .pointer (some ⟨vb, 0, none⟩)] W1 fun e w' => e = .returned (.tuple #[]) ∧ ∃ am nx, NumAt w' sb ab nb vb (.slice (some ⟨g, off, none⟩) ml cap) am nx ∧ VisSays m f t q am nx ∧ Upd (fun j => j = ab ∨ j = nb) W1 w') := by
              have := HIH.out t q W1 (by omega) (by have := HML.out; omega) (by omega) (by rw [HML.out]; exact HS.out.below HBE1.out) HE1.out (by rw [HML.out]; exact HNN.out)
              rw [HML.out] at this
              exact this
            go_wp2_with (go_at_call 38; refine HCL.out.mono ?_; rintro e w2 ⟨rfl, am2, nx2, hn2, hv2, hu2⟩; have HN2 : Hid _ := hn2; have HV2 : Hid _ := hv2; have HU2 : Hid _ := hu2; clear hn2 hv2 hu2)
            have HNX : Hid (VLoop E w w2 sb ab nb vb (.slice (some ⟨g, off, none⟩) ml cap) m (vis8 m f) s.arcs next (k + 1) am2 nx2) := by
              refine ⟨HN2.out, HU1.out.trans HU2.out (fun _ _ h => h), fun ha => ?_, fun ha => ?_⟩
              · rcases HV2.out with ⟨_, j, hj, hv⟩ | ⟨h1, _⟩
                · exact ⟨j, hj, by rw [HGO, hv]; rfl⟩
                · rw [h1] at ha; cases ha
              · rcases HV2.out with ⟨h1, _⟩ | ⟨_, hv⟩
                · rw [h1] at ha; cases ha
                · rw [HGO, hv]; rfl
            go_roundg (na - (k + 1))
            case measure => omega
            case rel => exact ⟨k + 1, _, _, by go_num, by omega, Nat.le_refl _, HNX⟩
          · have hqz : ¬ (q : Int) ≤ (t : Int) := by omega
            rw [if_neg hqz] at HGO
            have HNX : Hid (VLoop E w W1 sb ab nb vb (.slice (some ⟨g, off, none⟩) ml cap) m (vis8 m f) s.arcs next (k + 1) false q) := ⟨HNN.out, HU1.out, fun _ => ⟨q, rfl, HGO⟩, fun h => by cases h⟩
            go_wp2
            go_roundg (na - (k + 1))
            case measure => omega
            case rel => exact ⟨k + 1, _, _, by go_num, by omega, Nat.le_refl _, HNX⟩
      · have hltz : ¬ (k : Int) < (na : Int) := by omega
        have HU1 : Hid (Upd (fun j => j = ab ∨ j = nb) w wr) := HL.out.upd
        have k2 := fun A => ((HL.out.num.setA hap A).facts).2.2.1
        have k5 := fun A => ((HL.out.num.setA hap A).facts).2.2.2.2.2
        have HFIN : Hid (∀ A x, NumAt ((wr.setCell ⟨ab, 0, none⟩ (.bool A)).setCell ⟨nb, 0, none⟩ (.int .i64 x)) sb ab nb vb (.slice (some ⟨g, off, none⟩) ml cap) A x) := fun A x => (HL.out.num.setA hap A).setN hap x
        cases am with
        | true =>
          have HVN : Hid (vis8 m (f + 1) n next = none) := by show _ = _; rw [HV8.out, HL.out.no rfl]; rfl
          go_wp2
          try simp only [Exit.noGoto]
          go_end0
          exact ⟨rfl, true, _, HFIN.out _ _, .inr ⟨rfl, HVN.out⟩, upd_end HU1.out _ _⟩
        | false =>
          obtain ⟨q, hq, hgo⟩ := HL.out.go rfl
          subst hq
          rw [List.drop_of_length_le (by have := HNA.out; omega), vArcs] at hgo
          by_cases hnq : n = q
          · subst hnq
            have HVN : Hid (vis8 m (f + 1) n next = some (n + 1)) := by show _ = _; rw [HV8.out, hgo]; simp
            clear hgo
            go_wp2
            try simp only [Exit.noGoto]
            go_end0
            exact ⟨rfl, false, _, HFIN.out _ _, .inl ⟨rfl, n + 1, by go_num, HVN.out⟩, upd_end HU1.out _ _⟩
          · have HVN : Hid (vis8 m (f + 1) n next = none) := by show _ = _; rw [HV8.out, hgo]; simp [hnq]
            have h1b : ((n : Int) == (q : Int)) = false := beq_eq_false_iff_ne.2 (by omega)
            have h1n : ((n : Int) != (q : Int)) = true := by simp [bne, h1b]
            clear hgo
            go_wp2
            try simp only [Exit.noGoto]
            go_end0
            exact ⟨rfl, true, _, HFIN.out _ _, .inr ⟨rfl, HVN.out⟩, upd_end HU1.out _ _⟩
set_option maxHeartbeats 4000000 in
theorem numbered_any (E : Nat) (w : World) (m : List RSt) (vs : Value) (h : StsAt E w vs m) (hE : E ≤ w.heap.size) (hF : formB 0 m = true) (hm : m.length ≤ 1048576) (hm0 : m ≠ []) :
    Calls Tryd.prog 20 #[vs] w fun e w' => e = .returned (.bool (numB m)) ∧ Below w.heap.size w w' := by
  obtain ⟨ad, cap, rfl⟩ := h.shape
  have hpos := List.length_pos_iff.2 hm0
  obtain ⟨n, hn⟩ : ∃ n, m.length = n + 1 := ⟨m.length - 1, by omega⟩
  have HN : Hid (m.length = n + 1) := hn
  have HR : Hid (StsAt E w (.slice ad m.length cap) m) := h
  obtain ⟨sb, hsb⟩ : ∃ sb, sb = w.heap.size := ⟨_, rfl⟩
  obtain ⟨nb, hnb⟩ : ∃ nb, nb = w.heap.size + 1 := ⟨_, rfl⟩
  obtain ⟨ab, hab⟩ : ∃ ab, ab = w.heap.size + 1 + 1 := ⟨_, rfl⟩
  obtain ⟨vb, hvb⟩ : ∃ vb, vb = w.heap.size + 1 + 1 + 1 := ⟨_, rfl⟩
  have hap : Boxes E sb ab nb vb := ⟨by omega, by omega, by omega, by omega, by omega, by omega, by omega⟩
  have HVS : Hid (∀ W, Below w.heap.size w W → NumAt W sb ab nb vb (.slice ad m.length cap) false 0 → Calls Tryd.prog 38 #[.int .i64 n, .pointer (some ⟨sb, 0, none⟩), .pointer (some ⟨ab, 0, none⟩), .pointer (some ⟨nb, 0, none⟩), .pointer (some ⟨vb, 0, none⟩)] W fun e w' => e = .returned (.tuple #[]) ∧ ∃ am nx, NumAt w' sb ab nb vb (.slice ad m.length cap) am nx ∧ VisSays m (m.length + 25) n 0 am nx ∧ Upd (fun j => j = ab ∨ j = nb) W w') := fun W hW hN =>
    visit_any E m ad cap sb ab nb vb hF hm hap (m.length + 25) n 0 W (by omega) (by omega) (by omega) (h.below (hW.mono hE)) (Nat.le_trans hE hW.size) hN
  have HNB : Hid (numB m = (vis8 m (m.length + 25) n 0).isSome) := by show _ = _; unfold numB; rw [show m.length - 1 = n by omega]
  have HAP : Hid (w.heap.size ≤ ab ∧ w.heap.size ≤ nb) := ⟨by omega, by omega⟩
  rw [hn] at HVS HR hm ⊢
  clear h hn
  go_enter Tryd.func20, Tryd.ntmps20
  obtain ⟨W0, hW0⟩ : ∃ W0, W0 = (((w.alloc (.cells #[.slice ad (n + 1) cap] 22)).alloc (.cells #[.int .i64 0] 3)).alloc (.cells #[.bool false] 4)).alloc (.cells #[Value.nilFunc] 72) := ⟨_, rfl⟩
  have hs0 : W0.heap[sb]? = some (.cells #[.slice ad (n + 1) cap] 22) := by
    rw [hW0, (MapKept.heap_alloc _ _).2 sb (by rw [hsb]; simp; omega), (MapKept.heap_alloc _ _).2 sb (by rw [hsb]; simp; omega), (MapKept.heap_alloc _ _).2 sb (by rw [hsb]; simp), hsb]
    exact alloc_newP _ _
  have hn0 : W0.heap[nb]? = some (.cells #[.int .i64 0] 3) := by
    have e : (w.alloc (.cells #[.slice ad (n + 1) cap] 22)).heap.size = nb := by rw [hnb]; simp
    rw [hW0, (MapKept.heap_alloc _ _).2 nb (by rw [hnb]; simp), (MapKept.heap_alloc _ _).2 nb (by rw [hnb]; simp), ← e]
    exact alloc_newP _ _
  have ha0 : W0.heap[ab]? = some (.cells #[.bool false] 4) := by
    have e : ((w.alloc (.cells #[.slice ad (n + 1) cap] 22)).alloc (.cells #[.int .i64 0] 3)).heap.size = ab := by rw [hab]; simp
    rw [hW0, (MapKept.heap_alloc _ _).2 ab (by rw [hab]; simp), ← e]
    exact alloc_newP _ _
  have hv0 : W0.heap[vb]? = some (.cells #[Value.nilFunc] 72) := by
    have e : (((w.alloc (.cells #[.slice ad (n + 1) cap] 22)).alloc (.cells #[.int .i64 0] 3)).alloc (.cells #[.bool false] 4)).heap.size = vb := by rw [hvb]; simp
    rw [hW0, ← e]
    exact alloc_newP _ _
  have hb0 : Below w.heap.size w W0 := by
    rw [hW0]
    exact ((((Below.refl _ w).alloc (Nat.le_refl _) _).alloc (by simp) _).alloc (by simp; omega) _).alloc (by simp; omega) _
  have z0 : W0.cell? ⟨vb, 0, none⟩ = some Value.nilFunc := by simp [World.cell?, hv0]
  have z1 : ∀ o, W0.frozen? ⟨vb, o, none⟩ = false := fun o => by simp [World.frozen?, hv0]
  obtain ⟨W1, hW1⟩ : ∃ W1, W1 = W0.setCell ⟨vb, 0, none⟩ (visitF sb ab nb vb) := ⟨_, rfl⟩
  have hN1 : NumAt W1 sb ab nb vb (.slice ad (n + 1) cap) false 0 := by
    rw [hW1]
    exact ⟨(set_other _ _ _ _ (by omega)).trans hs0, (set_other _ _ _ _ (by omega)).trans ha0, (set_other _ _ _ _ (by omega)).trans hn0, by rw [set_at hv0]; rfl⟩
  have HB1 : Hid (Below w.heap.size w W1) := by show Below _ _ _; rw [hW1]; exact hb0.setCell (p := ⟨vb, 0, none⟩) (by simp only; omega) _
  have HC : Hid (Calls Tryd.prog 38 #[.int .i64 n, .pointer (some ⟨sb, 0, none⟩), .pointer (some ⟨ab, 0, none⟩), .pointer (some ⟨nb, 0, none⟩), .pointer (some ⟨vb, 0, none⟩)] W1 fun e w' => e = .returned (.tuple #[]) ∧ ∃ am nx, NumAt w' sb ab nb vb (.slice ad (n + 1) cap) am nx ∧ VisSays m (n + 1 + 25) n 0 am nx ∧ Upd (fun j => j = ab ∨ j = nb) W1 w') := HVS.out W1 HB1.out hN1
  have hW1' : W1 = W0.setCell ⟨vb, 0, none⟩ (.func (.func 38) #[] #[.pointer (some ⟨sb, 0, none⟩), .pointer (some ⟨ab, 0, none⟩), .pointer (some ⟨nb, 0, none⟩), .pointer (some ⟨vb, 0, none⟩)]) := hW1
  obtain ⟨g0, g1, g2, g3, g4, g5⟩ := hN1.facts
  unfold visitF at g3
  have hwrp : IntKind.i64.wrap (((n + 1 : Nat) : Int) - 1) = (n : Int) := by rw [IntKind.wrap_i64]; omega
  clear hs0 hn0 ha0 hv0 hb0 hN1 hW1 hap
  go_upto_region 3 with fail
  rw [← hvb, ← hab, ← hnb, ← hsb, ← hW0]
  clear hW0 hsb hab hnb hvb
  go_upto_region 4 with fail
  rw [← hW1']
  clear hW1' z0 z1
  go_upto_region 5 with (go_at_call 38; refine HC.out.mono ?_; rintro e w2 ⟨rfl, am, nx, hn2, hv2, hu2⟩)
  obtain ⟨g0', g1', g2', g3', g4', g5'⟩ := hn2.facts
  have hbel : Below w.heap.size w w2 := HB1.out.trans (hu2.below HB1.out.size (fun j hj => hj.elim (fun e => e ▸ HAP.out.1) (fun e => e ▸ HAP.out.2)))
  have HAM : Hid (numB m = !am) := by
    show _ = _
    rw [HNB.out, HN.out]
    rcases hv2 with ⟨rfl, k, _, h2⟩ | ⟨rfl, h2⟩
    · rw [h2]; rfl
    · rw [h2]; rfl
  clear hn2 hv2 hu2
  go_wp2
  go_ret
  exact ⟨by rw [HAM.out]; rfl, hbel⟩
end Go.Proofs.YtdidcombjmbkdaaDoor

/- Right. -/
namespace Go.Proofs.YtdidcombjmbkdaaDoor
open Go.RowKit Nums Fm Pk
set_option maxRecDepth 100000

set_option maxHeartbeats 4000000 in
theorem Right_any (E : Nat) (w : World) (base : Int) (m : List RSt) (vs : Value) (h : StsAt E w vs m) (hE : E ≤ w.heap.size) (hT : Tabs w) (hm : m.length ≤ 1048576) :
    Calls Tryd.prog 11 #[.agg #[.int .i64 base, vs]] w fun e w' => e = .returned (.bool (rightB base m)) ∧ Below w.heap.size w w' := by
  obtain ⟨ad, cap, rfl⟩ := h.shape
  have HB0 : Hid (∀ o, Below w.heap.size w (w.alloc o)) := fun o => (Below.refl _ w).alloc (Nat.le_refl _) o
  by_cases h0 : m = []
  · have HR : Hid (rightB base m = decide (base = 0)) := by show _ = _; rw [rightB, if_pos h0]
    have hl : m.length = 0 := by rw [h0]; rfl
    rw [hl]
    clear h hT hl h0
    go_enter Tryd.func11, Tryd.ntmps11
    by_cases hb : base = 0
    · subst hb
      go_wp2
      go_ret
      exact ⟨by rw [HR.out]; rfl, HB0.out _⟩
    · have h1b : (base == 0) = false := beq_eq_false_iff_ne.2 hb
      go_wp2
      go_ret
      exact ⟨by rw [HR.out, decide_eq_false hb]; rfl, HB0.out _⟩
  have hpos := List.length_pos_iff.2 h0
  obtain ⟨n, hn⟩ : ∃ n, m.length = n + 1 := ⟨m.length - 1, by omega⟩
  have HN : Hid (m.length = n + 1) := hn
  obtain ⟨rt, hrt⟩ : ∃ rt, m[n]? = some rt := ⟨m[n]'(by omega), List.getElem?_eq_getElem _⟩
  have HRR : Hid (rightB base m = (decide (1 ≤ base ∧ base ≤ 1048576) && !rt.final && formB 0 m && bndB base [] m && numB m && decide m.Nodup)) := by
    show _ = _
    rw [rightB, if_neg h0, show m.length - 1 = n by omega, List.getD_eq_getElem?_getD, hrt]
    rfl
  have hn0 : (((n : Int) + 1) == 0) = false := beq_eq_false_iff_ne.2 (by omega)
  rw [hn] at h ⊢
  obtain ⟨g, off, va, rfl, hg, c0, c1, c2, hA⟩ := h.at hrt
  obtain ⟨vd, vc, hva⟩ := hA.shape
  obtain ⟨na, hna⟩ : ∃ na, rt.arcs.length = na := ⟨_, rfl⟩
  rw [hna] at hva
  subst hva
  have HS : Hid (StsAt E w (.slice (some ⟨g, off, none⟩) (n + 1) cap) m) := h
  by_cases hb1 : base < 1
  · have HF : Hid (rightB base m = false) := by show _ = _; rw [HRR.out, decide_eq_false (by omega)]; rfl
    clear h hT HRR hrt
    go_enter Tryd.func11, Tryd.ntmps11
    go_wp2
    go_ret
    exact ⟨by rw [HF.out]; rfl, HB0.out _⟩
  by_cases hb2 : 1048576 < base
  · have HF : Hid (rightB base m = false) := by show _ = _; rw [HRR.out, decide_eq_false (by omega)]; rfl
    clear h hT HRR hrt
    go_enter Tryd.func11, Tryd.ntmps11
    go_wp2
    go_ret
    exact ⟨by rw [HF.out]; rfl, HB0.out _⟩
  obtain ⟨mb, hmb⟩ : ∃ mb, mb = w.heap.size := ⟨_, rfl⟩
  obtain ⟨rb, hrb⟩ : ∃ rb, rb = w.heap.size + 1 := ⟨_, rfl⟩
  obtain ⟨W2, hW2⟩ : ∃ W2, W2 = (w.alloc (.cells #[.int .i64 base, .slice (some ⟨g, off, none⟩) (n + 1) cap] 24)).alloc (.cells #[.bool rt.final, .int .i64 rt.out, .slice vd na vc] 44) := ⟨_, rfl⟩
  have hbw : Below w.heap.size w W2 := by rw [hW2]; exact ((Below.refl _ w).alloc (Nat.le_refl _) _).alloc (by simp) _
  have hm2 : W2.heap[mb]? = some (.cells #[.int .i64 base, .slice (some ⟨g, off, none⟩) (n + 1) cap] 24) := by
    rw [hW2, (MapKept.heap_alloc _ _).2 mb (by rw [hmb]; simp), hmb]
    exact alloc_newP _ _
  have hr2 : W2.heap[rb]? = some (.cells #[.bool rt.final, .int .i64 rt.out, .slice vd na vc] 44) := by
    have e : (w.alloc (.cells #[.int .i64 base, .slice (some ⟨g, off, none⟩) (n + 1) cap] 24)).heap.size = rb := by rw [hrb]; simp
    rw [hW2, ← e]
    exact alloc_newP _ _
  have HBW : Hid (Below w.heap.size w W2) := hbw
  have HCL : Hid (∀ W, Below W2.heap.size W2 W → W.cell? ⟨mb, 0, none⟩ = some (.int .i64 base) ∧ W.cell? ⟨mb, 1, none⟩ = some (.slice (some ⟨g, off, none⟩) (n + 1) cap)) := fun W hW => by
    have h1 : W.heap[mb]? = W2.heap[mb]? := hW.block mb (Array.getElem?_eq_some_iff.1 hm2).1
    exact ⟨by simp [World.cell?, h1, hm2], by simp [World.cell?, h1, hm2]⟩
  have r0 : W2.cell? ⟨rb, 0, none⟩ = some (.bool rt.final) := by simp [World.cell?, hr2]
  obtain ⟨m0, m1⟩ := HCL.out W2 (Below.refl _ _)
  have hSW : ∀ W, Below W2.heap.size W2 W → StsAt E W (.slice (some ⟨g, off, none⟩) (n + 1) cap) m ∧ E ≤ W.heap.size ∧ Tabs W := fun W hW => by
    have hb := hbw.trans (hW.mono hbw.size)
    exact ⟨h.below (hb.mono hE), Nat.le_trans hE hb.size, hT.below hb⟩
  have HFO : Hid (∀ W, Below W2.heap.size W2 W → Calls Tryd.prog 18 #[.slice (some ⟨g, off, none⟩) (n + 1) cap] W fun e w' => e = .returned (.bool (formB 0 m)) ∧ Below W2.heap.size W2 w') := fun W hW => by
    obtain ⟨s1, s2, s3⟩ := hSW W hW
    refine (formed_any E W m _ s1 s2 s3).mono ?_
    rintro e w' ⟨rfl, h2⟩
    exact ⟨rfl, hW.trans (h2.mono hW.size)⟩
  have HBO : Hid (formB 0 m = true → ∀ W, Below W2.heap.size W2 W → Calls Tryd.prog 19 #[.agg #[.int .i64 base, .slice (some ⟨g, off, none⟩) (n + 1) cap]] W fun e w' => e = .returned (.bool (bndB base [] m)) ∧ Below W2.heap.size W2 w') := fun hf W hW => by
    obtain ⟨s1, s2, s3⟩ := hSW W hW
    refine (bounded_any E W base m _ s1 s2 (by omega) (by omega) hf hm).mono ?_
    rintro e w' ⟨rfl, h2⟩
    exact ⟨rfl, hW.trans (h2.mono hW.size)⟩
  have HNO : Hid (formB 0 m = true → ∀ W, Below W2.heap.size W2 W → Calls Tryd.prog 20 #[.slice (some ⟨g, off, none⟩) (n + 1) cap] W fun e w' => e = .returned (.bool (numB m)) ∧ Below W2.heap.size W2 w') := fun hf W hW => by
    obtain ⟨s1, s2, s3⟩ := hSW W hW
    refine (numbered_any E W m _ s1 s2 hf hm h0).mono ?_
    rintro e w' ⟨rfl, h2⟩
    exact ⟨rfl, hW.trans (h2.mono hW.size)⟩
  have HUO : Hid (formB 0 m = true → ∀ W, Below W2.heap.size W2 W → Calls Tryd.prog 21 #[.slice (some ⟨g, off, none⟩) (n + 1) cap] W fun e w' => e = .returned (.bool (decide m.Nodup)) ∧ Below W2.heap.size W2 w') := fun hf W hW => by
    obtain ⟨s1, s2, s3⟩ := hSW W hW
    refine (unlike_any E W m _ s1 s2 hf hm h0).mono ?_
    rintro e w' ⟨rfl, h2⟩
    exact ⟨rfl, hW.trans (h2.mono hW.size)⟩
  have HRF : Hid (rightB base m = (!rt.final && formB 0 m && bndB base [] m && numB m && decide m.Nodup)) := by show _ = _; rw [HRR.out, decide_eq_true (by omega)]; simp
  have hwrp : IntKind.i64.wrap (((n : Int) + 1) - 1) = (n : Int) := by rw [IntKind.wrap_i64]; omega
  have hnz : (n : Int) < (n : Int) + 1 := by omega
  have cA : ∀ (o : Obj) (j : Nat), (w.alloc o).cell? ⟨g, j, none⟩ = w.cell? ⟨g, j, none⟩ := fun o j => ((Below.refl _ w).alloc (Nat.le_refl _) o).cell (p := ⟨g, j, none⟩) (Nat.lt_of_lt_of_le hg hE)
  have c0' := fun o => (cA o _).trans c0
  have c1' := fun o => (cA o _).trans c1
  have c2' := fun o => (cA o _).trans c2
  clear h hT HRR hrt hbw hm2 hr2 hSW c0 c1 c2 cA hA
  go_enter Tryd.func11, Tryd.ntmps11
  go_upto_region 6 with fail
  rw [← hrb, ← hmb, ← hW2]
  clear hrb hmb hW2 c0' c1' c2'
  generalize formB 0 m = F at *
  generalize bndB base [] m = B at *
  generalize numB m = N at *
  generalize decide m.Nodup = U at *
  generalize rt.final = fn at *
  cases fn with
  | true =>
    have HX : Hid (rightB base m = false) := HRF.out
    go_wp2
    go_ret
    exact ⟨by rw [HX.out]; rfl, HBW.out⟩
  | false =>
  cases F with
  | false =>
    have HX : Hid (rightB base m = false) := HRF.out
    go_wp2_with (first
      | (go_at_call 18; refine (HFO.out _ (Below.refl _ _)).mono ?_; rintro e wa ⟨rfl, hba⟩; have HBa : Hid (Below W2.heap.size W2 wa) := hba; clear hba; obtain ⟨p0, p1⟩ := HCL.out wa HBa.out)
      | (go_at_call 19; refine (HBO.out (by simp) _ HBa.out).mono ?_; rintro e wb ⟨rfl, hbb⟩; have HBb : Hid (Below W2.heap.size W2 wb) := hbb; clear hbb; obtain ⟨p2, p3⟩ := HCL.out wb HBb.out)
      | (go_at_call 20; refine (HNO.out (by simp) _ HBb.out).mono ?_; rintro e wc ⟨rfl, hbc⟩; have HBc : Hid (Below W2.heap.size W2 wc) := hbc; clear hbc; obtain ⟨p4, p5⟩ := HCL.out wc HBc.out)
      | (go_at_call 21; refine (HUO.out (by simp) _ HBc.out).mono ?_; rintro e wd ⟨rfl, hbd⟩; have HBd : Hid (Below W2.heap.size W2 wd) := hbd; clear hbd))
    go_ret
    exact ⟨by rw [HX.out]; rfl, HBW.out.trans (HBa.out.mono HBW.out.size)⟩
  | true =>
  cases B with
  | false =>
    have HX : Hid (rightB base m = false) := HRF.out
    go_wp2_with (first
      | (go_at_call 18; refine (HFO.out _ (Below.refl _ _)).mono ?_; rintro e wa ⟨rfl, hba⟩; have HBa : Hid (Below W2.heap.size W2 wa) := hba; clear hba; obtain ⟨p0, p1⟩ := HCL.out wa HBa.out)
      | (go_at_call 19; refine (HBO.out (by simp) _ HBa.out).mono ?_; rintro e wb ⟨rfl, hbb⟩; have HBb : Hid (Below W2.heap.size W2 wb) := hbb; clear hbb; obtain ⟨p2, p3⟩ := HCL.out wb HBb.out)
      | (go_at_call 20; refine (HNO.out (by simp) _ HBb.out).mono ?_; rintro e wc ⟨rfl, hbc⟩; have HBc : Hid (Below W2.heap.size W2 wc) := hbc; clear hbc; obtain ⟨p4, p5⟩ := HCL.out wc HBc.out)
      | (go_at_call 21; refine (HUO.out (by simp) _ HBc.out).mono ?_; rintro e wd ⟨rfl, hbd⟩; have HBd : Hid (Below W2.heap.size W2 wd) := hbd; clear hbd))
    go_ret
    exact ⟨by rw [HX.out]; rfl, HBW.out.trans (HBb.out.mono HBW.out.size)⟩
  | true =>
  cases N with
  | false =>
    have HX : Hid (rightB base m = false) := HRF.out
    go_wp2_with (first
      | (go_at_call 18; refine (HFO.out _ (Below.refl _ _)).mono ?_; rintro e wa ⟨rfl, hba⟩; have HBa : Hid (Below W2.heap.size W2 wa) := hba; clear hba; obtain ⟨p0, p1⟩ := HCL.out wa HBa.out)
      | (go_at_call 19; refine (HBO.out (by simp) _ HBa.out).mono ?_; rintro e wb ⟨rfl, hbb⟩; have HBb : Hid (Below W2.heap.size W2 wb) := hbb; clear hbb; obtain ⟨p2, p3⟩ := HCL.out wb HBb.out)
      | (go_at_call 20; refine (HNO.out (by simp) _ HBb.out).mono ?_; rintro e wc ⟨rfl, hbc⟩; have HBc : Hid (Below W2.heap.size W2 wc) := hbc; clear hbc; obtain ⟨p4, p5⟩ := HCL.out wc HBc.out)
      | (go_at_call 21; refine (HUO.out (by simp) _ HBc.out).mono ?_; rintro e wd ⟨rfl, hbd⟩; have HBd : Hid (Below W2.heap.size W2 wd) := hbd; clear hbd))
    go_ret
    exact ⟨by rw [HX.out]; rfl, HBW.out.trans (HBc.out.mono HBW.out.size)⟩
  | true =>
    have HX : Hid (rightB base m = U) := HRF.out
    cases U with
    | false =>
      go_wp2_with (first
        | (go_at_call 18; refine (HFO.out _ (Below.refl _ _)).mono ?_; rintro e wa ⟨rfl, hba⟩; have HBa : Hid (Below W2.heap.size W2 wa) := hba; clear hba; obtain ⟨p0, p1⟩ := HCL.out wa HBa.out)
        | (go_at_call 19; refine (HBO.out (by simp) _ HBa.out).mono ?_; rintro e wb ⟨rfl, hbb⟩; have HBb : Hid (Below W2.heap.size W2 wb) := hbb; clear hbb; obtain ⟨p2, p3⟩ := HCL.out wb HBb.out)
        | (go_at_call 20; refine (HNO.out (by simp) _ HBb.out).mono ?_; rintro e wc ⟨rfl, hbc⟩; have HBc : Hid (Below W2.heap.size W2 wc) := hbc; clear hbc; obtain ⟨p4, p5⟩ := HCL.out wc HBc.out)
        | (go_at_call 21; refine (HUO.out (by simp) _ HBc.out).mono ?_; rintro e wd ⟨rfl, hbd⟩; have HBd : Hid (Below W2.heap.size W2 wd) := hbd; clear hbd))
      go_ret
      exact ⟨by rw [HX.out]; rfl, HBW.out.trans (HBd.out.mono HBW.out.size)⟩
    | true =>
      go_wp2_with (first
        | (go_at_call 18; refine (HFO.out _ (Below.refl _ _)).mono ?_; rintro e wa ⟨rfl, hba⟩; have HBa : Hid (Below W2.heap.size W2 wa) := hba; clear hba; obtain ⟨p0, p1⟩ := HCL.out wa HBa.out)
        | (go_at_call 19; refine (HBO.out (by simp) _ HBa.out).mono ?_; rintro e wb ⟨rfl, hbb⟩; have HBb : Hid (Below W2.heap.size W2 wb) := hbb; clear hbb; obtain ⟨p2, p3⟩ := HCL.out wb HBb.out)
        | (go_at_call 20; refine (HNO.out (by simp) _ HBb.out).mono ?_; rintro e wc ⟨rfl, hbc⟩; have HBc : Hid (Below W2.heap.size W2 wc) := hbc; clear hbc; obtain ⟨p4, p5⟩ := HCL.out wc HBc.out)
        | (go_at_call 21; refine (HUO.out (by simp) _ HBc.out).mono ?_; rintro e wd ⟨rfl, hbd⟩; have HBd : Hid (Below W2.heap.size W2 wd) := hbd; clear hbd))
      go_ret
      exact ⟨by rw [HX.out]; rfl, HBW.out.trans (HBd.out.mono HBW.out.size)⟩
end Go.Proofs.YtdidcombjmbkdaaDoor

/- codec.PutUint and the reference's Uint: a number's bytes. -/
namespace Go.Proofs.YtdidcombjmbkdaaDoor.Cd
open Go.RowKit
set_option maxRecDepth 100000

theorem row_one (w : World) (z : Int) (n : Nat) (hz : z = n) : Row (w.heap.size + 1) (w.alloc (Obj.cells #[.int .u8 z] 5)) (.slice (some ⟨w.heap.size, 0, none⟩) 1 1) [n] := by
  subst hz
  exact ⟨_, _, rfl, by simp, fun h => by (cases h), fun _ => ⟨_, _, rfl, by omega, fun i hi => by
    obtain rfl : i = 0 := by simpa using hi
    simp⟩⟩
theorem Bytes.alloc {B : Nat} {w : World} {v : Value} {xs : List Nat} (h : Bytes B w v xs) (o : Obj) : Bytes B (w.alloc o) v xs := h.below ((Below.refl _ _).alloc (Nat.le_refl _) o)

/-- Nothing but rows of bytes is written. -/
structure TF (w w' : World) : Prop where
  os : w'.os = w.os
  tape : w'.tape = w.tape
  output : w'.output = w.output
  size : w.heap.size ≤ w'.heap.size
  keep : ∀ (j : Nat) (cur : Array Value) (T : TypeId), w.heap[j]? = some (Obj.cells cur T (0, 0)) → T ≠ 5 → w'.heap[j]? = w.heap[j]?
theorem TF.refl (w : World) : TF w w := ⟨rfl, rfl, rfl, Nat.le_refl _, fun _ _ _ _ _ => rfl⟩
theorem TF.trans {w w1 w2 : World} (h1 : TF w w1) (h2 : TF w1 w2) : TF w w2 := ⟨h2.os.trans h1.os, h2.tape.trans h1.tape, h2.output.trans h1.output, Nat.le_trans h1.size h2.size, fun j cur T hj hT => by
  have e := h1.keep j cur T hj hT
  exact (h2.keep j cur T (e.trans hj) hT).trans e⟩
theorem TF.of_below {w w' : World} (h : Below w.heap.size w w') : TF w w' := ⟨h.os, h.tape, h.output, h.size, fun j _ _ hj _ => h.block j (Array.getElem?_eq_some_iff.1 hj).1⟩
theorem TF.alloc {w w1 : World} (h : TF w w1) (o : Obj) : TF w (w1.alloc o) := h.trans (TF.of_below ((Below.refl _ w1).alloc (Nat.le_refl _) o))
theorem TF.grown {B : Nat} {w w' : World} {v : Value} {xs : List Nat} (ho : Bytes B w v xs) (h : w.grownBy w' v.ownBlock) : TF w w' := ⟨h.os, h.tape, h.output, h.size, fun j cur T hj hT => by
  refine h.block j (Array.getElem?_eq_some_iff.1 hj).1 (fun e => ?_)
  obtain ⟨_, ⟨e1, _⟩ | ⟨g, cap, c2, rfl, _, hg, _⟩⟩ := ho
  · rw [e1] at e; cases e
  · simp only [Value.ownBlock, Option.some.injEq] at e
    subst e
    rw [hj] at hg
    simp only [Option.some.injEq, Obj.cells.injEq] at hg
    exact hT hg.2.1⟩
set_option maxHeartbeats 2000000 in
theorem PutUint_tf (B : Nat) (v : Value) (xs : List Nat) (n : Nat) (w : World) (hown : Bytes B w v xs) (hB : B ≤ w.heap.size) (hn : n < 18446744073709551616) (hl : xs.length + 10 ≤ 140737488355328) :
    Calls Tryd.prog 28 #[v, .int .u64 (n : Int)] w fun e w' => ∃ v', e = .returned v' ∧ Bytes B w' v' (xs ++ uw n) ∧ Below B w w' ∧ TF w w' := by
  have hul := uw_len10 hn
  go_enter Tryd.func28, Tryd.ntmps28
  go_wp2
  go_loopw [0, 1] (fun vb vn wr => ∃ (k : Nat) (ys : List Nat), vn = .int .u64 (k : Int) ∧ k < 18446744073709551616 ∧ Bytes B wr vb ys ∧ ys ++ uw k = xs ++ uw n ∧ Below B w wr ∧ TF w wr)
    (fun _ vn _ => (intOf vn).toNat)
  case atStart => exact ⟨n, xs, rfl, hn, hown, rfl, Below.refl _ _, TF.refl _⟩
  case round =>
    obtain ⟨k, ys, rfl, hk, hown1, heq, hbel, htf⟩ := hrel
    have hlen : ys.length + (uw k).length = xs.length + (uw n).length := by rw [← List.length_append, heq, List.length_append]
    have hkl := (uw_len10 hk).1
    have HE : Hid (ys ++ uw k = xs ++ uw n) := heq
    have hsz := hbel.size
    clear heq
    by_cases h : 128 ≤ k
    · have HU : Hid (uw k = (k % 128 + 128) :: uw (k / 128)) := uw_ge h
      go_wp2_with (at_builtin; refine append_row (by rfl) _ _ rfl B (wr.heap.size + 1) _ _ ys [k % 128 + 128] rfl (hown1.alloc _) rfl (row_one _ _ _ (by omega)) (by simp; omega) (by simp; omega) ?_)
      intro v1 w1 hown2 hb2 hg2
      have hb3 : Below B w w1 := (hbel.alloc (by omega) _).trans hb2
      have ht3 : TF w w1 := (htf.alloc _).trans (TF.grown (hown1.alloc _) hg2)
      go_wp2
      go_roundw
      case rel =>
        refine ⟨k / 128, ys ++ [k % 128 + 128], by go_num, by omega, hown2, ?_, hb3, ht3⟩
        rw [← HE.out, HU.out]; simp
      case measure => simp [intOf]; omega
    · have HU : Hid (uw k = [k]) := uw_lt (by omega)
      go_wp2_with (at_builtin; refine append_row (by rfl) _ _ rfl B (wr.heap.size + 1) _ _ ys [k] rfl (hown1.alloc _) rfl (row_one _ _ _ (by omega)) (by simp; omega) (by simp; omega) ?_)
      intro v1 w1 hown2 hb2 hg2
      have hb3 : Below B w w1 := (hbel.alloc (by omega) _).trans hb2
      have ht3 : TF w w1 := (htf.alloc _).trans (TF.grown (hown1.alloc _) hg2)
      go_wp2
      go_ret
      refine ⟨_, rfl, ?_, hb3, ht3⟩
      rw [← HE.out, HU.out]; exact hown2

end Go.Proofs.YtdidcombjmbkdaaDoor.Cd

/- putState. -/
namespace Go.Proofs.YtdidcombjmbkdaaDoor
open Go.RowKit Nums Fm Pk
open Cd (uw)
set_option maxRecDepth 100000

theorem PutU (B : Nat) (v : Value) (xs : List Nat) (z : Int) (w : World) (hown : Cd.Bytes B w v xs) (hB : B ≤ w.heap.size) (h0 : 0 ≤ z) (h1 : z < 18446744073709551616) (hl : xs.length + 10 ≤ 140737488355328) :
    Calls Tryd.prog 28 #[v, .int .u64 z] w fun e w' => ∃ ad n cap, e = .returned (.slice ad n cap) ∧ Cd.Bytes B w' (.slice ad n cap) (xs ++ uw z.toNat) ∧ Below B w w' ∧ Cd.TF w w' := by
  have := Cd.PutUint_tf B v xs z.toNat w hown hB (by omega) hl
  rw [Int.toNat_of_nonneg h0] at this
  refine this.mono ?_
  rintro e w' ⟨v', rfl, h2, h3, h4⟩
  obtain ⟨ao, cap, rfl, _⟩ := h2.row.shape
  exact ⟨_, _, _, rfl, h2, h3, h4⟩
theorem uw_short {z : Int} (h0 : 0 ≤ z) (h1 : z < 18446744073709551616) : (uw z.toNat).length ≤ 10 := (Cd.uw_len10 (n := z.toNat) (by omega)).2
/-- While a state is written: the bytes so far, the state in its box. -/
structure PW (B : Nat) (w W : World) (sb : Nat) (s : RSt) (va vb : Value) (ys : List Nat) : Prop where
  bel : Below B w W
  byt : Cd.Bytes B W vb ys
  box : W.heap[sb]? = some (.cells #[.bool s.final, .int .i64 s.out, va] 44)
theorem PW.facts {B : Nat} {w W : World} {sb : Nat} {s : RSt} {va vb : Value} {ys : List Nat} (h : PW B w W sb s va vb ys) : W.cell? ⟨sb, 0, none⟩ = some (.bool s.final) ∧ W.cell? ⟨sb, 1, none⟩ = some (.int .i64 s.out) ∧ W.cell? ⟨sb, 2, none⟩ = some va := ⟨by simp [World.cell?, h.box], by simp [World.cell?, h.box], by simp [World.cell?, h.box]⟩
theorem PW.grow {B : Nat} {w W W' : World} {sb : Nat} {s : RSt} {va vb : Value} {ys : List Nat} (h : PW B w W sb s va vb ys) (hb : Below W.heap.size W W') (hB : B ≤ w.heap.size) : PW B w W' sb s va vb ys :=
  ⟨h.bel.trans (hb.mono (Nat.le_trans hB h.bel.size)), h.byt.below hb, (hb.block sb (Array.getElem?_eq_some_iff.1 h.box).1).trans h.box⟩
theorem PW.put {B : Nat} {w W W' : World} {sb : Nat} {s : RSt} {va vb vb' : Value} {ys ys' : List Nat} (h : PW B w W sb s va vb ys) (h1 : Cd.Bytes B W' vb' ys') (h2 : Below B W W') (h3 : Cd.TF W W') : PW B w W' sb s va vb' ys' :=
  ⟨h.bel.trans h2, h1, (h3.keep sb _ _ h.box (by decide)).trans h.box⟩
/-- One number more. -/
theorem PW.uint {B : Nat} {w W : World} {sb : Nat} {s : RSt} {va vb : Value} {ys : List Nat} (h : PW B w W sb s va vb ys) (hB : B ≤ w.heap.size) (z : Int) (h0 : 0 ≤ z) (h1 : z < 18446744073709551616) (hl : ys.length + 10 ≤ 140737488355328) :
    Calls Tryd.prog 28 #[vb, .int .u64 z] W fun e w' => ∃ ad n cap, e = .returned (.slice ad n cap) ∧ PW B w w' sb s va (.slice ad n cap) (ys ++ uw z.toNat) ∧ Cd.TF W w' := by
  refine (PutU B vb ys z W h.byt (Nat.le_trans hB h.bel.size) h0 h1 hl).mono ?_
  rintro e w' ⟨ad, n, cap, rfl, h2, h3, h4⟩
  exact ⟨ad, n, cap, rfl, h.put h2 h3 h4, h4⟩
set_option maxHeartbeats 4000000 in
theorem putState_any (E B : Nat) (w : World) (vb : Value) (xs : List Nat) (s : RSt) (va : Value) (n : Nat) (hb : Cd.Bytes B w vb xs) (ha : ArcsAt E w va s.arcs) (hEB : E ≤ B) (hB : B ≤ w.heap.size) (hF : formS s n = true) (hl : xs.length ≤ 100000000000000) (hso : Fits64 s.out) (hn : n ≤ 1048576) :
    Calls Tryd.prog 29 #[vb, .agg #[.bool s.final, .int .i64 s.out, va], .int .i64 n] w fun e w' => ∃ ad m cap, e = .returned (.slice ad m cap) ∧ Cd.Bytes B w' (.slice ad m cap) (xs ++ putS s n) ∧ Below B w w' ∧ (putS s n).length ≤ 20 + 30 * 1114112 := by
  obtain ⟨f1, f2, f3⟩ := form_facts hF
  obtain ⟨ad, cap, rfl⟩ := ha.shape
  obtain ⟨na, hna⟩ : ∃ na, s.arcs.length = na := ⟨_, rfl⟩
  have HNA : Hid (s.arcs.length = na) := hna
  have hh0 := head_ge s
  have hh1 : headS s ≤ 2228225 := by unfold headS; split <;> omega
  have HHD : Hid (∀ W, Calls Tryd.prog 53 #[.agg #[.bool s.final, .int .i64 s.out, .slice ad na cap]] W fun e w' => e = .returned (.int .u64 (headS s)) ∧ Gr W w') := fun W => by
    have := head_any s ad cap W f3
    rw [hna] at this
    exact this
  have HP : Hid (putS s n = uw (headS s).toNat ++ ((if s.final then uw s.out.toNat else []) ++ putA n 0 s.arcs)) := rfl
  have HA : Hid (ArcsAt E w (.slice ad s.arcs.length cap) s.arcs) := ha
  have HF : Hid (formS s n = true) := hF
  have HBY : Hid (Cd.Bytes B w vb xs) := hb
  rw [hna] at HA f3 ⊢
  obtain ⟨sb, hsb⟩ : ∃ sb, sb = w.heap.size := ⟨_, rfl⟩
  obtain ⟨W1, hW1⟩ : ∃ W1, W1 = w.alloc (.cells #[.bool s.final, .int .i64 s.out, .slice ad na cap] 44) := ⟨_, rfl⟩
  have hbw : Below w.heap.size w W1 := by rw [hW1]; exact (Below.refl _ w).alloc (Nat.le_refl _) _
  have hs1 : W1.heap[sb]? = some (.cells #[.bool s.final, .int .i64 s.out, .slice ad na cap] 44) := by rw [hW1, hsb]; exact alloc_newP _ _
  have HW1 : Hid (PW B w W1 sb s (.slice ad na cap) vb xs) := ⟨hbw.mono hB, hb.below hbw, hs1⟩
  obtain ⟨p0, p1, p2⟩ := HW1.out.facts
  obtain ⟨hs1', hs2'⟩ := hso
  have hsl : (uw (headS s).toNat).length ≤ 10 := uw_short hh0 (by omega)
  have hsl2 : (uw s.out.toNat).length ≤ 10 := uw_short f2 (by omega)
  obtain ⟨bd, bn, bc, rfl⟩ : ∃ bd bn bc, vb = .slice bd bn bc := by
    obtain ⟨ao, cap, e, _⟩ := hb.row.shape
    exact ⟨_, _, _, e⟩
  clear hb ha hna hs1 hbw
  go_enter Tryd.func29, Tryd.ntmps29
  go_upto_region 1 with fail
  rw [← hsb, ← hW1]
  clear hsb hW1
  go_upto_region 2 with (first
    | (go_at_call 53; refine (HHD.out _).mono ?_; rintro e w2 ⟨rfl, hg2⟩; have HW2 : Hid (PW B w w2 sb s (.slice ad na cap) (.slice bd bn bc) xs) := HW1.out.grow hg2.bel hB; clear hg2)
    | (go_at_call 28; refine (HW2.out.uint hB _ hh0 (by omega) (by omega)).mono ?_; rintro e w3 ⟨bd3, bn3, bc3, rfl, hp3, _⟩; have HW3 : Hid (PW B w w3 sb s (.slice ad na cap) (.slice bd3 bn3 bc3) (xs ++ uw (headS s).toNat)) := hp3; clear hp3))
  clear p0 p1 p2
  obtain ⟨p0, p1, p2⟩ := HW3.out.facts
  obtain ⟨fn, hfn⟩ : ∃ fn, s.final = fn := ⟨_, rfl⟩
  cases fn with
  | true =>
    rw [hfn] at p0
    have HEQ : Hid ((xs ++ uw (headS s).toNat ++ uw s.out.toNat) ++ putA n (aheadL s.arcs 0) (s.arcs.drop 0) = xs ++ putS s n) := by show _ = _; rw [HP.out, hfn, if_pos rfl]; simp [aheadL]
    go_upto_region 4 with (go_at_call 28; refine (HW3.out.uint hB _ f2 (by omega) (by simp; omega)).mono ?_; rintro e w4 ⟨bd4, bn4, bc4, rfl, hp4, _⟩; have HW4 : Hid (PW B w w4 sb s (.slice ad na cap) (.slice bd4 bn4 bc4) (xs ++ uw (headS s).toNat ++ uw s.out.toNat)) := hp4; clear hp4)
    have HLN : Hid ((xs ++ uw (headS s).toNat ++ uw s.out.toNat).length ≤ xs.length + 20 + 30 * 0) := by show _ ≤ _; simp; omega
    clear p0 p1 p2
    obtain ⟨p0, p1, p2⟩ := HW4.out.facts
    clear hfn
    generalize xs ++ uw (headS s).toNat ++ uw s.out.toNat = ys4 at *
    go_wp2
    go_loopg [0, 7, 9, 24] na (fun gm s0 s7 _ s24 wr => ∃ (k : Nat) (bd : Option Addr) (bn bc : Nat) (ys : List Nat), s24 = .int .i64 k ∧ k ≤ na ∧ na - k ≤ gm ∧ s0 = .slice bd bn bc ∧ s7 = .int .i32 (aheadL s.arcs k) ∧ Hid (PW B w wr sb s (.slice ad na cap) (.slice bd bn bc) ys) ∧ Hid (ys ++ putA n (aheadL s.arcs k) (s.arcs.drop k) = xs ++ putS s n) ∧ Hid (ys.length ≤ xs.length + 20 + 30 * k))
    case atStart => exact ⟨0, _, _, _, _, rfl, Nat.zero_le _, by omega, rfl, rfl, HW4, HEQ, HLN⟩
    case round =>
      obtain ⟨k, bd, bn, bc, ys, rfl, hk, hgm, rfl, rfl, HW, HQ, HL⟩ := hrel
      clear p0 p1 p2
      by_cases hlt : k < na
      · have hltz : (k : Int) < (na : Int) := by omega
        obtain ⟨x, hx⟩ : ∃ x, s.arcs[k]? = some x := ⟨s.arcs[k]'(by have := HNA.out; omega), List.getElem?_eq_getElem _⟩
        obtain ⟨a0, a1, a2, a3, a4, a5⟩ := arc_at HF.out hx
        have HPA : Hid (ys ++ uw (x.label - aheadL s.arcs k).toNat ++ uw x.out.toNat ++ uw ((n : Int) - x.to).toNat ++ putA n (aheadL s.arcs (k + 1)) (s.arcs.drop (k + 1)) = xs ++ putS s n) := by
          show _ = _
          rw [← HQ.out, putA_at hx]
          simp only [List.append_assoc]
        have HAH : Hid (aheadL s.arcs (k + 1) = x.label) := by show _ = _; rw [aheadL, hx]; rfl
        have hxo := HA.out.ok x (List.mem_of_getElem? hx)
        obtain ⟨⟨o0, o1⟩, ⟨o2, o3⟩, ⟨o4, o5⟩⟩ := hxo
        obtain ⟨g, off, rfl, hg, c0, c1, c2⟩ := (HA.out.below (HW.out.bel.mono hEB)).at hx
        have l1 := uw_short (z := x.label - aheadL s.arcs k) (by omega) (by omega)
        have l2 := uw_short (z := x.out) a3 (by omega)
        have l3 := uw_short (z := (n : Int) - x.to) (by omega) (by omega)
        generalize aheadL s.arcs k = p at *
        obtain ⟨xb, hxb⟩ : ∃ xb, xb = wr.heap.size := ⟨_, rfl⟩
        obtain ⟨V1, hV1⟩ : ∃ V1, V1 = wr.alloc (.cells #[.int .i32 x.label, .int .i64 x.out, .int .i64 x.to] 74) := ⟨_, rfl⟩
        have hvb : Below wr.heap.size wr V1 := by rw [hV1]; exact (Below.refl _ wr).alloc (Nat.le_refl _) _
        have hx1 : V1.heap[xb]? = some (.cells #[.int .i32 x.label, .int .i64 x.out, .int .i64 x.to] 74) := by rw [hV1, hxb]; exact alloc_newP _ _
        have HV1 := HW.out.grow hvb hB
        have HX1 : Hid (V1.heap[xb]? = some (.cells #[.int .i32 x.label, .int .i64 x.out, .int .i64 x.to] 74)) := hx1
        have e0 : V1.cell? ⟨xb, 0, none⟩ = some (.int .i32 x.label) := by simp [World.cell?, hx1]
        have hlen := HL.out
        have HVV : Hid (PW B w V1 sb s (.slice (some ⟨g, off, none⟩) na cap) (.slice bd bn bc) ys) := HV1
        clear hx hvb hx1 HV1
        go_upto_region 8 with fail
        rw [← hxb, ← hV1]
        clear hxb hV1 c0 c1 c2
        go_upto_region 9 with (go_at_call 28; refine (HVV.out.uint hB (x.label - p) (by omega) (by omega) (by omega)).mono ?_; rintro e V2 ⟨bd2, bn2, bc2, rfl, hp2, ht2⟩)
        have hx2 := (ht2.keep xb _ _ HX1.out (by decide)).trans HX1.out
        have e1 : V2.cell? ⟨xb, 1, none⟩ = some (.int .i64 x.out) := by simp [World.cell?, hx2]
        have HX2 : Hid (V2.heap[xb]? = some (.cells #[.int .i32 x.label, .int .i64 x.out, .int .i64 x.to] 74)) := hx2
        have HP2 : Hid (PW B w V2 sb s (.slice (some ⟨g, off, none⟩) na cap) (.slice bd2 bn2 bc2) (ys ++ uw (x.label - p).toNat)) := hp2
        clear ht2 hp2 hx2 e0
        go_upto_region 10 with (go_at_call 28; refine (HP2.out.uint hB x.out a3 (by omega) (by simp; omega)).mono ?_; rintro e V3 ⟨bd3', bn3', bc3', rfl, hp3, ht3⟩)
        have hx3 := (ht3.keep xb _ _ HX2.out (by decide)).trans HX2.out
        have e2 : V3.cell? ⟨xb, 2, none⟩ = some (.int .i64 x.to) := by simp [World.cell?, hx3]
        have HX3 : Hid (V3.heap[xb]? = some (.cells #[.int .i32 x.label, .int .i64 x.out, .int .i64 x.to] 74)) := hx3
        have HP3 : Hid (PW B w V3 sb s (.slice (some ⟨g, off, none⟩) na cap) (.slice bd3' bn3' bc3') (ys ++ uw (x.label - p).toNat ++ uw x.out.toNat)) := hp3
        clear ht3 hp3 hx3 e1
        go_upto_region 11 with (go_at_call 28; refine (HP3.out.uint hB ((n : Int) - x.to) (by omega) (by omega) (by simp; omega)).mono ?_; rintro e V4 ⟨bd4', bn4', bc4', rfl, hp4, ht4⟩)
        have hx4 := (ht4.keep xb _ _ HX3.out (by decide)).trans HX3.out
        have e3 : V4.cell? ⟨xb, 0, none⟩ = some (.int .i32 x.label) := by simp [World.cell?, hx4]
        have HP4 : Hid (PW B w V4 sb s (.slice (some ⟨g, off, none⟩) na cap) (.slice bd4' bn4' bc4') (ys ++ uw (x.label - p).toNat ++ uw x.out.toNat ++ uw ((n : Int) - x.to).toNat)) := hp4
        have HL4 : Hid ((ys ++ uw (x.label - p).toNat ++ uw x.out.toNat ++ uw ((n : Int) - x.to).toNat).length ≤ xs.length + 20 + 30 * (k + 1)) := by show _ ≤ _; simp; omega
        clear ht4 hp4 hx4 e2
        go_wp2
        go_roundg (na - (k + 1))
        case measure => omega
        case rel => exact ⟨k + 1, _, _, _, _, by go_num, by omega, Nat.le_refl _, rfl, by rw [HAH.out], HP4, HPA, HL4⟩
      · have hltz : ¬ (k : Int) < (na : Int) := by omega
        have hys : ys = xs ++ putS s n := by
          have := HQ.out
          rw [List.drop_of_length_le (by have := HNA.out; omega), putA, List.append_nil] at this
          exact this
        have hlen := HL.out
        have HLL : Hid ((putS s n).length ≤ 20 + 30 * 1114112) := by
          show _ ≤ _
          rw [hys, List.length_append] at hlen
          omega
        go_wp2
        go_ret
        exact ⟨_, _, _, rfl, by rw [← hys]; exact HW.out.byt, HW.out.bel, HLL.out⟩
  | false =>
    rw [hfn] at p0
    have HEQ : Hid ((xs ++ uw (headS s).toNat) ++ putA n (aheadL s.arcs 0) (s.arcs.drop 0) = xs ++ putS s n) := by show _ = _; rw [HP.out, hfn]; simp [aheadL]
    have HLN : Hid ((xs ++ uw (headS s).toNat).length ≤ xs.length + 20 + 30 * 0) := by show _ ≤ _; simp; omega
    have HW4 : Hid (PW B w w3 sb s (.slice ad na cap) (.slice bd3 bn3 bc3) (xs ++ uw (headS s).toNat)) := HW3
    clear hfn
    generalize xs ++ uw (headS s).toNat = ys4 at *
    go_wp2
    go_loopg [0, 7, 9, 24] na (fun gm s0 s7 _ s24 wr => ∃ (k : Nat) (bd : Option Addr) (bn bc : Nat) (ys : List Nat), s24 = .int .i64 k ∧ k ≤ na ∧ na - k ≤ gm ∧ s0 = .slice bd bn bc ∧ s7 = .int .i32 (aheadL s.arcs k) ∧ Hid (PW B w wr sb s (.slice ad na cap) (.slice bd bn bc) ys) ∧ Hid (ys ++ putA n (aheadL s.arcs k) (s.arcs.drop k) = xs ++ putS s n) ∧ Hid (ys.length ≤ xs.length + 20 + 30 * k))
    case atStart => exact ⟨0, _, _, _, _, rfl, Nat.zero_le _, by omega, rfl, rfl, HW4, HEQ, HLN⟩
    case round =>
      obtain ⟨k, bd, bn, bc, ys, rfl, hk, hgm, rfl, rfl, HW, HQ, HL⟩ := hrel
      clear p0 p1 p2
      by_cases hlt : k < na
      · have hltz : (k : Int) < (na : Int) := by omega
        obtain ⟨x, hx⟩ : ∃ x, s.arcs[k]? = some x := ⟨s.arcs[k]'(by have := HNA.out; omega), List.getElem?_eq_getElem _⟩
        obtain ⟨a0, a1, a2, a3, a4, a5⟩ := arc_at HF.out hx
        have HPA : Hid (ys ++ uw (x.label - aheadL s.arcs k).toNat ++ uw x.out.toNat ++ uw ((n : Int) - x.to).toNat ++ putA n (aheadL s.arcs (k + 1)) (s.arcs.drop (k + 1)) = xs ++ putS s n) := by
          show _ = _
          rw [← HQ.out, putA_at hx]
          simp only [List.append_assoc]
        have HAH : Hid (aheadL s.arcs (k + 1) = x.label) := by show _ = _; rw [aheadL, hx]; rfl
        have hxo := HA.out.ok x (List.mem_of_getElem? hx)
        obtain ⟨⟨o0, o1⟩, ⟨o2, o3⟩, ⟨o4, o5⟩⟩ := hxo
        obtain ⟨g, off, rfl, hg, c0, c1, c2⟩ := (HA.out.below (HW.out.bel.mono hEB)).at hx
        have l1 := uw_short (z := x.label - aheadL s.arcs k) (by omega) (by omega)
        have l2 := uw_short (z := x.out) a3 (by omega)
        have l3 := uw_short (z := (n : Int) - x.to) (by omega) (by omega)
        generalize aheadL s.arcs k = p at *
        obtain ⟨xb, hxb⟩ : ∃ xb, xb = wr.heap.size := ⟨_, rfl⟩
        obtain ⟨V1, hV1⟩ : ∃ V1, V1 = wr.alloc (.cells #[.int .i32 x.label, .int .i64 x.out, .int .i64 x.to] 74) := ⟨_, rfl⟩
        have hvb : Below wr.heap.size wr V1 := by rw [hV1]; exact (Below.refl _ wr).alloc (Nat.le_refl _) _
        have hx1 : V1.heap[xb]? = some (.cells #[.int .i32 x.label, .int .i64 x.out, .int .i64 x.to] 74) := by rw [hV1, hxb]; exact alloc_newP _ _
        have HV1 := HW.out.grow hvb hB
        have HX1 : Hid (V1.heap[xb]? = some (.cells #[.int .i32 x.label, .int .i64 x.out, .int .i64 x.to] 74)) := hx1
        have e0 : V1.cell? ⟨xb, 0, none⟩ = some (.int .i32 x.label) := by simp [World.cell?, hx1]
        have hlen := HL.out
        have HVV : Hid (PW B w V1 sb s (.slice (some ⟨g, off, none⟩) na cap) (.slice bd bn bc) ys) := HV1
        clear hx hvb hx1 HV1
        go_upto_region 8 with fail
        rw [← hxb, ← hV1]
        clear hxb hV1 c0 c1 c2
        go_upto_region 9 with (go_at_call 28; refine (HVV.out.uint hB (x.label - p) (by omega) (by omega) (by omega)).mono ?_; rintro e V2 ⟨bd2, bn2, bc2, rfl, hp2, ht2⟩)
        have hx2 := (ht2.keep xb _ _ HX1.out (by decide)).trans HX1.out
        have e1 : V2.cell? ⟨xb, 1, none⟩ = some (.int .i64 x.out) := by simp [World.cell?, hx2]
        have HX2 : Hid (V2.heap[xb]? = some (.cells #[.int .i32 x.label, .int .i64 x.out, .int .i64 x.to] 74)) := hx2
        have HP2 : Hid (PW B w V2 sb s (.slice (some ⟨g, off, none⟩) na cap) (.slice bd2 bn2 bc2) (ys ++ uw (x.label - p).toNat)) := hp2
        clear ht2 hp2 hx2 e0
        go_upto_region 10 with (go_at_call 28; refine (HP2.out.uint hB x.out a3 (by omega) (by simp; omega)).mono ?_; rintro e V3 ⟨bd3', bn3', bc3', rfl, hp3, ht3⟩)
        have hx3 := (ht3.keep xb _ _ HX2.out (by decide)).trans HX2.out
        have e2 : V3.cell? ⟨xb, 2, none⟩ = some (.int .i64 x.to) := by simp [World.cell?, hx3]
        have HX3 : Hid (V3.heap[xb]? = some (.cells #[.int .i32 x.label, .int .i64 x.out, .int .i64 x.to] 74)) := hx3
        have HP3 : Hid (PW B w V3 sb s (.slice (some ⟨g, off, none⟩) na cap) (.slice bd3' bn3' bc3') (ys ++ uw (x.label - p).toNat ++ uw x.out.toNat)) := hp3
        clear ht3 hp3 hx3 e1
        go_upto_region 11 with (go_at_call 28; refine (HP3.out.uint hB ((n : Int) - x.to) (by omega) (by omega) (by simp; omega)).mono ?_; rintro e V4 ⟨bd4', bn4', bc4', rfl, hp4, ht4⟩)
        have hx4 := (ht4.keep xb _ _ HX3.out (by decide)).trans HX3.out
        have e3 : V4.cell? ⟨xb, 0, none⟩ = some (.int .i32 x.label) := by simp [World.cell?, hx4]
        have HP4 : Hid (PW B w V4 sb s (.slice (some ⟨g, off, none⟩) na cap) (.slice bd4' bn4' bc4') (ys ++ uw (x.label - p).toNat ++ uw x.out.toNat ++ uw ((n : Int) - x.to).toNat)) := hp4
        have HL4 : Hid ((ys ++ uw (x.label - p).toNat ++ uw x.out.toNat ++ uw ((n : Int) - x.to).toNat).length ≤ xs.length + 20 + 30 * (k + 1)) := by show _ ≤ _; simp; omega
        clear ht4 hp4 hx4 e2
        go_wp2
        go_roundg (na - (k + 1))
        case measure => omega
        case rel => exact ⟨k + 1, _, _, _, _, by go_num, by omega, Nat.le_refl _, rfl, by rw [HAH.out], HP4, HPA, HL4⟩
      · have hltz : ¬ (k : Int) < (na : Int) := by omega
        have hys : ys = xs ++ putS s n := by
          have := HQ.out
          rw [List.drop_of_length_le (by have := HNA.out; omega), putA, List.append_nil] at this
          exact this
        have hlen := HL.out
        have HLL : Hid ((putS s n).length ≤ 20 + 30 * 1114112) := by
          show _ ≤ _
          rw [hys, List.length_append] at hlen
          omega
        go_wp2
        go_ret
        exact ⟨_, _, _, rfl, by rw [← hys]; exact HW.out.byt, HW.out.bel, HLL.out⟩
end Go.Proofs.YtdidcombjmbkdaaDoor

/- Pack. -/
namespace Go.Proofs.YtdidcombjmbkdaaDoor
open Go.RowKit Nums Fm Pk
open Cd (uw)
set_option maxRecDepth 100000

theorem Pk.right_facts {base : Int} {m : List RSt} (h : rightB base m = true) : 0 ≤ base ∧ base ≤ 1048576 ∧ formB 0 m = true := by
  unfold rightB at h
  by_cases h0 : m = []
  · rw [if_pos h0] at h
    have := of_decide_eq_true h
    subst h0
    exact ⟨by omega, by omega, rfl⟩
  · rw [if_neg h0] at h
    simp only [Bool.and_eq_true, decide_eq_true_eq] at h
    obtain ⟨⟨⟨⟨⟨h1, _⟩, h3⟩, _⟩, _⟩, _⟩ := h
    exact ⟨by omega, by omega, h3⟩
/-- While states are written. -/
structure QW (B : Nat) (w W : World) (vb : Value) (ys : List Nat) : Prop where
  bel : Below B w W
  byt : Cd.Bytes B W vb ys
theorem QW.uint {B : Nat} {w W : World} {vb : Value} {ys : List Nat} (h : QW B w W vb ys) (hB : B ≤ w.heap.size) (z : Int) (h0 : 0 ≤ z) (h1 : z < 18446744073709551616) (hl : ys.length + 10 ≤ 140737488355328) :
    Calls Tryd.prog 28 #[vb, .int .u64 z] W fun e w' => ∃ ad n cap, e = .returned (.slice ad n cap) ∧ QW B w w' (.slice ad n cap) (ys ++ uw z.toNat) := by
  refine (PutU B vb ys z W h.byt (Nat.le_trans hB h.bel.size) h0 h1 hl).mono ?_
  rintro e w' ⟨ad, n, cap, rfl, h2, h3, h4⟩
  exact ⟨ad, n, cap, rfl, h.bel.trans h3, h2⟩
/-- What Pack says. -/
structure PackSays (w w' : World) (base : Int) (m : List RSt) (e : Ending) : Prop where
  bel : Below w.heap.size w w'
  no : rightB base m = false → e = .returned (.tuple #[.slice none 0 0, .int .i64 80])
  yes : rightB base m = true → ∃ ad n cap, e = .returned (.tuple #[.slice ad n cap, .int .i64 0]) ∧ Cd.Bytes w.heap.size w' (.slice ad n cap) (packB base m)
set_option maxHeartbeats 4000000 in
theorem Pack_any (E : Nat) (w : World) (base : Int) (m : List RSt) (vs : Value) (h : StsAt E w vs m) (hE : E ≤ w.heap.size) (hT : Tabs w) (hm : m.length ≤ 1048576) :
    Calls Tryd.prog 14 #[.agg #[.int .i64 base, vs]] w fun e w' => PackSays w w' base m e := by
  obtain ⟨ad, cap, rfl⟩ := h.shape
  obtain ⟨n, hn⟩ : ∃ n, m.length = n := ⟨_, rfl⟩
  have HN : Hid (m.length = n) := hn
  obtain ⟨mb, hmb⟩ : ∃ mb, mb = w.heap.size := ⟨_, rfl⟩
  rw [hn] at h hm ⊢
  obtain ⟨W1, hW1⟩ : ∃ W1, W1 = w.alloc (.cells #[.int .i64 base, .slice ad n cap] 24) := ⟨_, rfl⟩
  have hbw : Below w.heap.size w W1 := by rw [hW1]; exact (Below.refl _ w).alloc (Nat.le_refl _) _
  have hm1 : W1.heap[mb]? = some (.cells #[.int .i64 base, .slice ad n cap] 24) := by rw [hW1, hmb]; exact alloc_newP _ _
  have HBW : Hid (Below w.heap.size w W1) := hbw
  have HM1 : Hid (W1.heap[mb]? = some (.cells #[.int .i64 base, .slice ad n cap] 24)) := hm1
  have HS : Hid (StsAt E w (.slice ad n cap) m) := h
  have HRI : Hid (Calls Tryd.prog 11 #[.agg #[.int .i64 base, .slice ad n cap]] W1 fun e w' => e = .returned (.bool (rightB base m)) ∧ Below W1.heap.size W1 w') := Right_any E W1 base m _ (h.below (hbw.mono hE)) (Nat.le_trans hE hbw.size) (hT.below hbw) (by rw [hn]; exact hm)
  have q0 : W1.cell? ⟨mb, 0, none⟩ = some (.int .i64 base) := by simp [World.cell?, hm1]
  have q1 : W1.cell? ⟨mb, 1, none⟩ = some (.slice ad n cap) := by simp [World.cell?, hm1]
  clear h hT hbw hm1 hn
  go_enter Tryd.func14, Tryd.ntmps14
  obtain ⟨R, hR⟩ : ∃ R, rightB base m = R := ⟨_, rfl⟩
  rw [hR] at HRI
  cases R with
  | false =>
    go_upto_region 1 with fail
    rw [← hW1, ← hmb]
    clear hW1 hmb
    go_wp2_with (go_at_call 11; refine HRI.out.mono ?_; rintro e w2 ⟨rfl, hb2⟩; have HB2 : Hid (Below W1.heap.size W1 w2) := hb2; clear hb2)
    go_returns
    exact ⟨HBW.out.trans (HB2.out.mono HBW.out.size), fun _ => rfl, fun h => by rw [hR] at h; cases h⟩
  | true =>
    obtain ⟨r0, r1, r2⟩ := right_facts hR
    have HFM : Hid (formB 0 m = true) := r2
    go_upto_region 1 with fail
    rw [← hW1, ← hmb]
    clear hW1 hmb
    go_upto_region 3 with (go_at_call 11; refine HRI.out.mono ?_; rintro e w2 ⟨rfl, hb2⟩; have HB2 : Hid (Below W1.heap.size W1 w2) := hb2; clear hb2)
    obtain ⟨B, hBe⟩ : ∃ B, B = w2.heap.size := ⟨_, rfl⟩
    have HBB : Hid (w.heap.size ≤ B ∧ B ≤ w2.heap.size ∧ E ≤ B ∧ mb < B) := by
      have h1 := HBW.out.size
      have h2 := HB2.out.size
      have h3 := (Array.getElem?_eq_some_iff.1 HM1.out).1
      exact ⟨by omega, by omega, by omega, by omega⟩
    have HBW2 : Hid (Below w.heap.size w w2) := HBW.out.trans (HB2.out.mono HBW.out.size)
    have HCL : Hid (∀ W, Below B w2 W → W.cell? ⟨mb, 0, none⟩ = some (.int .i64 base) ∧ W.cell? ⟨mb, 1, none⟩ = some (.slice ad n cap)) := fun W hW => by
      have h1 : W.heap[mb]? = some (.cells #[.int .i64 base, .slice ad n cap] 24) := (hW.block mb HBB.out.2.2.2).trans ((HB2.out.block mb (Array.getElem?_eq_some_iff.1 HM1.out).1).trans HM1.out)
      exact ⟨by simp [World.cell?, h1], by simp [World.cell?, h1]⟩
    have HQ2 : Hid (QW B w2 w2 (.slice none 0 0) []) := ⟨Below.refl _ _, Cd.Bytes.nil _ _⟩
    have HBL : Hid (B ≤ w2.heap.size) := HBB.out.2.1
    have l1 := uw_short (z := base) r0 (by omega)
    have l2 := uw_short (z := (n : Int)) (by omega) (by omega)
    clear q0 q1 hBe
    obtain ⟨q0, q1⟩ := HCL.out w2 (Below.refl _ _)
    go_upto_region 4 with (go_at_call 28; refine (HQ2.out.uint HBL.out base r0 (by omega) (by simp)).mono ?_; rintro e w3 ⟨d3, n3, c3, rfl, hq3⟩)
    have HQ3 : Hid (QW B w2 w3 (.slice d3 n3 c3) (uw base.toNat)) := hq3
    clear hq3 q0 q1
    obtain ⟨q0, q1⟩ := HCL.out w3 HQ3.out.bel
    go_upto_region 5 with (go_at_call 28; refine (HQ3.out.uint HBL.out (n : Int) (by omega) (by omega) (by omega)).mono ?_; rintro e w4 ⟨d4, n4, c4, rfl, hq4⟩)
    have HQ4 : Hid (QW B w2 w4 (.slice d4 n4 c4) (uw base.toNat ++ uw n)) := hq4
    clear hq4 q0 q1
    obtain ⟨q0, q1⟩ := HCL.out w4 HQ4.out.bel
    have HEQ : Hid ((uw base.toNat ++ uw n) ++ putM 0 (m.drop 0) = packB base m) := by show _ = _; rw [packB, HN.out]; simp
    have HLN : Hid ((uw base.toNat ++ uw n).length ≤ 20 + 0 * (20 + 30 * 1114112)) := by
      show _ ≤ _
      rw [Int.toNat_natCast] at l2
      simp
      omega
    generalize uw base.toNat ++ uw n = ys4 at *
    go_wp2
    go_loopg [4, 5, 6, 23] n (fun gm s4 _ _ s23 wr => ∃ (k : Nat) (bd : Option Addr) (bn bc : Nat) (ys : List Nat), s23 = .int .i64 k ∧ k ≤ n ∧ n - k ≤ gm ∧ s4 = .slice bd bn bc ∧ Hid (QW B w2 wr (.slice bd bn bc) ys) ∧ Hid (ys ++ putM k (m.drop k) = packB base m) ∧ Hid (ys.length ≤ 20 + k * (20 + 30 * 1114112)))
    case atStart => exact ⟨0, _, _, _, _, rfl, Nat.zero_le _, by omega, rfl, HQ4, HEQ, HLN⟩
    case round =>
      obtain ⟨k, bd, bn, bc, ys, rfl, hk, hgm, rfl, HQ, HE, HL⟩ := hrel
      clear q0 q1
      by_cases hlt : k < n
      · have hltz : (k : Int) < (n : Int) := by omega
        obtain ⟨s, hs⟩ : ∃ s, m[k]? = some s := ⟨m[k]'(by have := HN.out; omega), List.getElem?_eq_getElem _⟩
        have hSr := HS.out.below ((HBW2.out.mono hE).trans (HQ.out.bel.mono HBB.out.2.2.1))
        obtain ⟨g, off, va, rfl, hg, c0, c1, c2, hA⟩ := hSr.at hs
        obtain ⟨vd, vc, hva⟩ := hA.shape
        obtain ⟨na, hna⟩ : ∃ na, s.arcs.length = na := ⟨_, rfl⟩
        rw [hna] at hva
        subst hva
        have hFS := form_get m 0 k s HFM.out hs
        rw [Nat.zero_add] at hFS
        have hso := HS.out.ok s (List.mem_of_getElem? hs)
        have HPM : Hid ((ys ++ putS s k) ++ putM (k + 1) (m.drop (k + 1)) = packB base m) := by show _ = _; rw [← HE.out, putM_at hs, List.append_assoc]
        obtain ⟨sb, hsb⟩ : ∃ sb, sb = wr.heap.size := ⟨_, rfl⟩
        obtain ⟨V1, hV1⟩ : ∃ V1, V1 = wr.alloc (.cells #[.bool s.final, .int .i64 s.out, .slice vd na vc] 44) := ⟨_, rfl⟩
        have hvb : Below wr.heap.size wr V1 := by rw [hV1]; exact (Below.refl _ wr).alloc (Nat.le_refl _) _
        have hx1 : V1.heap[sb]? = some (.cells #[.bool s.final, .int .i64 s.out, .slice vd na vc] 44) := by rw [hV1, hsb]; exact alloc_newP _ _
        have e0 : V1.cell? ⟨sb, 0, none⟩ = some (.bool s.final) := by simp [World.cell?, hx1]
        have e1 : V1.cell? ⟨sb, 1, none⟩ = some (.int .i64 s.out) := by simp [World.cell?, hx1]
        have e2 : V1.cell? ⟨sb, 2, none⟩ = some (.slice vd na vc) := by simp [World.cell?, hx1]
        have hBr : B ≤ wr.heap.size := Nat.le_trans HBL.out HQ.out.bel.size
        have HBV : Hid (Below B w2 V1) := HQ.out.bel.trans (hvb.mono hBr)
        have hlen := HL.out
        have HPS : Hid (Calls Tryd.prog 29 #[.slice bd bn bc, .agg #[.bool s.final, .int .i64 s.out, .slice vd na vc], .int .i64 k] V1 fun e w' => ∃ ad m cap, e = .returned (.slice ad m cap) ∧ Cd.Bytes B w' (.slice ad m cap) (ys ++ putS s k) ∧ Below B V1 w' ∧ (putS s k).length ≤ 20 + 30 * 1114112) :=
          putState_any E B V1 _ ys s _ k (HQ.out.byt.below hvb) (hA.below (hvb.mono (Nat.le_trans HBB.out.2.2.1 hBr))) HBB.out.2.2.1 (Nat.le_trans hBr hvb.size) hFS (by
            have : k * (20 + 30 * 1114112) ≤ 1048576 * (20 + 30 * 1114112) := Nat.mul_le_mul_right _ (by omega)
            omega) hso (by omega)
        clear hs hSr hA hna hFS hso hvb hx1
        go_upto_region 8 with fail
        rw [← hsb, ← hV1]
        clear hsb hV1 c0 c1 c2
        go_upto_region 9 with (go_at_call 29; refine HPS.out.mono ?_; rintro e V2 ⟨d5, n5, c5, rfl, hby, hbl, hpl⟩)
        have HQ5 : Hid (QW B w2 V2 (.slice d5 n5 c5) (ys ++ putS s k)) := ⟨HBV.out.trans hbl, hby⟩
        have HL5 : Hid ((ys ++ putS s k).length ≤ 20 + (k + 1) * (20 + 30 * 1114112)) := by
          show _ ≤ _
          rw [List.length_append, Nat.add_mul]
          omega
        clear hby hbl hpl e0 e1 e2
        go_wp2
        go_roundg (n - (k + 1))
        case measure => omega
        case rel => exact ⟨k + 1, _, _, _, _, by go_num, by omega, Nat.le_refl _, rfl, HQ5, HPM, HL5⟩
      · have hltz : ¬ (k : Int) < (n : Int) := by omega
        have hys : ys = packB base m := by
          have := HE.out
          rw [List.drop_of_length_le (by have := HN.out; omega), putM, List.append_nil] at this
          exact this
        go_wp2
        go_returns
        refine ⟨HBW2.out.trans (HQ.out.bel.mono HBB.out.1), fun h => (by rw [hR] at h; cases h), fun _ => ⟨_, _, _, rfl, ?_⟩⟩
        rw [← hys]
        exact HQ.out.byt.mono HBB.out.1
end Go.Proofs.YtdidcombjmbkdaaDoor

/- Machines that fst.Build made, as pack reads them; alive. -/
namespace Go.Proofs.YtdidcombjmbkdaaDoor
open Go.RowKit Nums Fm Pk
set_option maxRecDepth 100000

theorem built_at {B : Nat} {w : World} {vs : Value} {l : List Pr} {b : List St} (h : StRow B w vs b) (hC : buildE l = 0) (hb : (machOf l).2 = b) : StsAt w.heap.size w vs (b.map ofSt) := by
  obtain ⟨xss, h1, h2, h3⟩ := h
  have hf := built_facts hC
  have hlen := mach_few (l := l)
  rw [hb] at hf hlen
  refine ⟨⟨xss, h1.reads, by rw [h2, List.length_map], fun i s hi => ?_⟩, fun s hs => ?_, by rw [List.length_map]; omega⟩
  · rw [List.getElem?_map] at hi
    obtain ⟨t, ht, rfl⟩ := Option.map_eq_some_iff.1 hi
    obtain ⟨va, e1, e2⟩ := h3 i t ht
    have hcell : (t.arcs.map ofArc).map cellsRA = t.arcs.map cellsA := by rw [List.map_map]; rfl
    refine ⟨va, e1, ⟨by rw [show (ofSt t).arcs = t.arcs.map ofArc from rfl, hcell]; exact GOwn.reads e2, fun a ha => ?_, ?_⟩⟩
    · obtain ⟨x, hx, rfl⟩ := List.mem_map.1 ha
      obtain ⟨p1, p2, p3⟩ := (hf i t ht).2 x hx
      have hi' := (List.getElem?_eq_some_iff.1 ht).1
      simp only [OkRA, ofArc, Fits32, Fits64]
      omega
    · have := GOwn.reads e2
      obtain ⟨ad, cap, e, _⟩ := GOwn.shape e2
      have hsm : (t.arcs.map cellsA).length ≤ maxLen := by
        obtain ⟨_, hl, ⟨_, h0⟩ | ⟨g, cap, cur, _, _, _, h3, h4, _⟩⟩ := e2
        · omega
        · omega
      rw [List.length_map] at hsm
      unfold maxLen at hsm
      show (t.arcs.map ofArc).length ≤ _
      rw [List.length_map]
      omega
  · obtain ⟨t, ht, rfl⟩ := List.mem_map.1 hs
    obtain ⟨i, hi, rfl⟩ := List.getElem_of_mem ht
    have := (hf i _ (List.getElem?_eq_getElem hi)).1
    simp only [ofSt, Fits64]
    omega
theorem StRow.form {B : Nat} {w : World} {vs : Value} {b : List St} (h : StRow B w vs b) : ∃ ad n cap, vs = .slice ad n cap ∧ b.length = n := by
  obtain ⟨xss, h1, h2, _⟩ := h
  obtain ⟨ad, cap, h3, _⟩ := h1.shape
  exact ⟨ad, _, cap, h3, h2.symm⟩
def al8 : List Pr := [(⟨#[97]⟩, 3)]
def alM8 : List St := [⟨true, 0, []⟩, ⟨false, 0, [⟨97, 0, 0⟩]⟩]
theorem al8_e : buildE al8 = 0 := by decide +kernel
theorem al8_m : machOf al8 = (3, alM8) := by decide +kernel
theorem al8_sm : Sm al8 := fun x hx => by simp [al8] at hx; subst hx; decide
theorem al8_r : rightB 3 (alM8.map ofSt) = true := by have := built_right al8_e; rw [al8_m] at this; exact this
theorem al8_b : packB 3 (alM8.map ofSt) = [3, 2, 1, 0, 2, 97, 0, 1] := by decide +kernel
theorem one_new (w : World) (x : Pr) (T : TypeId) (c : Nat) : PRow (w.alloc (.cells #[.string x.1, .int .i64 x.2] T)) (.slice (some ⟨w.heap.size, 0, none⟩) 1 c) [x] := by
  refine ⟨_, c, rfl, fun _ => ⟨w.heap.size, 0, rfl, by simp, fun i u hi => ?_⟩⟩
  match i, hi with
  | 0, hi => simp at hi; subst hi; exact ⟨by simp, by simp⟩
  | n + 1, hi => simp at hi
set_option maxHeartbeats 2000000 in
theorem alive_any (w : World) (ht : Tabs w) : Calls Tryd.prog 10 #[] w fun e w' => e = .returned (.bool true) ∧ Below w.heap.size w w' := by
  have hb0 : ∀ o, Below w.heap.size w (w.alloc o) := fun o => (Below.refl _ w).alloc (Nat.le_refl _) o
  have HT : Hid (∀ W, Below w.heap.size w W → Tabs W) := fun W hW => ht.below hW
  have HB : Hid (∀ o, Below w.heap.size w (w.alloc o)) := hb0
  have HBU : Hid (∀ T, Calls Tryd.prog 13 #[.slice (some ⟨w.heap.size, 0, none⟩) 1 1] (w.alloc (.cells #[.string ⟨#[97]⟩, .int .i64 3] T)) fun e w' => ∃ base vs b, e = .returned (.tuple #[.agg #[.int .i64 base, vs], .int .i64 0]) ∧ BuildSays (w.alloc (.cells #[.string ⟨#[97]⟩, .int .i64 3] T)) w' al8 base vs b) := fun T => by
    have := Build_any (w.alloc (.cells #[.string ⟨#[97]⟩, .int .i64 3] T)) _ al8 (one_new w (⟨#[97]⟩, 3) T 1) (by decide) al8_sm (ht.below (hb0 _))
    rw [al8_e] at this
    exact this
  clear ht hb0
  go_enter Tryd.func10, Tryd.ntmps10
  go_upto_region 2 with (go_at_call 13; refine (HBU.out _).mono ?_; rintro e w1 ⟨base, vs, b, rfl, hS⟩; obtain ⟨sd, nb, sc, hvs, hnb⟩ := StRow.form hS.row; subst hvs; have HS : Hid (BuildSays (w.alloc _) w1 al8 base (.slice sd nb sc) b) := hS; clear hS)
  obtain ⟨hbel, hrow, hmach⟩ := HS.out
  rw [al8_m] at hmach
  simp only [Prod.mk.injEq] at hmach
  obtain ⟨rfl, rfl⟩ := hmach
  have hsts := built_at hrow al8_e (by rw [al8_m])
  have hbw : Below w.heap.size w w1 := (HB.out _).trans (hbel.mono (HB.out _).size)
  obtain ⟨mb, hmb⟩ : ∃ mb, mb = w1.heap.size := ⟨_, rfl⟩
  obtain ⟨W2, hW2⟩ : ∃ W2, W2 = w1.alloc (.cells #[.int .i64 3, .slice sd nb sc] 24) := ⟨_, rfl⟩
  have hb2 : Below w1.heap.size w1 W2 := by rw [hW2]; exact (Below.refl _ w1).alloc (Nat.le_refl _) _
  have hm2 : W2.heap[mb]? = some (.cells #[.int .i64 3, .slice sd nb sc] 24) := by rw [hW2, hmb]; exact alloc_newP _ _
  have q0 : W2.cell? ⟨mb, 0, none⟩ = some (.int .i64 3) := by simp [World.cell?, hm2]
  have q1 : W2.cell? ⟨mb, 1, none⟩ = some (.slice sd nb sc) := by simp [World.cell?, hm2]
  have HB2 : Hid (Below w.heap.size w W2) := hbw.trans (hb2.mono hbw.size)
  have HPK : Hid (Calls Tryd.prog 14 #[.agg #[.int .i64 3, .slice sd nb sc]] W2 fun e w' => PackSays W2 w' 3 (alM8.map ofSt) e) := Pack_any w1.heap.size W2 3 _ _ (hsts.below hb2) hb2.size (HT.out _ HB2.out) (by decide)
  rw [← hmb, ← hW2]
  clear hmb hW2 hb2 hm2 hsts hbw hbel hrow
  go_upto_region 3 with (go_at_call 14; refine HPK.out.mono ?_; rintro e w3 hps; obtain ⟨d3, n3, c3, rfl, hby⟩ := hps.yes al8_r; have HB3 : Hid (Below W2.heap.size W2 w3) := hps.bel; rw [al8_b] at hby; have HBY : Hid (Cd.Bytes W2.heap.size w3 (.slice d3 n3 c3) [3, 2, 1, 0, 2, 97, 0, 1]) := hby; clear hps hby)
  have hstr := (HBY.out.row).str
  have HF : Hid (Below w.heap.size w w3) := HB2.out.trans (HB3.out.mono HB2.out.size)
  have hs8 : Cd.strB [3, 2, 1, 0, 2, 97, 0, 1] = ⟨#[3, 2, 1, 0, 2, 97, 0, 1]⟩ := by rfl
  rw [hs8] at hstr
  clear hs8
  go_wp2
  go_ret
  exact ⟨rfl, HF.out⟩
end Go.Proofs.YtdidcombjmbkdaaDoor

/- The reference's Right, by what its Pairs says. -/
namespace Go.Proofs.YtdidcombjmbkdaaDoor
open Go.RowKit Nums Fm Pk
set_option maxRecDepth 100000

theorem StsAt.mono {E E' : Nat} {w : World} {vs : Value} {m : List RSt} (h : StsAt E w vs m) (hE : E ≤ E') : StsAt E' w vs m := by
  obtain ⟨xss, h1, h2, h3⟩ := h.ex
  refine ⟨⟨xss, h1.mono hE, h2, fun i s hi => ?_⟩, h.ok, h.len⟩
  obtain ⟨va, e1, e2⟩ := h3 i s hi
  exact ⟨va, e1, e2.row.mono hE, e2.ok, e2.len⟩
/-- What the reference's Pairs says. -/
structure PairsSays (w w' : World) (base : Int) (m : List RSt) (vl : Value) (ok : Bool) (l : List Pr) : Prop where
  bel : Below w.heap.size w w'
  row : ok = true → PRow w' vl l ∧ Sm l
  yes : rightB base m = true → ok = true ∧ buildE l = 0 ∧ machOf l = (base, m.map toSt) ∧ (m.map toSt).map ofSt = m
theorem right_same {base q : Int} {m : List RSt} {l : List Pr} {b : List St} (hC : buildE l = 0) (hM : machOf l = (q, b)) (hy : rightB base m = true → machOf l = (base, m.map toSt) ∧ (m.map toSt).map ofSt = m) : decide (base = q ∧ m = b.map ofSt) = rightB base m := by
  cases hr : rightB base m with
  | true =>
    obtain ⟨h1, h2⟩ := hy hr
    rw [hM, Prod.mk.injEq] at h1
    exact decide_eq_true ⟨h1.1.symm, by rw [h1.2, h2]⟩
  | false =>
    refine decide_eq_false fun e => ?_
    have := built_right hC
    rw [hM] at this
    simp only at this
    rw [← e.1, ← e.2, hr] at this
    cases this
set_option maxHeartbeats 4000000 in
theorem refRight_any (E : Nat) (w : World) (base : Int) (m : List RSt) (vs : Value) (h : StsAt E w vs m) (hE : E ≤ w.heap.size)
    (hP : ∀ W, Below w.heap.size w W → Calls Tryd.prog 22 #[.agg #[.int .i64 base, vs]] W fun e w' => ∃ vl ok l, e = .returned (.tuple #[vl, .bool ok]) ∧ PairsSays W w' base m vl ok l)
    (hB : ∀ (W : World) (vl : Value) (l : List Pr), PRow W vl l → Sm l → Calls Tryd.prog 23 #[vl] W fun e w' => ∃ base vs b, e = .returned (.tuple #[.agg #[.int .i64 base, vs], .int .i64 (buildE l)]) ∧ BuildSays W w' l base vs b) :
    Calls Tryd.prog 12 #[.agg #[.int .i64 base, vs]] w fun e w' => e = .returned (.bool (rightB base m)) ∧ Below w.heap.size w w' := by
  obtain ⟨ad, cap, rfl⟩ := h.shape
  obtain ⟨n, hn⟩ : ∃ n, m.length = n := ⟨_, rfl⟩
  rw [hn] at h hP ⊢
  have HR : Hid (StsAt E w (.slice ad n cap) m) := h
  obtain ⟨F, hF⟩ : ∃ F, rightB base m = F := ⟨_, rfl⟩
  have HF : Hid (rightB base m = F) := hF
  rw [hF]
  obtain ⟨W0, hW0⟩ : ∃ W0, W0 = w.alloc (.cells #[.int .i64 base, .slice ad n cap] 24) := ⟨_, rfl⟩
  obtain ⟨mb, hmb⟩ : ∃ mb, mb = w.heap.size := ⟨_, rfl⟩
  have HB0 : Hid (Below w.heap.size w W0) := by show Below _ _ _; rw [hW0]; exact (Below.refl _ w).alloc (Nat.le_refl _) _
  have HM0 : Hid (W0.heap[mb]? = some (.cells #[.int .i64 base, .slice ad n cap] 24)) := by rw [hW0, hmb]; exact alloc_newP _ _
  have HPP : Hid (Calls Tryd.prog 22 #[.agg #[.int .i64 base, .slice ad n cap]] W0 fun e w' => ∃ vl ok l, e = .returned (.tuple #[vl, .bool ok]) ∧ PairsSays W0 w' base m vl ok l) := hP W0 HB0.out
  have HBU : Hid (∀ (W : World) (vl : Value) (l : List Pr), PRow W vl l → Sm l → Calls Tryd.prog 23 #[vl] W fun e w' => ∃ base vs b, e = .returned (.tuple #[.agg #[.int .i64 base, vs], .int .i64 (buildE l)]) ∧ BuildSays W w' l base vs b) := hB
  clear h hP hB hF hn
  have z0 : W0.cell? ⟨mb, 0, none⟩ = some (.int .i64 base) := by simp [World.cell?, HM0.out]
  have z1 : W0.cell? ⟨mb, 1, none⟩ = some (.slice ad n cap) := by simp [World.cell?, HM0.out]
  go_enter Tryd.func12, Tryd.ntmps12
  go_upto_region 1 with fail
  rw [← hW0, ← hmb]
  clear hW0 hmb
  go_upto_region 2 with (go_at_call 22; refine HPP.out.mono ?_; rintro e w1 ⟨vl, ok, l, rfl, hS⟩; have HS : Hid (PairsSays W0 w1 base m vl ok l) := hS; clear hS z0 z1)
  cases ok with
  | false =>
    have HE : Hid (F = false) := by
      show _ = _
      rw [← HF.out]
      cases hr : rightB base m with
      | false => rfl
      | true => exact absurd (HS.out.yes hr).1 (by simp)
    go_wp2
    go_ret
    exact ⟨by rw [HE.out]; rfl, HB0.out.trans (HS.out.bel.mono HB0.out.size)⟩
  | true =>
    have HB1 : Hid (Below w.heap.size w w1) := HB0.out.trans (HS.out.bel.mono HB0.out.size)
    have HM1 : Hid (w1.heap[mb]? = some (.cells #[.int .i64 base, .slice ad n cap] 24)) := (HS.out.bel.block mb (Array.getElem?_eq_some_iff.1 HM0.out).1).trans HM0.out
    obtain ⟨C, hC⟩ : ∃ C, buildE l = C := ⟨_, rfl⟩
    have HC : Hid (buildE l = C) := hC
    have HB : Hid (Calls Tryd.prog 23 #[vl] w1 fun e w' => ∃ base vs b, e = .returned (.tuple #[.agg #[.int .i64 base, vs], .int .i64 C]) ∧ BuildSays w1 w' l base vs b) := by
      have := HBU.out w1 vl l (HS.out.row rfl).1 (HS.out.row rfl).2
      rw [hC] at this
      exact this
    clear hC HPP
    go_upto_region 5 with (go_at_call 23; refine HB.out.mono ?_; rintro e w2 ⟨q, vb, b, rfl, hS2⟩; obtain ⟨td, nc, tc, hvs, hnc⟩ := StRow.form hS2.row; subst hvs; have HS2 : Hid (BuildSays w1 w2 l q (.slice td nc tc) b) := hS2; clear hS2 hnc)
    have hb2a : Below w2.heap.size w2 (w2.alloc (.cells #[.int .i64 q, .slice td nc tc] 24)) := (Below.refl _ w2).alloc (Nat.le_refl _) _
    have hnew := alloc_newP w2 (.cells #[.int .i64 q, .slice td nc tc] 24)
    obtain ⟨W3, hW3⟩ : ∃ W3, W3 = w2.alloc (.cells #[.int .i64 q, .slice td nc tc] 24) := ⟨_, rfl⟩
    obtain ⟨mc, hmc⟩ : ∃ mc, mc = w2.heap.size := ⟨_, rfl⟩
    rw [← hW3] at hb2a hnew
    rw [← hmc] at hnew
    have hb13 : Below w1.heap.size w1 W3 := HS2.out.bel.trans (hb2a.mono HS2.out.bel.size)
    have hm3 : W3.heap[mb]? = some (.cells #[.int .i64 base, .slice ad n cap] 24) := (hb13.block mb (Array.getElem?_eq_some_iff.1 HM1.out).1).trans HM1.out
    have HB3 : Hid (Below w.heap.size w W3) := HB1.out.trans (hb13.mono HB1.out.size)
    have HR3 : Hid (StsAt W3.heap.size W3 (.slice ad n cap) m) := (HR.out.below (HB3.out.mono hE)).mono (Nat.le_trans hE HB3.out.size)
    have HROW : Hid (StRow w1.heap.size W3 (.slice td nc tc) b) := HS2.out.row.below hb2a
    have y0 : W3.cell? ⟨mb, 0, none⟩ = some (.int .i64 base) := by simp [World.cell?, hm3]
    have y1 : W3.cell? ⟨mb, 1, none⟩ = some (.slice ad n cap) := by simp [World.cell?, hm3]
    have x0 : W3.cell? ⟨mc, 0, none⟩ = some (.int .i64 q) := by simp [World.cell?, hnew]
    have x1 : W3.cell? ⟨mc, 1, none⟩ = some (.slice td nc tc) := by simp [World.cell?, hnew]
    rw [← hW3, ← hmc]
    clear hW3 hmc hnew hm3 hb13 hb2a
    by_cases hC0 : C = 0
    · subst hC0
      have HSA : Hid (Calls Tryd.prog 17 #[.agg #[.int .i64 base, .slice ad n cap], .agg #[.int .i64 q, .slice td nc tc]] W3 fun e w' => e = .returned (.bool F) ∧ Below W3.heap.size W3 w') := by
        have hs := sameR_any W3.heap.size W3 base q (.slice ad n cap) (.slice td nc tc) m (b.map ofSt) HR3.out (built_at HROW.out HC.out (by rw [HS2.out.mach])) (Nat.le_refl _)
        rw [right_same HC.out HS2.out.mach (fun hr => (HS.out.yes hr).2.2), HF.out] at hs
        exact hs
      go_wp2_with (go_at_call 17; refine HSA.out.mono ?_; rintro e w4 ⟨rfl, hb4⟩; have HB4 : Hid (Below W3.heap.size W3 w4) := hb4; clear hb4)
      go_ret
      exact ⟨rfl, HB3.out.trans (HB4.out.mono HB3.out.size)⟩
    · have hCb : (C == 0) = false := beq_eq_false_iff_ne.2 hC0
      have HE : Hid (F = false) := by
        show _ = _
        rw [← HF.out]
        cases hr : rightB base m with
        | false => rfl
        | true =>
          have := (HS.out.yes hr).2.1
          rw [HC.out] at this
          exact absurd this hC0
      go_wp2
      go_ret
      exact ⟨by rw [HE.out]; rfl, HB3.out⟩
end Go.Proofs.YtdidcombjmbkdaaDoor

/- The reference's Pairs. -/
namespace Go.Proofs.YtdidcombjmbkdaaDoor
open Go.RowKit Nums Fm Pk
set_option maxRecDepth 100000

theorem rtyP : RTy 40 27 2 24 := ⟨by kernel_rfl, ⟨.agg #[.string .empty, .int .i64 0], by kernel_rfl, rfl⟩, by decide, by decide⟩
def cellsPr (x : Pr) : List Value := [.string x.1, .int .i64 x.2]
theorem prow_of {B : Nat} {w : World} {v : Value} {l : List Pr} (h : GOwn 40 2 B w v (l.map cellsPr)) : PRow w v l := by
  obtain ⟨ad, cap, e, _⟩ := h.shape
  rw [List.length_map] at e
  refine ⟨ad, cap, e, fun h0 => ?_⟩
  obtain ⟨g, cap', e2, hg, _, _, hc⟩ := h.cell (by rw [List.length_map]; exact h0)
  rw [e] at e2
  simp only [Value.slice.injEq] at e2
  refine ⟨g, 0, e2.1, hg, fun i x hi => ?_⟩
  have hx : (l.map cellsPr)[i]? = some (cellsPr x) := by rw [List.getElem?_map, hi]; rfl
  rw [Nat.zero_add]
  exact ⟨hc i 0 _ _ hx rfl, hc i 1 _ _ hx rfl⟩
theorem prs_sm {es : List En} (h : ∀ e ∈ es, e.1.length ≤ 25) : Sm (prsOf es) := fun x hx => by
  obtain ⟨e, he, rfl⟩ := List.mem_map.1 hx
  have h1 := h e he
  simp only [textS]
  split
  · rw [strOfNums_size]
    have := flat_len e.1
    omega
  · decide
/-- Below Pairs: the machine in its box. -/
structure PB (w W : World) (mb : Nat) (base : Int) (vs : Value) : Prop where
  bel : Below w.heap.size w W
  blk : W.heap[mb]? = some (.cells #[.int .i64 base, vs] 24)
theorem PB.below {w W W' : World} {mb : Nat} {base : Int} {vs : Value} (h : PB w W mb base vs) (hb : Below W.heap.size W W') : PB w W' mb base vs := ⟨h.bel.trans (hb.mono h.bel.size), (hb.block mb (Array.getElem?_eq_some_iff.1 h.blk).1).trans h.blk⟩
theorem PB.facts {w W : World} {mb : Nat} {base : Int} {vs : Value} (h : PB w W mb base vs) : W.cell? ⟨mb, 0, none⟩ = some (.int .i64 base) ∧ W.cell? ⟨mb, 1, none⟩ = some vs := ⟨by simp [World.cell?, h.blk], by simp [World.cell?, h.blk]⟩
/-- What is said behind Pairs. -/
def PairsPost (w : World) (base : Int) (m : List RSt) (e : Ending) (w' : World) : Prop := ∃ vl ok l, e = .returned (.tuple #[vl, .bool ok]) ∧ PairsSays w w' base m vl ok l
theorem pairs_post {w w' : World} {base : Int} {m : List RSt} {e : Ending} {vl : Value} {ok : Bool} (l : List Pr) (h : e = .returned (.tuple #[vl, .bool ok])) (hs : PairsSays w w' base m vl ok l) : PairsPost w base m e w' := ⟨vl, ok, l, h, hs⟩
set_option maxHeartbeats 8000000 in
theorem refPairs_any (E : Nat) (w : World) (base : Int) (m : List RSt) (vs : Value) (h : StsAt E w vs m) (hE : E ≤ w.heap.size) :
    Calls Tryd.prog 22 #[.agg #[.int .i64 base, vs]] w (PairsPost w base m) := by
  obtain ⟨ad, cap, rfl⟩ := h.shape
  obtain ⟨n, hn⟩ : ∃ n, m.length = n := ⟨_, rfl⟩
  have HN : Hid (m.length = n) := hn
  have hl63 := h.len
  rw [hn] at h hl63 ⊢
  have HR : Hid (StsAt E w (.slice ad n cap) m) := h
  obtain ⟨W0, hW0⟩ : ∃ W0, W0 = w.alloc (.cells #[.int .i64 base, .slice ad n cap] 24) := ⟨_, rfl⟩
  obtain ⟨mb, hmb⟩ : ∃ mb, mb = w.heap.size := ⟨_, rfl⟩
  have HB0 : Hid (Below w.heap.size w W0) := by show Below _ _ _; rw [hW0]; exact (Below.refl _ w).alloc (Nat.le_refl _) _
  have HPB : Hid (PB w W0 mb base (.slice ad n cap)) := ⟨HB0.out, by rw [hW0, hmb]; exact alloc_newP _ _⟩
  obtain ⟨z0, z1⟩ := HPB.out.facts
  clear h hn
  go_enter Tryd.func22, Tryd.ntmps22
  go_upto_region 1 with fail
  rw [← hW0, ← hmb]
  clear hW0 hmb
  by_cases hn0 : n = 0
  · subst hn0
    have HM0 : Hid (m = []) := List.length_eq_zero_iff.1 HN.out
    go_wp2
    go_ret2
    refine pairs_post [] rfl ⟨HB0.out, fun _ => ⟨PRow.nil _, fun x hx => by cases hx⟩, fun hr => ?_⟩
    rw [HM0.out] at hr ⊢
    unfold rightB at hr
    rw [if_pos rfl] at hr
    have hb := of_decide_eq_true hr
    exact ⟨rfl, rfl, by rw [hb]; simp [machOf], rfl⟩
  have hnb : ((n : Int) == 0) = false := beq_eq_false_iff_ne.2 (by omega)
  have HNE : Hid (m ≠ []) := fun e => hn0 (by rw [← HN.out, e]; rfl)
  by_cases h1 : 98305 < n
  · have h1z : (98305 : Int) < (n : Int) := by omega
    have HNO : Hid (rightB base m = false) := by
      apply Bool.eq_false_iff.2
      intro hr
      have := (right_formed hr HNE.out).1
      have := HN.out
      omega
    go_wp2
    go_ret2
    exact pairs_post [] rfl ⟨HB0.out, (fun h => by cases h), fun h => absurd h (by rw [HNO.out]; simp)⟩
  have h1z : ¬ (98305 : Int) < (n : Int) := by omega
  by_cases h2 : base < 1
  · have HNO : Hid (rightB base m = false) := by
      apply Bool.eq_false_iff.2
      intro hr
      have := (right_formed hr HNE.out).2.1
      omega
    go_wp2
    go_ret2
    exact pairs_post [] rfl ⟨HB0.out, (fun h => by cases h), fun h => absurd h (by rw [HNO.out]; simp)⟩
  by_cases h3 : 1048576 < base
  · have HNO : Hid (rightB base m = false) := by
      apply Bool.eq_false_iff.2
      intro hr
      have := (right_formed hr HNE.out).2.1
      omega
    go_wp2
    go_ret2
    exact pairs_post [] rfl ⟨HB0.out, (fun h => by cases h), fun h => absurd h (by rw [HNO.out]; simp)⟩
  go_upto_region 5 with fail
  clear z0 z1
  go_wp2
  go_loopg [4] n (fun gm s4 wr => ∃ (k : Nat), s4 = .int .i64 k ∧ k ≤ n ∧ n - k ≤ gm ∧ Hid (∀ (i : Nat) (s : RSt), i < k → m[i]? = some s → rfS s i = true) ∧ Hid (PB w wr mb base (.slice ad n cap)))
  case atStart => exact ⟨0, rfl, Nat.zero_le _, by omega, (fun i s hi => by omega), HPB⟩
  case round =>
    obtain ⟨k, rfl, hk, hgm, HFK, HPK⟩ := hrel
    obtain ⟨z0, z1⟩ := HPK.out.facts
    by_cases hlt : k < n
    · have hltz : (k : Int) < (n : Int) := by omega
      obtain ⟨s, hs⟩ : ∃ s, m[k]? = some s := ⟨m[k]'(by have := HN.out; omega), List.getElem?_eq_getElem _⟩
      obtain ⟨g, off, va, rfl, hg, c0, c1, c2, hA⟩ := (HR.out.below (HPK.out.bel.mono hE)).at hs
      have HS : Hid (m[k]? = some s) := hs
      obtain ⟨va0, vac, rfl⟩ := hA.shape
      obtain ⟨na, hna⟩ : ∃ na, s.arcs.length = na := ⟨_, rfl⟩
      rw [hna] at hA c2
      have HCALL : Hid (Calls Tryd.prog 42 #[.agg #[.bool s.final, .int .i64 s.out, .slice va0 na vac], .int .i64 k] wr fun e w' => e = .returned (.bool (rfS s k)) ∧ Below wr.heap.size wr w') := refFormed_any E wr s _ k hA (Nat.le_trans hE HPK.out.bel.size)
      obtain ⟨F, hF⟩ : ∃ F, rfS s k = F := ⟨_, rfl⟩
      rw [hF] at HCALL
      have HF : Hid (rfS s k = F) := hF
      clear hs hA hna hF
      cases F with
      | true =>
        go_wp2_with (go_at_call 42; refine HCALL.out.mono ?_; rintro e w2 ⟨rfl, hb2⟩; have HP2 : Hid (PB w w2 mb base (.slice (some ⟨g, off, none⟩) n cap)) := HPK.out.below hb2; clear hb2)
        go_roundg (n - (k + 1))
        case measure => omega
        case rel => exact ⟨k + 1, by go_num, by omega, Nat.le_refl _, (fun i t hi ht => (by
          by_cases hik : i = k
          · subst hik
            rw [HS.out, Option.some.injEq] at ht
            rw [← ht]
            exact HF.out
          · exact HFK.out i t (by omega) ht)), HP2⟩
      | false =>
        go_wp2_with (go_at_call 42; refine HCALL.out.mono ?_; rintro e w2 ⟨rfl, hb2⟩; have HP2 : Hid (PB w w2 mb base (.slice (some ⟨g, off, none⟩) n cap)) := HPK.out.below hb2; clear hb2)
        go_ret2
        refine pairs_post [] rfl ⟨HP2.out.bel, (fun h => by cases h), fun hr => ?_⟩
        have := (right_formed hr HNE.out).2.2 k s HS.out
        rw [HF.out] at this
        cases this
    · have hltz : ¬ (k : Int) < (n : Int) := by omega
      have HRF : Hid (rfM m) := fun i s hi => HFK.out i s (by have := (List.getElem?_eq_some_iff.1 hi).1; have := HN.out; omega) hi
      have HFD : Hid (∀ (i : Nat) (s : RSt), m[i]? = some s → (0 ≤ s.out ∧ s.out ≤ 1048576) ∧ ∀ a ∈ s.arcs, 0 ≤ a.to ∧ a.to < i ∧ 0 ≤ a.out ∧ a.out ≤ 1048576) := fun i s hi => rfS_facts (HRF.out i s hi)
      obtain ⟨n1, hn1⟩ : ∃ n1, n = n1 + 1 := ⟨n - 1, by omega⟩
      have hsub : (n : Int) - 1 = (n1 : Int) := by omega
      have hwsub : IntKind.i64.wrap ((n : Int) - 1) = (n1 : Int) := by rw [IntKind.wrap_i64]; omega
      have HWC : Hid (Calls Tryd.prog 43 #[.agg #[.int .i64 base, .slice ad n cap], .int .i64 (n1 : Int), .slice none 0 0, .int .i64 base, .slice none 0 0] wr fun e w' => ∃ v', e = .returned v' ∧ RstsAt wr.heap.size w' v' (wdF m n n1 [] base []) ∧ WF wr.heap.size wr w') := words_any E wr.heap.size (Nat.le_trans hE HPK.out.bel.size) base m HFD.out n n1 wr [] base [] _ _ _ (by omega) (by have := HN.out; omega) (HR.out.below (HPK.out.bel.mono hE)) (Nat.le_refl _) (World.ownsRow_nil _ _ _ _) (by simp) ⟨[], GOwn.nil _ _ _ _, rfl, fun i e hi => by simp at hi⟩ (by omega) (by simp; omega)
      obtain ⟨es, hes⟩ : ∃ es, wdF m n n1 [] base [] = es := ⟨_, rfl⟩
      have HES : Hid (wdF m n n1 [] base [] = es ∧ n = n1 + 1) := ⟨hes, hn1⟩
      have HFO : Hid (FoundOk 28311552 es) := by
        show FoundOk _ _
        rw [← hes]
        exact wd_ok (fun s hs => (by
          obtain ⟨i, hi⟩ := List.mem_iff_getElem?.1 hs
          obtain ⟨f1, f2⟩ := HFD.out i s hi
          exact ⟨f1, fun a ha => (f2 a ha).2.2⟩)) 28311552 n n1 [] base [] (by simp) (by omega) (by simp; omega) ⟨by simp, fun e he => by cases he⟩
      have HFI : Hid (∀ e ∈ es, ∀ c ∈ e.1, -2147483648 ≤ c ∧ c < 2147483648) := by
        show ∀ e ∈ es, _
        rw [← hes]
        refine wd_runes (P := fun c => -2147483648 ≤ c ∧ c < 2147483648) (fun s hs a ha => ?_) n n1 [] base [] (fun c hc => by cases hc) (fun e he => by cases he)
        obtain ⟨i, hi⟩ := List.mem_iff_getElem?.1 hs
        obtain ⟨xss, _, _, hx⟩ := HR.out.ex
        obtain ⟨va, _, hA⟩ := hx i s hi
        have := (hA.ok a ha).1
        unfold Fits32 at this
        omega
      have HYES : Hid (rightB base m = true → buildE (prsOf es) = 0 ∧ machOf (prsOf es) = (base, m.map toSt) ∧ (m.map toSt).map ofSt = m ∧ ∀ e ∈ es, allR e.1 = true) := fun hr => by
        have := pairs_right hr HNE.out
        rw [show m.length = n from HN.out, show n - 1 = n1 by omega, hes] at this
        exact this
      rw [hes] at HWC
      clear hes hn1 hlt
      go_upto_region 12 with (go_at_call 43; refine HWC.out.mono ?_; rintro e w6 ⟨v6, rfl, hr6, hf6⟩; have HR6 : Hid (RstsAt wr.heap.size w6 v6 es) := hr6; have HB6 : Hid (Below wr.heap.size wr w6) := hf6.below; clear hr6 hf6)
      have HW6 : Hid (Below w.heap.size w w6) := HPK.out.bel.trans (HB6.out.mono HPK.out.bel.size)
      obtain ⟨fa, fc, hv6⟩ := HR6.out.shape
      obtain ⟨ne, hne⟩ : ∃ ne, es.length = ne := ⟨_, rfl⟩
      rw [hne] at hv6
      subst hv6
      have HNEL : Hid (es.length = ne) := hne
      have hne97 : ne ≤ 4097 := by have := HFO.out.1; omega
      clear hne z0 z1
      go_wp2
      go_loopg [5, 7, 8, 9] ne (fun gm s5 s7 _ _ wq => ∃ (j : Nat), s7 = .int .i64 j ∧ j ≤ ne ∧ ne - j ≤ gm ∧ Hid (Below w6.heap.size w6 wq) ∧ Hid (GOwn 40 2 w6.heap.size wq s5 ((prsOf (es.take j)).map cellsPr)))
      case atStart => exact ⟨0, rfl, Nat.zero_le _, by omega, Below.refl _ _, (by show GOwn _ _ _ _ _ _; exact GOwn.nil _ _ _ _)⟩
      case round =>
        obtain ⟨j, rfl, hj, hgj, HBq, HPq⟩ := hrel
        obtain ⟨pa, pc, hu5, _⟩ := HPq.out.shape
        obtain ⟨pn, hpn⟩ : ∃ pn, ((prsOf (es.take j)).map cellsPr).length = pn := ⟨_, rfl⟩
        rw [hpn] at hu5
        subst hu5
        have HPN : Hid (pn = j) := by show _ = _; rw [← hpn]; simp [prsOf, HNEL.out]; omega
        clear hpn
        by_cases hltj : j < ne
        · have hltjz : (j : Int) < (ne : Int) := by omega
          obtain ⟨e, he⟩ : ∃ e, es[j]? = some e := ⟨es[j]'(by have := HNEL.out; omega), List.getElem?_eq_getElem _⟩
          obtain ⟨xss, ho, hxl, hxe⟩ := (HR6.out.below HBq.out).ex
          obtain ⟨u, hu, hmu⟩ := hxe j e he
          obtain ⟨gf, cf, ef, hgf, _, _, hcell⟩ := ho.cell (by have := HNEL.out; omega)
          simp only [Value.slice.injEq] at ef
          obtain ⟨rfl, hnx, rfl⟩ := ef
          have c0 := hcell j 0 _ u hu rfl
          have c1 := hcell j 1 _ _ hu rfl
          rw [Nat.add_zero] at c0
          obtain ⟨ua, uc, rfl⟩ := hmu.shape
          obtain ⟨un, hun⟩ : ∃ un, e.1.length = un := ⟨_, rfl⟩
          rw [hun] at hmu c0
          have hem := List.mem_of_getElem? he
          have h25 := (HFO.out.2 e hem).1
          have HT : Hid (Calls Tryd.prog 44 #[.slice ua un uc] wr fun x w' => x = .returned (.tuple #[.string (textS e.1), .bool (allR e.1)]) ∧ Below wr.heap.size wr w') := RefText_any _ e.1 wr hmu.row (by omega) (HFI.out e hem)
          have HEJ : Hid (es[j]? = some e) := he
          have HC1 : Hid (wr.cell? ⟨gf, j * 2 + 1, none⟩ = some (.int .i64 e.2)) := c1
          obtain ⟨A, hA⟩ : ∃ A, allR e.1 = A := ⟨_, rfl⟩
          rw [hA] at HT
          have HA : Hid (allR e.1 = A) := hA
          have HBw : Hid (Below w.heap.size w wr) := HW6.out.trans (HBq.out.mono HW6.out.size)
          clear ho hxl hxe hu hmu hcell hun he hem h25 hA c1 hnx
          cases A with
          | false =>
            go_wp2_with (go_at_call 44; refine HT.out.mono ?_; rintro e' w8 ⟨rfl, hb8⟩; have HB8 : Hid (Below wr.heap.size wr w8) := hb8; clear hb8)
            go_ret2
            refine pairs_post [] rfl ⟨HBw.out.trans (HB8.out.mono HBw.out.size), (fun h => by cases h), fun hr => ?_⟩
            have := (HYES.out hr).2.2.2 e (List.mem_of_getElem? HEJ.out)
            rw [HA.out] at this
            cases this
          | true =>
            go_upto_region 18 with (go_at_call 44; refine HT.out.mono ?_; rintro e' w8 ⟨rfl, hb8⟩; have HB8 : Hid (Below wr.heap.size wr w8) := hb8; clear hb8)
            have c18 : w8.cell? ⟨gf, j * 2 + 1, none⟩ = some (.int .i64 e.2) := (HB8.out.cell (p := ⟨gf, j * 2 + 1, none⟩) (lt_of_cell HC1.out)).trans HC1.out
            have HO8 : Hid (GOwn 40 2 w6.heap.size w8 (.slice pa pn pc) ((prsOf (es.take j)).map cellsPr)) := HPq.out.below HB8.out
            have HXL : Hid (((prsOf (es.take j)).map cellsPr).length < 1099511627776) := by show _ < _; rw [List.length_map]; unfold prsOf; rw [List.length_map, List.length_take]; omega
            have HB68 : Hid (Below w6.heap.size w6 w8) := HBq.out.trans (HB8.out.mono HBq.out.size)
            clear c0
            go_wp2_with (at_builtin; refine append_g rtyP (by rfl) _ _ [.string (textS e.1), .int .i64 e.2] _ rfl w6.heap.size _ _ _ _ rfl HO8.out rfl rfl ⟨rfl, by simp [Value.oneCell']⟩ HXL.out HB68.out.size ?_)
            intro v9 w9 ho9 hb9 hg9
            have HO9 : Hid (GOwn 40 2 w6.heap.size w9 v9 ((prsOf (es.take (j + 1))).map cellsPr)) := by
              show GOwn _ _ _ _ _ _
              have hj' : j < es.length := (List.getElem?_eq_some_iff.1 HEJ.out).1
              have he' : es[j] = e := (List.getElem?_eq_some_iff.1 HEJ.out).2
              rw [List.take_succ_eq_append_getElem hj', he']
              unfold prsOf at ho9 ⊢
              rw [List.map_append, List.map_append]
              exact ho9
            have HB9 : Hid (Below w6.heap.size w6 w9) := HB68.out.trans hb9
            clear ho9 hb9 hg9
            go_wp2
            go_roundg (ne - (j + 1))
            case measure => omega
            case rel => exact ⟨j + 1, by go_num, by omega, Nat.le_refl _, HB9, HO9⟩
        · have hltjz : ¬ (j : Int) < (ne : Int) := by omega
          have HALL : Hid (GOwn 40 2 w6.heap.size wr (.slice pa pn pc) ((prsOf es).map cellsPr)) := by
            have := HPq.out
            rw [List.take_of_length_le (by have := HNEL.out; omega)] at this
            exact this
          go_wp2
          go_ret2
          exact pairs_post (prsOf es) rfl ⟨HW6.out.trans (HBq.out.mono HW6.out.size), fun _ => ⟨prow_of HALL.out, prs_sm fun e he => (HFO.out.2 e he).1⟩, fun hr => ⟨rfl, (HYES.out hr).1, (HYES.out hr).2.1, (HYES.out hr).2.2.1⟩⟩
end Go.Proofs.YtdidcombjmbkdaaDoor
