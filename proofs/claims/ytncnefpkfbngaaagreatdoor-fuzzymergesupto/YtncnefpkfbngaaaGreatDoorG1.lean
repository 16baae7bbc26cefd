/- Texts that were written apart, joined. -/
import Derived.Test.YtncnefpkfbngaaaGreatDoorG0
import Derived.Test.YtncnefpkfbngaaaGreatDoorDrawn8
import Derived.Sort.Grow
import Derived.Sort.Statements
import Derived.Shelf.SlSortCmp.Insertion
import Derived.Shelf.Lay
import Derived.Shelf.SlicesE.Clone
import Derived.Shelf.SlSortCmp.WholeK
import Derived.Ground.SlgnProg
import Derived.Ground.SlsfProg
/- cmp.Compare, cmp.Or, the comparing of arcs and states. -/
namespace Go.Proofs.YtncnefpkfbngaaaGreatDoor
open Go.RowKit Nums Fm Pk
set_option maxRecDepth 100000

/-- Blocks were laid, and the order drawn: nothing else. -/
structure Gr (w w' : World) : Prop where
 bel : Below w.heap.size w w'
 dr : w.drawn ≤ w'.drawn
theorem Gr.refl (w : World) : Gr w w := ⟨Below.refl _ _, Nat.le_refl _⟩
theorem Gr.trans {w w1 w2 : World} (h1 : Gr w w1) (h2 : Gr w1 w2) : Gr w w2 := ⟨h1.bel.trans (h2.bel.mono h1.bel.size), Nat.le_trans h1.dr h2.dr⟩
theorem Gr.alloc {w w1 : World} (h : Gr w w1) (o : Obj) : Gr w (w1.alloc o) := ⟨h.bel.alloc h.bel.size o, h.dr⟩
theorem Gr.drew {w w1 : World} (h : Gr w w1) : Gr w w1.drew := ⟨h.bel.drew, Nat.le_trans h.dr (Nat.le_succ _)⟩
theorem Gr.grown {w w' : World} (h : Gr w w') : ∃ q os, w' = Go.Sort.grow (w.drewN q) os := by
 refine ⟨w'.drawn - w.drawn, w'.heap.extract w.heap.size w'.heap.size, ?_⟩
 have hh : w'.heap = w.heap ++ w'.heap.extract w.heap.size w'.heap.size := by
  have hs := h.bel.size
  refine Array.ext ?_ fun i h1 h2 => ?_
  · simp; omega
  · by_cases hi : i < w.heap.size
    · rw [Array.getElem_append_left hi]
      have e := h.bel.block i hi
      rw [Array.getElem?_eq_getElem h1, Array.getElem?_eq_getElem hi] at e
      exact Option.some.inj e
    · rw [Array.getElem_append_right (by omega), Array.getElem_extract]
      congr 1
      omega
 have hd : w'.drawn = w.drawn + (w'.drawn - w.drawn) := by have := h.dr; omega
 cases w' with
 | mk heap tape drawn os output =>
  have e1 := h.bel.os
  have e2 := h.bel.tape
  have e3 := h.bel.output
  simp only at e1 e2 e3 hh hd
  simp only [Go.Sort.grow, World.drewN, World.mk.injEq]
  exact ⟨hh, e2, hd, e1, e3⟩
theorem cmpU_any (x y : Int) (w : World) : Calls Tryz.prog 108 #[.int .u64 x, .int .u64 y] w fun e w' => e = .returned (.int .i64 (cmpI x y)) ∧ w' = w := by
 unfold cmpI
 go_enter Tryz.func108, Tryz.ntmps108
 by_cases h1 : x < y
 · rw [if_pos h1]
   go_wp2
   go_ret
   exact ⟨rfl, rfl⟩
 · rw [if_neg h1]
   by_cases h2 : y < x
   · rw [if_pos h2]
     go_wp2
     go_ret
     exact ⟨rfl, rfl⟩
   · rw [if_neg h2]
     go_wp2
     go_ret
     exact ⟨rfl, rfl⟩
theorem cmpN_any (x y : Int) (w : World) : Calls Tryz.prog 110 #[.int .i64 x, .int .i64 y] w fun e w' => e = .returned (.int .i64 (cmpI x y)) ∧ w' = w := by
 unfold cmpI
 go_enter Tryz.func110, Tryz.ntmps110
 by_cases h1 : x < y
 · rw [if_pos h1]
   go_wp2
   go_ret
   exact ⟨rfl, rfl⟩
 · rw [if_neg h1]
   by_cases h2 : y < x
   · rw [if_pos h2]
     go_wp2
     go_ret
     exact ⟨rfl, rfl⟩
   · rw [if_neg h2]
     go_wp2
     go_ret
     exact ⟨rfl, rfl⟩
theorem cmpR_any (x y : Int) (w : World) : Calls Tryz.prog 128 #[.int .i32 x, .int .i32 y] w fun e w' => e = .returned (.int .i64 (cmpI x y)) ∧ w' = w := by
 unfold cmpI
 go_enter Tryz.func128, Tryz.ntmps128
 by_cases h1 : x < y
 · rw [if_pos h1]
   go_wp2
   go_ret
   exact ⟨rfl, rfl⟩
 · rw [if_neg h1]
   by_cases h2 : y < x
   · rw [if_pos h2]
     go_wp2
     go_ret
     exact ⟨rfl, rfl⟩
   · rw [if_neg h2]
     go_wp2
     go_ret
     exact ⟨rfl, rfl⟩
namespace Pk
theorem orI_at {l : List Int} {k : Nat} {c : Int} (h : l[k]? = some c) : orI (l.drop k) = if c ≠ 0 then c else orI (l.drop (k + 1)) := by
 obtain ⟨hk, rfl⟩ := List.getElem?_eq_some_iff.1 h
 rw [List.drop_eq_getElem_cons hk, orI]
end Pk
set_option maxHeartbeats 1000000 in
theorem or_any (g n c : Nat) (l : List Int) (w : World) (hn : l.length = n) (hl : n ≤ 4096) (hc : ∀ (i : Nat) (x : Int), l[i]? = some x → w.cell? ⟨g, i, none⟩ = some (.int .i64 x)) :
 Calls Tryz.prog 107 #[.slice (some ⟨g, 0, none⟩) n c] w fun e w' => e = .returned (.int .i64 (orI l)) ∧ w' = w := by
 have HC : Hid (∀ (i : Nat) (x : Int), l[i]? = some x → w.cell? ⟨g, i, none⟩ = some (.int .i64 x)) := hc
 have HN : Hid (l.length = n) := hn
 clear hc hn
 go_enter Tryz.func107, Tryz.ntmps107
 go_wp2
 go_loopg [5, 8] n (fun gm _ s8 wr => ∃ (k : Nat), s8 = .int .i64 k ∧ k ≤ n ∧ n - k ≤ gm ∧ Hid (orI l = orI (l.drop k)) ∧ wr = w)
 case atStart => exact ⟨0, rfl, Nat.zero_le _, by omega, rfl, rfl⟩
 case round =>
  obtain ⟨k, rfl, hk, hgm, HO, rfl⟩ := hrel
  by_cases hlt : k < n
  · have hltz : (k : Int) < (n : Int) := by omega
    obtain ⟨x, hx⟩ : ∃ x, l[k]? = some x := ⟨l[k]'(by have := HN.out; omega), List.getElem?_eq_getElem _⟩
    have hcx := HC.out k x hx
    have HOA : Hid (orI l = if x ≠ 0 then x else orI (l.drop (k + 1))) := HO.out.trans (orI_at hx)
    clear hx
    by_cases h0 : x = 0
    · subst h0
      have HF : Hid (orI l = orI (l.drop (k + 1))) := HOA.out
      go_wp2
      go_roundg (n - (k + 1))
      case measure => omega
      case rel => exact ⟨k + 1, by go_num, by omega, Nat.le_refl _, HF, rfl⟩
    · have HF : Hid (orI l = x) := by show _ = _; rw [HOA.out, if_pos h0]
      have h1b : (x == 0) = false := beq_eq_false_iff_ne.2 h0
      have h1n : (x != 0) = true := by simp [bne, h1b]
      go_wp2
      go_ret
      exact ⟨by rw [HF.out]; rfl, rfl⟩
  · have hltz : ¬ (k : Int) < (n : Int) := by omega
    have HF : Hid (orI l = 0) := by show _ = _; rw [HO.out, List.drop_of_length_le (by have := HN.out; omega)]; rfl
    go_wp2
    go_ret
    exact ⟨by rw [HF.out]; rfl, rfl⟩
/-- Two arcs in boxes. -/
structure SA (ab bb : Nat) (x y : RArc) (w : World) : Prop where
 a : w.heap[ab]? = some (.cells #[.int .i32 x.label, .int .i64 x.out, .int .i64 x.to] 110)
 b : w.heap[bb]? = some (.cells #[.int .i32 y.label, .int .i64 y.out, .int .i64 y.to] 110)
theorem SA.facts {ab bb : Nat} {x y : RArc} {w : World} (h : SA ab bb x y w) : w.cell? ⟨ab, 0, none⟩ = some (.int .i32 x.label) ∧ w.cell? ⟨ab, 1, none⟩ = some (.int .i64 x.out) ∧ w.cell? ⟨ab, 2, none⟩ = some (.int .i64 x.to) ∧ w.cell? ⟨bb, 0, none⟩ = some (.int .i32 y.label) ∧ w.cell? ⟨bb, 1, none⟩ = some (.int .i64 y.out) ∧ w.cell? ⟨bb, 2, none⟩ = some (.int .i64 y.to) :=
 ⟨by simp [World.cell?, h.a], by simp [World.cell?, h.a], by simp [World.cell?, h.a], by simp [World.cell?, h.b], by simp [World.cell?, h.b], by simp [World.cell?, h.b]⟩
theorem SA.below {ab bb : Nat} {x y : RArc} {w w' : World} (h : SA ab bb x y w) (hb : Below w.heap.size w w') : SA ab bb x y w' := ⟨(hb.block ab (Array.getElem?_eq_some_iff.1 h.a).1).trans h.a, (hb.block bb (Array.getElem?_eq_some_iff.1 h.b).1).trans h.b⟩
set_option maxHeartbeats 1000000 in
theorem compareArcs_any (x y : RArc) (w : World) : Calls Tryz.prog 112 #[.agg #[.int .i32 x.label, .int .i64 x.out, .int .i64 x.to], .agg #[.int .i32 y.label, .int .i64 y.out, .int .i64 y.to]] w fun e w' => e = .returned (.int .i64 (cmpA x y)) ∧ Gr w w' := by
 obtain ⟨ab, hab⟩ : ∃ ab, ab = w.heap.size := ⟨_, rfl⟩
 obtain ⟨bb, hbb⟩ : ∃ bb, bb = w.heap.size + 1 := ⟨_, rfl⟩
 obtain ⟨W, hW⟩ : ∃ W, W = (w.alloc (.cells #[.int .i32 x.label, .int .i64 x.out, .int .i64 x.to] 110)).alloc (.cells #[.int .i32 y.label, .int .i64 y.out, .int .i64 y.to] 110) := ⟨_, rfl⟩
 have HG : Hid (Gr w W) := by show Gr w W; rw [hW]; exact ((Gr.refl w).alloc _).alloc _
 have hS : SA ab bb x y W := by
  constructor
  · rw [hW, (MapKept.heap_alloc _ _).2 ab (by rw [hab]; simp), hab]
    exact alloc_newP _ _
  · have e : (w.alloc (.cells #[.int .i32 x.label, .int .i64 x.out, .int .i64 x.to] 110)).heap.size = bb := by rw [hbb]; simp
    rw [hW, ← e]
    exact alloc_newP _ _
 have hS0 : SA ab bb x y W.drew := hS.below (Below.refl _ W).drew
 have HA : Hid (cmpA x y = orI [cmpI x.label y.label, cmpI x.out y.out, cmpI x.to y.to]) := rfl
 have h1 := cmpR_any x.label y.label W.drew
 have h2 := cmpN_any x.out y.out W.drew
 have h3 := cmpN_any x.to y.to W.drew
 obtain ⟨W4, hW4⟩ : ∃ W4, W4 = W.drew.alloc (.cells #[.int .i64 (cmpI x.label y.label), .int .i64 (cmpI x.out y.out), .int .i64 (cmpI x.to y.to)] 3) := ⟨_, rfl⟩
 have HG4 : Hid (Gr w W4) := by show Gr w W4; rw [hW4]; exact (HG.out.drew).alloc _
 have hn4 : W4.heap[W.heap.size]? = some (.cells #[.int .i64 (cmpI x.label y.label), .int .i64 (cmpI x.out y.out), .int .i64 (cmpI x.to y.to)] 3) := by rw [hW4]; exact alloc_newP W.drew _
 have hS4 : SA ab bb x y W4 := by rw [hW4]; exact hS0.below ((Below.refl _ _).alloc (Nat.le_refl _) _)
 have h4 := or_any W.heap.size 3 3 [cmpI x.label y.label, cmpI x.out y.out, cmpI x.to y.to] W4 rfl (by decide) (fun i z hi => by
  match i, hi with
  | 0, hi => simp at hi; subst hi; simp [World.cell?, hn4]
  | 1, hi => simp at hi; subst hi; simp [World.cell?, hn4]
  | 2, hi => simp at hi; subst hi; simp [World.cell?, hn4]
  | k + 3, hi => simp at hi)
 rw [← HA.out] at h4
 generalize cmpA x y = CA at *
 generalize cmpI x.label y.label = c1 at *
 generalize cmpI x.out y.out = c2 at *
 generalize cmpI x.to y.to = c3 at *
 go_enter Tryz.func112, Tryz.ntmps112
 go_upto_region 1 with fail
 rw [← hbb, ← hab, ← hW]
 clear hbb hab hW hS hn4
 refine region_at (S := SA ab bb x y) 18 rfl mixedP hS0 (fun _ => ?_)
 refine tk (i := 0) 5 rfl rfl (by kernel_rfl) (fun _ s => by (have h := SA.facts s; clear s; go_simp; first | done | exact rfl)) ?_
 simp only [sZa, sZb, sZc]
 refine tk (i := 1) 6 rfl rfl (by kernel_rfl) (fun _ s => by (have h := SA.facts s; clear s; go_simp; first | done | exact rfl)) ?_
 simp only [sZa, sZb, sZc]
 refine tk (i := 2) 7 rfl rfl (by kernel_rfl) (fun _ s => by (have h := SA.facts s; clear s; go_simp; first | done | exact rfl)) ?_
 simp only [sZa, sZb, sZc]
 refine tk (i := 3) 8 rfl rfl (by kernel_rfl) (fun _ s => by (have h := SA.facts s; clear s; go_simp; first | done | exact rfl)) ?_
 simp only [sZa, sZb, sZc]
 refine tk (i := 5) 10 rfl rfl (by kernel_rfl) (fun _ s => by (have h := SA.facts s; clear s; go_simp; first | done | exact rfl)) ?_
 simp only [sZa, sZb, sZc]
 refine tk (i := 6) 11 rfl rfl (by kernel_rfl) (fun _ s => by (have h := SA.facts s; clear s; go_simp; first | done | exact rfl)) ?_
 simp only [sZa, sZb, sZc]
 refine tk (i := 7) 12 rfl rfl (by kernel_rfl) (fun _ s => by (have h := SA.facts s; clear s; go_simp; first | done | exact rfl)) ?_
 simp only [sZa, sZb, sZc]
 refine tk (i := 8) 13 rfl rfl (by kernel_rfl) (fun _ s => by (have h := SA.facts s; clear s; go_simp; first | done | exact rfl)) ?_
 simp only [sZa, sZb, sZc]
 refine tk (i := 10) 15 rfl rfl (by kernel_rfl) (fun _ s => by (have h := SA.facts s; clear s; go_simp; first | done | exact rfl)) ?_
 simp only [sZa, sZb, sZc]
 refine tk (i := 11) 16 rfl rfl (by kernel_rfl) (fun _ s => by (have h := SA.facts s; clear s; go_simp; first | done | exact rfl)) ?_
 simp only [sZa, sZb, sZc]
 refine tk (i := 12) 17 rfl rfl (by kernel_rfl) (fun _ s => by (have h := SA.facts s; clear s; go_simp; first | done | exact rfl)) ?_
 simp only [sZa, sZb, sZc]
 refine tk (i := 13) 18 rfl rfl (by kernel_rfl) (fun _ s => by (have h := SA.facts s; clear s; go_simp; first | done | exact rfl)) ?_
 simp only [sZa, sZb, sZc]
 refine one_call (i := 4) (w0 := W.drew) 9 128 #[.int .i32 x.label, .int .i32 y.label] (by kernel_rfl) rfl rfl (by rfl) (by kernel_rfl) ?_
 refine h1.mono ?_
 rintro e w1 ⟨rfl, rfl⟩
 refine ⟨_, rfl, hS0, fun _ => ?_⟩
 simp only [sZa, sZb, sZc]
 refine one_call (i := 9) (w0 := W.drew) 14 110 #[.int .i64 x.out, .int .i64 y.out] (by kernel_rfl) rfl rfl (by rfl) (by kernel_rfl) ?_
 refine h2.mono ?_
 rintro e w1 ⟨rfl, rfl⟩
 refine ⟨_, rfl, hS0, fun _ => ?_⟩
 simp only [sZa, sZb, sZc]
 refine one_call (i := 14) (w0 := W.drew) 19 110 #[.int .i64 x.to, .int .i64 y.to] (by kernel_rfl) rfl rfl (by rfl) (by kernel_rfl) ?_
 refine h3.mono ?_
 rintro e w1 ⟨rfl, rfl⟩
 refine ⟨_, rfl, hS0, fun _ => ?_⟩
 simp only [sZa, sZb, sZc]
 refine one_value (i := 15) (v := .slice (some ⟨W.heap.size, 0, none⟩) 3 3) (w' := W4) 20 (by kernel_rfl) rfl rfl (by rfl) (by rw [hW4]; go_simp; first | done | exact rfl) hS4 (fun _ => ?_)
 simp only [sZa, sZb, sZc]
 refine one_call (i := 16) (w0 := W4) 21 107 #[.slice (some ⟨W.heap.size, 0, none⟩) 3 3] (by kernel_rfl) rfl rfl (by rfl) (by kernel_rfl) ?_
 refine h4.mono ?_
 rintro e w1 ⟨rfl, hw1⟩
 rw [hw1]
 refine ⟨_, rfl, hS4, fun _ => ?_⟩
 simp only [sZa, sZb, sZc]
 refine one_value (i := 17) (v := .int .i64 CA) (w' := W4) 4 (by kernel_rfl) rfl rfl (by rfl) (by go_simp; first | done | exact rfl) hS4 (fun _ => ?_)
 simp only [sZa, sZb, sZc]
 refine wpAnyH_done (by kernel_rfl) ?_ _
 go_wp2
 go_ret
 exact ⟨rfl, HG4.out⟩
/-- The number that says how many arcs a state has. -/
theorem head_any (s : RSt) (ad : Option Addr) (cap : Nat) (w : World) (hl : s.arcs.length ≤ 1114112) : Calls Tryz.prog 109 #[.agg #[.bool s.final, .int .i64 s.out, .slice ad s.arcs.length cap]] w fun e w' => e = .returned (.int .u64 (headS s)) ∧ Gr w w' := by
 obtain ⟨n, hn⟩ : ∃ n, s.arcs.length = n := ⟨_, rfl⟩
 have HH : Hid (headS s = 2 * (n : Int) + (if s.final then 1 else 0)) := by show _ = _; rw [← hn]; rfl
 rw [hn] at hl ⊢
 clear hn
 have HG : Hid (∀ o, Gr w (w.alloc o)) := fun o => (Gr.refl w).alloc o
 have w1 : IntKind.u64.wrap (n : Int) = (n : Int) := by simp [IntKind.wrap, IntKind.bits, IntKind.signed]; omega
 have w2 : IntKind.u64.wrap (2 * (n : Int)) = 2 * (n : Int) := by simp [IntKind.wrap, IntKind.bits, IntKind.signed]; omega
 have w3 : IntKind.u64.wrap (2 * (n : Int) + 1) = 2 * (n : Int) + 1 := by simp [IntKind.wrap, IntKind.bits, IntKind.signed]; omega
 generalize s.out = so at *
 cases hf : s.final with
 | true =>
  rw [hf, if_pos rfl] at HH
  go_enter Tryz.func109, Tryz.ntmps109
  go_wp2
  go_ret
  refine ⟨?_, HG.out _⟩
  rw [HH.out]
  simp
 | false =>
  rw [hf, if_neg (by decide)] at HH
  go_enter Tryz.func109, Tryz.ntmps109
  go_wp2
  go_ret
  refine ⟨?_, HG.out _⟩
  rw [HH.out]
  simp
namespace Pk
theorem cmpL_at {xs ys : List RArc} {k : Nat} {x y : RArc} (hx : xs[k]? = some x) (hy : ys[k]? = some y) : cmpL (xs.drop k) (ys.drop k) = if cmpA x y ≠ 0 then cmpA x y else cmpL (xs.drop (k + 1)) (ys.drop (k + 1)) := by
 obtain ⟨h1, rfl⟩ := List.getElem?_eq_some_iff.1 hx
 obtain ⟨h2, rfl⟩ := List.getElem?_eq_some_iff.1 hy
 rw [List.drop_eq_getElem_cons h1, List.drop_eq_getElem_cons h2, cmpL]
theorem cmpL_long {xs ys : List RArc} {k : Nat} (hx : k < xs.length) (hy : ys.length ≤ k) : cmpL (xs.drop k) (ys.drop k) = 1 := by
 rw [List.drop_eq_getElem_cons hx, List.drop_of_length_le hy, cmpL]
theorem cmpL_end {xs ys : List RArc} {k : Nat} (hx : xs.length ≤ k) : cmpL (xs.drop k) (ys.drop k) = if k < ys.length then -1 else 0 := by
 rw [List.drop_of_length_le hx]
 by_cases h : k < ys.length
 · rw [List.drop_eq_getElem_cons h, cmpL, if_pos h]
 · rw [List.drop_of_length_le (by omega), cmpL, if_neg h]
end Pk
set_option maxHeartbeats 2000000 in
theorem compareFunc_any (E : Nat) (xs ys : List RArc) (va vb : Value) (w : World) (ha : ArcsAt E w va xs) (hb : ArcsAt E w vb ys) (hE : E ≤ w.heap.size) :
 Calls Tryz.prog 111 #[va, vb, .func (.func 112) #[] #[]] w fun e w' => e = .returned (.int .i64 (cmpL xs ys)) ∧ Gr w w' := by
 obtain ⟨ad, cap, rfl⟩ := ha.shape
 obtain ⟨bd, bcap, rfl⟩ := hb.shape
 obtain ⟨nx, hnx⟩ : ∃ n, xs.length = n := ⟨_, rfl⟩
 obtain ⟨ny, hny⟩ : ∃ n, ys.length = n := ⟨_, rfl⟩
 have hlx := ha.len
 have hly := hb.len
 have HA : Hid (ArcsAt E w (.slice ad xs.length cap) xs) := ha
 have HB : Hid (ArcsAt E w (.slice bd ys.length bcap) ys) := hb
 have HNX : Hid (xs.length = nx) := hnx
 have HNY : Hid (ys.length = ny) := hny
 rw [hnx] at HA hlx ⊢
 rw [hny] at HB hly ⊢
 clear ha hb hnx hny
 go_enter Tryz.func111, Tryz.ntmps111
 go_wp2
 go_loopg [7, 8, 9, 10, 13] nx (fun gm _ _ _ _ s13 wr => ∃ (k : Nat), s13 = .int .i64 k ∧ k ≤ nx ∧ nx - k ≤ gm ∧ Hid (cmpL xs ys = cmpL (xs.drop k) (ys.drop k)) ∧ Hid (Gr w wr))
 case atStart => exact ⟨0, rfl, Nat.zero_le _, by omega, rfl, Gr.refl _⟩
 case round =>
  obtain ⟨k, rfl, hk, hgm, HO, HG⟩ := hrel
  by_cases hlt : k < nx
  · have hltz : (k : Int) < (nx : Int) := by omega
    obtain ⟨x, hx⟩ : ∃ x, xs[k]? = some x := ⟨xs[k]'(by have := HNX.out; omega), List.getElem?_eq_getElem _⟩
    obtain ⟨g, off, rfl, hg, c0, c1, c2⟩ := (HA.out.below (HG.out.bel.mono hE)).at hx
    by_cases hly2 : k < ny
    · have hlyz : (k : Int) < (ny : Int) := by omega
      obtain ⟨y, hy⟩ : ∃ y, ys[k]? = some y := ⟨ys[k]'(by have := HNY.out; omega), List.getElem?_eq_getElem _⟩
      obtain ⟨h, oh, rfl, hh, d0, d1, d2⟩ := (HB.out.below (HG.out.bel.mono hE)).at hy
      have hdA : ∀ (o : Obj) (j : Nat), (wr.alloc o).cell? ⟨h, j, none⟩ = wr.cell? ⟨h, j, none⟩ := fun o j => ((Below.refl _ wr).alloc (Nat.le_refl _) o).cell (p := ⟨h, j, none⟩) (Nat.lt_of_lt_of_le hh (Nat.le_trans hE HG.out.bel.size))
      have d0' := fun o => (hdA o _).trans d0
      have d1' := fun o => (hdA o _).trans d1
      have d2' := fun o => (hdA o _).trans d2
      have HOA : Hid (cmpL xs ys = if cmpA x y ≠ 0 then cmpA x y else cmpL (xs.drop (k + 1)) (ys.drop (k + 1))) := HO.out.trans (cmpL_at hx hy)
      obtain ⟨ab, hab⟩ : ∃ ab, ab = wr.heap.size := ⟨_, rfl⟩
      obtain ⟨bb, hbb⟩ : ∃ bb, bb = wr.heap.size + 1 := ⟨_, rfl⟩
      obtain ⟨W, hW⟩ : ∃ W, W = (wr.alloc (.cells #[.int .i32 x.label, .int .i64 x.out, .int .i64 x.to] 110)).alloc (.cells #[.int .i32 y.label, .int .i64 y.out, .int .i64 y.to] 110) := ⟨_, rfl⟩
      have HGW : Hid (Gr w W) := by show Gr w W; rw [hW]; exact (HG.out.alloc _).alloc _
      have hS : SA ab bb x y W := by
       constructor
       · rw [hW, (MapKept.heap_alloc _ _).2 ab (by rw [hab]; simp), hab]
         exact alloc_newP _ _
       · have e : (wr.alloc (.cells #[.int .i32 x.label, .int .i64 x.out, .int .i64 x.to] 110)).heap.size = bb := by rw [hbb]; simp
         rw [hW, ← e]
         exact alloc_newP _ _
      obtain ⟨p0, p1, p2, p3, p4, p5⟩ := hS.facts
      have HCA : Hid (Calls Tryz.prog 112 #[.agg #[.int .i32 x.label, .int .i64 x.out, .int .i64 x.to], .agg #[.int .i32 y.label, .int .i64 y.out, .int .i64 y.to]] W fun e w' => e = .returned (.int .i64 (cmpA x y)) ∧ Gr W w') := compareArcs_any x y W
      clear hx hy hdA d0 d1 d2 hS
      generalize cmpA x y = c at *
      go_upto_region 7 with fail
      rw [← hbb, ← hab, ← hW]
      clear hbb hab hW c0 c1 c2 d0' d1' d2'
      by_cases hc0 : c = 0
      · subst hc0
        have HF : Hid (cmpL xs ys = cmpL (xs.drop (k + 1)) (ys.drop (k + 1))) := HOA.out
        go_wp2_with (go_at_call 112; refine HCA.out.mono ?_; rintro e w2 ⟨rfl, hg2⟩; have HG2 : Hid (Gr W w2) := hg2; clear hg2)
        go_roundg (nx - (k + 1))
        case measure => omega
        case rel => exact ⟨k + 1, by go_num, by omega, Nat.le_refl _, HF, HGW.out.trans HG2.out⟩
      · have HF : Hid (cmpL xs ys = c) := by show _ = _; rw [HOA.out, if_pos hc0]
        have h1b : (c == 0) = false := beq_eq_false_iff_ne.2 hc0
        have h1n : (c != 0) = true := by simp [bne, h1b]
        go_wp2_with (go_at_call 112; refine HCA.out.mono ?_; rintro e w2 ⟨rfl, hg2⟩; have HG2 : Hid (Gr W w2) := hg2; clear hg2)
        go_ret
        exact ⟨by rw [HF.out]; rfl, HGW.out.trans HG2.out⟩
    · have hlyz : ¬ (k : Int) < (ny : Int) := by omega
      have HF : Hid (cmpL xs ys = 1) := by show _ = _; rw [HO.out, cmpL_long (by have := HNX.out; omega) (by have := HNY.out; omega)]
      have HGA : Hid (∀ o, Gr w (wr.alloc o)) := fun o => HG.out.alloc o
      clear hx
      go_wp2
      go_ret
      exact ⟨by rw [HF.out]; rfl, HGA.out _⟩
  · have hltz : ¬ (k : Int) < (nx : Int) := by omega
    have hkx : k = nx := by omega
    have HE : Hid (cmpL xs ys = if nx < ny then -1 else 0) := by
     show _ = _
     rw [HO.out, cmpL_end (by have := HNX.out; omega), HNY.out, hkx]
    by_cases hyx : nx < ny
    · have hyz : (nx : Int) < (ny : Int) := by omega
      rw [if_pos hyx] at HE
      go_wp2
      go_ret
      exact ⟨by rw [HE.out]; rfl, HG.out⟩
    · have hyz : ¬ (nx : Int) < (ny : Int) := by omega
      rw [if_neg hyx] at HE
      go_wp2
      go_ret
      exact ⟨by rw [HE.out]; rfl, HG.out⟩
end Go.Proofs.YtncnefpkfbngaaaGreatDoor

/- The comparing of states. -/
namespace Go.Proofs.YtncnefpkfbngaaaGreatDoor
open Go.RowKit Nums Fm Pk
set_option maxRecDepth 100000

/-- Two states in boxes. -/
structure SS (ab bb : Nat) (s t : RSt) (va vb : Value) (w : World) : Prop where
 a : w.heap[ab]? = some (.cells #[.bool s.final, .int .i64 s.out, va] 88)
 b : w.heap[bb]? = some (.cells #[.bool t.final, .int .i64 t.out, vb] 88)
theorem SS.facts {ab bb : Nat} {s t : RSt} {va vb : Value} {w : World} (h : SS ab bb s t va vb w) : w.cell? ⟨ab, 0, none⟩ = some (.bool s.final) ∧ w.cell? ⟨ab, 1, none⟩ = some (.int .i64 s.out) ∧ w.cell? ⟨ab, 2, none⟩ = some va ∧ w.cell? ⟨bb, 0, none⟩ = some (.bool t.final) ∧ w.cell? ⟨bb, 1, none⟩ = some (.int .i64 t.out) ∧ w.cell? ⟨bb, 2, none⟩ = some vb :=
 ⟨by simp [World.cell?, h.a], by simp [World.cell?, h.a], by simp [World.cell?, h.a], by simp [World.cell?, h.b], by simp [World.cell?, h.b], by simp [World.cell?, h.b]⟩
theorem SS.below {ab bb : Nat} {s t : RSt} {va vb : Value} {w w' : World} (h : SS ab bb s t va vb w) (hb : Below w.heap.size w w') : SS ab bb s t va vb w' := ⟨(hb.block ab (Array.getElem?_eq_some_iff.1 h.a).1).trans h.a, (hb.block bb (Array.getElem?_eq_some_iff.1 h.b).1).trans h.b⟩
set_option maxHeartbeats 2000000 in
theorem compareStates_any (E : Nat) (s t : RSt) (va vb : Value) (w : World) (ha : ArcsAt E w va s.arcs) (hb : ArcsAt E w vb t.arcs) (hE : E ≤ w.heap.size) (hs : s.arcs.length ≤ 1114112) (ht : t.arcs.length ≤ 1114112) :
 Calls Tryz.prog 98 #[.agg #[.bool s.final, .int .i64 s.out, va], .agg #[.bool t.final, .int .i64 t.out, vb]] w fun e w' => e = .returned (.int .i64 (cmpS s t)) ∧ Gr w w' := by
 obtain ⟨ad, cap, rfl⟩ := ha.shape
 obtain ⟨bd, bcap, rfl⟩ := hb.shape
 have HH1 : Hid (∀ W, Calls Tryz.prog 109 #[.agg #[.bool s.final, .int .i64 s.out, .slice ad s.arcs.length cap]] W fun e w' => e = .returned (.int .u64 (headS s)) ∧ Gr W w') := fun W => head_any s ad cap W hs
 have HH2 : Hid (∀ W, Calls Tryz.prog 109 #[.agg #[.bool t.final, .int .i64 t.out, .slice bd t.arcs.length bcap]] W fun e w' => e = .returned (.int .u64 (headS t)) ∧ Gr W w') := fun W => head_any t bd bcap W ht
 have HCF : Hid (∀ W, Gr w W → Calls Tryz.prog 111 #[.slice ad s.arcs.length cap, .slice bd t.arcs.length bcap, .func (.func 112) #[] #[]] W fun e w' => e = .returned (.int .i64 (cmpL s.arcs t.arcs)) ∧ Gr W w') := fun W hW => compareFunc_any E _ _ _ _ W (ha.below (hW.bel.mono hE)) (hb.below (hW.bel.mono hE)) (Nat.le_trans hE hW.bel.size)
 have HU : Hid (∀ W, Calls Tryz.prog 108 #[.int .u64 (headS s), .int .u64 (headS t)] W fun e w' => e = .returned (.int .i64 (cmpI (headS s) (headS t))) ∧ w' = W) := fun W => cmpU_any _ _ W
 have HO : Hid (∀ W, Calls Tryz.prog 110 #[.int .i64 s.out, .int .i64 t.out] W fun e w' => e = .returned (.int .i64 (cmpI s.out t.out)) ∧ w' = W) := fun W => cmpN_any _ _ W
 obtain ⟨ab, hab⟩ : ∃ ab, ab = w.heap.size := ⟨_, rfl⟩
 obtain ⟨bb, hbb⟩ : ∃ bb, bb = w.heap.size + 1 := ⟨_, rfl⟩
 generalize s.arcs.length = na at *
 generalize t.arcs.length = nb at *
 obtain ⟨W, hW⟩ : ∃ W, W = (w.alloc (.cells #[.bool s.final, .int .i64 s.out, .slice ad na cap] 88)).alloc (.cells #[.bool t.final, .int .i64 t.out, .slice bd nb bcap] 88) := ⟨_, rfl⟩
 have HG : Hid (Gr w W) := by show Gr w W; rw [hW]; exact ((Gr.refl w).alloc _).alloc _
 have hS : SS ab bb s t (.slice ad na cap) (.slice bd nb bcap) W := by
  constructor
  · rw [hW, (MapKept.heap_alloc _ _).2 ab (by rw [hab]; simp), hab]
    exact alloc_newP _ _
  · have e : (w.alloc (.cells #[.bool s.final, .int .i64 s.out, .slice ad na cap] 88)).heap.size = bb := by rw [hbb]; simp
    rw [hW, ← e]
    exact alloc_newP _ _
 have hS0 : SS ab bb s t (.slice ad na cap) (.slice bd nb bcap) W.drew := hS.below (Below.refl _ W).drew
 have HCS : Hid (cmpS s t = if cmpH s t ≠ 0 then cmpH s t else cmpL s.arcs t.arcs) := rfl
 have HCH : Hid (cmpH s t = orI [cmpI (headS s) (headS t), cmpI s.out t.out]) := rfl
 generalize cmpL s.arcs t.arcs = CL at *
 generalize headS s = h1 at *
 generalize headS t = h2 at *
 generalize cmpH s t = CH at *
 generalize cmpS s t = CS at *
 generalize cmpI h1 h2 = c1 at *
 generalize cmpI s.out t.out = c2 at *
 go_enter Tryz.func98, Tryz.ntmps98
 go_upto_region 1 with fail
 rw [← hbb, ← hab, ← hW]
 clear hbb hab hW hS ha hb
 refine region_at (S := SS ab bb s t (.slice ad na cap) (.slice bd nb bcap)) 13 rfl mixedP hS0 (fun _ => ?_)
 refine tk (i := 0) 6 rfl rfl (by kernel_rfl) (fun _ s => by (have h := SS.facts s; clear s; go_simp; first | done | exact rfl)) ?_
 simp only [sZa, sZb, sZc]
 refine tk (i := 2) 8 rfl rfl (by kernel_rfl) (fun _ s => by (have h := SS.facts s; clear s; go_simp; first | done | exact rfl)) ?_
 simp only [sZa, sZb, sZc]
 refine tk (i := 5) 11 rfl rfl (by kernel_rfl) (fun _ s => by (have h := SS.facts s; clear s; go_simp; first | done | exact rfl)) ?_
 simp only [sZa, sZb, sZc]
 refine tk (i := 6) 12 rfl rfl (by kernel_rfl) (fun _ s => by (have h := SS.facts s; clear s; go_simp; first | done | exact rfl)) ?_
 simp only [sZa, sZb, sZc]
 refine tk (i := 7) 13 rfl rfl (by kernel_rfl) (fun _ s => by (have h := SS.facts s; clear s; go_simp; first | done | exact rfl)) ?_
 simp only [sZa, sZb, sZc]
 refine tk (i := 8) 14 rfl rfl (by kernel_rfl) (fun _ s => by (have h := SS.facts s; clear s; go_simp; first | done | exact rfl)) ?_
 simp only [sZa, sZb, sZc]
 refine one_call (i := 1) (w0 := W.drew) 7 109 #[.agg #[.bool s.final, .int .i64 s.out, .slice ad na cap]] (by kernel_rfl) rfl rfl (by rfl) (by kernel_rfl) ?_
 refine (HH1.out _).mono ?_
 rintro e w1 ⟨rfl, hg1⟩
 have hS1 := hS0.below hg1.bel
 have HG1 : Hid (Gr w w1) := (HG.out.drew).trans hg1
 refine ⟨_, rfl, hS1, fun _ => ?_⟩
 simp only [sZa, sZb, sZc]
 refine one_call (i := 3) (w0 := w1) 9 109 #[.agg #[.bool t.final, .int .i64 t.out, .slice bd nb bcap]] (by kernel_rfl) rfl rfl (by rfl) (by kernel_rfl) ?_
 refine (HH2.out _).mono ?_
 rintro e w2 ⟨rfl, hg2⟩
 have hS2 := hS1.below hg2.bel
 have HG2 : Hid (Gr w w2) := HG1.out.trans hg2
 refine ⟨_, rfl, hS2, fun _ => ?_⟩
 simp only [sZa, sZb, sZc]
 refine one_call (i := 4) (w0 := w2) 10 108 #[.int .u64 h1, .int .u64 h2] (by kernel_rfl) rfl rfl (by rfl) (by kernel_rfl) ?_
 refine (HU.out _).mono ?_
 rintro e w3 ⟨rfl, hw3⟩
 rw [hw3]
 refine ⟨_, rfl, hS2, fun _ => ?_⟩
 simp only [sZa, sZb, sZc]
 refine one_call (i := 9) (w0 := w2) 15 110 #[.int .i64 s.out, .int .i64 t.out] (by kernel_rfl) rfl rfl (by rfl) (by kernel_rfl) ?_
 refine (HO.out _).mono ?_
 rintro e w4 ⟨rfl, hw4⟩
 rw [hw4]
 refine ⟨_, rfl, hS2, fun _ => ?_⟩
 simp only [sZa, sZb, sZc]
 obtain ⟨W5, hW5⟩ : ∃ W5, W5 = w2.alloc (.cells #[.int .i64 c1, .int .i64 c2] 3) := ⟨_, rfl⟩
 have HG5 : Hid (Gr w W5) := by show Gr w W5; rw [hW5]; exact HG2.out.alloc _
 have hn5 : W5.heap[w2.heap.size]? = some (.cells #[.int .i64 c1, .int .i64 c2] 3) := by rw [hW5]; exact alloc_newP _ _
 have hS5 : SS ab bb s t (.slice ad na cap) (.slice bd nb bcap) W5 := by rw [hW5]; exact hS2.below ((Below.refl _ _).alloc (Nat.le_refl _) _)
 have h5 := or_any w2.heap.size 2 2 [c1, c2] W5 rfl (by decide) (fun i z hi => by
  match i, hi with
  | 0, hi => simp at hi; subst hi; simp [World.cell?, hn5]
  | 1, hi => simp at hi; subst hi; simp [World.cell?, hn5]
  | k + 2, hi => simp at hi)
 rw [← HCH.out] at h5
 refine one_value (i := 10) (v := .slice (some ⟨w2.heap.size, 0, none⟩) 2 2) (w' := W5) 16 (by kernel_rfl) rfl rfl (by rfl) (by rw [hW5]; go_simp; first | done | exact rfl) hS5 (fun _ => ?_)
 simp only [sZa, sZb, sZc]
 refine one_call (i := 11) (w0 := W5) 17 107 #[.slice (some ⟨w2.heap.size, 0, none⟩) 2 2] (by kernel_rfl) rfl rfl (by rfl) (by kernel_rfl) ?_
 refine h5.mono ?_
 rintro e w6 ⟨rfl, hw6⟩
 rw [hw6]
 refine ⟨_, rfl, hS5, fun _ => ?_⟩
 simp only [sZa, sZb, sZc]
 refine one_value (i := 12) (v := .int .i64 CH) (w' := W5) 5 (by kernel_rfl) rfl rfl (by rfl) (by go_simp; first | done | exact rfl) hS5 (fun _ => ?_)
 simp only [sZa, sZb, sZc]
 refine wpAnyH_done (by kernel_rfl) ?_ _
 obtain ⟨q0, q1, q2, q3, q4, q5⟩ := hS5.facts
 clear hW5 hn5 hw3 hw4 hw6 hS5
 by_cases hc : CH = 0
 · subst hc
   have HF : Hid (CS = CL) := HCS.out
   go_wp2_with (go_at_call 111; refine (HCF.out _ HG5.out).mono ?_; rintro e w8 ⟨rfl, hg8⟩)
   go_ret
   exact ⟨by rw [HF.out]; rfl, HG5.out.trans hg8⟩
 · have HF : Hid (CS = CH) := by show _ = _; rw [HCS.out, if_pos hc]
   have h1b : (CH == 0) = false := beq_eq_false_iff_ne.2 hc
   have h1n : (CH != 0) = true := by simp [bne, h1b]
   go_wp2
   go_ret
   exact ⟨by rw [HF.out]; rfl, HG5.out⟩
end Go.Proofs.YtncnefpkfbngaaaGreatDoor

/- States that are sorted: two that are alike are neighbours. No program is named here. -/
namespace Go.Proofs.YtncnefpkfbngaaaGreatDoor.Pk
open Go.Sort

def zS : RSt := ⟨false, 0, []⟩
def cfS (m : List RSt) (i j : Nat) : Int := cmpS (m.getD i zS) (m.getD j zS)
theorem cmpS_self (s : RSt) : cmpS s s = 0 := (cmpS_ord.eq _ _).2 rfl
theorem cmpS_pos {s t : RSt} (h : 0 < cmpS s t) : cmpS t s < 0 := (cmpS_ord.anti _ _).2 h
theorem cmpS_le {s t : RSt} (h : ¬ cmpS s t < 0) : s = t ∨ cmpS t s < 0 := by
 by_cases h0 : cmpS s t = 0
 · exact .inl ((cmpS_ord.eq _ _).1 h0)
 · exact .inr (cmpS_pos (by omega))
theorem cfS_swo (m : List RSt) : SWO (Go.Proofs.ltOf (cfS m)) := by
 refine ⟨fun x => ?_, fun x y z => ?_, fun x y z => ?_⟩ <;> unfold Go.Proofs.ltOf cfS
 · rw [cmpS_self]; rfl
 · simp only [decide_eq_true_eq]
   exact cmpS_ord.tr _ _ _
 · simp only [decide_eq_false_iff_not]
   intro h1 h2 h3
   rcases cmpS_le h1 with e1 | g1
   · rw [e1] at h3; exact h2 h3
   · rcases cmpS_le h2 with e2 | g2
     · rw [← e2] at h3; exact h1 h3
     · have := cmpS_ord.tr _ _ _ g2 g1
       have h4 := (cmpS_ord.anti _ _).1 h3
       omega
theorem perm_get {d : Array Nat} {n : Nat} (hp : d.toList.Perm (List.range n)) {a : Nat} (ha : a < n) : ∃ i, i < d.size ∧ d[i]! = a := by
 have := hp.mem_iff.2 (List.mem_range.2 ha)
 obtain ⟨i, hi, e⟩ := List.getElem_of_mem this
 have hi' : i < d.size := by simpa using hi
 exact ⟨i, hi', by rw [getElem!_pos d i hi']; simpa using e⟩
theorem perm_lt {d : Array Nat} {n : Nat} (hp : d.toList.Perm (List.range n)) {i : Nat} (hi : i < d.size) : d[i]! < n := by
 rw [getElem!_pos d i hi]
 exact List.mem_range.1 (hp.mem_iff.1 (by simp))
theorem adj_lt {m : List RSt} {d : Array Nat} (hs : SortedIn (Go.Proofs.ltOf (cfS m)) 0 m.length d) (hadj : ∀ i, i + 1 < m.length → cfS m d[i]! d[i + 1]! ≠ 0) : ∀ (k i : Nat), i + k + 1 < m.length → cfS m d[i]! d[i + k + 1]! < 0
 | 0, i, h => by
  have h1 := hs i (i + 1) (Nat.zero_le _) (by omega) (by omega)
  have h2 := hadj i (by omega)
  unfold Go.Proofs.ltOf at h1
  have h1' := of_decide_eq_false h1
  show cfS m d[i]! d[i + 1]! < 0
  unfold cfS at h1' h2 ⊢
  rcases cmpS_le h1' with e | g
  · rw [e, cmpS_self] at h2; exact absurd rfl h2
  · exact g
 | k + 1, i, h => by
  have h1 := adj_lt hs hadj k i (by omega)
  have h2 := adj_lt hs hadj 0 (i + k + 1) (by omega)
  exact cmpS_ord.tr _ _ _ h1 h2
theorem nodup_adj {m : List RSt} {d : Array Nat} (hd : d.size = m.length) (hp : d.toList.Perm (List.range m.length)) (hs : SortedIn (Go.Proofs.ltOf (cfS m)) 0 m.length d) (hadj : ∀ i, i + 1 < m.length → cfS m d[i]! d[i + 1]! ≠ 0) : m.Nodup := by
 unfold List.Nodup
 rw [List.pairwise_iff_getElem]
 intro a b ha hb hab e
 obtain ⟨i, hi, hia⟩ := perm_get hp ha
 obtain ⟨j, hj, hjb⟩ := perm_get hp hb
 have hf : ∀ x, (hx : x < m.length) → m.getD x zS = m[x] := fun x hx => by rw [List.getD_eq_getElem?_getD, List.getElem?_eq_getElem hx]; rfl
 have key : ∀ i j, i < j → j < m.length → d[i]! ≠ d[j]! → cfS m d[i]! d[j]! < 0 := fun i j h1 h2 _ => by
  have := adj_lt hs hadj (j - i - 1) i (by omega)
  rwa [show i + (j - i - 1) + 1 = j by omega] at this
 have hc : cfS m a b = 0 := by unfold cfS; rw [hf a ha, hf b hb, e, cmpS_self]
 have hc' : cfS m b a = 0 := by unfold cfS; rw [hf a ha, hf b hb, e, cmpS_self]
 rcases Nat.lt_trichotomy i j with h | h | h
 · have := key i j h (by omega) (by rw [hia, hjb]; omega)
   rw [hia, hjb] at this
   omega
 · subst h
   rw [hia] at hjb
   omega
 · have := key j i h (by omega) (by rw [hia, hjb]; omega)
   rw [hia, hjb] at this
   omega
theorem dup_adj {m : List RSt} {d : Array Nat} (hd : d.size = m.length) (hp : d.toList.Perm (List.range m.length)) {i : Nat} (hi : i + 1 < m.length) (h : cfS m d[i]! d[i + 1]! = 0) : ¬ m.Nodup := fun hn => by
 have h1 := perm_lt hp (i := i) (by omega)
 have h2 := perm_lt hp (i := i + 1) (by omega)
 have hne : d[i]! ≠ d[i + 1]! := by
  have hnd : d.toList.Nodup := hp.nodup_iff.2 List.nodup_range
  unfold List.Nodup at hnd
  rw [List.pairwise_iff_getElem] at hnd
  have := hnd i (i + 1) (by simpa using (show i < d.size by omega)) (by simpa using (show i + 1 < d.size by omega)) (by omega)
  rw [getElem!_pos d i (by omega), getElem!_pos d (i + 1) (by omega)]
  simpa using this
 have he := (cmpS_ord.eq _ _).1 h
 have hf : ∀ x, (hx : x < m.length) → m.getD x zS = m[x] := fun x hx => by rw [List.getD_eq_getElem?_getD, List.getElem?_eq_getElem hx]; rfl
 rw [hf _ h1, hf _ h2] at he
 unfold List.Nodup at hn
 rw [List.pairwise_iff_getElem] at hn
 rcases Nat.lt_trichotomy d[i]! d[i + 1]! with h | h | h
 · exact hn _ _ h1 h2 h he
 · exact hne h
 · exact hn _ _ h2 h1 h he.symm
end Go.Proofs.YtncnefpkfbngaaaGreatDoor.Pk

/- slices.Clone and slices.SortFunc at states. -/
namespace Go.Proofs.YtncnefpkfbngaaaGreatDoor
open Go.RowKit Go.Shelf Nums Fm Pk
set_option maxRecDepth 1000000
shelf_lay_g SlLaysE0.n41 Slgn 41 at Tryz 96 as cloneSt
shelf_lay_g SlLaysF0.n6 Slsf 6 at Tryz 97 as sortSt

/-- The cells of states, with their arcs. -/
structure StX (E : Nat) (w : World) (xss : List (List Value)) (m : List RSt) : Prop where
 len : xss.length = m.length
 all : ∀ (i : Nat) (s : RSt), m[i]? = some s → ∃ va, xss[i]? = some [.bool s.final, .int .i64 s.out, va] ∧ ArcsAt E w va s.arcs
 sml : ∀ s ∈ m, s.arcs.length ≤ 1114112
theorem StX.below {E : Nat} {w w' : World} {xss : List (List Value)} {m : List RSt} (h : StX E w xss m) (hb : Below E w w') : StX E w' xss m := ⟨h.len, fun i s hi => by obtain ⟨va, e1, e2⟩ := h.all i s hi; exact ⟨va, e1, e2.below hb⟩, h.sml⟩
theorem StX.cells {E : Nat} {w : World} {xss : List (List Value)} {m : List RSt} (h : StX E w xss m) : ∀ x ∈ xss, Cells 3 x := fun x hx => by
 obtain ⟨i, hi, rfl⟩ := List.getElem_of_mem hx
 obtain ⟨s, hs⟩ : ∃ s, m[i]? = some s := ⟨m[i]'(by have := h.len; omega), List.getElem?_eq_getElem _⟩
 obtain ⟨va, e1, e2⟩ := h.all i s hs
 obtain ⟨ad, cap, rfl⟩ := e2.shape
 rw [List.getElem?_eq_getElem hi] at e1
 rw [Option.some.inj e1]
 exact ⟨rfl, by simp [Value.oneCell']⟩
theorem flat_at : ∀ (xss : List (List Value)), (∀ x ∈ xss, x.length = 3) → ∀ (j : Nat) (u : Value), xss.flatten[j]? = some u → ∃ i c x, j = i * 3 + c ∧ xss[i]? = some x ∧ x[c]? = some u
 | [], _, j, u, h => by simp at h
 | y :: r, hk, j, u, h => by
  have hy := hk y (by simp)
  rw [List.flatten_cons] at h
  by_cases hj : j < 3
  · rw [List.getElem?_append_left (by omega)] at h
    exact ⟨0, j, y, by omega, rfl, h⟩
  · rw [List.getElem?_append_right (by omega), hy] at h
    obtain ⟨i, c, x, e, h1, h2⟩ := flat_at r (fun x hx => hk x (by simp [hx])) (j - 3) u h
    exact ⟨i + 1, c, x, by omega, by simpa using h1, h2⟩
theorem flat_len3 : ∀ (xss : List (List Value)), (∀ x ∈ xss, x.length = 3) → xss.flatten.length = xss.length * 3
 | [], _ => rfl
 | y :: r, hk => by
  rw [List.flatten_cons, List.length_append, flat_len3 r (fun x hx => hk x (by simp [hx])), hk y (by simp), List.length_cons]
  omega
theorem cloneS_any (E : Nat) (w : World) (xss : List (List Value)) (m : List RSt) (vs : Value) (h : GRow E 3 w vs xss) (hX : StX E w xss m) (h0 : m ≠ []) (hm : m.length ≤ 1048576) :
 Calls Tryz.prog 96 #[vs] w fun e w' => ∃ g cap, e = .returned (.slice (some ⟨g, 0, none⟩) m.length cap) ∧ GOwn 88 3 w.heap.size w' (.slice (some ⟨g, 0, none⟩) m.length cap) xss ∧ Below w.heap.size w w' := by
 obtain ⟨z, hz, hzs⟩ := rtyS.inf
 obtain ⟨i, hi, hz0, hz1, hz2⟩ := info_parts hz
 have hsz : ∀ w, (Go.sizeOf 88).run Tryz.prog w = .ok 3 w := fun w => by simp [sizeOf, typeInfo, hi, hz1, Result.andThen]
 have hcl := hX.cells
 have hl3 : ∀ x ∈ xss, x.length = 3 := fun x hx => (hcl x hx).1
 have hpos := List.length_pos_iff.2 h0
 have hlen := hX.len
 obtain ⟨ad, cap, rfl, hc⟩ := h.ex
 obtain ⟨g, off, rfl, hg, hx⟩ := hc (by omega)
 have hcell : ∀ (j : Nat) u, xss.flatten[j]? = some u → w.cell? ⟨g, off + j, none⟩ = some u := fun j u hj => by
  obtain ⟨i, c, x, rfl, h1, h2⟩ := flat_at xss hl3 j u hj
  have := hx i c x u h1 h2
  rwa [Nat.add_assoc] at this
 have hone : ∀ u ∈ xss.flatten, u.oneCell' = true := fun u hu => by
  obtain ⟨x, hx, hux⟩ := List.mem_flatten.1 hu
  exact (hcl x hx).2 u hux
 have hcall : Calls Tryz.prog 96 #[.slice (some ⟨g, off, none⟩) xss.length cap] w fun e w' => ∃ v', e = .returned v' ∧ w'.ownsRow w.heap.size 88 3 v' xss.length xss.flatten ∧ v' ≠ .slice none 0 0 ∧ Below w.heap.size w w' :=
  AnyE.slices_Clone cloneSt i z 3 40 hi hz0 hz1 hz2 hzs (by decide) hsz g off xss.length cap xss.flatten w (flat_len3 xss hl3) (by unfold maxLen; omega) (by omega) hcell hone
 refine hcall.mono ?_
 rintro e w' ⟨v', rfl, ho, hne, hb⟩
 have hO : GOwn 88 3 w.heap.size w' v' xss := ⟨hcl, ho⟩
 obtain ⟨g', cap', hv, _⟩ := hO.cell (by omega)
 subst hv
 rw [hlen] at hO ⊢
 exact ⟨g', cap', rfl, hO, hb⟩
def encS (xss : List (List Value)) (i : Nat) : List Value := xss.getD i [.bool false, .int .i64 0, .slice none 0 0]
theorem encS_get {E : Nat} {w : World} {xss : List (List Value)} {m : List RSt} (h : StX E w xss m) (i : Nat) : ∃ va, encS xss i = [.bool (m.getD i zS).final, .int .i64 (m.getD i zS).out, va] ∧ ArcsAt E w va (m.getD i zS).arcs ∧ (m.getD i zS).arcs.length ≤ 1114112 ∧ va.oneCell' = true := by
 cases hs : m[i]? with
 | none =>
  have hx : xss[i]? = none := List.getElem?_eq_none (by have := h.len; have := List.getElem?_eq_none_iff.1 hs; omega)
  rw [encS, List.getD_eq_getElem?_getD, hx, List.getD_eq_getElem?_getD, hs]
  exact ⟨_, rfl, ⟨⟨_, _, rfl, fun h => by simp [zS] at h⟩, fun a ha => by simp [zS] at ha, by simp [zS]⟩, by simp [zS], rfl⟩
 | some s =>
  obtain ⟨va, e1, e2⟩ := h.all i s hs
  rw [encS, List.getD_eq_getElem?_getD, e1, List.getD_eq_getElem?_getD, hs]
  obtain ⟨ad, cap, hv⟩ := e2.shape
  exact ⟨va, rfl, e2, h.sml s (List.mem_of_getElem? hs), by rw [hv]; rfl⟩
theorem sortFar {enc : Nat → List Value} {w : World} {blk off q : Nat} {d : Array Nat} {os : Array Obj} {k : Nat} (hk : k < w.heap.size) (hne : k ≠ blk) : (sortWorldK enc 3 w blk off q d os).heap[k]? = w.heap[k]? := by
 unfold sortWorldK Go.Sort.grow Go.Sort.putRowK Go.Sort.putRow Go.Sort.mapBlock
 simp only
 rw [Array.getElem?_append_left (by simpa [Go.Sort.ahead] using hk), Array.getElem?_modify, if_neg (fun e => hne e.symm)]
 rfl
theorem sortBelow {enc : Nat → List Value} {w : World} {blk off q : Nat} {d : Array Nat} {os : Array Obj} {B : Nat} (hB : B ≤ blk) (hBw : B ≤ w.heap.size) : Below B w (sortWorldK enc 3 w blk off q d os) := by
 refine ⟨rfl, rfl, rfl, ?_, fun k hk => sortFar (by omega) (by omega)⟩
 unfold sortWorldK Go.Sort.grow Go.Sort.putRowK Go.Sort.putRow Go.Sort.mapBlock
 simp [Go.Sort.ahead]
theorem sortS_any (E B : Nat) (w : World) (xss : List (List Value)) (m : List RSt) (g cap : Nat) (hO : GOwn 88 3 B w (.slice (some ⟨g, 0, none⟩) m.length cap) xss) (hX : StX E w xss m) (hEB : E ≤ B) (hBw : B ≤ w.heap.size) (h0 : m ≠ []) (hm : m.length ≤ 1048576) :
 Calls Tryz.prog 97 #[.slice (some ⟨g, 0, none⟩) m.length cap, .func (.func 98) #[] #[]] w fun e w' => e = .returned (.tuple #[]) ∧ ∃ d : Array Nat, d.size = m.length ∧ d.toList.Perm (List.range m.length) ∧ Go.Sort.SortedIn (ltOf (cfS m)) 0 m.length d ∧ Go.Sort.HoldsK (encS xss) 3 w' g 0 d ∧ Below B w w' := by
 have hlen := hX.len
 have hpos := List.length_pos_iff.2 h0
 have eg : ∀ args w, (callFunc 98 args).run Tryz.prog w = .ok (.enter 98 args) w := enters_of Tryz.func98 (by kernel_rfl) rfl
 have hk : ∀ x, (encS xss x).length = 3 := fun x => by obtain ⟨va, e, _⟩ := encS_get hX x; rw [e]; rfl
 have h1 : ∀ x, ∀ v ∈ encS xss x, v.oneCell' = true := fun x v hv => by
  obtain ⟨va, e, _, _, ho⟩ := encS_get hX x
  rw [e] at hv
  simp only [List.mem_cons, List.not_mem_nil, or_false] at hv
  rcases hv with rfl | rfl | rfl
  · rfl
  · rfl
  · exact ho
 obtain ⟨hg, cur, hblk⟩ := hO.block (g := g) rfl
 have hgw := (Array.getElem?_eq_some_iff.1 hblk).1
 have hH : Go.Sort.HoldsK (encS xss) 3 w g 0 (Array.range m.length) := by
  obtain ⟨g', cap', e, _, _, _, hc⟩ := hO.cell (by omega)
  simp only [Value.slice.injEq, Option.some.injEq, Addr.mk.injEq, and_true] at e
  have eg' : g = g' := e.1
  subst eg'
  intro t ht
  have ht2 : t < m.length * 3 := by simpa using ht
  obtain ⟨i, j, rfl, hj⟩ : ∃ i j, t = i * 3 + j ∧ j < 3 := ⟨t / 3, t % 3, by omega, by omega⟩
  have hi : i < m.length := by omega
  have hx : xss[i]? = some (xss[i]'(by omega)) := List.getElem?_eq_getElem _
  have hl := hk i
  have he : encS xss i = xss[i]'(by omega) := by rw [encS, List.getD_eq_getElem?_getD, hx]; rfl
  rw [he] at hl
  refine ⟨?_, by simp [World.frozen?, hblk]⟩
  rw [Go.Sort.get_flatK _ _ _ _ (by simpa using ht2), show (i * 3 + j) / 3 = i by omega, show (i * 3 + j) % 3 = j by omega]
  have el : (Array.range m.length)[i]! = i := by simp [hi]
  rw [el, he, Nat.zero_add]
  have hjl : j < (xss[i]'(by omega)).length := by omega
  rw [getElem!_pos _ j hjl]
  exact hc i j _ _ hx (List.getElem?_eq_getElem hjl)
 have hcmp : CmpLays Tryz.prog 98 #[] (encS xss) 3 (cfS m) g 0 (Array.range m.length).size w := fun q os dk _ x y => by
  obtain ⟨va, ea, ha, hla, _⟩ := encS_get hX x
  obtain ⟨vb, eb, hb, hlb, _⟩ := encS_get hX y
  have hbl : Below E w (sortWorldK (encS xss) 3 w g 0 q dk os) := sortBelow (by omega) (by omega)
  rw [ea, eb]
  refine (compareStates_any E _ _ va vb _ (ha.below hbl) (hb.below hbl) (Nat.le_trans (by omega) hbl.size) hla hlb).mono ?_
  rintro e w' ⟨rfl, hgr⟩
  exact ⟨rfl, hgr.grown⟩
 have hc := AnyQ.slices_SortFunc sortSt 3 Tryz.isAgg88 Tryz.sizeOf88 (encS xss) hk h1 (cfS m) (cfS_swo m) 98 #[] g 0 cap (Array.range m.length) w eg hcmp hH hgw (by simp; omega)
 rw [Array.size_range] at hc
 refine hc.mono ?_
 rintro e w' ⟨rfl, d, q, os, hp, hs, rfl⟩
 obtain ⟨hp1, _, hp3⟩ := hp
 have hds : d.size = m.length := by simpa using hp1
 have hsw : SWK (encS xss) 3 w g 0 d (sortWorldK (encS xss) 3 w g 0 q d os) := ⟨q, os, rfl⟩
 refine ⟨rfl, d, hds, ?_, hs, hsw.holds hgw hH (by simpa using hds), sortBelow hg hBw⟩
 have e1 : d.extract 0 m.length = d := by rw [← hds]; simp
 have e2 : (Array.range m.length).extract 0 m.length = Array.range m.length := by simp
 rw [e1, e2] at hp3
 simpa using hp3
end Go.Proofs.YtncnefpkfbngaaaGreatDoor
