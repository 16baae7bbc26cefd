/- slices.Concat of one row and of two rows of pairs. -/
import Derived.Test.YtjanhebckonbaaaDoorPRows
import Derived.Shelf.Spec.SlicesGrow
namespace Go.Proofs.YtjanhebckonbaaaDoor
open Go.RowKit Go.Shelf Go.Lib Go.Sort Pm
set_option maxRecDepth 100000
shelf_lay_g Lays8.n4 Nm8 4 at Tryd 43 as growPr
theorem grow_nilP (n : Nat) (hn : n < 2199023255552) (w : World) : Calls Tryd.prog 43 #[.slice none 0 0, .int .i64 n] w fun e w' => ∃ v, e = .returned v ∧ POwn w.heap.size w' v [] ∧ Below w.heap.size w w' := by
  obtain ⟨i0, hi, hz0, hz1, hz2⟩ := info_parts info_P
  rcases Nat.eq_zero_or_pos n with rfl | h0
  · refine (Any8.slices_Grow_room growPr none 0 0 0 w (Nat.le_refl _) (by omega) (by omega) (by omega)).mono ?_
    rintro e w' ⟨rfl, rfl⟩
    exact ⟨_, rfl, POwn.nil _ _, Below.refl _ _⟩
  · refine (Any8.slices_Grow_grow growPr i0 _ hi hz0 (by rw [hz1]; decide) none 0 0 n [] w (Nat.le_refl _) (by omega) (by rw [hz2]; omega) (by omega) (by simp) (fun _ => rfl) (fun a h => by cases h)).mono ?_
    rintro e w' ⟨rfl, rfl⟩
    refine ⟨_, rfl, ⟨rfl, .inr ⟨_, _, _, rfl, Nat.le_refl _, alloc_newP _ _, Nat.zero_le _, ?_, ?_, rfl⟩⟩, ((Below.refl _ w).drew).alloc (Nat.le_refl _) _⟩
    · exact grownCap_le_maxLen w (0 + n) 0 _ (by unfold maxLen; omega)
    · have hge : n ≤ grownCap w n 0 (growPr_ren.t 25) := grownCap_ge w n 0 _
      simp [Builtin.zeroCells, Value.cells]
      omega
theorem PRow.form {w : World} {v : Value} {l : List Pr} (h : PRow w v l) : ∃ ad cap, v = .slice ad l.length cap := by
  obtain ⟨ad, cap, rfl, _⟩ := h
  exact ⟨ad, cap, rfl⟩
set_option maxHeartbeats 4000000 in
theorem Concat1_any (w : World) (vb c : Nat) (s1 : Value) (xs : List Pr) (h1 : PRow w s1 xs) (hx : xs.length < 549755813888) (hvb : vb < w.heap.size) (c0 : w.cell? ⟨vb, 0, none⟩ = some s1) :
    Calls Tryd.prog 36 #[.slice (some ⟨vb, 0, none⟩) 1 c] w fun e w' => ∃ v, e = .returned v ∧ POwn w.heap.size w' v xs ∧ Below w.heap.size w w' := by
  obtain ⟨a1, cp1, rfl⟩ := h1.form
  have H1 : Hid (PRow w (.slice a1 xs.length cp1) xs) := h1
  obtain ⟨n1, hn1⟩ : ∃ n1, xs.length = n1 := ⟨_, rfl⟩
  have HN1 : Hid (xs.length = n1) := hn1
  have hp1 : ¬ ((n1 : Int) < 0) := by omega
  have hn1b : n1 < 2199023255552 := by omega
  rw [hn1] at c0 H1
  clear h1 hn1
  go_enter Tryd.func36, Tryd.ntmps36
  go_wp2
  refine wp_loop_rounds 2 ?_
  rw [rounds_succ]
  go_wp2
  rw [rounds_succ]
  go_wp2_with (go_at_call 43; refine (grow_nilP n1 hn1b _).mono ?_; rintro e w1 ⟨v, rfl, hr1, hB1⟩)
  have HR1 : Hid (POwn w.heap.size w1 v []) := hr1
  have HB1 : Hid (Below w.heap.size w w1) := hB1
  have d0 := (hB1.cell (p := ⟨vb, 0, none⟩) hvb).trans c0
  clear hr1 hB1
  refine wp_loop_rounds 2 ?_
  rw [rounds_succ]
  go_wp2_with (at_builtin; refine append_p (by rfl) _ _ rfl w.heap.size _ _ [] xs rfl HR1.out rfl (H1.out.below HB1.out) (by have := HN1.out; simp; omega) HB1.out.size ?_)
  intro v2 w2 hr2 hb2 _
  have HR2 : Hid (POwn w.heap.size w2 v2 xs) := hr2
  have HB2 : Hid (Below w.heap.size w w2) := HB1.out.trans hb2
  clear hr2 hb2 d0
  go_wp2_with fail
  rw [rounds_succ]
  go_wp2_with fail
  go_ret
  exact ⟨v2, rfl, HR2.out, HB2.out⟩
set_option maxHeartbeats 4000000 in
theorem Concat2_any (w : World) (vb c : Nat) (s1 s2 : Value) (xs ys : List Pr) (h1 : PRow w s1 xs) (h2 : PRow w s2 ys) (hx : xs.length < 549755813888) (hy : ys.length < 549755813888) (hvb : vb < w.heap.size)
    (c0 : w.cell? ⟨vb, 0, none⟩ = some s1) (c1 : w.cell? ⟨vb, 1, none⟩ = some s2) :
    Calls Tryd.prog 36 #[.slice (some ⟨vb, 0, none⟩) 2 c] w fun e w' => ∃ v, e = .returned v ∧ POwn w.heap.size w' v (xs ++ ys) ∧ Below w.heap.size w w' := by
  obtain ⟨a1, cp1, rfl⟩ := h1.form
  obtain ⟨a2, cp2, rfl⟩ := h2.form
  have H1 : Hid (PRow w (.slice a1 xs.length cp1) xs) := h1
  have H2 : Hid (PRow w (.slice a2 ys.length cp2) ys) := h2
  obtain ⟨n1, hn1⟩ : ∃ n1, xs.length = n1 := ⟨_, rfl⟩
  obtain ⟨n2, hn2⟩ : ∃ n2, ys.length = n2 := ⟨_, rfl⟩
  obtain ⟨n3, hn3⟩ : ∃ n3, n1 + n2 = n3 := ⟨_, rfl⟩
  have HN1 : Hid (xs.length = n1) := hn1
  have HN2 : Hid (ys.length = n2) := hn2
  have hsum : (n1 : Int) + (n2 : Int) = (n3 : Int) := by omega
  have hp1 : ¬ ((n1 : Int) < 0) := by omega
  have hp3 : ¬ ((n3 : Int) < 0) := by omega
  have hn3b : n3 < 2199023255552 := by omega
  rw [hn1] at c0 H1
  rw [hn2] at c1 H2
  clear h1 h2 hn1 hn2
  go_enter Tryd.func36, Tryd.ntmps36
  go_wp2
  refine wp_loop_rounds 3 ?_
  rw [rounds_succ]
  go_wp2
  rw [rounds_succ]
  go_wp2
  rw [rounds_succ]
  go_wp2_with (go_at_call 43; refine (grow_nilP n3 hn3b _).mono ?_; rintro e w1 ⟨v, rfl, hr1, hB1⟩)
  have HR1 : Hid (POwn w.heap.size w1 v []) := hr1
  have HB1 : Hid (Below w.heap.size w w1) := hB1
  have d0 := (hB1.cell (p := ⟨vb, 0, none⟩) hvb).trans c0
  clear hr1 hB1
  refine wp_loop_rounds 3 ?_
  rw [rounds_succ]
  go_wp2_with (at_builtin; refine append_p (by rfl) _ _ rfl w.heap.size _ _ [] xs rfl HR1.out rfl (H1.out.below HB1.out) (by have := HN1.out; simp; omega) HB1.out.size ?_)
  intro v2 w2 hr2 hb2 _
  have HR2 : Hid (POwn w.heap.size w2 v2 xs) := hr2
  have HB2 : Hid (Below w.heap.size w w2) := HB1.out.trans hb2
  have d1 := (HB2.out.cell (p := ⟨vb, 1, none⟩) hvb).trans c1
  clear hr2 hb2 d0
  go_wp2_with fail
  rw [rounds_succ]
  go_wp2_with (at_builtin; refine append_p (by rfl) _ _ rfl w.heap.size _ _ xs ys rfl HR2.out rfl (H2.out.below HB2.out) (by have := HN1.out; have := HN2.out; omega) HB2.out.size ?_)
  intro v3 w3 hr3 hb3 _
  have HR3 : Hid (POwn w.heap.size w3 v3 (xs ++ ys)) := hr3
  have HB3 : Hid (Below w.heap.size w w3) := HB2.out.trans hb3
  clear hr3 hb3 d1
  go_wp2_with fail
  rw [rounds_succ]
  go_wp2_with fail
  go_ret
  exact ⟨v3, rfl, HR3.out, HB3.out⟩
end Go.Proofs.YtjanhebckonbaaaDoor
