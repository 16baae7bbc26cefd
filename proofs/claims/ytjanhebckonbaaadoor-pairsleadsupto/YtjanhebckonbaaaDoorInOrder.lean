/- pairs.inOrder of one list and of two, pairs.Norm. -/
import Derived.Test.YtjanhebckonbaaaDoorConcatP
import Derived.Test.YtjanhebckonbaaaDoorLastE
namespace Go.Proofs.YtjanhebckonbaaaDoor
open Go.RowKit Go.Shelf Go.Lib Go.Sort Pm
set_option maxRecDepth 100000

set_option maxHeartbeats 1000000 in
theorem insertion_nil (w : World) : Calls Tryd.prog 48 #[.slice none 0 0, .int .i64 0, .int .i64 0, .func (.func 31) #[] #[]] w fun e w' => e = .returned (.tuple #[]) ∧ w' = w := by
  go_enter Tryd.func48, Tryd.ntmps48
  go_wp2
  refine wp_loop_rounds 1 ?_
  rw [rounds_succ]
  go_wp2
  go_end0
  exact ⟨rfl, rfl⟩
set_option maxHeartbeats 1000000 in
theorem stable_nil (w : World) : Calls Tryd.prog 44 #[.slice none 0 0, .int .i64 0, .func (.func 31) #[] #[]] w fun e w' => e = .returned (.tuple #[]) ∧ w' = w := by
  go_enter Tryd.func44, Tryd.ntmps44
  go_wp2
  refine wp_loop_rounds 1 ?_
  rw [rounds_succ]
  go_wp2_with (go_at_call 48; refine (insertion_nil _).mono ?_; rintro e w2 ⟨rfl, rfl⟩)
  refine wp_loop_rounds 1 ?_
  rw [rounds_succ]
  go_wp2
  go_end0
  exact ⟨rfl, rfl⟩
set_option maxHeartbeats 1000000 in
theorem sortStable_nil (w : World) : Calls Tryd.prog 37 #[.slice none 0 0, .func (.func 31) #[] #[]] w fun e w' => e = .returned (.tuple #[]) ∧ w' = w := by
  go_enter Tryd.func37, Tryd.ntmps37
  go_wp2_with (go_at_call 44; refine (stable_nil _).mono ?_; rintro e w2 ⟨rfl, rfl⟩)
  go_end0
  exact ⟨rfl, rfl⟩
/-- The sort of a row that the call has made. -/
theorem sort_own {B : Nat} {w : World} {v : Value} {l : List Pr} (h : POwn B w v l) (hl : l.length < 1125899906842624) (hB : B ≤ w.heap.size) :
    Calls Tryd.prog 37 #[v, .func (.func 31) #[] #[]] w fun e w' => e = .returned (.tuple #[]) ∧ ∃ l', Stably lessB l l' ∧ POwn B w' v l' ∧ Below B w w' := by
  have h' := h
  obtain ⟨_, ⟨e, h0⟩ | ⟨g, cap, cur, rfl, h1, hh, h3, h4, h5, h6⟩⟩ := h
  · have hl0 : l = [] := List.eq_nil_of_length_eq_zero h0
    subst hl0
    subst e
    refine (sortStable_nil w).mono ?_
    rintro e w' ⟨rfl, rfl⟩
    exact ⟨rfl, [], ⟨List.Pairwise.nil, fun _ => rfl⟩, h', Below.refl _ _⟩
  · obtain ⟨R, S, hBg⟩ := RowP.of_own h' hl
    refine (sortStable_any g 0 l.length cap w w R hl l S rfl).mono ?_
    rintro e w' ⟨rfl, l', hs, hS⟩
    have hlen := hs.len
    have ho := h'.sorted hl hS hlen
    rw [hlen] at ho
    exact ⟨rfl, l', hs, ho, SWK.below hS hBg hB⟩
set_option maxHeartbeats 1000000 in
theorem inOrder_any (w : World) (vb n c : Nat) (l : List Pr) (hl : l.length < 549755813888)
    (hc : Calls Tryd.prog 36 #[.slice (some ⟨vb, 0, none⟩) n c] w fun e w' => ∃ v, e = .returned v ∧ POwn w.heap.size w' v l ∧ Below w.heap.size w w') :
    Calls Tryd.prog 27 #[.slice (some ⟨vb, 0, none⟩) n c] w fun e w' => ∃ v, e = .returned v ∧ POwn w.heap.size w' v (norm lessB l) ∧ Below w.heap.size w w' := by
  go_enter Tryd.func27, Tryd.ntmps27
  go_wp2_with (go_at_call 36; refine hc.mono ?_; rintro e w1 ⟨v1, rfl, ho1, hb1⟩)
  have H1 : Hid (POwn w.heap.size w1 v1 l ∧ Below w.heap.size w w1) := ⟨ho1, hb1⟩
  clear hc ho1 hb1
  go_wp2_with (go_at_call 37; refine (sort_own H1.out.1 (by omega) H1.out.2.size).mono ?_; rintro e w2 ⟨rfl, l', hs, ho2, hb2⟩)
  have H2 : Hid (Stably lessB l l' ∧ POwn w.heap.size w2 v1 l' ∧ Below w.heap.size w w2) := ⟨hs, ho2, H1.out.2.trans hb2⟩
  clear hs ho2 hb2
  go_wp2_with (go_at_call 38; refine (lastOfEach_any w2 v1 l' H2.out.2.1.row (by have := H2.out.1.len; omega)).mono ?_; rintro e w3 ⟨v3, rfl, ho3, hb3⟩)
  go_ret
  have e1 := norm_of_stably lessB_sto H2.out.1
  rw [e1] at ho3
  exact ⟨v3, rfl, ho3.mono H2.out.2.2.size, H2.out.2.2.trans (hb3.mono H2.out.2.2.size)⟩
set_option maxHeartbeats 1000000 in
theorem Norm_any (w : World) (v : Value) (l : List Pr) (h : PRow w v l) (hl : l.length < 549755813888) :
    Calls Tryd.prog 14 #[v] w fun e w' => ∃ v', e = .returned v' ∧ POwn w.heap.size w' v' (norm lessB l) ∧ Below w.heap.size w w' := by
  obtain ⟨ad, cap, rfl⟩ := h.form
  have hc := fun o => (⟨h.below ((Below.refl _ w).alloc (Nat.le_refl _) o), (Below.refl _ w).alloc (Nat.le_refl _) o⟩ : PRow (w.alloc o) (.slice ad l.length cap) l ∧ Below w.heap.size w (w.alloc o))
  have HC : Hid _ := hc
  clear hc h
  go_enter Tryd.func14, Tryd.ntmps14
  go_wp2_with (go_at_call 27; refine (inOrder_any _ _ _ _ l hl (Concat1_any _ _ _ _ l (HC.out _).1 hl (by simp) (by simp))).mono ?_; rintro e w1 ⟨v1, rfl, ho1, hb1⟩)
  go_ret
  exact ⟨v1, rfl, ho1.mono (HC.out _).2.size, (HC.out _).2.trans (hb1.mono (HC.out _).2.size)⟩
end Go.Proofs.YtjanhebckonbaaaDoor
