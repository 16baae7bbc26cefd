/- Texts that were written apart, joined. -/
import Derived.Test.YtncnefpkfbngaaaGreatDoorJ3
import Derived.Shelf.Spec.SlicesGrow
import Derived.Deep.QuietTactic
import Derived.BigQuiet
/- slices.Concat of one row and of two rows of pairs. -/
namespace Go.Proofs.YtncnefpkfbngaaaGreatDoor
open Go.RowKit Go.Shelf Go.Lib Go.Sort Pm
set_option maxRecDepth 100000
shelf_lay_g Lays8.n4 Nm8 4 at Tryz 85 as growPr
theorem grow_nilP (n : Nat) (hn : n < 2199023255552) (w : World) : Calls Tryz.prog 85 #[.slice none 0 0, .int .i64 n] w fun e w' => ∃ v, e = .returned v ∧ POwn w.heap.size w' v [] ∧ Below w.heap.size w w' := by
 obtain ⟨i0, hi, hz0, hz1, hz2⟩ := info_parts info_P
 rcases Nat.eq_zero_or_pos n with rfl | h0
 · refine (Any8.slices_Grow_room growPr none 0 0 0 w (Nat.le_refl _) (by omega) (by omega) (by omega)).mono ?_
   rintro e w' ⟨rfl, rfl⟩
   exact ⟨_, rfl, POwn.nil _ _, Below.refl _ _⟩
 · refine (Any8.slices_Grow_grow growPr i0 _ hi hz0 (by rw [hz1]; decide) none 0 0 n [] w (Nat.le_refl _) (by omega) (by rw [hz2]; omega) (by omega) (by simp) (fun _ => rfl) (fun a h => by cases h)).mono ?_
   rintro e w' ⟨rfl, rfl⟩
   refine ⟨_, rfl, ⟨rfl, .inr ⟨_, _, _, rfl, Nat.le_refl _, alloc_newP _ _, Nat.zero_le _, ?_, ?_, rfl⟩⟩, ((Below.refl _ w).drew).alloc (Nat.le_refl _) _⟩
   · exact grownCap_le_maxLen w (0 + n) 0 _ (by unfold maxLen; omega)
   · have hge : n ≤ grownCap w n 0 (growPr_ren.t 25) := grownCap_ge w n 0 _
     simp [Builtin.zeroCells, Value.cells]
     omega
theorem PRow.form {w : World} {v : Value} {l : List Pr} (h : PRow w v l) : ∃ ad cap, v = .slice ad l.length cap := by
 obtain ⟨ad, cap, rfl, _⟩ := h
 exact ⟨ad, cap, rfl⟩
set_option maxHeartbeats 4000000 in
theorem Concat1_any (w : World) (vb c : Nat) (s1 : Value) (xs : List Pr) (h1 : PRow w s1 xs) (hx : xs.length < 549755813888) (hvb : vb < w.heap.size) (c0 : w.cell? ⟨vb, 0, none⟩ = some s1) :
 Calls Tryz.prog 61 #[.slice (some ⟨vb, 0, none⟩) 1 c] w fun e w' => ∃ v, e = .returned v ∧ POwn w.heap.size w' v xs ∧ Below w.heap.size w w' := by
 obtain ⟨a1, cp1, rfl⟩ := h1.form
 have H1 : Hid (PRow w (.slice a1 xs.length cp1) xs) := h1
 obtain ⟨n1, hn1⟩ : ∃ n1, xs.length = n1 := ⟨_, rfl⟩
 have HN1 : Hid (xs.length = n1) := hn1
 have hp1 : ¬ ((n1 : Int) < 0) := by omega
 have hn1b : n1 < 2199023255552 := by omega
 rw [hn1] at c0 H1
 clear h1 hn1
 go_enter Tryz.func61, Tryz.ntmps61
 go_wp2
 refine wp_loop_rounds 2 ?_
 rw [rounds_succ]
 go_wp2
 rw [rounds_succ]
 go_wp2_with (go_at_call 85; refine (grow_nilP n1 hn1b _).mono ?_; rintro e w1 ⟨v, rfl, hr1, hB1⟩)
 have HR1 : Hid (POwn w.heap.size w1 v []) := hr1
 have HB1 : Hid (Below w.heap.size w w1) := hB1
 have d0 := (hB1.cell (p := ⟨vb, 0, none⟩) hvb).trans c0
 clear hr1 hB1
 refine wp_loop_rounds 2 ?_
 rw [rounds_succ]
 go_wp2_with (at_builtin; refine append_p (by rfl) _ _ rfl w.heap.size _ _ [] xs rfl HR1.out rfl (H1.out.below HB1.out) (by have := HN1.out; simp; omega) HB1.out.size ?_)
 intro v2 w2 hr2 hb2 _
 have HR2 : Hid (POwn w.heap.size w2 v2 xs) := hr2
 have HB2 : Hid (Below w.heap.size w w2) := HB1.out.trans hb2
 clear hr2 hb2 d0
 go_wp2_with fail
 rw [rounds_succ]
 go_wp2_with fail
 go_ret
 exact ⟨v2, rfl, HR2.out, HB2.out⟩
end Go.Proofs.YtncnefpkfbngaaaGreatDoor

/- pairs.lastOfEach. -/
namespace Go.Proofs.YtncnefpkfbngaaaGreatDoor
open Go.RowKit Go.Shelf Go.Lib Go.Sort Pm
set_option maxRecDepth 100000

theorem lastE_same {x y : Pr} (r : List Pr) (h : y.1 = x.1) : lastE (x :: y :: r) = lastE (y :: r) := by rw [lastE, if_pos h]
theorem lastE_new {x y : Pr} (r : List Pr) (h : ¬ y.1 = x.1) : lastE (x :: y :: r) = x :: lastE (y :: r) := by rw [lastE, if_neg h]
theorem drop_at (l : List Pr) (k : Nat) (x : Pr) (h : l[k]? = some x) : l.drop k = x :: l.drop (k + 1) := by
 obtain ⟨hk, e⟩ := List.getElem?_eq_some_iff.1 h
 rw [List.drop_eq_getElem_cons hk, e]
set_option maxHeartbeats 4000000 in
theorem lastOfEach_any (w : World) (v : Value) (l : List Pr) (h : PRow w v l) (hl : l.length < 549755813888) :
 Calls Tryz.prog 64 #[v] w fun e w' => ∃ v', e = .returned v' ∧ POwn w.heap.size w' v' (lastE l) ∧ Below w.heap.size w w' := by
 obtain ⟨ad, cap, rfl⟩ : ∃ ad cap, v = .slice ad l.length cap := by obtain ⟨ad, cap, rfl, _⟩ := h; exact ⟨ad, cap, rfl⟩
 have HR : Hid (PRow w (.slice ad l.length cap) l) := h
 obtain ⟨n, hn⟩ : ∃ n, l.length = n := ⟨_, rfl⟩
 have HN : Hid (l.length = n) := hn
 rw [hn] at HR hl
 clear h
 rw [hn]
 clear hn
 go_enter Tryz.func64, Tryz.ntmps64
 go_wp2
 go_loopg [3, 4, 5, 8] n (fun g s3 _ _ s8 wr => ∃ (k : Nat) (acc : List Pr), s8 = .int .i64 k ∧ k ≤ n ∧ n - k ≤ g ∧ Hid (POwn w.heap.size wr s3 acc) ∧ Hid (Below w.heap.size w wr) ∧ Hid (acc.length ≤ k) ∧ Hid (acc ++ lastE (l.drop k) = lastE l))
 case atStart => exact ⟨0, [], rfl, Nat.zero_le _, by omega, POwn.nil _ _, Below.refl _ _, Nat.le_refl _, by show _ = _; simp⟩
 case round =>
  obtain ⟨k, acc, rfl, hk, hg, HO, HB, HACC, HE⟩ := hrel

  by_cases hlt : k < n
  · have hltz : (k : Int) < (n : Int) := by omega
    obtain ⟨x, hx⟩ : ∃ x, l[k]? = some x := ⟨l[k]'(by have := HN.out; omega), List.getElem?_eq_getElem _⟩
    obtain ⟨b, off, rfl, hb, hcell⟩ := (HR.out.below HB.out).at (by omega)
    obtain ⟨c0, c1⟩ := hcell k x hx
    have HX : Hid (l[k]? = some x) := hx
    have HD : Hid (l.drop k = x :: l.drop (k + 1)) := drop_at l k x hx
    have rk1 : IntKind.i64.wrap ((k : Int) + 1) = (k : Int) + 1 := by rw [IntKind.wrap_i64]; omega
    by_cases hend : k + 1 = n
    · have hendz : ((k : Int) + 1 == (n : Int)) = true := beq_iff_eq.2 (by omega)
      have HE2 : Hid (acc ++ [x] ++ lastE (l.drop (k + 1)) = lastE l) := by
       show _ = _
       rw [← HE.out, HD.out, List.drop_eq_nil_of_le (by have := HN.out; omega)]
       simp [lastE]
      clear hcell hx
      go_wp2_with fail
      go_quiet (fail)
      have hWn : ∀ o : Obj, ((wr.alloc o).drewN nq).heap.size = wr.heap.size + 1 := fun o => by simp
      have HWo : Hid (∀ o : Obj, POwn w.heap.size ((wr.alloc o).drewN nq) u3 acc ∧ Below w.heap.size w ((wr.alloc o).drewN nq)) := fun o => ⟨HO.out.below (belowN ((Below.refl _ wr).alloc (Nat.le_refl _) _) nq), belowN (HB.out.alloc (by have := HB.out.size; omega) _) nq⟩
      go_wp2_with (at_builtin; refine append_x (by rfl) _ _ x _ rfl w.heap.size _ _ _ acc rfl (HWo.out _).1 rfl (hWn _).symm (by have := HACC.out; omega) (HWo.out _).2.size ?_)
      intro v2 w2 hr2 hb2
      have HR2 : Hid (POwn w.heap.size w2 v2 (acc ++ [x])) := hr2
      have HB2 : Hid (Below w.heap.size w w2) := (HWo.out _).2.trans hb2
      clear hr2 hb2
      go_wp2_with fail
      go_roundg (n - (k + 1))
      case measure => omega
      case rel => exact ⟨k + 1, acc ++ [x], by go_num, by omega, Nat.le_refl _, HR2, HB2, by have := HACC.out; show _ ≤ _; simp; omega, HE2⟩
    · have hendz : ((k : Int) + 1 == (n : Int)) = false := beq_eq_false_iff_ne.2 (by omega)
      obtain ⟨y, hy⟩ : ∃ y, l[k + 1]? = some y := ⟨l[k + 1]'(by have := HN.out; omega), List.getElem?_eq_getElem _⟩
      have HD2 : Hid (l.drop (k + 1) = y :: l.drop (k + 1 + 1)) := drop_at l (k + 1) y hy
      obtain ⟨d0, d1⟩ := hcell (k + 1) y hy
      have p1 : (0 : Int) ≤ (k : Int) + 1 := by omega
      have b1 : (k : Int) + 1 < (n : Int) := by omega
      have e1 : ((k : Int) + 1).toNat = k + 1 := by omega
      clear hcell hx hy
      by_cases hyx : y.1 = x.1
      · have hs : (y.1.toList == x.1.toList) = true := by rw [strEq]; exact decide_eq_true hyx
        have HE2 : Hid (acc ++ lastE (l.drop (k + 1)) = lastE l) := by
         show _ = _
         rw [← HE.out, HD.out, HD2.out, lastE_same _ hyx]
        clear hyx
        go_wp2_with fail
        go_quiet (fail)
        go_wp2_with fail
        go_roundg (n - (k + 1))
        case measure => omega
        case rel => exact ⟨k + 1, acc, by go_num, by omega, Nat.le_refl _, HO.out.below (belowN ((Below.refl _ wr).alloc (Nat.le_refl _) _) _), belowN (HB.out.alloc (by have := HB.out.size; omega) _) _, by have := HACC.out; show _ ≤ _; omega, HE2⟩
      · have hs : (y.1.toList == x.1.toList) = false := by rw [strEq]; exact decide_eq_false hyx
        have HE2 : Hid (acc ++ [x] ++ lastE (l.drop (k + 1)) = lastE l) := by
         show _ = _
         rw [← HE.out, HD.out, HD2.out, lastE_new _ hyx]
         simp
        clear hyx
        go_wp2_with fail
        go_quiet (fail)
        have hWn : ∀ o : Obj, ((wr.alloc o).drewN nq).heap.size = wr.heap.size + 1 := fun o => by simp
        have HWo : Hid (∀ o : Obj, POwn w.heap.size ((wr.alloc o).drewN nq) u3 acc ∧ Below w.heap.size w ((wr.alloc o).drewN nq)) := fun o => ⟨HO.out.below (belowN ((Below.refl _ wr).alloc (Nat.le_refl _) _) nq), belowN (HB.out.alloc (by have := HB.out.size; omega) _) nq⟩
        go_wp2_with (at_builtin; refine append_x (by rfl) _ _ x _ rfl w.heap.size _ _ _ acc rfl (HWo.out _).1 rfl (hWn _).symm (by have := HACC.out; omega) (HWo.out _).2.size ?_)
        intro v2 w2 hr2 hb2
        have HR2 : Hid (POwn w.heap.size w2 v2 (acc ++ [x])) := hr2
        have HB2 : Hid (Below w.heap.size w w2) := (HWo.out _).2.trans hb2
        clear hr2 hb2
        go_wp2_with fail
        go_roundg (n - (k + 1))
        case measure => omega
        case rel => exact ⟨k + 1, acc ++ [x], by go_num, by omega, Nat.le_refl _, HR2, HB2, by have := HACC.out; show _ ≤ _; simp; omega, HE2⟩
  · have hltz : ¬ (k : Int) < (n : Int) := by omega
    have HE2 : Hid (acc = lastE l) := by
     show _ = _
     rw [← HE.out, List.drop_eq_nil_of_le (by have := HN.out; omega)]
     simp [lastE]
    go_wp2_with fail
    go_ret
    exact ⟨_, rfl, HE2.out ▸ HO.out, HB.out⟩
end Go.Proofs.YtncnefpkfbngaaaGreatDoor

/- pairs.inOrder of one list and of two, pairs.Norm. -/
namespace Go.Proofs.YtncnefpkfbngaaaGreatDoor
open Go.RowKit Go.Shelf Go.Lib Go.Sort Pm
set_option maxRecDepth 100000

set_option maxHeartbeats 1000000 in
theorem insertion_nil (w : World) : Calls Tryz.prog 101 #[.slice none 0 0, .int .i64 0, .int .i64 0, .func (.func 63) #[] #[]] w fun e w' => e = .returned (.tuple #[]) ∧ w' = w := by
 go_enter Tryz.func101, Tryz.ntmps101
 go_wp2
 refine wp_loop_rounds 1 ?_
 rw [rounds_succ]
 go_wp2
 go_end0
 exact ⟨rfl, rfl⟩
set_option maxHeartbeats 1000000 in
theorem stable_nil (w : World) : Calls Tryz.prog 86 #[.slice none 0 0, .int .i64 0, .func (.func 63) #[] #[]] w fun e w' => e = .returned (.tuple #[]) ∧ w' = w := by
 go_enter Tryz.func86, Tryz.ntmps86
 go_wp2
 refine wp_loop_rounds 1 ?_
 rw [rounds_succ]
 go_wp2_with (go_at_call 101; refine (insertion_nil _).mono ?_; rintro e w2 ⟨rfl, rfl⟩)
 refine wp_loop_rounds 1 ?_
 rw [rounds_succ]
 go_wp2
 go_end0
 exact ⟨rfl, rfl⟩
set_option maxHeartbeats 1000000 in
theorem sortStable_nil (w : World) : Calls Tryz.prog 62 #[.slice none 0 0, .func (.func 63) #[] #[]] w fun e w' => e = .returned (.tuple #[]) ∧ w' = w := by
 go_enter Tryz.func62, Tryz.ntmps62
 go_wp2_with (go_at_call 86; refine (stable_nil _).mono ?_; rintro e w2 ⟨rfl, rfl⟩)
 go_end0
 exact ⟨rfl, rfl⟩
/-- The sort of a row that the call has made. -/
theorem sort_own {B : Nat} {w : World} {v : Value} {l : List Pr} (h : POwn B w v l) (hl : l.length < 1125899906842624) (hB : B ≤ w.heap.size) :
 Calls Tryz.prog 62 #[v, .func (.func 63) #[] #[]] w fun e w' => e = .returned (.tuple #[]) ∧ ∃ l', Stably lessB l l' ∧ POwn B w' v l' ∧ Below B w w' := by
 have h' := h
 obtain ⟨_, ⟨e, h0⟩ | ⟨g, cap, cur, rfl, h1, hh, h3, h4, h5, h6⟩⟩ := h
 · have hl0 : l = [] := List.eq_nil_of_length_eq_zero h0
   subst hl0
   subst e
   refine (sortStable_nil w).mono ?_
   rintro e w' ⟨rfl, rfl⟩
   exact ⟨rfl, [], ⟨List.Pairwise.nil, fun _ => rfl⟩, h', Below.refl _ _⟩
 · obtain ⟨R, S, hBg⟩ := RowP.of_own h' hl
   refine (sortStable_any g 0 l.length cap w w R hl l S rfl).mono ?_
   rintro e w' ⟨rfl, l', hs, hS⟩
   have hlen := hs.len
   have ho := h'.sorted hl hS hlen
   rw [hlen] at ho
   exact ⟨rfl, l', hs, ho, SWK.below hS hBg hB⟩
set_option maxHeartbeats 1000000 in
theorem inOrder_any (w : World) (vb n c : Nat) (l : List Pr) (hl : l.length < 549755813888)
 (hc : Calls Tryz.prog 61 #[.slice (some ⟨vb, 0, none⟩) n c] w fun e w' => ∃ v, e = .returned v ∧ POwn w.heap.size w' v l ∧ Below w.heap.size w w') :
 Calls Tryz.prog 35 #[.slice (some ⟨vb, 0, none⟩) n c] w fun e w' => ∃ v, e = .returned v ∧ POwn w.heap.size w' v (norm lessB l) ∧ Below w.heap.size w w' := by
 go_enter Tryz.func35, Tryz.ntmps35
 go_wp2_with (go_at_call 61; refine hc.mono ?_; rintro e w1 ⟨v1, rfl, ho1, hb1⟩)
 have H1 : Hid (POwn w.heap.size w1 v1 l ∧ Below w.heap.size w w1) := ⟨ho1, hb1⟩
 clear hc ho1 hb1
 go_wp2_with (go_at_call 62; refine (sort_own H1.out.1 (by omega) H1.out.2.size).mono ?_; rintro e w2 ⟨rfl, l', hs, ho2, hb2⟩)
 have H2 : Hid (Stably lessB l l' ∧ POwn w.heap.size w2 v1 l' ∧ Below w.heap.size w w2) := ⟨hs, ho2, H1.out.2.trans hb2⟩
 clear hs ho2 hb2
 go_wp2_with (go_at_call 64; refine (lastOfEach_any w2 v1 l' H2.out.2.1.row (by have := H2.out.1.len; omega)).mono ?_; rintro e w3 ⟨v3, rfl, ho3, hb3⟩)
 go_ret
 have e1 := norm_of_stably lessB_sto H2.out.1
 rw [e1] at ho3
 exact ⟨v3, rfl, ho3.mono H2.out.2.2.size, H2.out.2.2.trans (hb3.mono H2.out.2.2.size)⟩
set_option maxHeartbeats 1000000 in
theorem Norm_any (w : World) (v : Value) (l : List Pr) (h : PRow w v l) (hl : l.length < 549755813888) :
 Calls Tryz.prog 14 #[v] w fun e w' => ∃ v', e = .returned v' ∧ POwn w.heap.size w' v' (norm lessB l) ∧ Below w.heap.size w w' := by
 obtain ⟨ad, cap, rfl⟩ := h.form
 have hc := fun o => (⟨h.below ((Below.refl _ w).alloc (Nat.le_refl _) o), (Below.refl _ w).alloc (Nat.le_refl _) o⟩ : PRow (w.alloc o) (.slice ad l.length cap) l ∧ Below w.heap.size w (w.alloc o))
 have HC : Hid _ := hc
 clear hc h
 go_enter Tryz.func14, Tryz.ntmps14
 go_wp2_with (go_at_call 35; refine (inOrder_any _ _ _ _ l hl (Concat1_any _ _ _ _ l (HC.out _).1 hl (by simp) (by simp))).mono ?_; rintro e w1 ⟨v1, rfl, ho1, hb1⟩)
 go_ret
 exact ⟨v1, rfl, ho1.mono (HC.out _).2.size, (HC.out _).2.trans (hb1.mono (HC.out _).2.size)⟩
end Go.Proofs.YtncnefpkfbngaaaGreatDoor
