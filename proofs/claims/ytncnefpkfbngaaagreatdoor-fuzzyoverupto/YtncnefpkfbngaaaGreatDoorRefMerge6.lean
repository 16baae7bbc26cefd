/- The reference's Merge. -/
import Derived.Test.YtncnefpkfbngaaaGreatDoorMh
namespace Go.Proofs.YtncnefpkfbngaaaGreatDoor
open Go.RowKit Nums Pm
set_option maxRecDepth 100000

theorem keepP_append (a b : List Pr) : keep (a ++ b) = keep a ++ keep b := List.filter_append ..
theorem take_snocP {l : List Pr} {k : Nat} {x : Pr} (h : l[k]? = some x) : l.take (k + 1) = l.take k ++ [x] := by rw [List.take_add_one, h]; rfl
theorem POwn.empty (w : World) : POwn w.heap.size (w.alloc (.cells #[] 47)) (.slice (some ⟨w.heap.size, 0, none⟩) 0 0) [] :=
 ⟨rfl, .inr ⟨w.heap.size, 0, #[], rfl, Nat.le_refl _, alloc_newP _ _, Nat.le_refl _, Nat.zero_le _, rfl, rfl⟩⟩
set_option maxHeartbeats 2000000 in
theorem refMerge_any (w : World) (u v : Value) (l m : List Pr) (h1 : PRow w u l) (h2 : PRow w v m) (hl : l.length < 68719476736) (hm : m.length < 68719476736) (hs1 : Sm l) (hs2 : Sm m) :
 Calls Tryz.prog 10 #[u, v] w fun e w' => ∃ v', e = .returned v' ∧ POwn w.heap.size w' v' (merge lessB l m) ∧ Below w.heap.size w w' := by
 obtain ⟨ad1, cap1, rfl⟩ := h1.form
 obtain ⟨ad2, cap2, rfl⟩ := h2.form
 have HC : Hid (∀ W, Below w.heap.size w W → PRow W (.slice ad1 l.length cap1) l ∧ PRow W (.slice ad2 m.length cap2) m) := fun W hW => ⟨h1.below hW, h2.below hW⟩
 have HS : Hid (Sm l ∧ Sm m) := ⟨hs1, hs2⟩
 have HW1 : Hid (POwn w.heap.size (w.alloc (.cells #[] 47)) (.slice (some ⟨w.heap.size, 0, none⟩) 0 0) [] ∧ Below w.heap.size w (w.alloc (.cells #[] 47))) := ⟨POwn.empty w, (Below.refl _ w).alloc (Nat.le_refl _) _⟩
 clear h1 h2 hs1 hs2
 go_enter Tryz.func10, Tryz.ntmps10
 go_wp2_with (at_builtin; refine append_p (by rfl) _ _ rfl w.heap.size _ _ [] l rfl HW1.out.1 rfl (HC.out _ HW1.out.2).1 (by simp; omega) HW1.out.2.size ?_)
 intro v1 w1 hr1 hb1 _
 have HO1 : Hid (POwn w.heap.size w1 v1 l ∧ Below w.heap.size w w1) := ⟨hr1, HW1.out.2.trans hb1⟩
 clear hr1 hb1 HW1
 go_wp2_with (at_builtin; refine append_p (by rfl) _ _ rfl w.heap.size _ _ l m rfl HO1.out.1 rfl (HC.out _ HO1.out.2).2 (by omega) HO1.out.2.size ?_)
 intro v2 w2 hr2 hb2 _
 have HO2 : Hid (POwn w.heap.size w2 v2 (l ++ m) ∧ Below w.heap.size w w2) := ⟨hr2, HO1.out.2.trans hb2⟩
 clear hr2 hb2 HO1
 go_wp2_with (go_at_call 23; refine (refNorm_any w2 v2 (l ++ m) HO2.out.1.row (by simp; omega) (HS.out.1.append HS.out.2)).mono ?_; rintro e w3 ⟨v3, rfl, ho3, hb3⟩)
 obtain ⟨L, hL⟩ : ∃ L, L = norm lessB (l ++ m) := ⟨_, rfl⟩
 have HB3 : Hid (Below w.heap.size w w3) := HO2.out.2.trans (hb3.mono HO2.out.2.size)
 rw [← hL] at ho3
 have HLL : Hid (L.length < 137438953472) := by show _ < _; have := norm_len (l ++ m); rw [hL]; simp at this; omega
 have HM : Hid (merge lessB l m = keep L) := by show _ = _; rw [hL]; rfl
 obtain ⟨ad3, cap3, rfl⟩ := ho3.shape
 have HR3 : Hid (PRow w3 (.slice ad3 L.length cap3) L) := ho3.row
 obtain ⟨n, hn⟩ : ∃ n, L.length = n := ⟨_, rfl⟩
 have HN : Hid (L.length = n) := hn
 rw [hn] at HR3 HLL
 have hn2 : n < 137438953472 := HLL.out
 rw [hn]
 clear ho3 hb3 HO2 hL hn
 go_wp2
 go_loopg [7, 8] n (fun g s7 s8 wr => ∃ (k : Nat), s8 = .int .i64 k ∧ k ≤ n ∧ n - k ≤ g ∧ Hid (POwn w3.heap.size wr s7 (keep (L.take k))) ∧ Hid (Below w3.heap.size w3 wr))
 case atStart => exact ⟨0, rfl, Nat.zero_le _, by omega, POwn.nil _ _, Below.refl _ _⟩
 case round =>
  obtain ⟨k, rfl, hk, hg, HO, HB⟩ := hrel
  by_cases hlt : k < n
  · have hltz : (k : Int) < (n : Int) := by omega
    obtain ⟨x, hx⟩ : ∃ x, L[k]? = some x := ⟨L[k]'(by have := HN.out; omega), List.getElem?_eq_getElem _⟩
    obtain ⟨b, off, rfl, hb, hcell⟩ := (HR3.out.below HB.out).at (by omega)
    obtain ⟨c0, c1⟩ := hcell k x hx
    by_cases h0 : x.2 = 0
    · have h0b : (x.2 == 0) = true := beq_iff_eq.2 h0
      have HE : Hid (keep (L.take (k + 1)) = keep (L.take k)) := by show _ = _; rw [take_snocP hx, keepP_append]; simp [keep, h0]
      clear hcell hx h0
      go_wp2
      go_roundg (n - (k + 1))
      case measure => omega
      case rel => exact ⟨k + 1, by go_num, by omega, Nat.le_refl _, by show POwn _ _ _ _; rw [HE.out]; exact HO.out, HB⟩
    · have h0b : (x.2 == 0) = false := beq_eq_false_iff_ne.2 h0
      have HE : Hid (keep (L.take (k + 1)) = keep (L.take k) ++ [x]) := by show _ = _; rw [take_snocP hx, keepP_append]; simp [keep, h0]
      have HKL : Hid ((keep (L.take k)).length ≤ k) := Nat.le_trans (List.length_filter_le ..) (List.length_take_le ..)
      clear hcell hx h0
      go_wp2_with (at_builtin; refine append_x (by rfl) _ _ x _ rfl w3.heap.size _ _ _ _ rfl HO.out rfl rfl (by have := HKL.out; omega) HB.out.size ?_)
      intro v4 w4 hr4 hb4
      have HO4 : Hid (POwn w3.heap.size w4 v4 (keep (L.take (k + 1)))) := by show POwn _ _ _ _; rw [HE.out]; exact hr4
      have HB4 : Hid (Below w3.heap.size w3 w4) := HB.out.trans hb4
      clear hr4 hb4
      go_wp2_with fail
      go_roundg (n - (k + 1))
      case measure => omega
      case rel => exact ⟨k + 1, by go_num, by omega, Nat.le_refl _, HO4, HB4⟩
  · have hltz : ¬ (k : Int) < (n : Int) := by omega
    have HE : Hid (L.take k = L) := List.take_of_length_le (by have := HN.out; omega)
    rw [HE.out, ← HM.out] at HO
    go_wp2
    go_ret
    exact ⟨_, rfl, HO.out.mono HB3.out.size, HB3.out.trans (HB.out.mono HB3.out.size)⟩
end Go.Proofs.YtncnefpkfbngaaaGreatDoor
