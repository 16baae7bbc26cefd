/- FuzzyOver: the law's own walk. -/
import Derived.Test.YtncnefpkfbngaaaGreatDoorMh
import Derived.Test.YtncnefpkfbngaaaGreatDoorRefMerge6
import Derived.Test.YtncnefpkfbngaaaGreatDoorMtsIn
namespace Go.Proofs.YtncnefpkfbngaaaGreatDoor
open Go.RowKit Go.Shelf Go.Lib Nums Fm Pk Pm Fz Ed Lv
set_option maxRecDepth 100000
/-- What on tells. -/
theorem on12_any (w : World) (ht : Tabs w) (v : Value) (l : List Pr) (h : PRow w v l) (hl : l.length ≤ 9223372036854775807) (hsm : Sm l) :
 Calls Tryz.prog 11 #[v] w fun e w' => ∃ o, e = .returned (.tuple #[.pointer o, .bool (onB l)]) ∧ Below w.heap.size w w' := by
 cases hb : onB l
 · exact (on12_no w v l h hl hsm hb).mono (by rintro e w' ⟨rfl, h2⟩; exact ⟨_, rfl, h2⟩)
 · exact (on12_yes w ht v l h hl hsm hb).mono (by rintro e w' ⟨wb, rfl, _, _, h2⟩; exact ⟨_, rfl, h2⟩)
set_option maxHeartbeats 4000000 in
theorem fover_walk (v u : Value) (q : Mt) (w : World) (ht : Tabs w) (l : List Pr) (h : PRow w v l) (hs : Sm l) (hl : l.length ≤ 1048576) (over : List Pr) (ho : PRow w u over) (hos : Sm over) (hol : over.length ≤ 1048576) (hq : SmM q) :
 Calls Tryz.prog 4 #[v, u, .agg #[.string q.1, .int .i64 q.2.1, .int .i64 q.2.2]] w fun e w' => e = .returned (.bool true) ∧ Below w.heap.size w w' := by
 obtain ⟨s, e, be⟩ := q
 have hz : s.size ≤ 9223372036854775807 := hq
 simp only
 obtain ⟨W0, hW0⟩ : ∃ W0, w.alloc (.cells #[.string s, .int .i64 e, .int .i64 be] 25) = W0 := ⟨_, rfl⟩
 obtain ⟨qb, hqb⟩ : ∃ qb, w.heap.size = qb := ⟨_, rfl⟩
 have HB0 : Hid (Below w.heap.size w W0) := by show Below _ _ _; rw [← hW0]; exact (Below.refl _ w).alloc (Nat.le_refl _) _
 have HQ0 : Hid (∀ W, Below W0.heap.size W0 W → W.cell? ⟨qb, 0, none⟩ = some (.string s) ∧ W.cell? ⟨qb, 1, none⟩ = some (.int .i64 e)) := fun W hW => by
  have hlt : qb < W0.heap.size := by rw [← hW0, ← hqb]; simp
  exact ⟨(hW.cell (p := ⟨qb, 0, none⟩) hlt).trans (by rw [← hW0, ← hqb]; simp), (hW.cell (p := ⟨qb, 1, none⟩) hlt).trans (by rw [← hW0, ← hqb]; simp)⟩
 have HBW : Hid (∀ W, Below W0.heap.size W0 W → Below w.heap.size w W) := fun W hW => HB0.out.trans (hW.mono HB0.out.size)
 have HAL : Hid (∀ W, Below W0.heap.size W0 W → Calls Tryz.prog 8 #[] W fun e w' => e = .returned (.bool true) ∧ Below W.heap.size W w') := fun W hW => alive12_any W (ht.below (HBW.out W hW))
 have HMB : Hid (∀ Bo, merge lessB l over = Bo → ∀ m, Bo.length = m → Calls Tryz.prog 10 #[v, u] W0 fun x w' => ∃ ba bc, x = .returned (.slice ba m bc) ∧ PRow w' (.slice ba m bc) Bo ∧ Below W0.heap.size W0 w') := fun Bo hBo m hm => (refMerge_any W0 v u l over (h.below HB0.out) (ho.below HB0.out) (by omega) (by omega) hs hos).mono (by
  rintro x w' ⟨v', rfl, hown, hb⟩
  rw [hBo] at hown
  obtain ⟨a, c, hsh⟩ := POwn.shape hown
  rw [hm] at hsh
  subst hsh
  exact ⟨a, c, rfl, hown.row, hb⟩)
 have hsB : Sm (merge lessB l over) := Sm.keep (Sm.norm (Sm.append hs hos))
 have hmB : (merge lessB l over).length ≤ 2097152 := by
  have h1 : (merge lessB l over).length ≤ (norm lessB (l ++ over)).length := List.length_filter_le _ _
  have h2 := norm_len (l ++ over)
  rw [List.length_append] at h2
  omega
 have hmo := fun (h1 : onB l = true) (h2 : onB (merge lessB l over) = true) (h3 : Go.Proofs.YtncnefpkfbngaaaGreatDoor.rightB s.data.toList e = true) => Mg.mg_over (over := over) (word := s) (e := e) (on_ok h1) (on_ok h2) h3
 have HV : Hid (∀ W, Below W0.heap.size W0 W → PRow W v l ∧ PRow W u over ∧ Tabs W) := fun W hW => ⟨h.below (HBW.out W hW), ho.below (HBW.out W hW), ht.below (HBW.out W hW)⟩
 obtain ⟨Bo, hBo⟩ : ∃ Bo, merge lessB l over = Bo := ⟨_, rfl⟩
 have HMB := HMB.out Bo hBo
 rw [hBo] at hsB hmB hmo
 obtain ⟨m, hm⟩ : ∃ m, Bo.length = m := ⟨_, rfl⟩
 have HMB : Hid (Calls Tryz.prog 10 #[v, u] W0 fun x w' => ∃ ba bc, x = .returned (.slice ba m bc) ∧ PRow w' (.slice ba m bc) Bo ∧ Below W0.heap.size W0 w') := HMB m hm
 have HE0 : Hid (w.alloc (.cells #[.string s, .int .i64 e, .int .i64 be] 25) = W0 ∧ w.heap.size = qb) := ⟨hW0, hqb⟩
 have HLL : Hid (l.length ≤ 1048576 ∧ over.length ≤ 1048576 ∧ Bo.length = m ∧ m ≤ 2097152) := ⟨hl, hol, hm, by omega⟩
 have HSS : Hid (Sm l ∧ Sm over ∧ Sm Bo ∧ s.size ≤ 9223372036854775807) := ⟨hs, hos, hsB, hz⟩
 have hfu := ho.form
 have hfv := h.form
 clear h ho hs hos hsB hz hl hol hm hmB hW0 hqb hBo ht hq
 have HON1 : Hid (∀ W, Below W0.heap.size W0 W → Calls Tryz.prog 11 #[v] W fun x w' => ∃ o, x = .returned (.tuple #[.pointer o, .bool (onB l)]) ∧ Below W.heap.size W w') := fun W hW => on12_any W (HV.out W hW).2.2 v l (HV.out W hW).1 (by have := HLL.out.1; omega) HSS.out.1
 have HON2 : Hid (∀ W a c, Below W0.heap.size W0 W → PRow W (.slice a m c) Bo → Calls Tryz.prog 11 #[.slice a m c] W fun x w' => ∃ o, x = .returned (.tuple #[.pointer o, .bool (onB Bo)]) ∧ Below W.heap.size W w') := fun W a c hW hr => on12_any W (HV.out W hW).2.2 _ Bo hr (by have := HLL.out.2.2; omega) HSS.out.2.2.1
 cases h1 : onB l with
 | false =>
  rw [h1] at HON1
  obtain ⟨ad, cap, rfl⟩ := hfv
  obtain ⟨bd, bap, rfl⟩ := hfu
  obtain ⟨b2, hb2⟩ : ∃ b2, onB Bo = b2 := ⟨_, rfl⟩
  rw [hb2] at HON2
  clear hmo h1 hb2
  go_enter Tryz.func4, Tryz.ntmps4
  go_upto_region 1 with fail
  rw [HE0.out.1, HE0.out.2]
  go_upto_region 2 with (go_at_call 10; refine HMB.out.mono ?_; rintro x w1 ⟨ba, bc, rfl, hr1, hb1⟩; have HB1 : Hid (Below W0.heap.size W0 w1) := hb1; have HR1 : Hid (PRow w1 (.slice ba m bc) Bo) := hr1; clear hb1 hr1)
  go_upto_region 3 with (go_at_call 11; refine (HON1.out _ HB1.out).mono ?_; rintro x w2 ⟨o1, rfl, hb2⟩; have HB2 : Hid (Below W0.heap.size W0 w2) := HB1.out.trans (hb2.mono HB1.out.size); have HR2 : Hid (PRow w2 (.slice ba m bc) Bo) := HR1.out.below hb2; clear hb2)
  go_wp2_with (first
   | (go_at_call 11; refine (HON2.out _ _ _ HB2.out HR2.out).mono ?_; rintro x w3 ⟨o2, rfl, hb3⟩; have HB3 : Hid (Below W0.heap.size W0 w3) := HB2.out.trans (hb3.mono HB2.out.size); clear hb3)
   | (go_at_call 8; refine (HAL.out _ HB3.out).mono ?_; rintro e w4 ⟨rfl, hb4⟩; have HB4 : Hid (Below W0.heap.size W0 w4) := HB3.out.trans (hb4.mono HB3.out.size); clear hb4))
  go_ret
  exact ⟨rfl, HBW.out _ HB4.out⟩
 | true =>
  cases h2 : onB Bo with
  | false =>
   rw [h1] at HON1
   rw [h2] at HON2
   obtain ⟨ad, cap, rfl⟩ := hfv
   obtain ⟨bd, bap, rfl⟩ := hfu
   clear hmo h1 h2
   go_enter Tryz.func4, Tryz.ntmps4
   go_upto_region 1 with fail
   rw [HE0.out.1, HE0.out.2]
   go_upto_region 2 with (go_at_call 10; refine HMB.out.mono ?_; rintro x w1 ⟨ba, bc, rfl, hr1, hb1⟩; have HB1 : Hid (Below W0.heap.size W0 w1) := hb1; have HR1 : Hid (PRow w1 (.slice ba m bc) Bo) := hr1; clear hb1 hr1)
   go_upto_region 3 with (go_at_call 11; refine (HON1.out _ HB1.out).mono ?_; rintro x w2 ⟨o1, rfl, hb2⟩; have HB2 : Hid (Below W0.heap.size W0 w2) := HB1.out.trans (hb2.mono HB1.out.size); have HR2 : Hid (PRow w2 (.slice ba m bc) Bo) := HR1.out.below hb2; clear hb2)
   go_wp2_with (first
    | (go_at_call 11; refine (HON2.out _ _ _ HB2.out HR2.out).mono ?_; rintro x w3 ⟨o2, rfl, hb3⟩; have HB3 : Hid (Below W0.heap.size W0 w3) := HB2.out.trans (hb3.mono HB2.out.size); clear hb3)
    | (go_at_call 8; refine (HAL.out _ HB3.out).mono ?_; rintro e w4 ⟨rfl, hb4⟩; have HB4 : Hid (Below W0.heap.size W0 w4) := HB3.out.trans (hb4.mono HB3.out.size); clear hb4))
   go_ret
   exact ⟨rfl, HBW.out _ HB4.out⟩
  | true =>
   clear HON1 HON2
   have HON1 : Hid (∀ W, Below W0.heap.size W0 W → Calls Tryz.prog 11 #[v] W fun x w' => ∃ wb, x = .returned (.tuple #[.pointer (some ⟨wb, 0, none⟩), .bool true]) ∧ W.heap.size ≤ wb ∧ WkOn w' wb l ∧ Below W.heap.size W w') := fun W hW => on12_yes W (HV.out W hW).2.2 v l (HV.out W hW).1 (by have := HLL.out.1; omega) HSS.out.1 h1
   have HON2 : Hid (∀ W a c, Below W0.heap.size W0 W → PRow W (.slice a m c) Bo → Calls Tryz.prog 11 #[.slice a m c] W fun x w' => ∃ wb, x = .returned (.tuple #[.pointer (some ⟨wb, 0, none⟩), .bool true]) ∧ W.heap.size ≤ wb ∧ WkOn w' wb Bo ∧ Below W.heap.size W w') := fun W a c hW hr => on12_yes W (HV.out W hW).2.2 _ Bo hr (by have := HLL.out.2.2; omega) HSS.out.2.2.1 h2
   have hl1 := allL_len l s.data.toList e
   have hl2 := allL_len Bo s.data.toList e
   have HALL : Hid (∀ W wb l', WkOn W wb l' → Calls Tryz.prog 12 #[.pointer (some ⟨wb, 0, none⟩), .string s, .int .i64 e] W fun x w' => ∃ ad cap, x = .returned (.tuple #[.slice ad (allL l' s.data.toList e).length cap, .int .i64 (allC s.data.toList e)]) ∧ MRow w' (.slice ad (allL l' s.data.toList e).length cap) (allL l' s.data.toList e) ∧ Below W.heap.size W w') := fun W wb l' hW => All_told W wb l' hW s e HSS.out.2.2.2
   have HMG : Hid (∀ W a, Below W0.heap.size W0 W → MRow W a (allL l s.data.toList e) → Calls Tryz.prog 6 #[a, u, .string s, .int .i64 e] W fun x w' => ∃ ad cap, x = .returned (.tuple #[.slice ad (Mg.mgL (allL l s.data.toList e) over s.data.toList e).length cap, .int .i64 (allC s.data.toList e)]) ∧ MRow w' (.slice ad (Mg.mgL (allL l s.data.toList e) over s.data.toList e).length cap) (Mg.mgL (allL l s.data.toList e) over s.data.toList e) ∧ Below W.heap.size W w') := fun W a hW hm => Mg.Merge_told W (HV.out W hW).2.2 a u _ over s e hm (HV.out W hW).2.1 HSS.out.2.1 HSS.out.2.2.2 (by have := HLL.out.1; omega) (by have := HLL.out.2.1; omega)
   obtain ⟨L1, hL1⟩ : ∃ L1, allL l s.data.toList e = L1 := ⟨_, rfl⟩
   obtain ⟨L2, hL2⟩ : ∃ L2, allL Bo s.data.toList e = L2 := ⟨_, rfl⟩
   obtain ⟨n1, hn1⟩ : ∃ n1, L1.length = n1 := ⟨_, rfl⟩
   obtain ⟨n2, hn2⟩ : ∃ n2, L2.length = n2 := ⟨_, rfl⟩
   have hn2b : n2 ≤ 2097152 := by have := HLL.out.2.2; rw [← hn2, ← hL2]; omega
   by_cases hr : Go.Proofs.YtncnefpkfbngaaaGreatDoor.rightB s.data.toList e = true
   · have hC : allC s.data.toList e = 0 := by unfold allC; rw [if_pos hr]
     have hmg := hmo h1 h2 hr
     rw [hL2] at hmg
     have HA1 : Hid (∀ W wb, WkOn W wb l → Calls Tryz.prog 12 #[.pointer (some ⟨wb, 0, none⟩), .string s, .int .i64 e] W fun x w' => ∃ ad cap, x = .returned (.tuple #[.slice ad n1 cap, .int .i64 0]) ∧ MRow w' (.slice ad n1 cap) L1 ∧ Below W.heap.size W w') := fun W wb hW => by have := HALL.out W wb l hW; rw [hL1, hC, hn1] at this; exact this
     have HA2 : Hid (∀ W wb, WkOn W wb Bo → Calls Tryz.prog 12 #[.pointer (some ⟨wb, 0, none⟩), .string s, .int .i64 e] W fun x w' => ∃ ad cap, x = .returned (.tuple #[.slice ad n2 cap, .int .i64 0]) ∧ MRow w' (.slice ad n2 cap) L2 ∧ Below W.heap.size W w') := fun W wb hW => by have := HALL.out W wb Bo hW; rw [hL2, hC, hn2] at this; exact this
     have HM : Hid (∀ W a, Below W0.heap.size W0 W → MRow W a L1 → Calls Tryz.prog 6 #[a, u, .string s, .int .i64 e] W fun x w' => ∃ ad cap, x = .returned (.tuple #[.slice ad n2 cap, .int .i64 0]) ∧ MRow w' (.slice ad n2 cap) L2 ∧ Below W.heap.size W w') := fun W a hW hm => by have := HMG.out W a hW (by rw [hL1]; exact hm); rw [hmg, hC, hn2] at this; exact this
     have HSM : Hid (∀ W a c b d, MRow W (.slice a n2 c) L2 → MRow W (.slice b n2 d) L2 → Calls Tryz.prog 9 #[.slice a n2 c, .slice b n2 d] W fun e w' => e = .returned (.bool true) ∧ Below W.heap.size W w') := fun W a c b d g1 g2 => same12_told W _ _ L2 g1 g2 (by omega)
     obtain ⟨ad, cap, rfl⟩ := hfv
     obtain ⟨bd, bap, rfl⟩ := hfu
     clear hmo h1 h2 hl1 hl2 HALL HMG hL1 hL2 hn1 hn2 hn2b hr hC hmg HV HLL HSS
     go_enter Tryz.func4, Tryz.ntmps4
     go_upto_region 1 with fail
     rw [HE0.out.1, HE0.out.2]
     go_upto_region 2 with (go_at_call 10; refine HMB.out.mono ?_; rintro x w1 ⟨ba, bc, rfl, hr1, hb1⟩; have HB1 : Hid (Below W0.heap.size W0 w1) := hb1; have HR1 : Hid (PRow w1 (.slice ba m bc) Bo) := hr1; clear hb1 hr1)
     go_upto_region 3 with (go_at_call 11; refine (HON1.out _ HB1.out).mono ?_; rintro x w2 ⟨wb1, rfl, _, hon, hb2⟩; have HB2 : Hid (Below W0.heap.size W0 w2) := HB1.out.trans (hb2.mono HB1.out.size); have HR2 : Hid (PRow w2 (.slice ba m bc) Bo) := HR1.out.below hb2; have HW2 : Hid (WkOn w2 wb1 l) := hon; clear hb2 hon)
     go_upto_region 6 with (go_at_call 11; refine (HON2.out _ _ _ HB2.out HR2.out).mono ?_; rintro x w3 ⟨wb2, rfl, _, hon, hb3⟩; have HB3 : Hid (Below W0.heap.size W0 w3) := HB2.out.trans (hb3.mono HB2.out.size); have HV3 : Hid (WkOn w3 wb1 l) := HW2.out.below hb3; have HW3 : Hid (WkOn w3 wb2 Bo) := hon; clear hb3 hon)
     obtain ⟨c0, c1⟩ := HQ0.out w3 HB3.out
     go_upto_region 7 with (go_at_call 12; refine (HA1.out _ _ HV3.out).mono ?_; rintro x w4 ⟨a4, c4, rfl, hm4, hb4⟩; have HB4 : Hid (Below W0.heap.size W0 w4) := HB3.out.trans (hb4.mono HB3.out.size); have HM4 : Hid (MRow w4 (.slice a4 n1 c4) L1) := hm4; have HW4 : Hid (WkOn w4 wb2 Bo) := HW3.out.below hb4; clear hb4 hm4 c0 c1)
     obtain ⟨c0, c1⟩ := HQ0.out w4 HB4.out
     go_upto_region 8 with (go_at_call 12; refine (HA2.out _ _ HW4.out).mono ?_; rintro x w5 ⟨a5, c5, rfl, hm5, hb5⟩; have HB5 : Hid (Below W0.heap.size W0 w5) := HB4.out.trans (hb5.mono HB4.out.size); have HM5 : Hid (MRow w5 (.slice a4 n1 c4) L1) := HM4.out.below hb5; have HN5 : Hid (MRow w5 (.slice a5 n2 c5) L2) := hm5; clear hb5 hm5 c0 c1)
     obtain ⟨c0, c1⟩ := HQ0.out w5 HB5.out
     go_wp2_with (first
      | (go_at_call 6; refine (HM.out _ _ HB5.out HM5.out).mono ?_; rintro x w6 ⟨a6, c6, rfl, hm6, hb6⟩; have HB6 : Hid (Below W0.heap.size W0 w6) := HB5.out.trans (hb6.mono HB5.out.size); have HM6 : Hid (MRow w6 (.slice a6 n2 c6) L2) := hm6; have HN6 : Hid (MRow w6 (.slice a5 n2 c5) L2) := HN5.out.below hb6; clear hb6 hm6 c0 c1)
      | (go_at_call 8; refine (HAL.out _ HB6.out).mono ?_; rintro e w7 ⟨rfl, hb7⟩; have HB7 : Hid (Below W0.heap.size W0 w7) := HB6.out.trans (hb7.mono HB6.out.size); have HM7 : Hid (MRow w7 (.slice a6 n2 c6) L2) := HM6.out.below hb7; have HN7 : Hid (MRow w7 (.slice a5 n2 c5) L2) := HN6.out.below hb7; clear hb7)
      | (go_at_call 9; refine (HSM.out _ _ _ _ _ HM7.out HN7.out).mono ?_; rintro e w8 ⟨rfl, hb8⟩))
     go_ret
     exact ⟨by first | rfl | simp, HBW.out _ (HB7.out.trans (hb8.mono HB7.out.size))⟩
   · have hC : allC s.data.toList e = 110 := by unfold allC; rw [if_neg hr]
     have HA1 : Hid (∀ W wb, WkOn W wb l → Calls Tryz.prog 12 #[.pointer (some ⟨wb, 0, none⟩), .string s, .int .i64 e] W fun x w' => ∃ ad cap, x = .returned (.tuple #[.slice ad n1 cap, .int .i64 110]) ∧ Below W.heap.size W w') := fun W wb hW => by have := HALL.out W wb l hW; rw [hL1, hC, hn1] at this; exact this.mono (by rintro x w' ⟨a, c, rfl, _, hb⟩; exact ⟨a, c, rfl, hb⟩)
     have HA2 : Hid (∀ W wb, WkOn W wb Bo → Calls Tryz.prog 12 #[.pointer (some ⟨wb, 0, none⟩), .string s, .int .i64 e] W fun x w' => ∃ ad cap, x = .returned (.tuple #[.slice ad n2 cap, .int .i64 110]) ∧ Below W.heap.size W w') := fun W wb hW => by have := HALL.out W wb Bo hW; rw [hL2, hC, hn2] at this; exact this.mono (by rintro x w' ⟨a, c, rfl, _, hb⟩; exact ⟨a, c, rfl, hb⟩)
     obtain ⟨ad, cap, rfl⟩ := hfv
     obtain ⟨bd, bap, rfl⟩ := hfu
     clear hmo h1 h2 hl1 hl2 HALL HMG hL1 hL2 hn1 hn2 hn2b hr hC HV HLL HSS
     go_enter Tryz.func4, Tryz.ntmps4
     go_upto_region 1 with fail
     rw [HE0.out.1, HE0.out.2]
     go_upto_region 2 with (go_at_call 10; refine HMB.out.mono ?_; rintro x w1 ⟨ba, bc, rfl, hr1, hb1⟩; have HB1 : Hid (Below W0.heap.size W0 w1) := hb1; have HR1 : Hid (PRow w1 (.slice ba m bc) Bo) := hr1; clear hb1 hr1)
     go_upto_region 3 with (go_at_call 11; refine (HON1.out _ HB1.out).mono ?_; rintro x w2 ⟨wb1, rfl, _, hon, hb2⟩; have HB2 : Hid (Below W0.heap.size W0 w2) := HB1.out.trans (hb2.mono HB1.out.size); have HR2 : Hid (PRow w2 (.slice ba m bc) Bo) := HR1.out.below hb2; have HW2 : Hid (WkOn w2 wb1 l) := hon; clear hb2 hon)
     go_upto_region 6 with (go_at_call 11; refine (HON2.out _ _ _ HB2.out HR2.out).mono ?_; rintro x w3 ⟨wb2, rfl, _, hon, hb3⟩; have HB3 : Hid (Below W0.heap.size W0 w3) := HB2.out.trans (hb3.mono HB2.out.size); have HV3 : Hid (WkOn w3 wb1 l) := HW2.out.below hb3; have HW3 : Hid (WkOn w3 wb2 Bo) := hon; clear hb3 hon)
     obtain ⟨c0, c1⟩ := HQ0.out w3 HB3.out
     go_upto_region 7 with (go_at_call 12; refine (HA1.out _ _ HV3.out).mono ?_; rintro x w4 ⟨a4, c4, rfl, hb4⟩; have HB4 : Hid (Below W0.heap.size W0 w4) := HB3.out.trans (hb4.mono HB3.out.size); have HW4 : Hid (WkOn w4 wb2 Bo) := HW3.out.below hb4; clear hb4 c0 c1)
     obtain ⟨c0, c1⟩ := HQ0.out w4 HB4.out
     go_upto_region 8 with (go_at_call 12; refine (HA2.out _ _ HW4.out).mono ?_; rintro x w5 ⟨a5, c5, rfl, hb5⟩; have HB5 : Hid (Below W0.heap.size W0 w5) := HB4.out.trans (hb5.mono HB4.out.size); clear hb5 c0 c1)
     go_wp2_with (go_at_call 8; refine (HAL.out _ HB5.out).mono ?_; rintro e w7 ⟨rfl, hb7⟩; have HB7 : Hid (Below W0.heap.size W0 w7) := HB5.out.trans (hb7.mono HB5.out.size); clear hb7)
     go_ret
     exact ⟨by first | rfl | simp, HBW.out _ HB7.out⟩
end Go.Proofs.YtncnefpkfbngaaaGreatDoor
