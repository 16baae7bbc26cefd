/- WalkStates: the law's own walk. -/
import Derived.Test.YthjlihhknaelaaaDoorWkSt
import Derived.Test.YthjlihhknaelaaaDoorFSameR
namespace Go.Proofs.YthjlihhknaelaaaDoor
open Go.RowKit Nums Fm Pk Pm
set_option maxRecDepth 100000

/-- What region 6 looks at. -/
structure S6s (mb : Nat) (base : Int) (vs : Value) (W : World) : Prop where
  c0 : W.cell? ⟨mb, 0, none⟩ = some (.int .i64 base)
  c1 : W.cell? ⟨mb, 1, none⟩ = some vs
theorem S6s.facts {mb : Nat} {base : Int} {vs : Value} {W : World} (h : S6s mb base vs W) : W.cell? ⟨mb, 0, none⟩ = some (.int .i64 base) ∧ W.cell? ⟨mb, 1, none⟩ = some vs := ⟨h.1, h.2⟩
theorem S6s.below {mb : Nat} {base : Int} {vs : Value} {W W' : World} (h : S6s mb base vs W) (hb : Below W.heap.size W W') : S6s mb base vs W' := ⟨(hb.cell (p := ⟨mb, 0, none⟩) (World.block_lt_of_cell? _ _ h.1)).trans h.1, (hb.cell (p := ⟨mb, 1, none⟩) (World.block_lt_of_cell? _ _ h.2)).trans h.2⟩
/-- What region 10 looks at. -/
structure S10s (mb sb g o : Nat) (vs : Value) (t : St) (va vb : Value) (W : World) : Prop where
  c1 : W.cell? ⟨mb, 1, none⟩ = some vs
  a0 : W.cell? ⟨sb, 0, none⟩ = some (.bool t.final)
  a1 : W.cell? ⟨sb, 1, none⟩ = some (.int .i64 t.out)
  a2 : W.cell? ⟨sb, 2, none⟩ = some va
  b0 : W.cell? ⟨g, o, none⟩ = some (.bool t.final)
  b1 : W.cell? ⟨g, o + 1, none⟩ = some (.int .i64 t.out)
  b2 : W.cell? ⟨g, o + 2, none⟩ = some vb
theorem S10s.facts {mb sb g o : Nat} {vs : Value} {t : St} {va vb : Value} {W : World} (h : S10s mb sb g o vs t va vb W) : W.cell? ⟨mb, 1, none⟩ = some vs ∧ W.cell? ⟨sb, 0, none⟩ = some (.bool t.final) ∧ W.cell? ⟨sb, 1, none⟩ = some (.int .i64 t.out) ∧ W.cell? ⟨sb, 2, none⟩ = some va ∧ W.cell? ⟨g, o, none⟩ = some (.bool t.final) ∧ W.cell? ⟨g, o + 1, none⟩ = some (.int .i64 t.out) ∧ W.cell? ⟨g, o + 2, none⟩ = some vb := ⟨h.1, h.2, h.3, h.4, h.5, h.6, h.7⟩
theorem S10s.below {mb sb g o : Nat} {vs : Value} {t : St} {va vb : Value} {W W' : World} (h : S10s mb sb g o vs t va vb W) (hb : Below W.heap.size W W') : S10s mb sb g o vs t va vb W' := by
  have key : ∀ {p : Addr} {v : Value}, W.cell? p = some v → W'.cell? p = some v := fun {p v} e => (hb.cell (p := p) (World.block_lt_of_cell? _ _ e)).trans e
  exact ⟨key h.1, key h.2, key h.3, key h.4, key h.5, key h.6, key h.7⟩
theorem wrap_nb {n : Nat} (h : n ≤ 1048576) : IntKind.i64.wrap ((n : Int) - 1) = (n : Int) - 1 := by
  by_cases h0 : n = 0
  · subst h0; decide
  · first | exact wrap_small _ (by omega) (by omega) | (rw [IntKind.wrap_i64]; exact IntWalk.wrap64_in _ (by omega)) | (rw [IntKind.wrap_i64]; unfold wrap64; omega)
set_option maxHeartbeats 8000000 in
theorem states_walk (v : Value) (i : Int) (w : World) (ht : Tabs w) (l : List Pr) (h : PRow w v l) (hs : Sm l) (hl : l.length ≤ 9223372036854775807) (hi : -9223372036854775808 ≤ i ∧ i ≤ 9223372036854775807) :
    Calls Tryd.prog 8 #[v, .int .i64 i] w fun e w' => e = .returned (.bool true) ∧ Below w.heap.size w w' := by
  have HAL : Hid (∀ W, Below w.heap.size w W → Calls Tryd.prog 11 #[] W fun e w' => e = .returned (.bool true) ∧ Below W.heap.size W w') := fun W hW => alive_any W (ht.below hW)
  cases hb : onB l with
  | false =>
    have HON : Hid (Calls Tryd.prog 10 #[v] w fun e w' => e = .returned (.tuple #[.pointer none, .bool false]) ∧ Below w.heap.size w w') := on_no w v l h hl hs hb
    obtain ⟨ad, cap, rfl⟩ := h.form
    clear h ht hs hb
    go_enter Tryd.func8, Tryd.ntmps8
    go_wp2_with (first
      | (go_at_call 10; refine HON.out.mono ?_; rintro e w1 ⟨rfl, hb1⟩; have HB1 : Hid (Below w.heap.size w w1) := hb1; clear hb1)
      | (go_at_call 11; refine (HAL.out _ HB1.out).mono ?_; rintro e w2 ⟨rfl, hb2⟩))
    go_ret
    exact ⟨rfl, HB1.out.trans (hb2.mono HB1.out.size)⟩
  | true =>
    have HON : Hid (Calls Tryd.prog 10 #[v] w fun e w' => ∃ wb, e = .returned (.tuple #[.pointer (some ⟨wb, 0, none⟩), .bool true]) ∧ w.heap.size ≤ wb ∧ WkOn w' wb l ∧ Below w.heap.size w w') := on_yes w ht v l h hl hs hb
    have hC : buildE l = 0 := by
      unfold onB at hb
      simp only [Bool.and_eq_true, decide_eq_true_eq] at hb
      exact right_build hb.2
    have HMK : Hid (∀ W, Below w.heap.size w W → Calls Tryd.prog 22 #[v] W fun e w' => ∃ base vs b, e = .returned (.agg #[.int .i64 base, vs]) ∧ BuildSays W w' l base vs b) := fun W hW => make_all W _ l (h.below hW) hC
    obtain ⟨ad, cap, rfl⟩ := h.form
    obtain ⟨n, hn⟩ : ∃ n, l.length = n := ⟨_, rfl⟩
    have HC : Hid (buildE l = 0) := hC
    rw [hn] at HON HMK ⊢
    clear h ht hs hb hl hn hC
    go_enter Tryd.func8, Tryd.ntmps8
    go_upto_region 5 with (first
      | (go_at_call 10; refine HON.out.mono ?_; rintro e w1 ⟨wb, rfl, hlo, hon, hb1⟩; have HB1 : Hid (Below w.heap.size w w1) := hb1; have HW : Hid (WkOn w1 wb l) := hon; clear hb1 hon hlo)
      | (go_at_call 22; refine (HMK.out _ HB1.out).mono ?_; rintro e w2 ⟨base, vs, b, rfl, hS⟩; obtain ⟨sd, nb, sc, hvs, hnb⟩ := StRow.form hS.row; subst hvs; have HS : Hid (BuildSays w1 w2 l base (.slice sd nb sc) b) := hS; have HNB : Hid (b.length = nb) := hnb; clear hS hnb))
    obtain ⟨W3, hW3⟩ : ∃ W3, W3 = w2.alloc (.cells #[.int .i64 base, .slice sd nb sc] 47) := ⟨_, rfl⟩
    obtain ⟨mb, hmb⟩ : ∃ mb, mb = w2.heap.size := ⟨_, rfl⟩
    rw [← hW3, ← hmb]
    have hb3 : Below w2.heap.size w2 W3 := by rw [hW3]; exact (Below.refl _ w2).alloc (Nat.le_refl _) _
    have hb13 : Below w1.heap.size w1 W3 := HS.out.bel.trans (hb3.mono HS.out.bel.size)
    have HB3 : Hid (Below w.heap.size w W3) := HB1.out.trans (hb13.mono HB1.out.size)
    have HMB : Hid (S6s mb base (.slice sd nb sc) W3) := ⟨by rw [hW3, hmb]; simp, by rw [hW3, hmb]; simp⟩
    have HW3 : Hid (WkOn W3 wb l) := HW.out.below hb13
    have hb2 : (machOf l).2 = b := by rw [HS.out.mach]
    have hb1 : (machOf l).1 = base := by rw [HS.out.mach]
    have HST : Hid (StsAt w2.heap.size w2 (.slice sd nb sc) (b.map ofSt)) := built_at HS.out.row HC.out hb2
    have HST3 : Hid (Below w2.heap.size w2 W3) := hb3
    have hnb : nb ≤ 1048576 := by have := mach_few (l := l); rw [hb2, HNB.out] at this; omega
    have HRT : Hid (∀ W, Below W3.heap.size W3 W → Calls Tryd.prog 24 #[.pointer (some ⟨wb, 0, none⟩)] W fun e w' => e = .returned (.int .i64 ((nb : Int) - 1)) ∧ w' = W) := fun W hW => by
      obtain ⟨D, _, _, hWk⟩ := (HW3.out.below hW).at'
      have := Root_any _ W wb _ _ _ hWk
      rw [List.length_map, hb2, HNB.out] at this
      exact this
    have HBS : Hid (∀ W, Below W3.heap.size W3 W → Calls Tryd.prog 25 #[.pointer (some ⟨wb, 0, none⟩)] W fun e w' => e = .returned (.int .i64 base) ∧ w' = W) := fun W hW => by
      obtain ⟨D, _, _, hWk⟩ := (HW3.out.below hW).at'
      have := Base_any _ W wb _ _ _ hWk
      rw [hb1] at this
      exact this
    by_cases hin : 0 ≤ i ∧ i < (nb : Int)
    · obtain ⟨k, rfl⟩ : ∃ k : Nat, i = k := ⟨i.toNat, by omega⟩
      obtain ⟨t, htk⟩ : ∃ t, b[k]? = some t := ⟨b[k]'(by have := HNB.out; omega), List.getElem?_eq_getElem _⟩
      have HSY : Hid (Calls Tryd.prog 23 #[.pointer (some ⟨wb, 0, none⟩), .int .i64 (k : Int)] W3 fun e w' => ∃ ad cap, e = .returned (.tuple #[.agg #[.bool t.final, .int .i64 t.out, .slice ad t.arcs.length cap], .bool true]) ∧ ArcsAt w'.heap.size w' (.slice ad t.arcs.length cap) (t.arcs.map ofArc) ∧ Below W3.heap.size W3 w') := State_yes W3 wb l HW3.out k t (by rw [hb2]; exact htk)
      obtain ⟨g, off, va, hgd, hg, x0, x1, x2, hA⟩ := HST.out.at (k := k) (s := ofSt t) (by rw [List.getElem?_map, htk]; rfl)
      obtain ⟨ta, tc, hva⟩ := hA.shape
      obtain ⟨na, hna⟩ : ∃ na, t.arcs.length = na := ⟨_, rfl⟩
      have hna2 : (ofSt t).arcs.length = na := by show (t.arcs.map ofArc).length = na; rw [List.length_map, hna]
      rw [hna2] at hva
      subst hva
      subst hgd
      have HX : Hid (∀ W, Below w2.heap.size w2 W → W.cell? ⟨g, off + k * 3, none⟩ = some (.bool t.final) ∧ W.cell? ⟨g, off + k * 3 + 1, none⟩ = some (.int .i64 t.out) ∧ W.cell? ⟨g, off + k * 3 + 2, none⟩ = some (.slice ta na tc) ∧ ArcsAt w2.heap.size W (.slice ta na tc) (t.arcs.map ofArc)) := fun W hW => ⟨(hW.cell (p := ⟨g, off + k * 3, none⟩) hg).trans x0, (hW.cell (p := ⟨g, off + k * 3 + 1, none⟩) hg).trans x1, (hW.cell (p := ⟨g, off + k * 3 + 2, none⟩) hg).trans x2, hA.below hW⟩
      have hkn : (k : Int) < (nb : Int) := hin.2
      have hk0 : ¬ (k : Int) < 0 := by omega
      have hkn2 : ¬ (nb : Int) ≤ (k : Int) := by omega
      rw [hna] at HSY
      clear hin htk x0 x1 x2 hA hna hna2 hb2 hb1 hb3 hb13 hW3 hmb hg
      go_upto_region 6 with (go_at_call 23; refine HSY.out.mono ?_; rintro e w4 ⟨ad4, cap4, rfl, hA4, hb4⟩; have HA4 : Hid (ArcsAt w4.heap.size w4 (.slice ad4 na cap4) (t.arcs.map ofArc)) := hA4; have HB4 : Hid (Below W3.heap.size W3 w4) := hb4; clear hA4 hb4)
      obtain ⟨W5, hW5⟩ : ∃ W5, W5 = w4.alloc (.cells #[.bool t.final, .int .i64 t.out, (.slice ad4 na cap4)] 51) := ⟨_, rfl⟩
      obtain ⟨sb, hsb⟩ : ∃ sb, sb = w4.heap.size := ⟨_, rfl⟩
      rw [← hW5, ← hsb]
      have hb5 : Below w4.heap.size w4 W5 := by rw [hW5]; exact (Below.refl _ w4).alloc (Nat.le_refl _) _
      have HB5 : Hid (Below W3.heap.size W3 W5.drew) := (HB4.out.trans (hb5.mono HB4.out.size)).drew
      have HSB : Hid (W5.drew.cell? ⟨sb, 0, none⟩ = some (.bool t.final) ∧ W5.drew.cell? ⟨sb, 1, none⟩ = some (.int .i64 t.out) ∧ W5.drew.cell? ⟨sb, 2, none⟩ = some (.slice ad4 na cap4)) := ⟨(by show W5.cell? ⟨sb, 0, none⟩ = _; rw [hW5, hsb]; simp), (by show W5.cell? ⟨sb, 1, none⟩ = _; rw [hW5, hsb]; simp), (by show W5.cell? ⟨sb, 2, none⟩ = _; rw [hW5, hsb]; simp)⟩
      have HAR : Hid (Below w4.heap.size w4 W5.drew) := hb5.drew
      have hS6 : S6s mb base (.slice (some ⟨g, off, none⟩) nb sc) W5.drew := HMB.out.below HB5.out
      clear hW5 hsb hb5
      refine region_at (S := S6s mb base (.slice (some ⟨g, off, none⟩) nb sc)) 14 rfl mixedP hS6 (fun _ => ?_)
      refine take_at (i := 0) 34 rfl rfl (by kernel_rfl) (by kernel_rfl) (by kernel_rfl) (fun _ _ _ h => h) (by rfl) (fun w hSw => by (have hSw2 := S6s.facts hSw; clear hSw; go_simp; first | done | exact rfl)) (by assumption) ?_
      simp only [List.setIfInBounds_toArray, List.set_cons_zero, List.set_cons_succ]
      refine take_at (i := 2) 36 rfl rfl (by kernel_rfl) (by kernel_rfl) (by kernel_rfl) (fun _ _ _ h => h) (by rfl) (fun w hSw => by (have hSw2 := S6s.facts hSw; clear hSw; go_simp; first | done | exact rfl)) (by assumption) ?_
      simp only [List.setIfInBounds_toArray, List.set_cons_zero, List.set_cons_succ]
      refine take_at (i := 3) 37 rfl rfl (by kernel_rfl) (by kernel_rfl) (by kernel_rfl) (fun _ _ _ h => h) (by rfl) (fun w hSw => by (have hSw2 := S6s.facts hSw; clear hSw; go_simp; first | done | exact rfl)) (by assumption) ?_
      simp only [List.setIfInBounds_toArray, List.set_cons_zero, List.set_cons_succ]
      refine take_at (i := 4) 38 rfl rfl (by kernel_rfl) (by kernel_rfl) (by kernel_rfl) (fun _ _ _ h => h) (by rfl) (fun w hSw => by (have hSw2 := S6s.facts hSw; clear hSw; go_simp; first | done | exact rfl)) (by assumption) ?_
      simp only [List.setIfInBounds_toArray, List.set_cons_zero, List.set_cons_succ]
      refine take_at (i := 5) (v := .int .i64 ((nb : Int) - 1)) 39 rfl rfl (by kernel_rfl) (by kernel_rfl) (by kernel_rfl) (fun _ _ _ h => h) (by rfl) (fun w hSw => by (clear hSw; go_simp; first | done | exact wrap_nb hnb)) (by assumption) ?_
      simp only [List.setIfInBounds_toArray, List.set_cons_zero, List.set_cons_succ]
      refine one_call (i := 1) (w0 := W5.drew) 35 24 #[.pointer (some ⟨wb, 0, none⟩)] (by kernel_rfl) rfl rfl (by rfl) (by kernel_rfl) ?_
      refine (HRT.out _ HB5.out).mono ?_
      rintro e w6 ⟨rfl, hw6⟩
      rw [hw6]
      clear hw6
      refine ⟨_, rfl, hS6, fun _ => ?_⟩
      simp only [List.setIfInBounds_toArray, List.set_cons_zero, List.set_cons_succ]
      refine take_at (i := 6) (v := .bool false) 40 rfl rfl (by kernel_rfl) (by kernel_rfl) (by kernel_rfl) (fun _ _ _ h => h) (by rfl) (fun w hSw => by (have hSw2 := S6s.facts hSw; clear hSw; go_simp; first | done | exact rfl | simp_all | (simp; omega))) (by assumption) ?_
      simp only [List.setIfInBounds_toArray, List.set_cons_zero, List.set_cons_succ]
      refine take_at (i := 7) 41 rfl rfl (by kernel_rfl) (by kernel_rfl) (by kernel_rfl) (fun _ _ _ h => h) (by rfl) (fun w hSw => by (have hSw2 := S6s.facts hSw; clear hSw; go_simp; first | done | exact rfl)) (by assumption) ?_
      simp only [List.setIfInBounds_toArray, List.set_cons_zero, List.set_cons_succ]
      refine take_at (i := 8) 42 rfl rfl (by kernel_rfl) (by kernel_rfl) (by kernel_rfl) (fun _ _ _ h => h) (by rfl) (fun w hSw => by (have hSw2 := S6s.facts hSw; clear hSw; go_simp; first | done | exact rfl)) (by assumption) ?_
      simp only [List.setIfInBounds_toArray, List.set_cons_zero, List.set_cons_succ]
      refine take_at (i := 10) 44 rfl rfl (by kernel_rfl) (by kernel_rfl) (by kernel_rfl) (fun _ _ _ h => h) (by rfl) (fun w hSw => by (have hSw2 := S6s.facts hSw; clear hSw; go_simp; first | done | exact rfl)) (by assumption) ?_
      simp only [List.setIfInBounds_toArray, List.set_cons_zero, List.set_cons_succ]
      refine take_at (i := 11) 45 rfl rfl (by kernel_rfl) (by kernel_rfl) (by kernel_rfl) (fun _ _ _ h => h) (by rfl) (fun w hSw => by (have hSw2 := S6s.facts hSw; clear hSw; go_simp; first | done | exact rfl)) (by assumption) ?_
      simp only [List.setIfInBounds_toArray, List.set_cons_zero, List.set_cons_succ]
      refine one_call (i := 9) (w0 := W5.drew) 43 25 #[.pointer (some ⟨wb, 0, none⟩)] (by kernel_rfl) rfl rfl (by rfl) (by kernel_rfl) ?_
      refine (HBS.out _ HB5.out).mono ?_
      rintro e w7 ⟨rfl, hw7⟩
      rw [hw7]
      clear hw7
      refine ⟨_, rfl, hS6, fun _ => ?_⟩
      simp only [List.setIfInBounds_toArray, List.set_cons_zero, List.set_cons_succ]
      refine take_at (i := 12) (v := .bool false) 46 rfl rfl (by kernel_rfl) (by kernel_rfl) (by kernel_rfl) (fun _ _ _ h => h) (by rfl) (fun w hSw => by (have hSw2 := S6s.facts hSw; clear hSw; go_simp; first | done | exact rfl | simp_all | (simp; omega))) (by assumption) ?_
      simp only [List.setIfInBounds_toArray, List.set_cons_zero, List.set_cons_succ]
      refine take_at (i := 13) 47 rfl rfl (by kernel_rfl) (by kernel_rfl) (by kernel_rfl) (fun _ _ _ h => h) (by rfl) (fun w hSw => by (have hSw2 := S6s.facts hSw; clear hSw; go_simp; first | done | exact rfl)) (by assumption) ?_
      simp only [List.setIfInBounds_toArray, List.set_cons_zero, List.set_cons_succ]
      refine wpAnyH_done (by kernel_rfl) ?_ _
      have hMD := hS6
      have HMD : Hid (S6s mb base (.slice (some ⟨g, off, none⟩) nb sc) W5.drew) := hMD
      obtain ⟨_, m1⟩ := hMD.facts
      clear hS6 hMD
      go_upto_region 10 with fail
      have hbd : Below W5.drew.heap.size W5.drew W5.drew.drew := (Below.refl _ W5.drew).drew
      have HB6 : Hid (Below W3.heap.size W3 W5.drew.drew) := HB5.out.trans (hbd.mono HB5.out.size)
      have hx := HX.out W5.drew.drew (HST3.out.trans (HB6.out.mono HST3.out.size))
      obtain ⟨x0, x1, x2, _⟩ := hx
      obtain ⟨y0, y1, y2⟩ := HSB.out
      have hS : S10s mb sb g (off + k * 3) (.slice (some ⟨g, off, none⟩) nb sc) t (.slice ad4 na cap4) (.slice ta na tc) W5.drew.drew := ⟨m1, y0, y1, y2, x0, x1, x2⟩
      have HAR2 : Hid (Below w4.heap.size w4 W5.drew.drew) := HAR.out.drew
      clear hbd x0 x1 x2 y0 y1 y2 m1
      refine region_at (S := S10s mb sb g (off + k * 3) (.slice (some ⟨g, off, none⟩) nb sc) t (.slice ad4 na cap4) (.slice ta na tc)) 14 rfl mixedP hS (fun _ => ?_)
      generalize W5.drew.drew = W6 at *
      refine one_call (i := 0) (w0 := W6) 62 11 #[] (by kernel_rfl) rfl rfl (by rfl) (by kernel_rfl) ?_
      refine (HAL.out _ (HB3.out.trans (HB6.out.mono HB3.out.size))).mono ?_
      rintro e w8 ⟨rfl, hb8⟩
      have hS8 := hS.below hb8
      have HB8 : Hid (Below W6.heap.size W6 w8) := hb8
      clear hS hb8
      refine ⟨_, rfl, hS8, fun _ => ?_⟩
      simp only [List.setIfInBounds_toArray, List.set_cons_zero, List.set_cons_succ]
      refine take_at (i := 1) 63 rfl rfl (by kernel_rfl) (by kernel_rfl) (by kernel_rfl) (fun _ _ _ h => h) (by rfl) (fun w hSw => by (have hSw2 := S10s.facts hSw; clear hSw; go_simp; first | done | exact rfl)) (by assumption) ?_
      simp only [List.setIfInBounds_toArray, List.set_cons_zero, List.set_cons_succ]
      refine take_at (i := 2) 64 rfl rfl (by kernel_rfl) (by kernel_rfl) (by kernel_rfl) (fun _ _ _ h => h) (by rfl) (fun w hSw => by (have hSw2 := S10s.facts hSw; clear hSw; go_simp; first | done | exact rfl)) (by assumption) ?_
      simp only [List.setIfInBounds_toArray, List.set_cons_zero, List.set_cons_succ]
      refine take_at (i := 3) 65 rfl rfl (by kernel_rfl) (by kernel_rfl) (by kernel_rfl) (fun _ _ _ h => h) (by rfl) (fun w hSw => by (have hSw2 := S10s.facts hSw; clear hSw; go_simp; first | done | exact rfl)) (by assumption) ?_
      simp only [List.setIfInBounds_toArray, List.set_cons_zero, List.set_cons_succ]
      refine take_at (i := 4) 66 rfl rfl (by kernel_rfl) (by kernel_rfl) (by kernel_rfl) (fun _ _ _ h => h) (by rfl) (fun w hSw => by (have hSw2 := S10s.facts hSw; clear hSw; go_simp; first | done | exact rfl)) (by assumption) ?_
      simp only [List.setIfInBounds_toArray, List.set_cons_zero, List.set_cons_succ]
      refine take_at (i := 5) 67 rfl rfl (by kernel_rfl) (by kernel_rfl) (by kernel_rfl) (fun _ _ _ h => h) (by rfl) (fun w hSw => by (have hSw2 := S10s.facts hSw; clear hSw; go_simp; first | done | exact rfl)) (by assumption) ?_
      simp only [List.setIfInBounds_toArray, List.set_cons_zero, List.set_cons_succ]
      refine take_at (i := 6) 68 rfl rfl (by kernel_rfl) (by kernel_rfl) (by kernel_rfl) (fun _ _ _ h => h) (by rfl) (fun w hSw => by (have hSw2 := S10s.facts hSw; clear hSw; go_simp; first | done | exact rfl)) (by assumption) ?_
      simp only [List.setIfInBounds_toArray, List.set_cons_zero, List.set_cons_succ]
      refine take_at (i := 7) 69 rfl rfl (by kernel_rfl) (by kernel_rfl) (by kernel_rfl) (fun _ _ _ h => h) (by rfl) (fun w hSw => by (have hSw2 := S10s.facts hSw; clear hSw; go_simp; first | done | exact rfl)) (by assumption) ?_
      simp only [List.setIfInBounds_toArray, List.set_cons_zero, List.set_cons_succ]
      refine take_at (i := 8) 70 rfl rfl (by kernel_rfl) (by kernel_rfl) (by kernel_rfl) (fun _ _ _ h => h) (by rfl) (fun w hSw => by (have hSw2 := S10s.facts hSw; clear hSw; go_simp; first | done | exact rfl)) (by assumption) ?_
      simp only [List.setIfInBounds_toArray, List.set_cons_zero, List.set_cons_succ]
      refine take_at (i := 9) 71 rfl rfl (by kernel_rfl) (by kernel_rfl) (by kernel_rfl) (fun _ _ _ h => h) (by rfl) (fun w hSw => by (have hSw2 := S10s.facts hSw; clear hSw; go_simp; first | done | exact rfl)) (by assumption) ?_
      simp only [List.setIfInBounds_toArray, List.set_cons_zero, List.set_cons_succ]
      refine take_at (i := 10) 72 rfl rfl (by kernel_rfl) (by kernel_rfl) (by kernel_rfl) (fun _ _ _ h => h) (by rfl) (fun w hSw => by (have hSw2 := S10s.facts hSw; clear hSw; go_simp; first | done | exact rfl)) (by assumption) ?_
      simp only [List.setIfInBounds_toArray, List.set_cons_zero, List.set_cons_succ]
      have hs8 : w2.heap.size ≤ w8.heap.size := Nat.le_trans HST3.out.size (Nat.le_trans HB6.out.size HB8.out.size)
      have hb38 : Below W3.heap.size W3 w8 := HB6.out.trans (HB8.out.mono HB6.out.size)
      have hxa := (HX.out w8 (HST3.out.trans (hb38.mono HST3.out.size))).2.2.2
      have hsame := sameStateR_any w8.heap.size w8 (ofSt t) (ofSt t) (.slice ad4 na cap4) (.slice ta na tc) (HA4.out.grow (Nat.le_refl _) (HAR2.out.trans (HB8.out.mono HAR2.out.size))) (hxa.grow hs8 (Below.refl _ _)) (Nat.le_refl _)
      rw [decide_eq_true rfl] at hsame
      clear hxa
      refine one_call (i := 11) (w0 := w8) 73 26 #[.agg #[.bool t.final, .int .i64 t.out, .slice ad4 na cap4], .agg #[.bool t.final, .int .i64 t.out, .slice ta na tc]] (by kernel_rfl) rfl rfl (by rfl) (by kernel_rfl) ?_
      refine hsame.mono ?_
      rintro e w9 ⟨rfl, hb9⟩
      have hS9 := hS8.below hb9
      have HB9 : Hid (Below w.heap.size w w9) := by
        have h1 := HB3.out.trans (hb38.mono HB3.out.size)
        exact h1.trans (hb9.mono h1.size)
      clear hS8 hb9 hsame hb38
      refine ⟨_, rfl, hS9, fun _ => ?_⟩
      simp only [List.setIfInBounds_toArray, List.set_cons_zero, List.set_cons_succ]
      refine take_at (i := 12) 74 rfl rfl (by kernel_rfl) (by kernel_rfl) (by kernel_rfl) (fun _ _ _ h => h) (by rfl) (fun w hSw => by (have hSw2 := S10s.facts hSw; clear hSw; go_simp; first | done | exact rfl)) (by assumption) ?_
      simp only [List.setIfInBounds_toArray, List.set_cons_zero, List.set_cons_succ]
      refine take_at (i := 13) 4 rfl rfl (by kernel_rfl) (by kernel_rfl) (by kernel_rfl) (fun _ _ _ h => h) (by rfl) (fun w hSw => by (have hSw2 := S10s.facts hSw; clear hSw; go_simp; first | done | exact rfl)) (by assumption) ?_
      simp only [List.setIfInBounds_toArray, List.set_cons_zero, List.set_cons_succ]
      refine wpAnyH_done (by kernel_rfl) ?_ _
      clear hS9
      go_wp2
      go_ret
      exact ⟨by first | rfl | simp, HB9.out⟩
    · have HSN : Hid (Calls Tryd.prog 23 #[.pointer (some ⟨wb, 0, none⟩), .int .i64 i] W3 fun e w' => e = .returned (.tuple #[.agg #[.bool false, .int .i64 0, .slice none 0 0], .bool false]) ∧ Below W3.heap.size W3 w') := State_no W3 wb l HW3.out i (by rw [hb2, HNB.out]; exact hin)
      clear hb2 hb1 hb3 hb13 hW3 hmb
      by_cases h0 : i < 0
      · clear hin
        go_upto_region 6 with (go_at_call 23; refine HSN.out.mono ?_; rintro e w4 ⟨rfl, hb4⟩; have HB4 : Hid (Below W3.heap.size W3 w4) := hb4; clear hb4)
        obtain ⟨W5, hW5⟩ : ∃ W5, W5 = w4.alloc (.cells #[.bool false, .int .i64 0, (.slice none 0 0)] 51) := ⟨_, rfl⟩
        obtain ⟨sb, hsb⟩ : ∃ sb, sb = w4.heap.size := ⟨_, rfl⟩
        rw [← hW5, ← hsb]
        have hb5 : Below w4.heap.size w4 W5 := by rw [hW5]; exact (Below.refl _ w4).alloc (Nat.le_refl _) _
        have HB5 : Hid (Below W3.heap.size W3 W5.drew) := (HB4.out.trans (hb5.mono HB4.out.size)).drew
        have HSB : Hid (W5.drew.cell? ⟨sb, 0, none⟩ = some (.bool false) ∧ W5.drew.cell? ⟨sb, 1, none⟩ = some (.int .i64 0) ∧ W5.drew.cell? ⟨sb, 2, none⟩ = some (.slice none 0 0)) := ⟨(by show W5.cell? ⟨sb, 0, none⟩ = _; rw [hW5, hsb]; simp), (by show W5.cell? ⟨sb, 1, none⟩ = _; rw [hW5, hsb]; simp), (by show W5.cell? ⟨sb, 2, none⟩ = _; rw [hW5, hsb]; simp)⟩
        have HAR : Hid (Below w4.heap.size w4 W5.drew) := hb5.drew
        have hS6 : S6s mb base (.slice sd nb sc) W5.drew := HMB.out.below HB5.out
        clear hW5 hsb hb5
        refine region_at (S := S6s mb base (.slice sd nb sc)) 14 rfl mixedP hS6 (fun _ => ?_)
        refine take_at (i := 0) 34 rfl rfl (by kernel_rfl) (by kernel_rfl) (by kernel_rfl) (fun _ _ _ h => h) (by rfl) (fun w hSw => by (have hSw2 := S6s.facts hSw; clear hSw; go_simp; first | done | exact rfl)) (by assumption) ?_
        simp only [List.setIfInBounds_toArray, List.set_cons_zero, List.set_cons_succ]
        refine take_at (i := 2) 36 rfl rfl (by kernel_rfl) (by kernel_rfl) (by kernel_rfl) (fun _ _ _ h => h) (by rfl) (fun w hSw => by (have hSw2 := S6s.facts hSw; clear hSw; go_simp; first | done | exact rfl)) (by assumption) ?_
        simp only [List.setIfInBounds_toArray, List.set_cons_zero, List.set_cons_succ]
        refine take_at (i := 3) 37 rfl rfl (by kernel_rfl) (by kernel_rfl) (by kernel_rfl) (fun _ _ _ h => h) (by rfl) (fun w hSw => by (have hSw2 := S6s.facts hSw; clear hSw; go_simp; first | done | exact rfl)) (by assumption) ?_
        simp only [List.setIfInBounds_toArray, List.set_cons_zero, List.set_cons_succ]
        refine take_at (i := 4) 38 rfl rfl (by kernel_rfl) (by kernel_rfl) (by kernel_rfl) (fun _ _ _ h => h) (by rfl) (fun w hSw => by (have hSw2 := S6s.facts hSw; clear hSw; go_simp; first | done | exact rfl)) (by assumption) ?_
        simp only [List.setIfInBounds_toArray, List.set_cons_zero, List.set_cons_succ]
        refine take_at (i := 5) (v := .int .i64 ((nb : Int) - 1)) 39 rfl rfl (by kernel_rfl) (by kernel_rfl) (by kernel_rfl) (fun _ _ _ h => h) (by rfl) (fun w hSw => by (clear hSw; go_simp; first | done | exact wrap_nb hnb)) (by assumption) ?_
        simp only [List.setIfInBounds_toArray, List.set_cons_zero, List.set_cons_succ]
        refine one_call (i := 1) (w0 := W5.drew) 35 24 #[.pointer (some ⟨wb, 0, none⟩)] (by kernel_rfl) rfl rfl (by rfl) (by kernel_rfl) ?_
        refine (HRT.out _ HB5.out).mono ?_
        rintro e w6 ⟨rfl, hw6⟩
        rw [hw6]
        clear hw6
        refine ⟨_, rfl, hS6, fun _ => ?_⟩
        simp only [List.setIfInBounds_toArray, List.set_cons_zero, List.set_cons_succ]
        refine take_at (i := 6) (v := .bool false) 40 rfl rfl (by kernel_rfl) (by kernel_rfl) (by kernel_rfl) (fun _ _ _ h => h) (by rfl) (fun w hSw => by (have hSw2 := S6s.facts hSw; clear hSw; go_simp; first | done | exact rfl | simp_all | (simp; omega))) (by assumption) ?_
        simp only [List.setIfInBounds_toArray, List.set_cons_zero, List.set_cons_succ]
        refine take_at (i := 7) 41 rfl rfl (by kernel_rfl) (by kernel_rfl) (by kernel_rfl) (fun _ _ _ h => h) (by rfl) (fun w hSw => by (have hSw2 := S6s.facts hSw; clear hSw; go_simp; first | done | exact rfl)) (by assumption) ?_
        simp only [List.setIfInBounds_toArray, List.set_cons_zero, List.set_cons_succ]
        refine take_at (i := 8) 42 rfl rfl (by kernel_rfl) (by kernel_rfl) (by kernel_rfl) (fun _ _ _ h => h) (by rfl) (fun w hSw => by (have hSw2 := S6s.facts hSw; clear hSw; go_simp; first | done | exact rfl)) (by assumption) ?_
        simp only [List.setIfInBounds_toArray, List.set_cons_zero, List.set_cons_succ]
        refine take_at (i := 10) 44 rfl rfl (by kernel_rfl) (by kernel_rfl) (by kernel_rfl) (fun _ _ _ h => h) (by rfl) (fun w hSw => by (have hSw2 := S6s.facts hSw; clear hSw; go_simp; first | done | exact rfl)) (by assumption) ?_
        simp only [List.setIfInBounds_toArray, List.set_cons_zero, List.set_cons_succ]
        refine take_at (i := 11) 45 rfl rfl (by kernel_rfl) (by kernel_rfl) (by kernel_rfl) (fun _ _ _ h => h) (by rfl) (fun w hSw => by (have hSw2 := S6s.facts hSw; clear hSw; go_simp; first | done | exact rfl)) (by assumption) ?_
        simp only [List.setIfInBounds_toArray, List.set_cons_zero, List.set_cons_succ]
        refine one_call (i := 9) (w0 := W5.drew) 43 25 #[.pointer (some ⟨wb, 0, none⟩)] (by kernel_rfl) rfl rfl (by rfl) (by kernel_rfl) ?_
        refine (HBS.out _ HB5.out).mono ?_
        rintro e w7 ⟨rfl, hw7⟩
        rw [hw7]
        clear hw7
        refine ⟨_, rfl, hS6, fun _ => ?_⟩
        simp only [List.setIfInBounds_toArray, List.set_cons_zero, List.set_cons_succ]
        refine take_at (i := 12) (v := .bool false) 46 rfl rfl (by kernel_rfl) (by kernel_rfl) (by kernel_rfl) (fun _ _ _ h => h) (by rfl) (fun w hSw => by (have hSw2 := S6s.facts hSw; clear hSw; go_simp; first | done | exact rfl | simp_all | (simp; omega))) (by assumption) ?_
        simp only [List.setIfInBounds_toArray, List.set_cons_zero, List.set_cons_succ]
        refine take_at (i := 13) 47 rfl rfl (by kernel_rfl) (by kernel_rfl) (by kernel_rfl) (fun _ _ _ h => h) (by rfl) (fun w hSw => by (have hSw2 := S6s.facts hSw; clear hSw; go_simp; first | done | exact rfl)) (by assumption) ?_
        simp only [List.setIfInBounds_toArray, List.set_cons_zero, List.set_cons_succ]
        refine wpAnyH_done (by kernel_rfl) ?_ _
        have hMD := hS6
        obtain ⟨_, m1⟩ := hMD.facts
        have HAF : Hid (Below w.heap.size w W5.drew) := HB3.out.trans (HB5.out.mono HB3.out.size)
        clear hS6 hMD
        generalize W5.drew = W6 at *
        go_wp2_with (go_at_call 11; refine (HAL.out _ HAF.out).mono ?_; rintro e w8 ⟨rfl, hb8⟩; have HB8 : Hid (Below w.heap.size w w8) := HAF.out.trans (hb8.mono HAF.out.size); clear hb8)
        go_ret
        exact ⟨by first | rfl | simp, HB8.out⟩
      · have h1 : (nb : Int) ≤ i := by omega
        clear hin
        go_upto_region 6 with (go_at_call 23; refine HSN.out.mono ?_; rintro e w4 ⟨rfl, hb4⟩; have HB4 : Hid (Below W3.heap.size W3 w4) := hb4; clear hb4)
        obtain ⟨W5, hW5⟩ : ∃ W5, W5 = w4.alloc (.cells #[.bool false, .int .i64 0, (.slice none 0 0)] 51) := ⟨_, rfl⟩
        obtain ⟨sb, hsb⟩ : ∃ sb, sb = w4.heap.size := ⟨_, rfl⟩
        rw [← hW5, ← hsb]
        have hb5 : Below w4.heap.size w4 W5 := by rw [hW5]; exact (Below.refl _ w4).alloc (Nat.le_refl _) _
        have HB5 : Hid (Below W3.heap.size W3 W5.drew) := (HB4.out.trans (hb5.mono HB4.out.size)).drew
        have HSB : Hid (W5.drew.cell? ⟨sb, 0, none⟩ = some (.bool false) ∧ W5.drew.cell? ⟨sb, 1, none⟩ = some (.int .i64 0) ∧ W5.drew.cell? ⟨sb, 2, none⟩ = some (.slice none 0 0)) := ⟨(by show W5.cell? ⟨sb, 0, none⟩ = _; rw [hW5, hsb]; simp), (by show W5.cell? ⟨sb, 1, none⟩ = _; rw [hW5, hsb]; simp), (by show W5.cell? ⟨sb, 2, none⟩ = _; rw [hW5, hsb]; simp)⟩
        have HAR : Hid (Below w4.heap.size w4 W5.drew) := hb5.drew
        have hS6 : S6s mb base (.slice sd nb sc) W5.drew := HMB.out.below HB5.out
        clear hW5 hsb hb5
        refine region_at (S := S6s mb base (.slice sd nb sc)) 14 rfl mixedP hS6 (fun _ => ?_)
        refine take_at (i := 0) 34 rfl rfl (by kernel_rfl) (by kernel_rfl) (by kernel_rfl) (fun _ _ _ h => h) (by rfl) (fun w hSw => by (have hSw2 := S6s.facts hSw; clear hSw; go_simp; first | done | exact rfl)) (by assumption) ?_
        simp only [List.setIfInBounds_toArray, List.set_cons_zero, List.set_cons_succ]
        refine take_at (i := 2) 36 rfl rfl (by kernel_rfl) (by kernel_rfl) (by kernel_rfl) (fun _ _ _ h => h) (by rfl) (fun w hSw => by (have hSw2 := S6s.facts hSw; clear hSw; go_simp; first | done | exact rfl)) (by assumption) ?_
        simp only [List.setIfInBounds_toArray, List.set_cons_zero, List.set_cons_succ]
        refine take_at (i := 3) 37 rfl rfl (by kernel_rfl) (by kernel_rfl) (by kernel_rfl) (fun _ _ _ h => h) (by rfl) (fun w hSw => by (have hSw2 := S6s.facts hSw; clear hSw; go_simp; first | done | exact rfl)) (by assumption) ?_
        simp only [List.setIfInBounds_toArray, List.set_cons_zero, List.set_cons_succ]
        refine take_at (i := 4) 38 rfl rfl (by kernel_rfl) (by kernel_rfl) (by kernel_rfl) (fun _ _ _ h => h) (by rfl) (fun w hSw => by (have hSw2 := S6s.facts hSw; clear hSw; go_simp; first | done | exact rfl)) (by assumption) ?_
        simp only [List.setIfInBounds_toArray, List.set_cons_zero, List.set_cons_succ]
        refine take_at (i := 5) (v := .int .i64 ((nb : Int) - 1)) 39 rfl rfl (by kernel_rfl) (by kernel_rfl) (by kernel_rfl) (fun _ _ _ h => h) (by rfl) (fun w hSw => by (clear hSw; go_simp; first | done | exact wrap_nb hnb)) (by assumption) ?_
        simp only [List.setIfInBounds_toArray, List.set_cons_zero, List.set_cons_succ]
        refine one_call (i := 1) (w0 := W5.drew) 35 24 #[.pointer (some ⟨wb, 0, none⟩)] (by kernel_rfl) rfl rfl (by rfl) (by kernel_rfl) ?_
        refine (HRT.out _ HB5.out).mono ?_
        rintro e w6 ⟨rfl, hw6⟩
        rw [hw6]
        clear hw6
        refine ⟨_, rfl, hS6, fun _ => ?_⟩
        simp only [List.setIfInBounds_toArray, List.set_cons_zero, List.set_cons_succ]
        refine take_at (i := 6) (v := .bool false) 40 rfl rfl (by kernel_rfl) (by kernel_rfl) (by kernel_rfl) (fun _ _ _ h => h) (by rfl) (fun w hSw => by (have hSw2 := S6s.facts hSw; clear hSw; go_simp; first | done | exact rfl | simp_all | (simp; omega))) (by assumption) ?_
        simp only [List.setIfInBounds_toArray, List.set_cons_zero, List.set_cons_succ]
        refine take_at (i := 7) 41 rfl rfl (by kernel_rfl) (by kernel_rfl) (by kernel_rfl) (fun _ _ _ h => h) (by rfl) (fun w hSw => by (have hSw2 := S6s.facts hSw; clear hSw; go_simp; first | done | exact rfl)) (by assumption) ?_
        simp only [List.setIfInBounds_toArray, List.set_cons_zero, List.set_cons_succ]
        refine take_at (i := 8) 42 rfl rfl (by kernel_rfl) (by kernel_rfl) (by kernel_rfl) (fun _ _ _ h => h) (by rfl) (fun w hSw => by (have hSw2 := S6s.facts hSw; clear hSw; go_simp; first | done | exact rfl)) (by assumption) ?_
        simp only [List.setIfInBounds_toArray, List.set_cons_zero, List.set_cons_succ]
        refine take_at (i := 10) 44 rfl rfl (by kernel_rfl) (by kernel_rfl) (by kernel_rfl) (fun _ _ _ h => h) (by rfl) (fun w hSw => by (have hSw2 := S6s.facts hSw; clear hSw; go_simp; first | done | exact rfl)) (by assumption) ?_
        simp only [List.setIfInBounds_toArray, List.set_cons_zero, List.set_cons_succ]
        refine take_at (i := 11) 45 rfl rfl (by kernel_rfl) (by kernel_rfl) (by kernel_rfl) (fun _ _ _ h => h) (by rfl) (fun w hSw => by (have hSw2 := S6s.facts hSw; clear hSw; go_simp; first | done | exact rfl)) (by assumption) ?_
        simp only [List.setIfInBounds_toArray, List.set_cons_zero, List.set_cons_succ]
        refine one_call (i := 9) (w0 := W5.drew) 43 25 #[.pointer (some ⟨wb, 0, none⟩)] (by kernel_rfl) rfl rfl (by rfl) (by kernel_rfl) ?_
        refine (HBS.out _ HB5.out).mono ?_
        rintro e w7 ⟨rfl, hw7⟩
        rw [hw7]
        clear hw7
        refine ⟨_, rfl, hS6, fun _ => ?_⟩
        simp only [List.setIfInBounds_toArray, List.set_cons_zero, List.set_cons_succ]
        refine take_at (i := 12) (v := .bool false) 46 rfl rfl (by kernel_rfl) (by kernel_rfl) (by kernel_rfl) (fun _ _ _ h => h) (by rfl) (fun w hSw => by (have hSw2 := S6s.facts hSw; clear hSw; go_simp; first | done | exact rfl | simp_all | (simp; omega))) (by assumption) ?_
        simp only [List.setIfInBounds_toArray, List.set_cons_zero, List.set_cons_succ]
        refine take_at (i := 13) 47 rfl rfl (by kernel_rfl) (by kernel_rfl) (by kernel_rfl) (fun _ _ _ h => h) (by rfl) (fun w hSw => by (have hSw2 := S6s.facts hSw; clear hSw; go_simp; first | done | exact rfl)) (by assumption) ?_
        simp only [List.setIfInBounds_toArray, List.set_cons_zero, List.set_cons_succ]
        refine wpAnyH_done (by kernel_rfl) ?_ _
        have hMD := hS6
        obtain ⟨_, m1⟩ := hMD.facts
        have HAF : Hid (Below w.heap.size w W5.drew) := HB3.out.trans (HB5.out.mono HB3.out.size)
        clear hS6 hMD
        generalize W5.drew = W6 at *
        go_wp2_with (go_at_call 11; refine (HAL.out _ HAF.out).mono ?_; rintro e w8 ⟨rfl, hb8⟩; have HB8 : Hid (Below w.heap.size w w8) := HAF.out.trans (hb8.mono HAF.out.size); clear hb8)
        go_ret
        exact ⟨by first | rfl | simp, HB8.out⟩
end Go.Proofs.YthjlihhknaelaaaDoor
