/- FstApart: the law's own walk. -/
import Derived.Test.YtfekpkjcociidaaDoorFSame
namespace Go.Proofs.YtfekpkjcociidaaDoor
open Go.RowKit Nums Fm
set_option maxRecDepth 100000

theorem inv_apart {D : List (List En)} {b : List St} (h : Inv D b) {i k : Nat} {s t : St} (hi : b[i]? = some s) (hk : b[k]? = some t) (hne : i ≠ k) : s ≠ t := fun e => by
  subst e
  exact hne (nodup_at h.nd (h.row i s hi).1 (h.row k s hk).1)
/-- In a round: the state is in its box. -/
structure AIn (w wq : World) (mb : Nat) (base : Int) (vs : Value) (b : List St) (sb : Nat) (s : St) (va : Value) : Prop where
  beh : Behind w wq mb base vs b
  box : wq.heap[sb]? = some (.cells #[.bool s.final, .int .i64 s.out, va] 43)
  arcs : AOwn w.heap.size wq va s.arcs
theorem AIn.below {w wq wq' : World} {mb : Nat} {base : Int} {vs : Value} {b : List St} {sb : Nat} {s : St} {va : Value} (h : AIn w wq mb base vs b sb s va) (hb : Below wq.heap.size wq wq') : AIn w wq' mb base vs b sb s va :=
  ⟨h.beh.below hb, (hb.block sb (Array.getElem?_eq_some_iff.1 h.box).1).trans h.box, GOwn.below h.arcs hb⟩
/-- What region 10 looks at. -/
structure S10 (mb sb gs k : Nat) (vs : Value) (s t : St) (ua ub : Value) (w : World) : Prop where
  m : w.cell? ⟨mb, 1, none⟩ = some vs
  a0 : w.cell? ⟨sb, 0, none⟩ = some (.bool s.final)
  a1 : w.cell? ⟨sb, 1, none⟩ = some (.int .i64 s.out)
  a2 : w.cell? ⟨sb, 2, none⟩ = some ua
  b0 : w.cell? ⟨gs, k * 3, none⟩ = some (.bool t.final)
  b1 : w.cell? ⟨gs, k * 3 + 1, none⟩ = some (.int .i64 t.out)
  b2 : w.cell? ⟨gs, k * 3 + 2, none⟩ = some ub
theorem S10.facts {mb sb gs k : Nat} {vs : Value} {s t : St} {ua ub : Value} {w : World} (h : S10 mb sb gs k vs s t ua ub w) : w.cell? ⟨mb, 1, none⟩ = some vs ∧ w.cell? ⟨sb, 0, none⟩ = some (.bool s.final) ∧ w.cell? ⟨sb, 1, none⟩ = some (.int .i64 s.out) ∧ w.cell? ⟨sb, 2, none⟩ = some ua ∧ w.cell? ⟨gs, k * 3, none⟩ = some (.bool t.final) ∧ w.cell? ⟨gs, k * 3 + 1, none⟩ = some (.int .i64 t.out) ∧ w.cell? ⟨gs, k * 3 + 2, none⟩ = some ub := ⟨h.m, h.a0, h.a1, h.a2, h.b0, h.b1, h.b2⟩
theorem S10.below {mb sb gs k : Nat} {vs : Value} {s t : St} {ua ub : Value} {w w' : World} (h : S10 mb sb gs k vs s t ua ub w) (hb : Below w.heap.size w w') : S10 mb sb gs k vs s t ua ub w' := by
  have c : ∀ {g o : Nat} {v : Value}, w.cell? ⟨g, o, none⟩ = some v → w'.cell? ⟨g, o, none⟩ = some v := fun {g o v} h => (hb.cell (p := ⟨g, o, none⟩) (lt_of_cell h)).trans h
  exact ⟨c h.m, c h.a0, c h.a1, c h.a2, c h.b0, c h.b1, c h.b2⟩
set_option maxHeartbeats 4000000 in
theorem apart_walk (v : Value) (w : World) (ht : Tabs w) (l : List Pr) (h : PRow w v l) (hs : Sm l) (hl : l.length ≤ 9223372036854775807) :
    Calls Tryd.prog 6 #[v] w fun e w' => e = .returned (.bool true) ∧ Below w.heap.size w w' := by
  have HBLD := Build_any w v l h hl hs ht
  obtain ⟨C, hC⟩ : ∃ C, buildE l = C := ⟨_, rfl⟩
  rw [hC] at HBLD
  have HT : Hid (Tabs w) := ht
  have HC : Hid (buildE l = C) := hC
  obtain ⟨ad0, cap0, rfl⟩ := h.form
  obtain ⟨nl, hnl⟩ : ∃ nl, l.length = nl := ⟨_, rfl⟩
  rw [hnl] at HBLD hl ⊢
  have HB0 : Hid (Calls Tryd.prog 13 #[.slice ad0 nl cap0] w fun e w' => ∃ base vs b, e = .returned (.tuple #[.agg #[.int .i64 base, vs], .int .i64 C]) ∧ BuildSays w w' l base vs b) := HBLD
  have HFEW : Hid (∀ W, Calls Tryd.prog 11 #[.slice ad0 nl cap0] W fun e w' => e = .returned (.bool (decide (nl ≤ 300) || decide (4096 < nl))) ∧ w' = W) := fun W => few_any ad0 nl cap0 W hl
  have HA : Hid (∀ w1 base vs b, BuildSays w w1 l base vs b → ∀ o, Tabs (w1.alloc o) ∧ Below w.heap.size w (w1.alloc o)) := fun w1 base vs b h o => by
    have hb := h.bel.alloc h.bel.size o
    exact ⟨HT.out.below hb, hb⟩
  clear h hs ht HBLD hC hnl
  go_enter Tryd.func6, Tryd.ntmps6
  by_cases hC0 : ¬ C = 0
  · have hCb : (C == 0) = false := beq_eq_false_iff_ne.2 hC0
    have hCn : (C != 0) = true := by simp [bne, hCb]
    clear hC0
    go_wp2_with (first
      | (go_at_call 13; refine HB0.out.mono ?_; rintro e w1 ⟨base, vs, b, rfl, hS⟩; obtain ⟨sd, sc, hvs⟩ := hS.row.shape; subst hvs; have HS : Hid _ := hS; clear hS)
      | (go_at_call 12; refine (alive_any _ (HA.out _ _ _ _ HS.out _).1).mono ?_; rintro e w2 ⟨rfl, hb2⟩))
    go_ret
    exact ⟨rfl, (HA.out _ _ _ _ HS.out _).2.trans (hb2.mono (HA.out _ _ _ _ HS.out _).2.size)⟩
  have hC0' : C = 0 := Classical.not_not.1 hC0
  subst hC0'
  clear hC0
  obtain ⟨fw, hfw⟩ : ∃ fw, (decide (nl ≤ 300) || decide (4096 < nl)) = fw := ⟨_, rfl⟩
  rw [hfw] at HFEW
  clear hfw
  cases fw with
  | false =>
    go_wp2_with (first
      | (go_at_call 13; refine HB0.out.mono ?_; rintro e w1 ⟨base, vs, b, rfl, hS⟩; obtain ⟨sd, sc, hvs⟩ := hS.row.shape; subst hvs; have HS : Hid _ := hS; clear hS)
      | (go_at_call 11; refine (HFEW.out _).mono ?_; rintro e w2 ⟨rfl, rfl⟩)
      | (go_at_call 12; refine (alive_any _ (HA.out _ _ _ _ HS.out _).1).mono ?_; rintro e w2 ⟨rfl, hb2⟩))
    go_ret
    exact ⟨rfl, (HA.out _ _ _ _ HS.out _).2.trans (hb2.mono (HA.out _ _ _ _ HS.out _).2.size)⟩
  | true =>
  go_upto_region 4 with (first
    | (go_at_call 13; refine HB0.out.mono ?_; rintro e w1 ⟨base, vs, b, rfl, hS⟩; obtain ⟨sd, sc, hvs⟩ := hS.row.shape; obtain ⟨nb, hnb⟩ : ∃ nb, b.length = nb := ⟨_, rfl⟩; rw [hnb] at hvs; subst hvs; have HS : Hid _ := hS; have HNB : Hid (b.length = nb) := hnb; clear hS hnb)
    | (go_at_call 11; refine (HFEW.out _).mono ?_; rintro e w2 ⟨rfl, rfl⟩))
  have HBH : Hid _ := Behind.mk' HS.out
  obtain ⟨D, hD⟩ := mach_inv HC.out
  rw [HS.out.mach] at hD
  have HD : Hid (Inv D b) := hD
  have hnbs : nb ≤ 102400 := by have := mach_small (l := l); rw [HS.out.mach] at this; rw [← HNB.out]; exact this
  clear hD
  obtain ⟨mb, hmb⟩ : ∃ mb, mb = w1.heap.size := ⟨_, rfl⟩
  obtain ⟨wm, hwm⟩ : ∃ wm, wm = w1.alloc (.cells #[.int .i64 base, .slice sd nb sc] 27) := ⟨_, rfl⟩
  have HST : Hid (Behind w wm mb base (.slice sd nb sc) b) := by rw [hmb, hwm]; exact HBH.out
  rw [← hmb, ← hwm]
  have hc1 : wm.cell? ⟨mb, 1, none⟩ = some (.slice sd nb sc) := by simp [World.cell?, HST.out.mac]
  clear hmb hwm HBH HS
  go_wp2
  go_loopg [5, 6, 7, 8, 9, 26] nb (fun gm _ _ _ _ _ s26 wr => ∃ (k : Nat), s26 = .int .i64 k ∧ k ≤ nb ∧ nb - k ≤ gm ∧ Hid (Behind w wr mb base (.slice sd nb sc) b))
  case atStart => exact ⟨0, rfl, Nat.zero_le _, by omega, HST⟩
  case round =>
    clear hc1
    obtain ⟨i, rfl, hik, hgm, HBr⟩ := hrel
    by_cases hlt : i < nb
    · have hltz : (i : Int) < (nb : Int) := by omega
      obtain ⟨s, hs⟩ : ∃ s, b[i]? = some s := ⟨b[i]'(by have := HNB.out; omega), List.getElem?_eq_getElem _⟩
      obtain ⟨gs, cap, eg, hg, hcell⟩ := HBr.out.row.at (by have := HNB.out; omega)
      simp only [Value.slice.injEq] at eg
      obtain ⟨rfl, hnl, rfl⟩ := eg
      obtain ⟨va, hA, c0, c1, c2⟩ := hcell i s hs
      obtain ⟨vd, vc, hva, _⟩ := GOwn.shape hA
      rw [List.length_map] at hva
      obtain ⟨na, hna⟩ : ∃ na, s.arcs.length = na := ⟨_, rfl⟩
      rw [hna] at hva
      subst hva
      have HNA : Hid (s.arcs.length = na) := hna
      have HSI : Hid (b[i]? = some s) := hs
      have hna4 : na ≤ 9223372036854775807 := by have := GOwn.small hA; rw [List.length_map, hna] at this; simp only [maxLen] at this; omega
      have HAW : Hid (AOwn w.heap.size wr (.slice vd na vc) s.arcs) := hA
      clear hnl hcell hs hA hna
      go_upto_region 7 with fail
      obtain ⟨wz, hwz⟩ : ∃ wz, wz = wr.alloc (.cells #[.bool s.final, .int .i64 s.out, .slice vd na vc] 43) := ⟨_, rfl⟩
      obtain ⟨sb, hsb⟩ : ∃ sb, sb = wr.heap.size := ⟨_, rfl⟩
      rw [← hwz, ← hsb]
      have hbz : Below wr.heap.size wr wz := by rw [hwz]; exact (Below.refl _ wr).alloc (Nat.le_refl _) _
      have HIN : Hid (AIn w wz mb base (.slice (some ⟨gs, 0, none⟩) nb sc) b sb s (.slice vd na vc)) := ⟨HBr.out.below hbz, by rw [hwz, hsb]; exact alloc_newP _ _, GOwn.below HAW.out hbz⟩
      clear hwz hsb hbz c0 c1 c2
      go_wp2
      go_loopg [7, 32] i (fun gm2 _ s32 wq => ∃ (k : Nat), s32 = .int .i64 k ∧ k ≤ i ∧ i - k ≤ gm2 ∧ Hid (AIn w wq mb base (.slice (some ⟨gs, 0, none⟩) nb sc) b sb s (.slice vd na vc)))
      case atStart => exact ⟨0, rfl, Nat.zero_le _, by omega, HIN⟩
      case round =>
        obtain ⟨k, rfl, hki, hgm2, HQ⟩ := hrel
        by_cases hlt2 : k < i
        · have hltz2 : (k : Int) < (i : Int) := by omega
          have hknb : (k : Int) < (nb : Int) := by omega
          obtain ⟨t, htk⟩ : ∃ t, b[k]? = some t := ⟨b[k]'(by have := HNB.out; omega), List.getElem?_eq_getElem _⟩
          obtain ⟨gs', cap', eg', _, hcell'⟩ := HQ.out.beh.row.at (by have := HNB.out; omega)
          simp only [Value.slice.injEq, Option.some.injEq, Addr.mk.injEq] at eg'
          obtain ⟨⟨rfl, hz1, hz2⟩, hz3, rfl⟩ := eg'
          clear hz1 hz2 hz3
          obtain ⟨ub, hub, q0, q1, q2⟩ := hcell' k t htk
          obtain ⟨yd, yc, hyv, _⟩ := GOwn.shape hub
          obtain ⟨yn, hyn⟩ : ∃ yn, (t.arcs.map cellsA).length = yn := ⟨_, rfl⟩
          rw [hyn] at hyv
          subst hyv
          have hST : S10 mb sb gs k (.slice (some ⟨gs, 0, none⟩) nb sc) s t (.slice vd na vc) (.slice yd yn yc) wr := ⟨by simp [World.cell?, HQ.out.beh.mac], by simp [World.cell?, HQ.out.box], by simp [World.cell?, HQ.out.box], by simp [World.cell?, HQ.out.box], q0, q1, q2⟩
          have HS10 : Hid _ := hST
          have hS0 := hST.below (Below.refl _ wr).drew
          have HCALL := sameState_any w.heap.size w.heap.size wr.drew s t _ _ (GOwn.below HQ.out.arcs (Below.refl _ wr).drew) (GOwn.below hub (Below.refl _ wr).drew)
          rw [decide_eq_false (inv_apart HD.out HSI.out htk (by omega))] at HCALL
          have HCH : Hid (Calls Tryd.prog 19 #[.agg #[.bool s.final, .int .i64 s.out, .slice vd na vc], .agg #[.bool t.final, .int .i64 t.out, .slice yd yn yc]] wr.drew fun e w' => e = .returned (.bool false) ∧ Below wr.drew.heap.size wr.drew w') := HCALL
          clear hcell' htk hub q0 q1 q2 hyn hST HCALL
          go_upto_region 10 with fail
          refine region_at (S := S10 mb sb gs k (.slice (some ⟨gs, 0, none⟩) nb sc) s t (.slice vd na vc) (.slice yd yn yc)) 7 rfl mixedP hS0 (fun _ => ?_)
          refine take_at (i := 0) 35 rfl rfl (by kernel_rfl) (by kernel_rfl) (by kernel_rfl) (fun _ _ _ h => h) (by rfl) (fun w hSw => by (have hSw2 := S10.facts hSw; clear hSw; go_simp; first | done | exact rfl)) (by assumption) ?_
          simp only [List.setIfInBounds_toArray, List.set_cons_zero, List.set_cons_succ]
          refine take_at (i := 1) 36 rfl rfl (by kernel_rfl) (by kernel_rfl) (by kernel_rfl) (fun _ _ _ h => h) (by rfl) (fun w hSw => by (have hSw2 := S10.facts hSw; clear hSw; go_simp; first | done | exact rfl)) (by assumption) ?_
          simp only [List.setIfInBounds_toArray, List.set_cons_zero, List.set_cons_succ]
          refine take_at (i := 2) 37 rfl rfl (by kernel_rfl) (by kernel_rfl) (by kernel_rfl) (fun _ _ _ h => h) (by rfl) (fun w hSw => by (have hSw2 := S10.facts hSw; clear hSw; go_simp; first | done | exact rfl)) (by assumption) ?_
          simp only [List.setIfInBounds_toArray, List.set_cons_zero, List.set_cons_succ]
          refine take_at (i := 3) 38 rfl rfl (by kernel_rfl) (by kernel_rfl) (by kernel_rfl) (fun _ _ _ h => h) (by rfl) (fun w hSw => by (have hSw2 := S10.facts hSw; clear hSw; go_simp; first | done | exact rfl)) (by assumption) ?_
          simp only [List.setIfInBounds_toArray, List.set_cons_zero, List.set_cons_succ]
          refine take_at (i := 4) 39 rfl rfl (by kernel_rfl) (by kernel_rfl) (by kernel_rfl) (fun _ _ _ h => h) (by rfl) (fun w hSw => by (have hSw2 := S10.facts hSw; clear hSw; go_simp; first | done | exact rfl)) (by assumption) ?_
          simp only [List.setIfInBounds_toArray, List.set_cons_zero, List.set_cons_succ]
          refine take_at (i := 5) 40 rfl rfl (by kernel_rfl) (by kernel_rfl) (by kernel_rfl) (fun _ _ _ h => h) (by rfl) (fun w hSw => by (have hSw2 := S10.facts hSw; clear hSw; go_simp; first | done | exact rfl)) (by assumption) ?_
          simp only [List.setIfInBounds_toArray, List.set_cons_zero, List.set_cons_succ]
          refine one_call (i := 6) (w0 := wr.drew) 41 19 #[.agg #[.bool s.final, .int .i64 s.out, .slice vd na vc], .agg #[.bool t.final, .int .i64 t.out, .slice yd yn yc]] (by kernel_rfl) rfl rfl (by rfl) (by kernel_rfl) ?_
          refine HCH.out.mono ?_
          rintro e w3 ⟨rfl, hb3⟩
          have hb3r : Below wr.heap.size wr w3 := (Below.refl _ wr).drew.trans hb3
          refine ⟨_, rfl, HS10.out.below hb3r, fun _ => ?_⟩
          refine wpAnyH_done (by kernel_rfl) ?_ _
          simp only [List.setIfInBounds_toArray, List.set_cons_zero, List.set_cons_succ]
          have HQ3 : Hid (AIn w w3 mb base (.slice (some ⟨gs, 0, none⟩) nb sc) b sb s (.slice vd na vc)) := HQ.out.below hb3r
          clear hb3 hb3r hS0
          go_wp2
          go_roundg (i - (k + 1))
          case measure => omega
          case rel => exact ⟨k + 1, by go_num, by omega, Nat.le_refl _, HQ3⟩
        · have hltz2 : ¬ (k : Int) < (i : Int) := by omega
          have hx2 : wr.cell? ⟨sb, 2, none⟩ = some (.slice vd na vc) := by simp [World.cell?, HQ.out.box]
          go_wp2
          go_loopg [8, 9, 46] na (fun gm3 _ _ s46 wq => ∃ (j : Nat), s46 = .int .i64 j ∧ j ≤ na ∧ na - j ≤ gm3 ∧ Hid (AIn w wq mb base (.slice (some ⟨gs, 0, none⟩) nb sc) b sb s (.slice vd na vc)))
          case atStart => exact ⟨0, rfl, Nat.zero_le _, by omega, HQ⟩
          case round =>
            clear hx2
            obtain ⟨j, rfl, hjn, hgm3, HJ⟩ := hrel
            by_cases hlt3 : j < na
            · have hltz3 : (j : Int) < (na : Int) := by omega
              obtain ⟨a, ha⟩ : ∃ a, s.arcs[j]? = some a := ⟨s.arcs[j]'(by have := HNA.out; omega), List.getElem?_eq_getElem _⟩
              obtain ⟨ga, ca, ea, hga, _, _, hac⟩ := HJ.out.arcs.at (by have := HNA.out; omega)
              simp only [Value.slice.injEq] at ea
              obtain ⟨rfl, hz, rfl⟩ := ea
              obtain ⟨d0, d1, d2⟩ := hac j a ha
              obtain ⟨_, hrow2, hcan⟩ := HD.out.row i s HSI.out
              have hto := hrow2 a (List.mem_of_getElem? ha)
              obtain ⟨to, hto2⟩ : ∃ to, a.to = to := ⟨_, rfl⟩
              rw [hto2] at d2 hto
              have hto0 : ¬ (to : Int) < 0 := by omega
              have htoi : ¬ (i : Int) ≤ (to : Int) := by omega
              have HAC : Hid (∀ (m : Nat) (x : Arc), s.arcs[m]? = some x → wr.cell? ⟨ga, m * 3, none⟩ = some (.int .i32 x.label)) := fun m x hx => (hac m x hx).1
              have HLB : Hid (∀ (m : Nat) (x : Arc), m < j → s.arcs[m]? = some x → x.label < a.label) := fun m x hm hx => by
                obtain ⟨h1, e1⟩ := List.getElem?_eq_some_iff.1 hx
                obtain ⟨h2, e2⟩ := List.getElem?_eq_some_iff.1 ha
                have := List.pairwise_iff_getElem.1 hcan.lab m j h1 h2 hm
                rw [e1, e2] at this
                exact this
              clear hz hac ha hrow2 hcan hto hto2
              go_upto_region 16 with fail
              obtain ⟨wy, hwy⟩ : ∃ wy, wy = wr.alloc (.cells #[.int .i32 a.label, .int .i64 a.out, .int .i64 to] 46) := ⟨_, rfl⟩
              obtain ⟨ab, hab⟩ : ∃ ab, ab = wr.heap.size := ⟨_, rfl⟩
              rw [← hwy, ← hab]
              have hby : Below wr.heap.size wr wy := by rw [hwy]; exact (Below.refl _ wr).alloc (Nat.le_refl _) _
              have hbx : wy.heap[ab]? = some (.cells #[.int .i32 a.label, .int .i64 a.out, .int .i64 to] 46) := by rw [hwy, hab]; exact alloc_newP _ _
              obtain ⟨y0, y1, y2⟩ := (TriAt.of hbx).facts
              have z2 : wy.cell? ⟨sb, 2, none⟩ = some (.slice (some ⟨ga, 0, none⟩) na vc) := by simp [World.cell?, (HJ.out.below hby).box]
              have HJ2 : Hid (∀ q, AIn w (wy.drewN q) mb base (.slice (some ⟨gs, 0, none⟩) nb sc) b sb s (.slice (some ⟨ga, 0, none⟩) na vc)) := fun q => HJ.out.below (belowN hby q)
              have HAC2 : Hid (∀ (m : Nat) (x : Arc), s.arcs[m]? = some x → wy.cell? ⟨ga, m * 3, none⟩ = some (.int .i32 x.label)) := fun m x hx => (hby.cell (p := ⟨ga, m * 3, none⟩) (lt_of_cell (HAC.out m x hx))).trans (HAC.out m x hx)
              clear hwy hab hby hbx d0 d1 d2
              by_cases hj0 : j = 0
              · have hj0z : ¬ (0 : Int) < (j : Int) := by omega
                have hgd : decide (0 < j) = false := decide_eq_false (by omega)
                go_quiet (fail)
                go_wp2
                go_roundg (na - (j + 1))
                case measure => omega
                case rel => exact ⟨j + 1, by go_num, by omega, Nat.le_refl _, HJ2.out _⟩
              · have hj0z : (0 : Int) < (j : Int) := by omega
                have hgd : decide (0 < j) = true := decide_eq_true (by omega)
                obtain ⟨jp, hjp⟩ : ∃ jp, jp + 1 = j := ⟨j - 1, by omega⟩
                have ejp : (j : Int) - 1 = (jp : Int) := by omega
                obtain ⟨x, hx⟩ : ∃ x, s.arcs[jp]? = some x := ⟨s.arcs[jp]'(by have := HNA.out; omega), List.getElem?_eq_getElem _⟩
                have x0 := HAC2.out jp x hx
                have hxl : ¬ a.label ≤ x.label := by have := HLB.out jp x (by omega) hx; omega
                have rjp : IntKind.i64.wrap (jp : Int) = (jp : Int) := by rw [IntKind.wrap_i64]; omega
                have pjp : (0 : Int) ≤ (jp : Int) := by omega
                have bjp : (jp : Int) < (na : Int) := by omega
                have tjp : (jp : Int).toNat = jp := by omega
                clear hx hjp hj0
                go_quiet (fail)
                go_wp2
                go_roundg (na - (j + 1))
                case measure => omega
                case rel => exact ⟨j + 1, by go_num, by omega, Nat.le_refl _, HJ2.out _⟩
            · have hltz3 : ¬ (j : Int) < (na : Int) := by omega
              have HBJ : Hid (Behind w wr mb base (.slice (some ⟨gs, 0, none⟩) nb sc) b) := HJ.out.beh
              go_wp2
              go_roundg (nb - (i + 1))
              case measure => omega
              case rel => exact ⟨i + 1, by go_num, by omega, Nat.le_refl _, HBJ⟩
    · have hltz : ¬ (i : Int) < (nb : Int) := by omega
      have HTr : Hid (Tabs wr) := HT.out.below HBr.out.bel
      go_wp2_with (go_at_call 12; refine (alive_any _ HTr.out).mono ?_; rintro e w2 ⟨rfl, hb2⟩)
      go_ret
      exact ⟨rfl, HBr.out.bel.trans (hb2.mono HBr.out.bel.size)⟩
end Go.Proofs.YtfekpkjcociidaaDoor
