/- visit: a state's words, one by one. -/
import Derived.Test.YtllmdfkiogmofaaGreatDoorWkVB
import Derived.Test.YtllmdfkiogmofaaGreatDoorPkOrd
namespace Go.Proofs.YtllmdfkiogmofaaGreatDoor
open Go.RowKit Nums Fm Pk
set_option maxRecDepth 100000

/-- What region 7 looks at. -/
structure S7v (tb wb ab g off t : Nat) (ws : Value) (c : Nat) (W : World) : Prop where
  c0 : W.cell? ⟨tb, 0, none⟩ = some (.pointer (some ⟨wb, 0, none⟩))
  c2 : W.cell? ⟨wb, 2, none⟩ = some ws
  c3 : W.cell? ⟨ab, 2, none⟩ = some (.int .i64 (t : Int))
  cx : W.cell? ⟨g, off + t, none⟩ = some (.int .i64 (c : Int))
theorem S7v.facts {tb wb ab g off t : Nat} {ws : Value} {c : Nat} {W : World} (h : S7v tb wb ab g off t ws c W) : W.cell? ⟨tb, 0, none⟩ = some (.pointer (some ⟨wb, 0, none⟩)) ∧ W.cell? ⟨wb, 2, none⟩ = some ws ∧ W.cell? ⟨ab, 2, none⟩ = some (.int .i64 (t : Int)) ∧ W.cell? ⟨g, off + t, none⟩ = some (.int .i64 (c : Int)) := ⟨h.1, h.2, h.3, h.4⟩
/-- What region 10 looks at. -/
structure S10v (tb ab : Nat) (pv : Value) (c : Int) (W : World) : Prop where
  c2 : W.cell? ⟨tb, 2, none⟩ = some pv
  ca : W.cell? ⟨ab, 0, none⟩ = some (.int .i32 c)
theorem S10v.facts {tb ab : Nat} {pv : Value} {c : Int} {W : World} (h : S10v tb ab pv c W) : W.cell? ⟨tb, 2, none⟩ = some pv ∧ W.cell? ⟨ab, 0, none⟩ = some (.int .i32 c) := ⟨h.1, h.2⟩
set_option maxHeartbeats 8000000 in
theorem tourVisit_any (w0 : World) (B wb : Nat) (base : Int) (b : List St) (D : List (List En)) (hI : Inv D b) (hR : Rests base D) (hWk : WkAt w0.heap.size w0 wb base (b.map ofSt) (D.map List.length)) (hT0 : Tabs w0) (hB : w0.heap.size ≤ B) (tb : Nat) (yv : Value) (I X : CI) (hMI : Minds B I) (hY : Yields yv I X) :
    ∀ (N n : Nat), n < N → ∀ (A : Nat → Prop) (pre : List Pr) (W : World) (k : Nat) (pv : Value) (path : List Int) (weight : Int) (R : List En), D[n]? = some R → Tells base path weight R → VS w0 B tb wb yv I A pre W k pv path → k ≤ 9223372036854775807 →
      Calls Tryz.prog 70 #[.pointer (some ⟨tb, 0, none⟩), .int .i64 (n : Int), .int .i64 weight] W (VPost w0 B tb wb yv I X A pre W k pv path (tw path weight R)) := by
  intro N
  induction N with
  | zero => intro n hn; omega
  | succ N ih =>
  intro n hn A pre W k pv path weight R hRn hTe hVS hk
  have HIH : Hid (∀ n, n < N → ∀ (A : Nat → Prop) (pre : List Pr) (W : World) (k : Nat) (pv : Value) (path : List Int) (weight : Int) (R : List En), D[n]? = some R → Tells base path weight R → VS w0 B tb wb yv I A pre W k pv path → k ≤ 9223372036854775807 →
      Calls Tryz.prog 70 #[.pointer (some ⟨tb, 0, none⟩), .int .i64 (n : Int), .int .i64 weight] W (VPost w0 B tb wb yv I X A pre W k pv path (tw path weight R))) := ih
  clear ih
  have HWK : Hid (WkAt w0.heap.size w0 wb base (b.map ofSt) (D.map List.length)) := hWk
  have hDl := hI.len
  have hnD := (List.getElem?_eq_some_iff.1 hRn).1
  obtain ⟨s, hs⟩ : ∃ s, b[n]? = some s := ⟨b[n]'(by omega), List.getElem?_eq_getElem _⟩
  have HBN : Hid (b[n]? = some s) := hs
  obtain ⟨r1, r2, r3⟩ := hI.row n s hs
  have hRe : R = exp D s := by rw [hRn] at r1; exact Option.some.inj r1
  have HRS : Hid (R = exp D s) := hRe
  have HTE : Hid (Tells base path weight (exp D s)) := hRe ▸ hTe
  obtain ⟨nb, hnb⟩ : ∃ nb, b.length = nb := ⟨_, rfl⟩
  have HNB2 : Hid (b.length = nb) := hnb
  have HND : Hid (D.length = nb ∧ n < nb ∧ ∀ a ∈ s.arcs, a.to < n) := ⟨by omega, by omega, r2⟩
  have HNC : Hid ((D.map List.length).length = nb) := by show _ = _; rw [List.length_map]; omega
  obtain ⟨sd, sc, wd, wc, q0, q1, q2, hSt, hG⟩ := hWk.facts
  have hlen : (b.map ofSt).length = nb := by rw [List.length_map, hnb]
  rw [hlen] at q1 hSt
  obtain ⟨gs, os, va, hsd, hgs, e0, e1, e2, hAr⟩ := hSt.at (k := n) (s := ofSt s) (by rw [List.getElem?_map, hs]; rfl)
  subst hsd
  obtain ⟨vd, vc, hva⟩ := hAr.shape
  obtain ⟨na, hna⟩ : ∃ na, s.arcs.length = na := ⟨_, rfl⟩
  have HNA : Hid (s.arcs.length = na) := hna
  have hna2 : (ofSt s).arcs.length = na := by show (s.arcs.map ofArc).length = na; rw [List.length_map, hna]
  rw [hna2] at hva
  subst hva
  have HAA : Hid (ArcsAt w0.heap.size w0 (.slice vd na vc) (s.arcs.map ofArc)) := hAr
  have u0 : W.cell? ⟨gs, os + n * 3, none⟩ = some (.bool s.final) := (hVS.bel.cell (p := ⟨gs, os + n * 3, none⟩) hgs).trans e0
  have u1 : W.cell? ⟨gs, os + n * 3 + 1, none⟩ = some (.int .i64 s.out) := (hVS.bel.cell (p := ⟨gs, os + n * 3 + 1, none⟩) hgs).trans e1
  have u2 : W.cell? ⟨gs, os + n * 3 + 2, none⟩ = some (.slice vd na vc) := (hVS.bel.cell (p := ⟨gs, os + n * 3 + 2, none⟩) hgs).trans e2
  have u3 : W.cell? ⟨wb, 1, none⟩ = some (.slice (some ⟨gs, os, none⟩) nb sc) := (hVS.bel.cell (p := ⟨wb, 1, none⟩) hWk.lt).trans q1
  have hsl := hSt.len
  have hal := hAr.len
  rw [hna2] at hal
  rw [List.length_map] at hsl
  obtain ⟨t0, t1, t2, t3, tf⟩ := hVS.tr.facts
  have hnz : (n : Int) < (nb : Int) := by omega
  obtain ⟨sb, hsb⟩ : ∃ sb, sb = W.heap.size := ⟨_, rfl⟩
  obtain ⟨Ws, hWs⟩ : ∃ Ws, Ws = W.alloc (.cells #[.bool s.final, .int .i64 s.out, .slice vd na vc] 61) := ⟨_, rfl⟩
  have hbs : Below W.heap.size W Ws := by rw [hWs]; exact (Below.refl _ W).alloc (Nat.le_refl _) _
  have hns : Ws.heap[sb]? = some (.cells #[.bool s.final, .int .i64 s.out, .slice vd na vc] 61) := by rw [hWs, hsb]; exact alloc_newP _ _
  have hvss := hVS.below hMI hbs
  have HVs : Hid (VS w0 B tb wb yv I A pre Ws k pv path) := hvss
  have HWS : Hid (Below W.heap.size W Ws) := hbs
  have HSB0 : Hid (∀ (F : Nat → Prop) (wr : World), Upd F Ws wr → ¬ F sb → wr.cell? ⟨sb, 0, none⟩ = some (.bool s.final) ∧ wr.cell? ⟨sb, 1, none⟩ = some (.int .i64 s.out) ∧ wr.cell? ⟨sb, 2, none⟩ = some (.slice vd na vc)) := fun F wr hu hF => by
    have h1 := (hu.block sb (Array.getElem?_eq_some_iff.1 hns).1 hF).trans hns
    exact ⟨by simp [World.cell?, h1], by simp [World.cell?, h1], by simp [World.cell?, h1]⟩
  have HSN : Hid (¬ (A sb ∨ sb = tb ∨ pv.ownBlock = some sb)) := by
    rintro (h1 | h1 | h1)
    · have := hVS.lies sb h1; omega
    · have := hVS.tr.lt; omega
    · have := GOwn.lt hVS.tr.row h1; omega
  have HSB : Hid (∀ wr, Upd (fun j => A j ∨ j = tb ∨ pv.ownBlock = some j) Ws wr → wr.cell? ⟨sb, 0, none⟩ = some (.bool s.final) ∧ wr.cell? ⟨sb, 1, none⟩ = some (.int .i64 s.out) ∧ wr.cell? ⟨sb, 2, none⟩ = some (.slice vd na vc)) := fun wr hu => HSB0.out _ wr hu HSN.out
  obtain ⟨sc0, sc1, sc2⟩ := HSB.out Ws (Upd.refl _ _)
  clear hbs hns hvss hSt hG q0 q1 q2 e0 e1 e2 hAr hVS hTe hWk r1 r2 r3 hs hRn hRe hnb hna hna2 hlen hgs
  go_enter Tryz.func70, Tryz.ntmps70
  go_upto_region 2 with fail
  rw [← hsb, ← hWs]
  clear hsb hWs u0 u1 u2 u3 t0 t1 t2 t3 tf
  cases hfin : s.final with
  | false =>
    rw [hfin] at sc0
    have HL0 : Hid (VL w0 B tb wb yv I A pre Ws k pv path (tF path weight s ++ tA D path weight (s.arcs.take 0)) A pv Ws) := by
      have : tF path weight s ++ tA D path weight (s.arcs.take 0) = [] := by unfold tF udF tA udA; rw [hfin]; rfl
      rw [this]
      exact ⟨Ext.refl _ _, Upd.refl _ _, .inl rfl, by simpa using HVs.out⟩
    obtain ⟨A2, HL0⟩ : ∃ A2, Hid (VL w0 B tb wb yv I A pre Ws k pv path (tF path weight s ++ tA D path weight (s.arcs.take 0)) A2 pv Ws) := ⟨A, HL0⟩
    go_wp2
    go_loopg [9, 10, 36] na (fun gm _ _ s36 wr => ∃ (j : Nat) (A1 : Nat → Prop) (pv1 : Value), s36 = .int .i64 j ∧ j ≤ na ∧ na - j ≤ gm ∧ Hid (VL w0 B tb wb yv I A pre Ws k pv path (tF path weight s ++ tA D path weight (s.arcs.take j)) A1 pv1 wr))
    case atStart => exact ⟨0, A2, pv, by go_num, Nat.zero_le _, by omega, HL0⟩
    case round =>
      obtain ⟨j, A1, pv1, rfl, hj, hgm, HL⟩ := hrel
      have hsb := HSB.out wr HL.out.upd
      obtain ⟨sc0, sc1, sc2⟩ := hsb
      by_cases hlt : j < na
      · have hltz : (j : Int) < (na : Int) := by omega
        obtain ⟨a, ha⟩ : ∃ a, s.arcs[j]? = some a := ⟨s.arcs[j]'(by have := HNA.out; omega), List.getElem?_eq_getElem _⟩
        obtain ⟨HTL, hp24, hsum⟩ := Tells.arc hI hR HBN.out HTE.out (List.mem_of_getElem? ha)
        obtain ⟨f1, f2, f3, f4⟩ := arc_facts hI hR HBN.out a (List.mem_of_getElem? ha)
        have hwlo : 0 ≤ weight := HTE.out.lo
        have HTT : Hid (Tells base (path ++ [a.label]) (weight + a.out) (D[a.to]?.getD [])) := HTL
        have HF4 : Hid (wordR a.label = true) := f4
        have haD : a.to < D.length := by have := HND.out; omega
        obtain ⟨R1, hR1⟩ : ∃ R1, D[a.to]? = some R1 := ⟨D[a.to], List.getElem?_eq_getElem haD⟩
        have HR1 : Hid (D[a.to]? = some R1) := hR1
        have HG1 : Hid (D[a.to]?.getD [] = R1) := by show _ = _; rw [hR1]; rfl
        have hAt := HAA.out.below (HL.out.vs.bel)
        obtain ⟨ga, oa, hva, hga, x0, x1, x2⟩ := hAt.at (k := j) (a := ofArc a) (by rw [List.getElem?_map, ha]; rfl)
        subst hva
        have d0 : wr.cell? ⟨ga, oa + j * 3, none⟩ = some (.int .i32 a.label) := x0
        have d1 : wr.cell? ⟨ga, oa + j * 3 + 1, none⟩ = some (.int .i64 a.out) := x1
        have d2 : wr.cell? ⟨ga, oa + j * 3 + 2, none⟩ = some (.int .i64 (a.to : Int)) := x2
        clear x0 x1 x2
        obtain ⟨ab, hab⟩ : ∃ ab, ab = wr.heap.size := ⟨_, rfl⟩
        obtain ⟨W6, hW6⟩ : ∃ W6, W6 = wr.alloc (.cells #[.int .i32 a.label, .int .i64 a.out, .int .i64 (a.to : Int)] 63) := ⟨_, rfl⟩
        have hb6 : Below wr.heap.size wr W6 := by rw [hW6]; exact (Below.refl _ wr).alloc (Nat.le_refl _) _
        have hn6 : W6.heap[ab]? = some (.cells #[.int .i32 a.label, .int .i64 a.out, .int .i64 (a.to : Int)] 63) := by rw [hW6, hab]; exact alloc_newP _ _
        have hb7 : Below wr.heap.size wr W6.drew := hb6.drew
        obtain ⟨W7, hW7⟩ : ∃ W7, W7 = W6.drew := ⟨_, rfl⟩
        rw [← hW7] at hb7
        have hn7 : W7.heap[ab]? = some (.cells #[.int .i32 a.label, .int .i64 a.out, .int .i64 (a.to : Int)] 63) := by rw [hW7]; exact hn6
        have hvs7 := HL.out.vs.below hMI hb7
        have HV7 : Hid (VS w0 B tb wb yv I A1 (pre ++ (tF path weight s ++ tA D path weight (s.arcs.take j)).drop k) W7 (k - (tF path weight s ++ tA D path weight (s.arcs.take j)).length) pv1 path) := hvs7
        obtain ⟨kj, hkj⟩ : ∃ kj, k - (tF path weight s ++ tA D path weight (s.arcs.take j)).length = kj := ⟨_, rfl⟩
        have HKJ : Hid (k - (tF path weight s ++ tA D path weight (s.arcs.take j)).length = kj) := hkj
        have hkj2 : kj ≤ k := by omega
        rw [hkj] at HV7
        obtain ⟨t0, t1, t2, t3, tf⟩ := HV7.out.tr.facts
        have tf1 := tf 1
        have tf2 := tf 2
        have hwk := HWK.out.below HV7.out.bel
        obtain ⟨sd, sc, wd, wc, q0, q1, q2, hSt, hG⟩ := hwk.facts
        obtain ⟨gw, ow, hwd, hgw, cw⟩ := hG.num (k := a.to) (c := R1.length) (by rw [List.getElem?_map, hR1]; rfl)
        subst hwd
        have HS7 : Hid (S7v tb wb ab gw ow a.to (.slice (some ⟨gw, ow, none⟩) nb wc) R1.length W7) := ⟨t0, by rw [← HNC.out]; exact q2, by simp [World.cell?, hn7], cw⟩
        have ka0 : W7.cell? ⟨ab, 0, none⟩ = some (.int .i32 a.label) := by simp [World.cell?, hn7]
        have ka1 : W7.cell? ⟨ab, 1, none⟩ = some (.int .i64 a.out) := by simp [World.cell?, hn7]
        have ka2 : W7.cell? ⟨ab, 2, none⟩ = some (.int .i64 (a.to : Int)) := by simp [World.cell?, hn7]
        have HU7 : Hid (Below wr.heap.size wr W7) := hb7
        have HABn : Hid (ab < W7.heap.size ∧ wr.heap.size ≤ ab) := ⟨(Array.getElem?_eq_some_iff.1 hn7).1, by omega⟩
        have HN7 : Hid (W7.heap[ab]? = some (.cells #[.int .i32 a.label, .int .i64 a.out, .int .i64 (a.to : Int)] 63)) := hn7
        have htz : (a.to : Int) < (nb : Int) := by have := HNB2.out; have := HND.out; omega
        have htz0 : (0 : Int) ≤ (a.to : Int) := by omega
        clear hb6 hn6 hb7 hn7 hvs7 hwk hSt hG q0 q1 q2 cw hAt hkj hR1 HTL f4 hga hgw
        go_upto_region 7 with fail
        rw [← hab, ← hW6]
        clear hab d0 d1 d2 sc0 sc1 sc2
        have hS7 := HS7.out
        rw [hW7] at hS7
        refine region_at (S := S7v tb wb ab gw ow a.to (.slice (some ⟨gw, ow, none⟩) nb wc) R1.length) 12 rfl mixedP hS7 (fun _ => ?_)
        refine take_at (i := 0) 40 rfl rfl (by kernel_rfl) (by kernel_rfl) (by kernel_rfl) (fun _ _ _ h => h) (by rfl) (fun w hSw => by (have hSw2 := S7v.facts hSw; clear hSw; go_simp; first | done | exact rfl)) (by assumption) ?_
        simp only [List.setIfInBounds_toArray, List.set_cons_zero, List.set_cons_succ]
        refine take_at (i := 1) 41 rfl rfl (by kernel_rfl) (by kernel_rfl) (by kernel_rfl) (fun _ _ _ h => h) (by rfl) (fun w hSw => by (have hSw2 := S7v.facts hSw; clear hSw; go_simp; first | done | exact rfl)) (by assumption) ?_
        simp only [List.setIfInBounds_toArray, List.set_cons_zero, List.set_cons_succ]
        refine take_at (i := 2) 42 rfl rfl (by kernel_rfl) (by kernel_rfl) (by kernel_rfl) (fun _ _ _ h => h) (by rfl) (fun w hSw => by (have hSw2 := S7v.facts hSw; clear hSw; go_simp; first | done | exact rfl)) (by assumption) ?_
        simp only [List.setIfInBounds_toArray, List.set_cons_zero, List.set_cons_succ]
        refine take_at (i := 3) 43 rfl rfl (by kernel_rfl) (by kernel_rfl) (by kernel_rfl) (fun _ _ _ h => h) (by rfl) (fun w hSw => by (have hSw2 := S7v.facts hSw; clear hSw; go_simp; first | done | exact rfl)) (by assumption) ?_
        simp only [List.setIfInBounds_toArray, List.set_cons_zero, List.set_cons_succ]
        refine take_at (i := 4) 44 rfl rfl (by kernel_rfl) (by kernel_rfl) (by kernel_rfl) (fun _ _ _ h => h) (by rfl) (fun w hSw => by (have hSw2 := S7v.facts hSw; clear hSw; go_simp; first | done | exact rfl)) (by assumption) ?_
        simp only [List.setIfInBounds_toArray, List.set_cons_zero, List.set_cons_succ]
        refine take_at (i := 5) 45 rfl rfl (by kernel_rfl) (by kernel_rfl) (by kernel_rfl) (fun _ _ _ h => h) (by rfl) (fun w hSw => by (have hSw2 := S7v.facts hSw; clear hSw; go_simp; first | done | exact rfl)) (by assumption) ?_
        simp only [List.setIfInBounds_toArray, List.set_cons_zero, List.set_cons_succ]
        refine take_at (i := 6) 46 rfl rfl (by kernel_rfl) (by kernel_rfl) (by kernel_rfl) (fun _ _ _ h => h) (by rfl) (fun w hSw => by (have hSw2 := S7v.facts hSw; clear hSw; go_simp; first | done | exact rfl)) (by assumption) ?_
        simp only [List.setIfInBounds_toArray, List.set_cons_zero, List.set_cons_succ]
        refine take_at (i := 7) 47 rfl rfl (by kernel_rfl) (by kernel_rfl) (by kernel_rfl) (fun _ _ _ h => h) (by rfl) (fun w hSw => by (have hSw2 := S7v.facts hSw; clear hSw; go_simp; first | done | exact rfl)) (by assumption) ?_
        simp only [List.setIfInBounds_toArray, List.set_cons_zero, List.set_cons_succ]
        refine take_at (i := 8) 48 rfl rfl (by kernel_rfl) (by kernel_rfl) (by kernel_rfl) (fun _ _ _ h => h) (by rfl) (fun w hSw => by (have hSw2 := S7v.facts hSw; clear hSw; go_simp; first | done | exact rfl)) (by assumption) ?_
        simp only [List.setIfInBounds_toArray, List.set_cons_zero, List.set_cons_succ]
        refine take_at (i := 9) 49 rfl rfl (by kernel_rfl) (by kernel_rfl) (by kernel_rfl) (fun _ _ _ h => h) (by rfl) (fun w hSw => by (have hSw2 := S7v.facts hSw; clear hSw; go_simp; first | done | exact rfl)) (by assumption) ?_
        simp only [List.setIfInBounds_toArray, List.set_cons_zero, List.set_cons_succ]
        refine take_at (i := 10) 50 rfl rfl (by kernel_rfl) (by kernel_rfl) (by kernel_rfl) (fun _ _ _ h => h) (by rfl) (fun w hSw => by (have hSw2 := S7v.facts hSw; clear hSw; go_simp; first | done | exact rfl)) (by assumption) ?_
        simp only [List.setIfInBounds_toArray, List.set_cons_zero, List.set_cons_succ]
        refine take_at (i := 11) 10 rfl rfl (by kernel_rfl) (by kernel_rfl) (by kernel_rfl) (fun _ _ _ h => h) (by rfl) (fun w hSw => by (have hSw2 := S7v.facts hSw; clear hSw; go_simp; first | done | exact rfl)) (by assumption) ?_
        simp only [List.setIfInBounds_toArray, List.set_cons_zero, List.set_cons_succ]
        refine wpAnyH_done (by kernel_rfl) ?_ _
        rw [← hW7]
        clear hS7 HS7 hW7 hW6 htz
        by_cases hsk : R1.length ≤ kj
        · have hskz : ((R1.length : Nat) : Int) ≤ (kj : Int) := by omega
          have hsub : (kj : Int) - ((R1.length : Nat) : Int) = ((kj - R1.length : Nat) : Int) := by omega
          have HNX : Hid (VL w0 B tb wb yv I A pre Ws k pv path (tF path weight s ++ tA D path weight (s.arcs.take (j + 1))) A1 pv1 (W7.setCell ⟨tb, 1, none⟩ (.int .i64 ((kj - R1.length : Nat) : Int)))) := by
            have h1 := HL.out.skip (Y := tw (path ++ [a.label]) (weight + a.out) (D[a.to]?.getD [])) hB hMI HU7.out (by rw [tw_len, HG1.out]; have := HKJ.out; omega)
            rw [tw_len, HG1.out, HKJ.out] at h1
            rw [tA_snoc D path weight ha, HG1.out, ← List.append_assoc]
            exact h1
          have hr63 : R1.length ≤ 9223372036854775807 := by omega
          go_wp2
          go_roundg (na - (j + 1))
          case measure => omega
          case rel => exact ⟨j + 1, _, _, by go_num, by omega, Nat.le_refl _, HNX⟩
        · have hskz : ¬ ((R1.length : Nat) : Int) ≤ (kj : Int) := by omega
          obtain ⟨pd, pn, pc, hpv⟩ : ∃ pd pn pc, pv1 = .slice pd pn pc := by
            obtain ⟨ad, cap, e, _⟩ := GOwn.shape HV7.out.tr.row
            exact ⟨_, _, _, e⟩
          subst hpv
          go_upto_region 10 with fail
          obtain ⟨V3, hV3⟩ : ∃ V3, V3 = W7.drew := ⟨_, rfl⟩
          have hb3 : Below W7.heap.size W7 V3 := by rw [hV3]; exact (Below.refl _ W7).drew
          obtain ⟨V4, hV4⟩ : ∃ V4, V4 = V3.alloc (.cells #[.int .i32 a.label] 21) := ⟨_, rfl⟩
          have hb34 : Below V3.heap.size V3 V4 := by rw [hV4]; exact (Below.refl _ V3).alloc (Nat.le_refl _) _
          have hb4 : Below W7.heap.size W7 V4 := hb3.trans (hb34.mono hb3.size)
          have hn4 : V4.heap[V3.heap.size]? = some (.cells #[.int .i32 a.label] 21) := by rw [hV4]; exact alloc_newP _ _
          have hBV : B ≤ V4.heap.size := by have h1 := HV7.out.tr.lo; have h2 := HV7.out.tr.lt; have h3 := hb4.size; omega
          obtain ⟨v', W', hap, ho', hgr, hob⟩ := gappend_run rtyC (GOwn.below HV7.out.tr.row hb4) hBV (cellsC_ok a.label) (nb := V3.heap.size) (fun i u hi => by simp only [World.cell?, hn4]; simpa [cellsC] using hi) (by rw [List.length_map]; omega) 81 1
          obtain ⟨vd2, vn2, vc2, hvv2⟩ : ∃ vd vn vc, v' = .slice vd vn vc := by
            obtain ⟨ad, cap, e, _⟩ := GOwn.shape ho'
            exact ⟨_, _, _, e⟩
          subst hvv2
          have ho2 : COwn B W' (.slice vd2 vn2 vc2) (path ++ [a.label]) := by unfold COwn; rw [List.map_append]; exact ho'
          obtain ⟨hv8, hu8, hn8, hc1, hfz⟩ := HV7.out.push hB hMI hb4 hgr ho2 hob
          have hca : W'.cell? ⟨ab, 0, none⟩ = some (.int .i32 a.label) := by
            have h1 : W'.heap[ab]? = V4.heap[ab]? := hgr.block ab (by have h1 := HABn.out.1; have h2 := hb4.size; omega) (fun e => by
              have h1 := GOwn.lt HL.out.vs.tr.row e.symm
              have h2 := HABn.out.2
              omega)
            have h2 : V4.heap[ab]? = W7.heap[ab]? := hb4.block ab HABn.out.1
            simp [World.cell?, h1, h2, HN7.out]
          have hS0 : S10v tb ab (.slice pd pn pc) a.label V3 := ⟨by rw [hV3]; exact t2, by rw [hV3]; exact ka0⟩
          have hS4 : S10v tb ab (.slice pd pn pc) a.label V4 := ⟨(hb34.cell (p := ⟨tb, 2, none⟩) (by have h1 := HV7.out.tr.lt; have h2 := hb3.size; exact Nat.lt_of_lt_of_le h1 h2)).trans hS0.1, (hb34.cell (p := ⟨ab, 0, none⟩) (by have h1 := HABn.out.1; have h2 := hb3.size; exact Nat.lt_of_lt_of_le h1 h2)).trans hS0.2⟩
          have hS5 : S10v tb ab (.slice pd pn pc) a.label W' := ⟨hc1, hca⟩
          obtain ⟨W8, hW8⟩ : ∃ W8, W8 = W'.setCell ⟨tb, 2, none⟩ (.slice vd2 vn2 vc2) := ⟨_, rfl⟩
          rw [← hW8] at hv8 hu8
          have HAP2 : Hid ((Builtin.append_ #[81, 81] 81 #[.slice pd pn pc, .slice (some ⟨V3.heap.size, 0, none⟩) 1 1]).run Tryz.prog V4 = .ok (.slice vd2 vn2 vc2) W') := hap
          have HV8 : Hid (VS w0 B tb wb yv I A1 (pre ++ (tF path weight s ++ tA D path weight (s.arcs.take j)).drop k) W8 kj (.slice vd2 vn2 vc2) (path ++ [a.label])) := hv8
          have HU8 : Hid (Upd (fun i => i = tb ∨ (Value.slice pd pn pc).ownBlock = some i) W7 W8) := hu8
          have HN8 : Hid (NewP W7 (.slice pd pn pc) (.slice vd2 vn2 vc2)) := hn8
          have ca2 : W8.cell? ⟨ab, 1, none⟩ = some (.int .i64 a.out) ∧ W8.cell? ⟨ab, 2, none⟩ = some (.int .i64 (a.to : Int)) := by
            have h1 : W8.heap[ab]? = W7.heap[ab]? := hu8.block ab HABn.out.1 (fun e => by
              have h2 := HABn.out.2
              have h3 := HL.out.vs.tr.lt
              rcases e with e | e
              · omega
              · have h1 := GOwn.lt HL.out.vs.tr.row e
                omega)
            exact ⟨by simp [World.cell?, h1, HN7.out], by simp [World.cell?, h1, HN7.out]⟩
          obtain ⟨ca1, ca2⟩ := ca2
          have HREC : Hid (Calls Tryz.prog 70 #[.pointer (some ⟨tb, 0, none⟩), .int .i64 (a.to : Int), .int .i64 (weight + a.out)] W8 (VPost w0 B tb wb yv I X A1 (pre ++ (tF path weight s ++ tA D path weight (s.arcs.take j)).drop k) W8 kj (.slice vd2 vn2 vc2) (path ++ [a.label]) (tw (path ++ [a.label]) (weight + a.out) R1))) :=
            HIH.out a.to (by omega) A1 _ W8 kj (.slice vd2 vn2 vc2) (path ++ [a.label]) (weight + a.out) R1 HR1.out (by rw [← HG1.out]; exact HTT.out) HV8.out (by omega)
          have hS0' : S10v tb ab (.slice pd pn pc) a.label W7.drew := hV3 ▸ hS0
          refine region_atE (S := S10v tb ab (.slice pd pn pc) a.label) 12 11 rfl mixedP ?_
          rw [← hV3]
          clear hS0' hap ho' hgr hob ho2 hv8 hu8 hn8 hc1 hca hb3 hb34 hb4 hn4 ka0 ka1 ka2 t0 t1 t2 t3
          refine take_atE (i := 0) 65 rfl rfl (by kernel_rfl) (by kernel_rfl) (by kernel_rfl) (by kernel_rfl) (fun _ _ _ h => h) (by rfl) (fun w hSw => by (have hSw2 := S10v.facts hSw; clear hSw; go_simp; first | done | exact rfl)) (by assumption) ?_
          simp only [List.setIfInBounds_toArray, List.set_cons_zero, List.set_cons_succ]
          refine take_atE (i := 1) 66 rfl rfl (by kernel_rfl) (by kernel_rfl) (by kernel_rfl) (by kernel_rfl) (fun _ _ _ h => h) (by rfl) (fun w hSw => by (have hSw2 := S10v.facts hSw; clear hSw; go_simp; first | done | exact rfl)) (by assumption) ?_
          simp only [List.setIfInBounds_toArray, List.set_cons_zero, List.set_cons_succ]
          refine take_atE (i := 2) 67 rfl rfl (by kernel_rfl) (by kernel_rfl) (by kernel_rfl) (by kernel_rfl) (fun _ _ _ h => h) (by rfl) (fun w hSw => by (have hSw2 := S10v.facts hSw; clear hSw; go_simp; first | done | exact rfl)) (by assumption) ?_
          simp only [List.setIfInBounds_toArray, List.set_cons_zero, List.set_cons_succ]
          refine take_atE (i := 3) 68 rfl rfl (by kernel_rfl) (by kernel_rfl) (by kernel_rfl) (by kernel_rfl) (fun _ _ _ h => h) (by rfl) (fun w hSw => by (have hSw2 := S10v.facts hSw; clear hSw; go_simp; first | done | exact rfl)) (by assumption) ?_
          simp only [List.setIfInBounds_toArray, List.set_cons_zero, List.set_cons_succ]
          refine take_atE (i := 4) 69 rfl rfl (by kernel_rfl) (by kernel_rfl) (by kernel_rfl) (by kernel_rfl) (fun _ _ _ h => h) (by rfl) (fun w hSw => by (have hSw2 := S10v.facts hSw; clear hSw; go_simp; first | done | exact rfl)) (by assumption) ?_
          simp only [List.setIfInBounds_toArray, List.set_cons_zero, List.set_cons_succ]
          refine take_atE (i := 5) 70 rfl rfl (by kernel_rfl) (by kernel_rfl) (by kernel_rfl) (by kernel_rfl) (fun _ _ _ h => h) (by rfl) (fun w hSw => by (have hSw2 := S10v.facts hSw; clear hSw; go_simp; first | done | exact rfl)) (by assumption) ?_
          simp only [List.setIfInBounds_toArray, List.set_cons_zero, List.set_cons_succ]
          refine take_atE (i := 6) 71 rfl rfl (by kernel_rfl) (by kernel_rfl) (by kernel_rfl) (by kernel_rfl) (fun _ _ _ h => h) (by rfl) (fun w hSw => by (have hSw2 := S10v.facts hSw; clear hSw; go_simp; first | done | exact rfl)) (by assumption) ?_
          simp only [List.setIfInBounds_toArray, List.set_cons_zero, List.set_cons_succ]
          refine one_valueE (i := 7) (v := .slice (some ⟨V3.heap.size, 0, none⟩) 1 1) (w' := V4) 72 (by kernel_rfl) rfl rfl (by rfl) (by rw [hV4]; go_simp; first | done | exact rfl) hS4 ?_
          simp only [List.setIfInBounds_toArray, List.set_cons_zero, List.set_cons_succ]
          refine one_valueE (i := 8) (v := (.slice vd2 vn2 vc2)) (w' := W') 73 (by kernel_rfl) rfl rfl (by rfl) (exec_app HAP2.out) hS5 ?_
          simp only [List.setIfInBounds_toArray, List.set_cons_zero, List.set_cons_succ]
          refine one_valueE (i := 9) (v := .pointer (some ⟨tb, 0, none⟩)) (w' := W') 74 (by kernel_rfl) rfl rfl (by rfl) (by kernel_rfl) hS5 ?_
          simp only [List.setIfInBounds_toArray, List.set_cons_zero, List.set_cons_succ]
          refine one_valueE (i := 10) (v := .pointer (some ⟨tb, 2, none⟩)) (w' := W') 75 (by kernel_rfl) rfl rfl (by rfl) (by kernel_rfl) hS5 ?_
          simp only [List.setIfInBounds_toArray, List.set_cons_zero, List.set_cons_succ]
          have hc1 := hS5.1
          refine last_skipE (w' := W8) (by kernel_rfl) rfl rfl (by rfl) (by rw [hW8]; go_simp; first | done | exact rfl) (by kernel_rfl) ?_
          clear hc1 hfz hV4 hW8 hV3 hS0 hS4 hS5 HAP2 tf1 tf2
          have HX : Hid (∀ (q : List Pr) (A3 : Nat → Prop) (W9 : World), q <+: (tw (path ++ [a.label]) (weight + a.out) R1).drop kj → Ext A1 A3 W8 → Lies A3 W9 → Upd (fun i => A1 i ∨ i = tb ∨ (Value.slice vd2 vn2 vc2).ownBlock = some i) W8 W9 → X A3 (pre ++ (tF path weight s ++ tA D path weight (s.arcs.take j)).drop k ++ q) W9 → VPost w0 B tb wb yv I X A pre W k pv path (tw path weight R) (.returned (.bool false)) W9) := fun q A3 W9 hq he9 hl9 hu9 hx => by
            obtain ⟨z1, z2⟩ := HL.out.stop HWS.out HU7.out HU8.out HN8.out he9 hu9
            refine .inr ⟨rfl, (tF path weight s ++ tA D path weight (s.arcs.take j)).drop k ++ q, A3, ?_, z1, hl9, z2, by rw [← List.append_assoc]; exact hx⟩
            rw [HRS.out, tw_exp, tA_split D path weight s.arcs (j + 1), tA_snoc D path weight ha, HG1.out, ← List.append_assoc, ← List.append_assoc]
            exact pre_deep (by rw [HKJ.out]; exact hq)
          go_upto_region 13 with (go_at_call 70; refine HREC.out.mono ?_; intro e W9 hp; rcases hp with ⟨rfl, A3, pv3, he9, hu9, hv9, hn9⟩ | ⟨rfl, q, A3, hq, he9, hl9, hu9, hx⟩; rotate_left; focus (have HFF : Hid (VPost w0 B tb wb yv I X A pre W k pv path (tw path weight R) (.returned (.bool false)) W9) := HX.out q A3 W9 hq he9 hl9 hu9 hx; clear hq he9 hl9 hu9 hx; go_wp2; go_ret; exact HFF.out))
          obtain ⟨g3, cap3, hpv3, hcap3, hVL⟩ := HL.out.deep (Y := tw (path ++ [a.label]) (weight + a.out) R1) hB hMI HU7.out HU8.out HN8.out he9 hu9 hn9 (by rw [HKJ.out]; exact hv9)
          subst hpv3
          have HNX : Hid (VL w0 B tb wb yv I A pre Ws k pv path (tF path weight s ++ tA D path weight (s.arcs.take (j + 1))) A3 (.slice (some ⟨g3, 0, none⟩) path.length cap3) (W9.drew.setCell ⟨tb, 2, none⟩ (.slice (some ⟨g3, 0, none⟩) path.length cap3))) := by
            rw [tA_snoc D path weight ha, HG1.out, ← List.append_assoc]
            exact hVL
          obtain ⟨_, _, y2, _, yf⟩ := hv9.tr.facts
          have y2 : W9.drew.cell? ⟨tb, 2, none⟩ = some (.slice (some ⟨g3, 0, none⟩) (path.length + 1) cap3) := y2
          have yf2 : W9.drew.frozen? ⟨tb, 2, none⟩ = false := yf 2
          obtain ⟨pl, hpl⟩ : ∃ pl, path.length = pl := ⟨_, rfl⟩
          rw [hpl] at y2 HNX hcap3 hp24
          clear hpl hVL hv9 he9 hu9 hn9 yf ca1 ca2 tf HREC HX HV8 HU8 HN8
          obtain ⟨W10, hW10⟩ : ∃ W10, W10 = W9.drew.setCell ⟨tb, 2, none⟩ (.slice (some ⟨g3, 0, none⟩) pl cap3) := ⟨_, rfl⟩
          rw [← hW10] at HNX
          refine region_atE (S := fun W => W.cell? ⟨tb, 2, none⟩ = some (.slice (some ⟨g3, 0, none⟩) (pl + 1) cap3)) 15 14 rfl mixedP ?_
          refine take_atE (i := 0) 85 rfl rfl (by kernel_rfl) (by kernel_rfl) (by kernel_rfl) (by kernel_rfl) (fun _ _ _ h => h) (by rfl) (fun w hSw => by (have hSw2 := id hSw; clear hSw; go_simp; first | done | exact rfl)) (by assumption) ?_
          simp only [List.setIfInBounds_toArray, List.set_cons_zero, List.set_cons_succ]
          refine take_atE (i := 1) 86 rfl rfl (by kernel_rfl) (by kernel_rfl) (by kernel_rfl) (by kernel_rfl) (fun _ _ _ h => h) (by rfl) (fun w hSw => by (have hSw2 := id hSw; clear hSw; go_simp; first | done | exact rfl)) (by assumption) ?_
          simp only [List.setIfInBounds_toArray, List.set_cons_zero, List.set_cons_succ]
          refine take_atE (i := 2) 87 rfl rfl (by kernel_rfl) (by kernel_rfl) (by kernel_rfl) (by kernel_rfl) (fun _ _ _ h => h) (by rfl) (fun w hSw => by (have hSw2 := id hSw; clear hSw; go_simp; first | done | exact rfl)) (by assumption) ?_
          simp only [List.setIfInBounds_toArray, List.set_cons_zero, List.set_cons_succ]
          refine take_atE (i := 3) 88 rfl rfl (by kernel_rfl) (by kernel_rfl) (by kernel_rfl) (by kernel_rfl) (fun _ _ _ h => h) (by rfl) (fun w hSw => by (have hSw2 := id hSw; clear hSw; go_simp; first | done | exact rfl)) (by assumption) ?_
          simp only [List.setIfInBounds_toArray, List.set_cons_zero, List.set_cons_succ]
          refine take_atE (i := 4) 89 rfl rfl (by kernel_rfl) (by kernel_rfl) (by kernel_rfl) (by kernel_rfl) (fun _ _ _ h => h) (by rfl) (fun w hSw => by (have hSw2 := id hSw; clear hSw; go_simp; first | done | exact rfl)) (by assumption) ?_
          simp only [List.setIfInBounds_toArray, List.set_cons_zero, List.set_cons_succ]
          refine take_atE (i := 5) 90 rfl rfl (by kernel_rfl) (by kernel_rfl) (by kernel_rfl) (by kernel_rfl) (fun _ _ _ h => h) (by rfl) (fun w hSw => by (have hSw2 := id hSw; clear hSw; go_simp; first | done | exact rfl)) (by assumption) ?_
          simp only [List.setIfInBounds_toArray, List.set_cons_zero, List.set_cons_succ]
          refine take_atE (i := 6) 91 rfl rfl (by kernel_rfl) (by kernel_rfl) (by kernel_rfl) (by kernel_rfl) (fun _ _ _ h => h) (by rfl) (fun w hSw => by (have hSw2 := id hSw; clear hSw; go_simp; first | done | exact rfl)) (by assumption) ?_
          simp only [List.setIfInBounds_toArray, List.set_cons_zero, List.set_cons_succ]
          refine take_atE (i := 7) 92 rfl rfl (by kernel_rfl) (by kernel_rfl) (by kernel_rfl) (by kernel_rfl) (fun _ _ _ h => h) (by rfl) (fun w hSw => by (have hSw2 := id hSw; clear hSw; go_simp; first | done | exact rfl)) (by assumption) ?_
          simp only [List.setIfInBounds_toArray, List.set_cons_zero, List.set_cons_succ]
          refine take_atE (i := 8) 93 rfl rfl (by kernel_rfl) (by kernel_rfl) (by kernel_rfl) (by kernel_rfl) (fun _ _ _ h => h) (by rfl) (fun w hSw => by (have hSw2 := id hSw; clear hSw; go_simp; first | done | exact rfl)) (by assumption) ?_
          simp only [List.setIfInBounds_toArray, List.set_cons_zero, List.set_cons_succ]
          refine take_atE (i := 9) 94 rfl rfl (by kernel_rfl) (by kernel_rfl) (by kernel_rfl) (by kernel_rfl) (fun _ _ _ h => h) (by rfl) (fun w hSw => by (have hSw2 := id hSw; clear hSw; go_simp; first | done | exact rfl)) (by assumption) ?_
          simp only [List.setIfInBounds_toArray, List.set_cons_zero, List.set_cons_succ]
          refine take_atE (i := 10) (v := .int .i64 (pl : Int)) 95 rfl rfl (by kernel_rfl) (by kernel_rfl) (by kernel_rfl) (by kernel_rfl) (fun _ _ _ h => h) (by rfl) (fun w hSw => by (have hSw2 := id hSw; clear hSw; go_simp; exact wrap_pl hp24)) (by assumption) ?_
          simp only [List.setIfInBounds_toArray, List.set_cons_zero, List.set_cons_succ]
          refine take_atE (i := 11) (v := .slice (some ⟨g3, 0, none⟩) pl cap3) 96 rfl rfl (by kernel_rfl) (by kernel_rfl) (by kernel_rfl) (by kernel_rfl) (fun _ _ _ h => h) (by rfl) (fun w hSw => by (have hSw2 := id hSw; clear hSw; go_simp; first | done | (intro hcc; omega))) (by assumption) ?_
          simp only [List.setIfInBounds_toArray, List.set_cons_zero, List.set_cons_succ]
          refine one_valueE (i := 12) (v := .pointer (some ⟨tb, 0, none⟩)) (w' := W9.drew) 97 (by kernel_rfl) rfl rfl (by rfl) (by kernel_rfl) y2 ?_
          simp only [List.setIfInBounds_toArray, List.set_cons_zero, List.set_cons_succ]
          refine one_valueE (i := 13) (v := .pointer (some ⟨tb, 2, none⟩)) (w' := W9.drew) 98 (by kernel_rfl) rfl rfl (by rfl) (by kernel_rfl) y2 ?_
          simp only [List.setIfInBounds_toArray, List.set_cons_zero, List.set_cons_succ]
          refine last_skipE (w' := W10) (by kernel_rfl) rfl rfl (by rfl) (by rw [hW10]; go_simp; first | done | exact rfl) (by kernel_rfl) ?_
          clear hW10 y2 yf2
          go_wp2
          go_roundg (na - (j + 1))
          case measure => omega
          case rel => exact ⟨j + 1, _, _, by go_num, by omega, Nat.le_refl _, HNX⟩
      · have hjn : j = na := by omega
        have hltz : ¬ (j : Int) < (na : Int) := by omega
        subst hjn
        clear HSB sc0 sc1 sc2
        go_wp2
        go_ret
        have e : tw path weight R = tF path weight s ++ tA D path weight (s.arcs.take j) := by rw [HRS.out, tw_exp, ← HNA.out, List.take_length]
        rw [e]
        exact HL.out.out HWS.out
  | true =>
    rw [hfin] at sc0
    have hin : ([], s.out) ∈ exp D s := by unfold exp fins; rw [hfin]; simp
    have hso : 0 ≤ s.out := hR.nn _ (List.mem_of_getElem? (hI.row n s HBN.out).1) _ hin
    have hsw : weight + s.out ≤ 1048576 := HTE.out.wt _ hin
    have hwlo : 0 ≤ weight := HTE.out.lo
    have hp24 : path.length ≤ 24 := by have := HTE.out.ln _ hin; simpa using this
    have HTF : Hid (tF path weight s = [(textS path, weight + s.out)]) := by show _ = _; unfold tF udF; rw [hfin]; rfl
    have HT0 : Hid (tA D path weight (s.arcs.take 0) = []) := rfl
    by_cases hk0 : k = 0
    · have htr : TrAt B Ws tb wb 0 pv yv path := by have := HVs.out.tr; rw [hk0] at this; exact this
      have HTN : Hid (Calls Tryz.prog 94 #[.pointer (some ⟨tb, 0, none⟩), .int .i64 (weight + s.out)] Ws (YPost I X A pre (textS path, weight + s.out) Ws)) := tell_now B Ws tb wb pv yv path (weight + s.out) htr (hT0.below HVs.out.bel) hp24 I X A pre hMI hY HVs.out.lies HVs.out.inv
      have HX0 : Hid (∀ A2 W9, Ext A A2 Ws → Lies A2 W9 → Upd A Ws W9 → X A2 (pre ++ [(textS path, weight + s.out)]) W9 → VPost w0 B tb wb yv I X A pre W k pv path (tw path weight R) (.returned (.bool false)) W9) := fun A2 W9 he hl hu hx => by
        refine .inr ⟨rfl, [(textS path, weight + s.out)], A2, ?_, ⟨he.1, fun j hj => (he.2 j hj).imp id (fun g => Nat.le_trans HWS.out.size g)⟩, hl, (Upd.of_below HWS.out).trans (hu.mono fun j hj => .inl hj) (fun _ _ g => g), hx⟩
        rw [HRS.out, tw_exp, HTF.out, hk0, List.drop_zero]
        exact List.prefix_append _ _
      have HC0 : Hid (∀ A2 W2, Ext A A2 Ws → Lies A2 W2 → Upd A Ws W2 → I A2 (pre ++ [(textS path, weight + s.out)]) W2 → VL w0 B tb wb yv I A pre Ws k pv path (tF path weight s ++ tA D path weight (s.arcs.take 0)) A2 pv W2) := fun A2 W2 h1 h2 h3 h4 => by
        rw [HTF.out, HT0.out]
        have hv := HVs.out.cons h1 h2 h3 h4
        rw [hk0] at hv
        exact ⟨h1, h3.mono fun j hj => .inl hj, .inl rfl, by rw [hk0]; exact hv⟩
      clear htr hk0
      go_upto_region 4 with (go_at_call 94; refine HTN.out.mono ?_; intro e W2 hp; rcases hp with ⟨rfl, A2, he2, hl2, hu2, hi2⟩ | ⟨rfl, A2, he2, hl2, hu2, hx⟩; rotate_left; focus (have HFF : Hid (VPost w0 B tb wb yv I X A pre W k pv path (tw path weight R) (.returned (.bool false)) W2) := HX0.out A2 W2 he2 hl2 hu2 hx; clear he2 hl2 hu2 hx; go_wp2; go_ret; exact HFF.out))
      obtain ⟨sd0, sd1, sd2⟩ := HSB.out W2 (hu2.mono fun j hj => .inl hj)
      have HL0 : Hid (VL w0 B tb wb yv I A pre Ws k pv path (tF path weight s ++ tA D path weight (s.arcs.take 0)) A2 pv W2) := HC0.out A2 W2 he2 hl2 hu2 hi2
      clear he2 hl2 hu2 hi2 HX0 HC0 HTN
      go_wp2
      go_loopg [9, 10, 36] na (fun gm _ _ s36 wr => ∃ (j : Nat) (A1 : Nat → Prop) (pv1 : Value), s36 = .int .i64 j ∧ j ≤ na ∧ na - j ≤ gm ∧ Hid (VL w0 B tb wb yv I A pre Ws k pv path (tF path weight s ++ tA D path weight (s.arcs.take j)) A1 pv1 wr))
      case atStart => exact ⟨0, A2, pv, by go_num, Nat.zero_le _, by omega, HL0⟩
      case round =>
        obtain ⟨j, A1, pv1, rfl, hj, hgm, HL⟩ := hrel
        have hsb := HSB.out wr HL.out.upd
        obtain ⟨sc0, sc1, sc2⟩ := hsb
        by_cases hlt : j < na
        · have hltz : (j : Int) < (na : Int) := by omega
          obtain ⟨a, ha⟩ : ∃ a, s.arcs[j]? = some a := ⟨s.arcs[j]'(by have := HNA.out; omega), List.getElem?_eq_getElem _⟩
          obtain ⟨HTL, hp24, hsum⟩ := Tells.arc hI hR HBN.out HTE.out (List.mem_of_getElem? ha)
          obtain ⟨f1, f2, f3, f4⟩ := arc_facts hI hR HBN.out a (List.mem_of_getElem? ha)
          have hwlo : 0 ≤ weight := HTE.out.lo
          have HTT : Hid (Tells base (path ++ [a.label]) (weight + a.out) (D[a.to]?.getD [])) := HTL
          have HF4 : Hid (wordR a.label = true) := f4
          have haD : a.to < D.length := by have := HND.out; omega
          obtain ⟨R1, hR1⟩ : ∃ R1, D[a.to]? = some R1 := ⟨D[a.to], List.getElem?_eq_getElem haD⟩
          have HR1 : Hid (D[a.to]? = some R1) := hR1
          have HG1 : Hid (D[a.to]?.getD [] = R1) := by show _ = _; rw [hR1]; rfl
          have hAt := HAA.out.below (HL.out.vs.bel)
          obtain ⟨ga, oa, hva, hga, x0, x1, x2⟩ := hAt.at (k := j) (a := ofArc a) (by rw [List.getElem?_map, ha]; rfl)
          subst hva
          have d0 : wr.cell? ⟨ga, oa + j * 3, none⟩ = some (.int .i32 a.label) := x0
          have d1 : wr.cell? ⟨ga, oa + j * 3 + 1, none⟩ = some (.int .i64 a.out) := x1
          have d2 : wr.cell? ⟨ga, oa + j * 3 + 2, none⟩ = some (.int .i64 (a.to : Int)) := x2
          clear x0 x1 x2
          obtain ⟨ab, hab⟩ : ∃ ab, ab = wr.heap.size := ⟨_, rfl⟩
          obtain ⟨W6, hW6⟩ : ∃ W6, W6 = wr.alloc (.cells #[.int .i32 a.label, .int .i64 a.out, .int .i64 (a.to : Int)] 63) := ⟨_, rfl⟩
          have hb6 : Below wr.heap.size wr W6 := by rw [hW6]; exact (Below.refl _ wr).alloc (Nat.le_refl _) _
          have hn6 : W6.heap[ab]? = some (.cells #[.int .i32 a.label, .int .i64 a.out, .int .i64 (a.to : Int)] 63) := by rw [hW6, hab]; exact alloc_newP _ _
          have hb7 : Below wr.heap.size wr W6.drew := hb6.drew
          obtain ⟨W7, hW7⟩ : ∃ W7, W7 = W6.drew := ⟨_, rfl⟩
          rw [← hW7] at hb7
          have hn7 : W7.heap[ab]? = some (.cells #[.int .i32 a.label, .int .i64 a.out, .int .i64 (a.to : Int)] 63) := by rw [hW7]; exact hn6
          have hvs7 := HL.out.vs.below hMI hb7
          have HV7 : Hid (VS w0 B tb wb yv I A1 (pre ++ (tF path weight s ++ tA D path weight (s.arcs.take j)).drop k) W7 (k - (tF path weight s ++ tA D path weight (s.arcs.take j)).length) pv1 path) := hvs7
          obtain ⟨kj, hkj⟩ : ∃ kj, k - (tF path weight s ++ tA D path weight (s.arcs.take j)).length = kj := ⟨_, rfl⟩
          have HKJ : Hid (k - (tF path weight s ++ tA D path weight (s.arcs.take j)).length = kj) := hkj
          have hkj2 : kj ≤ k := by omega
          rw [hkj] at HV7
          obtain ⟨t0, t1, t2, t3, tf⟩ := HV7.out.tr.facts
          have tf1 := tf 1
          have tf2 := tf 2
          have hwk := HWK.out.below HV7.out.bel
          obtain ⟨sd, sc, wd, wc, q0, q1, q2, hSt, hG⟩ := hwk.facts
          obtain ⟨gw, ow, hwd, hgw, cw⟩ := hG.num (k := a.to) (c := R1.length) (by rw [List.getElem?_map, hR1]; rfl)
          subst hwd
          have HS7 : Hid (S7v tb wb ab gw ow a.to (.slice (some ⟨gw, ow, none⟩) nb wc) R1.length W7) := ⟨t0, by rw [← HNC.out]; exact q2, by simp [World.cell?, hn7], cw⟩
          have ka0 : W7.cell? ⟨ab, 0, none⟩ = some (.int .i32 a.label) := by simp [World.cell?, hn7]
          have ka1 : W7.cell? ⟨ab, 1, none⟩ = some (.int .i64 a.out) := by simp [World.cell?, hn7]
          have ka2 : W7.cell? ⟨ab, 2, none⟩ = some (.int .i64 (a.to : Int)) := by simp [World.cell?, hn7]
          have HU7 : Hid (Below wr.heap.size wr W7) := hb7
          have HABn : Hid (ab < W7.heap.size ∧ wr.heap.size ≤ ab) := ⟨(Array.getElem?_eq_some_iff.1 hn7).1, by omega⟩
          have HN7 : Hid (W7.heap[ab]? = some (.cells #[.int .i32 a.label, .int .i64 a.out, .int .i64 (a.to : Int)] 63)) := hn7
          have htz : (a.to : Int) < (nb : Int) := by have := HNB2.out; have := HND.out; omega
          have htz0 : (0 : Int) ≤ (a.to : Int) := by omega
          clear hb6 hn6 hb7 hn7 hvs7 hwk hSt hG q0 q1 q2 cw hAt hkj hR1 HTL f4 hga hgw
          go_upto_region 7 with fail
          rw [← hab, ← hW6]
          clear hab d0 d1 d2 sc0 sc1 sc2
          have hS7 := HS7.out
          rw [hW7] at hS7
          refine region_at (S := S7v tb wb ab gw ow a.to (.slice (some ⟨gw, ow, none⟩) nb wc) R1.length) 12 rfl mixedP hS7 (fun _ => ?_)
          refine take_at (i := 0) 40 rfl rfl (by kernel_rfl) (by kernel_rfl) (by kernel_rfl) (fun _ _ _ h => h) (by rfl) (fun w hSw => by (have hSw2 := S7v.facts hSw; clear hSw; go_simp; first | done | exact rfl)) (by assumption) ?_
          simp only [List.setIfInBounds_toArray, List.set_cons_zero, List.set_cons_succ]
          refine take_at (i := 1) 41 rfl rfl (by kernel_rfl) (by kernel_rfl) (by kernel_rfl) (fun _ _ _ h => h) (by rfl) (fun w hSw => by (have hSw2 := S7v.facts hSw; clear hSw; go_simp; first | done | exact rfl)) (by assumption) ?_
          simp only [List.setIfInBounds_toArray, List.set_cons_zero, List.set_cons_succ]
          refine take_at (i := 2) 42 rfl rfl (by kernel_rfl) (by kernel_rfl) (by kernel_rfl) (fun _ _ _ h => h) (by rfl) (fun w hSw => by (have hSw2 := S7v.facts hSw; clear hSw; go_simp; first | done | exact rfl)) (by assumption) ?_
          simp only [List.setIfInBounds_toArray, List.set_cons_zero, List.set_cons_succ]
          refine take_at (i := 3) 43 rfl rfl (by kernel_rfl) (by kernel_rfl) (by kernel_rfl) (fun _ _ _ h => h) (by rfl) (fun w hSw => by (have hSw2 := S7v.facts hSw; clear hSw; go_simp; first | done | exact rfl)) (by assumption) ?_
          simp only [List.setIfInBounds_toArray, List.set_cons_zero, List.set_cons_succ]
          refine take_at (i := 4) 44 rfl rfl (by kernel_rfl) (by kernel_rfl) (by kernel_rfl) (fun _ _ _ h => h) (by rfl) (fun w hSw => by (have hSw2 := S7v.facts hSw; clear hSw; go_simp; first | done | exact rfl)) (by assumption) ?_
          simp only [List.setIfInBounds_toArray, List.set_cons_zero, List.set_cons_succ]
          refine take_at (i := 5) 45 rfl rfl (by kernel_rfl) (by kernel_rfl) (by kernel_rfl) (fun _ _ _ h => h) (by rfl) (fun w hSw => by (have hSw2 := S7v.facts hSw; clear hSw; go_simp; first | done | exact rfl)) (by assumption) ?_
          simp only [List.setIfInBounds_toArray, List.set_cons_zero, List.set_cons_succ]
          refine take_at (i := 6) 46 rfl rfl (by kernel_rfl) (by kernel_rfl) (by kernel_rfl) (fun _ _ _ h => h) (by rfl) (fun w hSw => by (have hSw2 := S7v.facts hSw; clear hSw; go_simp; first | done | exact rfl)) (by assumption) ?_
          simp only [List.setIfInBounds_toArray, List.set_cons_zero, List.set_cons_succ]
          refine take_at (i := 7) 47 rfl rfl (by kernel_rfl) (by kernel_rfl) (by kernel_rfl) (fun _ _ _ h => h) (by rfl) (fun w hSw => by (have hSw2 := S7v.facts hSw; clear hSw; go_simp; first | done | exact rfl)) (by assumption) ?_
          simp only [List.setIfInBounds_toArray, List.set_cons_zero, List.set_cons_succ]
          refine take_at (i := 8) 48 rfl rfl (by kernel_rfl) (by kernel_rfl) (by kernel_rfl) (fun _ _ _ h => h) (by rfl) (fun w hSw => by (have hSw2 := S7v.facts hSw; clear hSw; go_simp; first | done | exact rfl)) (by assumption) ?_
          simp only [List.setIfInBounds_toArray, List.set_cons_zero, List.set_cons_succ]
          refine take_at (i := 9) 49 rfl rfl (by kernel_rfl) (by kernel_rfl) (by kernel_rfl) (fun _ _ _ h => h) (by rfl) (fun w hSw => by (have hSw2 := S7v.facts hSw; clear hSw; go_simp; first | done | exact rfl)) (by assumption) ?_
          simp only [List.setIfInBounds_toArray, List.set_cons_zero, List.set_cons_succ]
          refine take_at (i := 10) 50 rfl rfl (by kernel_rfl) (by kernel_rfl) (by kernel_rfl) (fun _ _ _ h => h) (by rfl) (fun w hSw => by (have hSw2 := S7v.facts hSw; clear hSw; go_simp; first | done | exact rfl)) (by assumption) ?_
          simp only [List.setIfInBounds_toArray, List.set_cons_zero, List.set_cons_succ]
          refine take_at (i := 11) 10 rfl rfl (by kernel_rfl) (by kernel_rfl) (by kernel_rfl) (fun _ _ _ h => h) (by rfl) (fun w hSw => by (have hSw2 := S7v.facts hSw; clear hSw; go_simp; first | done | exact rfl)) (by assumption) ?_
          simp only [List.setIfInBounds_toArray, List.set_cons_zero, List.set_cons_succ]
          refine wpAnyH_done (by kernel_rfl) ?_ _
          rw [← hW7]
          clear hS7 HS7 hW7 hW6 htz
          by_cases hsk : R1.length ≤ kj
          · have hskz : ((R1.length : Nat) : Int) ≤ (kj : Int) := by omega
            have hsub : (kj : Int) - ((R1.length : Nat) : Int) = ((kj - R1.length : Nat) : Int) := by omega
            have HNX : Hid (VL w0 B tb wb yv I A pre Ws k pv path (tF path weight s ++ tA D path weight (s.arcs.take (j + 1))) A1 pv1 (W7.setCell ⟨tb, 1, none⟩ (.int .i64 ((kj - R1.length : Nat) : Int)))) := by
              have h1 := HL.out.skip (Y := tw (path ++ [a.label]) (weight + a.out) (D[a.to]?.getD [])) hB hMI HU7.out (by rw [tw_len, HG1.out]; have := HKJ.out; omega)
              rw [tw_len, HG1.out, HKJ.out] at h1
              rw [tA_snoc D path weight ha, HG1.out, ← List.append_assoc]
              exact h1
            have hr63 : R1.length ≤ 9223372036854775807 := by omega
            go_wp2
            go_roundg (na - (j + 1))
            case measure => omega
            case rel => exact ⟨j + 1, _, _, by go_num, by omega, Nat.le_refl _, HNX⟩
          · have hskz : ¬ ((R1.length : Nat) : Int) ≤ (kj : Int) := by omega
            obtain ⟨pd, pn, pc, hpv⟩ : ∃ pd pn pc, pv1 = .slice pd pn pc := by
              obtain ⟨ad, cap, e, _⟩ := GOwn.shape HV7.out.tr.row
              exact ⟨_, _, _, e⟩
            subst hpv
            go_upto_region 10 with fail
            obtain ⟨V3, hV3⟩ : ∃ V3, V3 = W7.drew := ⟨_, rfl⟩
            have hb3 : Below W7.heap.size W7 V3 := by rw [hV3]; exact (Below.refl _ W7).drew
            obtain ⟨V4, hV4⟩ : ∃ V4, V4 = V3.alloc (.cells #[.int .i32 a.label] 21) := ⟨_, rfl⟩
            have hb34 : Below V3.heap.size V3 V4 := by rw [hV4]; exact (Below.refl _ V3).alloc (Nat.le_refl _) _
            have hb4 : Below W7.heap.size W7 V4 := hb3.trans (hb34.mono hb3.size)
            have hn4 : V4.heap[V3.heap.size]? = some (.cells #[.int .i32 a.label] 21) := by rw [hV4]; exact alloc_newP _ _
            have hBV : B ≤ V4.heap.size := by have h1 := HV7.out.tr.lo; have h2 := HV7.out.tr.lt; have h3 := hb4.size; omega
            obtain ⟨v', W', hap, ho', hgr, hob⟩ := gappend_run rtyC (GOwn.below HV7.out.tr.row hb4) hBV (cellsC_ok a.label) (nb := V3.heap.size) (fun i u hi => by simp only [World.cell?, hn4]; simpa [cellsC] using hi) (by rw [List.length_map]; omega) 81 1
            obtain ⟨vd2, vn2, vc2, hvv2⟩ : ∃ vd vn vc, v' = .slice vd vn vc := by
              obtain ⟨ad, cap, e, _⟩ := GOwn.shape ho'
              exact ⟨_, _, _, e⟩
            subst hvv2
            have ho2 : COwn B W' (.slice vd2 vn2 vc2) (path ++ [a.label]) := by unfold COwn; rw [List.map_append]; exact ho'
            obtain ⟨hv8, hu8, hn8, hc1, hfz⟩ := HV7.out.push hB hMI hb4 hgr ho2 hob
            have hca : W'.cell? ⟨ab, 0, none⟩ = some (.int .i32 a.label) := by
              have h1 : W'.heap[ab]? = V4.heap[ab]? := hgr.block ab (by have h1 := HABn.out.1; have h2 := hb4.size; omega) (fun e => by
                have h1 := GOwn.lt HL.out.vs.tr.row e.symm
                have h2 := HABn.out.2
                omega)
              have h2 : V4.heap[ab]? = W7.heap[ab]? := hb4.block ab HABn.out.1
              simp [World.cell?, h1, h2, HN7.out]
            have hS0 : S10v tb ab (.slice pd pn pc) a.label V3 := ⟨by rw [hV3]; exact t2, by rw [hV3]; exact ka0⟩
            have hS4 : S10v tb ab (.slice pd pn pc) a.label V4 := ⟨(hb34.cell (p := ⟨tb, 2, none⟩) (by have h1 := HV7.out.tr.lt; have h2 := hb3.size; exact Nat.lt_of_lt_of_le h1 h2)).trans hS0.1, (hb34.cell (p := ⟨ab, 0, none⟩) (by have h1 := HABn.out.1; have h2 := hb3.size; exact Nat.lt_of_lt_of_le h1 h2)).trans hS0.2⟩
            have hS5 : S10v tb ab (.slice pd pn pc) a.label W' := ⟨hc1, hca⟩
            obtain ⟨W8, hW8⟩ : ∃ W8, W8 = W'.setCell ⟨tb, 2, none⟩ (.slice vd2 vn2 vc2) := ⟨_, rfl⟩
            rw [← hW8] at hv8 hu8
            have HAP2 : Hid ((Builtin.append_ #[81, 81] 81 #[.slice pd pn pc, .slice (some ⟨V3.heap.size, 0, none⟩) 1 1]).run Tryz.prog V4 = .ok (.slice vd2 vn2 vc2) W') := hap
            have HV8 : Hid (VS w0 B tb wb yv I A1 (pre ++ (tF path weight s ++ tA D path weight (s.arcs.take j)).drop k) W8 kj (.slice vd2 vn2 vc2) (path ++ [a.label])) := hv8
            have HU8 : Hid (Upd (fun i => i = tb ∨ (Value.slice pd pn pc).ownBlock = some i) W7 W8) := hu8
            have HN8 : Hid (NewP W7 (.slice pd pn pc) (.slice vd2 vn2 vc2)) := hn8
            have ca2 : W8.cell? ⟨ab, 1, none⟩ = some (.int .i64 a.out) ∧ W8.cell? ⟨ab, 2, none⟩ = some (.int .i64 (a.to : Int)) := by
              have h1 : W8.heap[ab]? = W7.heap[ab]? := hu8.block ab HABn.out.1 (fun e => by
                have h2 := HABn.out.2
                have h3 := HL.out.vs.tr.lt
                rcases e with e | e
                · omega
                · have h1 := GOwn.lt HL.out.vs.tr.row e
                  omega)
              exact ⟨by simp [World.cell?, h1, HN7.out], by simp [World.cell?, h1, HN7.out]⟩
            obtain ⟨ca1, ca2⟩ := ca2
            have HREC : Hid (Calls Tryz.prog 70 #[.pointer (some ⟨tb, 0, none⟩), .int .i64 (a.to : Int), .int .i64 (weight + a.out)] W8 (VPost w0 B tb wb yv I X A1 (pre ++ (tF path weight s ++ tA D path weight (s.arcs.take j)).drop k) W8 kj (.slice vd2 vn2 vc2) (path ++ [a.label]) (tw (path ++ [a.label]) (weight + a.out) R1))) :=
              HIH.out a.to (by omega) A1 _ W8 kj (.slice vd2 vn2 vc2) (path ++ [a.label]) (weight + a.out) R1 HR1.out (by rw [← HG1.out]; exact HTT.out) HV8.out (by omega)
            have hS0' : S10v tb ab (.slice pd pn pc) a.label W7.drew := hV3 ▸ hS0
            refine region_atE (S := S10v tb ab (.slice pd pn pc) a.label) 12 11 rfl mixedP ?_
            rw [← hV3]
            clear hS0' hap ho' hgr hob ho2 hv8 hu8 hn8 hc1 hca hb3 hb34 hb4 hn4 ka0 ka1 ka2 t0 t1 t2 t3
            refine take_atE (i := 0) 65 rfl rfl (by kernel_rfl) (by kernel_rfl) (by kernel_rfl) (by kernel_rfl) (fun _ _ _ h => h) (by rfl) (fun w hSw => by (have hSw2 := S10v.facts hSw; clear hSw; go_simp; first | done | exact rfl)) (by assumption) ?_
            simp only [List.setIfInBounds_toArray, List.set_cons_zero, List.set_cons_succ]
            refine take_atE (i := 1) 66 rfl rfl (by kernel_rfl) (by kernel_rfl) (by kernel_rfl) (by kernel_rfl) (fun _ _ _ h => h) (by rfl) (fun w hSw => by (have hSw2 := S10v.facts hSw; clear hSw; go_simp; first | done | exact rfl)) (by assumption) ?_
            simp only [List.setIfInBounds_toArray, List.set_cons_zero, List.set_cons_succ]
            refine take_atE (i := 2) 67 rfl rfl (by kernel_rfl) (by kernel_rfl) (by kernel_rfl) (by kernel_rfl) (fun _ _ _ h => h) (by rfl) (fun w hSw => by (have hSw2 := S10v.facts hSw; clear hSw; go_simp; first | done | exact rfl)) (by assumption) ?_
            simp only [List.setIfInBounds_toArray, List.set_cons_zero, List.set_cons_succ]
            refine take_atE (i := 3) 68 rfl rfl (by kernel_rfl) (by kernel_rfl) (by kernel_rfl) (by kernel_rfl) (fun _ _ _ h => h) (by rfl) (fun w hSw => by (have hSw2 := S10v.facts hSw; clear hSw; go_simp; first | done | exact rfl)) (by assumption) ?_
            simp only [List.setIfInBounds_toArray, List.set_cons_zero, List.set_cons_succ]
            refine take_atE (i := 4) 69 rfl rfl (by kernel_rfl) (by kernel_rfl) (by kernel_rfl) (by kernel_rfl) (fun _ _ _ h => h) (by rfl) (fun w hSw => by (have hSw2 := S10v.facts hSw; clear hSw; go_simp; first | done | exact rfl)) (by assumption) ?_
            simp only [List.setIfInBounds_toArray, List.set_cons_zero, List.set_cons_succ]
            refine take_atE (i := 5) 70 rfl rfl (by kernel_rfl) (by kernel_rfl) (by kernel_rfl) (by kernel_rfl) (fun _ _ _ h => h) (by rfl) (fun w hSw => by (have hSw2 := S10v.facts hSw; clear hSw; go_simp; first | done | exact rfl)) (by assumption) ?_
            simp only [List.setIfInBounds_toArray, List.set_cons_zero, List.set_cons_succ]
            refine take_atE (i := 6) 71 rfl rfl (by kernel_rfl) (by kernel_rfl) (by kernel_rfl) (by kernel_rfl) (fun _ _ _ h => h) (by rfl) (fun w hSw => by (have hSw2 := S10v.facts hSw; clear hSw; go_simp; first | done | exact rfl)) (by assumption) ?_
            simp only [List.setIfInBounds_toArray, List.set_cons_zero, List.set_cons_succ]
            refine one_valueE (i := 7) (v := .slice (some ⟨V3.heap.size, 0, none⟩) 1 1) (w' := V4) 72 (by kernel_rfl) rfl rfl (by rfl) (by rw [hV4]; go_simp; first | done | exact rfl) hS4 ?_
            simp only [List.setIfInBounds_toArray, List.set_cons_zero, List.set_cons_succ]
            refine one_valueE (i := 8) (v := (.slice vd2 vn2 vc2)) (w' := W') 73 (by kernel_rfl) rfl rfl (by rfl) (exec_app HAP2.out) hS5 ?_
            simp only [List.setIfInBounds_toArray, List.set_cons_zero, List.set_cons_succ]
            refine one_valueE (i := 9) (v := .pointer (some ⟨tb, 0, none⟩)) (w' := W') 74 (by kernel_rfl) rfl rfl (by rfl) (by kernel_rfl) hS5 ?_
            simp only [List.setIfInBounds_toArray, List.set_cons_zero, List.set_cons_succ]
            refine one_valueE (i := 10) (v := .pointer (some ⟨tb, 2, none⟩)) (w' := W') 75 (by kernel_rfl) rfl rfl (by rfl) (by kernel_rfl) hS5 ?_
            simp only [List.setIfInBounds_toArray, List.set_cons_zero, List.set_cons_succ]
            have hc1 := hS5.1
            refine last_skipE (w' := W8) (by kernel_rfl) rfl rfl (by rfl) (by rw [hW8]; go_simp; first | done | exact rfl) (by kernel_rfl) ?_
            clear hc1 hfz hV4 hW8 hV3 hS0 hS4 hS5 HAP2 tf1 tf2
            have HX : Hid (∀ (q : List Pr) (A3 : Nat → Prop) (W9 : World), q <+: (tw (path ++ [a.label]) (weight + a.out) R1).drop kj → Ext A1 A3 W8 → Lies A3 W9 → Upd (fun i => A1 i ∨ i = tb ∨ (Value.slice vd2 vn2 vc2).ownBlock = some i) W8 W9 → X A3 (pre ++ (tF path weight s ++ tA D path weight (s.arcs.take j)).drop k ++ q) W9 → VPost w0 B tb wb yv I X A pre W k pv path (tw path weight R) (.returned (.bool false)) W9) := fun q A3 W9 hq he9 hl9 hu9 hx => by
              obtain ⟨z1, z2⟩ := HL.out.stop HWS.out HU7.out HU8.out HN8.out he9 hu9
              refine .inr ⟨rfl, (tF path weight s ++ tA D path weight (s.arcs.take j)).drop k ++ q, A3, ?_, z1, hl9, z2, by rw [← List.append_assoc]; exact hx⟩
              rw [HRS.out, tw_exp, tA_split D path weight s.arcs (j + 1), tA_snoc D path weight ha, HG1.out, ← List.append_assoc, ← List.append_assoc]
              exact pre_deep (by rw [HKJ.out]; exact hq)
            go_upto_region 13 with (go_at_call 70; refine HREC.out.mono ?_; intro e W9 hp; rcases hp with ⟨rfl, A3, pv3, he9, hu9, hv9, hn9⟩ | ⟨rfl, q, A3, hq, he9, hl9, hu9, hx⟩; rotate_left; focus (have HFF : Hid (VPost w0 B tb wb yv I X A pre W k pv path (tw path weight R) (.returned (.bool false)) W9) := HX.out q A3 W9 hq he9 hl9 hu9 hx; clear hq he9 hl9 hu9 hx; go_wp2; go_ret; exact HFF.out))
            obtain ⟨g3, cap3, hpv3, hcap3, hVL⟩ := HL.out.deep (Y := tw (path ++ [a.label]) (weight + a.out) R1) hB hMI HU7.out HU8.out HN8.out he9 hu9 hn9 (by rw [HKJ.out]; exact hv9)
            subst hpv3
            have HNX : Hid (VL w0 B tb wb yv I A pre Ws k pv path (tF path weight s ++ tA D path weight (s.arcs.take (j + 1))) A3 (.slice (some ⟨g3, 0, none⟩) path.length cap3) (W9.drew.setCell ⟨tb, 2, none⟩ (.slice (some ⟨g3, 0, none⟩) path.length cap3))) := by
              rw [tA_snoc D path weight ha, HG1.out, ← List.append_assoc]
              exact hVL
            obtain ⟨_, _, y2, _, yf⟩ := hv9.tr.facts
            have y2 : W9.drew.cell? ⟨tb, 2, none⟩ = some (.slice (some ⟨g3, 0, none⟩) (path.length + 1) cap3) := y2
            have yf2 : W9.drew.frozen? ⟨tb, 2, none⟩ = false := yf 2
            obtain ⟨pl, hpl⟩ : ∃ pl, path.length = pl := ⟨_, rfl⟩
            rw [hpl] at y2 HNX hcap3 hp24
            clear hpl hVL hv9 he9 hu9 hn9 yf ca1 ca2 tf HREC HX HV8 HU8 HN8
            obtain ⟨W10, hW10⟩ : ∃ W10, W10 = W9.drew.setCell ⟨tb, 2, none⟩ (.slice (some ⟨g3, 0, none⟩) pl cap3) := ⟨_, rfl⟩
            rw [← hW10] at HNX
            refine region_atE (S := fun W => W.cell? ⟨tb, 2, none⟩ = some (.slice (some ⟨g3, 0, none⟩) (pl + 1) cap3)) 15 14 rfl mixedP ?_
            refine take_atE (i := 0) 85 rfl rfl (by kernel_rfl) (by kernel_rfl) (by kernel_rfl) (by kernel_rfl) (fun _ _ _ h => h) (by rfl) (fun w hSw => by (have hSw2 := id hSw; clear hSw; go_simp; first | done | exact rfl)) (by assumption) ?_
            simp only [List.setIfInBounds_toArray, List.set_cons_zero, List.set_cons_succ]
            refine take_atE (i := 1) 86 rfl rfl (by kernel_rfl) (by kernel_rfl) (by kernel_rfl) (by kernel_rfl) (fun _ _ _ h => h) (by rfl) (fun w hSw => by (have hSw2 := id hSw; clear hSw; go_simp; first | done | exact rfl)) (by assumption) ?_
            simp only [List.setIfInBounds_toArray, List.set_cons_zero, List.set_cons_succ]
            refine take_atE (i := 2) 87 rfl rfl (by kernel_rfl) (by kernel_rfl) (by kernel_rfl) (by kernel_rfl) (fun _ _ _ h => h) (by rfl) (fun w hSw => by (have hSw2 := id hSw; clear hSw; go_simp; first | done | exact rfl)) (by assumption) ?_
            simp only [List.setIfInBounds_toArray, List.set_cons_zero, List.set_cons_succ]
            refine take_atE (i := 3) 88 rfl rfl (by kernel_rfl) (by kernel_rfl) (by kernel_rfl) (by kernel_rfl) (fun _ _ _ h => h) (by rfl) (fun w hSw => by (have hSw2 := id hSw; clear hSw; go_simp; first | done | exact rfl)) (by assumption) ?_
            simp only [List.setIfInBounds_toArray, List.set_cons_zero, List.set_cons_succ]
            refine take_atE (i := 4) 89 rfl rfl (by kernel_rfl) (by kernel_rfl) (by kernel_rfl) (by kernel_rfl) (fun _ _ _ h => h) (by rfl) (fun w hSw => by (have hSw2 := id hSw; clear hSw; go_simp; first | done | exact rfl)) (by assumption) ?_
            simp only [List.setIfInBounds_toArray, List.set_cons_zero, List.set_cons_succ]
            refine take_atE (i := 5) 90 rfl rfl (by kernel_rfl) (by kernel_rfl) (by kernel_rfl) (by kernel_rfl) (fun _ _ _ h => h) (by rfl) (fun w hSw => by (have hSw2 := id hSw; clear hSw; go_simp; first | done | exact rfl)) (by assumption) ?_
            simp only [List.setIfInBounds_toArray, List.set_cons_zero, List.set_cons_succ]
            refine take_atE (i := 6) 91 rfl rfl (by kernel_rfl) (by kernel_rfl) (by kernel_rfl) (by kernel_rfl) (fun _ _ _ h => h) (by rfl) (fun w hSw => by (have hSw2 := id hSw; clear hSw; go_simp; first | done | exact rfl)) (by assumption) ?_
            simp only [List.setIfInBounds_toArray, List.set_cons_zero, List.set_cons_succ]
            refine take_atE (i := 7) 92 rfl rfl (by kernel_rfl) (by kernel_rfl) (by kernel_rfl) (by kernel_rfl) (fun _ _ _ h => h) (by rfl) (fun w hSw => by (have hSw2 := id hSw; clear hSw; go_simp; first | done | exact rfl)) (by assumption) ?_
            simp only [List.setIfInBounds_toArray, List.set_cons_zero, List.set_cons_succ]
            refine take_atE (i := 8) 93 rfl rfl (by kernel_rfl) (by kernel_rfl) (by kernel_rfl) (by kernel_rfl) (fun _ _ _ h => h) (by rfl) (fun w hSw => by (have hSw2 := id hSw; clear hSw; go_simp; first | done | exact rfl)) (by assumption) ?_
            simp only [List.setIfInBounds_toArray, List.set_cons_zero, List.set_cons_succ]
            refine take_atE (i := 9) 94 rfl rfl (by kernel_rfl) (by kernel_rfl) (by kernel_rfl) (by kernel_rfl) (fun _ _ _ h => h) (by rfl) (fun w hSw => by (have hSw2 := id hSw; clear hSw; go_simp; first | done | exact rfl)) (by assumption) ?_
            simp only [List.setIfInBounds_toArray, List.set_cons_zero, List.set_cons_succ]
            refine take_atE (i := 10) (v := .int .i64 (pl : Int)) 95 rfl rfl (by kernel_rfl) (by kernel_rfl) (by kernel_rfl) (by kernel_rfl) (fun _ _ _ h => h) (by rfl) (fun w hSw => by (have hSw2 := id hSw; clear hSw; go_simp; exact wrap_pl hp24)) (by assumption) ?_
            simp only [List.setIfInBounds_toArray, List.set_cons_zero, List.set_cons_succ]
            refine take_atE (i := 11) (v := .slice (some ⟨g3, 0, none⟩) pl cap3) 96 rfl rfl (by kernel_rfl) (by kernel_rfl) (by kernel_rfl) (by kernel_rfl) (fun _ _ _ h => h) (by rfl) (fun w hSw => by (have hSw2 := id hSw; clear hSw; go_simp; first | done | (intro hcc; omega))) (by assumption) ?_
            simp only [List.setIfInBounds_toArray, List.set_cons_zero, List.set_cons_succ]
            refine one_valueE (i := 12) (v := .pointer (some ⟨tb, 0, none⟩)) (w' := W9.drew) 97 (by kernel_rfl) rfl rfl (by rfl) (by kernel_rfl) y2 ?_
            simp only [List.setIfInBounds_toArray, List.set_cons_zero, List.set_cons_succ]
            refine one_valueE (i := 13) (v := .pointer (some ⟨tb, 2, none⟩)) (w' := W9.drew) 98 (by kernel_rfl) rfl rfl (by rfl) (by kernel_rfl) y2 ?_
            simp only [List.setIfInBounds_toArray, List.set_cons_zero, List.set_cons_succ]
            refine last_skipE (w' := W10) (by kernel_rfl) rfl rfl (by rfl) (by rw [hW10]; go_simp; first | done | exact rfl) (by kernel_rfl) ?_
            clear hW10 y2 yf2
            go_wp2
            go_roundg (na - (j + 1))
            case measure => omega
            case rel => exact ⟨j + 1, _, _, by go_num, by omega, Nat.le_refl _, HNX⟩
        · have hjn : j = na := by omega
          have hltz : ¬ (j : Int) < (na : Int) := by omega
          subst hjn
          clear HSB sc0 sc1 sc2
          go_wp2
          go_ret
          have e : tw path weight R = tF path weight s ++ tA D path weight (s.arcs.take j) := by rw [HRS.out, tw_exp, ← HNA.out, List.take_length]
          rw [e]
          exact HL.out.out HWS.out
    · obtain ⟨k2, hk2⟩ : ∃ k2, k = k2 + 1 := ⟨k - 1, by omega⟩
      have htr : TrAt B Ws tb wb (k2 + 1) pv yv path := by have := HVs.out.tr; rw [hk2] at this; exact this
      have HTS : Hid (Calls Tryz.prog 94 #[.pointer (some ⟨tb, 0, none⟩), .int .i64 (weight + s.out)] Ws fun e W' => e = .returned (.bool true) ∧ W' = Ws.setCell ⟨tb, 1, none⟩ (.int .i64 (k2 : Int))) := tell_skip B Ws tb wb k2 pv yv path (weight + s.out) htr (by omega)
      have hl1 : VL w0 B tb wb yv I A pre Ws k pv path [] A pv Ws := ⟨Ext.refl _ _, Upd.refl _ _, .inl rfl, by simpa using HVs.out⟩
      have hl2 := hl1.skip (Y := tF path weight s) hB hMI (Below.refl _ _) (by rw [HTF.out]; simp; omega)
      have hkk : k - ([] : List Pr).length - (tF path weight s).length = k2 := by rw [HTF.out]; simp; omega
      rw [hkk, List.nil_append] at hl2
      obtain ⟨W2, hW2⟩ : ∃ W2, W2 = Ws.setCell ⟨tb, 1, none⟩ (.int .i64 (k2 : Int)) := ⟨_, rfl⟩
      rw [← hW2] at hl2 HTS
      obtain ⟨A2, HL0⟩ : ∃ A2, Hid (VL w0 B tb wb yv I A pre Ws k pv path (tF path weight s ++ tA D path weight (s.arcs.take 0)) A2 pv W2) := ⟨A, by rw [HT0.out, List.append_nil]; exact hl2⟩
      obtain ⟨sd0, sd1, sd2⟩ := HSB.out W2 hl2.upd
      clear hl1 hl2 hW2 hk0 hk2 hkk htr
      go_wp2_with (go_at_call 94; refine HTS.out.mono ?_; rintro e w2 ⟨rfl, hw2⟩; rw [hw2]; clear hw2)
      go_loopg [9, 10, 36] na (fun gm _ _ s36 wr => ∃ (j : Nat) (A1 : Nat → Prop) (pv1 : Value), s36 = .int .i64 j ∧ j ≤ na ∧ na - j ≤ gm ∧ Hid (VL w0 B tb wb yv I A pre Ws k pv path (tF path weight s ++ tA D path weight (s.arcs.take j)) A1 pv1 wr))
      case atStart => exact ⟨0, A2, pv, by go_num, Nat.zero_le _, by omega, HL0⟩
      case round =>
        obtain ⟨j, A1, pv1, rfl, hj, hgm, HL⟩ := hrel
        have hsb := HSB.out wr HL.out.upd
        obtain ⟨sc0, sc1, sc2⟩ := hsb
        by_cases hlt : j < na
        · have hltz : (j : Int) < (na : Int) := by omega
          obtain ⟨a, ha⟩ : ∃ a, s.arcs[j]? = some a := ⟨s.arcs[j]'(by have := HNA.out; omega), List.getElem?_eq_getElem _⟩
          obtain ⟨HTL, hp24, hsum⟩ := Tells.arc hI hR HBN.out HTE.out (List.mem_of_getElem? ha)
          obtain ⟨f1, f2, f3, f4⟩ := arc_facts hI hR HBN.out a (List.mem_of_getElem? ha)
          have hwlo : 0 ≤ weight := HTE.out.lo
          have HTT : Hid (Tells base (path ++ [a.label]) (weight + a.out) (D[a.to]?.getD [])) := HTL
          have HF4 : Hid (wordR a.label = true) := f4
          have haD : a.to < D.length := by have := HND.out; omega
          obtain ⟨R1, hR1⟩ : ∃ R1, D[a.to]? = some R1 := ⟨D[a.to], List.getElem?_eq_getElem haD⟩
          have HR1 : Hid (D[a.to]? = some R1) := hR1
          have HG1 : Hid (D[a.to]?.getD [] = R1) := by show _ = _; rw [hR1]; rfl
          have hAt := HAA.out.below (HL.out.vs.bel)
          obtain ⟨ga, oa, hva, hga, x0, x1, x2⟩ := hAt.at (k := j) (a := ofArc a) (by rw [List.getElem?_map, ha]; rfl)
          subst hva
          have d0 : wr.cell? ⟨ga, oa + j * 3, none⟩ = some (.int .i32 a.label) := x0
          have d1 : wr.cell? ⟨ga, oa + j * 3 + 1, none⟩ = some (.int .i64 a.out) := x1
          have d2 : wr.cell? ⟨ga, oa + j * 3 + 2, none⟩ = some (.int .i64 (a.to : Int)) := x2
          clear x0 x1 x2
          obtain ⟨ab, hab⟩ : ∃ ab, ab = wr.heap.size := ⟨_, rfl⟩
          obtain ⟨W6, hW6⟩ : ∃ W6, W6 = wr.alloc (.cells #[.int .i32 a.label, .int .i64 a.out, .int .i64 (a.to : Int)] 63) := ⟨_, rfl⟩
          have hb6 : Below wr.heap.size wr W6 := by rw [hW6]; exact (Below.refl _ wr).alloc (Nat.le_refl _) _
          have hn6 : W6.heap[ab]? = some (.cells #[.int .i32 a.label, .int .i64 a.out, .int .i64 (a.to : Int)] 63) := by rw [hW6, hab]; exact alloc_newP _ _
          have hb7 : Below wr.heap.size wr W6.drew := hb6.drew
          obtain ⟨W7, hW7⟩ : ∃ W7, W7 = W6.drew := ⟨_, rfl⟩
          rw [← hW7] at hb7
          have hn7 : W7.heap[ab]? = some (.cells #[.int .i32 a.label, .int .i64 a.out, .int .i64 (a.to : Int)] 63) := by rw [hW7]; exact hn6
          have hvs7 := HL.out.vs.below hMI hb7
          have HV7 : Hid (VS w0 B tb wb yv I A1 (pre ++ (tF path weight s ++ tA D path weight (s.arcs.take j)).drop k) W7 (k - (tF path weight s ++ tA D path weight (s.arcs.take j)).length) pv1 path) := hvs7
          obtain ⟨kj, hkj⟩ : ∃ kj, k - (tF path weight s ++ tA D path weight (s.arcs.take j)).length = kj := ⟨_, rfl⟩
          have HKJ : Hid (k - (tF path weight s ++ tA D path weight (s.arcs.take j)).length = kj) := hkj
          have hkj2 : kj ≤ k := by omega
          rw [hkj] at HV7
          obtain ⟨t0, t1, t2, t3, tf⟩ := HV7.out.tr.facts
          have tf1 := tf 1
          have tf2 := tf 2
          have hwk := HWK.out.below HV7.out.bel
          obtain ⟨sd, sc, wd, wc, q0, q1, q2, hSt, hG⟩ := hwk.facts
          obtain ⟨gw, ow, hwd, hgw, cw⟩ := hG.num (k := a.to) (c := R1.length) (by rw [List.getElem?_map, hR1]; rfl)
          subst hwd
          have HS7 : Hid (S7v tb wb ab gw ow a.to (.slice (some ⟨gw, ow, none⟩) nb wc) R1.length W7) := ⟨t0, by rw [← HNC.out]; exact q2, by simp [World.cell?, hn7], cw⟩
          have ka0 : W7.cell? ⟨ab, 0, none⟩ = some (.int .i32 a.label) := by simp [World.cell?, hn7]
          have ka1 : W7.cell? ⟨ab, 1, none⟩ = some (.int .i64 a.out) := by simp [World.cell?, hn7]
          have ka2 : W7.cell? ⟨ab, 2, none⟩ = some (.int .i64 (a.to : Int)) := by simp [World.cell?, hn7]
          have HU7 : Hid (Below wr.heap.size wr W7) := hb7
          have HABn : Hid (ab < W7.heap.size ∧ wr.heap.size ≤ ab) := ⟨(Array.getElem?_eq_some_iff.1 hn7).1, by omega⟩
          have HN7 : Hid (W7.heap[ab]? = some (.cells #[.int .i32 a.label, .int .i64 a.out, .int .i64 (a.to : Int)] 63)) := hn7
          have htz : (a.to : Int) < (nb : Int) := by have := HNB2.out; have := HND.out; omega
          have htz0 : (0 : Int) ≤ (a.to : Int) := by omega
          clear hb6 hn6 hb7 hn7 hvs7 hwk hSt hG q0 q1 q2 cw hAt hkj hR1 HTL f4 hga hgw
          go_upto_region 7 with fail
          rw [← hab, ← hW6]
          clear hab d0 d1 d2 sc0 sc1 sc2
          have hS7 := HS7.out
          rw [hW7] at hS7
          refine region_at (S := S7v tb wb ab gw ow a.to (.slice (some ⟨gw, ow, none⟩) nb wc) R1.length) 12 rfl mixedP hS7 (fun _ => ?_)
          refine take_at (i := 0) 40 rfl rfl (by kernel_rfl) (by kernel_rfl) (by kernel_rfl) (fun _ _ _ h => h) (by rfl) (fun w hSw => by (have hSw2 := S7v.facts hSw; clear hSw; go_simp; first | done | exact rfl)) (by assumption) ?_
          simp only [List.setIfInBounds_toArray, List.set_cons_zero, List.set_cons_succ]
          refine take_at (i := 1) 41 rfl rfl (by kernel_rfl) (by kernel_rfl) (by kernel_rfl) (fun _ _ _ h => h) (by rfl) (fun w hSw => by (have hSw2 := S7v.facts hSw; clear hSw; go_simp; first | done | exact rfl)) (by assumption) ?_
          simp only [List.setIfInBounds_toArray, List.set_cons_zero, List.set_cons_succ]
          refine take_at (i := 2) 42 rfl rfl (by kernel_rfl) (by kernel_rfl) (by kernel_rfl) (fun _ _ _ h => h) (by rfl) (fun w hSw => by (have hSw2 := S7v.facts hSw; clear hSw; go_simp; first | done | exact rfl)) (by assumption) ?_
          simp only [List.setIfInBounds_toArray, List.set_cons_zero, List.set_cons_succ]
          refine take_at (i := 3) 43 rfl rfl (by kernel_rfl) (by kernel_rfl) (by kernel_rfl) (fun _ _ _ h => h) (by rfl) (fun w hSw => by (have hSw2 := S7v.facts hSw; clear hSw; go_simp; first | done | exact rfl)) (by assumption) ?_
          simp only [List.setIfInBounds_toArray, List.set_cons_zero, List.set_cons_succ]
          refine take_at (i := 4) 44 rfl rfl (by kernel_rfl) (by kernel_rfl) (by kernel_rfl) (fun _ _ _ h => h) (by rfl) (fun w hSw => by (have hSw2 := S7v.facts hSw; clear hSw; go_simp; first | done | exact rfl)) (by assumption) ?_
          simp only [List.setIfInBounds_toArray, List.set_cons_zero, List.set_cons_succ]
          refine take_at (i := 5) 45 rfl rfl (by kernel_rfl) (by kernel_rfl) (by kernel_rfl) (fun _ _ _ h => h) (by rfl) (fun w hSw => by (have hSw2 := S7v.facts hSw; clear hSw; go_simp; first | done | exact rfl)) (by assumption) ?_
          simp only [List.setIfInBounds_toArray, List.set_cons_zero, List.set_cons_succ]
          refine take_at (i := 6) 46 rfl rfl (by kernel_rfl) (by kernel_rfl) (by kernel_rfl) (fun _ _ _ h => h) (by rfl) (fun w hSw => by (have hSw2 := S7v.facts hSw; clear hSw; go_simp; first | done | exact rfl)) (by assumption) ?_
          simp only [List.setIfInBounds_toArray, List.set_cons_zero, List.set_cons_succ]
          refine take_at (i := 7) 47 rfl rfl (by kernel_rfl) (by kernel_rfl) (by kernel_rfl) (fun _ _ _ h => h) (by rfl) (fun w hSw => by (have hSw2 := S7v.facts hSw; clear hSw; go_simp; first | done | exact rfl)) (by assumption) ?_
          simp only [List.setIfInBounds_toArray, List.set_cons_zero, List.set_cons_succ]
          refine take_at (i := 8) 48 rfl rfl (by kernel_rfl) (by kernel_rfl) (by kernel_rfl) (fun _ _ _ h => h) (by rfl) (fun w hSw => by (have hSw2 := S7v.facts hSw; clear hSw; go_simp; first | done | exact rfl)) (by assumption) ?_
          simp only [List.setIfInBounds_toArray, List.set_cons_zero, List.set_cons_succ]
          refine take_at (i := 9) 49 rfl rfl (by kernel_rfl) (by kernel_rfl) (by kernel_rfl) (fun _ _ _ h => h) (by rfl) (fun w hSw => by (have hSw2 := S7v.facts hSw; clear hSw; go_simp; first | done | exact rfl)) (by assumption) ?_
          simp only [List.setIfInBounds_toArray, List.set_cons_zero, List.set_cons_succ]
          refine take_at (i := 10) 50 rfl rfl (by kernel_rfl) (by kernel_rfl) (by kernel_rfl) (fun _ _ _ h => h) (by rfl) (fun w hSw => by (have hSw2 := S7v.facts hSw; clear hSw; go_simp; first | done | exact rfl)) (by assumption) ?_
          simp only [List.setIfInBounds_toArray, List.set_cons_zero, List.set_cons_succ]
          refine take_at (i := 11) 10 rfl rfl (by kernel_rfl) (by kernel_rfl) (by kernel_rfl) (fun _ _ _ h => h) (by rfl) (fun w hSw => by (have hSw2 := S7v.facts hSw; clear hSw; go_simp; first | done | exact rfl)) (by assumption) ?_
          simp only [List.setIfInBounds_toArray, List.set_cons_zero, List.set_cons_succ]
          refine wpAnyH_done (by kernel_rfl) ?_ _
          rw [← hW7]
          clear hS7 HS7 hW7 hW6 htz
          by_cases hsk : R1.length ≤ kj
          · have hskz : ((R1.length : Nat) : Int) ≤ (kj : Int) := by omega
            have hsub : (kj : Int) - ((R1.length : Nat) : Int) = ((kj - R1.length : Nat) : Int) := by omega
            have HNX : Hid (VL w0 B tb wb yv I A pre Ws k pv path (tF path weight s ++ tA D path weight (s.arcs.take (j + 1))) A1 pv1 (W7.setCell ⟨tb, 1, none⟩ (.int .i64 ((kj - R1.length : Nat) : Int)))) := by
              have h1 := HL.out.skip (Y := tw (path ++ [a.label]) (weight + a.out) (D[a.to]?.getD [])) hB hMI HU7.out (by rw [tw_len, HG1.out]; have := HKJ.out; omega)
              rw [tw_len, HG1.out, HKJ.out] at h1
              rw [tA_snoc D path weight ha, HG1.out, ← List.append_assoc]
              exact h1
            have hr63 : R1.length ≤ 9223372036854775807 := by omega
            go_wp2
            go_roundg (na - (j + 1))
            case measure => omega
            case rel => exact ⟨j + 1, _, _, by go_num, by omega, Nat.le_refl _, HNX⟩
          · have hskz : ¬ ((R1.length : Nat) : Int) ≤ (kj : Int) := by omega
            obtain ⟨pd, pn, pc, hpv⟩ : ∃ pd pn pc, pv1 = .slice pd pn pc := by
              obtain ⟨ad, cap, e, _⟩ := GOwn.shape HV7.out.tr.row
              exact ⟨_, _, _, e⟩
            subst hpv
            go_upto_region 10 with fail
            obtain ⟨V3, hV3⟩ : ∃ V3, V3 = W7.drew := ⟨_, rfl⟩
            have hb3 : Below W7.heap.size W7 V3 := by rw [hV3]; exact (Below.refl _ W7).drew
            obtain ⟨V4, hV4⟩ : ∃ V4, V4 = V3.alloc (.cells #[.int .i32 a.label] 21) := ⟨_, rfl⟩
            have hb34 : Below V3.heap.size V3 V4 := by rw [hV4]; exact (Below.refl _ V3).alloc (Nat.le_refl _) _
            have hb4 : Below W7.heap.size W7 V4 := hb3.trans (hb34.mono hb3.size)
            have hn4 : V4.heap[V3.heap.size]? = some (.cells #[.int .i32 a.label] 21) := by rw [hV4]; exact alloc_newP _ _
            have hBV : B ≤ V4.heap.size := by have h1 := HV7.out.tr.lo; have h2 := HV7.out.tr.lt; have h3 := hb4.size; omega
            obtain ⟨v', W', hap, ho', hgr, hob⟩ := gappend_run rtyC (GOwn.below HV7.out.tr.row hb4) hBV (cellsC_ok a.label) (nb := V3.heap.size) (fun i u hi => by simp only [World.cell?, hn4]; simpa [cellsC] using hi) (by rw [List.length_map]; omega) 81 1
            obtain ⟨vd2, vn2, vc2, hvv2⟩ : ∃ vd vn vc, v' = .slice vd vn vc := by
              obtain ⟨ad, cap, e, _⟩ := GOwn.shape ho'
              exact ⟨_, _, _, e⟩
            subst hvv2
            have ho2 : COwn B W' (.slice vd2 vn2 vc2) (path ++ [a.label]) := by unfold COwn; rw [List.map_append]; exact ho'
            obtain ⟨hv8, hu8, hn8, hc1, hfz⟩ := HV7.out.push hB hMI hb4 hgr ho2 hob
            have hca : W'.cell? ⟨ab, 0, none⟩ = some (.int .i32 a.label) := by
              have h1 : W'.heap[ab]? = V4.heap[ab]? := hgr.block ab (by have h1 := HABn.out.1; have h2 := hb4.size; omega) (fun e => by
                have h1 := GOwn.lt HL.out.vs.tr.row e.symm
                have h2 := HABn.out.2
                omega)
              have h2 : V4.heap[ab]? = W7.heap[ab]? := hb4.block ab HABn.out.1
              simp [World.cell?, h1, h2, HN7.out]
            have hS0 : S10v tb ab (.slice pd pn pc) a.label V3 := ⟨by rw [hV3]; exact t2, by rw [hV3]; exact ka0⟩
            have hS4 : S10v tb ab (.slice pd pn pc) a.label V4 := ⟨(hb34.cell (p := ⟨tb, 2, none⟩) (by have h1 := HV7.out.tr.lt; have h2 := hb3.size; exact Nat.lt_of_lt_of_le h1 h2)).trans hS0.1, (hb34.cell (p := ⟨ab, 0, none⟩) (by have h1 := HABn.out.1; have h2 := hb3.size; exact Nat.lt_of_lt_of_le h1 h2)).trans hS0.2⟩
            have hS5 : S10v tb ab (.slice pd pn pc) a.label W' := ⟨hc1, hca⟩
            obtain ⟨W8, hW8⟩ : ∃ W8, W8 = W'.setCell ⟨tb, 2, none⟩ (.slice vd2 vn2 vc2) := ⟨_, rfl⟩
            rw [← hW8] at hv8 hu8
            have HAP2 : Hid ((Builtin.append_ #[81, 81] 81 #[.slice pd pn pc, .slice (some ⟨V3.heap.size, 0, none⟩) 1 1]).run Tryz.prog V4 = .ok (.slice vd2 vn2 vc2) W') := hap
            have HV8 : Hid (VS w0 B tb wb yv I A1 (pre ++ (tF path weight s ++ tA D path weight (s.arcs.take j)).drop k) W8 kj (.slice vd2 vn2 vc2) (path ++ [a.label])) := hv8
            have HU8 : Hid (Upd (fun i => i = tb ∨ (Value.slice pd pn pc).ownBlock = some i) W7 W8) := hu8
            have HN8 : Hid (NewP W7 (.slice pd pn pc) (.slice vd2 vn2 vc2)) := hn8
            have ca2 : W8.cell? ⟨ab, 1, none⟩ = some (.int .i64 a.out) ∧ W8.cell? ⟨ab, 2, none⟩ = some (.int .i64 (a.to : Int)) := by
              have h1 : W8.heap[ab]? = W7.heap[ab]? := hu8.block ab HABn.out.1 (fun e => by
                have h2 := HABn.out.2
                have h3 := HL.out.vs.tr.lt
                rcases e with e | e
                · omega
                · have h1 := GOwn.lt HL.out.vs.tr.row e
                  omega)
              exact ⟨by simp [World.cell?, h1, HN7.out], by simp [World.cell?, h1, HN7.out]⟩
            obtain ⟨ca1, ca2⟩ := ca2
            have HREC : Hid (Calls Tryz.prog 70 #[.pointer (some ⟨tb, 0, none⟩), .int .i64 (a.to : Int), .int .i64 (weight + a.out)] W8 (VPost w0 B tb wb yv I X A1 (pre ++ (tF path weight s ++ tA D path weight (s.arcs.take j)).drop k) W8 kj (.slice vd2 vn2 vc2) (path ++ [a.label]) (tw (path ++ [a.label]) (weight + a.out) R1))) :=
              HIH.out a.to (by omega) A1 _ W8 kj (.slice vd2 vn2 vc2) (path ++ [a.label]) (weight + a.out) R1 HR1.out (by rw [← HG1.out]; exact HTT.out) HV8.out (by omega)
            have hS0' : S10v tb ab (.slice pd pn pc) a.label W7.drew := hV3 ▸ hS0
            refine region_atE (S := S10v tb ab (.slice pd pn pc) a.label) 12 11 rfl mixedP ?_
            rw [← hV3]
            clear hS0' hap ho' hgr hob ho2 hv8 hu8 hn8 hc1 hca hb3 hb34 hb4 hn4 ka0 ka1 ka2 t0 t1 t2 t3
            refine take_atE (i := 0) 65 rfl rfl (by kernel_rfl) (by kernel_rfl) (by kernel_rfl) (by kernel_rfl) (fun _ _ _ h => h) (by rfl) (fun w hSw => by (have hSw2 := S10v.facts hSw; clear hSw; go_simp; first | done | exact rfl)) (by assumption) ?_
            simp only [List.setIfInBounds_toArray, List.set_cons_zero, List.set_cons_succ]
            refine take_atE (i := 1) 66 rfl rfl (by kernel_rfl) (by kernel_rfl) (by kernel_rfl) (by kernel_rfl) (fun _ _ _ h => h) (by rfl) (fun w hSw => by (have hSw2 := S10v.facts hSw; clear hSw; go_simp; first | done | exact rfl)) (by assumption) ?_
            simp only [List.setIfInBounds_toArray, List.set_cons_zero, List.set_cons_succ]
            refine take_atE (i := 2) 67 rfl rfl (by kernel_rfl) (by kernel_rfl) (by kernel_rfl) (by kernel_rfl) (fun _ _ _ h => h) (by rfl) (fun w hSw => by (have hSw2 := S10v.facts hSw; clear hSw; go_simp; first | done | exact rfl)) (by assumption) ?_
            simp only [List.setIfInBounds_toArray, List.set_cons_zero, List.set_cons_succ]
            refine take_atE (i := 3) 68 rfl rfl (by kernel_rfl) (by kernel_rfl) (by kernel_rfl) (by kernel_rfl) (fun _ _ _ h => h) (by rfl) (fun w hSw => by (have hSw2 := S10v.facts hSw; clear hSw; go_simp; first | done | exact rfl)) (by assumption) ?_
            simp only [List.setIfInBounds_toArray, List.set_cons_zero, List.set_cons_succ]
            refine take_atE (i := 4) 69 rfl rfl (by kernel_rfl) (by kernel_rfl) (by kernel_rfl) (by kernel_rfl) (fun _ _ _ h => h) (by rfl) (fun w hSw => by (have hSw2 := S10v.facts hSw; clear hSw; go_simp; first | done | exact rfl)) (by assumption) ?_
            simp only [List.setIfInBounds_toArray, List.set_cons_zero, List.set_cons_succ]
            refine take_atE (i := 5) 70 rfl rfl (by kernel_rfl) (by kernel_rfl) (by kernel_rfl) (by kernel_rfl) (fun _ _ _ h => h) (by rfl) (fun w hSw => by (have hSw2 := S10v.facts hSw; clear hSw; go_simp; first | done | exact rfl)) (by assumption) ?_
            simp only [List.setIfInBounds_toArray, List.set_cons_zero, List.set_cons_succ]
            refine take_atE (i := 6) 71 rfl rfl (by kernel_rfl) (by kernel_rfl) (by kernel_rfl) (by kernel_rfl) (fun _ _ _ h => h) (by rfl) (fun w hSw => by (have hSw2 := S10v.facts hSw; clear hSw; go_simp; first | done | exact rfl)) (by assumption) ?_
            simp only [List.setIfInBounds_toArray, List.set_cons_zero, List.set_cons_succ]
            refine one_valueE (i := 7) (v := .slice (some ⟨V3.heap.size, 0, none⟩) 1 1) (w' := V4) 72 (by kernel_rfl) rfl rfl (by rfl) (by rw [hV4]; go_simp; first | done | exact rfl) hS4 ?_
            simp only [List.setIfInBounds_toArray, List.set_cons_zero, List.set_cons_succ]
            refine one_valueE (i := 8) (v := (.slice vd2 vn2 vc2)) (w' := W') 73 (by kernel_rfl) rfl rfl (by rfl) (exec_app HAP2.out) hS5 ?_
            simp only [List.setIfInBounds_toArray, List.set_cons_zero, List.set_cons_succ]
            refine one_valueE (i := 9) (v := .pointer (some ⟨tb, 0, none⟩)) (w' := W') 74 (by kernel_rfl) rfl rfl (by rfl) (by kernel_rfl) hS5 ?_
            simp only [List.setIfInBounds_toArray, List.set_cons_zero, List.set_cons_succ]
            refine one_valueE (i := 10) (v := .pointer (some ⟨tb, 2, none⟩)) (w' := W') 75 (by kernel_rfl) rfl rfl (by rfl) (by kernel_rfl) hS5 ?_
            simp only [List.setIfInBounds_toArray, List.set_cons_zero, List.set_cons_succ]
            have hc1 := hS5.1
            refine last_skipE (w' := W8) (by kernel_rfl) rfl rfl (by rfl) (by rw [hW8]; go_simp; first | done | exact rfl) (by kernel_rfl) ?_
            clear hc1 hfz hV4 hW8 hV3 hS0 hS4 hS5 HAP2 tf1 tf2
            have HX : Hid (∀ (q : List Pr) (A3 : Nat → Prop) (W9 : World), q <+: (tw (path ++ [a.label]) (weight + a.out) R1).drop kj → Ext A1 A3 W8 → Lies A3 W9 → Upd (fun i => A1 i ∨ i = tb ∨ (Value.slice vd2 vn2 vc2).ownBlock = some i) W8 W9 → X A3 (pre ++ (tF path weight s ++ tA D path weight (s.arcs.take j)).drop k ++ q) W9 → VPost w0 B tb wb yv I X A pre W k pv path (tw path weight R) (.returned (.bool false)) W9) := fun q A3 W9 hq he9 hl9 hu9 hx => by
              obtain ⟨z1, z2⟩ := HL.out.stop HWS.out HU7.out HU8.out HN8.out he9 hu9
              refine .inr ⟨rfl, (tF path weight s ++ tA D path weight (s.arcs.take j)).drop k ++ q, A3, ?_, z1, hl9, z2, by rw [← List.append_assoc]; exact hx⟩
              rw [HRS.out, tw_exp, tA_split D path weight s.arcs (j + 1), tA_snoc D path weight ha, HG1.out, ← List.append_assoc, ← List.append_assoc]
              exact pre_deep (by rw [HKJ.out]; exact hq)
            go_upto_region 13 with (go_at_call 70; refine HREC.out.mono ?_; intro e W9 hp; rcases hp with ⟨rfl, A3, pv3, he9, hu9, hv9, hn9⟩ | ⟨rfl, q, A3, hq, he9, hl9, hu9, hx⟩; rotate_left; focus (have HFF : Hid (VPost w0 B tb wb yv I X A pre W k pv path (tw path weight R) (.returned (.bool false)) W9) := HX.out q A3 W9 hq he9 hl9 hu9 hx; clear hq he9 hl9 hu9 hx; go_wp2; go_ret; exact HFF.out))
            obtain ⟨g3, cap3, hpv3, hcap3, hVL⟩ := HL.out.deep (Y := tw (path ++ [a.label]) (weight + a.out) R1) hB hMI HU7.out HU8.out HN8.out he9 hu9 hn9 (by rw [HKJ.out]; exact hv9)
            subst hpv3
            have HNX : Hid (VL w0 B tb wb yv I A pre Ws k pv path (tF path weight s ++ tA D path weight (s.arcs.take (j + 1))) A3 (.slice (some ⟨g3, 0, none⟩) path.length cap3) (W9.drew.setCell ⟨tb, 2, none⟩ (.slice (some ⟨g3, 0, none⟩) path.length cap3))) := by
              rw [tA_snoc D path weight ha, HG1.out, ← List.append_assoc]
              exact hVL
            obtain ⟨_, _, y2, _, yf⟩ := hv9.tr.facts
            have y2 : W9.drew.cell? ⟨tb, 2, none⟩ = some (.slice (some ⟨g3, 0, none⟩) (path.length + 1) cap3) := y2
            have yf2 : W9.drew.frozen? ⟨tb, 2, none⟩ = false := yf 2
            obtain ⟨pl, hpl⟩ : ∃ pl, path.length = pl := ⟨_, rfl⟩
            rw [hpl] at y2 HNX hcap3 hp24
            clear hpl hVL hv9 he9 hu9 hn9 yf ca1 ca2 tf HREC HX HV8 HU8 HN8
            obtain ⟨W10, hW10⟩ : ∃ W10, W10 = W9.drew.setCell ⟨tb, 2, none⟩ (.slice (some ⟨g3, 0, none⟩) pl cap3) := ⟨_, rfl⟩
            rw [← hW10] at HNX
            refine region_atE (S := fun W => W.cell? ⟨tb, 2, none⟩ = some (.slice (some ⟨g3, 0, none⟩) (pl + 1) cap3)) 15 14 rfl mixedP ?_
            refine take_atE (i := 0) 85 rfl rfl (by kernel_rfl) (by kernel_rfl) (by kernel_rfl) (by kernel_rfl) (fun _ _ _ h => h) (by rfl) (fun w hSw => by (have hSw2 := id hSw; clear hSw; go_simp; first | done | exact rfl)) (by assumption) ?_
            simp only [List.setIfInBounds_toArray, List.set_cons_zero, List.set_cons_succ]
            refine take_atE (i := 1) 86 rfl rfl (by kernel_rfl) (by kernel_rfl) (by kernel_rfl) (by kernel_rfl) (fun _ _ _ h => h) (by rfl) (fun w hSw => by (have hSw2 := id hSw; clear hSw; go_simp; first | done | exact rfl)) (by assumption) ?_
            simp only [List.setIfInBounds_toArray, List.set_cons_zero, List.set_cons_succ]
            refine take_atE (i := 2) 87 rfl rfl (by kernel_rfl) (by kernel_rfl) (by kernel_rfl) (by kernel_rfl) (fun _ _ _ h => h) (by rfl) (fun w hSw => by (have hSw2 := id hSw; clear hSw; go_simp; first | done | exact rfl)) (by assumption) ?_
            simp only [List.setIfInBounds_toArray, List.set_cons_zero, List.set_cons_succ]
            refine take_atE (i := 3) 88 rfl rfl (by kernel_rfl) (by kernel_rfl) (by kernel_rfl) (by kernel_rfl) (fun _ _ _ h => h) (by rfl) (fun w hSw => by (have hSw2 := id hSw; clear hSw; go_simp; first | done | exact rfl)) (by assumption) ?_
            simp only [List.setIfInBounds_toArray, List.set_cons_zero, List.set_cons_succ]
            refine take_atE (i := 4) 89 rfl rfl (by kernel_rfl) (by kernel_rfl) (by kernel_rfl) (by kernel_rfl) (fun _ _ _ h => h) (by rfl) (fun w hSw => by (have hSw2 := id hSw; clear hSw; go_simp; first | done | exact rfl)) (by assumption) ?_
            simp only [List.setIfInBounds_toArray, List.set_cons_zero, List.set_cons_succ]
            refine take_atE (i := 5) 90 rfl rfl (by kernel_rfl) (by kernel_rfl) (by kernel_rfl) (by kernel_rfl) (fun _ _ _ h => h) (by rfl) (fun w hSw => by (have hSw2 := id hSw; clear hSw; go_simp; first | done | exact rfl)) (by assumption) ?_
            simp only [List.setIfInBounds_toArray, List.set_cons_zero, List.set_cons_succ]
            refine take_atE (i := 6) 91 rfl rfl (by kernel_rfl) (by kernel_rfl) (by kernel_rfl) (by kernel_rfl) (fun _ _ _ h => h) (by rfl) (fun w hSw => by (have hSw2 := id hSw; clear hSw; go_simp; first | done | exact rfl)) (by assumption) ?_
            simp only [List.setIfInBounds_toArray, List.set_cons_zero, List.set_cons_succ]
            refine take_atE (i := 7) 92 rfl rfl (by kernel_rfl) (by kernel_rfl) (by kernel_rfl) (by kernel_rfl) (fun _ _ _ h => h) (by rfl) (fun w hSw => by (have hSw2 := id hSw; clear hSw; go_simp; first | done | exact rfl)) (by assumption) ?_
            simp only [List.setIfInBounds_toArray, List.set_cons_zero, List.set_cons_succ]
            refine take_atE (i := 8) 93 rfl rfl (by kernel_rfl) (by kernel_rfl) (by kernel_rfl) (by kernel_rfl) (fun _ _ _ h => h) (by rfl) (fun w hSw => by (have hSw2 := id hSw; clear hSw; go_simp; first | done | exact rfl)) (by assumption) ?_
            simp only [List.setIfInBounds_toArray, List.set_cons_zero, List.set_cons_succ]
            refine take_atE (i := 9) 94 rfl rfl (by kernel_rfl) (by kernel_rfl) (by kernel_rfl) (by kernel_rfl) (fun _ _ _ h => h) (by rfl) (fun w hSw => by (have hSw2 := id hSw; clear hSw; go_simp; first | done | exact rfl)) (by assumption) ?_
            simp only [List.setIfInBounds_toArray, List.set_cons_zero, List.set_cons_succ]
            refine take_atE (i := 10) (v := .int .i64 (pl : Int)) 95 rfl rfl (by kernel_rfl) (by kernel_rfl) (by kernel_rfl) (by kernel_rfl) (fun _ _ _ h => h) (by rfl) (fun w hSw => by (have hSw2 := id hSw; clear hSw; go_simp; exact wrap_pl hp24)) (by assumption) ?_
            simp only [List.setIfInBounds_toArray, List.set_cons_zero, List.set_cons_succ]
            refine take_atE (i := 11) (v := .slice (some ⟨g3, 0, none⟩) pl cap3) 96 rfl rfl (by kernel_rfl) (by kernel_rfl) (by kernel_rfl) (by kernel_rfl) (fun _ _ _ h => h) (by rfl) (fun w hSw => by (have hSw2 := id hSw; clear hSw; go_simp; first | done | (intro hcc; omega))) (by assumption) ?_
            simp only [List.setIfInBounds_toArray, List.set_cons_zero, List.set_cons_succ]
            refine one_valueE (i := 12) (v := .pointer (some ⟨tb, 0, none⟩)) (w' := W9.drew) 97 (by kernel_rfl) rfl rfl (by rfl) (by kernel_rfl) y2 ?_
            simp only [List.setIfInBounds_toArray, List.set_cons_zero, List.set_cons_succ]
            refine one_valueE (i := 13) (v := .pointer (some ⟨tb, 2, none⟩)) (w' := W9.drew) 98 (by kernel_rfl) rfl rfl (by rfl) (by kernel_rfl) y2 ?_
            simp only [List.setIfInBounds_toArray, List.set_cons_zero, List.set_cons_succ]
            refine last_skipE (w' := W10) (by kernel_rfl) rfl rfl (by rfl) (by rw [hW10]; go_simp; first | done | exact rfl) (by kernel_rfl) ?_
            clear hW10 y2 yf2
            go_wp2
            go_roundg (na - (j + 1))
            case measure => omega
            case rel => exact ⟨j + 1, _, _, by go_num, by omega, Nat.le_refl _, HNX⟩
        · have hjn : j = na := by omega
          have hltz : ¬ (j : Int) < (na : Int) := by omega
          subst hjn
          clear HSB sc0 sc1 sc2
          go_wp2
          go_ret
          have e : tw path weight R = tF path weight s ++ tA D path weight (s.arcs.take j) := by rw [HRS.out, tw_exp, ← HNA.out, List.take_length]
          rw [e]
          exact HL.out.out HWS.out
end Go.Proofs.YtllmdfkiogmofaaGreatDoor
