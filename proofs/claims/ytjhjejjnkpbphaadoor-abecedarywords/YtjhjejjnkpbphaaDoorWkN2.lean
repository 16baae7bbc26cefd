/- New, where the machine is right. -/
import Derived.Test.YtjhjejjnkpbphaaDoorHe
import Derived.Test.YtjhjejjnkpbphaaDoorG2
namespace Go.Proofs.YtjhjejjnkpbphaaDoor
open Go.RowKit Nums Fm Pk
set_option maxRecDepth 100000

/-- What region 7 looks at. -/
structure S7n (ob sb : Nat) (vs : Value) (fn : Bool) (ot : Int) (va : Value) (W : World) : Prop where
  c1 : W.cell? ⟨ob, 1, none⟩ = some vs
  d0 : W.cell? ⟨sb, 0, none⟩ = some (.bool fn)
  d1 : W.cell? ⟨sb, 1, none⟩ = some (.int .i64 ot)
  d2 : W.cell? ⟨sb, 2, none⟩ = some va
theorem S7n.facts {ob sb : Nat} {vs : Value} {fn : Bool} {ot : Int} {va : Value} {W : World} (h : S7n ob sb vs fn ot va W) : W.cell? ⟨ob, 1, none⟩ = some vs ∧ W.cell? ⟨sb, 0, none⟩ = some (.bool fn) ∧ W.cell? ⟨sb, 1, none⟩ = some (.int .i64 ot) ∧ W.cell? ⟨sb, 2, none⟩ = some va := ⟨h.1, h.2, h.3, h.4⟩
theorem S7n.of {ob sb : Nat} {vs : Value} {fn : Bool} {ot : Int} {va : Value} {W W' : World} (h : S7n ob sb vs fn ot va W) (e1 : W'.heap[ob]? = W.heap[ob]?) (e2 : W'.heap[sb]? = W.heap[sb]?) : S7n ob sb vs fn ot va W' :=
  ⟨(World.cell?_of_block (a := ⟨ob, 1, none⟩) e1).trans h.1, (World.cell?_of_block (a := ⟨sb, 0, none⟩) e2).trans h.2, (World.cell?_of_block (a := ⟨sb, 1, none⟩) e2).trans h.3, (World.cell?_of_block (a := ⟨sb, 2, none⟩) e2).trans h.4⟩
set_option maxHeartbeats 4000000 in
theorem New_yes (E : Nat) (w : World) (base : Int) (b : List St) (D : List (List En)) (hI : Inv D b) (hF : ∀ R ∈ D, R.length ≤ 4096) (vs : Value) (h : StsAt E w vs (b.map ofSt)) (hE : E ≤ w.heap.size) (hT : Tabs w) (hm : b.length ≤ 1048576) (hr : rightB base (b.map ofSt) = true) (hsm : ∀ s ∈ b.map ofSt, s.arcs.length ≤ 1114112) :
    Calls Tryd.prog 12 #[.agg #[.int .i64 base, vs]] w fun e w' => ∃ wb, e = .returned (.tuple #[.pointer (some ⟨wb, 0, none⟩), .bool true]) ∧ w.heap.size ≤ wb ∧ WkAt w'.heap.size w' wb base (b.map ofSt) (D.map List.length) ∧ Below w.heap.size w w' := by
  obtain ⟨m, hmm⟩ : ∃ m, b.map ofSt = m := ⟨_, rfl⟩
  have HMM : Hid (b.map ofSt = m) := hmm
  rw [hmm] at h hr hsm ⊢
  have hml : m.length ≤ 1048576 := by rw [← hmm, List.length_map]; exact hm
  obtain ⟨ad, cap, rfl⟩ := h.shape
  obtain ⟨n, hn⟩ : ∃ n, m.length = n := ⟨_, rfl⟩
  have HN : Hid (m.length = n) := hn
  rw [hn] at h hml ⊢
  obtain ⟨W1, hW1⟩ : ∃ W1, W1 = w.alloc (.cells #[.int .i64 base, .slice ad n cap] 24) := ⟨_, rfl⟩
  have hb1 : Below w.heap.size w W1 := by rw [hW1]; exact (Below.refl _ w).alloc (Nat.le_refl _) _
  obtain ⟨mb, hmb⟩ : ∃ mb, mb = w.heap.size := ⟨_, rfl⟩
  have hn1 : W1.heap[mb]? = some (.cells #[.int .i64 base, .slice ad n cap] 24) := by rw [hW1, hmb]; exact alloc_newP _ _
  have HRA : Hid (Calls Tryd.prog 20 #[.agg #[.int .i64 base, .slice ad n cap]] W1 fun e w' => e = .returned (.bool true) ∧ Below W1.heap.size W1 w') := by
    have := Right_any E W1 base m _ (h.below (hb1.mono hE)) (Nat.le_trans hE hb1.size) (hT.below hb1) (by omega)
    rw [hr] at this
    exact this
  have HB1 : Hid (Below w.heap.size w W1) := hb1
  have HN1 : Hid (W1.heap[mb]? = some (.cells #[.int .i64 base, .slice ad n cap] 24)) := hn1
  have HH : Hid (StsAt E w (.slice ad n cap) m) := h
  have hOK := h.ok
  have c0 : W1.cell? ⟨mb, 0, none⟩ = some (.int .i64 base) := by simp [World.cell?, hn1]
  have c1 : W1.cell? ⟨mb, 1, none⟩ = some (.slice ad n cap) := by simp [World.cell?, hn1]
  clear h hT hb1 hn1 hn hmm hr
  go_enter Tryd.func12, Tryd.ntmps12
  go_upto_region 1 with fail
  rw [← hmb, ← hW1]
  have HMB : Hid (mb = w.heap.size) := hmb
  clear hW1 hmb
  go_upto_region 3 with (go_at_call 20; refine HRA.out.mono ?_; rintro e w2 ⟨rfl, hb2⟩)
  clear c0 c1
  have hk2 : w2.heap[mb]? = some (.cells #[.int .i64 base, .slice ad n cap] 24) := (hb2.block mb (Array.getElem?_eq_some_iff.1 HN1.out).1).trans HN1.out
  have c0 : w2.cell? ⟨mb, 0, none⟩ = some (.int .i64 base) := by simp [World.cell?, hk2]
  have c1 : w2.cell? ⟨mb, 1, none⟩ = some (.slice ad n cap) := by simp [World.cell?, hk2]
  have hmb2 := (Array.getElem?_eq_some_iff.1 hk2).1
  obtain ⟨ob, hob⟩ : ∃ ob, ob = w2.heap.size := ⟨_, rfl⟩
  obtain ⟨W3, hW3⟩ : ∃ W3, W3 = w2.alloc (.cells #[.int .i64 base, .slice none 0 0] 24) := ⟨_, rfl⟩
  have hb3 : Below w2.heap.size w2 W3 := by rw [hW3]; exact (Below.refl _ w2).alloc (Nat.le_refl _) _
  have hbw2 : Below w.heap.size w w2 := HB1.out.trans (hb2.mono HB1.out.size)
  have HW3 : Hid (NwAt w W3 ob base (.slice none 0 0) (m.take 0)) := ⟨hbw2.trans (hb3.mono hbw2.size), by have := hbw2.size; omega, by rw [hW3, hob]; exact alloc_newP _ _, fun e => (by cases e), [], GOwn.nil _ _ _ _, rfl, fun i s hi => (by simp at hi)⟩
  have c1' : W3.cell? ⟨mb, 1, none⟩ = some (.slice ad n cap) := (hb3.cell (p := ⟨mb, 1, none⟩) hmb2).trans c1
  clear hk2 hb3 hbw2 hb2
  go_upto_region 4 with fail
  rw [← hob, ← hW3]
  clear hob hW3 c0 c1
  go_wp2
  go_loopg [6, 16] n (fun gm _ s16 wr => ∃ (k : Nat) (vs2 : Value), s16 = .int .i64 k ∧ k ≤ n ∧ n - k ≤ gm ∧ Hid (NwAt w wr ob base vs2 (m.take k)))
  case atStart => exact ⟨0, _, by go_num, Nat.zero_le _, by omega, HW3⟩
  case round =>
    obtain ⟨k, vs2, rfl, hk, hgm, HNW⟩ := hrel
    obtain ⟨vd, vn, vc, hvv⟩ : ∃ vd vn vc, vs2 = .slice vd vn vc := by
      obtain ⟨xss, h1, _⟩ := HNW.out.ex
      obtain ⟨ad, cap, e, _⟩ := h1.shape
      exact ⟨_, _, _, e⟩
    subst hvv
    by_cases hlt : k < n
    · have hltz : (k : Int) < (n : Int) := by omega
      obtain ⟨s, hs⟩ : ∃ s, m[k]? = some s := ⟨m[k]'(by have := HN.out; omega), List.getElem?_eq_getElem _⟩
      obtain ⟨g, off, va, hgd, hg, x0, x1, x2, hA⟩ := HH.out.at hs
      obtain ⟨wa, wc, hva⟩ := hA.shape
      obtain ⟨na, hna⟩ : ∃ na, s.arcs.length = na := ⟨_, rfl⟩
      have HNA : Hid (s.arcs.length = na) := hna
      rw [hna] at hva
      subst hva
      subst hgd
      have hbl := HNW.out.bel
      have u0 : wr.cell? ⟨g, off + k * 3, none⟩ = some (.bool s.final) := (hbl.cell (p := ⟨g, off + k * 3, none⟩) (Nat.lt_of_lt_of_le hg hE)).trans x0
      have u1 : wr.cell? ⟨g, off + k * 3 + 1, none⟩ = some (.int .i64 s.out) := (hbl.cell (p := ⟨g, off + k * 3 + 1, none⟩) (Nat.lt_of_lt_of_le hg hE)).trans x1
      have u2 : wr.cell? ⟨g, off + k * 3 + 2, none⟩ = some (.slice wa na wc) := (hbl.cell (p := ⟨g, off + k * 3 + 2, none⟩) (Nat.lt_of_lt_of_le hg hE)).trans x2
      obtain ⟨sb, hsb⟩ : ∃ sb, sb = wr.heap.size := ⟨_, rfl⟩
      obtain ⟨W6, hW6⟩ : ∃ W6, W6 = wr.alloc (.cells #[.bool s.final, .int .i64 s.out, .slice wa na wc] 39) := ⟨_, rfl⟩
      have hb6 : Below wr.heap.size wr W6 := by rw [hW6]; exact (Below.refl _ wr).alloc (Nat.le_refl _) _
      have hn6 : W6.heap[sb]? = some (.cells #[.bool s.final, .int .i64 s.out, .slice wa na wc] 39) := by rw [hW6, hsb]; exact alloc_newP _ _
      obtain ⟨V3, hV3⟩ : ∃ V3, V3 = W6.drew := ⟨_, rfl⟩
      have hb3 : Below wr.heap.size wr V3 := by rw [hV3]; exact hb6.drew
      have hn3 : V3.heap[sb]? = some (.cells #[.bool s.final, .int .i64 s.out, .slice wa na wc] 39) := by rw [hV3]; exact hn6
      have HN3 : Hid (NwAt w V3 ob base (.slice vd vn vc) (m.take k)) := HNW.out.below hb3
      have HSBG : Hid (sb = wr.heap.size) := hsb
      have hob3 := (Array.getElem?_eq_some_iff.1 HN3.out.blk).1
      have hsb3 := (Array.getElem?_eq_some_iff.1 hn3).1
      have hS0 : S7n ob sb (.slice vd vn vc) s.final s.out (.slice wa na wc) V3 := ⟨HN3.out.facts.2.1, by simp [World.cell?, hn3], by simp [World.cell?, hn3], by simp [World.cell?, hn3]⟩
      have HCL : Hid (Calls Tryd.prog 32 #[.agg #[.bool s.final, .int .i64 s.out, .slice wa na wc]] V3 fun e w' => ∃ v', e = .returned (.agg #[.bool s.final, .int .i64 s.out, v']) ∧ (∃ ad cap, v' = .slice ad s.arcs.length cap) ∧ ArcsAt w'.heap.size w' v' s.arcs ∧ (∀ g, v'.ownBlock = some g → V3.heap.size ≤ g ∧ g < w'.heap.size) ∧ Below V3.heap.size V3 w') :=
        cloned_any E V3 s _ (hA.below (HN3.out.bel.mono hE)) (Nat.le_trans hE HN3.out.bel.size) (hsm s (List.mem_of_getElem? hs))
      have HST : Hid (m.take (k + 1) = m.take k ++ [s]) := by show _ = _; rw [List.take_add_one, hs]; rfl
      clear hb6 hn6 hb3 x0 x1 x2 hA hna hbl hs
      go_upto_region 7 with fail
      rw [← hsb, ← hW6]
      clear hsb hW6 u0 u1 u2
      have hS0' : S7n ob sb (.slice vd vn vc) s.final s.out (.slice wa na wc) W6.drew := hV3 ▸ hS0
      refine region_atE (S := S7n ob sb (.slice vd vn vc) s.final s.out (.slice wa na wc)) 8 7 rfl mixedP ?_
      rw [← hV3]
      clear hS0' hV3
      refine take_atE (i := 0) 20 rfl rfl (by kernel_rfl) (by kernel_rfl) (by kernel_rfl) (by kernel_rfl) (fun _ _ _ h => h) (by rfl) (fun w hSw => by (have hSw2 := S7n.facts hSw; clear hSw; go_simp; first | done | exact rfl)) (by assumption) ?_
      simp only [List.setIfInBounds_toArray, List.set_cons_zero, List.set_cons_succ]
      refine take_atE (i := 1) 21 rfl rfl (by kernel_rfl) (by kernel_rfl) (by kernel_rfl) (by kernel_rfl) (fun _ _ _ h => h) (by rfl) (fun w hSw => by (have hSw2 := S7n.facts hSw; clear hSw; go_simp; first | done | exact rfl)) (by assumption) ?_
      simp only [List.setIfInBounds_toArray, List.set_cons_zero, List.set_cons_succ]
      refine take_atE (i := 2) 22 rfl rfl (by kernel_rfl) (by kernel_rfl) (by kernel_rfl) (by kernel_rfl) (fun _ _ _ h => h) (by rfl) (fun w hSw => by (have hSw2 := S7n.facts hSw; clear hSw; go_simp; first | done | exact rfl)) (by assumption) ?_
      simp only [List.setIfInBounds_toArray, List.set_cons_zero, List.set_cons_succ]
      refine one_callE (i := 3) (w0 := V3) 23 32 #[.agg #[.bool s.final, .int .i64 s.out, .slice wa na wc]] (by kernel_rfl) rfl rfl (by rfl) (by kernel_rfl) ?_
      refine HCL.out.mono ?_
      rintro e V5 ⟨v5, rfl, ⟨ad5, cap5, hv5⟩, hA5, hg5, hb5⟩
      rw [HNA.out] at hv5
      subst hv5
      have hS5 : S7n ob sb (.slice vd vn vc) s.final s.out (.slice wa na wc) V5 := hS0.of (hb5.block ob hob3) (hb5.block sb hsb3)
      have HN5 : Hid (NwAt w V5 ob base (.slice vd vn vc) (m.take k)) := HN3.out.below hb5
      refine ⟨_, rfl, hS5, ?_⟩
      simp only [List.setIfInBounds_toArray, List.set_cons_zero, List.set_cons_succ]
      obtain ⟨V4, hV4⟩ : ∃ V4, V4 = V5.alloc (.cells #[.bool s.final, .int .i64 s.out, .slice ad5 na cap5] 39) := ⟨_, rfl⟩
      have hb4 : Below V5.heap.size V5 V4 := by rw [hV4]; exact (Below.refl _ V5).alloc (Nat.le_refl _) _
      have hn4 : V4.heap[V5.heap.size]? = some (.cells #[.bool s.final, .int .i64 s.out, .slice ad5 na cap5] 39) := by rw [hV4]; exact alloc_newP _ _
      obtain ⟨xss, hX, hxl, hxe⟩ := HN5.out.ex
      obtain ⟨v', W', hap, ho', hgr, hobk⟩ := gappend_run rtyS (GOwn.below hX hb4) (Nat.le_trans HN5.out.bel.size hb4.size) (x := [.bool s.final, .int .i64 s.out, .slice ad5 na cap5]) ⟨rfl, by simp [Value.oneCell']⟩ (nb := V5.heap.size) (fun j u hj => by simp only [World.cell?, hn4]; simpa using hj) (by rw [hxl, List.length_take]; omega) 22 1
      obtain ⟨vd2, vn2, vc2, hvv2⟩ : ∃ vd vn vc, v' = .slice vd vn vc := by
        obtain ⟨ad, cap, e, _⟩ := GOwn.shape ho'
        exact ⟨_, _, _, e⟩
      subst hvv2
      have hsz35 := hb5.size
      obtain ⟨hNW, hc1, hfz⟩ := HN5.out.more hX hxl hxe hA5 (fun g hg => by
        obtain ⟨k1, k2⟩ := hg5 g hg
        refine ⟨Nat.le_trans HN3.out.bel.size k1, by omega, fun e => ?_, k2⟩
        obtain ⟨ys, hY, _⟩ := HN3.out.ex
        have := hY.lt e
        omega) hb4 ho' hgr hobk
      have hb45 : S7n ob sb (.slice vd vn vc) s.final s.out (.slice wa na wc) V4 := hS5.of (hb4.block ob (by omega)) (hb4.block sb (by omega))
      have hvsb : (Value.slice vd vn vc).ownBlock ≠ some sb := fun e => by
        obtain ⟨ys, hY, _⟩ := HNW.out.ex
        have h1 := hY.lt e
        have h2 := HSBG.out
        omega
      have hS6 : S7n ob sb (.slice vd vn vc) s.final s.out (.slice wa na wc) W' := hb45.of (hgr.block ob (by have := hb4.size; omega) (fun e => HN5.out.ap e.symm)) (hgr.block sb (by have := hb4.size; omega) (fun e => hvsb e.symm))
      obtain ⟨W8, hW8⟩ : ∃ W8, W8 = W'.setCell ⟨ob, 1, none⟩ (.slice vd2 vn2 vc2) := ⟨_, rfl⟩
      have HNX : Hid (NwAt w W8 ob base (.slice vd2 vn2 vc2) (m.take (k + 1))) := by rw [hW8, HST.out]; exact hNW
      have HAP2 : Hid ((Builtin.append_ #[22, 22] 22 #[.slice vd vn vc, .slice (some ⟨V5.heap.size, 0, none⟩) 1 1]).run Tryd.prog V4 = .ok (.slice vd2 vn2 vc2) W') := hap
      clear hap ho' hgr hobk hNW hn4 hb4 hX hxl hxe hA5 hg5 hb5 hvsb
      refine one_valueE (i := 4) (v := .slice (some ⟨V5.heap.size, 0, none⟩) 1 1) (w' := V4) 24 (by kernel_rfl) rfl rfl (by rfl) (by rw [hV4]; go_simp; first | done | exact rfl) hb45 ?_
      simp only [List.setIfInBounds_toArray, List.set_cons_zero, List.set_cons_succ]
      refine one_valueE (i := 5) (v := .slice vd2 vn2 vc2) (w' := W') 25 (by kernel_rfl) rfl rfl (by rfl) (exec_app HAP2.out) hS6 ?_
      simp only [List.setIfInBounds_toArray, List.set_cons_zero, List.set_cons_succ]
      refine one_valueE (i := 6) (v := .pointer (some ⟨ob, 1, none⟩)) (w' := W') 26 (by kernel_rfl) rfl rfl (by rfl) (by kernel_rfl) hS6 ?_
      simp only [List.setIfInBounds_toArray, List.set_cons_zero, List.set_cons_succ]
      refine last_skipE (w' := W8) (by kernel_rfl) rfl rfl (by rfl) (by rw [hW8]; go_simp; first | done | exact rfl) (by kernel_rfl) ?_
      clear hV4 hW8 hc1 hfz hb45 hS6 hS5 hS0
      go_wp2
      go_roundg (n - (k + 1))
      case measure => omega
      case rel => exact ⟨k + 1, _, by go_num, by omega, Nat.le_refl _, HNX⟩
    · have hltz : ¬ (k : Int) < (n : Int) := by omega
      have hkn : k = n := by omega
      subst hkn
      have HNF : Hid (NwAt w wr.drew ob base (.slice vd vn vc) m) := by
        have e : m.take k = m := List.take_of_length_le (by rw [HN.out]; exact Nat.le_refl _)
        have := HNW.out.below (Below.refl _ wr).drew
        rw [e] at this
        exact this
      have hS9 : S9n ob base (.slice vd vn vc) wr.drew := ⟨HNF.out.facts.1, HNF.out.facts.2.1⟩
      have HCO : Hid (Calls Tryd.prog 33 #[.slice vd vn vc] wr.drew fun e w' => ∃ vw, e = .returned vw ∧ CtAt wr.drew.heap.size wr.drew w' vw (D.map List.length)) :=
        counted_any wr.drew.heap.size wr.drew b D hI hF _ (by rw [HMM.out]; exact HNF.out.sts hOK (by have := HN.out; omega)) (Nat.le_refl _) hm
      have hobr := (Array.getElem?_eq_some_iff.1 HNF.out.blk).1
      go_upto_region 9 with fail
      refine region_at (S := S9n ob base (.slice vd vn vc)) 8 rfl mixedP hS9 (fun _ => ?_)
      refine take_at (i := 0) 28 rfl rfl (by kernel_rfl) (by kernel_rfl) (by kernel_rfl) (fun _ _ _ h => h) (by rfl) (fun w hSw => by (have hSw2 := S9n.facts hSw; clear hSw; go_simp; first | done | exact rfl)) (by assumption) ?_
      simp only [List.setIfInBounds_toArray, List.set_cons_zero, List.set_cons_succ]
      refine take_at (i := 1) 29 rfl rfl (by kernel_rfl) (by kernel_rfl) (by kernel_rfl) (fun _ _ _ h => h) (by rfl) (fun w hSw => by (have hSw2 := S9n.facts hSw; clear hSw; go_simp; first | done | exact rfl)) (by assumption) ?_
      simp only [List.setIfInBounds_toArray, List.set_cons_zero, List.set_cons_succ]
      refine take_at (i := 2) 30 rfl rfl (by kernel_rfl) (by kernel_rfl) (by kernel_rfl) (fun _ _ _ h => h) (by rfl) (fun w hSw => by (have hSw2 := S9n.facts hSw; clear hSw; go_simp; first | done | exact rfl)) (by assumption) ?_
      simp only [List.setIfInBounds_toArray, List.set_cons_zero, List.set_cons_succ]
      refine one_call (i := 3) (w0 := wr.drew) 31 33 #[.slice vd vn vc] (by kernel_rfl) rfl rfl (by rfl) (by kernel_rfl) ?_
      refine HCO.out.mono ?_
      rintro e V5 ⟨vw, rfl, hct⟩
      obtain ⟨wd, wn, wc, hvw⟩ : ∃ a n c, vw = Value.slice a n c := by obtain ⟨a, c, e, _⟩ := hct.own.shape; exact ⟨_, _, _, e⟩
      subst hvw
      have HN5 : Hid (NwAt w V5 ob base (.slice vd vn vc) m) := HNF.out.below hct.bel
      have hS5 : S9n ob base (.slice vd vn vc) V5 := ⟨HN5.out.facts.1, HN5.out.facts.2.1⟩
      refine ⟨_, rfl, hS5, fun _ => ?_⟩
      simp only [List.setIfInBounds_toArray, List.set_cons_zero, List.set_cons_succ]
      obtain ⟨V6, hV6⟩ : ∃ V6, V6 = V5.alloc (.cells #[.int .i64 base, .slice vd vn vc, .slice wd wn wc] 76) := ⟨_, rfl⟩
      have hb6 : Below V5.heap.size V5 V6 := by rw [hV6]; exact (Below.refl _ V5).alloc (Nat.le_refl _) _
      have hn6 : V6.heap[V5.heap.size]? = some (.cells #[.int .i64 base, .slice vd vn vc, .slice wd wn wc] 76) := by rw [hV6]; exact alloc_newP _ _
      have HN6 : Hid (NwAt w V6 ob base (.slice vd vn vc) m) := HN5.out.below hb6
      have hS6 : S9n ob base (.slice vd vn vc) V6 := ⟨HN6.out.facts.1, HN6.out.facts.2.1⟩
      have HWF : Hid (WkAt V6.heap.size V6 V5.heap.size base m (D.map List.length)) := ⟨(Array.getElem?_eq_some_iff.1 hn6).1, _, _, hn6, HN6.out.sts hOK (by have := HN.out; omega), (hct.below hb6).own.reads⟩
      have HLO : Hid (w.heap.size ≤ V5.heap.size) := HN5.out.bel.size
      clear hct hb6 hn6 hS9 hS5
      refine take_at (i := 4) 32 rfl rfl (by kernel_rfl) (by kernel_rfl) (by kernel_rfl) (fun _ _ _ h => h) (by rfl) (fun w hSw => by (have hSw2 := S9n.facts hSw; clear hSw; go_simp; first | done | exact rfl)) (by assumption) ?_
      simp only [List.setIfInBounds_toArray, List.set_cons_zero, List.set_cons_succ]
      refine one_value (i := 5) (v := .pointer (some ⟨V5.heap.size, 0, none⟩)) (w' := V6) 33 (by kernel_rfl) rfl rfl (by rfl) (by rw [hV6]; go_simp; first | done | exact rfl) hS6 (fun _ => ?_)
      simp only [List.setIfInBounds_toArray, List.set_cons_zero, List.set_cons_succ]
      refine take_at (i := 6) 2 rfl rfl (by kernel_rfl) (by kernel_rfl) (by kernel_rfl) (fun _ _ _ h => h) (by rfl) (fun w hSw => by (have hSw2 := S9n.facts hSw; clear hSw; go_simp; first | done | exact rfl)) (by assumption) ?_
      simp only [List.setIfInBounds_toArray, List.set_cons_zero, List.set_cons_succ]
      refine take_at (i := 7) 3 rfl rfl (by kernel_rfl) (by kernel_rfl) (by kernel_rfl) (fun _ _ _ h => h) (by rfl) (fun w hSw => by (have hSw2 := S9n.facts hSw; clear hSw; go_simp; first | done | exact rfl)) (by assumption) ?_
      simp only [List.setIfInBounds_toArray, List.set_cons_zero, List.set_cons_succ]
      refine wpAnyH_done (by kernel_rfl) ?_ _
      clear hV6 hS6
      go_wp2
      go_ret2
      exact ⟨_, rfl, HLO.out, HWF.out, HN6.out.bel⟩
end Go.Proofs.YtjhjejjnkpbphaaDoor
