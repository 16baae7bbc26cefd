/- PackBack: the law's own walk. -/
import Derived.Test.YtdidcombjmbkdaaDoorBuiltW
import Derived.Test.YtdidcombjmbkdaaDoorRdB
import Derived.Test.YtdidcombjmbkdaaDoorFSame
namespace Go.Proofs.YtdidcombjmbkdaaDoor
open Go.RowKit Nums Fm Pk
set_option maxRecDepth 100000

theorem MRow.st {B : Nat} {W : World} {vs : Value} {b : List St} (h : MRow B W vs (b.map ofSt)) : StRow B W vs b := by
  obtain ⟨xss, a1, a2, a3⟩ := h.ex
  refine ⟨xss, a1, by rw [a2, List.length_map], fun i s hi => ?_⟩
  obtain ⟨va, e1, e2⟩ := a3 i (ofSt s) (by rw [List.getElem?_map, hi]; rfl)
  refine ⟨va, e1, ?_⟩
  have hcell : (s.arcs.map ofArc).map cellsRA = s.arcs.map cellsA := by rw [List.map_map]; rfl
  rw [show (ofSt s).arcs = s.arcs.map ofArc from rfl, hcell] at e2
  exact e2
/-- The bytes behind Pack. -/
structure BP (w W : World) (l : List Pr) (mb : Nat) (base : Int) (vs : Value) (b : List St) (vb : Value) : Prop extends BB w W l mb base vs b where
  by' : Cd.Bytes w.heap.size W vb (packB base (b.map ofSt))
theorem BP.below {w W W' : World} {l : List Pr} {mb : Nat} {base : Int} {vs : Value} {b : List St} {vb : Value} (h : BP w W l mb base vs b vb) (hb : Below W.heap.size W W') : BP w W' l mb base vs b vb :=
  ⟨h.toBB.below hb, h.by'.below hb⟩
theorem BB.pack {w W : World} {l : List Pr} {mb : Nat} {base : Int} {vs : Value} {b : List St} (h : BB w W l mb base vs b) (hC : buildE l = 0) (ht : Tabs w) : Calls Tryd.prog 14 #[.agg #[.int .i64 base, vs]] W fun e w' => ∃ ad n cap, e = .returned (.tuple #[.slice ad n cap, .int .i64 0]) ∧ (packB base (b.map ofSt)).length = n ∧ n ≤ cap ∧ (ad = none → cap = 0) ∧ BP w w' l mb base vs b (.slice ad n cap) := by
  have hr := built_right hC
  have hf := mach_few (l := l)
  rw [h.eq] at hr hf
  refine (Pack_any W.heap.size W base (b.map ofSt) vs (built_at h.row hC (by rw [h.eq])) (Nat.le_refl _) (ht.below h.bel) (by rw [List.length_map]; simp only at hf; omega)).mono ?_
  intro e w' hs
  obtain ⟨ad, n, cap, e1, e2⟩ := hs.yes hr
  obtain ⟨ao, c, ev, hc1, hc2, _⟩ := e2.row
  simp only [Value.slice.injEq] at ev
  obtain ⟨rfl, rfl, rfl⟩ := ev
  exact ⟨ad, _, cap, e1, rfl, hc1, hc2, h.below hs.bel, e2.mono h.bel.size⟩
theorem BP.unpack {w W : World} {l : List Pr} {mb : Nat} {base : Int} {vs : Value} {b : List St} {vb : Value} (h : BP w W l mb base vs b vb) (hC : buildE l = 0) (ht : Tabs w) : Calls Tryd.prog 16 #[vb] W fun e w' => ∃ ad n cap, e = .returned (.tuple #[.agg #[.int .i64 base, .slice ad n cap], .int .i64 0]) ∧ Below W.heap.size W w' ∧ StRow W.heap.size w' (.slice ad n cap) b ∧ BP w w' l mb base vs b vb := by
  have hg := good_built hC
  have hl := built_len hC
  rw [h.eq] at hg hl
  simp only at hg hl
  refine (Unpack_any W.heap.size vb _ W h.by'.row (Nat.le_refl _) (packB_byte _ _) (by omega) (ht.below h.bel)).mono ?_
  intro e w' hs
  obtain ⟨vs', e1, e2⟩ := hs.yes hg.1
  rw [hg.2.1] at e1
  rw [hg.2.2] at e2
  have hst := e2.st
  obtain ⟨ad, n, cap, rfl, _⟩ := StRow.form hst
  exact ⟨ad, n, cap, e1, hs.bel, hst, h.below hs.bel⟩
set_option maxHeartbeats 4000000 in
theorem back_walk (v : Value) (w : World) (ht : Tabs w) (l : List Pr) (h : PRow w v l) (hs : Sm l) (hl : l.length ≤ 9223372036854775807) :
    Calls Tryd.prog 6 #[v] w fun e w' => e = .returned (.bool true) ∧ Below w.heap.size w w' := by
  have HBLD := Build_any w v l h hl hs ht
  obtain ⟨C, hC⟩ : ∃ C, buildE l = C := ⟨_, rfl⟩
  rw [hC] at HBLD
  have HT : Hid (Tabs w) := ht
  have HC : Hid (buildE l = C) := hC
  have HB0 : Hid (Calls Tryd.prog 13 #[v] w fun e w' => ∃ base vs b, e = .returned (.tuple #[.agg #[.int .i64 base, vs], .int .i64 C]) ∧ BuildSays w w' l base vs b) := HBLD
  clear h hs ht HBLD hC
  go_enter Tryd.func6, Tryd.ntmps6
  go_upto_region 2 with (go_at_call 13; refine HB0.out.mono ?_; rintro e w1 ⟨base, vs, b, rfl, hS⟩; obtain ⟨sd, nb, sc, hvs, hnb⟩ := StRow.form hS.row; subst hvs; have HS : Hid (BuildSays w w1 l base (.slice sd nb sc) b) := hS; clear hS)
  have HBB := BB.mk' HS.out
  obtain ⟨mb, hmb⟩ : ∃ mb, mb = w1.heap.size := ⟨_, rfl⟩
  obtain ⟨W2, hW2⟩ : ∃ W2, W2 = w1.alloc (.cells #[.int .i64 base, .slice sd nb sc] 24) := ⟨_, rfl⟩
  rw [← hmb, ← hW2] at HBB
  have HB2 : Hid (BB w W2 l mb base (.slice sd nb sc) b) := HBB
  rw [← hmb, ← hW2]
  clear hmb hW2 HBB HS
  by_cases hC0 : C = 0
  · subst hC0
    obtain ⟨q0, q1⟩ := HB2.out.facts
    go_upto_region 5 with (go_at_call 14; refine (HB2.out.pack HC.out HT.out).mono ?_; rintro e w3 ⟨ad, n, cap, rfl, _, _, _, hb3⟩; have HB3 : Hid (BP w w3 l mb base (.slice sd nb sc) b (.slice ad n cap)) := hb3; clear hb3 q0 q1)
    go_upto_region 6 with (go_at_call 16; refine (HB3.out.unpack HC.out HT.out).mono ?_; rintro e w4 ⟨ad4, n4, cap4, rfl, hb4, hs4, hp4⟩; have HS4 : Hid (StRow w3.heap.size w4 (.slice ad4 n4 cap4) b) := hs4; have HP4 : Hid (BP w w4 l mb base (.slice sd nb sc) b (.slice ad n cap)) := hp4; clear hb4 hs4 hp4)
    have HNW := alloc_newP w4 (.cells #[.int .i64 base, .slice ad4 n4 cap4] 24)
    have hbw : Below w4.heap.size w4 (w4.alloc (.cells #[.int .i64 base, .slice ad4 n4 cap4] 24)) := (Below.refl _ w4).alloc (Nat.le_refl _) _
    obtain ⟨nb', hnb'⟩ : ∃ nb', nb' = w4.heap.size := ⟨_, rfl⟩
    obtain ⟨W5, hW5⟩ : ∃ W5, W5 = w4.alloc (.cells #[.int .i64 base, .slice ad4 n4 cap4] 24) := ⟨_, rfl⟩
    have HS5 : Hid (StRow w3.heap.size W5 (.slice ad4 n4 cap4) b) := by show StRow _ _ _ _; rw [hW5]; exact HS4.out.below hbw
    have HP5 : Hid (BP w W5 l mb base (.slice sd nb sc) b (.slice ad n cap)) := by show BP _ _ _ _ _ _ _ _; rw [hW5]; exact HP4.out.below hbw
    rw [← hnb', ← hW5] at HNW
    have HN5 : Hid (W5.heap[nb']? = some (.cells #[.int .i64 base, .slice ad4 n4 cap4] 24)) := HNW
    rw [← hnb', ← hW5]
    clear hnb' hW5 hbw HNW HS4 HP4
    go_wp2_with (first
      | (go_at_call 10; refine (alive_any _ (HT.out.below HP5.out.bel)).mono ?_; rintro e w6 ⟨rfl, hb6⟩; have HP6 : Hid (BP w w6 l mb base (.slice sd nb sc) b (.slice ad n cap)) := HP5.out.below hb6; have HS6 : Hid (StRow w3.heap.size w6 (.slice ad4 n4 cap4) b) := HS5.out.below hb6; have hn6 : w6.heap[nb']? = some (.cells #[.int .i64 base, .slice ad4 n4 cap4] 24) := (hb6.block nb' (Array.getElem?_eq_some_iff.1 HN5.out).1).trans HN5.out; clear hb6; obtain ⟨q0, q1⟩ := HP6.out.toBB.facts; have r0 : w6.cell? ⟨nb', 0, none⟩ = some (.int .i64 base) := (by simp [World.cell?, hn6]); have r1 : w6.cell? ⟨nb', 1, none⟩ = some (.slice ad4 n4 cap4) := (by simp [World.cell?, hn6]); clear hn6)
      | (go_at_call 17; refine (same_any _ _ w6 base base _ _ b b HP6.out.row HS6.out).mono ?_; rintro e w7 ⟨rfl, hb7⟩; rw [decide_eq_true ⟨rfl, rfl⟩]; have HB7 : Hid (Below w6.heap.size w6 w7) := hb7; clear hb7))
    go_ret
    exact ⟨rfl, HP6.out.bel.trans (HB7.out.mono HP6.out.bel.size)⟩
  · have hCb : (C == 0) = false := beq_eq_false_iff_ne.2 hC0
    have hCn : (C != 0) = true := by simp [bne, hCb]
    go_wp2_with (first
      | (go_at_call 10; refine (alive_any _ (HT.out.below HB2.out.bel)).mono ?_; rintro e w3 ⟨rfl, hb3⟩; have HB3 : Hid (BB w w3 l mb base (.slice sd nb sc) b) := HB2.out.below hb3; clear hb3))
    go_ret
    exact ⟨rfl, HB3.out.bel⟩
end Go.Proofs.YtdidcombjmbkdaaDoor
