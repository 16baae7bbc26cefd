/- Texts that were written apart, joined. -/
import Derived.Test.YtllmdfkiogmofaaGreatDoorG6
import Derived.Test.YtllmdfkiogmofaaGreatDoorGd
import Derived.Laws.StructEq
import Derived.Test.YtllmdfkiogmofaaGreatDoorG7
import Derived.Test.YtllmdfkiogmofaaGreatDoorG9
/- Machines that fst.Build made, as pack reads them; alive. -/
namespace Go.Proofs.YtllmdfkiogmofaaGreatDoor
open Go.RowKit Nums Fm Pk
set_option maxRecDepth 100000

theorem built_at {B : Nat} {w : World} {vs : Value} {l : List Pr} {b : List St} (h : StRow B w vs b) (hC : buildE l = 0) (hb : (machOf l).2 = b) : StsAt w.heap.size w vs (b.map ofSt) := by
  obtain ⟨xss, h1, h2, h3⟩ := h
  have hf := built_facts hC
  have hlen := mach_few (l := l)
  rw [hb] at hf hlen
  refine ⟨⟨xss, h1.reads, by rw [h2, List.length_map], fun i s hi => ?_⟩, fun s hs => ?_, by rw [List.length_map]; omega⟩
  · rw [List.getElem?_map] at hi
    obtain ⟨t, ht, rfl⟩ := Option.map_eq_some_iff.1 hi
    obtain ⟨va, e1, e2⟩ := h3 i t ht
    have hcell : (t.arcs.map ofArc).map cellsRA = t.arcs.map cellsA := by rw [List.map_map]; rfl
    refine ⟨va, e1, ⟨by rw [show (ofSt t).arcs = t.arcs.map ofArc from rfl, hcell]; exact GOwn.reads e2, fun a ha => ?_, ?_⟩⟩
    · obtain ⟨x, hx, rfl⟩ := List.mem_map.1 ha
      obtain ⟨p1, p2, p3⟩ := (hf i t ht).2 x hx
      have hi' := (List.getElem?_eq_some_iff.1 ht).1
      simp only [OkRA, ofArc, Fits32, Fits64]
      omega
    · have := GOwn.reads e2
      obtain ⟨ad, cap, e, _⟩ := GOwn.shape e2
      have hsm : (t.arcs.map cellsA).length ≤ maxLen := by
        obtain ⟨_, hl, ⟨_, h0⟩ | ⟨g, cap, cur, _, _, _, h3, h4, _⟩⟩ := e2
        · omega
        · omega
      rw [List.length_map] at hsm
      unfold maxLen at hsm
      show (t.arcs.map ofArc).length ≤ _
      rw [List.length_map]
      omega
  · obtain ⟨t, ht, rfl⟩ := List.mem_map.1 hs
    obtain ⟨i, hi, rfl⟩ := List.getElem_of_mem ht
    have := (hf i _ (List.getElem?_eq_getElem hi)).1
    simp only [ofSt, Fits64]
    omega
theorem StRow.form {B : Nat} {w : World} {vs : Value} {b : List St} (h : StRow B w vs b) : ∃ ad n cap, vs = .slice ad n cap ∧ b.length = n := by
  obtain ⟨xss, h1, h2, _⟩ := h
  obtain ⟨ad, cap, h3, _⟩ := h1.shape
  exact ⟨ad, _, cap, h3, h2.symm⟩
def al8 : List Pr := [(⟨#[97]⟩, 3)]
def alM8 : List St := [⟨true, 0, []⟩, ⟨false, 0, [⟨97, 0, 0⟩]⟩]
theorem al8_e : buildE al8 = 0 := by decide +kernel
theorem al8_m : machOf al8 = (3, alM8) := by decide +kernel
theorem al8_sm : Sm al8 := fun x hx => by simp [al8] at hx; subst hx; decide
theorem al8_r : rightB 3 (alM8.map ofSt) = true := by have := built_right al8_e; rw [al8_m] at this; exact this
theorem al8_b : packB 3 (alM8.map ofSt) = [3, 2, 1, 0, 2, 97, 0, 1] := by decide +kernel
theorem one_new (w : World) (x : Pr) (T : TypeId) (c : Nat) : PRow (w.alloc (.cells #[.string x.1, .int .i64 x.2] T)) (.slice (some ⟨w.heap.size, 0, none⟩) 1 c) [x] := by
  refine ⟨_, c, rfl, fun _ => ⟨w.heap.size, 0, rfl, by simp, fun i u hi => ?_⟩⟩
  match i, hi with
  | 0, hi => simp at hi; subst hi; exact ⟨by simp, by simp⟩
  | n + 1, hi => simp at hi
set_option maxHeartbeats 2000000 in
theorem alive8_any (w : World) (ht : Tabs w) : Calls Tryz.prog 5 #[] w fun e w' => e = .returned (.bool true) ∧ Below w.heap.size w w' := by
  have hb0 : ∀ o, Below w.heap.size w (w.alloc o) := fun o => (Below.refl _ w).alloc (Nat.le_refl _) o
  have HT : Hid (∀ W, Below w.heap.size w W → Tabs W) := fun W hW => ht.below hW
  have HB : Hid (∀ o, Below w.heap.size w (w.alloc o)) := hb0
  have HBU : Hid (∀ T, Calls Tryz.prog 17 #[.slice (some ⟨w.heap.size, 0, none⟩) 1 1] (w.alloc (.cells #[.string ⟨#[97]⟩, .int .i64 3] T)) fun e w' => ∃ base vs b, e = .returned (.tuple #[.agg #[.int .i64 base, vs], .int .i64 0]) ∧ BuildSays (w.alloc (.cells #[.string ⟨#[97]⟩, .int .i64 3] T)) w' al8 base vs b) := fun T => by
    have := Build_any (w.alloc (.cells #[.string ⟨#[97]⟩, .int .i64 3] T)) _ al8 (one_new w (⟨#[97]⟩, 3) T 1) (by decide) al8_sm (ht.below (hb0 _))
    rw [al8_e] at this
    exact this
  clear ht hb0
  go_enter Tryz.func5, Tryz.ntmps5
  go_upto_region 2 with (go_at_call 17; refine (HBU.out _).mono ?_; rintro e w1 ⟨base, vs, b, rfl, hS⟩; obtain ⟨sd, nb, sc, hvs, hnb⟩ := StRow.form hS.row; subst hvs; have HS : Hid (BuildSays (w.alloc _) w1 al8 base (.slice sd nb sc) b) := hS; clear hS)
  obtain ⟨hbel, hrow, hmach⟩ := HS.out
  rw [al8_m] at hmach
  simp only [Prod.mk.injEq] at hmach
  obtain ⟨rfl, rfl⟩ := hmach
  have hsts := built_at hrow al8_e (by rw [al8_m])
  have hbw : Below w.heap.size w w1 := (HB.out _).trans (hbel.mono (HB.out _).size)
  obtain ⟨mb, hmb⟩ : ∃ mb, mb = w1.heap.size := ⟨_, rfl⟩
  obtain ⟨W2, hW2⟩ : ∃ W2, W2 = w1.alloc (.cells #[.int .i64 3, .slice sd nb sc] 26) := ⟨_, rfl⟩
  have hb2 : Below w1.heap.size w1 W2 := by rw [hW2]; exact (Below.refl _ w1).alloc (Nat.le_refl _) _
  have hm2 : W2.heap[mb]? = some (.cells #[.int .i64 3, .slice sd nb sc] 26) := by rw [hW2, hmb]; exact alloc_newP _ _
  have q0 : W2.cell? ⟨mb, 0, none⟩ = some (.int .i64 3) := by simp [World.cell?, hm2]
  have q1 : W2.cell? ⟨mb, 1, none⟩ = some (.slice sd nb sc) := by simp [World.cell?, hm2]
  have HB2 : Hid (Below w.heap.size w W2) := hbw.trans (hb2.mono hbw.size)
  have HPK : Hid (Calls Tryz.prog 18 #[.agg #[.int .i64 3, .slice sd nb sc]] W2 fun e w' => PackSays W2 w' 3 (alM8.map ofSt) e) := Pack_any w1.heap.size W2 3 _ _ (hsts.below hb2) hb2.size (HT.out _ HB2.out) (by decide)
  rw [← hmb, ← hW2]
  clear hmb hW2 hb2 hm2 hsts hbw hbel hrow
  go_upto_region 3 with (go_at_call 18; refine HPK.out.mono ?_; rintro e w3 hps; obtain ⟨d3, n3, c3, rfl, hby⟩ := hps.yes al8_r; have HB3 : Hid (Below W2.heap.size W2 w3) := hps.bel; rw [al8_b] at hby; have HBY : Hid (Cd.Bytes W2.heap.size w3 (.slice d3 n3 c3) [3, 2, 1, 0, 2, 97, 0, 1]) := hby; clear hps hby)
  have hstr := (HBY.out.row).str
  have HF : Hid (Below w.heap.size w w3) := HB2.out.trans (HB3.out.mono HB2.out.size)
  have hs8 : Cd.strB [3, 2, 1, 0, 2, 97, 0, 1] = ⟨#[3, 2, 1, 0, 2, 97, 0, 1]⟩ := by rfl
  rw [hs8] at hstr
  clear hs8
  go_wp2
  go_ret
  exact ⟨rfl, HF.out⟩
end Go.Proofs.YtllmdfkiogmofaaGreatDoor

/- The reference's Right, by what its Pairs says. -/
namespace Go.Proofs.YtllmdfkiogmofaaGreatDoor
open Go.RowKit Nums Fm Pk
set_option maxRecDepth 100000

theorem StsAt.mono {E E' : Nat} {w : World} {vs : Value} {m : List RSt} (h : StsAt E w vs m) (hE : E ≤ E') : StsAt E' w vs m := by
  obtain ⟨xss, h1, h2, h3⟩ := h.ex
  refine ⟨⟨xss, h1.mono hE, h2, fun i s hi => ?_⟩, h.ok, h.len⟩
  obtain ⟨va, e1, e2⟩ := h3 i s hi
  exact ⟨va, e1, e2.row.mono hE, e2.ok, e2.len⟩
/-- What the reference's Pairs says. -/
structure PairsSays (w w' : World) (base : Int) (m : List RSt) (vl : Value) (ok : Bool) (l : List Pr) : Prop where
  bel : Below w.heap.size w w'
  row : ok = true → PRow w' vl l ∧ Sm l
  yes : rightB base m = true → ok = true ∧ buildE l = 0 ∧ machOf l = (base, m.map toSt) ∧ (m.map toSt).map ofSt = m
theorem right_same {base q : Int} {m : List RSt} {l : List Pr} {b : List St} (hC : buildE l = 0) (hM : machOf l = (q, b)) (hy : rightB base m = true → machOf l = (base, m.map toSt) ∧ (m.map toSt).map ofSt = m) : decide (base = q ∧ m = b.map ofSt) = rightB base m := by
  cases hr : rightB base m with
  | true =>
    obtain ⟨h1, h2⟩ := hy hr
    rw [hM, Prod.mk.injEq] at h1
    exact decide_eq_true ⟨h1.1.symm, by rw [h1.2, h2]⟩
  | false =>
    refine decide_eq_false fun e => ?_
    have := built_right hC
    rw [hM] at this
    simp only at this
    rw [← e.1, ← e.2, hr] at this
    cases this
set_option maxHeartbeats 4000000 in
theorem refRight_any (E : Nat) (w : World) (base : Int) (m : List RSt) (vs : Value) (h : StsAt E w vs m) (hE : E ≤ w.heap.size)
    (hP : ∀ W, Below w.heap.size w W → Calls Tryz.prog 12 #[.agg #[.int .i64 base, vs]] W fun e w' => ∃ vl ok l, e = .returned (.tuple #[vl, .bool ok]) ∧ PairsSays W w' base m vl ok l)
    (hB : ∀ (W : World) (vl : Value) (l : List Pr), PRow W vl l → Sm l → Calls Tryz.prog 32 #[vl] W fun e w' => ∃ base vs b, e = .returned (.tuple #[.agg #[.int .i64 base, vs], .int .i64 (buildE l)]) ∧ BuildSays W w' l base vs b) :
    Calls Tryz.prog 11 #[.agg #[.int .i64 base, vs]] w fun e w' => e = .returned (.bool (rightB base m)) ∧ Below w.heap.size w w' := by
  obtain ⟨ad, cap, rfl⟩ := h.shape
  obtain ⟨n, hn⟩ : ∃ n, m.length = n := ⟨_, rfl⟩
  rw [hn] at h hP ⊢
  have HR : Hid (StsAt E w (.slice ad n cap) m) := h
  obtain ⟨F, hF⟩ : ∃ F, rightB base m = F := ⟨_, rfl⟩
  have HF : Hid (rightB base m = F) := hF
  rw [hF]
  obtain ⟨W0, hW0⟩ : ∃ W0, W0 = w.alloc (.cells #[.int .i64 base, .slice ad n cap] 26) := ⟨_, rfl⟩
  obtain ⟨mb, hmb⟩ : ∃ mb, mb = w.heap.size := ⟨_, rfl⟩
  have HB0 : Hid (Below w.heap.size w W0) := by show Below _ _ _; rw [hW0]; exact (Below.refl _ w).alloc (Nat.le_refl _) _
  have HM0 : Hid (W0.heap[mb]? = some (.cells #[.int .i64 base, .slice ad n cap] 26)) := by rw [hW0, hmb]; exact alloc_newP _ _
  have HPP : Hid (Calls Tryz.prog 12 #[.agg #[.int .i64 base, .slice ad n cap]] W0 fun e w' => ∃ vl ok l, e = .returned (.tuple #[vl, .bool ok]) ∧ PairsSays W0 w' base m vl ok l) := hP W0 HB0.out
  have HBU : Hid (∀ (W : World) (vl : Value) (l : List Pr), PRow W vl l → Sm l → Calls Tryz.prog 32 #[vl] W fun e w' => ∃ base vs b, e = .returned (.tuple #[.agg #[.int .i64 base, vs], .int .i64 (buildE l)]) ∧ BuildSays W w' l base vs b) := hB
  clear h hP hB hF hn
  have z0 : W0.cell? ⟨mb, 0, none⟩ = some (.int .i64 base) := by simp [World.cell?, HM0.out]
  have z1 : W0.cell? ⟨mb, 1, none⟩ = some (.slice ad n cap) := by simp [World.cell?, HM0.out]
  go_enter Tryz.func11, Tryz.ntmps11
  go_upto_region 1 with fail
  rw [← hW0, ← hmb]
  clear hW0 hmb
  go_upto_region 2 with (go_at_call 12; refine HPP.out.mono ?_; rintro e w1 ⟨vl, ok, l, rfl, hS⟩; have HS : Hid (PairsSays W0 w1 base m vl ok l) := hS; clear hS z0 z1)
  cases ok with
  | false =>
    have HE : Hid (F = false) := by
      show _ = _
      rw [← HF.out]
      cases hr : rightB base m with
      | false => rfl
      | true => exact absurd (HS.out.yes hr).1 (by simp)
    go_wp2
    go_ret
    exact ⟨by rw [HE.out]; rfl, HB0.out.trans (HS.out.bel.mono HB0.out.size)⟩
  | true =>
    have HB1 : Hid (Below w.heap.size w w1) := HB0.out.trans (HS.out.bel.mono HB0.out.size)
    have HM1 : Hid (w1.heap[mb]? = some (.cells #[.int .i64 base, .slice ad n cap] 26)) := (HS.out.bel.block mb (Array.getElem?_eq_some_iff.1 HM0.out).1).trans HM0.out
    obtain ⟨C, hC⟩ : ∃ C, buildE l = C := ⟨_, rfl⟩
    have HC : Hid (buildE l = C) := hC
    have HB : Hid (Calls Tryz.prog 32 #[vl] w1 fun e w' => ∃ base vs b, e = .returned (.tuple #[.agg #[.int .i64 base, vs], .int .i64 C]) ∧ BuildSays w1 w' l base vs b) := by
      have := HBU.out w1 vl l (HS.out.row rfl).1 (HS.out.row rfl).2
      rw [hC] at this
      exact this
    clear hC HPP
    go_upto_region 5 with (go_at_call 32; refine HB.out.mono ?_; rintro e w2 ⟨q, vb, b, rfl, hS2⟩; obtain ⟨td, nc, tc, hvs, hnc⟩ := StRow.form hS2.row; subst hvs; have HS2 : Hid (BuildSays w1 w2 l q (.slice td nc tc) b) := hS2; clear hS2 hnc)
    have hb2a : Below w2.heap.size w2 (w2.alloc (.cells #[.int .i64 q, .slice td nc tc] 26)) := (Below.refl _ w2).alloc (Nat.le_refl _) _
    have hnew := alloc_newP w2 (.cells #[.int .i64 q, .slice td nc tc] 26)
    obtain ⟨W3, hW3⟩ : ∃ W3, W3 = w2.alloc (.cells #[.int .i64 q, .slice td nc tc] 26) := ⟨_, rfl⟩
    obtain ⟨mc, hmc⟩ : ∃ mc, mc = w2.heap.size := ⟨_, rfl⟩
    rw [← hW3] at hb2a hnew
    rw [← hmc] at hnew
    have hb13 : Below w1.heap.size w1 W3 := HS2.out.bel.trans (hb2a.mono HS2.out.bel.size)
    have hm3 : W3.heap[mb]? = some (.cells #[.int .i64 base, .slice ad n cap] 26) := (hb13.block mb (Array.getElem?_eq_some_iff.1 HM1.out).1).trans HM1.out
    have HB3 : Hid (Below w.heap.size w W3) := HB1.out.trans (hb13.mono HB1.out.size)
    have HR3 : Hid (StsAt W3.heap.size W3 (.slice ad n cap) m) := (HR.out.below (HB3.out.mono hE)).mono (Nat.le_trans hE HB3.out.size)
    have HROW : Hid (StRow w1.heap.size W3 (.slice td nc tc) b) := HS2.out.row.below hb2a
    have y0 : W3.cell? ⟨mb, 0, none⟩ = some (.int .i64 base) := by simp [World.cell?, hm3]
    have y1 : W3.cell? ⟨mb, 1, none⟩ = some (.slice ad n cap) := by simp [World.cell?, hm3]
    have x0 : W3.cell? ⟨mc, 0, none⟩ = some (.int .i64 q) := by simp [World.cell?, hnew]
    have x1 : W3.cell? ⟨mc, 1, none⟩ = some (.slice td nc tc) := by simp [World.cell?, hnew]
    rw [← hW3, ← hmc]
    clear hW3 hmc hnew hm3 hb13 hb2a
    by_cases hC0 : C = 0
    · subst hC0
      have HSA : Hid (Calls Tryz.prog 8 #[.agg #[.int .i64 base, .slice ad n cap], .agg #[.int .i64 q, .slice td nc tc]] W3 fun e w' => e = .returned (.bool F) ∧ Below W3.heap.size W3 w') := by
        have hs := sameR_any W3.heap.size W3 base q (.slice ad n cap) (.slice td nc tc) m (b.map ofSt) HR3.out (built_at HROW.out HC.out (by rw [HS2.out.mach])) (Nat.le_refl _)
        rw [right_same HC.out HS2.out.mach (fun hr => (HS.out.yes hr).2.2), HF.out] at hs
        exact hs
      go_wp2_with (go_at_call 8; refine HSA.out.mono ?_; rintro e w4 ⟨rfl, hb4⟩; have HB4 : Hid (Below W3.heap.size W3 w4) := hb4; clear hb4)
      go_ret
      exact ⟨rfl, HB3.out.trans (HB4.out.mono HB3.out.size)⟩
    · have hCb : (C == 0) = false := beq_eq_false_iff_ne.2 hC0
      have HE : Hid (F = false) := by
        show _ = _
        rw [← HF.out]
        cases hr : rightB base m with
        | false => rfl
        | true =>
          have := (HS.out.yes hr).2.1
          rw [HC.out] at this
          exact absurd this hC0
      go_wp2
      go_ret
      exact ⟨by rw [HE.out]; rfl, HB3.out⟩
end Go.Proofs.YtllmdfkiogmofaaGreatDoor

/- The reference's Pairs. -/
namespace Go.Proofs.YtllmdfkiogmofaaGreatDoor
open Go.RowKit Nums Fm Pk
set_option maxRecDepth 100000

theorem rtyP : RTy 47 36 2 24 := ⟨by kernel_rfl, ⟨.agg #[.string .empty, .int .i64 0], by kernel_rfl, rfl⟩, by decide, by decide⟩
def cellsPr (x : Pr) : List Value := [.string x.1, .int .i64 x.2]
theorem prow_of {B : Nat} {w : World} {v : Value} {l : List Pr} (h : GOwn 47 2 B w v (l.map cellsPr)) : PRow w v l := by
  obtain ⟨ad, cap, e, _⟩ := h.shape
  rw [List.length_map] at e
  refine ⟨ad, cap, e, fun h0 => ?_⟩
  obtain ⟨g, cap', e2, hg, _, _, hc⟩ := h.cell (by rw [List.length_map]; exact h0)
  rw [e] at e2
  simp only [Value.slice.injEq] at e2
  refine ⟨g, 0, e2.1, hg, fun i x hi => ?_⟩
  have hx : (l.map cellsPr)[i]? = some (cellsPr x) := by rw [List.getElem?_map, hi]; rfl
  rw [Nat.zero_add]
  exact ⟨hc i 0 _ _ hx rfl, hc i 1 _ _ hx rfl⟩
theorem prs_sm {es : List En} (h : ∀ e ∈ es, e.1.length ≤ 25) : Sm (prsOf es) := fun x hx => by
  obtain ⟨e, he, rfl⟩ := List.mem_map.1 hx
  have h1 := h e he
  simp only [textS]
  split
  · rw [strOfNums_size]
    have := flat_len e.1
    omega
  · decide
/-- Below Pairs: the machine in its box. -/
structure PB (w W : World) (mb : Nat) (base : Int) (vs : Value) : Prop where
  bel : Below w.heap.size w W
  blk : W.heap[mb]? = some (.cells #[.int .i64 base, vs] 26)
theorem PB.below {w W W' : World} {mb : Nat} {base : Int} {vs : Value} (h : PB w W mb base vs) (hb : Below W.heap.size W W') : PB w W' mb base vs := ⟨h.bel.trans (hb.mono h.bel.size), (hb.block mb (Array.getElem?_eq_some_iff.1 h.blk).1).trans h.blk⟩
theorem PB.facts {w W : World} {mb : Nat} {base : Int} {vs : Value} (h : PB w W mb base vs) : W.cell? ⟨mb, 0, none⟩ = some (.int .i64 base) ∧ W.cell? ⟨mb, 1, none⟩ = some vs := ⟨by simp [World.cell?, h.blk], by simp [World.cell?, h.blk]⟩
/-- What is said behind Pairs. -/
def PairsPost (w : World) (base : Int) (m : List RSt) (e : Ending) (w' : World) : Prop := ∃ vl ok l, e = .returned (.tuple #[vl, .bool ok]) ∧ PairsSays w w' base m vl ok l
theorem pairs_post {w w' : World} {base : Int} {m : List RSt} {e : Ending} {vl : Value} {ok : Bool} (l : List Pr) (h : e = .returned (.tuple #[vl, .bool ok])) (hs : PairsSays w w' base m vl ok l) : PairsPost w base m e w' := ⟨vl, ok, l, h, hs⟩
set_option maxHeartbeats 8000000 in
theorem refPairs_any (E : Nat) (w : World) (base : Int) (m : List RSt) (vs : Value) (h : StsAt E w vs m) (hE : E ≤ w.heap.size) :
    Calls Tryz.prog 12 #[.agg #[.int .i64 base, vs]] w (PairsPost w base m) := by
  obtain ⟨ad, cap, rfl⟩ := h.shape
  obtain ⟨n, hn⟩ : ∃ n, m.length = n := ⟨_, rfl⟩
  have HN : Hid (m.length = n) := hn
  have hl63 := h.len
  rw [hn] at h hl63 ⊢
  have HR : Hid (StsAt E w (.slice ad n cap) m) := h
  obtain ⟨W0, hW0⟩ : ∃ W0, W0 = w.alloc (.cells #[.int .i64 base, .slice ad n cap] 26) := ⟨_, rfl⟩
  obtain ⟨mb, hmb⟩ : ∃ mb, mb = w.heap.size := ⟨_, rfl⟩
  have HB0 : Hid (Below w.heap.size w W0) := by show Below _ _ _; rw [hW0]; exact (Below.refl _ w).alloc (Nat.le_refl _) _
  have HPB : Hid (PB w W0 mb base (.slice ad n cap)) := ⟨HB0.out, by rw [hW0, hmb]; exact alloc_newP _ _⟩
  obtain ⟨z0, z1⟩ := HPB.out.facts
  clear h hn
  go_enter Tryz.func12, Tryz.ntmps12
  go_upto_region 1 with fail
  rw [← hW0, ← hmb]
  clear hW0 hmb
  by_cases hn0 : n = 0
  · subst hn0
    have HM0 : Hid (m = []) := List.length_eq_zero_iff.1 HN.out
    go_wp2
    go_ret2
    refine pairs_post [] rfl ⟨HB0.out, fun _ => ⟨PRow.nil _, fun x hx => by cases hx⟩, fun hr => ?_⟩
    rw [HM0.out] at hr ⊢
    unfold rightB at hr
    rw [if_pos rfl] at hr
    have hb := of_decide_eq_true hr
    exact ⟨rfl, rfl, by rw [hb]; simp [machOf], rfl⟩
  have hnb : ((n : Int) == 0) = false := beq_eq_false_iff_ne.2 (by omega)
  have HNE : Hid (m ≠ []) := fun e => hn0 (by rw [← HN.out, e]; rfl)
  by_cases h1 : 98305 < n
  · have h1z : (98305 : Int) < (n : Int) := by omega
    have HNO : Hid (rightB base m = false) := by
      apply Bool.eq_false_iff.2
      intro hr
      have := (right_formed hr HNE.out).1
      have := HN.out
      omega
    go_wp2
    go_ret2
    exact pairs_post [] rfl ⟨HB0.out, (fun h => by cases h), fun h => absurd h (by rw [HNO.out]; simp)⟩
  have h1z : ¬ (98305 : Int) < (n : Int) := by omega
  by_cases h2 : base < 1
  · have HNO : Hid (rightB base m = false) := by
      apply Bool.eq_false_iff.2
      intro hr
      have := (right_formed hr HNE.out).2.1
      omega
    go_wp2
    go_ret2
    exact pairs_post [] rfl ⟨HB0.out, (fun h => by cases h), fun h => absurd h (by rw [HNO.out]; simp)⟩
  by_cases h3 : 1048576 < base
  · have HNO : Hid (rightB base m = false) := by
      apply Bool.eq_false_iff.2
      intro hr
      have := (right_formed hr HNE.out).2.1
      omega
    go_wp2
    go_ret2
    exact pairs_post [] rfl ⟨HB0.out, (fun h => by cases h), fun h => absurd h (by rw [HNO.out]; simp)⟩
  go_upto_region 5 with fail
  clear z0 z1
  go_wp2
  go_loopg [4] n (fun gm s4 wr => ∃ (k : Nat), s4 = .int .i64 k ∧ k ≤ n ∧ n - k ≤ gm ∧ Hid (∀ (i : Nat) (s : RSt), i < k → m[i]? = some s → rfS s i = true) ∧ Hid (PB w wr mb base (.slice ad n cap)))
  case atStart => exact ⟨0, rfl, Nat.zero_le _, by omega, (fun i s hi => by omega), HPB⟩
  case round =>
    obtain ⟨k, rfl, hk, hgm, HFK, HPK⟩ := hrel
    obtain ⟨z0, z1⟩ := HPK.out.facts
    by_cases hlt : k < n
    · have hltz : (k : Int) < (n : Int) := by omega
      obtain ⟨s, hs⟩ : ∃ s, m[k]? = some s := ⟨m[k]'(by have := HN.out; omega), List.getElem?_eq_getElem _⟩
      obtain ⟨g, off, va, rfl, hg, c0, c1, c2, hA⟩ := (HR.out.below (HPK.out.bel.mono hE)).at hs
      have HS : Hid (m[k]? = some s) := hs
      obtain ⟨va0, vac, rfl⟩ := hA.shape
      obtain ⟨na, hna⟩ : ∃ na, s.arcs.length = na := ⟨_, rfl⟩
      rw [hna] at hA c2
      have HCALL : Hid (Calls Tryz.prog 33 #[.agg #[.bool s.final, .int .i64 s.out, .slice va0 na vac], .int .i64 k] wr fun e w' => e = .returned (.bool (rfS s k)) ∧ Below wr.heap.size wr w') := refFormed_any E wr s _ k hA (Nat.le_trans hE HPK.out.bel.size)
      obtain ⟨F, hF⟩ : ∃ F, rfS s k = F := ⟨_, rfl⟩
      rw [hF] at HCALL
      have HF : Hid (rfS s k = F) := hF
      clear hs hA hna hF
      cases F with
      | true =>
        go_wp2_with (go_at_call 33; refine HCALL.out.mono ?_; rintro e w2 ⟨rfl, hb2⟩; have HP2 : Hid (PB w w2 mb base (.slice (some ⟨g, off, none⟩) n cap)) := HPK.out.below hb2; clear hb2)
        go_roundg (n - (k + 1))
        case measure => omega
        case rel => exact ⟨k + 1, by go_num, by omega, Nat.le_refl _, (fun i t hi ht => (by
          by_cases hik : i = k
          · subst hik
            rw [HS.out, Option.some.injEq] at ht
            rw [← ht]
            exact HF.out
          · exact HFK.out i t (by omega) ht)), HP2⟩
      | false =>
        go_wp2_with (go_at_call 33; refine HCALL.out.mono ?_; rintro e w2 ⟨rfl, hb2⟩; have HP2 : Hid (PB w w2 mb base (.slice (some ⟨g, off, none⟩) n cap)) := HPK.out.below hb2; clear hb2)
        go_ret2
        refine pairs_post [] rfl ⟨HP2.out.bel, (fun h => by cases h), fun hr => ?_⟩
        have := (right_formed hr HNE.out).2.2 k s HS.out
        rw [HF.out] at this
        cases this
    · have hltz : ¬ (k : Int) < (n : Int) := by omega
      have HRF : Hid (rfM m) := fun i s hi => HFK.out i s (by have := (List.getElem?_eq_some_iff.1 hi).1; have := HN.out; omega) hi
      have HFD : Hid (∀ (i : Nat) (s : RSt), m[i]? = some s → (0 ≤ s.out ∧ s.out ≤ 1048576) ∧ ∀ a ∈ s.arcs, 0 ≤ a.to ∧ a.to < i ∧ 0 ≤ a.out ∧ a.out ≤ 1048576) := fun i s hi => rfS_facts (HRF.out i s hi)
      obtain ⟨n1, hn1⟩ : ∃ n1, n = n1 + 1 := ⟨n - 1, by omega⟩
      have hsub : (n : Int) - 1 = (n1 : Int) := by omega
      have hwsub : IntKind.i64.wrap ((n : Int) - 1) = (n1 : Int) := by rw [IntKind.wrap_i64]; omega
      have HWC : Hid (Calls Tryz.prog 34 #[.agg #[.int .i64 base, .slice ad n cap], .int .i64 (n1 : Int), .slice none 0 0, .int .i64 base, .slice none 0 0] wr fun e w' => ∃ v', e = .returned v' ∧ RstsAt wr.heap.size w' v' (wdF m n n1 [] base []) ∧ WF wr.heap.size wr w') := words_any E wr.heap.size (Nat.le_trans hE HPK.out.bel.size) base m HFD.out n n1 wr [] base [] _ _ _ (by omega) (by have := HN.out; omega) (HR.out.below (HPK.out.bel.mono hE)) (Nat.le_refl _) (World.ownsRow_nil _ _ _ _) (by simp) ⟨[], GOwn.nil _ _ _ _, rfl, fun i e hi => by simp at hi⟩ (by omega) (by simp; omega)
      obtain ⟨es, hes⟩ : ∃ es, wdF m n n1 [] base [] = es := ⟨_, rfl⟩
      have HES : Hid (wdF m n n1 [] base [] = es ∧ n = n1 + 1) := ⟨hes, hn1⟩
      have HFO : Hid (FoundOk 28311552 es) := by
        show FoundOk _ _
        rw [← hes]
        exact wd_ok (fun s hs => (by
          obtain ⟨i, hi⟩ := List.mem_iff_getElem?.1 hs
          obtain ⟨f1, f2⟩ := HFD.out i s hi
          exact ⟨f1, fun a ha => (f2 a ha).2.2⟩)) 28311552 n n1 [] base [] (by simp) (by omega) (by simp; omega) ⟨by simp, fun e he => by cases he⟩
      have HFI : Hid (∀ e ∈ es, ∀ c ∈ e.1, -2147483648 ≤ c ∧ c < 2147483648) := by
        show ∀ e ∈ es, _
        rw [← hes]
        refine wd_runes (P := fun c => -2147483648 ≤ c ∧ c < 2147483648) (fun s hs a ha => ?_) n n1 [] base [] (fun c hc => by cases hc) (fun e he => by cases he)
        obtain ⟨i, hi⟩ := List.mem_iff_getElem?.1 hs
        obtain ⟨xss, _, _, hx⟩ := HR.out.ex
        obtain ⟨va, _, hA⟩ := hx i s hi
        have := (hA.ok a ha).1
        unfold Fits32 at this
        omega
      have HYES : Hid (rightB base m = true → buildE (prsOf es) = 0 ∧ machOf (prsOf es) = (base, m.map toSt) ∧ (m.map toSt).map ofSt = m ∧ ∀ e ∈ es, allR e.1 = true) := fun hr => by
        have := pairs_right hr HNE.out
        rw [show m.length = n from HN.out, show n - 1 = n1 by omega, hes] at this
        exact this
      rw [hes] at HWC
      clear hes hn1 hlt
      go_upto_region 12 with (go_at_call 34; refine HWC.out.mono ?_; rintro e w6 ⟨v6, rfl, hr6, hf6⟩; have HR6 : Hid (RstsAt wr.heap.size w6 v6 es) := hr6; have HB6 : Hid (Below wr.heap.size wr w6) := hf6.below; clear hr6 hf6)
      have HW6 : Hid (Below w.heap.size w w6) := HPK.out.bel.trans (HB6.out.mono HPK.out.bel.size)
      obtain ⟨fa, fc, hv6⟩ := HR6.out.shape
      obtain ⟨ne, hne⟩ : ∃ ne, es.length = ne := ⟨_, rfl⟩
      rw [hne] at hv6
      subst hv6
      have HNEL : Hid (es.length = ne) := hne
      have hne97 : ne ≤ 4097 := by have := HFO.out.1; omega
      clear hne z0 z1
      go_wp2
      go_loopg [5, 7, 8, 9] ne (fun gm s5 s7 _ _ wq => ∃ (j : Nat), s7 = .int .i64 j ∧ j ≤ ne ∧ ne - j ≤ gm ∧ Hid (Below w6.heap.size w6 wq) ∧ Hid (GOwn 47 2 w6.heap.size wq s5 ((prsOf (es.take j)).map cellsPr)))
      case atStart => exact ⟨0, rfl, Nat.zero_le _, by omega, Below.refl _ _, (by show GOwn _ _ _ _ _ _; exact GOwn.nil _ _ _ _)⟩
      case round =>
        obtain ⟨j, rfl, hj, hgj, HBq, HPq⟩ := hrel
        obtain ⟨pa, pc, hu5, _⟩ := HPq.out.shape
        obtain ⟨pn, hpn⟩ : ∃ pn, ((prsOf (es.take j)).map cellsPr).length = pn := ⟨_, rfl⟩
        rw [hpn] at hu5
        subst hu5
        have HPN : Hid (pn = j) := by show _ = _; rw [← hpn]; simp [prsOf, HNEL.out]; omega
        clear hpn
        by_cases hltj : j < ne
        · have hltjz : (j : Int) < (ne : Int) := by omega
          obtain ⟨e, he⟩ : ∃ e, es[j]? = some e := ⟨es[j]'(by have := HNEL.out; omega), List.getElem?_eq_getElem _⟩
          obtain ⟨xss, ho, hxl, hxe⟩ := (HR6.out.below HBq.out).ex
          obtain ⟨u, hu, hmu⟩ := hxe j e he
          obtain ⟨gf, cf, ef, hgf, _, _, hcell⟩ := ho.cell (by have := HNEL.out; omega)
          simp only [Value.slice.injEq] at ef
          obtain ⟨rfl, hnx, rfl⟩ := ef
          have c0 := hcell j 0 _ u hu rfl
          have c1 := hcell j 1 _ _ hu rfl
          rw [Nat.add_zero] at c0
          obtain ⟨ua, uc, rfl⟩ := hmu.shape
          obtain ⟨un, hun⟩ : ∃ un, e.1.length = un := ⟨_, rfl⟩
          rw [hun] at hmu c0
          have hem := List.mem_of_getElem? he
          have h25 := (HFO.out.2 e hem).1
          have HT : Hid (Calls Tryz.prog 35 #[.slice ua un uc] wr fun x w' => x = .returned (.tuple #[.string (textS e.1), .bool (allR e.1)]) ∧ Below wr.heap.size wr w') := RefText_any _ e.1 wr hmu.row (by omega) (HFI.out e hem)
          have HEJ : Hid (es[j]? = some e) := he
          have HC1 : Hid (wr.cell? ⟨gf, j * 2 + 1, none⟩ = some (.int .i64 e.2)) := c1
          obtain ⟨A, hA⟩ : ∃ A, allR e.1 = A := ⟨_, rfl⟩
          rw [hA] at HT
          have HA : Hid (allR e.1 = A) := hA
          have HBw : Hid (Below w.heap.size w wr) := HW6.out.trans (HBq.out.mono HW6.out.size)
          clear ho hxl hxe hu hmu hcell hun he hem h25 hA c1 hnx
          cases A with
          | false =>
            go_wp2_with (go_at_call 35; refine HT.out.mono ?_; rintro e' w8 ⟨rfl, hb8⟩; have HB8 : Hid (Below wr.heap.size wr w8) := hb8; clear hb8)
            go_ret2
            refine pairs_post [] rfl ⟨HBw.out.trans (HB8.out.mono HBw.out.size), (fun h => by cases h), fun hr => ?_⟩
            have := (HYES.out hr).2.2.2 e (List.mem_of_getElem? HEJ.out)
            rw [HA.out] at this
            cases this
          | true =>
            go_upto_region 18 with (go_at_call 35; refine HT.out.mono ?_; rintro e' w8 ⟨rfl, hb8⟩; have HB8 : Hid (Below wr.heap.size wr w8) := hb8; clear hb8)
            have c18 : w8.cell? ⟨gf, j * 2 + 1, none⟩ = some (.int .i64 e.2) := (HB8.out.cell (p := ⟨gf, j * 2 + 1, none⟩) (lt_of_cell HC1.out)).trans HC1.out
            have HO8 : Hid (GOwn 47 2 w6.heap.size w8 (.slice pa pn pc) ((prsOf (es.take j)).map cellsPr)) := HPq.out.below HB8.out
            have HXL : Hid (((prsOf (es.take j)).map cellsPr).length < 1099511627776) := by show _ < _; rw [List.length_map]; unfold prsOf; rw [List.length_map, List.length_take]; omega
            have HB68 : Hid (Below w6.heap.size w6 w8) := HBq.out.trans (HB8.out.mono HBq.out.size)
            clear c0
            go_wp2_with (at_builtin; refine append_g rtyP (by rfl) _ _ [.string (textS e.1), .int .i64 e.2] _ rfl w6.heap.size _ _ _ _ rfl HO8.out rfl rfl ⟨rfl, by simp [Value.oneCell']⟩ HXL.out HB68.out.size ?_)
            intro v9 w9 ho9 hb9 hg9
            have HO9 : Hid (GOwn 47 2 w6.heap.size w9 v9 ((prsOf (es.take (j + 1))).map cellsPr)) := by
              show GOwn _ _ _ _ _ _
              have hj' : j < es.length := (List.getElem?_eq_some_iff.1 HEJ.out).1
              have he' : es[j] = e := (List.getElem?_eq_some_iff.1 HEJ.out).2
              rw [List.take_succ_eq_append_getElem hj', he']
              unfold prsOf at ho9 ⊢
              rw [List.map_append, List.map_append]
              exact ho9
            have HB9 : Hid (Below w6.heap.size w6 w9) := HB68.out.trans hb9
            clear ho9 hb9 hg9
            go_wp2
            go_roundg (ne - (j + 1))
            case measure => omega
            case rel => exact ⟨j + 1, by go_num, by omega, Nat.le_refl _, HB9, HO9⟩
        · have hltjz : ¬ (j : Int) < (ne : Int) := by omega
          have HALL : Hid (GOwn 47 2 w6.heap.size wr (.slice pa pn pc) ((prsOf es).map cellsPr)) := by
            have := HPq.out
            rw [List.take_of_length_le (by have := HNEL.out; omega)] at this
            exact this
          go_wp2
          go_ret2
          exact pairs_post (prsOf es) rfl ⟨HW6.out.trans (HBq.out.mono HW6.out.size), fun _ => ⟨prow_of HALL.out, prs_sm fun e he => (HFO.out.2 e he).1⟩, fun hr => ⟨rfl, (HYES.out hr).1, (HYES.out hr).2.1, (HYES.out hr).2.2.1⟩⟩
end Go.Proofs.YtllmdfkiogmofaaGreatDoor
