/- Texts that were written apart, joined. -/
import Derived.Test.YtllmdfkiogmofaaGreatDoorK0
import Derived.Test.YtllmdfkiogmofaaGreatDoorG9
/- Unpack. -/
namespace Go.Proofs.YtllmdfkiogmofaaGreatDoor
open Go.RowKit Nums Fm Pk
set_option maxRecDepth 100000

theorem up_results {tmps : Array Value} {w : World} {qb : Nat} {a b : Value} (h2 : tmps.getD 2 undef = .pointer (some ⟨qb, 0, none⟩)) (c0 : w.cell? ⟨qb, 0, none⟩ = some a) (c1 : w.cell? ⟨qb, 1, none⟩ = some b) : (results Tryz.f6 tmps).run Tryz.prog w = .ok (.tuple #[.agg #[a, b], tmps.getD 3 undef]) w := by
  have h2' : tmps[2]?.getD undef = .pointer (some ⟨qb, 0, none⟩) := by simpa using h2
  simp [results, Tryz.results6, go_sem, h2', c0, c1]
/-- The bytes are a machine's. -/
def goodB (xs : List Nat) : Bool := decide ((rdAll xs).2.2.2 = 0) && decide ((rdAll xs).2.2.1 = []) && rightB ((rdAll xs).1 : Int) (rdAll xs).2.1
/-- What Unpack says. -/
structure UnpackSays (w w' : World) (xs : List Nat) (e : Ending) : Prop where
  bel : Below w.heap.size w w'
  no : goodB xs = false → e = .returned (.tuple #[.agg #[.int .i64 0, .slice none 0 0], .int .i64 80])
  yes : goodB xs = true → ∃ vs, e = .returned (.tuple #[.agg #[.int .i64 ((rdAll xs).1 : Int), vs], .int .i64 0]) ∧ MRow w.heap.size w' vs (rdAll xs).2.1
  mb : MB (rdAll xs).2.1
  len : (rdAll xs).2.1.length ≤ 98305
structure QBlk (qb : Nat) (w : World) : Prop where
  blk : w.heap[qb]? = some (.cells #[.int .i64 0, .slice none 0 0] 26)
theorem QBlk.facts {qb : Nat} {w : World} (h : QBlk qb w) : w.cell? ⟨qb, 0, none⟩ = some (.int .i64 0) ∧ w.cell? ⟨qb, 1, none⟩ = some (.slice none 0 0) ∧ ∀ o, w.frozen? ⟨qb, o, none⟩ = false := ⟨by simp [World.cell?, h.blk], by simp [World.cell?, h.blk], fun o => by simp [World.frozen?, h.blk]⟩
theorem QBlk.set {qb : Nat} {w : World} (h : QBlk qb w) (x y : Value) : ((w.setCell ⟨qb, 0, none⟩ x).setCell ⟨qb, 1, none⟩ y).cell? ⟨qb, 0, none⟩ = some x ∧ ((w.setCell ⟨qb, 0, none⟩ x).setCell ⟨qb, 1, none⟩ y).cell? ⟨qb, 1, none⟩ = some y := by
  have hb : ((w.setCell ⟨qb, 0, none⟩ x).setCell ⟨qb, 1, none⟩ y).heap[qb]? = some (.cells #[x, y] 26) := by rw [set_at (set_at h.blk x) y]; rfl
  exact ⟨by simp [World.cell?, hb], by simp [World.cell?, hb]⟩
set_option maxHeartbeats 4000000 in
theorem Unpack_any (N : Nat) (v : Value) (xs : List Nat) (w : World) (hrow : Cd.Row N w v xs) (hN : N ≤ w.heap.size) (hx : ∀ x ∈ xs, x < 256) (hl : xs.length ≤ 140737488355328) (hT : Tabs w) :
    Calls Tryz.prog 6 #[v] w fun e w' => UnpackSays w w' xs e := by
  obtain ⟨qb, hqb⟩ : ∃ qb, qb = w.heap.size := ⟨_, rfl⟩
  obtain ⟨W0, hW0⟩ : ∃ W0, W0 = w.alloc (.cells #[.int .i64 0, .slice none 0 0] 26) := ⟨_, rfl⟩
  have hb0 : Below w.heap.size w W0 := by rw [hW0]; exact (Below.refl _ w).alloc (Nat.le_refl _) _
  have hq0 : QBlk qb W0 := ⟨by rw [hW0, hqb]; exact alloc_newP _ _⟩
  have HQB : Hid (w.heap.size ≤ qb) := by show _ ≤ _; omega
  have HB0 : Hid (Below w.heap.size w W0) := hb0
  have HQ0 : Hid (QBlk qb W0) := hq0
  have HT : Hid (Tabs w) := hT
  have HRC : Hid (Calls Tryz.prog 19 #[v] W0 fun x w' => ∃ rb, x = .returned (.pointer (some ⟨rb, 0, none⟩)) ∧ W0.heap.size ≤ rb ∧ Cd.Rd w' rb xs 0 ∧ Below W0.heap.size W0 w') := Cd.codecRead_any N v xs W0 (hrow.below (hb0.mono hN)) hx hl
  clear hrow hT hb0 hq0
  go_enter Tryz.func6, Tryz.ntmps6
  go_upto_region 1 with fail
  rw [← hW0, ← hqb]
  clear hW0 hqb
  go_upto_region 2 with (go_at_call 19; refine HRC.out.mono ?_; rintro e w1 ⟨rb, rfl, hrb, hr1, hb1⟩; have HR1 : Hid (Cd.Rd w1 rb xs 0) := hr1; have HB1 : Hid (Below W0.heap.size W0 w1) := hb1; have HRB : Hid (W0.heap.size ≤ rb) := hrb; clear hr1 hb1 hrb)
  go_upto_region 3 with (go_at_call 20; refine (readMachine_any rb w1 xs HR1.out).mono ?_; rintro e w2 ⟨vs, rfl, hrs⟩; obtain ⟨vd, vc, hvs⟩ := hrs.row.shape; subst hvs; have HRS : Hid (ReadSays rb w1 w2 xs (.slice vd (rdAll xs).2.1.length vc)) := hrs; clear hrs)
  obtain ⟨mn, hmn⟩ : ∃ mn, (rdAll xs).2.1.length = mn := ⟨_, rfl⟩
  have HMN : Hid ((rdAll xs).2.1.length = mn) := hmn
  rw [hmn] at HRS ⊢
  clear hmn
  obtain ⟨mb, hmb⟩ : ∃ mb, mb = w2.heap.size := ⟨_, rfl⟩
  obtain ⟨bs, hbs⟩ : ∃ bs, (rdAll xs).1 = bs := ⟨_, rfl⟩
  have HBS : Hid ((rdAll xs).1 = bs) := hbs
  rw [hbs]
  clear hbs
  obtain ⟨W2, hW2⟩ : ∃ W2, W2 = w2.alloc (.cells #[.int .i64 (bs : Int), .slice vd mn vc] 26) := ⟨_, rfl⟩
  have hbl2 : Below w2.heap.size w2 W2 := by rw [hW2]; exact (Below.refl _ w2).alloc (Nat.le_refl _) _
  have hm2 : W2.heap[mb]? = some (.cells #[.int .i64 (bs : Int), .slice vd mn vc] 26) := by rw [hW2, hmb]; exact alloc_newP _ _
  have hW0w2 : Below W0.heap.size W0 w2 := by
    have h1 := HRS.out.but
    have h2 := HB1.out
    exact ⟨h1.os.trans h2.os, h1.tape.trans h2.tape, h1.output.trans h2.output, Nat.le_trans h2.size h1.size, fun j hj => (h1.block j (Nat.lt_of_lt_of_le hj h2.size) (by have := HRB.out; omega)).trans (h2.block j hj)⟩
  have hBW2 : Below W0.heap.size W0 W2 := hW0w2.trans (hbl2.mono hW0w2.size)
  have HBW : Hid (Below W0.heap.size W0 W2) := hBW2
  have HQ2 : Hid (QBlk qb W2) := ⟨(hBW2.block qb (Array.getElem?_eq_some_iff.1 HQ0.out.blk).1).trans HQ0.out.blk⟩
  have HRD2 : Hid (Cd.Rd W2 rb (rdAll xs).2.2.1 (rdAll xs).2.2.2) := HRS.out.rd.but hbl2
  have HM2 : Hid (W2.heap[mb]? = some (.cells #[.int .i64 (bs : Int), .slice vd mn vc] 26)) := hm2
  have HRow : Hid (MRow w1.heap.size W2 (.slice vd mn vc) (rdAll xs).2.1) := HRS.out.row.below hbl2
  have HEN : Hid (Calls Tryz.prog 21 #[.pointer (some ⟨rb, 0, none⟩)] W2 fun x w' => x = .returned (.int .i64 (Cd.endE (rdAll xs).2.2.1.length (rdAll xs).2.2.2)) ∧ ∃ n, w' = W2.drewN n) := Cd.End_any rb _ _ W2 HRD2.out
  have hww : Below w.heap.size w W2 := HB0.out.trans (hBW2.mono HB0.out.size)
  have HWW : Hid (Below w.heap.size w W2) := hww
  rw [← hmb, ← hW2]
  clear hmb hW2 hbl2 hm2 hW0w2 hBW2 hww
  obtain ⟨EE, hEE⟩ : ∃ EE, Cd.endE (rdAll xs).2.2.1.length (rdAll xs).2.2.2 = EE := ⟨_, rfl⟩
  rw [hEE] at HEN
  by_cases he : EE = 0
  · have hgood : goodB xs = rightB (bs : Int) (rdAll xs).2.1 := by
      unfold goodB
      rw [he] at hEE
      unfold Cd.endE at hEE
      split at hEE
      · cases hEE
      · rename_i hn
        have h1 : (rdAll xs).2.2.1 = [] := List.eq_nil_of_length_eq_zero (by
          apply Decidable.byContradiction
          intro h
          exact hn ⟨hEE, by omega⟩)
        rw [decide_eq_true hEE, decide_eq_true h1, HBS.out]
        rfl
    have HGD : Hid (goodB xs = rightB (bs : Int) (rdAll xs).2.1) := hgood
    clear hgood hEE
    subst he
    have HRI : Hid (∀ n, Calls Tryz.prog 22 #[.agg #[.int .i64 (bs : Int), .slice vd mn vc]] (W2.drewN n) fun e w' => e = .returned (.bool (rightB (bs : Int) (rdAll xs).2.1)) ∧ Below W2.heap.size W2 w') := fun n => by
      have hb : Below W2.heap.size W2 (W2.drewN n) := belowN (Below.refl _ W2) n
      have hlen := HRS.out.len
      refine (Right_any W2.heap.size (W2.drewN n) (bs : Int) (rdAll xs).2.1 _ ((HRow.out.sts HRS.out.mb (by omega)).below hb) (Nat.le_refl _) (HT.out.below (HWW.out.trans (hb.mono HWW.out.size))) (by omega)).mono ?_
      rintro e w' ⟨rfl, h2⟩
      exact ⟨rfl, hb.trans h2⟩
    have hmc : ∀ n, (W2.drewN n).cell? ⟨mb, 0, none⟩ = some (.int .i64 (bs : Int)) ∧ (W2.drewN n).cell? ⟨mb, 1, none⟩ = some (.slice vd mn vc) := fun n => by
      have hm := HM2.out
      exact ⟨by simp [World.cell?, hm], by simp [World.cell?, hm]⟩
    have HMC : Hid _ := hmc
    obtain ⟨R, hR⟩ : ∃ R, rightB (bs : Int) (rdAll xs).2.1 = R := ⟨_, rfl⟩
    rw [hR] at HRI HGD
    clear hR hmc
    cases R with
    | false =>
      go_upto_region 4 with (first
        | (go_at_call 21; refine HEN.out.mono ?_; rintro e w3 ⟨rfl, nq, rfl⟩; obtain ⟨c0, c1⟩ := HMC.out nq)
        | (go_at_call 22; refine (HRI.out _).mono ?_; rintro e w4 ⟨rfl, hb4⟩; have HB4 : Hid (Below W2.heap.size W2 w4) := hb4; clear hb4))
      have HQ9 : Hid (QBlk qb w4) := ⟨(HB4.out.block qb (Array.getElem?_eq_some_iff.1 HQ2.out.blk).1).trans HQ2.out.blk⟩
      have HB9 : Hid (Below w.heap.size w w4) := HWW.out.trans (HB4.out.mono HWW.out.size)
      have HG : Hid (goodB xs = false) := HGD
      obtain ⟨u0, u1, u2⟩ := HQ9.out.facts
      go_wp2
      try simp only [Exit.inBlock, Exit.then]
      obtain ⟨z0, z1⟩ := HQ9.out.set (.int .i64 0) (.slice none 0 0)
      refine bodyPost_ret (up_results rfl z0 z1) rfl ?_
      exact ⟨(HB9.out.setCell (p := ⟨qb, 0, none⟩) HQB.out _).setCell (p := ⟨qb, 1, none⟩) HQB.out _, fun _ => rfl, fun h => (by rw [HG.out] at h; cases h), HRS.out.mb, HRS.out.len⟩
    | true =>
      go_upto_region 5 with (first
        | (go_at_call 21; refine HEN.out.mono ?_; rintro e w3 ⟨rfl, nq, rfl⟩; obtain ⟨c0, c1⟩ := HMC.out nq)
        | (go_at_call 22; refine (HRI.out _).mono ?_; rintro e w4 ⟨rfl, hb4⟩; have HB4 : Hid (Below W2.heap.size W2 w4) := hb4; clear hb4))
      have HQ9 : Hid (QBlk qb w4) := ⟨(HB4.out.block qb (Array.getElem?_eq_some_iff.1 HQ2.out.blk).1).trans HQ2.out.blk⟩
      have HB9 : Hid (Below w.heap.size w w4) := HWW.out.trans (HB4.out.mono HWW.out.size)
      have hm4 : w4.heap[mb]? = some (.cells #[.int .i64 (bs : Int), .slice vd mn vc] 26) := (HB4.out.block mb (Array.getElem?_eq_some_iff.1 HM2.out).1).trans HM2.out
      have d0 : w4.cell? ⟨mb, 0, none⟩ = some (.int .i64 (bs : Int)) := by simp [World.cell?, hm4]
      have d1 : w4.cell? ⟨mb, 1, none⟩ = some (.slice vd mn vc) := by simp [World.cell?, hm4]
      have HRow4 : Hid (MRow w1.heap.size w4 (.slice vd mn vc) (rdAll xs).2.1) := HRow.out.below HB4.out
      obtain ⟨u0, u1, u2⟩ := HQ9.out.facts
      clear c0 c1 hm4
      go_wp2
      try simp only [Exit.inBlock, Exit.then]
      obtain ⟨z0, z1⟩ := HQ9.out.set (.int .i64 (bs : Int)) (.slice vd mn vc)
      refine bodyPost_ret (up_results rfl z0 z1) rfl ?_
      have he9 : ∀ j, j ≠ qb → ((w4.setCell ⟨qb, 0, none⟩ (.int .i64 (bs : Int))).setCell ⟨qb, 1, none⟩ (.slice vd mn vc)).heap[j]? = w4.heap[j]? := fun j hj => (set_other _ _ _ _ hj).trans (set_other _ _ _ _ hj)
      have hne : ∀ (j : Nat) (cur : Array Value) (T : TypeId), w4.heap[j]? = some (Obj.cells cur T (0, 0)) → T ≠ 26 → j ≠ qb := fun j cur T hj hT e => by
        rw [e, HQ9.out.blk] at hj
        simp only [Option.some.injEq, Obj.cells.injEq] at hj
        exact hT hj.2.1.symm
      have hw1 : w.heap.size ≤ w1.heap.size := Nat.le_trans HB0.out.size HB1.out.size
      refine ⟨(HB9.out.setCell (p := ⟨qb, 0, none⟩) HQB.out _).setCell (p := ⟨qb, 1, none⟩) HQB.out _, fun h => (by rw [HGD.out] at h; cases h), fun _ => ⟨_, by rw [HBS.out]; rfl, ?_⟩, HRS.out.mb, HRS.out.len⟩
      have hr5 := HRow4.out.same (fun j cur _ hc _ => he9 j (hne j cur _ hc (by decide))) (fun j cur _ hc => he9 j (hne j cur _ hc (by decide)))
      obtain ⟨xss, x1, x2, x3⟩ := hr5.ex
      exact ⟨xss, x1.mono hw1, x2, fun i s hi => by obtain ⟨va, y1, y2⟩ := x3 i s hi; exact ⟨va, y1, y2.mono hw1⟩⟩
  · have HG : Hid (goodB xs = false) := by
      show _ = _
      unfold goodB
      unfold Cd.endE at hEE
      split at hEE
      · rename_i hn
        rw [decide_eq_false (p := (rdAll xs).2.2.1 = []) (fun e => by rw [e] at hn; simp at hn)]
        simp
      · rw [decide_eq_false (fun e => he (hEE.symm.trans e))]
        rfl
    have h1b : (EE == 0) = false := beq_eq_false_iff_ne.2 he
    have h1n : (EE != 0) = true := by simp [bne, h1b]
    clear hEE
    go_upto_region 4 with (go_at_call 21; refine HEN.out.mono ?_; rintro e w3 ⟨rfl, nq, rfl⟩)
    have HQ9 : Hid (QBlk qb (W2.drewN nq)) := ⟨HQ2.out.blk⟩
    have HB9 : Hid (Below w.heap.size w (W2.drewN nq)) := belowN HWW.out nq
    obtain ⟨u0, u1, u2⟩ := HQ9.out.facts
    go_wp2
    try simp only [Exit.inBlock, Exit.then]
    obtain ⟨z0, z1⟩ := HQ9.out.set (.int .i64 0) (.slice none 0 0)
    refine bodyPost_ret (up_results rfl z0 z1) rfl ?_
    exact ⟨(HB9.out.setCell (p := ⟨qb, 0, none⟩) HQB.out _).setCell (p := ⟨qb, 1, none⟩) HQB.out _, fun _ => rfl, fun h => (by rw [HG.out] at h; cases h), HRS.out.mb, HRS.out.len⟩
end Go.Proofs.YtllmdfkiogmofaaGreatDoor

/- Bytes of machines: their size, and what a machine's bytes cut or grown are. -/
namespace Go.Proofs.YtllmdfkiogmofaaGreatDoor.Pk
open Go.Proofs.YtllmdfkiogmofaaGreatDoor.Nums Go.Proofs.YtllmdfkiogmofaaGreatDoor.Fm Go.Proofs.YtllmdfkiogmofaaGreatDoor
open Go.Proofs.YtllmdfkiogmofaaGreatDoor.Cd (uw uw_byte uw_len10)

theorem putA_byte : ∀ (l : List RArc) (n p : Int), ∀ x ∈ putA n p l, x < 256
  | [], _, _, x, h => by simp [putA] at h
  | a :: r, n, p, x, h => by
    simp only [putA, List.mem_append] at h
    rcases h with h | h | h | h
    · exact uw_byte _ x h
    · exact uw_byte _ x h
    · exact uw_byte _ x h
    · exact putA_byte r n _ x h
theorem putS_byte (s : RSt) (n : Nat) : ∀ x ∈ putS s n, x < 256 := by
  intro x h
  simp only [putS, List.mem_append] at h
  rcases h with h | h | h
  · exact uw_byte _ x h
  · split at h
    · exact uw_byte _ x h
    · cases h
  · exact putA_byte _ _ _ x h
theorem putM_byte : ∀ (m : List RSt) (i : Nat), ∀ x ∈ putM i m, x < 256
  | [], _, x, h => by simp [putM] at h
  | s :: r, i, x, h => by
    simp only [putM, List.mem_append] at h
    rcases h with h | h
    · exact putS_byte s i x h
    · exact putM_byte r _ x h
theorem packB_byte (base : Int) (m : List RSt) : ∀ x ∈ packB base m, x < 256 := by
  intro x h
  simp only [packB, List.mem_append] at h
  rcases h with h | h | h
  · exact uw_byte _ x h
  · exact uw_byte _ x h
  · exact putM_byte _ _ x h
theorem good_built {l : List Pr} (h : buildE l = 0) : goodB (packB (machOf l).1 ((machOf l).2.map ofSt)) = true ∧ ((rdAll (packB (machOf l).1 ((machOf l).2.map ofSt))).1 : Int) = (machOf l).1 ∧ (rdAll (packB (machOf l).1 ((machOf l).2.map ofSt))).2.1 = (machOf l).2.map ofSt := by
  have h1 := rd_built h []
  have hb := built_base h
  rw [List.append_nil] at h1
  unfold goodB
  rw [h1]
  have e : (((machOf l).1.toNat : Nat) : Int) = (machOf l).1 := by omega
  refine ⟨?_, e, rfl⟩
  simp only [e, built_right h, decide_true, Bool.and_self]
theorem good_facts {xs : List Nat} (hx : ∀ x ∈ xs, x < 256) (h : goodB xs = true) : packB ((rdAll xs).1 : Int) (rdAll xs).2.1 = xs ∧ rightB ((rdAll xs).1 : Int) (rdAll xs).2.1 = true ∧ (rdAll xs).2.1.length ≤ 98305 := by
  unfold goodB at h
  simp only [Bool.and_eq_true, decide_eq_true_eq] at h
  obtain ⟨⟨h1, h2⟩, h3⟩ := h
  obtain ⟨g1, g2⟩ := rdAll_back hx h1
  rw [h2, List.append_nil] at g1
  exact ⟨g1, h3, g2⟩
end Go.Proofs.YtllmdfkiogmofaaGreatDoor.Pk
