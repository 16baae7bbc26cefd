/- The reference's Unpack. -/
import Derived.Test.YtllmdfkiogmofaaGreatDoorUfB
import Derived.Test.YtllmdfkiogmofaaGreatDoorG6
import Derived.Test.YtllmdfkiogmofaaGreatDoorGc
import Derived.Test.YtllmdfkiogmofaaGreatDoorUnlM
namespace Go.Proofs.YtllmdfkiogmofaaGreatDoor
open Go.RowKit Nums Fm Pk
set_option maxRecDepth 100000

/-- What the reference's Unpack says. -/
structure RUSays (w w' : World) (xs : List Nat) (e : Ending) : Prop where
  bel : Below w.heap.size w w'
  no : fineB xs = false → e = .returned (.tuple #[.agg #[.int .i64 0, .slice none 0 0], .int .i64 80])
  yes : fineB xs = true → ∃ vs m st, uqAll xs = some (m, st) ∧ e = .returned (.tuple #[.agg #[.int .i64 ((uqB xs).1 : Int), vs], .int .i64 0]) ∧ MRow w.heap.size w' vs m
theorem UW.start (w : World) (vb : Value) : UW w (((w.alloc (.cells #[.int .i64 0, .slice none 0 0] 26)).alloc (.cells #[vb, .int .i64 0, .int .i64 0] 55)).alloc (.cells #[.int .i64 0, .slice none 0 0] 26)) w.heap.size (w.heap.size + 1) (w.heap.size + 1 + 1) vb 0 0 0 (.slice none 0 0) [] := by
  obtain ⟨A1, hA1⟩ : ∃ A1, A1 = w.alloc (.cells #[.int .i64 0, .slice none 0 0] 26) := ⟨_, rfl⟩
  obtain ⟨A2, hA2⟩ : ∃ A2, A2 = A1.alloc (.cells #[vb, .int .i64 0, .int .i64 0] 55) := ⟨_, rfl⟩
  obtain ⟨A3, hA3⟩ : ∃ A3, A3 = A2.alloc (.cells #[.int .i64 0, .slice none 0 0] 26) := ⟨_, rfl⟩
  have b1 : Below w.heap.size w A1 := by rw [hA1]; exact (Below.refl _ w).alloc (Nat.le_refl _) _
  have b2 : Below A1.heap.size A1 A2 := by rw [hA2]; exact (Below.refl _ A1).alloc (Nat.le_refl _) _
  have b3 : Below A2.heap.size A2 A3 := by rw [hA3]; exact (Below.refl _ A2).alloc (Nat.le_refl _) _
  have s1 : A1.heap.size = w.heap.size + 1 := by rw [hA1]; simp
  have s2 : A2.heap.size = w.heap.size + 1 + 1 := by rw [hA2, ← s1]; simp
  have n1 : A1.heap[w.heap.size]? = some (.cells #[.int .i64 0, .slice none 0 0] 26 (0, 0)) := by rw [hA1]; exact alloc_newP _ _
  have n2 : A2.heap[w.heap.size + 1]? = some (.cells #[vb, .int .i64 0, .int .i64 0] 55 (0, 0)) := by rw [hA2, ← s1]; exact alloc_newP _ _
  have n3 : A3.heap[w.heap.size + 1 + 1]? = some (.cells #[.int .i64 0, .slice none 0 0] 26 (0, 0)) := by rw [hA3, ← s2]; exact alloc_newP _ _
  rw [← hA1, ← hA2, ← hA3]
  exact ⟨b1.trans ((b2.mono b1.size).trans (b3.mono (Nat.le_trans b1.size b2.size))), Nat.le_refl _, by omega, by omega, by omega, (b3.block _ (by omega)).trans ((b2.block _ (by omega)).trans n1), (b3.block _ (by omega)).trans n2, n3, MRow.nil _ _⟩
theorem IW.fresh {W0 W : World} {rb sb : Nat} {vb va : Value} {n : Nat} {e : Int} {fn : Bool} {ot : Int} {arcs : List RArc} (h : IW W0 W rb vb n e sb fn ot va arcs) (n' : Nat) (e' : Int) : IW W0 (W.alloc (.cells #[vb, .int .i64 (n' : Int), .int .i64 e'] 55)) rb vb n e sb fn ot va arcs ∧ RB (W.alloc (.cells #[vb, .int .i64 (n' : Int), .int .i64 e'] 55)) W.heap.size vb n' e' ∧ W0.heap.size ≤ W.heap.size :=
  ⟨h.below ((Below.refl _ W).alloc (Nat.le_refl _) _), alloc_newP _ _, h.but.size⟩
theorem ru_results {tmps : Array Value} {w : World} {qb : Nat} {a b : Value} (h2 : tmps.getD 2 undef = .pointer (some ⟨qb, 0, none⟩)) (c0 : w.cell? ⟨qb, 0, none⟩ = some a) (c1 : w.cell? ⟨qb, 1, none⟩ = some b) : (results Tryz.f7 tmps).run Tryz.prog w = .ok (.tuple #[.agg #[a, b], tmps.getD 3 undef]) w := by
  have h2' : tmps[2]?.getD undef = .pointer (some ⟨qb, 0, none⟩) := by simpa using h2
  simp [results, Tryz.results7, go_sem, h2', c0, c1]
theorem UW.all {w W : World} {qb rb mb : Nat} {vb vs : Value} {n : Nat} {e base : Int} {m : List RSt} (h : UW w W qb rb mb vb n e base vs m) : W.cell? ⟨mb, 0, none⟩ = some (.int .i64 base) ∧ W.cell? ⟨mb, 1, none⟩ = some vs ∧ W.cell? ⟨rb, 0, none⟩ = some vb ∧ W.cell? ⟨rb, 1, none⟩ = some (.int .i64 (n : Int)) ∧ W.cell? ⟨rb, 2, none⟩ = some (.int .i64 e) :=
  ⟨h.facts.1, h.facts.2.1, h.rd.facts.1, h.rd.facts.2.1, h.rd.facts.2.2.1⟩
set_option maxHeartbeats 8000000 in
theorem refUnpack_any (w : World) (vb : Value) (xs : List Nat) (hrow : Cd.Row w.heap.size w vb xs) (hx : ∀ x ∈ xs, x < 256) (hl : xs.length ≤ 2000) :
    Calls Tryz.prog 7 #[vb] w fun e w' => RUSays w w' xs e := by
  obtain ⟨ao, cap, rfl, hcap⟩ := hrow.shape
  obtain ⟨N, hN⟩ : ∃ N, xs.length = N := ⟨_, rfl⟩
  have HN : Hid (xs.length = N) := hN
  rw [hN] at hrow hl ⊢
  have HG : Hid (∀ (W : World) (n : Nat) (e : Int) (most : Nat), Below w.heap.size w W → n ≤ N → Calls Tryz.prog 23 #[Cd.rv (.slice ao N cap) n e, .int .u64 (most : Int)] W fun x w' => ∃ (n' v : Nat) (e' : Int), x = .returned (.tuple #[Cd.rv (.slice ao N cap) n' e', .int .u64 (v : Int)]) ∧ Hid (rU (xs.drop n, e) most = (v, (xs.drop n', e'))) ∧ v ≤ most ∧ n' ≤ N ∧ Below W.heap.size W w') := fun W n e most hb hn => by
    have := getU w W (.slice ao N cap) xs n e most hrow hb (by omega) hx (by omega)
    rw [hN] at this
    refine this.mono ?_
    rintro x w' ⟨n', v, rfl, h1, h2, h3, h4, h5⟩
    exact ⟨n', v, _, rfl, by show _ = _; rw [h1, h3], h2, h4, h5⟩
  have HROW : Hid (Cd.Row w.heap.size w (.slice ao N cap) xs) := hrow
  have HX : Hid (∀ x ∈ xs, x < 256) := hx
  obtain ⟨qb, hqb⟩ : ∃ qb, w.heap.size = qb := ⟨_, rfl⟩
  obtain ⟨W1, hW1⟩ : ∃ W1, ((w.alloc (.cells #[.int .i64 0, .slice none 0 0] 26)).alloc (.cells #[.slice ao N cap, .int .i64 0, .int .i64 0] 55)).alloc (.cells #[.int .i64 0, .slice none 0 0] 26) = W1 := ⟨_, rfl⟩
  have HU1 : Hid (UW w W1 qb (qb + 1) (qb + 1 + 1) (.slice ao N cap) 0 0 0 (.slice none 0 0) []) := by rw [← hW1, ← hqb]; exact UW.start w _
  clear hrow hx hN hcap
  go_enter Tryz.func7, Tryz.ntmps7
  go_upto_region 3 with fail
  clear hW1 hqb
  generalize qb + 1 + 1 = mb at *
  generalize qb + 1 = rb at *
  obtain ⟨m0, m1, m2, q0, q1, q2⟩ := HU1.out.facts
  obtain ⟨r0, r1, r2, r3⟩ := HU1.out.rd.facts
  go_upto_region 4 with (go_at_call 23; refine (HG.out W1 0 0 1048576 HU1.out.bel (Nat.zero_le _)).mono ?_; rintro e V1 ⟨n1, v1, e1, rfl, HR1, hv1, hn1, hb1⟩; have HV1 : Hid (UW w V1 qb rb mb (.slice ao N cap) 0 0 0 (.slice none 0 0) []) := HU1.out.below hb1; clear hb1 m0 m1 m2 q0 q1 q2 r0 r1 r2 r3; obtain ⟨m0, m1, m2, q0, q1, q2⟩ := HV1.out.facts; obtain ⟨r0, r1, r2, r3⟩ := HV1.out.rd.facts)
  obtain ⟨V2, hV2⟩ : ∃ V2, ((V1.setCell ⟨rb, 0, none⟩ (.slice ao N cap)).setCell ⟨rb, 1, none⟩ (.int .i64 (n1 : Int))).setCell ⟨rb, 2, none⟩ (.int .i64 e1) = V2 := ⟨_, rfl⟩
  have HU2 : Hid (UW w V2 qb rb mb (.slice ao N cap) n1 e1 0 (.slice none 0 0) []) := by rw [← hV2]; exact HV1.out.put n1 e1
  rw [hV2]
  clear hV2 m0 m1 m2 q0 q1 q2 r0 r1 r2 r3
  obtain ⟨m0, m1, m2, q0, q1, q2⟩ := HU2.out.facts
  obtain ⟨r0, r1, r2, r3⟩ := HU2.out.rd.facts
  go_upto_region 5 with (go_at_call 23; refine (HG.out V2 n1 e1 98305 HU2.out.bel hn1).mono ?_; rintro e V3 ⟨n2, c, e2, rfl, HR2, hc, hn2, hb1⟩; have HV3 : Hid (UW w V3 qb rb mb (.slice ao N cap) n1 e1 0 (.slice none 0 0) []) := HU2.out.below hb1; clear hb1 m0 m1 m2 q0 q1 q2 r0 r1 r2 r3; obtain ⟨m0, m1, m2, q0, q1, q2⟩ := HV3.out.facts; obtain ⟨r0, r1, r2, r3⟩ := HV3.out.rd.facts)
  obtain ⟨V4, hV4⟩ : ∃ V4, ((V3.setCell ⟨rb, 0, none⟩ (.slice ao N cap)).setCell ⟨rb, 1, none⟩ (.int .i64 (n2 : Int))).setCell ⟨rb, 2, none⟩ (.int .i64 e2) = V4 := ⟨_, rfl⟩
  have HU4 : Hid (UW w V4 qb rb mb (.slice ao N cap) n2 e2 0 (.slice none 0 0) []) := by rw [← hV4]; exact HV3.out.put n2 e2
  rw [hV4]
  clear hV4 m0 m1 m2 q0 q1 q2 r0 r1 r2 r3
  obtain ⟨m0, m1, m2, q0, q1, q2⟩ := HU4.out.facts
  go_upto_region 6 with fail
  obtain ⟨V5, hV5⟩ : ∃ V5, V4.setCell ⟨mb, 0, none⟩ (.int .i64 (v1 : Int)) = V5 := ⟨_, rfl⟩
  have HU5 : Hid (UW w V5 qb rb mb (.slice ao N cap) n2 e2 (v1 : Int) (.slice none 0 0) []) := by rw [← hV5]; exact HU4.out.base' (v1 : Int)
  rw [hV5]
  clear hV5 m0 m1 m2 q0 q1 q2
  have HB : Hid ((uqB xs).1 = v1) := by show _ = _; have := HR1.out; rw [List.drop_zero] at this; rw [uqB, this]
  have HALL : Hid (uqAll xs = uqM N c 0 [] (xs.drop n2, e2)) := by
    show _ = _
    have := HR1.out
    rw [List.drop_zero] at this
    have h2 : uqC xs = (c, (xs.drop n2, e2)) := by rw [uqC, uqB, this]; exact HR2.out
    rw [uqAll, h2, HN.out]
  go_wp2
  go_loopg [8] c (fun gm s8 wr => ∃ (k n : Nat) (e : Int) (vs : Value) (m : List RSt), s8 = .int .i64 k ∧ k ≤ c ∧ c - k ≤ gm ∧ n ≤ N ∧ Hid (UW w wr qb rb mb (.slice ao N cap) n e (v1 : Int) vs m) ∧ Hid (uqAll xs = uqM N (c - k) k m (xs.drop n, e)) ∧ Hid (m.length = k ∧ MBr m))
  case atStart => exact ⟨0, n2, e2, _, [], rfl, Nat.zero_le _, by omega, hn2, HU5, HALL, ⟨rfl, fun s hs => by cases hs⟩⟩
  case round =>
    obtain ⟨k, n, e, vs, m, rfl, hk, hgm, hn, HU, HQ, HL⟩ := hrel
    generalize wr = WO at *
    obtain ⟨vd, vn, vc, hvv⟩ : ∃ vd vn vc, vs = .slice vd vn vc := by
      obtain ⟨ad, cap, e⟩ := HU.out.row.shape
      exact ⟨_, _, _, e⟩
    subst hvv
    obtain ⟨r0, r1, r2, r3⟩ := HU.out.rd.facts
    by_cases hlt : k < c
    · have hltz : (k : Int) < (c : Int) := by omega
      by_cases he : e = 0
      · subst he
        obtain ⟨sb, hsb⟩ : ∃ sb, WO.heap.size = sb := ⟨_, rfl⟩
        obtain ⟨W0, hW0⟩ : ∃ W0, WO.alloc (.cells #[.bool false, .int .i64 0, .slice none 0 0] 61) = W0 := ⟨_, rfl⟩
        have HI0 : Hid (IW WO W0 rb (.slice ao N cap) n 0 sb false 0 (.slice none 0 0) []) := by
          have hbl : Below WO.heap.size WO W0 := by rw [← hW0]; exact (Below.refl _ WO).alloc (Nat.le_refl _) _
          exact ⟨Cd.But.of_below hbl, HU.out.rd.lt, (hbl.block rb HU.out.rd.lt).trans HU.out.rd, by omega, by rw [← hW0, ← hsb]; exact alloc_newP _ _, GOwn.nil _ _ _ _⟩
        go_upto_region 10 with fail
        clear hsb hW0 r0 r1 r2 r3
        obtain ⟨s0, s1, s2, s3⟩ := HI0.out.facts
        obtain ⟨r0, r1, r2, r3⟩ := HI0.out.rd.facts
        have HBI : Hid (∀ {W n e fn ot va arcs}, IW WO W rb (.slice ao N cap) n e sb fn ot va arcs → Below w.heap.size w W) := fun h => HU.out.bel.trans (h.but.below HU.out.rlo HU.out.bel.size)
        obtain ⟨M, hM⟩ : ∃ M : Nat, 2 * N + 1 = M := ⟨_, rfl⟩
        have hM1 : IntKind.i64.wrap (2 * (N : Int)) = 2 * (N : Int) := by rw [IntKind.wrap_i64]; omega
        have hM2 : IntKind.i64.wrap (2 * (N : Int) + 1) = (M : Int) := by rw [IntKind.wrap_i64]; omega
        have hM3 : IntKind.u64.wrap (M : Int) = (M : Int) := by simp [IntKind.wrap, IntKind.bits, IntKind.signed]; omega
        go_upto_region 11 with (go_at_call 23; refine (HG.out W0 n 0 M (HBI.out HI0.out) hn).mono ?_; rintro e W3 ⟨n3, hd, e3, rfl, HR3, hhd, hn3, hb1⟩; have HI1 : Hid (IW WO W3 rb (.slice ao N cap) n 0 sb false 0 (.slice none 0 0) []) := HI0.out.below hb1; clear hb1 s0 s1 s2 s3 r0 r1 r2 r3; obtain ⟨s0, s1, s2, s3⟩ := HI1.out.facts; obtain ⟨r0, r1, r2, r3⟩ := HI1.out.rd.facts)
        obtain ⟨pb, hpb⟩ : ∃ pb, W3.heap.size = pb := ⟨_, rfl⟩
        obtain ⟨W4, hW4⟩ : ∃ W4, W3.alloc (.cells #[.slice ao N cap, .int .i64 (n3 : Int), .int .i64 e3] 55) = W4 := ⟨_, rfl⟩
        obtain ⟨hI4, hP4, _⟩ := HI1.out.fresh n3 e3
        rw [hW4, hpb] at hP4
        rw [hW4] at hI4
        have HI4 : Hid (IW WO W4 rb (.slice ao N cap) n 0 sb false 0 (.slice none 0 0) []) := hI4
        rw [hW4, hpb]
        clear hI4 hW4 hpb s0 s1 s2 s3 r0 r1 r2 r3
        obtain ⟨r0, r1, r2, r3⟩ := HI4.out.rd.facts
        obtain ⟨p0, p1, p2, p3⟩ := hP4.facts
        go_upto_region 12 with fail
        obtain ⟨W5, hW5⟩ : ∃ W5, ((W4.setCell ⟨rb, 0, none⟩ (.slice ao N cap)).setCell ⟨rb, 1, none⟩ (.int .i64 (n3 : Int))).setCell ⟨rb, 2, none⟩ (.int .i64 e3) = W5 := ⟨_, rfl⟩
        have HI5 : Hid (IW WO W5 rb (.slice ao N cap) n3 e3 sb false 0 (.slice none 0 0) []) := by rw [← hW5]; exact HI4.out.put n3 e3
        rw [hW5]
        clear hW5 hP4 r0 r1 r2 r3 p0 p1 p2 p3
        obtain ⟨s0, s1, s2, s3⟩ := HI5.out.facts
        by_cases hpar : hd % 2 = 1
        · have hpz : (hd : Int) % 2 = 1 := by omega
          go_upto_region 13 with fail
          obtain ⟨W6, hW6⟩ : ∃ W6, W5.setCell ⟨sb, 0, none⟩ (.bool true) = W6 := ⟨_, rfl⟩
          have HI6 : Hid (IW WO W6 rb (.slice ao N cap) n3 e3 sb true 0 (.slice none 0 0) []) := by rw [← hW6]; exact HI5.out.set 0 (.bool true) rfl
          rw [hW6]
          clear hW6 s0 s1 s2 s3
          obtain ⟨s0, s1, s2, s3⟩ := HI6.out.facts
          obtain ⟨r0, r1, r2, r3⟩ := HI6.out.rd.facts
          go_upto_region 15 with (go_at_call 23; refine (HG.out W6 n3 e3 1048576 (HBI.out HI6.out) hn3).mono ?_; rintro e W7 ⟨n4, ot, e4, rfl, HR4, hot, hn4, hb1⟩; have HI7 : Hid (IW WO W7 rb (.slice ao N cap) n3 e3 sb true 0 (.slice none 0 0) []) := HI6.out.below hb1; clear hb1 s0 s1 s2 s3 r0 r1 r2 r3)
          obtain ⟨pb2, hpb⟩ : ∃ pb2, W7.heap.size = pb2 := ⟨_, rfl⟩
          obtain ⟨W8, hW8⟩ : ∃ W8, W7.alloc (.cells #[.slice ao N cap, .int .i64 (n4 : Int), .int .i64 e4] 55) = W8 := ⟨_, rfl⟩
          obtain ⟨hI8, hP8, _⟩ := HI7.out.fresh n4 e4
          rw [hW8, hpb] at hP8
          rw [hW8] at hI8
          have HI8 : Hid (IW WO W8 rb (.slice ao N cap) n3 e3 sb true 0 (.slice none 0 0) []) := hI8
          rw [hW8, hpb]
          clear hI8 hW8 hpb
          obtain ⟨r0, r1, r2, r3⟩ := HI8.out.rd.facts
          obtain ⟨p0, p1, p2, p3⟩ := hP8.facts
          go_upto_region 16 with fail
          obtain ⟨W9, hW9⟩ : ∃ W9, ((W8.setCell ⟨rb, 0, none⟩ (.slice ao N cap)).setCell ⟨rb, 1, none⟩ (.int .i64 (n4 : Int))).setCell ⟨rb, 2, none⟩ (.int .i64 e4) = W9 := ⟨_, rfl⟩
          have HI9 : Hid (IW WO W9 rb (.slice ao N cap) n4 e4 sb true 0 (.slice none 0 0) []) := by rw [← hW9]; exact HI8.out.put n4 e4
          rw [hW9]
          clear hW9 hP8 r0 r1 r2 r3 p0 p1 p2 p3
          obtain ⟨s0, s1, s2, s3⟩ := HI9.out.facts
          go_upto_region 17 with fail
          obtain ⟨WL, hWL⟩ : ∃ WL, W9.setCell ⟨sb, 1, none⟩ (.int .i64 (ot : Int)) = WL := ⟨_, rfl⟩
          have hIL : IW WO WL rb (.slice ao N cap) n4 e4 sb true (ot : Int) (.slice none 0 0) [] := by rw [← hWL]; exact HI9.out.set 1 (.int .i64 (ot : Int)) rfl
          rw [hWL]
          clear hWL s0 s1 s2 s3
          have HRO : Hid (rdO hd (xs.drop n3, e3) = (ot, (xs.drop n4, e4))) := by show _ = _; rw [rdO, if_pos hpar, HR4.out]
          obtain ⟨fn, hfn⟩ : ∃ fn : Bool, fn = true := ⟨_, rfl⟩
          have HDF : Hid (decide (hd % 2 = 1) = fn) := by show _ = _; rw [hfn]; exact decide_eq_true hpar
          obtain ⟨oz, hoz⟩ : ∃ oz : Int, oz = (ot : Int) := ⟨_, rfl⟩
          have HOZ : Hid (oz = (ot : Int) ∧ oz ≤ 1048576 ∧ 0 ≤ oz) := ⟨hoz, by omega, by omega⟩
          have HIL : Hid (IW WO WL rb (.slice ao N cap) n4 e4 sb fn oz (.slice none 0 0) []) := by rw [hfn, hoz]; exact hIL
          clear hIL hfn hoz hpar hpz
          obtain ⟨cc, hcc⟩ : ∃ cc, hd / 2 = cc := ⟨_, rfl⟩
          have hcz : (hd : Int) / 2 = (cc : Int) := by omega
          have HCC : Hid (hd / 2 = cc) := hcc
          have hcb : cc ≤ 2001 := by omega
          have HUS : Hid (uqS N k (xs.drop n, 0) = (uqA k cc 0 [] (xs.drop n4, e4)).map fun q => (⟨fn, oz, q.1⟩, q.2)) := by
            show _ = _
            have hh : uqH N (xs.drop n, 0) = (hd, (xs.drop n3, e3)) := by rw [uqH, hM]; exact HR3.out
            rw [uqS, hh]
            simp only
            rw [HRO.out]
            simp only
            rw [HDF.out, HCC.out, HOZ.out.1]
          have HQS : Hid (uqAll xs = match uqS N k (xs.drop n, 0) with | none => none | some q => uqM N (c - (k + 1)) (k + 1) (m ++ [q.1]) q.2) := by
            show _ = _
            rw [HQ.out, show c - k = c - (k + 1) + 1 by omega, uqM, if_neg (by simp)]
            cases uqS N k (xs.drop n, 0) <;> rfl
          go_wp2
          go_loopg [14, 15] cc (fun gm s14 s15 wi => ∃ (j nj : Nat) (ej p : Int) (va : Value) (arcs : List RArc), s15 = .int .i64 j ∧ j ≤ cc ∧ cc - j ≤ gm ∧ s14 = .int .i64 p ∧ 0 ≤ p ∧ p ≤ 1114111 ∧ nj ≤ N ∧ Hid (IW WO wi rb (.slice ao N cap) nj ej sb fn oz va arcs) ∧ Hid (uqA k cc 0 [] (xs.drop n4, e4) = uqA k (cc - j) p arcs (xs.drop nj, ej)) ∧ Hid (arcs.length ≤ j ∧ ∀ a ∈ arcs, OkRA a))
          case atStart => exact ⟨0, n4, e4, 0, _, [], rfl, Nat.zero_le _, by omega, rfl, by omega, by omega, hn4, HIL, rfl, ⟨Nat.le_refl _, fun a ha => by cases ha⟩⟩
          case round =>
            obtain ⟨j, nj, ej, p, va, arcs, rfl, hj, hgj, rfl, hp0, hp1, hnj, HI, HTryz, HLA⟩ := hrel
            generalize wr = wi at *
            obtain ⟨vad, van, vac, hvv⟩ : ∃ vd vn vc, va = .slice vd vn vc := by
              obtain ⟨ad, cap, e, _⟩ := GOwn.shape HI.out.row
              exact ⟨_, _, _, e⟩
            subst hvv
            obtain ⟨r0, r1, r2, r3⟩ := HI.out.rd.facts
            by_cases hltj : j < cc
            · have hltjz : (j : Int) < (cc : Int) := by omega
              by_cases hej : ej = 0
              · subst hej
                have HRD : Hid (uqA k cc 0 [] (xs.drop n4, e4) = uqA k (cc - (j + 1) + 1) p arcs (xs.drop nj, 0)) := by show _ = _; rw [HTryz.out, show cc - j = cc - (j + 1) + 1 by omega]
                go_upto_region 22 with (go_at_call 23; refine (HG.out wi nj 0 1114111 (HBI.out HI.out) hnj).mono ?_; rintro e Wa ⟨na, la, ea, rfl, HRa, hla, hna, hb1⟩; have HIa : Hid (IW WO Wa rb (.slice ao N cap) nj 0 sb fn oz (.slice vad van vac) arcs) := HI.out.below hb1; clear hb1 r0 r1 r2 r3)
                obtain ⟨tb, htb⟩ : ∃ tb, Wa.heap.size = tb := ⟨_, rfl⟩
                obtain ⟨Wb, hWb⟩ : ∃ Wb, Wa.alloc (.cells #[.slice ao N cap, .int .i64 (na : Int), .int .i64 ea] 55) = Wb := ⟨_, rfl⟩
                obtain ⟨hIb, hPb, htl⟩ := HIa.out.fresh na ea
                rw [hWb, htb] at hPb
                rw [hWb] at hIb
                rw [htb] at htl
                have HIb : Hid (IW WO Wb rb (.slice ao N cap) nj 0 sb fn oz (.slice vad van vac) arcs) := hIb
                have HPb : Hid (RB Wb tb (.slice ao N cap) na ea) := hPb
                rw [hWb, htb]
                clear hIb hPb hWb htb
                obtain ⟨p0, p1, p2, p3⟩ := HPb.out.facts
                go_upto_region 23 with (go_at_call 23; refine (HG.out Wb na ea 1048576 (HBI.out HIb.out) hna).mono ?_; rintro e Wc ⟨nb, lo, eb, rfl, HRb, hlo, hnb, hb1⟩; have HIc : Hid (IW WO Wc rb (.slice ao N cap) nj 0 sb fn oz (.slice vad van vac) arcs) := HIb.out.below hb1; have HPc : Hid (RB Wc tb (.slice ao N cap) na ea) := (hb1.block tb HPb.out.lt).trans HPb.out; clear hb1 p0 p1 p2 p3; obtain ⟨p0, p1, p2, p3⟩ := HPc.out.facts)
                obtain ⟨Wd, hWd⟩ : ∃ Wd, ((Wc.setCell ⟨tb, 0, none⟩ (.slice ao N cap)).setCell ⟨tb, 1, none⟩ (.int .i64 (nb : Int))).setCell ⟨tb, 2, none⟩ (.int .i64 eb) = Wd := ⟨_, rfl⟩
                have HId : Hid (IW WO Wd rb (.slice ao N cap) nj 0 sb fn oz (.slice vad van vac) arcs) := by rw [← hWd]; exact HIc.out.other HPc.out htl nb eb
                have HPd : Hid (RB Wd tb (.slice ao N cap) nb eb) := by rw [← hWd]; exact HPc.out.put _ nb eb
                rw [hWd]
                clear hWd p0 p1 p2 p3
                obtain ⟨p0, p1, p2, p3⟩ := HPd.out.facts
                go_upto_region 24 with (go_at_call 23; refine (HG.out Wd nb eb 98305 (HBI.out HId.out) hnb).mono ?_; rintro e We ⟨nc, lt, ec, rfl, HRc, hlt2, hnc, hb1⟩; have HIe : Hid (IW WO We rb (.slice ao N cap) nj 0 sb fn oz (.slice vad van vac) arcs) := HId.out.below hb1; have HPe : Hid (RB We tb (.slice ao N cap) nb eb) := (hb1.block tb HPd.out.lt).trans HPd.out; clear hb1 p0 p1 p2 p3; obtain ⟨p0, p1, p2, p3⟩ := HPe.out.facts)
                obtain ⟨Wf, hWf⟩ : ∃ Wf, ((We.setCell ⟨tb, 0, none⟩ (.slice ao N cap)).setCell ⟨tb, 1, none⟩ (.int .i64 (nc : Int))).setCell ⟨tb, 2, none⟩ (.int .i64 ec) = Wf := ⟨_, rfl⟩
                have HIf : Hid (IW WO Wf rb (.slice ao N cap) nj 0 sb fn oz (.slice vad van vac) arcs) := by rw [← hWf]; exact HIe.out.other HPe.out htl nc ec
                have HPf : Hid (RB Wf tb (.slice ao N cap) nc ec) := by rw [← hWf]; exact HPe.out.put _ nc ec
                rw [hWf]
                clear hWf p0 p1 p2 p3
                obtain ⟨p0, p1, p2, p3⟩ := HPf.out.facts
                obtain ⟨r0, r1, r2, r3⟩ := HIf.out.rd.facts
                go_upto_region 25 with fail
                obtain ⟨Wg, hWg⟩ : ∃ Wg, ((Wf.setCell ⟨rb, 0, none⟩ (.slice ao N cap)).setCell ⟨rb, 1, none⟩ (.int .i64 (nc : Int))).setCell ⟨rb, 2, none⟩ (.int .i64 ec) = Wg := ⟨_, rfl⟩
                have HIg : Hid (IW WO Wg rb (.slice ao N cap) nc ec sb fn oz (.slice vad van vac) arcs) := by rw [← hWg]; exact HIf.out.put nc ec
                rw [hWg]
                clear hWg p0 p1 p2 p3 r0 r1 r2 r3
                have hwl : IntKind.i64.wrap (p + (la : Int)) = p + (la : Int) := by rw [IntKind.wrap_i64]; omega
                by_cases hbig : p + (la : Int) > 1114111
                · have hbz : (1114111 : Int) < p + (la : Int) := hbig
                  have HNO : Hid (uqA k cc 0 [] (xs.drop n4, e4) = none) := by
                    show _ = _
                    rw [HRD.out, uqA, if_neg (by simp), HRa.out, if_pos hbig]
                  have hUg := HU.out.of HIg.out
                  obtain ⟨m0, m1, m2, q0, q1, q2⟩ := hUg.facts
                  go_wp2
                  try simp only [Exit.inBlock, Exit.then]
                  obtain ⟨z0, z1⟩ := (QBlk.mk hUg.res).set (.int .i64 0) (.slice none 0 0)
                  refine bodyPost_ret (ru_results rfl z0 z1) rfl ?_
                  have hnone : uqAll xs = none := by rw [HQS.out, HUS.out, HNO.out]; rfl
                  have hno : fineB xs = false := by unfold fineB; rw [hnone]
                  exact ⟨(hUg.bel.setCell (p := ⟨qb, 0, none⟩) hUg.qlo _).setCell (p := ⟨qb, 1, none⟩) hUg.qlo _, fun _ => rfl, fun h => by rw [hno] at h; cases h⟩
                · have hbz : ¬ (1114111 : Int) < p + (la : Int) := hbig
                  have hwr : IntKind.i32.wrap (p + (la : Int)) = p + (la : Int) := by simp [IntKind.wrap, IntKind.bits, IntKind.signed]; omega
                  have hwk : IntKind.i64.wrap ((k : Int) - (lt : Int)) = (k : Int) - (lt : Int) := by rw [IntKind.wrap_i64]; omega
                  obtain ⟨x, hx⟩ : ∃ x : RArc, x = ⟨p + (la : Int), (lo : Int), (k : Int) - (lt : Int)⟩ := ⟨_, rfl⟩
                  have HX2 : Hid (cellsRA x = [.int .i32 (p + (la : Int)), .int .i64 (lo : Int), .int .i64 ((k : Int) - (lt : Int))]) := by show _ = _; rw [hx]; rfl
                  have HRN : Hid (uqA k cc 0 [] (xs.drop n4, e4) = uqA k (cc - (j + 1)) (p + (la : Int)) (arcs ++ [x]) (xs.drop nc, ec)) := by
                    show _ = _
                    rw [HRD.out, uqA, if_neg (by simp), HRa.out, if_neg hbig]
                    simp only
                    rw [HRb.out]
                    simp only
                    rw [HRc.out, hx]
                  have HLX : Hid ((arcs ++ [x]).length ≤ j + 1 ∧ ∀ a ∈ arcs ++ [x], OkRA a) := by
                    refine ⟨by have := HLA.out.1; simp; omega, fun a ha => ?_⟩
                    rcases List.mem_append.1 ha with ha | ha
                    · exact HLA.out.2 a ha
                    · rw [List.mem_singleton.1 ha, hx]
                      simp only [OkRA, Fits32, Fits64]
                      omega
                  clear hx
                  obtain ⟨s0, s1, s2, s3⟩ := HIg.out.facts
                  go_wp2_with (at_builtin; refine append_g rtyA (by rfl) _ _ [.int .i32 (p + (la : Int)), .int .i64 (lo : Int), .int .i64 ((k : Int) - (lt : Int))] _ rfl WO.heap.size _ _ _ _ rfl HIg.out.row rfl rfl ⟨rfl, by simp [Value.oneCell']⟩ (by rw [List.length_map]; have := HLA.out.1; omega) HIg.out.but.size ?_; intro v7 w7 ho7 hb7 hg7; have ho8 : GOwn 63 3 WO.heap.size w7 v7 (arcs.map cellsRA ++ [cellsRA x]) := (by rw [HX2.out]; exact ho7); obtain ⟨hNX, hc2, hfz⟩ := HIg.out.arc ho8 hg7; have HNX : Hid (IW WO (w7.setCell ⟨sb, 2, none⟩ v7) rb (.slice ao N cap) nc ec sb fn oz v7 (arcs ++ [x])) := hNX; obtain ⟨a7, n7, c7, hv7⟩ : ∃ a n c, v7 = Value.slice a n c := (by obtain ⟨a, c, e, _⟩ := GOwn.shape ho7; exact ⟨_, _, _, e⟩); subst hv7; clear hNX ho7 ho8 hb7 hg7 s0 s1 s2 s3)
                  go_roundg (cc - (j + 1))
                  case measure => omega
                  case rel => exact ⟨j + 1, nc, ec, _, _, _, by go_num, by omega, Nat.le_refl _, rfl, by omega, by omega, hnc, HNX, HRN, HLX⟩
              · have h1b : (ej == 0) = false := beq_eq_false_iff_ne.2 hej
                have HF : Hid (uqA k cc 0 [] (xs.drop n4, e4) = some (arcs, (xs.drop nj, ej))) := by
                  show _ = _
                  rw [HTryz.out, show cc - j = (cc - j - 1) + 1 by omega, uqA, if_pos hej]
                have HUi : Hid (UW w wi qb rb mb (.slice ao N cap) nj ej (v1 : Int) (.slice vd vn vc) m) := HU.out.of HI.out
                obtain ⟨m0, m1, m2, q0, q1, q2⟩ := HUi.out.facts
                obtain ⟨s0, s1, s2, s3⟩ := HI.out.facts
                obtain ⟨xss, hX, hxl, hxe⟩ := HUi.out.row.ex
                have HXX : Hid (GOwn 61 3 w.heap.size wi (.slice vd vn vc) xss ∧ xss.length = m.length ∧ ∀ (i : Nat) (s : RSt), m[i]? = some s → ∃ va, xss[i]? = some [.bool s.final, .int .i64 s.out, va] ∧ GOwn 63 3 w.heap.size wi va (s.arcs.map cellsRA)) := ⟨hX, hxl, hxe⟩
                have HAR : Hid (GOwn 63 3 w.heap.size wi (.slice vad van vac) (arcs.map cellsRA)) := HI.out.row.mono HU.out.bel.size
                have HYtllmdfkiogmofaaGreatDoor : Hid (uqAll xs = uqM N (c - (k + 1)) (k + 1) (m ++ [⟨fn, oz, arcs⟩]) (xs.drop nj, ej)) := by show _ = _; rw [HQS.out, HUS.out, HF.out]; rfl
                have HLN : Hid ((m ++ [(⟨fn, oz, arcs⟩ : RSt)]).length = k + 1 ∧ MBr (m ++ [⟨fn, oz, arcs⟩])) := by
                  refine ⟨by have := HL.out.1; simp; omega, fun s hs => ?_⟩
                  rcases List.mem_append.1 hs with hs | hs
                  · exact HL.out.2 s hs
                  · rw [List.mem_singleton.1 hs]
                    exact ⟨HLA.out.2, by have := HLA.out.1; simp only; omega, HOZ.out.2.2, HOZ.out.2.1⟩
                clear hX hxl hxe
                go_wp2_with (at_builtin; refine append_g rtyS (by rfl) _ _ [.bool fn, .int .i64 oz, .slice vad van vac] _ rfl w.heap.size _ _ _ _ rfl HXX.out.1 rfl rfl ⟨rfl, by simp [Value.oneCell']⟩ (by have := HXX.out.2.1; have := HL.out.1; omega) HUi.out.bel.size ?_; intro v8 w8 ho8 hb8 hg8; obtain ⟨hNX, hc1, hfz⟩ := HUi.out.state (s := ⟨fn, oz, arcs⟩) HXX.out.1 HXX.out.2.1 HXX.out.2.2 HAR.out ho8 hg8; have HNX : Hid (UW w (w8.setCell ⟨mb, 1, none⟩ v8) qb rb mb (.slice ao N cap) nj ej (v1 : Int) v8 (m ++ [⟨fn, oz, arcs⟩])) := hNX; obtain ⟨a8, n8, c8, hv8⟩ : ∃ a n c, v8 = Value.slice a n c := (by obtain ⟨a, c, e, _⟩ := GOwn.shape ho8; exact ⟨_, _, _, e⟩); subst hv8; clear hNX ho8 hb8 hg8 m0 m1 m2 q0 q1 q2 s0 s1 s2 s3)
                go_roundg (c - (k + 1))
                case measure => omega
                case rel => exact ⟨k + 1, nj, ej, _, _, by go_num, by omega, Nat.le_refl _, hnj, HNX, HYtllmdfkiogmofaaGreatDoor, HLN⟩
            · have hltjz : ¬ (j : Int) < (cc : Int) := by omega
              have HF : Hid (uqA k cc 0 [] (xs.drop n4, e4) = some (arcs, (xs.drop nj, ej))) := by
                show _ = _
                rw [HTryz.out, show cc - j = 0 by omega, uqA]
              have HUi : Hid (UW w wi qb rb mb (.slice ao N cap) nj ej (v1 : Int) (.slice vd vn vc) m) := HU.out.of HI.out
              obtain ⟨m0, m1, m2, q0, q1, q2⟩ := HUi.out.facts
              obtain ⟨s0, s1, s2, s3⟩ := HI.out.facts
              obtain ⟨xss, hX, hxl, hxe⟩ := HUi.out.row.ex
              have HXX : Hid (GOwn 61 3 w.heap.size wi (.slice vd vn vc) xss ∧ xss.length = m.length ∧ ∀ (i : Nat) (s : RSt), m[i]? = some s → ∃ va, xss[i]? = some [.bool s.final, .int .i64 s.out, va] ∧ GOwn 63 3 w.heap.size wi va (s.arcs.map cellsRA)) := ⟨hX, hxl, hxe⟩
              have HAR : Hid (GOwn 63 3 w.heap.size wi (.slice vad van vac) (arcs.map cellsRA)) := HI.out.row.mono HU.out.bel.size
              have HYtllmdfkiogmofaaGreatDoor : Hid (uqAll xs = uqM N (c - (k + 1)) (k + 1) (m ++ [⟨fn, oz, arcs⟩]) (xs.drop nj, ej)) := by show _ = _; rw [HQS.out, HUS.out, HF.out]; rfl
              have HLN : Hid ((m ++ [(⟨fn, oz, arcs⟩ : RSt)]).length = k + 1 ∧ MBr (m ++ [⟨fn, oz, arcs⟩])) := by
                refine ⟨by have := HL.out.1; simp; omega, fun s hs => ?_⟩
                rcases List.mem_append.1 hs with hs | hs
                · exact HL.out.2 s hs
                · rw [List.mem_singleton.1 hs]
                  exact ⟨HLA.out.2, by have := HLA.out.1; simp only; omega, HOZ.out.2.2, HOZ.out.2.1⟩
              clear hX hxl hxe
              go_wp2_with (at_builtin; refine append_g rtyS (by rfl) _ _ [.bool fn, .int .i64 oz, .slice vad van vac] _ rfl w.heap.size _ _ _ _ rfl HXX.out.1 rfl rfl ⟨rfl, by simp [Value.oneCell']⟩ (by have := HXX.out.2.1; have := HL.out.1; omega) HUi.out.bel.size ?_; intro v8 w8 ho8 hb8 hg8; obtain ⟨hNX, hc1, hfz⟩ := HUi.out.state (s := ⟨fn, oz, arcs⟩) HXX.out.1 HXX.out.2.1 HXX.out.2.2 HAR.out ho8 hg8; have HNX : Hid (UW w (w8.setCell ⟨mb, 1, none⟩ v8) qb rb mb (.slice ao N cap) nj ej (v1 : Int) v8 (m ++ [⟨fn, oz, arcs⟩])) := hNX; obtain ⟨a8, n8, c8, hv8⟩ : ∃ a n c, v8 = Value.slice a n c := (by obtain ⟨a, c, e, _⟩ := GOwn.shape ho8; exact ⟨_, _, _, e⟩); subst hv8; clear hNX ho8 hb8 hg8 m0 m1 m2 q0 q1 q2 s0 s1 s2 s3)
              go_roundg (c - (k + 1))
              case measure => omega
              case rel => exact ⟨k + 1, nj, ej, _, _, by go_num, by omega, Nat.le_refl _, hnj, HNX, HYtllmdfkiogmofaaGreatDoor, HLN⟩
        · have hpz : (hd : Int) % 2 = 0 := by omega
          go_upto_region 13 with fail
          obtain ⟨W6, hW6⟩ : ∃ W6, W5.setCell ⟨sb, 0, none⟩ (.bool false) = W6 := ⟨_, rfl⟩
          have hIL : IW WO W6 rb (.slice ao N cap) n3 e3 sb false 0 (.slice none 0 0) [] := by rw [← hW6]; exact HI5.out.set 0 (.bool false) rfl
          rw [hW6]
          clear hW6 s0 s1 s2 s3
          obtain ⟨s0, s1, s2, s3⟩ := hIL.facts
          go_upto_region 17 with fail
          clear s0 s1 s2 s3
          obtain ⟨n4, hn4e⟩ : ∃ n4, n4 = n3 := ⟨_, rfl⟩
          obtain ⟨e4, he4⟩ : ∃ e4, e4 = e3 := ⟨_, rfl⟩
          obtain ⟨ot, hot⟩ : ∃ ot : Nat, ot = 0 := ⟨_, rfl⟩
          have hn4 : n4 ≤ N := by omega
          have HRO : Hid (rdO hd (xs.drop n3, e3) = (ot, (xs.drop n4, e4))) := by show _ = _; rw [rdO, if_neg hpar, hn4e, he4, hot]
          obtain ⟨fn, hfn⟩ : ∃ fn : Bool, fn = false := ⟨_, rfl⟩
          have HDF : Hid (decide (hd % 2 = 1) = fn) := by show _ = _; rw [hfn]; exact decide_eq_false hpar
          obtain ⟨oz, hoz⟩ : ∃ oz : Int, oz = 0 := ⟨_, rfl⟩
          have HOZ : Hid (oz = (ot : Int) ∧ oz ≤ 1048576 ∧ 0 ≤ oz) := ⟨by omega, by omega, by omega⟩
          have HIL : Hid (IW WO W6 rb (.slice ao N cap) n4 e4 sb fn oz (.slice none 0 0) []) := by rw [hfn, hoz, hn4e, he4]; exact hIL
          clear hIL hfn hoz hpar hpz hn4e he4 hot
          obtain ⟨cc, hcc⟩ : ∃ cc, hd / 2 = cc := ⟨_, rfl⟩
          have hcz : (hd : Int) / 2 = (cc : Int) := by omega
          have HCC : Hid (hd / 2 = cc) := hcc
          have hcb : cc ≤ 2001 := by omega
          have HUS : Hid (uqS N k (xs.drop n, 0) = (uqA k cc 0 [] (xs.drop n4, e4)).map fun q => (⟨fn, oz, q.1⟩, q.2)) := by
            show _ = _
            have hh : uqH N (xs.drop n, 0) = (hd, (xs.drop n3, e3)) := by rw [uqH, hM]; exact HR3.out
            rw [uqS, hh]
            simp only
            rw [HRO.out]
            simp only
            rw [HDF.out, HCC.out, HOZ.out.1]
          have HQS : Hid (uqAll xs = match uqS N k (xs.drop n, 0) with | none => none | some q => uqM N (c - (k + 1)) (k + 1) (m ++ [q.1]) q.2) := by
            show _ = _
            rw [HQ.out, show c - k = c - (k + 1) + 1 by omega, uqM, if_neg (by simp)]
            cases uqS N k (xs.drop n, 0) <;> rfl
          go_wp2
          go_loopg [14, 15] cc (fun gm s14 s15 wi => ∃ (j nj : Nat) (ej p : Int) (va : Value) (arcs : List RArc), s15 = .int .i64 j ∧ j ≤ cc ∧ cc - j ≤ gm ∧ s14 = .int .i64 p ∧ 0 ≤ p ∧ p ≤ 1114111 ∧ nj ≤ N ∧ Hid (IW WO wi rb (.slice ao N cap) nj ej sb fn oz va arcs) ∧ Hid (uqA k cc 0 [] (xs.drop n4, e4) = uqA k (cc - j) p arcs (xs.drop nj, ej)) ∧ Hid (arcs.length ≤ j ∧ ∀ a ∈ arcs, OkRA a))
          case atStart => exact ⟨0, n4, e4, 0, _, [], rfl, Nat.zero_le _, by omega, rfl, by omega, by omega, hn4, HIL, rfl, ⟨Nat.le_refl _, fun a ha => by cases ha⟩⟩
          case round =>
            obtain ⟨j, nj, ej, p, va, arcs, rfl, hj, hgj, rfl, hp0, hp1, hnj, HI, HTryz, HLA⟩ := hrel
            generalize wr = wi at *
            obtain ⟨vad, van, vac, hvv⟩ : ∃ vd vn vc, va = .slice vd vn vc := by
              obtain ⟨ad, cap, e, _⟩ := GOwn.shape HI.out.row
              exact ⟨_, _, _, e⟩
            subst hvv
            obtain ⟨r0, r1, r2, r3⟩ := HI.out.rd.facts
            by_cases hltj : j < cc
            · have hltjz : (j : Int) < (cc : Int) := by omega
              by_cases hej : ej = 0
              · subst hej
                have HRD : Hid (uqA k cc 0 [] (xs.drop n4, e4) = uqA k (cc - (j + 1) + 1) p arcs (xs.drop nj, 0)) := by show _ = _; rw [HTryz.out, show cc - j = cc - (j + 1) + 1 by omega]
                go_upto_region 22 with (go_at_call 23; refine (HG.out wi nj 0 1114111 (HBI.out HI.out) hnj).mono ?_; rintro e Wa ⟨na, la, ea, rfl, HRa, hla, hna, hb1⟩; have HIa : Hid (IW WO Wa rb (.slice ao N cap) nj 0 sb fn oz (.slice vad van vac) arcs) := HI.out.below hb1; clear hb1 r0 r1 r2 r3)
                obtain ⟨tb, htb⟩ : ∃ tb, Wa.heap.size = tb := ⟨_, rfl⟩
                obtain ⟨Wb, hWb⟩ : ∃ Wb, Wa.alloc (.cells #[.slice ao N cap, .int .i64 (na : Int), .int .i64 ea] 55) = Wb := ⟨_, rfl⟩
                obtain ⟨hIb, hPb, htl⟩ := HIa.out.fresh na ea
                rw [hWb, htb] at hPb
                rw [hWb] at hIb
                rw [htb] at htl
                have HIb : Hid (IW WO Wb rb (.slice ao N cap) nj 0 sb fn oz (.slice vad van vac) arcs) := hIb
                have HPb : Hid (RB Wb tb (.slice ao N cap) na ea) := hPb
                rw [hWb, htb]
                clear hIb hPb hWb htb
                obtain ⟨p0, p1, p2, p3⟩ := HPb.out.facts
                go_upto_region 23 with (go_at_call 23; refine (HG.out Wb na ea 1048576 (HBI.out HIb.out) hna).mono ?_; rintro e Wc ⟨nb, lo, eb, rfl, HRb, hlo, hnb, hb1⟩; have HIc : Hid (IW WO Wc rb (.slice ao N cap) nj 0 sb fn oz (.slice vad van vac) arcs) := HIb.out.below hb1; have HPc : Hid (RB Wc tb (.slice ao N cap) na ea) := (hb1.block tb HPb.out.lt).trans HPb.out; clear hb1 p0 p1 p2 p3; obtain ⟨p0, p1, p2, p3⟩ := HPc.out.facts)
                obtain ⟨Wd, hWd⟩ : ∃ Wd, ((Wc.setCell ⟨tb, 0, none⟩ (.slice ao N cap)).setCell ⟨tb, 1, none⟩ (.int .i64 (nb : Int))).setCell ⟨tb, 2, none⟩ (.int .i64 eb) = Wd := ⟨_, rfl⟩
                have HId : Hid (IW WO Wd rb (.slice ao N cap) nj 0 sb fn oz (.slice vad van vac) arcs) := by rw [← hWd]; exact HIc.out.other HPc.out htl nb eb
                have HPd : Hid (RB Wd tb (.slice ao N cap) nb eb) := by rw [← hWd]; exact HPc.out.put _ nb eb
                rw [hWd]
                clear hWd p0 p1 p2 p3
                obtain ⟨p0, p1, p2, p3⟩ := HPd.out.facts
                go_upto_region 24 with (go_at_call 23; refine (HG.out Wd nb eb 98305 (HBI.out HId.out) hnb).mono ?_; rintro e We ⟨nc, lt, ec, rfl, HRc, hlt2, hnc, hb1⟩; have HIe : Hid (IW WO We rb (.slice ao N cap) nj 0 sb fn oz (.slice vad van vac) arcs) := HId.out.below hb1; have HPe : Hid (RB We tb (.slice ao N cap) nb eb) := (hb1.block tb HPd.out.lt).trans HPd.out; clear hb1 p0 p1 p2 p3; obtain ⟨p0, p1, p2, p3⟩ := HPe.out.facts)
                obtain ⟨Wf, hWf⟩ : ∃ Wf, ((We.setCell ⟨tb, 0, none⟩ (.slice ao N cap)).setCell ⟨tb, 1, none⟩ (.int .i64 (nc : Int))).setCell ⟨tb, 2, none⟩ (.int .i64 ec) = Wf := ⟨_, rfl⟩
                have HIf : Hid (IW WO Wf rb (.slice ao N cap) nj 0 sb fn oz (.slice vad van vac) arcs) := by rw [← hWf]; exact HIe.out.other HPe.out htl nc ec
                have HPf : Hid (RB Wf tb (.slice ao N cap) nc ec) := by rw [← hWf]; exact HPe.out.put _ nc ec
                rw [hWf]
                clear hWf p0 p1 p2 p3
                obtain ⟨p0, p1, p2, p3⟩ := HPf.out.facts
                obtain ⟨r0, r1, r2, r3⟩ := HIf.out.rd.facts
                go_upto_region 25 with fail
                obtain ⟨Wg, hWg⟩ : ∃ Wg, ((Wf.setCell ⟨rb, 0, none⟩ (.slice ao N cap)).setCell ⟨rb, 1, none⟩ (.int .i64 (nc : Int))).setCell ⟨rb, 2, none⟩ (.int .i64 ec) = Wg := ⟨_, rfl⟩
                have HIg : Hid (IW WO Wg rb (.slice ao N cap) nc ec sb fn oz (.slice vad van vac) arcs) := by rw [← hWg]; exact HIf.out.put nc ec
                rw [hWg]
                clear hWg p0 p1 p2 p3 r0 r1 r2 r3
                have hwl : IntKind.i64.wrap (p + (la : Int)) = p + (la : Int) := by rw [IntKind.wrap_i64]; omega
                by_cases hbig : p + (la : Int) > 1114111
                · have hbz : (1114111 : Int) < p + (la : Int) := hbig
                  have HNO : Hid (uqA k cc 0 [] (xs.drop n4, e4) = none) := by
                    show _ = _
                    rw [HRD.out, uqA, if_neg (by simp), HRa.out, if_pos hbig]
                  have hUg := HU.out.of HIg.out
                  obtain ⟨m0, m1, m2, q0, q1, q2⟩ := hUg.facts
                  go_wp2
                  try simp only [Exit.inBlock, Exit.then]
                  obtain ⟨z0, z1⟩ := (QBlk.mk hUg.res).set (.int .i64 0) (.slice none 0 0)
                  refine bodyPost_ret (ru_results rfl z0 z1) rfl ?_
                  have hnone : uqAll xs = none := by rw [HQS.out, HUS.out, HNO.out]; rfl
                  have hno : fineB xs = false := by unfold fineB; rw [hnone]
                  exact ⟨(hUg.bel.setCell (p := ⟨qb, 0, none⟩) hUg.qlo _).setCell (p := ⟨qb, 1, none⟩) hUg.qlo _, fun _ => rfl, fun h => by rw [hno] at h; cases h⟩
                · have hbz : ¬ (1114111 : Int) < p + (la : Int) := hbig
                  have hwr : IntKind.i32.wrap (p + (la : Int)) = p + (la : Int) := by simp [IntKind.wrap, IntKind.bits, IntKind.signed]; omega
                  have hwk : IntKind.i64.wrap ((k : Int) - (lt : Int)) = (k : Int) - (lt : Int) := by rw [IntKind.wrap_i64]; omega
                  obtain ⟨x, hx⟩ : ∃ x : RArc, x = ⟨p + (la : Int), (lo : Int), (k : Int) - (lt : Int)⟩ := ⟨_, rfl⟩
                  have HX2 : Hid (cellsRA x = [.int .i32 (p + (la : Int)), .int .i64 (lo : Int), .int .i64 ((k : Int) - (lt : Int))]) := by show _ = _; rw [hx]; rfl
                  have HRN : Hid (uqA k cc 0 [] (xs.drop n4, e4) = uqA k (cc - (j + 1)) (p + (la : Int)) (arcs ++ [x]) (xs.drop nc, ec)) := by
                    show _ = _
                    rw [HRD.out, uqA, if_neg (by simp), HRa.out, if_neg hbig]
                    simp only
                    rw [HRb.out]
                    simp only
                    rw [HRc.out, hx]
                  have HLX : Hid ((arcs ++ [x]).length ≤ j + 1 ∧ ∀ a ∈ arcs ++ [x], OkRA a) := by
                    refine ⟨by have := HLA.out.1; simp; omega, fun a ha => ?_⟩
                    rcases List.mem_append.1 ha with ha | ha
                    · exact HLA.out.2 a ha
                    · rw [List.mem_singleton.1 ha, hx]
                      simp only [OkRA, Fits32, Fits64]
                      omega
                  clear hx
                  obtain ⟨s0, s1, s2, s3⟩ := HIg.out.facts
                  go_wp2_with (at_builtin; refine append_g rtyA (by rfl) _ _ [.int .i32 (p + (la : Int)), .int .i64 (lo : Int), .int .i64 ((k : Int) - (lt : Int))] _ rfl WO.heap.size _ _ _ _ rfl HIg.out.row rfl rfl ⟨rfl, by simp [Value.oneCell']⟩ (by rw [List.length_map]; have := HLA.out.1; omega) HIg.out.but.size ?_; intro v7 w7 ho7 hb7 hg7; have ho8 : GOwn 63 3 WO.heap.size w7 v7 (arcs.map cellsRA ++ [cellsRA x]) := (by rw [HX2.out]; exact ho7); obtain ⟨hNX, hc2, hfz⟩ := HIg.out.arc ho8 hg7; have HNX : Hid (IW WO (w7.setCell ⟨sb, 2, none⟩ v7) rb (.slice ao N cap) nc ec sb fn oz v7 (arcs ++ [x])) := hNX; obtain ⟨a7, n7, c7, hv7⟩ : ∃ a n c, v7 = Value.slice a n c := (by obtain ⟨a, c, e, _⟩ := GOwn.shape ho7; exact ⟨_, _, _, e⟩); subst hv7; clear hNX ho7 ho8 hb7 hg7 s0 s1 s2 s3)
                  go_roundg (cc - (j + 1))
                  case measure => omega
                  case rel => exact ⟨j + 1, nc, ec, _, _, _, by go_num, by omega, Nat.le_refl _, rfl, by omega, by omega, hnc, HNX, HRN, HLX⟩
              · have h1b : (ej == 0) = false := beq_eq_false_iff_ne.2 hej
                have HF : Hid (uqA k cc 0 [] (xs.drop n4, e4) = some (arcs, (xs.drop nj, ej))) := by
                  show _ = _
                  rw [HTryz.out, show cc - j = (cc - j - 1) + 1 by omega, uqA, if_pos hej]
                have HUi : Hid (UW w wi qb rb mb (.slice ao N cap) nj ej (v1 : Int) (.slice vd vn vc) m) := HU.out.of HI.out
                obtain ⟨m0, m1, m2, q0, q1, q2⟩ := HUi.out.facts
                obtain ⟨s0, s1, s2, s3⟩ := HI.out.facts
                obtain ⟨xss, hX, hxl, hxe⟩ := HUi.out.row.ex
                have HXX : Hid (GOwn 61 3 w.heap.size wi (.slice vd vn vc) xss ∧ xss.length = m.length ∧ ∀ (i : Nat) (s : RSt), m[i]? = some s → ∃ va, xss[i]? = some [.bool s.final, .int .i64 s.out, va] ∧ GOwn 63 3 w.heap.size wi va (s.arcs.map cellsRA)) := ⟨hX, hxl, hxe⟩
                have HAR : Hid (GOwn 63 3 w.heap.size wi (.slice vad van vac) (arcs.map cellsRA)) := HI.out.row.mono HU.out.bel.size
                have HYtllmdfkiogmofaaGreatDoor : Hid (uqAll xs = uqM N (c - (k + 1)) (k + 1) (m ++ [⟨fn, oz, arcs⟩]) (xs.drop nj, ej)) := by show _ = _; rw [HQS.out, HUS.out, HF.out]; rfl
                have HLN : Hid ((m ++ [(⟨fn, oz, arcs⟩ : RSt)]).length = k + 1 ∧ MBr (m ++ [⟨fn, oz, arcs⟩])) := by
                  refine ⟨by have := HL.out.1; simp; omega, fun s hs => ?_⟩
                  rcases List.mem_append.1 hs with hs | hs
                  · exact HL.out.2 s hs
                  · rw [List.mem_singleton.1 hs]
                    exact ⟨HLA.out.2, by have := HLA.out.1; simp only; omega, HOZ.out.2.2, HOZ.out.2.1⟩
                clear hX hxl hxe
                go_wp2_with (at_builtin; refine append_g rtyS (by rfl) _ _ [.bool fn, .int .i64 oz, .slice vad van vac] _ rfl w.heap.size _ _ _ _ rfl HXX.out.1 rfl rfl ⟨rfl, by simp [Value.oneCell']⟩ (by have := HXX.out.2.1; have := HL.out.1; omega) HUi.out.bel.size ?_; intro v8 w8 ho8 hb8 hg8; obtain ⟨hNX, hc1, hfz⟩ := HUi.out.state (s := ⟨fn, oz, arcs⟩) HXX.out.1 HXX.out.2.1 HXX.out.2.2 HAR.out ho8 hg8; have HNX : Hid (UW w (w8.setCell ⟨mb, 1, none⟩ v8) qb rb mb (.slice ao N cap) nj ej (v1 : Int) v8 (m ++ [⟨fn, oz, arcs⟩])) := hNX; obtain ⟨a8, n8, c8, hv8⟩ : ∃ a n c, v8 = Value.slice a n c := (by obtain ⟨a, c, e, _⟩ := GOwn.shape ho8; exact ⟨_, _, _, e⟩); subst hv8; clear hNX ho8 hb8 hg8 m0 m1 m2 q0 q1 q2 s0 s1 s2 s3)
                go_roundg (c - (k + 1))
                case measure => omega
                case rel => exact ⟨k + 1, nj, ej, _, _, by go_num, by omega, Nat.le_refl _, hnj, HNX, HYtllmdfkiogmofaaGreatDoor, HLN⟩
            · have hltjz : ¬ (j : Int) < (cc : Int) := by omega
              have HF : Hid (uqA k cc 0 [] (xs.drop n4, e4) = some (arcs, (xs.drop nj, ej))) := by
                show _ = _
                rw [HTryz.out, show cc - j = 0 by omega, uqA]
              have HUi : Hid (UW w wi qb rb mb (.slice ao N cap) nj ej (v1 : Int) (.slice vd vn vc) m) := HU.out.of HI.out
              obtain ⟨m0, m1, m2, q0, q1, q2⟩ := HUi.out.facts
              obtain ⟨s0, s1, s2, s3⟩ := HI.out.facts
              obtain ⟨xss, hX, hxl, hxe⟩ := HUi.out.row.ex
              have HXX : Hid (GOwn 61 3 w.heap.size wi (.slice vd vn vc) xss ∧ xss.length = m.length ∧ ∀ (i : Nat) (s : RSt), m[i]? = some s → ∃ va, xss[i]? = some [.bool s.final, .int .i64 s.out, va] ∧ GOwn 63 3 w.heap.size wi va (s.arcs.map cellsRA)) := ⟨hX, hxl, hxe⟩
              have HAR : Hid (GOwn 63 3 w.heap.size wi (.slice vad van vac) (arcs.map cellsRA)) := HI.out.row.mono HU.out.bel.size
              have HYtllmdfkiogmofaaGreatDoor : Hid (uqAll xs = uqM N (c - (k + 1)) (k + 1) (m ++ [⟨fn, oz, arcs⟩]) (xs.drop nj, ej)) := by show _ = _; rw [HQS.out, HUS.out, HF.out]; rfl
              have HLN : Hid ((m ++ [(⟨fn, oz, arcs⟩ : RSt)]).length = k + 1 ∧ MBr (m ++ [⟨fn, oz, arcs⟩])) := by
                refine ⟨by have := HL.out.1; simp; omega, fun s hs => ?_⟩
                rcases List.mem_append.1 hs with hs | hs
                · exact HL.out.2 s hs
                · rw [List.mem_singleton.1 hs]
                  exact ⟨HLA.out.2, by have := HLA.out.1; simp only; omega, HOZ.out.2.2, HOZ.out.2.1⟩
              clear hX hxl hxe
              go_wp2_with (at_builtin; refine append_g rtyS (by rfl) _ _ [.bool fn, .int .i64 oz, .slice vad van vac] _ rfl w.heap.size _ _ _ _ rfl HXX.out.1 rfl rfl ⟨rfl, by simp [Value.oneCell']⟩ (by have := HXX.out.2.1; have := HL.out.1; omega) HUi.out.bel.size ?_; intro v8 w8 ho8 hb8 hg8; obtain ⟨hNX, hc1, hfz⟩ := HUi.out.state (s := ⟨fn, oz, arcs⟩) HXX.out.1 HXX.out.2.1 HXX.out.2.2 HAR.out ho8 hg8; have HNX : Hid (UW w (w8.setCell ⟨mb, 1, none⟩ v8) qb rb mb (.slice ao N cap) nj ej (v1 : Int) v8 (m ++ [⟨fn, oz, arcs⟩])) := hNX; obtain ⟨a8, n8, c8, hv8⟩ : ∃ a n c, v8 = Value.slice a n c := (by obtain ⟨a, c, e, _⟩ := GOwn.shape ho8; exact ⟨_, _, _, e⟩); subst hv8; clear hNX ho8 hb8 hg8 m0 m1 m2 q0 q1 q2 s0 s1 s2 s3)
              go_roundg (c - (k + 1))
              case measure => omega
              case rel => exact ⟨k + 1, nj, ej, _, _, by go_num, by omega, Nat.le_refl _, hnj, HNX, HYtllmdfkiogmofaaGreatDoor, HLN⟩
      · have h1b : (e == 0) = false := beq_eq_false_iff_ne.2 he
        have HF : Hid (uqAll xs = some (m, (xs.drop n, e))) := by
          show _ = _
          rw [HQ.out, show c - k = (c - k - 1) + 1 by omega, uqM, if_pos he]
        obtain ⟨EE, hEE⟩ : ∃ EE, Cd.endE (xs.drop n).length e = EE := ⟨_, rfl⟩
        have HEN : Hid (∀ W, UW w W qb rb mb (.slice ao N cap) n e (v1 : Int) (.slice vd vn vc) m → Calls Tryz.prog 24 #[Cd.rv (.slice ao N cap) n e] W fun x w' => x = .returned (.int .i64 EE) ∧ Below W.heap.size W w') := fun W hW => by
          have := Cd.refEnd_any w.heap.size (.slice ao N cap) xs n e W (HROW.out.below hW.bel) (by have := HN.out; omega)
          rw [hEE] at this
          exact this
        have HFB : Hid (fineB xs = (decide (e = 0 ∧ xs.drop n = []) && rightB (v1 : Int) m && decide (packB (v1 : Int) m = xs))) := by
          show _ = _
          unfold fineB
          rw [HF.out, HB.out]
        go_upto_region 30 with fail
        have hS0 : UW w WO.drew qb rb mb (.slice ao N cap) n e (v1 : Int) (.slice vd vn vc) m := HU.out.below (Below.refl _ WO).drew
        have HS0 : Hid (UW w WO.drew qb rb mb (.slice ao N cap) n e (v1 : Int) (.slice vd vn vc) m) := hS0
        clear r0 r1 r2 r3
        refine region_at (S := fun W => UW w W qb rb mb (.slice ao N cap) n e (v1 : Int) (.slice vd vn vc) m) 16 rfl mixedP hS0 (fun _ => ?_)
        refine tk (i := 0) 127 rfl rfl (by kernel_rfl) (fun _ _ _ h => h) (by rfl) (fun _ s => by (have h := UW.all s; clear s; go_simp; first | done | exact rfl)) (by assumption) ?_
        simp only [sZa, sZb, sZc]
        refine one_call (i := 1) (w0 := WO.drew) 128 24 #[Cd.rv (.slice ao N cap) n e] (by kernel_rfl) rfl rfl (by rfl) (by kernel_rfl) ?_
        refine (HEN.out _ HS0.out).mono ?_
        rintro x wE ⟨rfl, hbE⟩
        have hSE : UW w wE qb rb mb (.slice ao N cap) n e (v1 : Int) (.slice vd vn vc) m := HS0.out.below hbE
        clear hS0 hbE
        refine ⟨_, rfl, hSE, fun _ => ?_⟩
        simp only [sZa, sZb, sZc]
        by_cases hE0 : EE = 0
        · have hgood : e = 0 ∧ xs.drop n = [] := by
            rw [hE0] at hEE
            unfold Cd.endE at hEE
            split at hEE
            · cases hEE
            · rename_i hn2
              refine ⟨hEE, List.eq_nil_of_length_eq_zero ?_⟩
              apply Decidable.byContradiction
              intro h
              exact hn2 ⟨hEE, by omega⟩
          exact absurd hgood.1 he
        · have HNF : Hid (fineB xs = false) := by
            show _ = _
            rw [HFB.out]
            have hbad : ¬ (e = 0 ∧ xs.drop n = []) := fun h => by
              apply hE0
              rw [← hEE, h.1, h.2]
              rfl
            rw [decide_eq_false hbad]
            rfl
          have hEb : (EE == 0) = false := beq_eq_false_iff_ne.2 hE0
          have hEn : (EE != 0) = true := by simp [bne, hEb]
          clear hEE
          refine tk (i := 2) (v := .bool true) 129 rfl rfl (by kernel_rfl) (fun _ _ _ h => h) (by rfl) (fun _ s => by (have h := UW.all s; clear s; go_simp; first | done | exact rfl | simp_all | (simp; omega))) (by assumption) ?_
          simp only [sZa, sZb, sZc]
          refine tk (i := 3) 130 rfl rfl (by kernel_rfl) (fun _ _ _ h => h) (by rfl) (fun _ s => by (have h := UW.all s; clear s; go_simp; first | done | exact rfl)) (by assumption) ?_
          simp only [sZa, sZb, sZc]
          refine pk (i := 4) 131 rfl rfl (by kernel_rfl) (fun _ _ _ h => h) (by rfl) (by assumption) ?_
          simp only [sZa, sZb, sZc]
          refine pk (i := 5) 132 rfl rfl (by kernel_rfl) (fun _ _ _ h => h) (by rfl) (by assumption) ?_
          simp only [sZa, sZb, sZc]
          refine pk (i := 6) 133 rfl rfl (by kernel_rfl) (fun _ _ _ h => h) (by rfl) (by assumption) ?_
          simp only [sZa, sZb, sZc]
          refine tk (i := 7) 134 rfl rfl (by kernel_rfl) (fun _ _ _ h => h) (by rfl) (fun _ s => by (have h := UW.all s; clear s; go_simp; first | done | exact rfl)) (by assumption) ?_
          simp only [sZa, sZb, sZc]
          refine tk (i := 8) 135 rfl rfl (by kernel_rfl) (fun _ _ _ h => h) (by rfl) (fun _ s => by (have h := UW.all s; clear s; go_simp; first | done | exact rfl)) (by assumption) ?_
          simp only [sZa, sZb, sZc]
          refine pk (i := 9) 136 rfl rfl (by kernel_rfl) (fun _ _ _ h => h) (by rfl) (by assumption) ?_
          simp only [sZa, sZb, sZc]
          refine pk (i := 10) 137 rfl rfl (by kernel_rfl) (fun _ _ _ h => h) (by rfl) (by assumption) ?_
          simp only [sZa, sZb, sZc]
          refine pk (i := 11) 138 rfl rfl (by kernel_rfl) (fun _ _ _ h => h) (by rfl) (by assumption) ?_
          simp only [sZa, sZb, sZc]
          refine pk (i := 12) 139 rfl rfl (by kernel_rfl) (fun _ _ _ h => h) (by rfl) (by assumption) ?_
          simp only [sZa, sZb, sZc]
          refine pk (i := 13) 140 rfl rfl (by kernel_rfl) (fun _ _ _ h => h) (by rfl) (by assumption) ?_
          simp only [sZa, sZb, sZc]
          refine pk (i := 14) 141 rfl rfl (by kernel_rfl) (fun _ _ _ h => h) (by rfl) (by assumption) ?_
          simp only [sZa, sZb, sZc]
          refine one_value (i := 15) (v := .bool true) (w' := wE) 142 (by kernel_rfl) rfl rfl (by rfl) (by kernel_rfl) hSE (fun _ => ?_)
          refine wpAnyH_done (by kernel_rfl) ?_ _
          simp only [sZa, sZb, sZc]
          have HSE : Hid (UW w wE qb rb mb (.slice ao N cap) n e (v1 : Int) (.slice vd vn vc) m) := hSE
          obtain ⟨m0, m1, m2, q0, q1, q2⟩ := HSE.out.facts
          clear hSE
          go_wp2
          try simp only [Exit.inBlock, Exit.then]
          obtain ⟨z0, z1⟩ := (QBlk.mk HSE.out.res).set (.int .i64 0) (.slice none 0 0)
          refine bodyPost_ret (ru_results rfl z0 z1) rfl ?_
          exact ⟨(HSE.out.bel.setCell (p := ⟨qb, 0, none⟩) HSE.out.qlo _).setCell (p := ⟨qb, 1, none⟩) HSE.out.qlo _, fun _ => rfl, fun h => by rw [HNF.out] at h; cases h⟩
    · have hltz : ¬ (k : Int) < (c : Int) := by omega
      have HF : Hid (uqAll xs = some (m, (xs.drop n, e))) := by
        show _ = _
        rw [HQ.out, show c - k = 0 by omega, uqM]
      obtain ⟨EE, hEE⟩ : ∃ EE, Cd.endE (xs.drop n).length e = EE := ⟨_, rfl⟩
      have HEN : Hid (∀ W, UW w W qb rb mb (.slice ao N cap) n e (v1 : Int) (.slice vd vn vc) m → Calls Tryz.prog 24 #[Cd.rv (.slice ao N cap) n e] W fun x w' => x = .returned (.int .i64 EE) ∧ Below W.heap.size W w') := fun W hW => by
        have := Cd.refEnd_any w.heap.size (.slice ao N cap) xs n e W (HROW.out.below hW.bel) (by have := HN.out; omega)
        rw [hEE] at this
        exact this
      have HFB : Hid (fineB xs = (decide (e = 0 ∧ xs.drop n = []) && rightB (v1 : Int) m && decide (packB (v1 : Int) m = xs))) := by
        show _ = _
        unfold fineB
        rw [HF.out, HB.out]
      go_upto_region 30 with fail
      have hS0 : UW w WO.drew qb rb mb (.slice ao N cap) n e (v1 : Int) (.slice vd vn vc) m := HU.out.below (Below.refl _ WO).drew
      have HS0 : Hid (UW w WO.drew qb rb mb (.slice ao N cap) n e (v1 : Int) (.slice vd vn vc) m) := hS0
      clear r0 r1 r2 r3
      refine region_at (S := fun W => UW w W qb rb mb (.slice ao N cap) n e (v1 : Int) (.slice vd vn vc) m) 16 rfl mixedP hS0 (fun _ => ?_)
      refine tk (i := 0) 127 rfl rfl (by kernel_rfl) (fun _ _ _ h => h) (by rfl) (fun _ s => by (have h := UW.all s; clear s; go_simp; first | done | exact rfl)) (by assumption) ?_
      simp only [sZa, sZb, sZc]
      refine one_call (i := 1) (w0 := WO.drew) 128 24 #[Cd.rv (.slice ao N cap) n e] (by kernel_rfl) rfl rfl (by rfl) (by kernel_rfl) ?_
      refine (HEN.out _ HS0.out).mono ?_
      rintro x wE ⟨rfl, hbE⟩
      have hSE : UW w wE qb rb mb (.slice ao N cap) n e (v1 : Int) (.slice vd vn vc) m := HS0.out.below hbE
      clear hS0 hbE
      refine ⟨_, rfl, hSE, fun _ => ?_⟩
      simp only [sZa, sZb, sZc]
      by_cases hE0 : EE = 0
      · have hgood : e = 0 ∧ xs.drop n = [] := by
          rw [hE0] at hEE
          unfold Cd.endE at hEE
          split at hEE
          · cases hEE
          · rename_i hn2
            refine ⟨hEE, List.eq_nil_of_length_eq_zero ?_⟩
            apply Decidable.byContradiction
            intro h
            exact hn2 ⟨hEE, by omega⟩
        rw [decide_eq_true hgood, Bool.true_and] at HFB
        clear hEE
        subst hE0
        refine tk (i := 2) (v := .bool false) 129 rfl rfl (by kernel_rfl) (fun _ _ _ h => h) (by rfl) (fun _ s => by (have h := UW.all s; clear s; go_simp; first | done | exact rfl | simp_all | (simp; omega))) (by assumption) ?_
        simp only [sZa, sZb, sZc]
        refine tk (i := 3) 130 rfl rfl (by kernel_rfl) (fun _ _ _ h => h) (by rfl) (fun _ s => by (have h := UW.all s; clear s; go_simp; first | done | exact rfl)) (by assumption) ?_
        simp only [sZa, sZb, sZc]
        refine tk (i := 4) 131 rfl rfl (by kernel_rfl) (fun _ _ _ h => h) (by rfl) (fun _ s => by (have h := UW.all s; clear s; go_simp; first | done | exact rfl)) (by assumption) ?_
        simp only [sZa, sZb, sZc]
        have HSE : Hid (UW w wE qb rb mb (.slice ao N cap) n e (v1 : Int) (.slice vd vn vc) m) := hSE
        have HSTS : Hid (∀ W, UW w W qb rb mb (.slice ao N cap) n e (v1 : Int) (.slice vd vn vc) m → StsAt W.heap.size W (.slice vd vn vc) m) := fun W hW => hW.row.stsR HL.out.2 (by have := HL.out.1; omega)
        have HRI : Hid (∀ W, UW w W qb rb mb (.slice ao N cap) n e (v1 : Int) (.slice vd vn vc) m → Calls Tryz.prog 11 #[.agg #[.int .i64 (v1 : Int), .slice vd vn vc]] W fun e w' => e = .returned (.bool (rightB (v1 : Int) m)) ∧ Below W.heap.size W w') := fun W hW => refRight_all W.heap.size W (v1 : Int) m _ (HSTS.out W hW) (Nat.le_refl _)
        obtain ⟨R, hR⟩ : ∃ R, rightB (v1 : Int) m = R := ⟨_, rfl⟩
        have HR : Hid (rightB (v1 : Int) m = R) := hR
        rw [hR] at HRI HFB
        clear hR
        refine one_call (i := 5) (w0 := wE) 132 11 #[.agg #[.int .i64 (v1 : Int), .slice vd vn vc]] (by kernel_rfl) rfl rfl (by rfl) (by kernel_rfl) ?_
        refine (HRI.out _ HSE.out).mono ?_
        rintro x wR ⟨rfl, hbR⟩
        have hSR : UW w wR qb rb mb (.slice ao N cap) n e (v1 : Int) (.slice vd vn vc) m := HSE.out.below hbR
        have HSR : Hid (UW w wR qb rb mb (.slice ao N cap) n e (v1 : Int) (.slice vd vn vc) m) := hSR
        clear hSE hbR HSE
        refine ⟨_, rfl, hSR, fun _ => ?_⟩
        simp only [sZa, sZb, sZc]
        cases R with
        | false =>
          have HNF : Hid (fineB xs = false) := HFB.out
          have hSE := hSR
          generalize wR = wE at *
          clear hSR
          refine tk (i := 6) (v := .bool true) 133 rfl rfl (by kernel_rfl) (fun _ _ _ h => h) (by rfl) (fun _ s => by (have h := UW.all s; clear s; go_simp; first | done | exact rfl | simp_all | (simp; omega))) (by assumption) ?_
          simp only [sZa, sZb, sZc]
          refine tk (i := 7) 134 rfl rfl (by kernel_rfl) (fun _ _ _ h => h) (by rfl) (fun _ s => by (have h := UW.all s; clear s; go_simp; first | done | exact rfl)) (by assumption) ?_
          simp only [sZa, sZb, sZc]
          refine tk (i := 8) 135 rfl rfl (by kernel_rfl) (fun _ _ _ h => h) (by rfl) (fun _ s => by (have h := UW.all s; clear s; go_simp; first | done | exact rfl)) (by assumption) ?_
          simp only [sZa, sZb, sZc]
          refine pk (i := 9) 136 rfl rfl (by kernel_rfl) (fun _ _ _ h => h) (by rfl) (by assumption) ?_
          simp only [sZa, sZb, sZc]
          refine pk (i := 10) 137 rfl rfl (by kernel_rfl) (fun _ _ _ h => h) (by rfl) (by assumption) ?_
          simp only [sZa, sZb, sZc]
          refine pk (i := 11) 138 rfl rfl (by kernel_rfl) (fun _ _ _ h => h) (by rfl) (by assumption) ?_
          simp only [sZa, sZb, sZc]
          refine pk (i := 12) 139 rfl rfl (by kernel_rfl) (fun _ _ _ h => h) (by rfl) (by assumption) ?_
          simp only [sZa, sZb, sZc]
          refine pk (i := 13) 140 rfl rfl (by kernel_rfl) (fun _ _ _ h => h) (by rfl) (by assumption) ?_
          simp only [sZa, sZb, sZc]
          refine pk (i := 14) 141 rfl rfl (by kernel_rfl) (fun _ _ _ h => h) (by rfl) (by assumption) ?_
          simp only [sZa, sZb, sZc]
          refine one_value (i := 15) (v := .bool true) (w' := wE) 142 (by kernel_rfl) rfl rfl (by rfl) (by kernel_rfl) hSE (fun _ => ?_)
          refine wpAnyH_done (by kernel_rfl) ?_ _
          simp only [sZa, sZb, sZc]
          have HSE : Hid (UW w wE qb rb mb (.slice ao N cap) n e (v1 : Int) (.slice vd vn vc) m) := hSE
          obtain ⟨m0, m1, m2, q0, q1, q2⟩ := HSE.out.facts
          clear hSE
          go_wp2
          try simp only [Exit.inBlock, Exit.then]
          obtain ⟨z0, z1⟩ := (QBlk.mk HSE.out.res).set (.int .i64 0) (.slice none 0 0)
          refine bodyPost_ret (ru_results rfl z0 z1) rfl ?_
          exact ⟨(HSE.out.bel.setCell (p := ⟨qb, 0, none⟩) HSE.out.qlo _).setCell (p := ⟨qb, 1, none⟩) HSE.out.qlo _, fun _ => rfl, fun h => by rw [HNF.out] at h; cases h⟩
        | true =>
          have HST : Hid (∀ {W}, UW w W qb rb mb (.slice ao N cap) n e (v1 : Int) (.slice vd vn vc) m → (convert 22 9 (.slice ao N cap)).run Tryz.prog W = .ok (.string (Cd.strB xs)) W) := fun hW => (HROW.out.below hW.bel).str
          have HBY : Hid (Calls Tryz.prog 25 #[.agg #[.int .i64 (v1 : Int), .slice vd vn vc]] wR fun e w' => ∃ ad n cap, e = .returned (.slice ad n cap) ∧ Cd.Bytes wR.heap.size w' (.slice ad n cap) (packB (v1 : Int) m) ∧ Below wR.heap.size wR w') := refBytes_any wR.heap.size wR (v1 : Int) m _ (HSTS.out wR HSR.out) (Nat.le_refl _) (by have := HL.out.1; omega) HR.out
          obtain ⟨sy, hsy⟩ : ∃ sy, Cd.strB xs = sy := ⟨_, rfl⟩
          obtain ⟨sx, hsx⟩ : ∃ sx, Cd.strB (packB (v1 : Int) m) = sx := ⟨_, rfl⟩
          have HSX : Hid (Cd.strB (packB (v1 : Int) m) = sx) := hsx
          have HSY : Hid (Cd.strB xs = sy) := hsy
          rw [hsy] at HST
          clear hsy
          refine tk (i := 6) (v := .bool false) 133 rfl rfl (by kernel_rfl) (fun _ _ _ h => h) (by rfl) (fun _ s => by (have h := UW.all s; clear s; go_simp; first | done | exact rfl | simp_all | (simp; omega))) (by assumption) ?_
          simp only [sZa, sZb, sZc]
          refine tk (i := 7) 134 rfl rfl (by kernel_rfl) (fun _ _ _ h => h) (by rfl) (fun _ s => by (have h := UW.all s; clear s; go_simp; first | done | exact rfl)) (by assumption) ?_
          simp only [sZa, sZb, sZc]
          refine tk (i := 8) 135 rfl rfl (by kernel_rfl) (fun _ _ _ h => h) (by rfl) (fun _ s => by (have h := UW.all s; clear s; go_simp; first | done | exact rfl)) (by assumption) ?_
          simp only [sZa, sZb, sZc]
          refine tk (i := 9) 136 rfl rfl (by kernel_rfl) (fun _ _ _ h => h) (by rfl) (fun _ s => by (have h := UW.all s; clear s; go_simp; first | done | exact rfl)) (by assumption) ?_
          simp only [sZa, sZb, sZc]
          refine tk (i := 12) 139 rfl rfl (by kernel_rfl) (fun _ _ _ h => h) (by rfl) (fun _ s => by (have h := UW.all s; clear s; go_simp; first | done | exact rfl)) (by assumption) ?_
          simp only [sZa, sZb, sZc]
          refine tk (i := 13) (v := .string sy) 140 rfl rfl (by kernel_rfl) (fun _ _ _ h => h) (by rfl) (fun _ s => by (have h := HST.out s; clear s; go_simp; first | done | exact rfl | simp_all | (simp; omega))) (by assumption) ?_
          simp only [sZa, sZb, sZc]
          refine one_call (i := 10) (w0 := wR) 137 25 #[.agg #[.int .i64 (v1 : Int), .slice vd vn vc]] (by kernel_rfl) rfl rfl (by rfl) (by kernel_rfl) ?_
          refine HBY.out.mono ?_
          rintro x wB ⟨yd, yn, yc, rfl, hby, hbB⟩
          have hSB : UW w wB qb rb mb (.slice ao N cap) n e (v1 : Int) (.slice vd vn vc) m := HSR.out.below hbB
          have HSB : Hid (UW w wB qb rb mb (.slice ao N cap) n e (v1 : Int) (.slice vd vn vc) m) := hSB
          have hc1 : (convert 22 9 (.slice yd yn yc)).run Tryz.prog wB = .ok (.string sx) wB := by rw [← hsx]; exact hby.row.str
          clear hSR hbB hby hsx
          refine ⟨_, rfl, hSB, fun _ => ?_⟩
          simp only [sZa, sZb, sZc]
          refine one_value (i := 11) (v := .string sx) (w' := wB) 138 (by kernel_rfl) rfl rfl (by rfl) (by go_simp; first | done | exact rfl | simp_all) hSB (fun _ => ?_)
          simp only [sZa, sZb, sZc]
          clear hc1
          by_cases hss : packB (v1 : Int) m = xs
          · have hse : sx = sy := by rw [← HSX.out, ← HSY.out, hss]
            have HYF : Hid (fineB xs = true) := by show _ = _; rw [HFB.out, decide_eq_true hss]; rfl
            clear hss
            subst hse
            refine tk (i := 14) (v := .bool false) 141 rfl rfl (by kernel_rfl) (fun _ _ _ h => h) (by rfl) (fun _ s => by (have h := UW.all s; clear s; go_simp; first | done | exact rfl | simp_all | (simp; omega))) (by assumption) ?_
            simp only [sZa, sZb, sZc]
            refine one_value (i := 15) (v := .bool false) (w' := wB) 142 (by kernel_rfl) rfl rfl (by rfl) (by kernel_rfl) hSB (fun _ => ?_)
            refine wpAnyH_done (by kernel_rfl) ?_ _
            simp only [sZa, sZb, sZc]
            obtain ⟨m0, m1, m2, q0, q1, q2⟩ := HSB.out.facts
            clear hSB
            go_wp2
            try simp only [Exit.inBlock, Exit.then]
            obtain ⟨z0, z1⟩ := (QBlk.mk HSB.out.res).set (.int .i64 (v1 : Int)) (.slice vd vn vc)
            refine bodyPost_ret (ru_results rfl z0 z1) rfl ?_
            have he9 : ∀ j, j ≠ qb → ((wB.setCell ⟨qb, 0, none⟩ (.int .i64 (v1 : Int))).setCell ⟨qb, 1, none⟩ (.slice vd vn vc)).heap[j]? = wB.heap[j]? := fun j hj => (set_other _ _ _ _ hj).trans (set_other _ _ _ _ hj)
            refine ⟨(HSB.out.bel.setCell (p := ⟨qb, 0, none⟩) HSB.out.qlo _).setCell (p := ⟨qb, 1, none⟩) HSB.out.qlo _, fun h => (by rw [HYF.out] at h; cases h), fun _ => ⟨_, m, _, HF.out, by rw [HB.out]; rfl, ?_⟩⟩
            exact HSB.out.row.same (fun j cur _ hj _ => he9 j (ty_neU hj HSB.out.res (by decide))) (fun j cur _ hj => he9 j (ty_neU hj HSB.out.res (by decide)))
          · have hsn : sx ≠ sy := fun e2 => hss (strB_one (packB_byte _ _) HX.out (by rw [HSX.out, HSY.out, e2]))
            have hsb : (sx.toList == sy.toList) = false := by rw [strEq]; exact decide_eq_false hsn
            have HNF : Hid (fineB xs = false) := by show _ = _; rw [HFB.out, decide_eq_false hss]; rfl
            clear hss hsn
            have hSE := hSB
            generalize wB = wE at *
            clear hSB
            refine tk (i := 14) (v := .bool true) 141 rfl rfl (by kernel_rfl) (fun _ _ _ h => h) (by rfl) (fun _ s => by (have h := UW.all s; clear s; go_simp; first | done | exact rfl | simp_all | (simp; omega))) (by assumption) ?_
            simp only [sZa, sZb, sZc]
            refine one_value (i := 15) (v := .bool true) (w' := wE) 142 (by kernel_rfl) rfl rfl (by rfl) (by kernel_rfl) hSE (fun _ => ?_)
            refine wpAnyH_done (by kernel_rfl) ?_ _
            simp only [sZa, sZb, sZc]
            have HSE : Hid (UW w wE qb rb mb (.slice ao N cap) n e (v1 : Int) (.slice vd vn vc) m) := hSE
            obtain ⟨m0, m1, m2, q0, q1, q2⟩ := HSE.out.facts
            clear hSE
            go_wp2
            try simp only [Exit.inBlock, Exit.then]
            obtain ⟨z0, z1⟩ := (QBlk.mk HSE.out.res).set (.int .i64 0) (.slice none 0 0)
            refine bodyPost_ret (ru_results rfl z0 z1) rfl ?_
            exact ⟨(HSE.out.bel.setCell (p := ⟨qb, 0, none⟩) HSE.out.qlo _).setCell (p := ⟨qb, 1, none⟩) HSE.out.qlo _, fun _ => rfl, fun h => by rw [HNF.out] at h; cases h⟩
      · have HNF : Hid (fineB xs = false) := by
          show _ = _
          rw [HFB.out]
          have hbad : ¬ (e = 0 ∧ xs.drop n = []) := fun h => by
            apply hE0
            rw [← hEE, h.1, h.2]
            rfl
          rw [decide_eq_false hbad]
          rfl
        have hEb : (EE == 0) = false := beq_eq_false_iff_ne.2 hE0
        have hEn : (EE != 0) = true := by simp [bne, hEb]
        clear hEE
        refine tk (i := 2) (v := .bool true) 129 rfl rfl (by kernel_rfl) (fun _ _ _ h => h) (by rfl) (fun _ s => by (have h := UW.all s; clear s; go_simp; first | done | exact rfl | simp_all | (simp; omega))) (by assumption) ?_
        simp only [sZa, sZb, sZc]
        refine tk (i := 3) 130 rfl rfl (by kernel_rfl) (fun _ _ _ h => h) (by rfl) (fun _ s => by (have h := UW.all s; clear s; go_simp; first | done | exact rfl)) (by assumption) ?_
        simp only [sZa, sZb, sZc]
        refine pk (i := 4) 131 rfl rfl (by kernel_rfl) (fun _ _ _ h => h) (by rfl) (by assumption) ?_
        simp only [sZa, sZb, sZc]
        refine pk (i := 5) 132 rfl rfl (by kernel_rfl) (fun _ _ _ h => h) (by rfl) (by assumption) ?_
        simp only [sZa, sZb, sZc]
        refine pk (i := 6) 133 rfl rfl (by kernel_rfl) (fun _ _ _ h => h) (by rfl) (by assumption) ?_
        simp only [sZa, sZb, sZc]
        refine tk (i := 7) 134 rfl rfl (by kernel_rfl) (fun _ _ _ h => h) (by rfl) (fun _ s => by (have h := UW.all s; clear s; go_simp; first | done | exact rfl)) (by assumption) ?_
        simp only [sZa, sZb, sZc]
        refine tk (i := 8) 135 rfl rfl (by kernel_rfl) (fun _ _ _ h => h) (by rfl) (fun _ s => by (have h := UW.all s; clear s; go_simp; first | done | exact rfl)) (by assumption) ?_
        simp only [sZa, sZb, sZc]
        refine pk (i := 9) 136 rfl rfl (by kernel_rfl) (fun _ _ _ h => h) (by rfl) (by assumption) ?_
        simp only [sZa, sZb, sZc]
        refine pk (i := 10) 137 rfl rfl (by kernel_rfl) (fun _ _ _ h => h) (by rfl) (by assumption) ?_
        simp only [sZa, sZb, sZc]
        refine pk (i := 11) 138 rfl rfl (by kernel_rfl) (fun _ _ _ h => h) (by rfl) (by assumption) ?_
        simp only [sZa, sZb, sZc]
        refine pk (i := 12) 139 rfl rfl (by kernel_rfl) (fun _ _ _ h => h) (by rfl) (by assumption) ?_
        simp only [sZa, sZb, sZc]
        refine pk (i := 13) 140 rfl rfl (by kernel_rfl) (fun _ _ _ h => h) (by rfl) (by assumption) ?_
        simp only [sZa, sZb, sZc]
        refine pk (i := 14) 141 rfl rfl (by kernel_rfl) (fun _ _ _ h => h) (by rfl) (by assumption) ?_
        simp only [sZa, sZb, sZc]
        refine one_value (i := 15) (v := .bool true) (w' := wE) 142 (by kernel_rfl) rfl rfl (by rfl) (by kernel_rfl) hSE (fun _ => ?_)
        refine wpAnyH_done (by kernel_rfl) ?_ _
        simp only [sZa, sZb, sZc]
        have HSE : Hid (UW w wE qb rb mb (.slice ao N cap) n e (v1 : Int) (.slice vd vn vc) m) := hSE
        obtain ⟨m0, m1, m2, q0, q1, q2⟩ := HSE.out.facts
        clear hSE
        go_wp2
        try simp only [Exit.inBlock, Exit.then]
        obtain ⟨z0, z1⟩ := (QBlk.mk HSE.out.res).set (.int .i64 0) (.slice none 0 0)
        refine bodyPost_ret (ru_results rfl z0 z1) rfl ?_
        exact ⟨(HSE.out.bel.setCell (p := ⟨qb, 0, none⟩) HSE.out.qlo _).setCell (p := ⟨qb, 1, none⟩) HSE.out.qlo _, fun _ => rfl, fun h => by rw [HNF.out] at h; cases h⟩
end Go.Proofs.YtllmdfkiogmofaaGreatDoor
