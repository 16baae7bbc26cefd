/- Pack. -/
import Derived.Test.YtdidcombjmbkdaaDoorPkPut
namespace Go.Proofs.YtdidcombjmbkdaaDoor
open Go.RowKit Nums Fm Pk
open Cd (uw)
set_option maxRecDepth 100000

theorem Pk.right_facts {base : Int} {m : List RSt} (h : rightB base m = true) : 0 ≤ base ∧ base ≤ 1048576 ∧ formB 0 m = true := by
  unfold rightB at h
  by_cases h0 : m = []
  · rw [if_pos h0] at h
    have := of_decide_eq_true h
    subst h0
    exact ⟨by omega, by omega, rfl⟩
  · rw [if_neg h0] at h
    simp only [Bool.and_eq_true, decide_eq_true_eq] at h
    obtain ⟨⟨⟨⟨⟨h1, _⟩, h3⟩, _⟩, _⟩, _⟩ := h
    exact ⟨by omega, by omega, h3⟩
/-- While states are written. -/
structure QW (B : Nat) (w W : World) (vb : Value) (ys : List Nat) : Prop where
  bel : Below B w W
  byt : Cd.Bytes B W vb ys
theorem QW.uint {B : Nat} {w W : World} {vb : Value} {ys : List Nat} (h : QW B w W vb ys) (hB : B ≤ w.heap.size) (z : Int) (h0 : 0 ≤ z) (h1 : z < 18446744073709551616) (hl : ys.length + 10 ≤ 140737488355328) :
    Calls Tryd.prog 28 #[vb, .int .u64 z] W fun e w' => ∃ ad n cap, e = .returned (.slice ad n cap) ∧ QW B w w' (.slice ad n cap) (ys ++ uw z.toNat) := by
  refine (PutU B vb ys z W h.byt (Nat.le_trans hB h.bel.size) h0 h1 hl).mono ?_
  rintro e w' ⟨ad, n, cap, rfl, h2, h3, h4⟩
  exact ⟨ad, n, cap, rfl, h.bel.trans h3, h2⟩
/-- What Pack says. -/
structure PackSays (w w' : World) (base : Int) (m : List RSt) (e : Ending) : Prop where
  bel : Below w.heap.size w w'
  no : rightB base m = false → e = .returned (.tuple #[.slice none 0 0, .int .i64 80])
  yes : rightB base m = true → ∃ ad n cap, e = .returned (.tuple #[.slice ad n cap, .int .i64 0]) ∧ Cd.Bytes w.heap.size w' (.slice ad n cap) (packB base m)
set_option maxHeartbeats 4000000 in
theorem Pack_any (E : Nat) (w : World) (base : Int) (m : List RSt) (vs : Value) (h : StsAt E w vs m) (hE : E ≤ w.heap.size) (hT : Tabs w) (hm : m.length ≤ 1048576) :
    Calls Tryd.prog 14 #[.agg #[.int .i64 base, vs]] w fun e w' => PackSays w w' base m e := by
  obtain ⟨ad, cap, rfl⟩ := h.shape
  obtain ⟨n, hn⟩ : ∃ n, m.length = n := ⟨_, rfl⟩
  have HN : Hid (m.length = n) := hn
  obtain ⟨mb, hmb⟩ : ∃ mb, mb = w.heap.size := ⟨_, rfl⟩
  rw [hn] at h hm ⊢
  obtain ⟨W1, hW1⟩ : ∃ W1, W1 = w.alloc (.cells #[.int .i64 base, .slice ad n cap] 24) := ⟨_, rfl⟩
  have hbw : Below w.heap.size w W1 := by rw [hW1]; exact (Below.refl _ w).alloc (Nat.le_refl _) _
  have hm1 : W1.heap[mb]? = some (.cells #[.int .i64 base, .slice ad n cap] 24) := by rw [hW1, hmb]; exact alloc_newP _ _
  have HBW : Hid (Below w.heap.size w W1) := hbw
  have HM1 : Hid (W1.heap[mb]? = some (.cells #[.int .i64 base, .slice ad n cap] 24)) := hm1
  have HS : Hid (StsAt E w (.slice ad n cap) m) := h
  have HRI : Hid (Calls Tryd.prog 11 #[.agg #[.int .i64 base, .slice ad n cap]] W1 fun e w' => e = .returned (.bool (rightB base m)) ∧ Below W1.heap.size W1 w') := Right_any E W1 base m _ (h.below (hbw.mono hE)) (Nat.le_trans hE hbw.size) (hT.below hbw) (by rw [hn]; exact hm)
  have q0 : W1.cell? ⟨mb, 0, none⟩ = some (.int .i64 base) := by simp [World.cell?, hm1]
  have q1 : W1.cell? ⟨mb, 1, none⟩ = some (.slice ad n cap) := by simp [World.cell?, hm1]
  clear h hT hbw hm1 hn
  go_enter Tryd.func14, Tryd.ntmps14
  obtain ⟨R, hR⟩ : ∃ R, rightB base m = R := ⟨_, rfl⟩
  rw [hR] at HRI
  cases R with
  | false =>
    go_upto_region 1 with fail
    rw [← hW1, ← hmb]
    clear hW1 hmb
    go_wp2_with (go_at_call 11; refine HRI.out.mono ?_; rintro e w2 ⟨rfl, hb2⟩; have HB2 : Hid (Below W1.heap.size W1 w2) := hb2; clear hb2)
    go_returns
    exact ⟨HBW.out.trans (HB2.out.mono HBW.out.size), fun _ => rfl, fun h => by rw [hR] at h; cases h⟩
  | true =>
    obtain ⟨r0, r1, r2⟩ := right_facts hR
    have HFM : Hid (formB 0 m = true) := r2
    go_upto_region 1 with fail
    rw [← hW1, ← hmb]
    clear hW1 hmb
    go_upto_region 3 with (go_at_call 11; refine HRI.out.mono ?_; rintro e w2 ⟨rfl, hb2⟩; have HB2 : Hid (Below W1.heap.size W1 w2) := hb2; clear hb2)
    obtain ⟨B, hBe⟩ : ∃ B, B = w2.heap.size := ⟨_, rfl⟩
    have HBB : Hid (w.heap.size ≤ B ∧ B ≤ w2.heap.size ∧ E ≤ B ∧ mb < B) := by
      have h1 := HBW.out.size
      have h2 := HB2.out.size
      have h3 := (Array.getElem?_eq_some_iff.1 HM1.out).1
      exact ⟨by omega, by omega, by omega, by omega⟩
    have HBW2 : Hid (Below w.heap.size w w2) := HBW.out.trans (HB2.out.mono HBW.out.size)
    have HCL : Hid (∀ W, Below B w2 W → W.cell? ⟨mb, 0, none⟩ = some (.int .i64 base) ∧ W.cell? ⟨mb, 1, none⟩ = some (.slice ad n cap)) := fun W hW => by
      have h1 : W.heap[mb]? = some (.cells #[.int .i64 base, .slice ad n cap] 24) := (hW.block mb HBB.out.2.2.2).trans ((HB2.out.block mb (Array.getElem?_eq_some_iff.1 HM1.out).1).trans HM1.out)
      exact ⟨by simp [World.cell?, h1], by simp [World.cell?, h1]⟩
    have HQ2 : Hid (QW B w2 w2 (.slice none 0 0) []) := ⟨Below.refl _ _, Cd.Bytes.nil _ _⟩
    have HBL : Hid (B ≤ w2.heap.size) := HBB.out.2.1
    have l1 := uw_short (z := base) r0 (by omega)
    have l2 := uw_short (z := (n : Int)) (by omega) (by omega)
    clear q0 q1 hBe
    obtain ⟨q0, q1⟩ := HCL.out w2 (Below.refl _ _)
    go_upto_region 4 with (go_at_call 28; refine (HQ2.out.uint HBL.out base r0 (by omega) (by simp)).mono ?_; rintro e w3 ⟨d3, n3, c3, rfl, hq3⟩)
    have HQ3 : Hid (QW B w2 w3 (.slice d3 n3 c3) (uw base.toNat)) := hq3
    clear hq3 q0 q1
    obtain ⟨q0, q1⟩ := HCL.out w3 HQ3.out.bel
    go_upto_region 5 with (go_at_call 28; refine (HQ3.out.uint HBL.out (n : Int) (by omega) (by omega) (by omega)).mono ?_; rintro e w4 ⟨d4, n4, c4, rfl, hq4⟩)
    have HQ4 : Hid (QW B w2 w4 (.slice d4 n4 c4) (uw base.toNat ++ uw n)) := hq4
    clear hq4 q0 q1
    obtain ⟨q0, q1⟩ := HCL.out w4 HQ4.out.bel
    have HEQ : Hid ((uw base.toNat ++ uw n) ++ putM 0 (m.drop 0) = packB base m) := by show _ = _; rw [packB, HN.out]; simp
    have HLN : Hid ((uw base.toNat ++ uw n).length ≤ 20 + 0 * (20 + 30 * 1114112)) := by
      show _ ≤ _
      rw [Int.toNat_natCast] at l2
      simp
      omega
    generalize uw base.toNat ++ uw n = ys4 at *
    go_wp2
    go_loopg [4, 5, 6, 23] n (fun gm s4 _ _ s23 wr => ∃ (k : Nat) (bd : Option Addr) (bn bc : Nat) (ys : List Nat), s23 = .int .i64 k ∧ k ≤ n ∧ n - k ≤ gm ∧ s4 = .slice bd bn bc ∧ Hid (QW B w2 wr (.slice bd bn bc) ys) ∧ Hid (ys ++ putM k (m.drop k) = packB base m) ∧ Hid (ys.length ≤ 20 + k * (20 + 30 * 1114112)))
    case atStart => exact ⟨0, _, _, _, _, rfl, Nat.zero_le _, by omega, rfl, HQ4, HEQ, HLN⟩
    case round =>
      obtain ⟨k, bd, bn, bc, ys, rfl, hk, hgm, rfl, HQ, HE, HL⟩ := hrel
      clear q0 q1
      by_cases hlt : k < n
      · have hltz : (k : Int) < (n : Int) := by omega
        obtain ⟨s, hs⟩ : ∃ s, m[k]? = some s := ⟨m[k]'(by have := HN.out; omega), List.getElem?_eq_getElem _⟩
        have hSr := HS.out.below ((HBW2.out.mono hE).trans (HQ.out.bel.mono HBB.out.2.2.1))
        obtain ⟨g, off, va, rfl, hg, c0, c1, c2, hA⟩ := hSr.at hs
        obtain ⟨vd, vc, hva⟩ := hA.shape
        obtain ⟨na, hna⟩ : ∃ na, s.arcs.length = na := ⟨_, rfl⟩
        rw [hna] at hva
        subst hva
        have hFS := form_get m 0 k s HFM.out hs
        rw [Nat.zero_add] at hFS
        have hso := HS.out.ok s (List.mem_of_getElem? hs)
        have HPM : Hid ((ys ++ putS s k) ++ putM (k + 1) (m.drop (k + 1)) = packB base m) := by show _ = _; rw [← HE.out, putM_at hs, List.append_assoc]
        obtain ⟨sb, hsb⟩ : ∃ sb, sb = wr.heap.size := ⟨_, rfl⟩
        obtain ⟨V1, hV1⟩ : ∃ V1, V1 = wr.alloc (.cells #[.bool s.final, .int .i64 s.out, .slice vd na vc] 44) := ⟨_, rfl⟩
        have hvb : Below wr.heap.size wr V1 := by rw [hV1]; exact (Below.refl _ wr).alloc (Nat.le_refl _) _
        have hx1 : V1.heap[sb]? = some (.cells #[.bool s.final, .int .i64 s.out, .slice vd na vc] 44) := by rw [hV1, hsb]; exact alloc_newP _ _
        have e0 : V1.cell? ⟨sb, 0, none⟩ = some (.bool s.final) := by simp [World.cell?, hx1]
        have e1 : V1.cell? ⟨sb, 1, none⟩ = some (.int .i64 s.out) := by simp [World.cell?, hx1]
        have e2 : V1.cell? ⟨sb, 2, none⟩ = some (.slice vd na vc) := by simp [World.cell?, hx1]
        have hBr : B ≤ wr.heap.size := Nat.le_trans HBL.out HQ.out.bel.size
        have HBV : Hid (Below B w2 V1) := HQ.out.bel.trans (hvb.mono hBr)
        have hlen := HL.out
        have HPS : Hid (Calls Tryd.prog 29 #[.slice bd bn bc, .agg #[.bool s.final, .int .i64 s.out, .slice vd na vc], .int .i64 k] V1 fun e w' => ∃ ad m cap, e = .returned (.slice ad m cap) ∧ Cd.Bytes B w' (.slice ad m cap) (ys ++ putS s k) ∧ Below B V1 w' ∧ (putS s k).length ≤ 20 + 30 * 1114112) :=
          putState_any E B V1 _ ys s _ k (HQ.out.byt.below hvb) (hA.below (hvb.mono (Nat.le_trans HBB.out.2.2.1 hBr))) HBB.out.2.2.1 (Nat.le_trans hBr hvb.size) hFS (by
            have : k * (20 + 30 * 1114112) ≤ 1048576 * (20 + 30 * 1114112) := Nat.mul_le_mul_right _ (by omega)
            omega) hso (by omega)
        clear hs hSr hA hna hFS hso hvb hx1
        go_upto_region 8 with fail
        rw [← hsb, ← hV1]
        clear hsb hV1 c0 c1 c2
        go_upto_region 9 with (go_at_call 29; refine HPS.out.mono ?_; rintro e V2 ⟨d5, n5, c5, rfl, hby, hbl, hpl⟩)
        have HQ5 : Hid (QW B w2 V2 (.slice d5 n5 c5) (ys ++ putS s k)) := ⟨HBV.out.trans hbl, hby⟩
        have HL5 : Hid ((ys ++ putS s k).length ≤ 20 + (k + 1) * (20 + 30 * 1114112)) := by
          show _ ≤ _
          rw [List.length_append, Nat.add_mul]
          omega
        clear hby hbl hpl e0 e1 e2
        go_wp2
        go_roundg (n - (k + 1))
        case measure => omega
        case rel => exact ⟨k + 1, _, _, _, _, by go_num, by omega, Nat.le_refl _, rfl, HQ5, HPM, HL5⟩
      · have hltz : ¬ (k : Int) < (n : Int) := by omega
        have hys : ys = packB base m := by
          have := HE.out
          rw [List.drop_of_length_le (by have := HN.out; omega), putM, List.append_nil] at this
          exact this
        go_wp2
        go_returns
        refine ⟨HBW2.out.trans (HQ.out.bel.mono HBB.out.1), fun h => (by rw [hR] at h; cases h), fun _ => ⟨_, _, _, rfl, ?_⟩⟩
        rw [← hys]
        exact HQ.out.byt.mono HBB.out.1
end Go.Proofs.YtdidcombjmbkdaaDoor
