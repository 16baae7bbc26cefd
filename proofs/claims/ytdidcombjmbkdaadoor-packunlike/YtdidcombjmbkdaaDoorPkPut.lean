/- putState. -/
import Derived.Test.YtdidcombjmbkdaaDoorPkRight
import Derived.Test.YtdidcombjmbkdaaDoorCdA
namespace Go.Proofs.YtdidcombjmbkdaaDoor
open Go.RowKit Nums Fm Pk
open Cd (uw)
set_option maxRecDepth 100000

theorem PutU (B : Nat) (v : Value) (xs : List Nat) (z : Int) (w : World) (hown : Cd.Bytes B w v xs) (hB : B ≤ w.heap.size) (h0 : 0 ≤ z) (h1 : z < 18446744073709551616) (hl : xs.length + 10 ≤ 140737488355328) :
    Calls Tryd.prog 28 #[v, .int .u64 z] w fun e w' => ∃ ad n cap, e = .returned (.slice ad n cap) ∧ Cd.Bytes B w' (.slice ad n cap) (xs ++ uw z.toNat) ∧ Below B w w' ∧ Cd.TF w w' := by
  have := Cd.PutUint_tf B v xs z.toNat w hown hB (by omega) hl
  rw [Int.toNat_of_nonneg h0] at this
  refine this.mono ?_
  rintro e w' ⟨v', rfl, h2, h3, h4⟩
  obtain ⟨ao, cap, rfl, _⟩ := h2.row.shape
  exact ⟨_, _, _, rfl, h2, h3, h4⟩
theorem uw_short {z : Int} (h0 : 0 ≤ z) (h1 : z < 18446744073709551616) : (uw z.toNat).length ≤ 10 := (Cd.uw_len10 (n := z.toNat) (by omega)).2
/-- While a state is written: the bytes so far, the state in its box. -/
structure PW (B : Nat) (w W : World) (sb : Nat) (s : RSt) (va vb : Value) (ys : List Nat) : Prop where
  bel : Below B w W
  byt : Cd.Bytes B W vb ys
  box : W.heap[sb]? = some (.cells #[.bool s.final, .int .i64 s.out, va] 44)
theorem PW.facts {B : Nat} {w W : World} {sb : Nat} {s : RSt} {va vb : Value} {ys : List Nat} (h : PW B w W sb s va vb ys) : W.cell? ⟨sb, 0, none⟩ = some (.bool s.final) ∧ W.cell? ⟨sb, 1, none⟩ = some (.int .i64 s.out) ∧ W.cell? ⟨sb, 2, none⟩ = some va := ⟨by simp [World.cell?, h.box], by simp [World.cell?, h.box], by simp [World.cell?, h.box]⟩
theorem PW.grow {B : Nat} {w W W' : World} {sb : Nat} {s : RSt} {va vb : Value} {ys : List Nat} (h : PW B w W sb s va vb ys) (hb : Below W.heap.size W W') (hB : B ≤ w.heap.size) : PW B w W' sb s va vb ys :=
  ⟨h.bel.trans (hb.mono (Nat.le_trans hB h.bel.size)), h.byt.below hb, (hb.block sb (Array.getElem?_eq_some_iff.1 h.box).1).trans h.box⟩
theorem PW.put {B : Nat} {w W W' : World} {sb : Nat} {s : RSt} {va vb vb' : Value} {ys ys' : List Nat} (h : PW B w W sb s va vb ys) (h1 : Cd.Bytes B W' vb' ys') (h2 : Below B W W') (h3 : Cd.TF W W') : PW B w W' sb s va vb' ys' :=
  ⟨h.bel.trans h2, h1, (h3.keep sb _ _ h.box (by decide)).trans h.box⟩
/-- One number more. -/
theorem PW.uint {B : Nat} {w W : World} {sb : Nat} {s : RSt} {va vb : Value} {ys : List Nat} (h : PW B w W sb s va vb ys) (hB : B ≤ w.heap.size) (z : Int) (h0 : 0 ≤ z) (h1 : z < 18446744073709551616) (hl : ys.length + 10 ≤ 140737488355328) :
    Calls Tryd.prog 28 #[vb, .int .u64 z] W fun e w' => ∃ ad n cap, e = .returned (.slice ad n cap) ∧ PW B w w' sb s va (.slice ad n cap) (ys ++ uw z.toNat) ∧ Cd.TF W w' := by
  refine (PutU B vb ys z W h.byt (Nat.le_trans hB h.bel.size) h0 h1 hl).mono ?_
  rintro e w' ⟨ad, n, cap, rfl, h2, h3, h4⟩
  exact ⟨ad, n, cap, rfl, h.put h2 h3 h4, h4⟩
set_option maxHeartbeats 4000000 in
theorem putState_any (E B : Nat) (w : World) (vb : Value) (xs : List Nat) (s : RSt) (va : Value) (n : Nat) (hb : Cd.Bytes B w vb xs) (ha : ArcsAt E w va s.arcs) (hEB : E ≤ B) (hB : B ≤ w.heap.size) (hF : formS s n = true) (hl : xs.length ≤ 100000000000000) (hso : Fits64 s.out) (hn : n ≤ 1048576) :
    Calls Tryd.prog 29 #[vb, .agg #[.bool s.final, .int .i64 s.out, va], .int .i64 n] w fun e w' => ∃ ad m cap, e = .returned (.slice ad m cap) ∧ Cd.Bytes B w' (.slice ad m cap) (xs ++ putS s n) ∧ Below B w w' ∧ (putS s n).length ≤ 20 + 30 * 1114112 := by
  obtain ⟨f1, f2, f3⟩ := form_facts hF
  obtain ⟨ad, cap, rfl⟩ := ha.shape
  obtain ⟨na, hna⟩ : ∃ na, s.arcs.length = na := ⟨_, rfl⟩
  have HNA : Hid (s.arcs.length = na) := hna
  have hh0 := head_ge s
  have hh1 : headS s ≤ 2228225 := by unfold headS; split <;> omega
  have HHD : Hid (∀ W, Calls Tryd.prog 53 #[.agg #[.bool s.final, .int .i64 s.out, .slice ad na cap]] W fun e w' => e = .returned (.int .u64 (headS s)) ∧ Gr W w') := fun W => by
    have := head_any s ad cap W f3
    rw [hna] at this
    exact this
  have HP : Hid (putS s n = uw (headS s).toNat ++ ((if s.final then uw s.out.toNat else []) ++ putA n 0 s.arcs)) := rfl
  have HA : Hid (ArcsAt E w (.slice ad s.arcs.length cap) s.arcs) := ha
  have HF : Hid (formS s n = true) := hF
  have HBY : Hid (Cd.Bytes B w vb xs) := hb
  rw [hna] at HA f3 ⊢
  obtain ⟨sb, hsb⟩ : ∃ sb, sb = w.heap.size := ⟨_, rfl⟩
  obtain ⟨W1, hW1⟩ : ∃ W1, W1 = w.alloc (.cells #[.bool s.final, .int .i64 s.out, .slice ad na cap] 44) := ⟨_, rfl⟩
  have hbw : Below w.heap.size w W1 := by rw [hW1]; exact (Below.refl _ w).alloc (Nat.le_refl _) _
  have hs1 : W1.heap[sb]? = some (.cells #[.bool s.final, .int .i64 s.out, .slice ad na cap] 44) := by rw [hW1, hsb]; exact alloc_newP _ _
  have HW1 : Hid (PW B w W1 sb s (.slice ad na cap) vb xs) := ⟨hbw.mono hB, hb.below hbw, hs1⟩
  obtain ⟨p0, p1, p2⟩ := HW1.out.facts
  obtain ⟨hs1', hs2'⟩ := hso
  have hsl : (uw (headS s).toNat).length ≤ 10 := uw_short hh0 (by omega)
  have hsl2 : (uw s.out.toNat).length ≤ 10 := uw_short f2 (by omega)
  obtain ⟨bd, bn, bc, rfl⟩ : ∃ bd bn bc, vb = .slice bd bn bc := by
    obtain ⟨ao, cap, e, _⟩ := hb.row.shape
    exact ⟨_, _, _, e⟩
  clear hb ha hna hs1 hbw
  go_enter Tryd.func29, Tryd.ntmps29
  go_upto_region 1 with fail
  rw [← hsb, ← hW1]
  clear hsb hW1
  go_upto_region 2 with (first
    | (go_at_call 53; refine (HHD.out _).mono ?_; rintro e w2 ⟨rfl, hg2⟩; have HW2 : Hid (PW B w w2 sb s (.slice ad na cap) (.slice bd bn bc) xs) := HW1.out.grow hg2.bel hB; clear hg2)
    | (go_at_call 28; refine (HW2.out.uint hB _ hh0 (by omega) (by omega)).mono ?_; rintro e w3 ⟨bd3, bn3, bc3, rfl, hp3, _⟩; have HW3 : Hid (PW B w w3 sb s (.slice ad na cap) (.slice bd3 bn3 bc3) (xs ++ uw (headS s).toNat)) := hp3; clear hp3))
  clear p0 p1 p2
  obtain ⟨p0, p1, p2⟩ := HW3.out.facts
  obtain ⟨fn, hfn⟩ : ∃ fn, s.final = fn := ⟨_, rfl⟩
  cases fn with
  | true =>
    rw [hfn] at p0
    have HEQ : Hid ((xs ++ uw (headS s).toNat ++ uw s.out.toNat) ++ putA n (aheadL s.arcs 0) (s.arcs.drop 0) = xs ++ putS s n) := by show _ = _; rw [HP.out, hfn, if_pos rfl]; simp [aheadL]
    go_upto_region 4 with (go_at_call 28; refine (HW3.out.uint hB _ f2 (by omega) (by simp; omega)).mono ?_; rintro e w4 ⟨bd4, bn4, bc4, rfl, hp4, _⟩; have HW4 : Hid (PW B w w4 sb s (.slice ad na cap) (.slice bd4 bn4 bc4) (xs ++ uw (headS s).toNat ++ uw s.out.toNat)) := hp4; clear hp4)
    have HLN : Hid ((xs ++ uw (headS s).toNat ++ uw s.out.toNat).length ≤ xs.length + 20 + 30 * 0) := by show _ ≤ _; simp; omega
    clear p0 p1 p2
    obtain ⟨p0, p1, p2⟩ := HW4.out.facts
    clear hfn
    generalize xs ++ uw (headS s).toNat ++ uw s.out.toNat = ys4 at *
    go_wp2
    go_loopg [0, 7, 9, 24] na (fun gm s0 s7 _ s24 wr => ∃ (k : Nat) (bd : Option Addr) (bn bc : Nat) (ys : List Nat), s24 = .int .i64 k ∧ k ≤ na ∧ na - k ≤ gm ∧ s0 = .slice bd bn bc ∧ s7 = .int .i32 (aheadL s.arcs k) ∧ Hid (PW B w wr sb s (.slice ad na cap) (.slice bd bn bc) ys) ∧ Hid (ys ++ putA n (aheadL s.arcs k) (s.arcs.drop k) = xs ++ putS s n) ∧ Hid (ys.length ≤ xs.length + 20 + 30 * k))
    case atStart => exact ⟨0, _, _, _, _, rfl, Nat.zero_le _, by omega, rfl, rfl, HW4, HEQ, HLN⟩
    case round =>
      obtain ⟨k, bd, bn, bc, ys, rfl, hk, hgm, rfl, rfl, HW, HQ, HL⟩ := hrel
      clear p0 p1 p2
      by_cases hlt : k < na
      · have hltz : (k : Int) < (na : Int) := by omega
        obtain ⟨x, hx⟩ : ∃ x, s.arcs[k]? = some x := ⟨s.arcs[k]'(by have := HNA.out; omega), List.getElem?_eq_getElem _⟩
        obtain ⟨a0, a1, a2, a3, a4, a5⟩ := arc_at HF.out hx
        have HPA : Hid (ys ++ uw (x.label - aheadL s.arcs k).toNat ++ uw x.out.toNat ++ uw ((n : Int) - x.to).toNat ++ putA n (aheadL s.arcs (k + 1)) (s.arcs.drop (k + 1)) = xs ++ putS s n) := by
          show _ = _
          rw [← HQ.out, putA_at hx]
          simp only [List.append_assoc]
        have HAH : Hid (aheadL s.arcs (k + 1) = x.label) := by show _ = _; rw [aheadL, hx]; rfl
        have hxo := HA.out.ok x (List.mem_of_getElem? hx)
        obtain ⟨⟨o0, o1⟩, ⟨o2, o3⟩, ⟨o4, o5⟩⟩ := hxo
        obtain ⟨g, off, rfl, hg, c0, c1, c2⟩ := (HA.out.below (HW.out.bel.mono hEB)).at hx
        have l1 := uw_short (z := x.label - aheadL s.arcs k) (by omega) (by omega)
        have l2 := uw_short (z := x.out) a3 (by omega)
        have l3 := uw_short (z := (n : Int) - x.to) (by omega) (by omega)
        generalize aheadL s.arcs k = p at *
        obtain ⟨xb, hxb⟩ : ∃ xb, xb = wr.heap.size := ⟨_, rfl⟩
        obtain ⟨V1, hV1⟩ : ∃ V1, V1 = wr.alloc (.cells #[.int .i32 x.label, .int .i64 x.out, .int .i64 x.to] 74) := ⟨_, rfl⟩
        have hvb : Below wr.heap.size wr V1 := by rw [hV1]; exact (Below.refl _ wr).alloc (Nat.le_refl _) _
        have hx1 : V1.heap[xb]? = some (.cells #[.int .i32 x.label, .int .i64 x.out, .int .i64 x.to] 74) := by rw [hV1, hxb]; exact alloc_newP _ _
        have HV1 := HW.out.grow hvb hB
        have HX1 : Hid (V1.heap[xb]? = some (.cells #[.int .i32 x.label, .int .i64 x.out, .int .i64 x.to] 74)) := hx1
        have e0 : V1.cell? ⟨xb, 0, none⟩ = some (.int .i32 x.label) := by simp [World.cell?, hx1]
        have hlen := HL.out
        have HVV : Hid (PW B w V1 sb s (.slice (some ⟨g, off, none⟩) na cap) (.slice bd bn bc) ys) := HV1
        clear hx hvb hx1 HV1
        go_upto_region 8 with fail
        rw [← hxb, ← hV1]
        clear hxb hV1 c0 c1 c2
        go_upto_region 9 with (go_at_call 28; refine (HVV.out.uint hB (x.label - p) (by omega) (by omega) (by omega)).mono ?_; rintro e V2 ⟨bd2, bn2, bc2, rfl, hp2, ht2⟩)
        have hx2 := (ht2.keep xb _ _ HX1.out (by decide)).trans HX1.out
        have e1 : V2.cell? ⟨xb, 1, none⟩ = some (.int .i64 x.out) := by simp [World.cell?, hx2]
        have HX2 : Hid (V2.heap[xb]? = some (.cells #[.int .i32 x.label, .int .i64 x.out, .int .i64 x.to] 74)) := hx2
        have HP2 : Hid (PW B w V2 sb s (.slice (some ⟨g, off, none⟩) na cap) (.slice bd2 bn2 bc2) (ys ++ uw (x.label - p).toNat)) := hp2
        clear ht2 hp2 hx2 e0
        go_upto_region 10 with (go_at_call 28; refine (HP2.out.uint hB x.out a3 (by omega) (by simp; omega)).mono ?_; rintro e V3 ⟨bd3', bn3', bc3', rfl, hp3, ht3⟩)
        have hx3 := (ht3.keep xb _ _ HX2.out (by decide)).trans HX2.out
        have e2 : V3.cell? ⟨xb, 2, none⟩ = some (.int .i64 x.to) := by simp [World.cell?, hx3]
        have HX3 : Hid (V3.heap[xb]? = some (.cells #[.int .i32 x.label, .int .i64 x.out, .int .i64 x.to] 74)) := hx3
        have HP3 : Hid (PW B w V3 sb s (.slice (some ⟨g, off, none⟩) na cap) (.slice bd3' bn3' bc3') (ys ++ uw (x.label - p).toNat ++ uw x.out.toNat)) := hp3
        clear ht3 hp3 hx3 e1
        go_upto_region 11 with (go_at_call 28; refine (HP3.out.uint hB ((n : Int) - x.to) (by omega) (by omega) (by simp; omega)).mono ?_; rintro e V4 ⟨bd4', bn4', bc4', rfl, hp4, ht4⟩)
        have hx4 := (ht4.keep xb _ _ HX3.out (by decide)).trans HX3.out
        have e3 : V4.cell? ⟨xb, 0, none⟩ = some (.int .i32 x.label) := by simp [World.cell?, hx4]
        have HP4 : Hid (PW B w V4 sb s (.slice (some ⟨g, off, none⟩) na cap) (.slice bd4' bn4' bc4') (ys ++ uw (x.label - p).toNat ++ uw x.out.toNat ++ uw ((n : Int) - x.to).toNat)) := hp4
        have HL4 : Hid ((ys ++ uw (x.label - p).toNat ++ uw x.out.toNat ++ uw ((n : Int) - x.to).toNat).length ≤ xs.length + 20 + 30 * (k + 1)) := by show _ ≤ _; simp; omega
        clear ht4 hp4 hx4 e2
        go_wp2
        go_roundg (na - (k + 1))
        case measure => omega
        case rel => exact ⟨k + 1, _, _, _, _, by go_num, by omega, Nat.le_refl _, rfl, by rw [HAH.out], HP4, HPA, HL4⟩
      · have hltz : ¬ (k : Int) < (na : Int) := by omega
        have hys : ys = xs ++ putS s n := by
          have := HQ.out
          rw [List.drop_of_length_le (by have := HNA.out; omega), putA, List.append_nil] at this
          exact this
        have hlen := HL.out
        have HLL : Hid ((putS s n).length ≤ 20 + 30 * 1114112) := by
          show _ ≤ _
          rw [hys, List.length_append] at hlen
          omega
        go_wp2
        go_ret
        exact ⟨_, _, _, rfl, by rw [← hys]; exact HW.out.byt, HW.out.bel, HLL.out⟩
  | false =>
    rw [hfn] at p0
    have HEQ : Hid ((xs ++ uw (headS s).toNat) ++ putA n (aheadL s.arcs 0) (s.arcs.drop 0) = xs ++ putS s n) := by show _ = _; rw [HP.out, hfn]; simp [aheadL]
    have HLN : Hid ((xs ++ uw (headS s).toNat).length ≤ xs.length + 20 + 30 * 0) := by show _ ≤ _; simp; omega
    have HW4 : Hid (PW B w w3 sb s (.slice ad na cap) (.slice bd3 bn3 bc3) (xs ++ uw (headS s).toNat)) := HW3
    clear hfn
    generalize xs ++ uw (headS s).toNat = ys4 at *
    go_wp2
    go_loopg [0, 7, 9, 24] na (fun gm s0 s7 _ s24 wr => ∃ (k : Nat) (bd : Option Addr) (bn bc : Nat) (ys : List Nat), s24 = .int .i64 k ∧ k ≤ na ∧ na - k ≤ gm ∧ s0 = .slice bd bn bc ∧ s7 = .int .i32 (aheadL s.arcs k) ∧ Hid (PW B w wr sb s (.slice ad na cap) (.slice bd bn bc) ys) ∧ Hid (ys ++ putA n (aheadL s.arcs k) (s.arcs.drop k) = xs ++ putS s n) ∧ Hid (ys.length ≤ xs.length + 20 + 30 * k))
    case atStart => exact ⟨0, _, _, _, _, rfl, Nat.zero_le _, by omega, rfl, rfl, HW4, HEQ, HLN⟩
    case round =>
      obtain ⟨k, bd, bn, bc, ys, rfl, hk, hgm, rfl, rfl, HW, HQ, HL⟩ := hrel
      clear p0 p1 p2
      by_cases hlt : k < na
      · have hltz : (k : Int) < (na : Int) := by omega
        obtain ⟨x, hx⟩ : ∃ x, s.arcs[k]? = some x := ⟨s.arcs[k]'(by have := HNA.out; omega), List.getElem?_eq_getElem _⟩
        obtain ⟨a0, a1, a2, a3, a4, a5⟩ := arc_at HF.out hx
        have HPA : Hid (ys ++ uw (x.label - aheadL s.arcs k).toNat ++ uw x.out.toNat ++ uw ((n : Int) - x.to).toNat ++ putA n (aheadL s.arcs (k + 1)) (s.arcs.drop (k + 1)) = xs ++ putS s n) := by
          show _ = _
          rw [← HQ.out, putA_at hx]
          simp only [List.append_assoc]
        have HAH : Hid (aheadL s.arcs (k + 1) = x.label) := by show _ = _; rw [aheadL, hx]; rfl
        have hxo := HA.out.ok x (List.mem_of_getElem? hx)
        obtain ⟨⟨o0, o1⟩, ⟨o2, o3⟩, ⟨o4, o5⟩⟩ := hxo
        obtain ⟨g, off, rfl, hg, c0, c1, c2⟩ := (HA.out.below (HW.out.bel.mono hEB)).at hx
        have l1 := uw_short (z := x.label - aheadL s.arcs k) (by omega) (by omega)
        have l2 := uw_short (z := x.out) a3 (by omega)
        have l3 := uw_short (z := (n : Int) - x.to) (by omega) (by omega)
        generalize aheadL s.arcs k = p at *
        obtain ⟨xb, hxb⟩ : ∃ xb, xb = wr.heap.size := ⟨_, rfl⟩
        obtain ⟨V1, hV1⟩ : ∃ V1, V1 = wr.alloc (.cells #[.int .i32 x.label, .int .i64 x.out, .int .i64 x.to] 74) := ⟨_, rfl⟩
        have hvb : Below wr.heap.size wr V1 := by rw [hV1]; exact (Below.refl _ wr).alloc (Nat.le_refl _) _
        have hx1 : V1.heap[xb]? = some (.cells #[.int .i32 x.label, .int .i64 x.out, .int .i64 x.to] 74) := by rw [hV1, hxb]; exact alloc_newP _ _
        have HV1 := HW.out.grow hvb hB
        have HX1 : Hid (V1.heap[xb]? = some (.cells #[.int .i32 x.label, .int .i64 x.out, .int .i64 x.to] 74)) := hx1
        have e0 : V1.cell? ⟨xb, 0, none⟩ = some (.int .i32 x.label) := by simp [World.cell?, hx1]
        have hlen := HL.out
        have HVV : Hid (PW B w V1 sb s (.slice (some ⟨g, off, none⟩) na cap) (.slice bd bn bc) ys) := HV1
        clear hx hvb hx1 HV1
        go_upto_region 8 with fail
        rw [← hxb, ← hV1]
        clear hxb hV1 c0 c1 c2
        go_upto_region 9 with (go_at_call 28; refine (HVV.out.uint hB (x.label - p) (by omega) (by omega) (by omega)).mono ?_; rintro e V2 ⟨bd2, bn2, bc2, rfl, hp2, ht2⟩)
        have hx2 := (ht2.keep xb _ _ HX1.out (by decide)).trans HX1.out
        have e1 : V2.cell? ⟨xb, 1, none⟩ = some (.int .i64 x.out) := by simp [World.cell?, hx2]
        have HX2 : Hid (V2.heap[xb]? = some (.cells #[.int .i32 x.label, .int .i64 x.out, .int .i64 x.to] 74)) := hx2
        have HP2 : Hid (PW B w V2 sb s (.slice (some ⟨g, off, none⟩) na cap) (.slice bd2 bn2 bc2) (ys ++ uw (x.label - p).toNat)) := hp2
        clear ht2 hp2 hx2 e0
        go_upto_region 10 with (go_at_call 28; refine (HP2.out.uint hB x.out a3 (by omega) (by simp; omega)).mono ?_; rintro e V3 ⟨bd3', bn3', bc3', rfl, hp3, ht3⟩)
        have hx3 := (ht3.keep xb _ _ HX2.out (by decide)).trans HX2.out
        have e2 : V3.cell? ⟨xb, 2, none⟩ = some (.int .i64 x.to) := by simp [World.cell?, hx3]
        have HX3 : Hid (V3.heap[xb]? = some (.cells #[.int .i32 x.label, .int .i64 x.out, .int .i64 x.to] 74)) := hx3
        have HP3 : Hid (PW B w V3 sb s (.slice (some ⟨g, off, none⟩) na cap) (.slice bd3' bn3' bc3') (ys ++ uw (x.label - p).toNat ++ uw x.out.toNat)) := hp3
        clear ht3 hp3 hx3 e1
        go_upto_region 11 with (go_at_call 28; refine (HP3.out.uint hB ((n : Int) - x.to) (by omega) (by omega) (by simp; omega)).mono ?_; rintro e V4 ⟨bd4', bn4', bc4', rfl, hp4, ht4⟩)
        have hx4 := (ht4.keep xb _ _ HX3.out (by decide)).trans HX3.out
        have e3 : V4.cell? ⟨xb, 0, none⟩ = some (.int .i32 x.label) := by simp [World.cell?, hx4]
        have HP4 : Hid (PW B w V4 sb s (.slice (some ⟨g, off, none⟩) na cap) (.slice bd4' bn4' bc4') (ys ++ uw (x.label - p).toNat ++ uw x.out.toNat ++ uw ((n : Int) - x.to).toNat)) := hp4
        have HL4 : Hid ((ys ++ uw (x.label - p).toNat ++ uw x.out.toNat ++ uw ((n : Int) - x.to).toNat).length ≤ xs.length + 20 + 30 * (k + 1)) := by show _ ≤ _; simp; omega
        clear ht4 hp4 hx4 e2
        go_wp2
        go_roundg (na - (k + 1))
        case measure => omega
        case rel => exact ⟨k + 1, _, _, _, _, by go_num, by omega, Nat.le_refl _, rfl, by rw [HAH.out], HP4, HPA, HL4⟩
      · have hltz : ¬ (k : Int) < (na : Int) := by omega
        have hys : ys = xs ++ putS s n := by
          have := HQ.out
          rw [List.drop_of_length_le (by have := HNA.out; omega), putA, List.append_nil] at this
          exact this
        have hlen := HL.out
        have HLL : Hid ((putS s n).length ≤ 20 + 30 * 1114112) := by
          show _ ≤ _
          rw [hys, List.length_append] at hlen
          omega
        go_wp2
        go_ret
        exact ⟨_, _, _, rfl, by rw [← hys]; exact HW.out.byt, HW.out.bel, HLL.out⟩
end Go.Proofs.YtdidcombjmbkdaaDoor
