/- Texts that were written apart, joined. -/
import Derived.Test.YtllmdfkiogmofaaGreatDoorG5
import Derived.Test.YtllmdfkiogmofaaGreatDoorG4
import Derived.Test.YtllmdfkiogmofaaGreatDoorG2
/- codec.PutUint and the reference's Uint: a number's bytes. -/
namespace Go.Proofs.YtllmdfkiogmofaaGreatDoor.Cd
open Go.RowKit
set_option maxRecDepth 100000

theorem row_one (w : World) (z : Int) (n : Nat) (hz : z = n) : Row (w.heap.size + 1) (w.alloc (Obj.cells #[.int .u8 z] 5)) (.slice (some ⟨w.heap.size, 0, none⟩) 1 1) [n] := by
  subst hz
  exact ⟨_, _, rfl, by simp, fun h => by (cases h), fun _ => ⟨_, _, rfl, by omega, fun i hi => by
    obtain rfl : i = 0 := by simpa using hi
    simp⟩⟩
theorem Bytes.alloc {B : Nat} {w : World} {v : Value} {xs : List Nat} (h : Bytes B w v xs) (o : Obj) : Bytes B (w.alloc o) v xs := h.below ((Below.refl _ _).alloc (Nat.le_refl _) o)

/-- Nothing but rows of bytes is written. -/
structure TF (w w' : World) : Prop where
  os : w'.os = w.os
  tape : w'.tape = w.tape
  output : w'.output = w.output
  size : w.heap.size ≤ w'.heap.size
  keep : ∀ (j : Nat) (cur : Array Value) (T : TypeId), w.heap[j]? = some (Obj.cells cur T (0, 0)) → T ≠ 5 → w'.heap[j]? = w.heap[j]?
theorem TF.refl (w : World) : TF w w := ⟨rfl, rfl, rfl, Nat.le_refl _, fun _ _ _ _ _ => rfl⟩
theorem TF.trans {w w1 w2 : World} (h1 : TF w w1) (h2 : TF w1 w2) : TF w w2 := ⟨h2.os.trans h1.os, h2.tape.trans h1.tape, h2.output.trans h1.output, Nat.le_trans h1.size h2.size, fun j cur T hj hT => by
  have e := h1.keep j cur T hj hT
  exact (h2.keep j cur T (e.trans hj) hT).trans e⟩
theorem TF.of_below {w w' : World} (h : Below w.heap.size w w') : TF w w' := ⟨h.os, h.tape, h.output, h.size, fun j _ _ hj _ => h.block j (Array.getElem?_eq_some_iff.1 hj).1⟩
theorem TF.alloc {w w1 : World} (h : TF w w1) (o : Obj) : TF w (w1.alloc o) := h.trans (TF.of_below ((Below.refl _ w1).alloc (Nat.le_refl _) o))
theorem TF.grown {B : Nat} {w w' : World} {v : Value} {xs : List Nat} (ho : Bytes B w v xs) (h : w.grownBy w' v.ownBlock) : TF w w' := ⟨h.os, h.tape, h.output, h.size, fun j cur T hj hT => by
  refine h.block j (Array.getElem?_eq_some_iff.1 hj).1 (fun e => ?_)
  obtain ⟨_, ⟨e1, _⟩ | ⟨g, cap, c2, rfl, _, hg, _⟩⟩ := ho
  · rw [e1] at e; cases e
  · simp only [Value.ownBlock, Option.some.injEq] at e
    subst e
    rw [hj] at hg
    simp only [Option.some.injEq, Obj.cells.injEq] at hg
    exact hT hg.2.1⟩
set_option maxHeartbeats 2000000 in
theorem PutUint_tf (B : Nat) (v : Value) (xs : List Nat) (n : Nat) (w : World) (hown : Bytes B w v xs) (hB : B ≤ w.heap.size) (hn : n < 18446744073709551616) (hl : xs.length + 10 ≤ 140737488355328) :
    Calls Tryz.prog 43 #[v, .int .u64 (n : Int)] w fun e w' => ∃ v', e = .returned v' ∧ Bytes B w' v' (xs ++ uw n) ∧ Below B w w' ∧ TF w w' := by
  have hul := uw_len10 hn
  go_enter Tryz.func43, Tryz.ntmps43
  go_wp2
  go_loopw [0, 1] (fun vb vn wr => ∃ (k : Nat) (ys : List Nat), vn = .int .u64 (k : Int) ∧ k < 18446744073709551616 ∧ Bytes B wr vb ys ∧ ys ++ uw k = xs ++ uw n ∧ Below B w wr ∧ TF w wr)
    (fun _ vn _ => (intOf vn).toNat)
  case atStart => exact ⟨n, xs, rfl, hn, hown, rfl, Below.refl _ _, TF.refl _⟩
  case round =>
    obtain ⟨k, ys, rfl, hk, hown1, heq, hbel, htf⟩ := hrel
    have hlen : ys.length + (uw k).length = xs.length + (uw n).length := by rw [← List.length_append, heq, List.length_append]
    have hkl := (uw_len10 hk).1
    have HE : Hid (ys ++ uw k = xs ++ uw n) := heq
    have hsz := hbel.size
    clear heq
    by_cases h : 128 ≤ k
    · have HU : Hid (uw k = (k % 128 + 128) :: uw (k / 128)) := uw_ge h
      go_wp2_with (at_builtin; refine append_row (by rfl) _ _ rfl B (wr.heap.size + 1) _ _ ys [k % 128 + 128] rfl (hown1.alloc _) rfl (row_one _ _ _ (by omega)) (by simp; omega) (by simp; omega) ?_)
      intro v1 w1 hown2 hb2 hg2
      have hb3 : Below B w w1 := (hbel.alloc (by omega) _).trans hb2
      have ht3 : TF w w1 := (htf.alloc _).trans (TF.grown (hown1.alloc _) hg2)
      go_wp2
      go_roundw
      case rel =>
        refine ⟨k / 128, ys ++ [k % 128 + 128], by go_num, by omega, hown2, ?_, hb3, ht3⟩
        rw [← HE.out, HU.out]; simp
      case measure => simp [intOf]; omega
    · have HU : Hid (uw k = [k]) := uw_lt (by omega)
      go_wp2_with (at_builtin; refine append_row (by rfl) _ _ rfl B (wr.heap.size + 1) _ _ ys [k] rfl (hown1.alloc _) rfl (row_one _ _ _ (by omega)) (by simp; omega) (by simp; omega) ?_)
      intro v1 w1 hown2 hb2 hg2
      have hb3 : Below B w w1 := (hbel.alloc (by omega) _).trans hb2
      have ht3 : TF w w1 := (htf.alloc _).trans (TF.grown (hown1.alloc _) hg2)
      go_wp2
      go_ret
      refine ⟨_, rfl, ?_, hb3, ht3⟩
      rw [← HE.out, HU.out]; exact hown2

end Go.Proofs.YtllmdfkiogmofaaGreatDoor.Cd

/- putState. -/
namespace Go.Proofs.YtllmdfkiogmofaaGreatDoor
open Go.RowKit Nums Fm Pk
open Cd (uw)
set_option maxRecDepth 100000

theorem PutU (B : Nat) (v : Value) (xs : List Nat) (z : Int) (w : World) (hown : Cd.Bytes B w v xs) (hB : B ≤ w.heap.size) (h0 : 0 ≤ z) (h1 : z < 18446744073709551616) (hl : xs.length + 10 ≤ 140737488355328) :
    Calls Tryz.prog 43 #[v, .int .u64 z] w fun e w' => ∃ ad n cap, e = .returned (.slice ad n cap) ∧ Cd.Bytes B w' (.slice ad n cap) (xs ++ uw z.toNat) ∧ Below B w w' ∧ Cd.TF w w' := by
  have := Cd.PutUint_tf B v xs z.toNat w hown hB (by omega) hl
  rw [Int.toNat_of_nonneg h0] at this
  refine this.mono ?_
  rintro e w' ⟨v', rfl, h2, h3, h4⟩
  obtain ⟨ao, cap, rfl, _⟩ := h2.row.shape
  exact ⟨_, _, _, rfl, h2, h3, h4⟩
theorem uw_short {z : Int} (h0 : 0 ≤ z) (h1 : z < 18446744073709551616) : (uw z.toNat).length ≤ 10 := (Cd.uw_len10 (n := z.toNat) (by omega)).2
/-- While a state is written: the bytes so far, the state in its box. -/
structure PW (B : Nat) (w W : World) (sb : Nat) (s : RSt) (va vb : Value) (ys : List Nat) : Prop where
  bel : Below B w W
  byt : Cd.Bytes B W vb ys
  box : W.heap[sb]? = some (.cells #[.bool s.final, .int .i64 s.out, va] 61)
theorem PW.facts {B : Nat} {w W : World} {sb : Nat} {s : RSt} {va vb : Value} {ys : List Nat} (h : PW B w W sb s va vb ys) : W.cell? ⟨sb, 0, none⟩ = some (.bool s.final) ∧ W.cell? ⟨sb, 1, none⟩ = some (.int .i64 s.out) ∧ W.cell? ⟨sb, 2, none⟩ = some va := ⟨by simp [World.cell?, h.box], by simp [World.cell?, h.box], by simp [World.cell?, h.box]⟩
theorem PW.grow {B : Nat} {w W W' : World} {sb : Nat} {s : RSt} {va vb : Value} {ys : List Nat} (h : PW B w W sb s va vb ys) (hb : Below W.heap.size W W') (hB : B ≤ w.heap.size) : PW B w W' sb s va vb ys :=
  ⟨h.bel.trans (hb.mono (Nat.le_trans hB h.bel.size)), h.byt.below hb, (hb.block sb (Array.getElem?_eq_some_iff.1 h.box).1).trans h.box⟩
theorem PW.put {B : Nat} {w W W' : World} {sb : Nat} {s : RSt} {va vb vb' : Value} {ys ys' : List Nat} (h : PW B w W sb s va vb ys) (h1 : Cd.Bytes B W' vb' ys') (h2 : Below B W W') (h3 : Cd.TF W W') : PW B w W' sb s va vb' ys' :=
  ⟨h.bel.trans h2, h1, (h3.keep sb _ _ h.box (by decide)).trans h.box⟩
/-- One number more. -/
theorem PW.uint {B : Nat} {w W : World} {sb : Nat} {s : RSt} {va vb : Value} {ys : List Nat} (h : PW B w W sb s va vb ys) (hB : B ≤ w.heap.size) (z : Int) (h0 : 0 ≤ z) (h1 : z < 18446744073709551616) (hl : ys.length + 10 ≤ 140737488355328) :
    Calls Tryz.prog 43 #[vb, .int .u64 z] W fun e w' => ∃ ad n cap, e = .returned (.slice ad n cap) ∧ PW B w w' sb s va (.slice ad n cap) (ys ++ uw z.toNat) ∧ Cd.TF W w' := by
  refine (PutU B vb ys z W h.byt (Nat.le_trans hB h.bel.size) h0 h1 hl).mono ?_
  rintro e w' ⟨ad, n, cap, rfl, h2, h3, h4⟩
  exact ⟨ad, n, cap, rfl, h.put h2 h3 h4, h4⟩
set_option maxHeartbeats 4000000 in
theorem putState_any (E B : Nat) (w : World) (vb : Value) (xs : List Nat) (s : RSt) (va : Value) (n : Nat) (hb : Cd.Bytes B w vb xs) (ha : ArcsAt E w va s.arcs) (hEB : E ≤ B) (hB : B ≤ w.heap.size) (hF : formS s n = true) (hl : xs.length ≤ 100000000000000) (hso : Fits64 s.out) (hn : n ≤ 1048576) :
    Calls Tryz.prog 44 #[vb, .agg #[.bool s.final, .int .i64 s.out, va], .int .i64 n] w fun e w' => ∃ ad m cap, e = .returned (.slice ad m cap) ∧ Cd.Bytes B w' (.slice ad m cap) (xs ++ putS s n) ∧ Below B w w' ∧ (putS s n).length ≤ 20 + 30 * 1114112 := by
  obtain ⟨f1, f2, f3⟩ := form_facts hF
  obtain ⟨ad, cap, rfl⟩ := ha.shape
  obtain ⟨na, hna⟩ : ∃ na, s.arcs.length = na := ⟨_, rfl⟩
  have HNA : Hid (s.arcs.length = na) := hna
  have hh0 := head_ge s
  have hh1 : headS s ≤ 2228225 := by unfold headS; split <;> omega
  have HHD : Hid (∀ W, Calls Tryz.prog 73 #[.agg #[.bool s.final, .int .i64 s.out, .slice ad na cap]] W fun e w' => e = .returned (.int .u64 (headS s)) ∧ Gr W w') := fun W => by
    have := head_any s ad cap W f3
    rw [hna] at this
    exact this
  have HP : Hid (putS s n = uw (headS s).toNat ++ ((if s.final then uw s.out.toNat else []) ++ putA n 0 s.arcs)) := rfl
  have HA : Hid (ArcsAt E w (.slice ad s.arcs.length cap) s.arcs) := ha
  have HF : Hid (formS s n = true) := hF
  have HBY : Hid (Cd.Bytes B w vb xs) := hb
  rw [hna] at HA f3 ⊢
  obtain ⟨sb, hsb⟩ : ∃ sb, sb = w.heap.size := ⟨_, rfl⟩
  obtain ⟨W1, hW1⟩ : ∃ W1, W1 = w.alloc (.cells #[.bool s.final, .int .i64 s.out, .slice ad na cap] 61) := ⟨_, rfl⟩
  have hbw : Below w.heap.size w W1 := by rw [hW1]; exact (Below.refl _ w).alloc (Nat.le_refl _) _
  have hs1 : W1.heap[sb]? = some (.cells #[.bool s.final, .int .i64 s.out, .slice ad na cap] 61) := by rw [hW1, hsb]; exact alloc_newP _ _
  have HW1 : Hid (PW B w W1 sb s (.slice ad na cap) vb xs) := ⟨hbw.mono hB, hb.below hbw, hs1⟩
  obtain ⟨p0, p1, p2⟩ := HW1.out.facts
  obtain ⟨hs1', hs2'⟩ := hso
  have hsl : (uw (headS s).toNat).length ≤ 10 := uw_short hh0 (by omega)
  have hsl2 : (uw s.out.toNat).length ≤ 10 := uw_short f2 (by omega)
  obtain ⟨bd, bn, bc, rfl⟩ : ∃ bd bn bc, vb = .slice bd bn bc := by
    obtain ⟨ao, cap, e, _⟩ := hb.row.shape
    exact ⟨_, _, _, e⟩
  clear hb ha hna hs1 hbw
  go_enter Tryz.func44, Tryz.ntmps44
  go_upto_region 1 with fail
  rw [← hsb, ← hW1]
  clear hsb hW1
  go_upto_region 2 with (first
    | (go_at_call 73; refine (HHD.out _).mono ?_; rintro e w2 ⟨rfl, hg2⟩; have HW2 : Hid (PW B w w2 sb s (.slice ad na cap) (.slice bd bn bc) xs) := HW1.out.grow hg2.bel hB; clear hg2)
    | (go_at_call 43; refine (HW2.out.uint hB _ hh0 (by omega) (by omega)).mono ?_; rintro e w3 ⟨bd3, bn3, bc3, rfl, hp3, _⟩; have HW3 : Hid (PW B w w3 sb s (.slice ad na cap) (.slice bd3 bn3 bc3) (xs ++ uw (headS s).toNat)) := hp3; clear hp3))
  clear p0 p1 p2
  obtain ⟨p0, p1, p2⟩ := HW3.out.facts
  obtain ⟨fn, hfn⟩ : ∃ fn, s.final = fn := ⟨_, rfl⟩
  cases fn with
  | true =>
    rw [hfn] at p0
    have HEQ : Hid ((xs ++ uw (headS s).toNat ++ uw s.out.toNat) ++ putA n (aheadL s.arcs 0) (s.arcs.drop 0) = xs ++ putS s n) := by show _ = _; rw [HP.out, hfn, if_pos rfl]; simp [aheadL]
    go_upto_region 4 with (go_at_call 43; refine (HW3.out.uint hB _ f2 (by omega) (by simp; omega)).mono ?_; rintro e w4 ⟨bd4, bn4, bc4, rfl, hp4, _⟩; have HW4 : Hid (PW B w w4 sb s (.slice ad na cap) (.slice bd4 bn4 bc4) (xs ++ uw (headS s).toNat ++ uw s.out.toNat)) := hp4; clear hp4)
    have HLN : Hid ((xs ++ uw (headS s).toNat ++ uw s.out.toNat).length ≤ xs.length + 20 + 30 * 0) := by show _ ≤ _; simp; omega
    clear p0 p1 p2
    obtain ⟨p0, p1, p2⟩ := HW4.out.facts
    clear hfn
    generalize xs ++ uw (headS s).toNat ++ uw s.out.toNat = ys4 at *
    go_wp2
    go_loopg [0, 7, 9, 24] na (fun gm s0 s7 _ s24 wr => ∃ (k : Nat) (bd : Option Addr) (bn bc : Nat) (ys : List Nat), s24 = .int .i64 k ∧ k ≤ na ∧ na - k ≤ gm ∧ s0 = .slice bd bn bc ∧ s7 = .int .i32 (aheadL s.arcs k) ∧ Hid (PW B w wr sb s (.slice ad na cap) (.slice bd bn bc) ys) ∧ Hid (ys ++ putA n (aheadL s.arcs k) (s.arcs.drop k) = xs ++ putS s n) ∧ Hid (ys.length ≤ xs.length + 20 + 30 * k))
    case atStart => exact ⟨0, _, _, _, _, rfl, Nat.zero_le _, by omega, rfl, rfl, HW4, HEQ, HLN⟩
    case round =>
      obtain ⟨k, bd, bn, bc, ys, rfl, hk, hgm, rfl, rfl, HW, HQ, HL⟩ := hrel
      clear p0 p1 p2
      by_cases hlt : k < na
      · have hltz : (k : Int) < (na : Int) := by omega
        obtain ⟨x, hx⟩ : ∃ x, s.arcs[k]? = some x := ⟨s.arcs[k]'(by have := HNA.out; omega), List.getElem?_eq_getElem _⟩
        obtain ⟨a0, a1, a2, a3, a4, a5⟩ := arc_at HF.out hx
        have HPA : Hid (ys ++ uw (x.label - aheadL s.arcs k).toNat ++ uw x.out.toNat ++ uw ((n : Int) - x.to).toNat ++ putA n (aheadL s.arcs (k + 1)) (s.arcs.drop (k + 1)) = xs ++ putS s n) := by
          show _ = _
          rw [← HQ.out, putA_at hx]
          simp only [List.append_assoc]
        have HAH : Hid (aheadL s.arcs (k + 1) = x.label) := by show _ = _; rw [aheadL, hx]; rfl
        have hxo := HA.out.ok x (List.mem_of_getElem? hx)
        obtain ⟨⟨o0, o1⟩, ⟨o2, o3⟩, ⟨o4, o5⟩⟩ := hxo
        obtain ⟨g, off, rfl, hg, c0, c1, c2⟩ := (HA.out.below (HW.out.bel.mono hEB)).at hx
        have l1 := uw_short (z := x.label - aheadL s.arcs k) (by omega) (by omega)
        have l2 := uw_short (z := x.out) a3 (by omega)
        have l3 := uw_short (z := (n : Int) - x.to) (by omega) (by omega)
        generalize aheadL s.arcs k = p at *
        obtain ⟨xb, hxb⟩ : ∃ xb, xb = wr.heap.size := ⟨_, rfl⟩
        obtain ⟨V1, hV1⟩ : ∃ V1, V1 = wr.alloc (.cells #[.int .i32 x.label, .int .i64 x.out, .int .i64 x.to] 63) := ⟨_, rfl⟩
        have hvb : Below wr.heap.size wr V1 := by rw [hV1]; exact (Below.refl _ wr).alloc (Nat.le_refl _) _
        have hx1 : V1.heap[xb]? = some (.cells #[.int .i32 x.label, .int .i64 x.out, .int .i64 x.to] 63) := by rw [hV1, hxb]; exact alloc_newP _ _
        have HV1 := HW.out.grow hvb hB
        have HX1 : Hid (V1.heap[xb]? = some (.cells #[.int .i32 x.label, .int .i64 x.out, .int .i64 x.to] 63)) := hx1
        have e0 : V1.cell? ⟨xb, 0, none⟩ = some (.int .i32 x.label) := by simp [World.cell?, hx1]
        have hlen := HL.out
        have HVV : Hid (PW B w V1 sb s (.slice (some ⟨g, off, none⟩) na cap) (.slice bd bn bc) ys) := HV1
        clear hx hvb hx1 HV1
        go_upto_region 8 with fail
        rw [← hxb, ← hV1]
        clear hxb hV1 c0 c1 c2
        go_upto_region 9 with (go_at_call 43; refine (HVV.out.uint hB (x.label - p) (by omega) (by omega) (by omega)).mono ?_; rintro e V2 ⟨bd2, bn2, bc2, rfl, hp2, ht2⟩)
        have hx2 := (ht2.keep xb _ _ HX1.out (by decide)).trans HX1.out
        have e1 : V2.cell? ⟨xb, 1, none⟩ = some (.int .i64 x.out) := by simp [World.cell?, hx2]
        have HX2 : Hid (V2.heap[xb]? = some (.cells #[.int .i32 x.label, .int .i64 x.out, .int .i64 x.to] 63)) := hx2
        have HP2 : Hid (PW B w V2 sb s (.slice (some ⟨g, off, none⟩) na cap) (.slice bd2 bn2 bc2) (ys ++ uw (x.label - p).toNat)) := hp2
        clear ht2 hp2 hx2 e0
        go_upto_region 10 with (go_at_call 43; refine (HP2.out.uint hB x.out a3 (by omega) (by simp; omega)).mono ?_; rintro e V3 ⟨bd3', bn3', bc3', rfl, hp3, ht3⟩)
        have hx3 := (ht3.keep xb _ _ HX2.out (by decide)).trans HX2.out
        have e2 : V3.cell? ⟨xb, 2, none⟩ = some (.int .i64 x.to) := by simp [World.cell?, hx3]
        have HX3 : Hid (V3.heap[xb]? = some (.cells #[.int .i32 x.label, .int .i64 x.out, .int .i64 x.to] 63)) := hx3
        have HP3 : Hid (PW B w V3 sb s (.slice (some ⟨g, off, none⟩) na cap) (.slice bd3' bn3' bc3') (ys ++ uw (x.label - p).toNat ++ uw x.out.toNat)) := hp3
        clear ht3 hp3 hx3 e1
        go_upto_region 11 with (go_at_call 43; refine (HP3.out.uint hB ((n : Int) - x.to) (by omega) (by omega) (by simp; omega)).mono ?_; rintro e V4 ⟨bd4', bn4', bc4', rfl, hp4, ht4⟩)
        have hx4 := (ht4.keep xb _ _ HX3.out (by decide)).trans HX3.out
        have e3 : V4.cell? ⟨xb, 0, none⟩ = some (.int .i32 x.label) := by simp [World.cell?, hx4]
        have HP4 : Hid (PW B w V4 sb s (.slice (some ⟨g, off, none⟩) na cap) (.slice bd4' bn4' bc4') (ys ++ uw (x.label - p).toNat ++ uw x.out.toNat ++ uw ((n : Int) - x.to).toNat)) := hp4
        have HL4 : Hid ((ys ++ uw (x.label - p).toNat ++ uw x.out.toNat ++ uw ((n : Int) - x.to).toNat).length ≤ xs.length + 20 + 30 * (k + 1)) := by show _ ≤ _; simp; omega
        clear ht4 hp4 hx4 e2
        go_wp2
        go_roundg (na - (k + 1))
        case measure => omega
        case rel => exact ⟨k + 1, _, _, _, _, by go_num, by omega, Nat.le_refl _, rfl, by rw [HAH.out], HP4, HPA, HL4⟩
      · have hltz : ¬ (k : Int) < (na : Int) := by omega
        have hys : ys = xs ++ putS s n := by
          have := HQ.out
          rw [List.drop_of_length_le (by have := HNA.out; omega), putA, List.append_nil] at this
          exact this
        have hlen := HL.out
        have HLL : Hid ((putS s n).length ≤ 20 + 30 * 1114112) := by
          show _ ≤ _
          rw [hys, List.length_append] at hlen
          omega
        go_wp2
        go_ret
        exact ⟨_, _, _, rfl, by rw [← hys]; exact HW.out.byt, HW.out.bel, HLL.out⟩
  | false =>
    rw [hfn] at p0
    have HEQ : Hid ((xs ++ uw (headS s).toNat) ++ putA n (aheadL s.arcs 0) (s.arcs.drop 0) = xs ++ putS s n) := by show _ = _; rw [HP.out, hfn]; simp [aheadL]
    have HLN : Hid ((xs ++ uw (headS s).toNat).length ≤ xs.length + 20 + 30 * 0) := by show _ ≤ _; simp; omega
    have HW4 : Hid (PW B w w3 sb s (.slice ad na cap) (.slice bd3 bn3 bc3) (xs ++ uw (headS s).toNat)) := HW3
    clear hfn
    generalize xs ++ uw (headS s).toNat = ys4 at *
    go_wp2
    go_loopg [0, 7, 9, 24] na (fun gm s0 s7 _ s24 wr => ∃ (k : Nat) (bd : Option Addr) (bn bc : Nat) (ys : List Nat), s24 = .int .i64 k ∧ k ≤ na ∧ na - k ≤ gm ∧ s0 = .slice bd bn bc ∧ s7 = .int .i32 (aheadL s.arcs k) ∧ Hid (PW B w wr sb s (.slice ad na cap) (.slice bd bn bc) ys) ∧ Hid (ys ++ putA n (aheadL s.arcs k) (s.arcs.drop k) = xs ++ putS s n) ∧ Hid (ys.length ≤ xs.length + 20 + 30 * k))
    case atStart => exact ⟨0, _, _, _, _, rfl, Nat.zero_le _, by omega, rfl, rfl, HW4, HEQ, HLN⟩
    case round =>
      obtain ⟨k, bd, bn, bc, ys, rfl, hk, hgm, rfl, rfl, HW, HQ, HL⟩ := hrel
      clear p0 p1 p2
      by_cases hlt : k < na
      · have hltz : (k : Int) < (na : Int) := by omega
        obtain ⟨x, hx⟩ : ∃ x, s.arcs[k]? = some x := ⟨s.arcs[k]'(by have := HNA.out; omega), List.getElem?_eq_getElem _⟩
        obtain ⟨a0, a1, a2, a3, a4, a5⟩ := arc_at HF.out hx
        have HPA : Hid (ys ++ uw (x.label - aheadL s.arcs k).toNat ++ uw x.out.toNat ++ uw ((n : Int) - x.to).toNat ++ putA n (aheadL s.arcs (k + 1)) (s.arcs.drop (k + 1)) = xs ++ putS s n) := by
          show _ = _
          rw [← HQ.out, putA_at hx]
          simp only [List.append_assoc]
        have HAH : Hid (aheadL s.arcs (k + 1) = x.label) := by show _ = _; rw [aheadL, hx]; rfl
        have hxo := HA.out.ok x (List.mem_of_getElem? hx)
        obtain ⟨⟨o0, o1⟩, ⟨o2, o3⟩, ⟨o4, o5⟩⟩ := hxo
        obtain ⟨g, off, rfl, hg, c0, c1, c2⟩ := (HA.out.below (HW.out.bel.mono hEB)).at hx
        have l1 := uw_short (z := x.label - aheadL s.arcs k) (by omega) (by omega)
        have l2 := uw_short (z := x.out) a3 (by omega)
        have l3 := uw_short (z := (n : Int) - x.to) (by omega) (by omega)
        generalize aheadL s.arcs k = p at *
        obtain ⟨xb, hxb⟩ : ∃ xb, xb = wr.heap.size := ⟨_, rfl⟩
        obtain ⟨V1, hV1⟩ : ∃ V1, V1 = wr.alloc (.cells #[.int .i32 x.label, .int .i64 x.out, .int .i64 x.to] 63) := ⟨_, rfl⟩
        have hvb : Below wr.heap.size wr V1 := by rw [hV1]; exact (Below.refl _ wr).alloc (Nat.le_refl _) _
        have hx1 : V1.heap[xb]? = some (.cells #[.int .i32 x.label, .int .i64 x.out, .int .i64 x.to] 63) := by rw [hV1, hxb]; exact alloc_newP _ _
        have HV1 := HW.out.grow hvb hB
        have HX1 : Hid (V1.heap[xb]? = some (.cells #[.int .i32 x.label, .int .i64 x.out, .int .i64 x.to] 63)) := hx1
        have e0 : V1.cell? ⟨xb, 0, none⟩ = some (.int .i32 x.label) := by simp [World.cell?, hx1]
        have hlen := HL.out
        have HVV : Hid (PW B w V1 sb s (.slice (some ⟨g, off, none⟩) na cap) (.slice bd bn bc) ys) := HV1
        clear hx hvb hx1 HV1
        go_upto_region 8 with fail
        rw [← hxb, ← hV1]
        clear hxb hV1 c0 c1 c2
        go_upto_region 9 with (go_at_call 43; refine (HVV.out.uint hB (x.label - p) (by omega) (by omega) (by omega)).mono ?_; rintro e V2 ⟨bd2, bn2, bc2, rfl, hp2, ht2⟩)
        have hx2 := (ht2.keep xb _ _ HX1.out (by decide)).trans HX1.out
        have e1 : V2.cell? ⟨xb, 1, none⟩ = some (.int .i64 x.out) := by simp [World.cell?, hx2]
        have HX2 : Hid (V2.heap[xb]? = some (.cells #[.int .i32 x.label, .int .i64 x.out, .int .i64 x.to] 63)) := hx2
        have HP2 : Hid (PW B w V2 sb s (.slice (some ⟨g, off, none⟩) na cap) (.slice bd2 bn2 bc2) (ys ++ uw (x.label - p).toNat)) := hp2
        clear ht2 hp2 hx2 e0
        go_upto_region 10 with (go_at_call 43; refine (HP2.out.uint hB x.out a3 (by omega) (by simp; omega)).mono ?_; rintro e V3 ⟨bd3', bn3', bc3', rfl, hp3, ht3⟩)
        have hx3 := (ht3.keep xb _ _ HX2.out (by decide)).trans HX2.out
        have e2 : V3.cell? ⟨xb, 2, none⟩ = some (.int .i64 x.to) := by simp [World.cell?, hx3]
        have HX3 : Hid (V3.heap[xb]? = some (.cells #[.int .i32 x.label, .int .i64 x.out, .int .i64 x.to] 63)) := hx3
        have HP3 : Hid (PW B w V3 sb s (.slice (some ⟨g, off, none⟩) na cap) (.slice bd3' bn3' bc3') (ys ++ uw (x.label - p).toNat ++ uw x.out.toNat)) := hp3
        clear ht3 hp3 hx3 e1
        go_upto_region 11 with (go_at_call 43; refine (HP3.out.uint hB ((n : Int) - x.to) (by omega) (by omega) (by simp; omega)).mono ?_; rintro e V4 ⟨bd4', bn4', bc4', rfl, hp4, ht4⟩)
        have hx4 := (ht4.keep xb _ _ HX3.out (by decide)).trans HX3.out
        have e3 : V4.cell? ⟨xb, 0, none⟩ = some (.int .i32 x.label) := by simp [World.cell?, hx4]
        have HP4 : Hid (PW B w V4 sb s (.slice (some ⟨g, off, none⟩) na cap) (.slice bd4' bn4' bc4') (ys ++ uw (x.label - p).toNat ++ uw x.out.toNat ++ uw ((n : Int) - x.to).toNat)) := hp4
        have HL4 : Hid ((ys ++ uw (x.label - p).toNat ++ uw x.out.toNat ++ uw ((n : Int) - x.to).toNat).length ≤ xs.length + 20 + 30 * (k + 1)) := by show _ ≤ _; simp; omega
        clear ht4 hp4 hx4 e2
        go_wp2
        go_roundg (na - (k + 1))
        case measure => omega
        case rel => exact ⟨k + 1, _, _, _, _, by go_num, by omega, Nat.le_refl _, rfl, by rw [HAH.out], HP4, HPA, HL4⟩
      · have hltz : ¬ (k : Int) < (na : Int) := by omega
        have hys : ys = xs ++ putS s n := by
          have := HQ.out
          rw [List.drop_of_length_le (by have := HNA.out; omega), putA, List.append_nil] at this
          exact this
        have hlen := HL.out
        have HLL : Hid ((putS s n).length ≤ 20 + 30 * 1114112) := by
          show _ ≤ _
          rw [hys, List.length_append] at hlen
          omega
        go_wp2
        go_ret
        exact ⟨_, _, _, rfl, by rw [← hys]; exact HW.out.byt, HW.out.bel, HLL.out⟩
end Go.Proofs.YtllmdfkiogmofaaGreatDoor

/- Pack. -/
namespace Go.Proofs.YtllmdfkiogmofaaGreatDoor
open Go.RowKit Nums Fm Pk
open Cd (uw)
set_option maxRecDepth 100000

theorem Pk.right_facts {base : Int} {m : List RSt} (h : rightB base m = true) : 0 ≤ base ∧ base ≤ 1048576 ∧ formB 0 m = true := by
  unfold rightB at h
  by_cases h0 : m = []
  · rw [if_pos h0] at h
    have := of_decide_eq_true h
    subst h0
    exact ⟨by omega, by omega, rfl⟩
  · rw [if_neg h0] at h
    simp only [Bool.and_eq_true, decide_eq_true_eq] at h
    obtain ⟨⟨⟨⟨⟨h1, _⟩, h3⟩, _⟩, _⟩, _⟩ := h
    exact ⟨by omega, by omega, h3⟩
/-- While states are written. -/
structure QW (B : Nat) (w W : World) (vb : Value) (ys : List Nat) : Prop where
  bel : Below B w W
  byt : Cd.Bytes B W vb ys
theorem QW.uint {B : Nat} {w W : World} {vb : Value} {ys : List Nat} (h : QW B w W vb ys) (hB : B ≤ w.heap.size) (z : Int) (h0 : 0 ≤ z) (h1 : z < 18446744073709551616) (hl : ys.length + 10 ≤ 140737488355328) :
    Calls Tryz.prog 43 #[vb, .int .u64 z] W fun e w' => ∃ ad n cap, e = .returned (.slice ad n cap) ∧ QW B w w' (.slice ad n cap) (ys ++ uw z.toNat) := by
  refine (PutU B vb ys z W h.byt (Nat.le_trans hB h.bel.size) h0 h1 hl).mono ?_
  rintro e w' ⟨ad, n, cap, rfl, h2, h3, h4⟩
  exact ⟨ad, n, cap, rfl, h.bel.trans h3, h2⟩
/-- What Pack says. -/
structure PackSays (w w' : World) (base : Int) (m : List RSt) (e : Ending) : Prop where
  bel : Below w.heap.size w w'
  no : rightB base m = false → e = .returned (.tuple #[.slice none 0 0, .int .i64 80])
  yes : rightB base m = true → ∃ ad n cap, e = .returned (.tuple #[.slice ad n cap, .int .i64 0]) ∧ Cd.Bytes w.heap.size w' (.slice ad n cap) (packB base m)
set_option maxHeartbeats 4000000 in
theorem Pack_any (E : Nat) (w : World) (base : Int) (m : List RSt) (vs : Value) (h : StsAt E w vs m) (hE : E ≤ w.heap.size) (hT : Tabs w) (hm : m.length ≤ 1048576) :
    Calls Tryz.prog 18 #[.agg #[.int .i64 base, vs]] w fun e w' => PackSays w w' base m e := by
  obtain ⟨ad, cap, rfl⟩ := h.shape
  obtain ⟨n, hn⟩ : ∃ n, m.length = n := ⟨_, rfl⟩
  have HN : Hid (m.length = n) := hn
  obtain ⟨mb, hmb⟩ : ∃ mb, mb = w.heap.size := ⟨_, rfl⟩
  rw [hn] at h hm ⊢
  obtain ⟨W1, hW1⟩ : ∃ W1, W1 = w.alloc (.cells #[.int .i64 base, .slice ad n cap] 26) := ⟨_, rfl⟩
  have hbw : Below w.heap.size w W1 := by rw [hW1]; exact (Below.refl _ w).alloc (Nat.le_refl _) _
  have hm1 : W1.heap[mb]? = some (.cells #[.int .i64 base, .slice ad n cap] 26) := by rw [hW1, hmb]; exact alloc_newP _ _
  have HBW : Hid (Below w.heap.size w W1) := hbw
  have HM1 : Hid (W1.heap[mb]? = some (.cells #[.int .i64 base, .slice ad n cap] 26)) := hm1
  have HS : Hid (StsAt E w (.slice ad n cap) m) := h
  have HRI : Hid (Calls Tryz.prog 22 #[.agg #[.int .i64 base, .slice ad n cap]] W1 fun e w' => e = .returned (.bool (rightB base m)) ∧ Below W1.heap.size W1 w') := Right_any E W1 base m _ (h.below (hbw.mono hE)) (Nat.le_trans hE hbw.size) (hT.below hbw) (by rw [hn]; exact hm)
  have q0 : W1.cell? ⟨mb, 0, none⟩ = some (.int .i64 base) := by simp [World.cell?, hm1]
  have q1 : W1.cell? ⟨mb, 1, none⟩ = some (.slice ad n cap) := by simp [World.cell?, hm1]
  clear h hT hbw hm1 hn
  go_enter Tryz.func18, Tryz.ntmps18
  obtain ⟨R, hR⟩ : ∃ R, rightB base m = R := ⟨_, rfl⟩
  rw [hR] at HRI
  cases R with
  | false =>
    go_upto_region 1 with fail
    rw [← hW1, ← hmb]
    clear hW1 hmb
    go_wp2_with (go_at_call 22; refine HRI.out.mono ?_; rintro e w2 ⟨rfl, hb2⟩; have HB2 : Hid (Below W1.heap.size W1 w2) := hb2; clear hb2)
    go_returns
    exact ⟨HBW.out.trans (HB2.out.mono HBW.out.size), fun _ => rfl, fun h => by rw [hR] at h; cases h⟩
  | true =>
    obtain ⟨r0, r1, r2⟩ := right_facts hR
    have HFM : Hid (formB 0 m = true) := r2
    go_upto_region 1 with fail
    rw [← hW1, ← hmb]
    clear hW1 hmb
    go_upto_region 3 with (go_at_call 22; refine HRI.out.mono ?_; rintro e w2 ⟨rfl, hb2⟩; have HB2 : Hid (Below W1.heap.size W1 w2) := hb2; clear hb2)
    obtain ⟨B, hBe⟩ : ∃ B, B = w2.heap.size := ⟨_, rfl⟩
    have HBB : Hid (w.heap.size ≤ B ∧ B ≤ w2.heap.size ∧ E ≤ B ∧ mb < B) := by
      have h1 := HBW.out.size
      have h2 := HB2.out.size
      have h3 := (Array.getElem?_eq_some_iff.1 HM1.out).1
      exact ⟨by omega, by omega, by omega, by omega⟩
    have HBW2 : Hid (Below w.heap.size w w2) := HBW.out.trans (HB2.out.mono HBW.out.size)
    have HCL : Hid (∀ W, Below B w2 W → W.cell? ⟨mb, 0, none⟩ = some (.int .i64 base) ∧ W.cell? ⟨mb, 1, none⟩ = some (.slice ad n cap)) := fun W hW => by
      have h1 : W.heap[mb]? = some (.cells #[.int .i64 base, .slice ad n cap] 26) := (hW.block mb HBB.out.2.2.2).trans ((HB2.out.block mb (Array.getElem?_eq_some_iff.1 HM1.out).1).trans HM1.out)
      exact ⟨by simp [World.cell?, h1], by simp [World.cell?, h1]⟩
    have HQ2 : Hid (QW B w2 w2 (.slice none 0 0) []) := ⟨Below.refl _ _, Cd.Bytes.nil _ _⟩
    have HBL : Hid (B ≤ w2.heap.size) := HBB.out.2.1
    have l1 := uw_short (z := base) r0 (by omega)
    have l2 := uw_short (z := (n : Int)) (by omega) (by omega)
    clear q0 q1 hBe
    obtain ⟨q0, q1⟩ := HCL.out w2 (Below.refl _ _)
    go_upto_region 4 with (go_at_call 43; refine (HQ2.out.uint HBL.out base r0 (by omega) (by simp)).mono ?_; rintro e w3 ⟨d3, n3, c3, rfl, hq3⟩)
    have HQ3 : Hid (QW B w2 w3 (.slice d3 n3 c3) (uw base.toNat)) := hq3
    clear hq3 q0 q1
    obtain ⟨q0, q1⟩ := HCL.out w3 HQ3.out.bel
    go_upto_region 5 with (go_at_call 43; refine (HQ3.out.uint HBL.out (n : Int) (by omega) (by omega) (by omega)).mono ?_; rintro e w4 ⟨d4, n4, c4, rfl, hq4⟩)
    have HQ4 : Hid (QW B w2 w4 (.slice d4 n4 c4) (uw base.toNat ++ uw n)) := hq4
    clear hq4 q0 q1
    obtain ⟨q0, q1⟩ := HCL.out w4 HQ4.out.bel
    have HEQ : Hid ((uw base.toNat ++ uw n) ++ putM 0 (m.drop 0) = packB base m) := by show _ = _; rw [packB, HN.out]; simp
    have HLN : Hid ((uw base.toNat ++ uw n).length ≤ 20 + 0 * (20 + 30 * 1114112)) := by
      show _ ≤ _
      rw [Int.toNat_natCast] at l2
      simp
      omega
    generalize uw base.toNat ++ uw n = ys4 at *
    go_wp2
    go_loopg [4, 5, 6, 23] n (fun gm s4 _ _ s23 wr => ∃ (k : Nat) (bd : Option Addr) (bn bc : Nat) (ys : List Nat), s23 = .int .i64 k ∧ k ≤ n ∧ n - k ≤ gm ∧ s4 = .slice bd bn bc ∧ Hid (QW B w2 wr (.slice bd bn bc) ys) ∧ Hid (ys ++ putM k (m.drop k) = packB base m) ∧ Hid (ys.length ≤ 20 + k * (20 + 30 * 1114112)))
    case atStart => exact ⟨0, _, _, _, _, rfl, Nat.zero_le _, by omega, rfl, HQ4, HEQ, HLN⟩
    case round =>
      obtain ⟨k, bd, bn, bc, ys, rfl, hk, hgm, rfl, HQ, HE, HL⟩ := hrel
      clear q0 q1
      by_cases hlt : k < n
      · have hltz : (k : Int) < (n : Int) := by omega
        obtain ⟨s, hs⟩ : ∃ s, m[k]? = some s := ⟨m[k]'(by have := HN.out; omega), List.getElem?_eq_getElem _⟩
        have hSr := HS.out.below ((HBW2.out.mono hE).trans (HQ.out.bel.mono HBB.out.2.2.1))
        obtain ⟨g, off, va, rfl, hg, c0, c1, c2, hA⟩ := hSr.at hs
        obtain ⟨vd, vc, hva⟩ := hA.shape
        obtain ⟨na, hna⟩ : ∃ na, s.arcs.length = na := ⟨_, rfl⟩
        rw [hna] at hva
        subst hva
        have hFS := form_get m 0 k s HFM.out hs
        rw [Nat.zero_add] at hFS
        have hso := HS.out.ok s (List.mem_of_getElem? hs)
        have HPM : Hid ((ys ++ putS s k) ++ putM (k + 1) (m.drop (k + 1)) = packB base m) := by show _ = _; rw [← HE.out, putM_at hs, List.append_assoc]
        obtain ⟨sb, hsb⟩ : ∃ sb, sb = wr.heap.size := ⟨_, rfl⟩
        obtain ⟨V1, hV1⟩ : ∃ V1, V1 = wr.alloc (.cells #[.bool s.final, .int .i64 s.out, .slice vd na vc] 61) := ⟨_, rfl⟩
        have hvb : Below wr.heap.size wr V1 := by rw [hV1]; exact (Below.refl _ wr).alloc (Nat.le_refl _) _
        have hx1 : V1.heap[sb]? = some (.cells #[.bool s.final, .int .i64 s.out, .slice vd na vc] 61) := by rw [hV1, hsb]; exact alloc_newP _ _
        have e0 : V1.cell? ⟨sb, 0, none⟩ = some (.bool s.final) := by simp [World.cell?, hx1]
        have e1 : V1.cell? ⟨sb, 1, none⟩ = some (.int .i64 s.out) := by simp [World.cell?, hx1]
        have e2 : V1.cell? ⟨sb, 2, none⟩ = some (.slice vd na vc) := by simp [World.cell?, hx1]
        have hBr : B ≤ wr.heap.size := Nat.le_trans HBL.out HQ.out.bel.size
        have HBV : Hid (Below B w2 V1) := HQ.out.bel.trans (hvb.mono hBr)
        have hlen := HL.out
        have HPS : Hid (Calls Tryz.prog 44 #[.slice bd bn bc, .agg #[.bool s.final, .int .i64 s.out, .slice vd na vc], .int .i64 k] V1 fun e w' => ∃ ad m cap, e = .returned (.slice ad m cap) ∧ Cd.Bytes B w' (.slice ad m cap) (ys ++ putS s k) ∧ Below B V1 w' ∧ (putS s k).length ≤ 20 + 30 * 1114112) :=
          putState_any E B V1 _ ys s _ k (HQ.out.byt.below hvb) (hA.below (hvb.mono (Nat.le_trans HBB.out.2.2.1 hBr))) HBB.out.2.2.1 (Nat.le_trans hBr hvb.size) hFS (by
            have : k * (20 + 30 * 1114112) ≤ 1048576 * (20 + 30 * 1114112) := Nat.mul_le_mul_right _ (by omega)
            omega) hso (by omega)
        clear hs hSr hA hna hFS hso hvb hx1
        go_upto_region 8 with fail
        rw [← hsb, ← hV1]
        clear hsb hV1 c0 c1 c2
        go_upto_region 9 with (go_at_call 44; refine HPS.out.mono ?_; rintro e V2 ⟨d5, n5, c5, rfl, hby, hbl, hpl⟩)
        have HQ5 : Hid (QW B w2 V2 (.slice d5 n5 c5) (ys ++ putS s k)) := ⟨HBV.out.trans hbl, hby⟩
        have HL5 : Hid ((ys ++ putS s k).length ≤ 20 + (k + 1) * (20 + 30 * 1114112)) := by
          show _ ≤ _
          rw [List.length_append, Nat.add_mul]
          omega
        clear hby hbl hpl e0 e1 e2
        go_wp2
        go_roundg (n - (k + 1))
        case measure => omega
        case rel => exact ⟨k + 1, _, _, _, _, by go_num, by omega, Nat.le_refl _, rfl, HQ5, HPM, HL5⟩
      · have hltz : ¬ (k : Int) < (n : Int) := by omega
        have hys : ys = packB base m := by
          have := HE.out
          rw [List.drop_of_length_le (by have := HN.out; omega), putM, List.append_nil] at this
          exact this
        go_wp2
        go_returns
        refine ⟨HBW2.out.trans (HQ.out.bel.mono HBB.out.1), fun h => (by rw [hR] at h; cases h), fun _ => ⟨_, _, _, rfl, ?_⟩⟩
        rw [← hys]
        exact HQ.out.byt.mono HBB.out.1
end Go.Proofs.YtllmdfkiogmofaaGreatDoor

/- The reference's Uint and put: a number's bytes. -/
namespace Go.Proofs.YtllmdfkiogmofaaGreatDoor.Cd
open Go.RowKit
set_option maxRecDepth 100000

theorem bytes_one (B : Nat) (w : World) (z : Int) (n : Nat) (hz : z = n) (hB : B ≤ w.heap.size) : Bytes B (w.alloc (Obj.cells #[.int .u8 z] 5)) (.slice (some ⟨w.heap.size, 0, none⟩) 1 1) [n] := by
  subst hz
  exact World.ownsRow_lit w #[bv n] 1 hB (by decide) rfl

set_option maxHeartbeats 2000000 in
theorem refUint_any (k : Nat) : ∀ (n : Nat) (w : World), n < 128 ^ k → 0 < k → k ≤ 10 → n < 18446744073709551616 →
    Calls Tryz.prog 83 #[.int .u64 (n : Int)] w fun e w' => ∃ v', e = .returned v' ∧ Bytes w.heap.size w' v' (uw n) ∧ Below w.heap.size w w' := by
  induction k with
  | zero => intro n w _ h; omega
  | succ k ih =>
    intro n w hn _ hk hn64
    by_cases h : n < 128
    · have HU : Hid (uw n = [n]) := uw_lt h
      go_enter Tryz.func83, Tryz.ntmps83
      go_wp2_with fail
      go_ret
      refine ⟨_, rfl, ?_, (Below.refl _ _).alloc (Nat.le_refl _) _⟩
      rw [HU.out]; exact bytes_one _ _ _ _ (by omega) (Nat.le_refl _)
    · have HU : Hid (uw n = (n % 128 + 128) :: uw (n / 128)) := uw_ge (by omega)
      have hk0 : 0 < k := by
        rcases Nat.eq_zero_or_pos k with rfl | h0
        · simp at hn; omega
        · exact h0
      have hd : n / 128 < 128 ^ k := by rw [Nat.div_lt_iff_lt_mul (by decide)]; rw [Nat.pow_succ] at hn; exact hn
      have HC : Hid (∀ w, Calls Tryz.prog 83 #[.int .u64 ((n : Int) / 128)] w fun e w' => ∃ v', e = .returned v' ∧ Bytes w.heap.size w' v' (uw (n / 128)) ∧ Below w.heap.size w w') := by
        intro w
        have := ih (n / 128) w hd hk0 (by omega) (by omega)
        rwa [Int.natCast_ediv] at this
      have hul := uw_len10 (show n / 128 < 18446744073709551616 by omega)
      go_enter Tryz.func83, Tryz.ntmps83
      go_wp2_with fail
      refine (HC.out _).mono ?_
      rintro e w1 ⟨v1, rfl, hown1, hb1⟩
      have hb2 : Below w.heap.size w w1 := ((Below.refl _ _).alloc (Nat.le_refl _) _).trans (hb1.mono (by simp))
      have ho : Bytes w.heap.size w1 (.slice (some ⟨w.heap.size, 0, none⟩) 1 1) [n % 128 + 128] := (bytes_one w.heap.size w _ _ (by omega) (Nat.le_refl _)).below hb1
      have hsz := hb2.size
      go_wp2_with (at_builtin; refine append_row (by rfl) _ _ rfl w.heap.size w1.heap.size _ _ [n % 128 + 128] (uw (n / 128)) rfl ho rfl hown1.row (by simp; omega) hsz ?_)
      intro v2 w2 hown2 hb3 _
      go_wp2_with fail
      go_ret
      refine ⟨_, rfl, ?_, hb2.trans hb3⟩
      rw [HU.out]; exact hown2
theorem refUint_all (n : Nat) (w : World) (h : n < 18446744073709551616) :
    Calls Tryz.prog 83 #[.int .u64 (n : Int)] w fun e w' => ∃ v', e = .returned v' ∧ Bytes w.heap.size w' v' (uw n) ∧ Below w.heap.size w w' :=
  refUint_any 10 n w (Nat.lt_of_lt_of_le h (by decide)) (by decide) (by decide) h

set_option maxHeartbeats 2000000 in
theorem refPut_any (B : Nat) (v : Value) (xs : List Nat) (n : Nat) (w : World) (hown : Bytes B w v xs) (hB : B ≤ w.heap.size) (hn : n ≤ 9223372036854775807) (hl : xs.length + 10 ≤ 140737488355328) :
    Calls Tryz.prog 53 #[v, .int .i64 (n : Int)] w fun e w' => ∃ v', e = .returned v' ∧ Bytes B w' v' (xs ++ uw n) ∧ Below B w w' ∧ TF w w' := by
  have hul := uw_len10 (show n < 18446744073709551616 by omega)
  have HO : Hid (Bytes B w v xs) := hown
  have HU : Hid (∀ W, Calls Tryz.prog 83 #[.int .u64 (n : Int)] W fun e w' => ∃ v', e = .returned v' ∧ Bytes W.heap.size w' v' (uw n) ∧ Below W.heap.size W w') := fun W => refUint_all n W (by omega)
  have hwn : IntKind.u64.wrap (n : Int) = (n : Int) := by simp [IntKind.wrap, IntKind.bits, IntKind.signed]; omega
  obtain ⟨ao, cap, rfl, _⟩ := hown.row.shape
  obtain ⟨nx, hnx⟩ : ∃ nx, xs.length = nx := ⟨_, rfl⟩
  rw [hnx] at HO hl ⊢
  have HNX : Hid (xs.length = nx) := hnx
  clear hown hnx
  go_enter Tryz.func53, Tryz.ntmps53
  go_upto_region 2 with (go_at_call 83; refine (HU.out _).mono ?_; rintro e w1 ⟨v1, rfl, ho1, hb1⟩; have HO1 : Hid (Bytes w.heap.size w1 v1 (uw n)) := ho1; have HB1 : Hid (Below w.heap.size w w1) := hb1; have HOW : Hid (Bytes B w1 (.slice ao nx cap) xs) := HO.out.below hb1; have HSZ : Hid (B ≤ w1.heap.size) := Nat.le_trans hB hb1.size; clear ho1 hb1)
  go_wp2_with (at_builtin; refine append_row (by rfl) _ _ rfl B w1.heap.size _ _ xs (uw n) rfl HOW.out rfl HO1.out.row (by have := HNX.out; omega) HSZ.out ?_)
  intro v2 w2 ho2 hb2 hg2
  have HO2 : Hid (Bytes B w2 v2 (xs ++ uw n) ∧ Below B w w2 ∧ TF w w2) := ⟨ho2, (HB1.out.mono hB).trans hb2, (TF.of_below HB1.out).trans (TF.grown HOW.out hg2)⟩
  clear ho2 hb2 hg2
  go_wp2
  go_ret
  exact ⟨_, rfl, HO2.out⟩
end Go.Proofs.YtllmdfkiogmofaaGreatDoor.Cd

/- The reference's Bytes. -/
namespace Go.Proofs.YtllmdfkiogmofaaGreatDoor
open Go.RowKit Nums Fm Pk
open Cd (uw)
set_option maxRecDepth 100000

theorem RPut (B : Nat) (v : Value) (xs : List Nat) (z : Int) (w : World) (hown : Cd.Bytes B w v xs) (hB : B ≤ w.heap.size) (h0 : 0 ≤ z) (h1 : z ≤ 9223372036854775807) (hl : xs.length + 10 ≤ 140737488355328) :
    Calls Tryz.prog 53 #[v, .int .i64 z] w fun e w' => ∃ ad n cap, e = .returned (.slice ad n cap) ∧ Cd.Bytes B w' (.slice ad n cap) (xs ++ uw z.toNat) ∧ Below B w w' ∧ Cd.TF w w' := by
  have := Cd.refPut_any B v xs z.toNat w hown hB (by omega) hl
  rw [Int.toNat_of_nonneg h0] at this
  refine this.mono ?_
  rintro e w' ⟨v', rfl, h2, h3, h4⟩
  obtain ⟨ao, cap, rfl, _⟩ := h2.row.shape
  exact ⟨_, _, _, rfl, h2, h3, h4⟩
theorem QW.rput {B : Nat} {w W : World} {vb : Value} {ys : List Nat} (h : QW B w W vb ys) (hB : B ≤ w.heap.size) (z : Int) (h0 : 0 ≤ z) (h1 : z ≤ 9223372036854775807) (hl : ys.length + 10 ≤ 140737488355328) :
    Calls Tryz.prog 53 #[vb, .int .i64 z] W fun e w' => ∃ ad n cap, e = .returned (.slice ad n cap) ∧ QW B w w' (.slice ad n cap) (ys ++ uw z.toNat) := by
  refine (RPut B vb ys z W h.byt (Nat.le_trans hB h.bel.size) h0 h1 hl).mono ?_
  rintro e w' ⟨ad, n, cap, rfl, h2, h3, h4⟩
  exact ⟨ad, n, cap, rfl, h.bel.trans h3, h2⟩
theorem PW.rput {B : Nat} {w W : World} {sb : Nat} {s : RSt} {va vb : Value} {ys : List Nat} (h : PW B w W sb s va vb ys) (hB : B ≤ w.heap.size) (z : Int) (h0 : 0 ≤ z) (h1 : z ≤ 9223372036854775807) (hl : ys.length + 10 ≤ 140737488355328) :
    Calls Tryz.prog 53 #[vb, .int .i64 z] W fun e w' => ∃ ad n cap, e = .returned (.slice ad n cap) ∧ PW B w w' sb s va (.slice ad n cap) (ys ++ uw z.toNat) := by
  refine (RPut B vb ys z W h.byt (Nat.le_trans hB h.bel.size) h0 h1 hl).mono ?_
  rintro e w' ⟨ad, n, cap, rfl, h2, h3, h4⟩
  exact ⟨ad, n, cap, rfl, h.put h2 h3 h4⟩

set_option maxHeartbeats 4000000 in
theorem refBytes_any (E : Nat) (w : World) (base : Int) (m : List RSt) (vs : Value) (h : StsAt E w vs m) (hE : E ≤ w.heap.size) (hm : m.length ≤ 1048576) (hR : rightB base m = true) :
    Calls Tryz.prog 25 #[.agg #[.int .i64 base, vs]] w fun e w' => ∃ ad n cap, e = .returned (.slice ad n cap) ∧ Cd.Bytes w.heap.size w' (.slice ad n cap) (packB base m) ∧ Below w.heap.size w w' := by
  obtain ⟨ad, cap, rfl⟩ := h.shape
  obtain ⟨n, hn⟩ : ∃ n, m.length = n := ⟨_, rfl⟩
  have HN : Hid (m.length = n) := hn
  obtain ⟨mb, hmb⟩ : ∃ mb, mb = w.heap.size := ⟨_, rfl⟩
  rw [hn] at h hm ⊢
  obtain ⟨W1, hW1⟩ : ∃ W1, W1 = w.alloc (.cells #[.int .i64 base, .slice ad n cap] 26) := ⟨_, rfl⟩
  have hbw : Below w.heap.size w W1 := by rw [hW1]; exact (Below.refl _ w).alloc (Nat.le_refl _) _
  have hm1 : W1.heap[mb]? = some (.cells #[.int .i64 base, .slice ad n cap] 26) := by rw [hW1, hmb]; exact alloc_newP _ _
  have HBW : Hid (Below w.heap.size w W1) := hbw
  obtain ⟨B, hBe⟩ : ∃ B, B = W1.heap.size := ⟨_, rfl⟩
  have HBB : Hid (w.heap.size ≤ B ∧ B ≤ W1.heap.size ∧ E ≤ B ∧ mb < B) := by
    have h1 := hbw.size
    have h3 := (Array.getElem?_eq_some_iff.1 hm1).1
    exact ⟨by omega, by omega, by omega, by omega⟩
  have HS : Hid (StsAt E W1 (.slice ad n cap) m) := h.below (hbw.mono hE)
  obtain ⟨r0, r1, r2⟩ := right_facts hR
  have HFM : Hid (formB 0 m = true) := r2
  have HCL : Hid (∀ W, Below B W1 W → W.cell? ⟨mb, 0, none⟩ = some (.int .i64 base) ∧ W.cell? ⟨mb, 1, none⟩ = some (.slice ad n cap)) := fun W hW => by
    have h1 : W.heap[mb]? = some (.cells #[.int .i64 base, .slice ad n cap] 26) := (hW.block mb HBB.out.2.2.2).trans hm1
    exact ⟨by simp [World.cell?, h1], by simp [World.cell?, h1]⟩
  have HQ2 : Hid (QW B W1 W1 (.slice none 0 0) []) := ⟨Below.refl _ _, Cd.Bytes.nil _ _⟩
  have HBL : Hid (B ≤ W1.heap.size) := HBB.out.2.1
  have l1 := uw_short (z := base) r0 (by omega)
  have l2 := uw_short (z := (n : Int)) (by omega) (by omega)
  clear h hbw hm1 hn hBe hR
  go_enter Tryz.func25, Tryz.ntmps25
  go_upto_region 1 with fail
  rw [← hW1, ← hmb]
  clear hW1 hmb
  obtain ⟨q0, q1⟩ := HCL.out W1 (Below.refl _ _)
  go_upto_region 3 with (go_at_call 53; refine (HQ2.out.rput HBL.out base r0 (by omega) (by simp)).mono ?_; rintro e w3 ⟨d3, n3, c3, rfl, hq3⟩)
  have HQ3 : Hid (QW B W1 w3 (.slice d3 n3 c3) (uw base.toNat)) := hq3
  clear hq3 q0 q1
  obtain ⟨q0, q1⟩ := HCL.out w3 HQ3.out.bel
  go_upto_region 4 with (go_at_call 53; refine (HQ3.out.rput HBL.out (n : Int) (by omega) (by omega) (by omega)).mono ?_; rintro e w4 ⟨d4, n4, c4, rfl, hq4⟩)
  have HQ4 : Hid (QW B W1 w4 (.slice d4 n4 c4) (uw base.toNat ++ uw n)) := hq4
  clear hq4 q0 q1
  have HEQ : Hid ((uw base.toNat ++ uw n) ++ putM 0 (m.drop 0) = packB base m) := by show _ = _; rw [packB, HN.out]; simp
  have HLN : Hid ((uw base.toNat ++ uw n).length ≤ 20 + 0 * (20 + 30 * 1114112)) := by
    show _ ≤ _
    rw [Int.toNat_natCast] at l2
    simp
    omega
  generalize uw base.toNat ++ uw n = ys4 at *
  go_wp2
  go_loopw [3, 4] (fun v i wr => ∃ (k : Nat) (bd : Option Addr) (bn bc : Nat) (ys : List Nat), k ≤ n ∧ i = .int .i64 k ∧ v = .slice bd bn bc ∧ QW B W1 wr (.slice bd bn bc) ys ∧ ys ++ putM k (m.drop k) = packB base m ∧ ys.length ≤ 20 + k * (20 + 30 * 1114112)) (fun _ i _ => n - (intOf i).toNat)
  case atStart => exact ⟨0, _, _, _, _, Nat.zero_le _, rfl, rfl, HQ4.out, HEQ.out, HLN.out⟩
  case round =>
    obtain ⟨k, bd, bn, bc, ys, hk, rfl, rfl, hQ, hE2, hL2⟩ := hrel
    have HQ : Hid (QW B W1 wr (.slice bd bn bc) ys) := hQ
    have HE : Hid (ys ++ putM k (m.drop k) = packB base m) := hE2
    have hlen := hL2
    clear hQ hE2 hL2
    obtain ⟨q0, q1⟩ := HCL.out wr HQ.out.bel
    have hmul : k * (20 + 30 * 1114112) ≤ 1048576 * (20 + 30 * 1114112) := Nat.mul_le_mul_right _ (by omega)
    by_cases hlt : k < n
    · have hltz : (k : Int) < (n : Int) := by omega
      obtain ⟨s, hs⟩ : ∃ s, m[k]? = some s := ⟨m[k]'(by have := HN.out; omega), List.getElem?_eq_getElem _⟩
      obtain ⟨g, off, va, rfl, hg, c0w, c1w, c2w, hA⟩ := HS.out.at hs
      have hgB : g < B := Nat.lt_of_lt_of_le hg HBB.out.2.2.1
      have c0 := (HQ.out.bel.cell (p := ⟨g, off + k * 3, none⟩) hgB).trans c0w
      have c1 := (HQ.out.bel.cell (p := ⟨g, off + k * 3 + 1, none⟩) hgB).trans c1w
      have c2 := (HQ.out.bel.cell (p := ⟨g, off + k * 3 + 2, none⟩) hgB).trans c2w
      clear c0w c1w c2w
      obtain ⟨vd, vc, hva⟩ := hA.shape
      obtain ⟨na, hna⟩ : ∃ na, s.arcs.length = na := ⟨_, rfl⟩
      have HNA : Hid (s.arcs.length = na) := hna
      rw [hna] at hva
      subst hva
      have hFS := form_get m 0 k s HFM.out hs
      rw [Nat.zero_add] at hFS
      have HF : Hid (formS s k = true) := hFS
      obtain ⟨f1, f2, f3⟩ := form_facts hFS
      have hso := HS.out.ok s (List.mem_of_getElem? hs)
      obtain ⟨hso1, hso2⟩ := hso
      have HPM : Hid ((ys ++ putS s k) ++ putM (k + 1) (m.drop (k + 1)) = packB base m) := by show _ = _; rw [← HE.out, putM_at hs, List.append_assoc]
      obtain ⟨sb, hsb⟩ : ∃ sb, sb = wr.heap.size := ⟨_, rfl⟩
      obtain ⟨V1, hV1⟩ : ∃ V1, V1 = wr.alloc (.cells #[.bool s.final, .int .i64 s.out, .slice vd na vc] 61) := ⟨_, rfl⟩
      have hvb : Below wr.heap.size wr V1 := by rw [hV1]; exact (Below.refl _ wr).alloc (Nat.le_refl _) _
      have hx1 : V1.heap[sb]? = some (.cells #[.bool s.final, .int .i64 s.out, .slice vd na vc] 61) := by rw [hV1, hsb]; exact alloc_newP _ _
      have hBr : B ≤ wr.heap.size := Nat.le_trans HBL.out HQ.out.bel.size
      have HW1 : Hid (PW B W1 V1 sb s (.slice vd na vc) (.slice bd bn bc) ys) := ⟨HQ.out.bel.trans (hvb.mono hBr), HQ.out.byt.below hvb, hx1⟩
      have HA : Hid (ArcsAt E W1 (.slice vd na vc) s.arcs) := hA
      have HBV : Hid (Below B wr V1) := hvb.mono hBr
      have hh0 := head_ge s
      have hh1 : headS s ≤ 2228225 := by unfold headS; split <;> omega
      have hsl : (uw (headS s).toNat).length ≤ 10 := uw_short hh0 (by omega)
      have hsl2 : (uw s.out.toNat).length ≤ 10 := uw_short f2 (by omega)
      have HPS : Hid (putS s k = uw (headS s).toNat ++ ((if s.final then uw s.out.toNat else []) ++ putA k 0 s.arcs)) := rfl
      have HEB : Hid (E ≤ B) := HBB.out.2.2.1
      rw [hna] at f3
      have hw2 : IntKind.i64.wrap (2 * (na : Int)) = 2 * (na : Int) := by rw [IntKind.wrap_i64]; omega
      have hw3 : IntKind.i64.wrap (2 * (na : Int) + 1) = 2 * (na : Int) + 1 := by rw [IntKind.wrap_i64]; omega
      clear hs hA hFS hvb hx1 q0 q1
      obtain ⟨q0, q1⟩ := HCL.out wr HQ.out.bel
      go_upto_region 8 with fail
      rw [← hsb, ← hV1]
      clear hsb hV1 c0 c1 c2
      obtain ⟨p0, p1, p2⟩ := HW1.out.facts
      obtain ⟨fn, hfn⟩ : ∃ fn, s.final = fn := ⟨_, rfl⟩
      cases fn with
      | true =>
        have hhd : headS s = 2 * (na : Int) + 1 := by unfold headS; rw [hfn, hna]; rfl
        rw [hhd] at hh0 hsl HPS
        rw [hfn, if_pos rfl] at HPS
        rw [hfn] at p0
        clear hna
        go_upto_region 10 with (go_at_call 53; refine (HW1.out.rput HBL.out (2 * (na : Int) + 1) (by omega) (by omega) (by omega)).mono ?_; rintro e w5 ⟨d5, n5, c5, rfl, hp5⟩)
        have HW5 : Hid (PW B W1 w5 sb s (.slice vd na vc) (.slice d5 n5 c5) (ys ++ uw (2 * (na : Int) + 1).toNat)) := hp5
        clear hp5 p0 p1 p2
        obtain ⟨p0, p1, p2⟩ := HW5.out.facts
        go_upto_region 12 with (go_at_call 53; refine (HW5.out.rput HBL.out s.out f2 (by omega) (by rw [List.length_append]; omega)).mono ?_; rintro e w6 ⟨d6, n6, c6, rfl, hp6⟩)
        have HW6 : Hid (PW B W1 w6 sb s (.slice vd na vc) (.slice d6 n6 c6) (ys ++ uw (2 * (na : Int) + 1).toNat ++ uw s.out.toNat)) := hp6
        clear hp6 p0 p1 p2
        have HEQ6 : Hid (ys ++ uw (2 * (na : Int) + 1).toNat ++ uw s.out.toNat ++ putA k (aheadL s.arcs 0) (s.arcs.drop 0) = ys ++ putS s k) := by show _ = _; rw [HPS.out]; simp [aheadL]
        have HLN6 : Hid ((ys ++ uw (2 * (na : Int) + 1).toNat ++ uw s.out.toNat).length ≤ ys.length + 20 + 30 * 0) := by show _ ≤ _; simp only [List.length_append]; omega
        generalize ys ++ uw (2 * (na : Int) + 1).toNat ++ uw s.out.toNat = y6 at *
        clear hltz
        go_wp2
        go_loopw [3, 6, 7] (fun v la j wr => ∃ (q : Nat) (bd : Option Addr) (bn bc : Nat) (y2 : List Nat), q ≤ na ∧ j = .int .i64 q ∧ la = .int .i64 (aheadL s.arcs q) ∧ v = .slice bd bn bc ∧ PW B W1 wr sb s (.slice vd na vc) (.slice bd bn bc) y2 ∧ y2 ++ putA k (aheadL s.arcs q) (s.arcs.drop q) = ys ++ putS s k ∧ y2.length ≤ ys.length + 20 + 30 * q) (fun _ _ j _ => na - (intOf j).toNat)
        case atStart => exact ⟨0, _, _, _, _, Nat.zero_le _, rfl, rfl, rfl, HW6.out, HEQ6.out, HLN6.out⟩
        case round =>
          obtain ⟨q, ed, en, ec, y2, hq, rfl, rfl, rfl, hW, hE3, hL3⟩ := hrel
          have HW : Hid (PW B W1 wr sb s (.slice vd na vc) (.slice ed en ec) y2) := hW
          have HQ3 : Hid (y2 ++ putA k (aheadL s.arcs q) (s.arcs.drop q) = ys ++ putS s k) := hE3
          clear hW hE3
          obtain ⟨p0, p1, p2⟩ := HW.out.facts
          by_cases hltq : q < na
          · have hltz2 : (q : Int) < (na : Int) := by omega
            obtain ⟨x, hx⟩ : ∃ x, s.arcs[q]? = some x := ⟨s.arcs[q]'(by have := HNA.out; omega), List.getElem?_eq_getElem _⟩
            obtain ⟨a0, a1, a2, a3, a4, a5⟩ := arc_at HF.out hx
            have HPA : Hid (y2 ++ uw (x.label - aheadL s.arcs q).toNat ++ uw x.out.toNat ++ uw ((k : Int) - x.to).toNat ++ putA k (aheadL s.arcs (q + 1)) (s.arcs.drop (q + 1)) = ys ++ putS s k) := by
              show _ = _
              rw [← HQ3.out, putA_at hx]
              simp only [List.append_assoc]
            have HAH : Hid (aheadL s.arcs (q + 1) = x.label) := by show _ = _; rw [aheadL, hx]; rfl
            have hxo := HA.out.ok x (List.mem_of_getElem? hx)
            obtain ⟨⟨o0, o1⟩, ⟨o2, o3⟩, ⟨o4, o5⟩⟩ := hxo
            obtain ⟨ga, offa, rfl, hga, c0w, c1w, c2w⟩ := HA.out.at hx
            have HAC : Hid (∀ W, Below B W1 W → W.cell? ⟨ga, offa + q * 3, none⟩ = some (.int .i32 x.label) ∧ W.cell? ⟨ga, offa + q * 3 + 1, none⟩ = some (.int .i64 x.out) ∧ W.cell? ⟨ga, offa + q * 3 + 2, none⟩ = some (.int .i64 x.to)) := fun W hW => by
              have hgB2 : ga < B := Nat.lt_of_lt_of_le hga HEB.out
              exact ⟨(hW.cell (p := ⟨ga, offa + q * 3, none⟩) hgB2).trans c0w, (hW.cell (p := ⟨ga, offa + q * 3 + 1, none⟩) hgB2).trans c1w, (hW.cell (p := ⟨ga, offa + q * 3 + 2, none⟩) hgB2).trans c2w⟩
            have l1 := uw_short (z := x.label - aheadL s.arcs q) (by omega) (by omega)
            have l2 := uw_short (z := x.out) a3 (by omega)
            have l3 := uw_short (z := (k : Int) - x.to) (by omega) (by omega)
            generalize aheadL s.arcs q = pp at *
            have hwl : IntKind.i64.wrap (x.label - pp) = x.label - pp := by rw [IntKind.wrap_i64]; omega
            have hwt : IntKind.i64.wrap ((k : Int) - x.to) = (k : Int) - x.to := by rw [IntKind.wrap_i64]; omega
            have hwx : IntKind.i64.wrap x.label = x.label := by rw [IntKind.wrap_i64]; omega
            have hwq1 : IntKind.i64.wrap ((q : Int) + 1) = (q : Int) + 1 := by rw [IntKind.wrap_i64]; omega
            clear hx c0w c1w c2w hga
            obtain ⟨c0, c1, c2⟩ := HAC.out wr HW.out.bel
            go_upto_region 17 with (go_at_call 53; refine (HW.out.rput HBL.out (x.label - pp) (by omega) (by omega) (by omega)).mono ?_; rintro e V2 ⟨bd2, bn2, bc2, rfl, hp2⟩)
            have HP2 : Hid (PW B W1 V2 sb s (.slice (some ⟨ga, offa, none⟩) na vc) (.slice bd2 bn2 bc2) (y2 ++ uw (x.label - pp).toNat)) := hp2
            clear hp2 p0 p1 p2 c0 c1 c2
            obtain ⟨p0, p1, p2⟩ := HP2.out.facts
            obtain ⟨c0, c1, c2⟩ := HAC.out V2 HP2.out.bel
            go_upto_region 18 with (go_at_call 53; refine (HP2.out.rput HBL.out x.out a3 (by omega) (by rw [List.length_append]; omega)).mono ?_; rintro e V3 ⟨bd3, bn3, bc3, rfl, hp3⟩)
            have HP3 : Hid (PW B W1 V3 sb s (.slice (some ⟨ga, offa, none⟩) na vc) (.slice bd3 bn3 bc3) (y2 ++ uw (x.label - pp).toNat ++ uw x.out.toNat)) := hp3
            clear hp3 p0 p1 p2 c0 c1 c2
            obtain ⟨p0, p1, p2⟩ := HP3.out.facts
            obtain ⟨c0, c1, c2⟩ := HAC.out V3 HP3.out.bel
            go_upto_region 19 with (go_at_call 53; refine (HP3.out.rput HBL.out ((k : Int) - x.to) (by omega) (by omega) (by simp only [List.length_append]; omega)).mono ?_; rintro e V4 ⟨bd4, bn4, bc4, rfl, hp4⟩)
            have HP4 : Hid (PW B W1 V4 sb s (.slice (some ⟨ga, offa, none⟩) na vc) (.slice bd4 bn4 bc4) (y2 ++ uw (x.label - pp).toNat ++ uw x.out.toNat ++ uw ((k : Int) - x.to).toNat)) := hp4
            have HL4 : Hid ((y2 ++ uw (x.label - pp).toNat ++ uw x.out.toNat ++ uw ((k : Int) - x.to).toNat).length ≤ ys.length + 20 + 30 * (q + 1)) := by show _ ≤ _; simp only [List.length_append]; omega
            clear hp4 p0 p1 p2 c0 c1 c2
            obtain ⟨p0, p1, p2⟩ := HP4.out.facts
            obtain ⟨c0, c1, c2⟩ := HAC.out V4 HP4.out.bel
            go_wp2
            go_roundw
            case rel =>
              first
                | exact ⟨q + 1, _, _, _, _, by omega, by go_num, by rw [HAH.out], rfl, HP4.out, HPA.out, HL4.out⟩
                | (repeat (apply Exists.intro)
                   refine ⟨?_, rfl⟩
                   exact ⟨q + 1, _, _, _, _, by omega, by go_num, by rw [HAH.out], rfl, HP4.out, HPA.out, HL4.out⟩)
            case measure => simp [intOf]; omega
          · have hltz2 : ¬ (q : Int) < (na : Int) := by omega
            have hys : y2 = ys ++ putS s k := by
              have := HQ3.out
              rw [List.drop_of_length_le (by have := HNA.out; omega), putA, List.append_nil] at this
              exact this
            have HYtllmdfkiogmofaaGreatDoor : Hid (QW B W1 wr (.slice ed en ec) (ys ++ putS s k)) := by rw [← hys]; exact ⟨HW.out.bel, HW.out.byt⟩
            have HLN : Hid ((ys ++ putS s k).length ≤ 20 + (k + 1) * (20 + 30 * 1114112)) := by
              show _ ≤ _
              rw [← hys, Nat.add_mul]
              omega
            have hwk1 : IntKind.i64.wrap ((k : Int) + 1) = (k : Int) + 1 := by rw [IntKind.wrap_i64]; omega
            clear hys
            go_wp2
            go_roundw
            case rel =>
              first
                | exact ⟨k + 1, _, _, _, _, by omega, by go_num, rfl, HYtllmdfkiogmofaaGreatDoor.out, HPM.out, HLN.out⟩
                | (repeat (apply Exists.intro)
                   refine ⟨?_, rfl⟩
                   exact ⟨k + 1, _, _, _, _, by omega, by go_num, rfl, HYtllmdfkiogmofaaGreatDoor.out, HPM.out, HLN.out⟩)
            case measure => simp [intOf]; omega
      | false =>
        have hhd : headS s = 2 * (na : Int) := by unfold headS; rw [hfn, hna]; simp
        rw [hhd] at hh0 hsl HPS
        rw [hfn, if_neg (by simp)] at HPS
        rw [hfn] at p0
        clear hna
        go_upto_region 12 with (go_at_call 53; refine (HW1.out.rput HBL.out (2 * (na : Int)) (by omega) (by omega) (by omega)).mono ?_; rintro e w6 ⟨d6, n6, c6, rfl, hp6⟩)
        have HW6 : Hid (PW B W1 w6 sb s (.slice vd na vc) (.slice d6 n6 c6) (ys ++ uw (2 * (na : Int)).toNat)) := hp6
        clear hp6 p0 p1 p2
        have HEQ6 : Hid (ys ++ uw (2 * (na : Int)).toNat ++ putA k (aheadL s.arcs 0) (s.arcs.drop 0) = ys ++ putS s k) := by show _ = _; rw [HPS.out]; simp [aheadL]
        have HLN6 : Hid ((ys ++ uw (2 * (na : Int)).toNat).length ≤ ys.length + 20 + 30 * 0) := by show _ ≤ _; simp only [List.length_append]; omega
        generalize ys ++ uw (2 * (na : Int)).toNat = y6 at *
        clear hltz
        go_wp2
        go_loopw [3, 6, 7] (fun v la j wr => ∃ (q : Nat) (bd : Option Addr) (bn bc : Nat) (y2 : List Nat), q ≤ na ∧ j = .int .i64 q ∧ la = .int .i64 (aheadL s.arcs q) ∧ v = .slice bd bn bc ∧ PW B W1 wr sb s (.slice vd na vc) (.slice bd bn bc) y2 ∧ y2 ++ putA k (aheadL s.arcs q) (s.arcs.drop q) = ys ++ putS s k ∧ y2.length ≤ ys.length + 20 + 30 * q) (fun _ _ j _ => na - (intOf j).toNat)
        case atStart => exact ⟨0, _, _, _, _, Nat.zero_le _, rfl, rfl, rfl, HW6.out, HEQ6.out, HLN6.out⟩
        case round =>
          obtain ⟨q, ed, en, ec, y2, hq, rfl, rfl, rfl, hW, hE3, hL3⟩ := hrel
          have HW : Hid (PW B W1 wr sb s (.slice vd na vc) (.slice ed en ec) y2) := hW
          have HQ3 : Hid (y2 ++ putA k (aheadL s.arcs q) (s.arcs.drop q) = ys ++ putS s k) := hE3
          clear hW hE3
          obtain ⟨p0, p1, p2⟩ := HW.out.facts
          by_cases hltq : q < na
          · have hltz2 : (q : Int) < (na : Int) := by omega
            obtain ⟨x, hx⟩ : ∃ x, s.arcs[q]? = some x := ⟨s.arcs[q]'(by have := HNA.out; omega), List.getElem?_eq_getElem _⟩
            obtain ⟨a0, a1, a2, a3, a4, a5⟩ := arc_at HF.out hx
            have HPA : Hid (y2 ++ uw (x.label - aheadL s.arcs q).toNat ++ uw x.out.toNat ++ uw ((k : Int) - x.to).toNat ++ putA k (aheadL s.arcs (q + 1)) (s.arcs.drop (q + 1)) = ys ++ putS s k) := by
              show _ = _
              rw [← HQ3.out, putA_at hx]
              simp only [List.append_assoc]
            have HAH : Hid (aheadL s.arcs (q + 1) = x.label) := by show _ = _; rw [aheadL, hx]; rfl
            have hxo := HA.out.ok x (List.mem_of_getElem? hx)
            obtain ⟨⟨o0, o1⟩, ⟨o2, o3⟩, ⟨o4, o5⟩⟩ := hxo
            obtain ⟨ga, offa, rfl, hga, c0w, c1w, c2w⟩ := HA.out.at hx
            have HAC : Hid (∀ W, Below B W1 W → W.cell? ⟨ga, offa + q * 3, none⟩ = some (.int .i32 x.label) ∧ W.cell? ⟨ga, offa + q * 3 + 1, none⟩ = some (.int .i64 x.out) ∧ W.cell? ⟨ga, offa + q * 3 + 2, none⟩ = some (.int .i64 x.to)) := fun W hW => by
              have hgB2 : ga < B := Nat.lt_of_lt_of_le hga HEB.out
              exact ⟨(hW.cell (p := ⟨ga, offa + q * 3, none⟩) hgB2).trans c0w, (hW.cell (p := ⟨ga, offa + q * 3 + 1, none⟩) hgB2).trans c1w, (hW.cell (p := ⟨ga, offa + q * 3 + 2, none⟩) hgB2).trans c2w⟩
            have l1 := uw_short (z := x.label - aheadL s.arcs q) (by omega) (by omega)
            have l2 := uw_short (z := x.out) a3 (by omega)
            have l3 := uw_short (z := (k : Int) - x.to) (by omega) (by omega)
            generalize aheadL s.arcs q = pp at *
            have hwl : IntKind.i64.wrap (x.label - pp) = x.label - pp := by rw [IntKind.wrap_i64]; omega
            have hwt : IntKind.i64.wrap ((k : Int) - x.to) = (k : Int) - x.to := by rw [IntKind.wrap_i64]; omega
            have hwx : IntKind.i64.wrap x.label = x.label := by rw [IntKind.wrap_i64]; omega
            have hwq1 : IntKind.i64.wrap ((q : Int) + 1) = (q : Int) + 1 := by rw [IntKind.wrap_i64]; omega
            clear hx c0w c1w c2w hga
            obtain ⟨c0, c1, c2⟩ := HAC.out wr HW.out.bel
            go_upto_region 17 with (go_at_call 53; refine (HW.out.rput HBL.out (x.label - pp) (by omega) (by omega) (by omega)).mono ?_; rintro e V2 ⟨bd2, bn2, bc2, rfl, hp2⟩)
            have HP2 : Hid (PW B W1 V2 sb s (.slice (some ⟨ga, offa, none⟩) na vc) (.slice bd2 bn2 bc2) (y2 ++ uw (x.label - pp).toNat)) := hp2
            clear hp2 p0 p1 p2 c0 c1 c2
            obtain ⟨p0, p1, p2⟩ := HP2.out.facts
            obtain ⟨c0, c1, c2⟩ := HAC.out V2 HP2.out.bel
            go_upto_region 18 with (go_at_call 53; refine (HP2.out.rput HBL.out x.out a3 (by omega) (by rw [List.length_append]; omega)).mono ?_; rintro e V3 ⟨bd3, bn3, bc3, rfl, hp3⟩)
            have HP3 : Hid (PW B W1 V3 sb s (.slice (some ⟨ga, offa, none⟩) na vc) (.slice bd3 bn3 bc3) (y2 ++ uw (x.label - pp).toNat ++ uw x.out.toNat)) := hp3
            clear hp3 p0 p1 p2 c0 c1 c2
            obtain ⟨p0, p1, p2⟩ := HP3.out.facts
            obtain ⟨c0, c1, c2⟩ := HAC.out V3 HP3.out.bel
            go_upto_region 19 with (go_at_call 53; refine (HP3.out.rput HBL.out ((k : Int) - x.to) (by omega) (by omega) (by simp only [List.length_append]; omega)).mono ?_; rintro e V4 ⟨bd4, bn4, bc4, rfl, hp4⟩)
            have HP4 : Hid (PW B W1 V4 sb s (.slice (some ⟨ga, offa, none⟩) na vc) (.slice bd4 bn4 bc4) (y2 ++ uw (x.label - pp).toNat ++ uw x.out.toNat ++ uw ((k : Int) - x.to).toNat)) := hp4
            have HL4 : Hid ((y2 ++ uw (x.label - pp).toNat ++ uw x.out.toNat ++ uw ((k : Int) - x.to).toNat).length ≤ ys.length + 20 + 30 * (q + 1)) := by show _ ≤ _; simp only [List.length_append]; omega
            clear hp4 p0 p1 p2 c0 c1 c2
            obtain ⟨p0, p1, p2⟩ := HP4.out.facts
            obtain ⟨c0, c1, c2⟩ := HAC.out V4 HP4.out.bel
            go_wp2
            go_roundw
            case rel =>
              first
                | exact ⟨q + 1, _, _, _, _, by omega, by go_num, by rw [HAH.out], rfl, HP4.out, HPA.out, HL4.out⟩
                | (repeat (apply Exists.intro)
                   refine ⟨?_, rfl⟩
                   exact ⟨q + 1, _, _, _, _, by omega, by go_num, by rw [HAH.out], rfl, HP4.out, HPA.out, HL4.out⟩)
            case measure => simp [intOf]; omega
          · have hltz2 : ¬ (q : Int) < (na : Int) := by omega
            have hys : y2 = ys ++ putS s k := by
              have := HQ3.out
              rw [List.drop_of_length_le (by have := HNA.out; omega), putA, List.append_nil] at this
              exact this
            have HYtllmdfkiogmofaaGreatDoor : Hid (QW B W1 wr (.slice ed en ec) (ys ++ putS s k)) := by rw [← hys]; exact ⟨HW.out.bel, HW.out.byt⟩
            have HLN : Hid ((ys ++ putS s k).length ≤ 20 + (k + 1) * (20 + 30 * 1114112)) := by
              show _ ≤ _
              rw [← hys, Nat.add_mul]
              omega
            have hwk1 : IntKind.i64.wrap ((k : Int) + 1) = (k : Int) + 1 := by rw [IntKind.wrap_i64]; omega
            clear hys
            go_wp2
            go_roundw
            case rel =>
              first
                | exact ⟨k + 1, _, _, _, _, by omega, by go_num, rfl, HYtllmdfkiogmofaaGreatDoor.out, HPM.out, HLN.out⟩
                | (repeat (apply Exists.intro)
                   refine ⟨?_, rfl⟩
                   exact ⟨k + 1, _, _, _, _, by omega, by go_num, rfl, HYtllmdfkiogmofaaGreatDoor.out, HPM.out, HLN.out⟩)
            case measure => simp [intOf]; omega
    · have hltz : ¬ (k : Int) < (n : Int) := by omega
      have hys : ys = packB base m := by
        have := HE.out
        rw [List.drop_of_length_le (by have := HN.out; omega), putM, List.append_nil] at this
        exact this
      go_wp2
      go_ret
      refine ⟨_, _, _, rfl, ?_, HBW.out.trans (HQ.out.bel.mono HBB.out.1)⟩
      rw [← hys]
      exact HQ.out.byt.mono HBB.out.1
end Go.Proofs.YtllmdfkiogmofaaGreatDoor
