/- Texts that were written apart, joined. -/
import Derived.Test.YthecngkdmnadoaaGreatG27
import Derived.Test.YthecngkdmnadoaaGreatFree
import Derived.Test.YthecngkdmnadoaaGreatDrawnE
import Derived.RangeFuncNested
import Derived.RangeFuncCalls
import Derived.OrdersIn
/- The first segments freed: freeFront. -/
namespace Go.Proofs.YthecngkdmnadoaaGreat
open Go.RowKit
set_option maxRecDepth 100000

def ownB (ad : Option Addr) : List Nat := (ad.map (·.block)).toList
/-- Segments freed one after the other, until the disk refuses. -/
def frsR (d : DS) : List Pl → Int × DS
  | [] => (0, d)
  | x :: r => if frE d = 0 then frsR (frD d ((4 * x.1 + 1 : Nat) : Int)) r else (frE d, frD d ((4 * x.1 + 1 : Nat) : Int))
structure FrR (N : Nat) (p : Nat) (d : DS) (fp : List Nat) (l : List Pl) (w : World) (v15 : Value) (wr : World) (i : Nat) (d' : DS) (fp' : List Nat) : Prop where
  e15 : v15 = .int .i64 i
  hi : i ≤ l.length
  rest : frsR d l = frsR d' (l.drop i)
  disk : DiskAt (N + i) wr p d' fp'
  sub : ∀ x ∈ fp', x ∈ fp
  only : Only fp w wr
theorem QOwn.only {B : Nat} {w w' : World} {v : Value} {l : List Pl} {fp : List Nat} (h : QOwn B w v l) (hb : Only fp w w') (hf : ∀ ad n c, v = .slice ad n c → ∀ x ∈ ownB ad, x ∉ fp) : QOwn B w' v l := by
  obtain ⟨hl, hn | ⟨g, cap, cur, rfl, h1, hg, h2⟩⟩ := h
  · exact ⟨hl, .inl hn⟩
  · exact ⟨hl, .inr ⟨g, cap, cur, rfl, h1, (hb.block g (Array.getElem?_eq_some_iff.1 hg).1 (hf _ _ _ rfl g (by simp [ownB]))).trans hg, h2⟩⟩
theorem Only.wider {fp fp' : List Nat} {w w' : World} (h : Only fp w w') (hs : ∀ x ∈ fp, x ∈ fp') : Only fp' w w' := ⟨h.os, h.tape, h.output, h.size, fun k hk hn => h.block k hk fun hx => hn (hs k hx)⟩
theorem Only.setCell {fp : List Nat} {a w : World} (h : Only fp a w) {r : Nat} (hr : r ∈ fp) (o : Nat) (u : Value) : Only fp a (w.setCell ⟨r, o, none⟩ u) :=
  h.then (Only.of_one (fp := fp) (one_setCell w r o u) hr) (fun _ hx => hx)
set_option maxHeartbeats 1000000 in
theorem deleteQ_nil (w : World) : Calls Tryz.prog 83 #[.slice none 0 0, .int .i64 0, .int .i64 0] w fun e w' => e = .returned (.slice none 0 0) ∧ w' = w := by
  go_enter Tryz.func83, Tryz.ntmps83
  go_wp2_with fail
  go_ret
  exact ⟨rfl, rfl⟩
/-- slices.Delete of the first ones of whatever row of places. -/
theorem deleteQ_front (B : Nat) (w : World) (ad : Option Addr) (n c i : Nat) (l : List Pl) (h : QOwn B w (.slice ad n c) l) (hi : i ≤ n) (hn : n < 1099511627776) :
    Calls Tryz.prog 83 #[.slice ad n c, .int .i64 0, .int .i64 i] w fun e w' => e = .returned (.slice ad (n - i) c) ∧ QOwn B w' (.slice ad (n - i) c) (l.drop i) ∧ Only (ownB ad) w w' := by
  have h' := h
  obtain ⟨hl, ⟨e, h0⟩ | ⟨g, cap, cur, e, hb, hh, h3, h4, h5, h6⟩⟩ := h'
  · simp only [Value.slice.injEq] at e
    obtain ⟨rfl, rfl, rfl⟩ := e
    obtain rfl : i = 0 := by omega
    obtain rfl := List.eq_nil_of_length_eq_zero h0
    refine (deleteQ_nil w).mono ?_
    rintro e w' ⟨rfl, rfl⟩
    exact ⟨rfl, h, Only.refl _ _⟩
  · simp only [Value.slice.injEq] at e
    obtain ⟨rfl, -, rfl⟩ := e
    refine (deleteQ_any B w g c n 0 i l h (Nat.zero_le _) hi hn).mono ?_
    rintro e w' ⟨rfl, h1, h2⟩
    refine ⟨rfl, by simpa using h1, ⟨h2.os, h2.tape, h2.output, h2.size, fun k hk hx => h2.block k hk fun e => hx (by simp [ownB, e])⟩⟩
theorem WalAt.places {w : World} {b : Nat} {n : WN} {v : WV} (h : WalAt w b n v) (m : Nat) : WalAt (w.setCell ⟨b, 3, none⟩ (.slice v.pa m v.pc)) b n { v with pn := m } := by
  unfold WalAt
  rw [set_cell h 3 _]
  rfl
def S2 (b p pb : Nat) (x : Int) (W : World) : Prop := W.cell? ⟨b, 0, none⟩ = some (.pointer (some ⟨p, 0, none⟩)) ∧ W.cell? ⟨pb, 0, none⟩ = some (.int .u64 x)
theorem S2.facts {b p pb : Nat} {x : Int} {W : World} (h : S2 b p pb x W) : W.cell? ⟨b, 0, none⟩ = some (.pointer (some ⟨p, 0, none⟩)) ∧ W.cell? ⟨pb, 0, none⟩ = some (.int .u64 x) := h
set_option maxHeartbeats 4000000 in
theorem freeFront_any (B N b k : Nat) (d : DS) (fp : List Nat) (n : WN) (v : WV) (l : List Pl) (w : World) (h : DiskAt N w v.p d fp) (hw : WalAt w b n v) (hN : N < 549755813888) (hq : QOwn B w (.slice v.pa v.pn v.pc) l) (hk : k ≤ v.pn) (hkn : v.pn < 549755813888)
    (hbf : b ∉ fp) (hgf : ∀ x ∈ ownB v.pa, x ∉ fp ∧ x ≠ b) (hl : ∀ x ∈ l, x.1 ≤ 1152921504606846976) :
    Calls Tryz.prog 65 #[.pointer (some ⟨b, 0, none⟩), .int .i64 k] w fun e w' => e = .returned (.int .i64 (frsR d (l.take k)).1) ∧ (∃ fp', DiskAt (N + k) w' v.p (frsR d (l.take k)).2 fp' ∧ ∀ x ∈ fp', x ∈ fp) ∧ Only (b :: (ownB v.pa ++ fp)) w w' ∧
      (((frsR d (l.take k)).1 = 0 ∧ WalAt w' b n { v with pn := v.pn - k } ∧ QOwn B w' (.slice v.pa (v.pn - k) v.pc) (l.drop k)) ∨ ((frsR d (l.take k)).1 ≠ 0 ∧ WalAt w' b n v ∧ QOwn B w' (.slice v.pa v.pn v.pc) l)) := by
  have HD : Hid (DiskAt N w v.p d fp) := h
  have HQ : Hid (QOwn B w (.slice v.pa v.pn v.pc) l) := hq
  have HW : Hid (WalAt w b n v) := hw
  have HF : Hid (b ∉ fp ∧ (∀ x ∈ ownB v.pa, x ∉ fp ∧ x ≠ b)) := ⟨hbf, hgf⟩
  have HL : Hid (∀ x ∈ l, x.1 ≤ 1152921504606846976) := hl
  have hlen : v.pn = l.length := by
    obtain ⟨ad, cap, e⟩ := hq.shape
    simp only [Value.slice.injEq] at e
    exact e.2.1
  have hpc : v.pn ≤ v.pc := by
    obtain ⟨hl, ⟨e, h0⟩ | ⟨g, cap, cur, e, hb, hh, h3, h4, h5, h6⟩⟩ := hq
    · simp only [Value.slice.injEq] at e; omega
    · simp only [Value.slice.injEq] at e; omega
  obtain ⟨c0, c1, c2, c3, c4, c5, c6, c7, c8, c9, hz⟩ := hw.cells
  have hkz : (k : Int) ≤ (v.pn : Int) := by omega
  have hkc : k ≤ v.pc := by omega
  have hpnc : (v.pn : Int) ≤ (v.pc : Int) := by omega
  have HLK : Hid ((l.take k).length = k) := by show _ = _; rw [List.length_take]; omega
  clear c1 c2 c4 c5 c6 c7 c8 c9 h hq hlen hl hgf hw
  obtain ⟨pa, hpa⟩ : ∃ pa, v.pa = pa := ⟨_, rfl⟩
  obtain ⟨pn, hpn⟩ : ∃ pn, v.pn = pn := ⟨_, rfl⟩
  obtain ⟨pc, hpc2⟩ : ∃ pc, v.pc = pc := ⟨_, rfl⟩
  obtain ⟨p, hp⟩ : ∃ p, v.p = p := ⟨_, rfl⟩
  go_enter Tryz.func65, Tryz.ntmps65
  go_wp2_with fail
  go_loopw [15] (fun v15 wr => ∃ i d' fp', FrR N v.p d fp (l.take k) w v15 wr i d' fp') (fun v15 _ => k - (intOf v15).toNat)
  case atStart => exact ⟨0, d, fp, rfl, Nat.zero_le _, rfl, HD.out, fun _ hx => hx, Only.refl _ _⟩
  case round =>
    obtain ⟨i, d', fp', hI⟩ := hrel
    have HI : Hid (FrR N v.p d fp (l.take k) w _ wr i d' fp') := hI
    obtain ⟨rfl, hi, -, -, -, hO⟩ := hI
    rw [HLK.out] at hi
    have hb0 := (Array.getElem?_eq_some_iff.1 HW.out).1
    have hW2 : WalAt wr b n v := (hO.block b hb0 HF.out.1).trans HW.out
    have hQ2 : QOwn B wr (.slice v.pa v.pn v.pc) l := HQ.out.only hO (fun ad n c e => by simp only [Value.slice.injEq] at e; rw [← e.1]; exact fun x hx => (HF.out.2 x hx).1)
    have HW2 : Hid (WalAt wr b n v) := hW2
    have HQ2 : Hid (QOwn B wr (.slice v.pa v.pn v.pc) l) := hQ2
    obtain ⟨e0, e1, e2, e3, e4, e5, e6, e7, e8, e9, ez⟩ := hW2.cells
    have hwr : b < wr.heap.size := hW2.lt
    clear e1 e2 e4 e5 e6 e7 e8 e9 hO hW2 c0 c3
    by_cases hin : i < k
    · obtain ⟨x, hx⟩ : ∃ x, l[i]? = some x := ⟨_, List.getElem?_eq_getElem (by have := HLK.out; rw [List.length_take] at this; omega)⟩
      obtain ⟨g, off, hpg, hg, hc⟩ := hQ2.row.at (by omega)
      have hxx := hc i x hx
      obtain ⟨t0, t1⟩ := hxx
      clear hQ2 hc
      rw [hpg] at hpa
      subst hpa
      have hi1 := HI.out.disk
      rw [hp] at hi1
      have hlt : ∀ y ∈ fp', y < wr.heap.size := hi1.lt
      have hxn : x.1 ≤ 1152921504606846976 := HL.out x (List.mem_of_getElem? hx)
      obtain ⟨w1, hw1⟩ : ∃ w1, wr.alloc (.cells #[.int .u64 (x.1 : Int), .int .u64 (x.2 : Int)] 115) = w1 := ⟨_, rfl⟩
      have hs1 : w1.heap.size = wr.heap.size + 1 := by rw [← hw1]; simp
      have B1 : Below wr.heap.size wr w1 := hw1 ▸ (Below.refl _ wr).alloc (Nat.le_refl _) _
      have HD1 : Hid (DiskAt (N + i) w1.drew p d' fp') := hi1.below B1.drew
      have hn1 : w1.cell? ⟨wr.heap.size, 0, none⟩ = some (.int .u64 (x.1 : Int)) := by rw [← hw1]; simp
      rw [hp] at e0
      have HS : Hid (S2 b p wr.heap.size (x.1 : Int) w1.drew) := ⟨(B1.cell (p := ⟨b, 0, none⟩) hwr).trans e0, hn1⟩
      have HO1 : Hid (Only fp w w1.drew) := (HI.out.only.then (Only.of_below (fp := fp) B1) (fun _ hh => hh)).drew
      have HRX : Hid (frsR d (l.take k) = if frE d' = 0 then frsR (frD d' ((4 * x.1 + 1 : Nat) : Int)) ((l.take k).drop (i + 1)) else (frE d', frD d' ((4 * x.1 + 1 : Nat) : Int))) := by
        show _ = _
        have hxk : (l.take k)[i]? = some x := by rw [List.getElem?_take, if_pos hin]; exact hx
        have hlk : i < (l.take k).length := (List.getElem?_eq_some_iff.1 hxk).1
        have e : (l.take k).drop i = x :: (l.take k).drop (i + 1) := by
          rw [List.drop_eq_getElem_cons hlk]
          congr 1
          exact (List.getElem?_eq_some_iff.1 hxk).2
        rw [HI.out.rest, e, frsR]
      have hbn : b ∉ fp' := fun hh => hbf (HI.out.sub b hh)
      go_upto_region 4 with fail
      try rw [hw1]
      clear hn1 B1 hw1 hi1 t0 t1 e0 e3
      refine region_at (S := S2 b p wr.heap.size (x.1 : Int)) 9 rfl (by kernel_rfl) HS.out (fun _ => ?_)
      refine take_at (i := 0) 19 rfl rfl (by kernel_rfl) (by kernel_rfl) (by kernel_rfl) (fun _ _ _ h => h) (by rfl) (fun w hSw => by (have hSw2 := S2.facts hSw; clear hSw; go_simp; first | done | exact rfl)) (by assumption) ?_
      simp only [List.setIfInBounds_toArray, List.set_cons_zero, List.set_cons_succ]
      refine take_at (i := 1) 20 rfl rfl (by kernel_rfl) (by kernel_rfl) (by kernel_rfl) (fun _ _ _ h => h) (by rfl) (fun w hSw => by (have hSw2 := S2.facts hSw; clear hSw; go_simp; first | done | exact rfl)) (by assumption) ?_
      simp only [List.setIfInBounds_toArray, List.set_cons_zero, List.set_cons_succ]
      refine take_at (i := 2) 21 rfl rfl (by kernel_rfl) (by kernel_rfl) (by kernel_rfl) (fun _ _ _ h => h) (by rfl) (fun w hSw => by (have hSw2 := S2.facts hSw; clear hSw; go_simp; first | done | exact rfl)) (by assumption) ?_
      simp only [List.setIfInBounds_toArray, List.set_cons_zero, List.set_cons_succ]
      refine take_at (i := 3) 22 rfl rfl (by kernel_rfl) (by kernel_rfl) (by kernel_rfl) (fun _ _ _ h => h) (by rfl) (fun w hSw => by (have hSw2 := S2.facts hSw; clear hSw; go_simp; first | done | exact rfl)) (by assumption) ?_
      simp only [List.setIfInBounds_toArray, List.set_cons_zero, List.set_cons_succ]
      refine take_at (i := 4) 23 rfl rfl (by kernel_rfl) (by kernel_rfl) (by kernel_rfl) (fun _ _ _ h => h) (by rfl) (fun w hSw => by (have hSw2 := S2.facts hSw; clear hSw; go_simp; first | done | exact rfl)) (by assumption) ?_
      simp only [List.setIfInBounds_toArray, List.set_cons_zero, List.set_cons_succ]
      refine take_at (i := 5) 24 rfl rfl (by kernel_rfl) (by kernel_rfl) (by kernel_rfl) (fun _ _ _ h => h) (by rfl) (fun w hSw => by (have hSw2 := S2.facts hSw; clear hSw; go_simp; first | done | exact rfl)) (by assumption) ?_
      simp only [List.setIfInBounds_toArray, List.set_cons_zero, List.set_cons_succ]
      refine one_call (i := 6) (w0 := w1.drew) 25 38 #[.int .u64 (x.1 : Int)] (by kernel_rfl) rfl rfl (by rfl) (by kernel_rfl) ?_
      refine (areaOf_any x.1 _ hxn).mono ?_
      rintro e w2 ⟨rfl, hw2⟩
      subst w2
      refine ⟨_, rfl, HS.out, fun _ => ?_⟩
      simp only [List.setIfInBounds_toArray, List.set_cons_zero, List.set_cons_succ]
      refine one_call (i := 7) (w0 := w1.drew) 26 27 #[.pointer (some ⟨p, 0, none⟩), .int .u64 ((4 * x.1 + 1 : Nat) : Int)] (by kernel_rfl) rfl rfl (by rfl) (by kernel_rfl) ?_
      refine (Free_any (N + i) p d' fp' _ _ HD1.out (by omega)).mono ?_
      rintro e w3 ⟨rfl, fp3, hD3, hO3, hs3⟩
      have HS3 : Hid (S2 b p wr.heap.size (x.1 : Int) w3) := by
        refine ⟨?_, ?_⟩
        · have := hO3.block b (by show b < w1.heap.size; omega) hbn
          have h0 := HS.out.1
          unfold World.cell? at h0 ⊢
          rw [this]; exact h0
        · have := hO3.block wr.heap.size (by show wr.heap.size < w1.heap.size; omega) (fun hh => by have := hlt _ hh; omega)
          have h0 := HS.out.2
          unfold World.cell? at h0 ⊢
          rw [this]; exact h0
      refine ⟨_, rfl, HS3.out, fun _ => ?_⟩
      simp only [List.setIfInBounds_toArray, List.set_cons_zero, List.set_cons_succ]
      refine one_value (i := 8) (v := .int .i64 (frE d')) (w' := w3) 7 (by kernel_rfl) rfl rfl (by rfl) (by kernel_rfl) HS3.out (fun _ => ?_)
      refine wpAnyH_done (by kernel_rfl) ?_ _
      simp only [List.setIfInBounds_toArray, List.set_cons_zero, List.set_cons_succ]
      have HO3 : Hid (Only fp w w3) := HO1.out.then hO3 HI.out.sub
      have HD3 : Hid (DiskAt (N + i + 1) w3 p (frD d' ((4 * x.1 + 1 : Nat) : Int)) fp3) := hD3
      have HS4 : Hid (∀ y ∈ fp3, y ∈ fp) := fun y hy => HI.out.sub y (hs3 y hy)
      clear hD3 hO3 hs3 HS HS3 HD1 HO1 hlt hbn
      by_cases h0 : frE d' = 0
      · rw [if_pos h0] at HRX
        rw [h0]
        go_wp2_with fail
        go_roundw
        case rel => exact ⟨i + 1, _, fp3, by go_num, by rw [HLK.out]; omega, HRX.out, by rw [hp]; exact HD3.out, HS4.out, HO3.out⟩
        case measure => simp [intOf]; omega
      · rw [if_neg h0] at HRX
        have h0b : (frE d' == 0) = false := by simpa using h0
        have h0n : (frE d' != 0) = true := by simpa using h0
        go_wp2_with fail
        go_ret
        have hO := HO3.out
        refine ⟨by rw [HRX.out]; rfl, ⟨fp3, by rw [HRX.out, hp]; exact HD3.out.mono (by omega), HS4.out⟩, hO.wider (fun y hy => by simp [hy]), .inr ⟨by rw [HRX.out]; exact h0, (hO.block b hb0 HF.out.1).trans HW.out, ?_⟩⟩
        exact HQ.out.only hO (fun ad n c e => by simp only [Value.slice.injEq] at e; rw [← e.1]; exact fun x hx => (HF.out.2 x hx).1)
    · have hik : i = k := by omega
      subst hik
      have HRX : Hid (frsR d (l.take i) = (0, d')) := by
        show _ = _
        rw [HI.out.rest, List.drop_eq_nil_of_le (Nat.le_of_eq HLK.out), frsR]
      have HDEL : Hid (Calls Tryz.prog 83 #[.slice pa pn pc, .int .i64 0, .int .i64 i] wr fun e w' => e = .returned (.slice pa (pn - i) pc) ∧ QOwn B w' (.slice pa (pn - i) pc) (l.drop i) ∧ Only (ownB pa) wr w') := by
        have := deleteQ_front B wr v.pa v.pn v.pc i l hQ2 (by omega) (by omega)
        rw [hpa, hpn, hpc2] at this
        exact this
      clear hQ2
      go_wp2_with (go_at_call 83; refine HDEL.out.mono ?_; rintro e w4 ⟨rfl, hq4, hO4⟩; have hW4 := (show WalAt w4 b n v from (hO4.block b hwr (by rw [← hpa]; exact fun hx => (HF.out.2 b hx).2 rfl)).trans HW2.out); have ez4 := hW4.cells.2.2.2.2.2.2.2.2.2.2; have ec4 := hW4.cells.2.2.2.1)
      go_ret
      rw [← hpa, ← hpn, ← hpc2] at hq4
      rw [← hpa] at hO4
      rw [← hpa, ← hpn, ← hpc2]
      have hOb : Only [b] w4 (w4.setCell ⟨b, 3, none⟩ (.slice v.pa (v.pn - i) v.pc)) := (Only.refl _ _).setCell (by simp) _ _
      refine ⟨by rw [HRX.out]; rfl, ⟨fp', ?_, HI.out.sub⟩, ?_, .inl ⟨by rw [HRX.out], hW4.places _, ?_⟩⟩
      · rw [HRX.out]
        exact (HI.out.disk.apart hO4 fun x hx hx' => (HF.out.2 x hx').1 (HI.out.sub x hx)).apart hOb fun x hx hx' => by
          rw [List.mem_singleton] at hx'
          exact hbf (HI.out.sub b (hx' ▸ hx))
      · exact ((HI.out.only.wider (fun y hy => by simp [hy])).then hO4 (fun y hy => by simp [hy])).then hOb (fun y hy => by rw [List.mem_singleton] at hy; simp [hy])
      · exact hq4.only hOb (fun ad n c e => by
          simp only [Value.slice.injEq] at e
          rw [← e.1]
          intro x hx hx'
          rw [List.mem_singleton] at hx'
          exact (HF.out.2 x hx).2 hx')
end Go.Proofs.YthecngkdmnadoaaGreat

/- A region that draws its order inside a round of a range over a function; a range over a function whose rounds are told by number, and that may return. -/
namespace Go.Proofs.YthecngkdmnadoaaGreat
open Go.RowKit
set_option maxRecDepth 100000

/-- Only blocks of F have changed, and new ones. -/
structure Upd (F : Nat → Prop) (w w' : World) : Prop where
  os : w'.os = w.os
  tape : w'.tape = w.tape
  output : w'.output = w.output
  size : w.heap.size ≤ w'.heap.size
  block : ∀ k, k < w.heap.size → ¬ F k → w'.heap[k]? = w.heap[k]?
theorem Upd.refl (F : Nat → Prop) (w : World) : Upd F w w := ⟨rfl, rfl, rfl, Nat.le_refl _, fun _ _ _ => rfl⟩
theorem Upd.trans {F G : Nat → Prop} {a b c : World} (h1 : Upd F a b) (h2 : Upd G b c) (hG : ∀ k, k < a.heap.size → G k → F k) : Upd F a c :=
  ⟨h2.os.trans h1.os, h2.tape.trans h1.tape, h2.output.trans h1.output, Nat.le_trans h1.size h2.size, fun k hk hF => (h2.block k (Nat.lt_of_lt_of_le hk h1.size) (fun g => hF (hG k hk g))).trans (h1.block k hk hF)⟩
theorem Upd.mono {F G : Nat → Prop} {a b : World} (h : Upd F a b) (hG : ∀ k, F k → G k) : Upd G a b := ⟨h.os, h.tape, h.output, h.size, fun k hk hF => h.block k hk (fun f => hF (hG k f))⟩
theorem Upd.of_below {F : Nat → Prop} {w w' : World} (h : Below w.heap.size w w') : Upd F w w' := ⟨h.os, h.tape, h.output, h.size, fun k hk _ => h.block k hk⟩
theorem Upd.of_only {fp : List Nat} {w w' : World} (h : Only fp w w') : Upd (fun k => k ∈ fp) w w' := ⟨h.os, h.tape, h.output, h.size, fun k hk hn => h.block k hk hn⟩
theorem Upd.only {fp : List Nat} {F : Nat → Prop} {w w' : World} (h : Upd F w w') (hF : ∀ k, k < w.heap.size → F k → k ∈ fp) : Only fp w w' := ⟨h.os, h.tape, h.output, h.size, fun k hk hn => h.block k hk fun f => hn (hF k hk f)⟩
def noDefer (l : List Oper) : Bool := l.all fun o => match o.op with | .defer _ => false | _ => true
section
variable {F : Fence} {n : Nat} {P : Program} {md : Region.Mode} {ops : Array Oper} {Q : Exit → Act → World → Prop}
theorem rowsIn_wide {row : String} {args : Array Value} {w : World} {R : Value → World → Prop} (h : Rows P row args w R) : RowsIn Fence.wide n P row args w R :=
  fun c cs _ => let ⟨v, w', r, s⟩ := h c cs; ⟨v, w', r, stepsIn_wide.2 s⟩
theorem wp_toWide {o : Oper} {a : Act} {w : World} {K : Act → World → Prop} (h : o.wp P a w K Q) : o.wpIn Fence.wide n P a w K Q := by
  unfold Oper.wp at h
  unfold Oper.wpIn
  refine ⟨fun _ _ => trivial, ?_⟩
  show o.uponIn Fence.wide n P a K Q ((o.semAt none a.eval).run P w)
  rw [Oper.semAt_none]
  generalize (execOp a.eval o).run P w = r at *
  cases r with
  | ok x w' =>
    cases x with
    | enter f args => exact ⟨fun h => by simp [Fence.wide] at h, callsIn_wide.2 h⟩
    | row r args => exact ⟨fun h => by simp [Fence.wide] at h, rowsIn_wide h⟩
    | _ => first | exact h | exact h.elim
  | halt x w' => cases x <;> first | exact h | exact h.elim
theorem wpOp_toWide {i : Nat} {a : Act} {w : World} {K : Act → World → Prop} (hlo : ¬ LetsOut Q) (h : wpOp P ops Q i K a w) : wpOpIn Fence.wide n P ops Q i K a w := by
  unfold wpOp at h
  unfold wpOpIn
  cases ho : ops[i]? with
  | none => simp only [ho] at h ⊢; exact h
  | some o =>
    simp only [ho] at h ⊢
    by_cases hw : Region.wanted o (yielded ops a.tmps) = true
    · rw [if_pos hw] at h ⊢
      rcases h with h | h
      · exact wp_toWide h
      · exact absurd h.2 hlo
    · rw [if_neg hw] at h ⊢
      exact ⟨fun _ _ => trivial, h⟩
theorem wpAny_toWide (hlo : ¬ LetsOut Q) : ∀ (fuel : Nat) (listed : Array Bool) (a : Act) (w : World), wpAny P md ops Q fuel listed a w → wpAnyIn Fence.wide n P md ops Q fuel listed a w
  | 0, _, _, _, h => h
  | fuel + 1, _, _, _, h => ⟨h.1, fun i hi => wpOpIn_mono (fun a' w' h' => wpAny_toWide hlo fuel _ a' w' h') (wpOp_toWide hlo (h.2 i hi))⟩
theorem wpIn_toRound {o : Oper} {a : Act} {w : World} {K : Act → World → Prop} (lp : Nat) (hro : F.round = none) (hd : ∀ c, o.op ≠ .defer c) (h : o.wpIn F n P a w K Q) : o.wpIn (F.inRound lp) n P a w K Q := by
  unfold Oper.wpIn at *
  refine ⟨h.1, ?_⟩
  have h2 := h.2
  rw [hro, Oper.semAt_none] at h2
  rw [Oper.semAt_eq _ _ _ hd]
  generalize (execOp a.eval o).run P w = r at *
  cases r with
  | ok x w' => cases x <;> exact h2
  | halt x w' => cases x <;> exact h2
theorem wpAnyIn_toRound (lp : Nat) (hro : F.round = none) (hd : noDefer ops.toList = true) : ∀ (fuel : Nat) (listed : Array Bool) (a : Act) (w : World), wpAnyIn F n P md ops Q fuel listed a w → wpAnyIn (F.inRound lp) n P md ops Q fuel listed a w
  | 0, _, _, _, h => h
  | fuel + 1, listed, a, w, h => ⟨h.1, fun i hi => by
      refine wpOpIn_mono (fun a' w' h' => wpAnyIn_toRound lp hro hd fuel _ a' w' h') ?_
      have h2 := h.2 i hi
      unfold wpOpIn at *
      cases ho : ops[i]? with
      | none => simp only [ho] at h2 ⊢; exact h2
      | some o =>
        simp only [ho] at h2 ⊢
        split
        · rename_i hw
          rw [if_pos hw] at h2
          refine wpIn_toRound lp hro (fun c hc => ?_) h2
          have := List.all_eq_true.1 hd o (by rw [← Array.mem_def]; exact Array.mem_of_getElem? ho)
          rw [hc] at this
          cases this
        · rename_i hw
          rw [if_neg hw] at h2
          exact h2⟩
/-- A drawn region inside a round, as region_at. -/
theorem round_at {S : World → Prop} {id lp : Nat} {a : Act} {w : World} (k : Nat) (hk : ops.size = k) (hm : P.follows .mixedOrders = true) (hd : noDefer ops.toList = true) (hlo : ¬ LetsOut Q) (hS : S w.drew) (h : S w.drew → wpAnyH P .any ops Q S k (Array.replicate k false) a w.drew) : (Code.region id ops true).wpIn (Fence.wide.inRound lp) n P Q a w := by
  subst hk
  exact wpIn_region_any hm (wpAnyIn_toRound lp rfl hd _ _ _ _ (wpAny_toWide hlo _ _ _ _ (wpAny_of_held _ _ _ _ (h hS))))
/-- The same, as region_atE. -/
theorem round_atE {S : World → Prop} {id lp : Nat} {a : Act} {w : World} (k z : Nat) (hk : ops.size = k) (hm : P.follows .mixedOrders = true) (hd : noDefer ops.toList = true) (hlo : ¬ LetsOut Q) (h : wpAnyE P .any ops Q S z k (Array.replicate k false) a w.drew) : (Code.region id ops true).wpIn (Fence.wide.inRound lp) n P Q a w := by
  subst hk
  exact wpIn_region_any hm (wpAnyIn_toRound lp rfl hd _ _ _ _ (wpAny_toWide hlo _ _ _ _ (wpAny_of_E _ _ _ _ h)))
end
theorem Upd.putR {W : World} (l : Nat) (o : Obj) : Upd (fun k => k = l) W (W.putObj l o) :=
  ⟨rfl, rfl, rfl, by simp, fun k _ hk => World.putObj_heap_other hk⟩
/-- What a round's body comes to: the loop's own blocks are not touched. -/
def roundD (I X : Nat → World → Prop) (d k : Nat) (W : World) : Exit → Act → World → Prop
  | .normal, _, W' => (∃ G : Nat → Prop, Upd G W W' ∧ ¬ G d ∧ ¬ G (d + 1)) ∧ I (k + 1) W'
  | .ret, _, W' => (∃ G : Nat → Prop, Upd G W W' ∧ ¬ G d ∧ ¬ G (d + 1)) ∧ X k W'
  | _, _, _ => False
theorem roundD_out (I X : Nat → World → Prop) (d k : Nat) (W : World) : ¬ LetsOut (roundD I X d k W) := by
  rintro ⟨a, w, h⟩
  exact h
theorem then_out {f : Act → World → Prop} {Q : Exit → Act → World → Prop} (h : ¬ LetsOut Q) : ¬ LetsOut (Exit.then f Q) := by
  rintro ⟨a, w, hq⟩
  exact h ⟨a, w, hq⟩
/-- What an iterator without cells of its own says: N rounds, the k-th with enc k. -/
def SeqD (gf : Nat) (lb : Array Value) (enc : Nat → Array Value) (N : Nat) (T : World → Prop) : Prop :=
  ∀ (yl : Nat) (J X : Nat → World → Prop) (W : World), (∀ k W, J k W → T W) → (∀ k W, k < N → J k W → YieldAt Fence.wide 0 Tryz.prog yl (enc k) W fun e W' => (e = .returned (.bool true) ∧ J (k + 1) W') ∨ (e = .returned (.bool false) ∧ X k W')) → J 0 W →
    Calls Tryz.prog gf (#[.func (.yield yl) #[] #[]] ++ lb) W fun e W' => (∃ v, e = .returned v) ∧ (J N W' ∨ ∃ k, k < N ∧ X k W')
set_option maxHeartbeats 1000000 in
theorem wp_rangeD {g : Operand} {ps : Array Tmp} {assign body : Code} {Q : Exit → Act → World → Prop} {a : Act} {w : World} {gf : Nat} {lb : Array Value} {enc : Nat → Array Value} {N : Nat} {T : World → Prop}
    (hg : a.eval g = .func (.func gf) #[] lb) (eg : ∀ args w, (callFunc gf args).run Tryz.prog w = .ok (.enter gf args) w) (hseq : SeqD gf lb enc N T) (hps : ∀ k, ps.size = (enc k).size)
    (I X : Nat → World → Prop) (hT : ∀ k W, I k W → T W) (hI : ∀ k W W', I k W → Upd (fun j => j = w.heap.size ∨ j = w.heap.size + 1) W W' → I k W') (hX : ∀ k W W', X k W → Upd (fun j => j = w.heap.size ∨ j = w.heap.size + 1) W W' → X k W') (h0 : I 0 w)
    (hround : ∀ l k W, k < N → I k W → w.heap.size + 1 < W.heap.size → assign.wpIn (Fence.wide.inRound l) 0 Tryz.prog (Exit.then (fun a1 W1 => Upd (fun _ => False) W W1 ∧ ∀ W2, Upd (fun j => j = w.heap.size + 1) W1 W2 → body.wpIn (Fence.wide.inRound l) 0 Tryz.prog (roundD I X w.heap.size k W2) a1 W2) (fun _ _ _ => False)) { tmps := (ps.zip (enc k)).foldl (fun t (p, v) => t.setIfInBounds p v) a.tmps, defers := [] } W)
    (hdone : ∀ W, I N W → W.heap[w.heap.size]? = some (.deferred (some [])) → Q .normal { a with defers := { target := .collected w.heap.size, args := #[] } :: a.defers } W)
    (hstop : ∀ k W, k < N → X k W → W.heap[w.heap.size]? = some (.deferred (some [])) → Code.ret.wp Tryz.prog Q { a with defers := { target := .collected w.heap.size, args := #[] } :: a.defers } W) :
    (Code.rangeFunc g ps assign body).wp Tryz.prog Q a w := by
  refine (wpIn_wide (n := 0)).1 (wpIn_rangeFunc ?_)
  intro fn hfn
  rw [Fence.wide_round]
  obtain ⟨rec, hrec⟩ : ∃ rec : LoopState → Option Code → Loop, rec = fun st pe => { state := st, pending := pe, fn, tmps := a.tmps, params := ps, assign, body, defers := w.heap.size } := ⟨_, rfl⟩
  obtain ⟨W1, hW1⟩ : ∃ W1, (w.alloc (.deferred (some []))).alloc (.loop (rec .ready none)) = W1 := ⟨_, rfl⟩
  have hL1 : W1.heap[w.heap.size + 1]? = some (.loop (rec .ready none)) := by
    rw [← hW1]; have := World.alloc_heap_new (w.alloc (.deferred (some []))) (.loop (rec .ready none)); rwa [World.size_alloc] at this
  have hK1 : W1.heap[w.heap.size]? = some (.deferred (some [])) := by
    rw [← hW1]; exact (Below.heap_alloc _ _ _ (by simp)).trans (World.alloc_heap_new w _)
  have hb1 : Below w.heap.size w W1 := by rw [← hW1]; exact ((Below.refl _ w).alloc (Nat.le_refl _) _).alloc (by simp) _
  let J : Nat → World → Prop := fun k W => W.heap[w.heap.size + 1]? = some (.loop (rec .ready none)) ∧ W.heap[w.heap.size]? = some (.deferred (some [])) ∧ I k W
  let Z : Nat → World → Prop := fun k W => W.heap[w.heap.size + 1]? = some (.loop (rec .done (some .ret))) ∧ W.heap[w.heap.size]? = some (.deferred (some [])) ∧ X k W
  refine ⟨w.heap.size + 1, [{ target := .collected w.heap.size, args := #[] }], W1, { target := .fn (.func gf) lb, args := #[.func (.yield (w.heap.size + 1)) #[] #[]] }, W1, gf,
    #[.func (.yield (w.heap.size + 1)) #[] #[]] ++ lb, W1, ?_, ?_, fun _ _ => trivial, ?_, fun h => by simp [Fence.wide] at h, ?_⟩
  · rw [← hW1, hrec]; exact run_enterLoop_outer _ _ _ _ _
  · simp only [resolve, hg]
    simp [go_sem]
  · simp [invoke, go_sem, eg]
  · refine callsIn_wide.2 ((hseq (w.heap.size + 1) J Z W1 (fun k W h => hT k W h.2.2) ?_ ⟨hL1, hK1, hI _ _ _ h0 (Upd.of_below hb1)⟩).mono ?_)
    · rintro k W hk ⟨hr, hd, hi⟩
      have hlt : w.heap.size + 1 < W.heap.size := (Array.getElem?_eq_some_iff.1 hr).1
      have hy := run_yield (P := Tryz.prog) (args := enc k) hr (by rw [hrec]; exact (hps k).symm)
      rw [hrec] at hy
      refine ⟨fn, _, assign, body, hy, roundIn_of_wpIn hfn (wpIn_mono (hround (w.heap.size + 1) k W hk hi hlt) ?_)⟩
      clear hy
      intro e0 a0 Wa hp0
      cases e0 with
      | exit _ => exact hp0.elim
      | goto _ => exact hp0.elim
      | ret => exact hp0.elim
      | panic _ => exact hp0.elim
      | outgrown => exact hp0.elim
      | normal =>
      obtain ⟨hu0, hbody⟩ := hp0
      have hra : Wa.heap[w.heap.size + 1]? = some (.loop (rec .ready none)) := (hu0.block _ hlt id).trans hr
      have hda : Wa.heap[w.heap.size]? = some (.deferred (some [])) := (hu0.block _ (by omega) id).trans hd
      have hlta : w.heap.size + 1 < Wa.heap.size := (Array.getElem?_eq_some_iff.1 hra).1
      refine ⟨_, run_beginRound hra (by rw [hrec]), ?_⟩
      have hl2 : (Wa.putObj (w.heap.size + 1) (.loop { rec .ready none with state := .busy })).heap[w.heap.size + 1]? = some (.loop { rec .ready none with state := .busy }) := World.putObj_heap_same hlta
      have hk2 : (Wa.putObj (w.heap.size + 1) (.loop { rec .ready none with state := .busy })).heap[w.heap.size]? = some (.deferred (some [])) := (World.putObj_heap_other (by omega)).trans hda
      have hbody2 := hbody _ (Upd.putR (W := Wa) (w.heap.size + 1) (.loop { rec .ready none with state := .busy }))
      clear hbody
      generalize (Wa.putObj (w.heap.size + 1) (.loop { rec .ready none with state := .busy })) = Wb at hl2 hk2 hbody2
      have hszb : w.heap.size + 1 < Wb.heap.size := (Array.getElem?_eq_some_iff.1 hl2).1
      refine wpIn_mono hbody2 ?_
      rintro e a3 W3 hp
      cases e with
      | normal =>
        obtain ⟨⟨G, hu3, n2, n1⟩, hi3⟩ := hp
        have hl3 := (hu3.block _ hszb n1).trans hl2
        have hd3 := (hu3.block _ (by omega) n2).trans hk2
        have he := run_endRound (P := Tryz.prog) none hl3
        rw [hrec] at he
        refine ⟨_, _, he, .inl ⟨rfl, ?_, (World.putObj_heap_other (by omega)).trans hd3, hI _ _ _ hi3 ((Upd.putR _ _).mono fun k e => .inr e)⟩⟩
        rw [hrec]
        exact World.putObj_heap_same (Array.getElem?_eq_some_iff.1 hl3).1
      | ret =>
        obtain ⟨⟨G, hu3, n2, n1⟩, hi3⟩ := hp
        have hl3 := (hu3.block _ hszb n1).trans hl2
        have hd3 := (hu3.block _ (by omega) n2).trans hk2
        have he := run_endRound (P := Tryz.prog) (some .ret) hl3
        rw [hrec] at he
        refine ⟨_, _, he, .inr ⟨rfl, ?_, (World.putObj_heap_other (by omega)).trans hd3, hX _ _ _ hi3 ((Upd.putR _ _).mono fun k e => .inr e)⟩⟩
        rw [hrec]
        exact World.putObj_heap_same (Array.getElem?_eq_some_iff.1 hl3).1
      | exit id => exact hp.elim
      | goto t => exact hp.elim
      | panic ch => exact hp.elim
      | outgrown => exact hp.elim
    · rintro e W2 ⟨⟨v, rfl⟩, ⟨hr, hd, hi⟩ | ⟨k, hk, hr, hd, hx⟩⟩
      · refine ⟨none, _, by have := run_endLoop (P := Tryz.prog) hr (by rw [hrec]; simp); rw [hrec] at this; exact this, ?_⟩
        exact hdone _ (hI _ _ _ hi ((Upd.putR _ _).mono fun k e => .inr e)) ((World.putObj_heap_other (by omega)).trans hd)
      · refine ⟨some .ret, _, by have := run_endLoop (P := Tryz.prog) hr (by rw [hrec]; simp); rw [hrec] at this; exact this, ?_⟩
        exact wpIn_wide.2 (hstop k _ hk (hX _ _ _ hx ((Upd.putR _ _).mono fun k e => .inr e)) ((World.putObj_heap_other (by omega)).trans hd))
end Go.Proofs.YthecngkdmnadoaaGreat
