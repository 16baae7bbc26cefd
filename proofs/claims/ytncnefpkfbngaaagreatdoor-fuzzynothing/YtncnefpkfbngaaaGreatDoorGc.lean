/- Texts that were written apart, joined. -/
import Derived.Test.YtncnefpkfbngaaaGreatDoorGb
import Derived.Test.YtncnefpkfbngaaaGreatDoorG8
import Derived.Test.YtncnefpkfbngaaaGreatDoorG7
/- The reference's state. -/
namespace Go.Proofs.YtncnefpkfbngaaaGreatDoor
open Go.RowKit Nums Fm Pm
set_option maxRecDepth 100000

set_option maxHeartbeats 4000000 in
theorem refState_any : ∀ (f : Nat) (A : Nat → Prop) (E B : Nat) (w : World) (vR vS vl : Value) (D : List (List En)) (b : List St) (S : List En), StIn A f E B w vR vS vl D b S →
 Calls Tryz.prog 49 #[.agg #[vR, vS], vl] w fun e w' => ∃ A' vR' vS', e = .returned (.tuple #[.agg #[vR', vS'], .int .i64 (refF f D b S).2.2]) ∧ KSays A A' E B w w' vR vS vR' vS' (refF f D b S).1 (refF f D b S).2.1
 | 0, _, _, _, _, _, _, _, _, _, S, h => by
  obtain ⟨h0, _, h2⟩ := h.good
  cases S with
  | nil => exact absurd rfl h0
  | cons e r => exact absurd (h2 e (by simp)) (by omega)
 | f + 1, A, E, B, w, vR, vS, vl, D, b, S, h => by
  obtain ⟨ra, rc, hvR⟩ := h.rests.shape
  obtain ⟨sa, sc, hvS⟩ := h.states.shape
  obtain ⟨la, lc, hvl⟩ := h.row.form
  obtain ⟨rn, hrn⟩ : ∃ rn, D.length = rn := ⟨_, rfl⟩
  obtain ⟨sn, hsn⟩ : ∃ sn, b.length = sn := ⟨_, rfl⟩
  obtain ⟨ln, hln⟩ : ∃ ln, S.length = ln := ⟨_, rfl⟩
  rw [hrn] at hvR
  rw [hsn] at hvS
  rw [hln] at hvl
  subst hvR
  subst hvS
  subst hvl
  have HI : Hid (StIn A (f + 1) E B w (.slice ra rn rc) (.slice sa sn sc) (.slice la ln lc) D b S) := h
  have HLN : Hid (D.length = rn ∧ b.length = sn ∧ S.length = ln) := ⟨hrn, hsn, hln⟩
  have HIH : Hid (∀ (A : Nat → Prop) (E B : Nat) (w : World) (vR vS vl : Value) (D : List (List En)) (b : List St) (S : List En), StIn A f E B w vR vS vl D b S →
   Calls Tryz.prog 49 #[.agg #[vR, vS], vl] w fun e w' => ∃ A' vR' vS', e = .returned (.tuple #[.agg #[vR', vS'], .int .i64 (refF f D b S).2.2]) ∧ KSays A A' E B w w' vR vS vR' vS' (refF f D b S).1 (refF f D b S).2.1) := refState_any f
  have hown := h.own
  have HSM : Hid (SmallR (level S)) := hown
  have HEW : Hid (E ≤ w.heap.size) := Nat.le_trans h.eb h.bw
  obtain ⟨kb, hkb⟩ : ∃ kb, kb = w.heap.size := ⟨_, rfl⟩
  obtain ⟨rb, hrb⟩ : ∃ rb, rb = w.heap.size + 1 := ⟨_, rfl⟩
  obtain ⟨w0, hw0⟩ : ∃ w0, w0 = (w.alloc (.cells #[.slice ra rn rc, .slice sa sn sc] 98)).alloc (.cells #[.slice none 0 0, .slice none 0 0] 98) := ⟨_, rfl⟩
  have hb0 : Below w.heap.size w w0 := by rw [hw0]; exact ((Below.refl _ w).alloc (Nat.le_refl _) _).alloc (by simp) _
  have hk0 : KBlk kb (.slice ra rn rc) (.slice sa sn sc) w0 := by
   refine ⟨?_⟩
   rw [hw0, (MapKept.heap_alloc _ _).2 kb (by rw [hkb]; simp), hkb]
   exact alloc_newP _ _
  have hr0 : KBlk rb (.slice none 0 0) (.slice none 0 0) w0 := by
   refine ⟨?_⟩
   have : (w.alloc (.cells #[.slice ra rn rc, .slice sa sn sc] 98)).heap.size = rb := by rw [hrb]; simp
   rw [hw0, ← this]
   exact alloc_newP _ _
  have HLV : Hid (Calls Tryz.prog 77 #[.slice la ln lc] w0 fun e w' => ∃ v', e = .returned v' ∧ RMade E w0.heap.size w' v' (level S) ∧ Below w0.heap.size w0 w') :=
   refLevel_any E w0 _ S (h.row.below HEW.out hb0) (by have := List.length_pos_iff.2 h.good.1; omega) (level_small hown) (Nat.le_trans HEW.out hb0.size) h.wts
  have HB0 : Hid (Below w.heap.size w w0) := hb0
  have HK0 : Hid (KBlk kb (.slice ra rn rc) (.slice sa sn sc) w0) := hk0
  have HR0 : Hid (KBlk rb (.slice none 0 0) (.slice none 0 0) w0) := hr0
  have HKB : Hid (kb = w.heap.size ∧ rb = w.heap.size + 1) := ⟨hkb, hrb⟩
  clear h hrn hsn hln hown hb0 hk0 hr0
  go_enter Tryz.func49, Tryz.ntmps49
  go_upto_region 1 with fail
  rw [← hw0, ← hrb, ← hkb]
  clear hw0 hrb hkb
  go_upto_region 2 with (go_at_call 77; refine HLV.out.mono ?_; rintro e w1 ⟨vv, rfl, hlv, hb1⟩)
  have hb01 : Below w.heap.size w w1 := HB0.out.trans (hb1.mono HB0.out.size)
  obtain ⟨da, dc, hvv⟩ := hlv.row.form
  obtain ⟨dn, hdn⟩ : ∃ dn, (level S).length = dn := ⟨_, rfl⟩
  rw [hdn] at hvv
  subst hvv
  have HL1 : Hid (RMade E w0.heap.size w1 (.slice da dn dc) (level S)) := hlv
  have HDN : Hid ((level S).length = dn) := hdn
  have HB1 : Hid (Below w.heap.size w w1) := hb01
  have HB01 : Hid (Below w0.heap.size w0 w1) := hb1
  have hk1 := HK0.out.below hb1
  have HK1 : Hid (KBlk kb (.slice ra rn rc) (.slice sa sn sc) w1) := hk1
  have HR1 : Hid (KBlk rb (.slice none 0 0) (.slice none 0 0) w1) := HR0.out.below hb1
  obtain ⟨k0, k1, kz⟩ := hk1.facts
  obtain ⟨IX, hIX⟩ : ∃ IX, inIx D (level S) = IX := ⟨_, rfl⟩
  have HIX : Hid (inIx D (level S) = IX) := hIX
  have HIN : Hid (Calls Tryz.prog 78 #[.slice ra rn rc, .slice da dn dc] w1 fun e w' => e = .returned (.int .i64 IX) ∧ ∃ q, w' = w1.drewN q) := by
   have hp := (refF_pre (f + 1) D b S)
   have := refIn_any E B E w1 _ _ D (level S) (HI.out.rests.below HEW.out hb01) hlv.row HSM.out (fun R hR => HI.out.sml R (hp.subset hR)) (Nat.le_trans hp.length_le HI.out.len)
   rw [hIX] at this
   exact this
  clear hlv hb1 hb01 hdn hk1 hIX
  by_cases hm : level S ∈ D
  · have hx0 : IX = (D.idxOf (level S) : Int) := by rw [← HIX.out, inIx, if_pos hm]
    have HRF : Hid (refF (f + 1) D b S = (D, b, D.idxOf (level S))) := by show _ = _; rw [refF, if_pos hm]
    obtain ⟨ix, hix⟩ : ∃ ix, D.idxOf (level S) = ix := ⟨_, rfl⟩
    have HIXE : Hid (D.idxOf (level S) = ix) := hix
    rw [hix] at hx0
    subst hx0
    have hge : (0 : Int) ≤ (ix : Int) := by omega
    clear hm hix
    go_upto_region 4 with (go_at_call 78; refine HIN.out.mono ?_; rintro e w2 ⟨rfl, hq⟩; have hb2 : Below w1.heap.size w1 w2 := (by obtain ⟨q, rfl⟩ := hq; exact belowN (Below.refl _ w1) q); clear hq)
    have hr2 := HR1.out.below hb2
    have hk2 := HK1.out.below hb2
    obtain ⟨z0, z1, z2⟩ := hr2.facts
    obtain ⟨y0, y1, y2⟩ := hk2.facts
    have HR2 : Hid (KBlk rb (.slice none 0 0) (.slice none 0 0) w2) := hr2
    have HB2 : Hid (Below w.heap.size w w2) := HB1.out.trans (hb2.mono HB1.out.size)
    clear hb2 hr2 hk2 k0 k1 kz
    go_wp2
    try simp only [Exit.inBlock, Exit.then]
    refine bodyPost_ret (state_results rfl (two_set HR2.out.blk _ _).1 (two_set HR2.out.blk _ _).2) rfl ?_
    have hrw : w.heap.size ≤ rb := by have := HKB.out.2; omega
    have hbf := (HB2.out.setCell (p := ⟨rb, 0, none⟩) hrw (.slice ra rn rc)).setCell (p := ⟨rb, 1, none⟩) hrw (.slice sa sn sc)
    exact ⟨A, _, _, by rw [HRF.out, HIXE.out]; rfl, by rw [HRF.out]; exact ⟨HI.out.rests.below HEW.out hbf, HI.out.states.below hbf, fun _ h => .inl h, Upd.of_below hbf, Newer.refl _ _, Newer.refl _ _⟩⟩
  · have hx0 : IX = -1 := by rw [← HIX.out, inIx, if_neg hm]
    subst hx0
    go_upto_region 6 with (go_at_call 78; refine HIN.out.mono ?_; rintro e w2 ⟨rfl, hq⟩; have hb2 : Below w1.heap.size w1 w2 := (by obtain ⟨q, rfl⟩ := hq; exact belowN (Below.refl _ w1) q); clear hq)
    obtain ⟨sb, hsb⟩ : ∃ sb, sb = w2.heap.size := ⟨_, rfl⟩
    obtain ⟨w3, hw3⟩ : ∃ w3, w3 = w2.alloc (.cells #[.bool false, .int .i64 0, .slice none 0 0] 88) := ⟨_, rfl⟩
    have hb23 : Below w2.heap.size w2 w3 := by rw [hw3]; exact (Below.refl _ w2).alloc (Nat.le_refl _) _
    have hs3 : SBlk sb (.bool false) (.int .i64 0) (.slice none 0 0) w3 := ⟨by rw [hw3, hsb]; exact alloc_newP _ _⟩
    have h3s : w3.heap.size = sb + 1 := by rw [hw3, hsb]; simp
    rw [← hsb] at hb23
    rw [← hw3, ← hsb]
    have HB12 : Hid (Below w1.heap.size w1 w2) := hb2
    have HB23 : Hid (Below sb w2 w3) := hb23
    have HS3 : Hid (SBlk sb (.bool false) (.int .i64 0) (.slice none 0 0) w3) := hs3
    have HSB : Hid (sb = w2.heap.size ∧ w3.heap.size = sb + 1) := ⟨hsb, h3s⟩
    have HL2 : Hid (RMade E w0.heap.size w2 (.slice da dn dc) (level S)) := HL1.out.below (Nat.le_trans HEW.out HB1.out.size) hb2
    have HNM : Hid (level S ∉ D) := hm
    clear hsb hw3 hb2 hb23 hs3 h3s k0 k1 kz hm
    have hdl : dn ≤ 1048576 := by have := HSM.out.1; rw [HDN.out] at this; exact this
    go_upto_region 7 with fail
    go_loopg [8] dn (fun gm s8 wr => ∃ (k : Nat) (fn : Bool) (ot : Int), s8 = .int .i64 k ∧ k ≤ dn ∧ dn - k ≤ gm ∧ Hid (foF ((level S).take k) = (fn, ot)) ∧ Hid (Below sb w2 wr) ∧ Hid (SBlk sb (.bool fn) (.int .i64 ot) (.slice none 0 0) wr ∧ wr.heap.size = sb + 1))
    case atStart => exact ⟨0, false, 0, rfl, Nat.zero_le _, by omega, rfl, HB23, HS3.out, HSB.out.2⟩
    case round =>
     obtain ⟨k, fn, ot, rfl, hk, hgm, HFO, HBR, HSR⟩ := hrel
     by_cases hlt : k < dn
     · have hltz : (k : Int) < (dn : Int) := by omega
       obtain ⟨x, hxk⟩ : ∃ x, (level S)[k]? = some x := ⟨(level S)[k]'(by have := HDN.out; omega), List.getElem?_eq_getElem _⟩
       obtain ⟨g, off, rfl, hg, hx⟩ := HL2.out.row.at (by omega)
       obtain ⟨u, ⟨c0, c1, hr⟩, hck⟩ := hx k x hxk
       obtain ⟨xa, xc, hu, _⟩ := id hr
       obtain ⟨xn, hxn⟩ : ∃ xn, x.1.length = xn := ⟨_, rfl⟩
       rw [hxn] at hu
       subst hu
       have hgs : g ≠ sb := by have := HSB.out.1; omega
       have hgl : g < sb := by have := HSB.out.1; omega
       have c0r : wr.cell? ⟨g, off + k * 2, none⟩ = some (.slice xa xn xc) := (HBR.out.cell (p := ⟨g, off + k * 2, none⟩) hgl).trans c0
       have HFS := fo_snoc hxk
       obtain ⟨q, hq⟩ : ∃ q, x.2 = q := ⟨_, rfl⟩
       rw [hq] at c1
       by_cases hx0 : xn = 0
       · subst hx0
         have hx1 : x.1 = [] := List.eq_nil_of_length_eq_zero hxn
         rw [if_pos hx1, hq] at HFS
         have HF2 : Hid (foF ((level S).take (k + 1)) = (true, q)) := HFS
         obtain ⟨W1, hW1⟩ : ∃ W1, W1 = wr.setCell ⟨sb, 0, none⟩ (.bool true) := ⟨_, rfl⟩
         have hs1 : SBlk sb (.bool true) (.int .i64 ot) (.slice none 0 0) W1 := by rw [hW1]; exact HSR.out.1.set0 _
         have hBR1 : Below sb w2 W1 := by rw [hW1]; exact HBR.out.setCell (p := ⟨sb, 0, none⟩) (Nat.le_refl _) _
         have hz1 : W1.heap.size = sb + 1 := by rw [hW1]; exact (set_rest _ _ _ _).2.2.2.trans HSR.out.2
         have c1r : W1.cell? ⟨g, off + k * 2 + 1, none⟩ = some (.int .i64 q) := (hBR1.cell (p := ⟨g, off + k * 2 + 1, none⟩) hgl).trans c1
         obtain ⟨s0, s1, s2, s3⟩ := HSR.out.1.facts
         obtain ⟨t0, t1, t2, t3⟩ := hs1.facts
         have HS2 : Hid (SBlk sb (.bool true) (.int .i64 q) (.slice none 0 0) (W1.setCell ⟨sb, 1, none⟩ (.int .i64 q)) ∧ (W1.setCell ⟨sb, 1, none⟩ (.int .i64 q)).heap.size = sb + 1) := ⟨hs1.set1 _, (set_rest _ _ _ _).2.2.2.trans hz1⟩
         have HB2 : Hid (Below sb w2 (W1.setCell ⟨sb, 1, none⟩ (.int .i64 q))) := hBR1.setCell (p := ⟨sb, 1, none⟩) (Nat.le_refl _) _
         clear hx hr hck hxn hx1 HFS hxk hq c0 c1 hs1 hBR1 hz1 hgs hgl hg
         go_upto_region 11 with fail
         rw [← hW1]
         clear hW1 s0 s1 s2 s3 c0r
         go_wp2
         go_roundg (dn - (k + 1))
         case measure => omega
         case rel => exact ⟨k + 1, _, _, by go_num, by omega, Nat.le_refl _, HF2, HB2, HS2⟩
       · have hxb : ((xn : Int) == 0) = false := beq_eq_false_iff_ne.2 (by omega)
         rw [if_neg (fun e => hx0 (by rw [← hxn, e]; rfl))] at HFS
         have HF2 : Hid (foF ((level S).take (k + 1)) = (fn, ot)) := HFS.trans HFO.out
         clear hx hr hck hxn HFS hxk hq c0 c1 hgs hgl hg hx0
         go_wp2
         go_roundg (dn - (k + 1))
         case measure => omega
         case rel => exact ⟨k + 1, _, _, by go_num, by omega, Nat.le_refl _, HF2, HBR, HSR⟩
     · have hltz : ¬ (k : Int) < (dn : Int) := by omega
       have hfo : foF (level S) = (fn, ot) := by have := HFO.out; rwa [List.take_of_length_le (by have := HDN.out; omega)] at this
       rw [fo_level HI.out.good.2.1 HI.out.good.1] at hfo
       have HFN : Hid (finOf S = fn ∧ outOf (level S) = ot) := ⟨congrArg Prod.fst hfo, congrArg Prod.snd hfo⟩
       clear hfo
       obtain ⟨gs, hgs⟩ : ∃ gs, grp (restOf (level S)) = gs := ⟨_, rfl⟩
       have HGS : Hid (grp (restOf (level S)) = gs) := hgs
       have hfg : fsts (level S) = gs.map (·.1) := by rw [fsts_grp (rise_level HI.out.good.2.1), hgs]
       have HFG : Hid (fsts (level S) = gs.map (·.1)) := hfg
       have hB2w : Below w.heap.size w w2 := HB1.out.trans (HB12.out.mono HB1.out.size)
       have hws : w.heap.size ≤ sb := by have := HSB.out.1; have := hB2w.size; omega
       have HBW : Hid (Below w.heap.size w wr) := hB2w.trans (HBR.out.mono hws)
       have hBRw : Below w2.heap.size w2 wr := by have := HBR.out; rw [HSB.out.1] at this; exact this
       have HL4 : Hid (RMade E w0.heap.size wr (.slice da dn dc) (level S)) := HL2.out.below (Nat.le_trans HEW.out hB2w.size) hBRw
       have HK4 : Hid (KBlk kb (.slice ra rn rc) (.slice sa sn sc) wr ∧ KBlk rb (.slice none 0 0) (.slice none 0 0) wr) := ⟨(HK1.out.below HB12.out).below hBRw, (HR1.out.below HB12.out).below hBRw⟩
       have HFI : Hid (Calls Tryz.prog 79 #[.slice da dn dc] wr fun e w' => ∃ v', e = .returned v' ∧ IOwn wr.heap.size w' v' (fsts (level S)) ∧ Below wr.heap.size wr w') := refFirsts_any E wr _ _ HL4.out.row HSM.out.1
       clear hgs hfg hB2w hws hBRw HBR HL2 HL1 HFO
       go_upto_region 13 with (go_at_call 79; refine HFI.out.mono ?_; rintro e w5 ⟨vf, rfl, hfo, hb5⟩)
       obtain ⟨fa, fc, hvf, _⟩ := GOwn.shape hfo
       obtain ⟨nf, hnf⟩ : ∃ nf, gs.length = nf := ⟨_, rfl⟩
       rw [List.length_map, HFG.out, List.length_map, hnf] at hvf
       subst hvf
       have HNF : Hid (gs.length = nf) := hnf
       have hBw : B ≤ w.heap.size := HI.out.bw
       have hw0 : w.heap.size ≤ w0.heap.size := HB0.out.size
       have HKL : Hid (KLoop A f E B w (.slice ra rn rc) (.slice sa sn sc) (.slice da dn dc) (.slice fa nf fc) D b (level S) gs kb rb sb fn ot w5 0 A (.slice ra rn rc) (.slice sa sn sc) (.slice none 0 0)) := by
        have hb : Below w.heap.size w w5 := HBW.out.trans (hb5.mono HBW.out.size)
        have hEr : E ≤ wr.heap.size := Nat.le_trans HEW.out HBW.out.size
        refine ⟨⟨HI.out.rests.below HEW.out hb, HI.out.states.below hb, fun _ h => .inl h, Upd.of_below hb, Newer.refl _ _, Newer.refl _ _⟩, HI.out.inv, (HL4.out.below hEr hb5).mono (by omega), GOwn.mono hfo (Nat.le_trans hBw HBW.out.size), HSR.out.1.below hb5, GOwn.nil _ _ _ _, HK4.out.1.below hb5, HK4.out.2.below hb5, fun j hj => (by cases hj), fun j hj => (by cases hj), fun j hj hf => ?_⟩
        have h1 := HKB.out
        have h2 : sb = w2.heap.size := HSB.out.1
        have h3 := (HB1.out.trans (HB12.out.mono HB1.out.size)).size
        have hj2 : w.heap.size ≤ j := by rcases hj with rfl | rfl | rfl <;> omega
        rcases hf with hf | hf
        · obtain ⟨xss, ho, _⟩ := HI.out.rests.ex
          have := ho.lt hf
          omega
        · obtain ⟨xss, ho, _⟩ := HI.out.states.ex
          have := ho.lt hf
          omega
       have hnfl : nf ≤ 1048576 := by
        have h1 := fsts_len (level S)
        rw [HFG.out, List.length_map, hnf, HDN.out] at h1
        omega
       have HSN : Hid (sb < w5.heap.size ∧ kb = w.heap.size ∧ rb = w.heap.size + 1 ∧ w.heap.size + 1 < sb) := by
        have h1 := HSR.out.1.lt
        have h2 := hb5.size
        have h3 := HKB.out
        have h4 := HK4.out.2.lt
        have h5 := HR0.out.lt
        have h6 := HB01.out.size
        have h7 := HB12.out.size
        have h8 := HSB.out.1
        exact ⟨by omega, h3.1, h3.2, by omega⟩
       clear hfo hb5 hnf hBw hw0 hltz hlt hgm hk
       go_upto_region 14 with fail
       go_loopg [10, 11, 12, 13] nf (fun gm s10 _ _ _ wr => ∃ (k : Nat) (A' : Nat → Prop) (vR' vS' va : Value), s10 = .int .i64 k ∧ k ≤ nf ∧ nf - k ≤ gm ∧ Hid (KLoop A f E B w (.slice ra rn rc) (.slice sa sn sc) (.slice da dn dc) (.slice fa nf fc) D b (level S) gs kb rb sb fn ot wr k A' vR' vS' va))
       case atStart => exact ⟨0, _, _, _, _, rfl, Nat.zero_le _, by omega, HKL⟩
       case round =>
        obtain ⟨k, A', vR', vS', va, rfl, hk, hgm, HL⟩ := hrel
        by_cases hlt : k < nf
        · have hltz : (k : Int) < (nf : Int) := by omega
          obtain ⟨p, hp⟩ : ∃ p, gs[k]? = some p := ⟨gs[k]'(by have := HNF.out; omega), List.getElem?_eq_getElem _⟩
          obtain ⟨c, G⟩ := p
          have hpm : (c, G) ∈ grp (restOf (level S)) := by rw [HGS.out]; exact List.mem_of_getElem? hp
          have hGl := good_level HI.out.good
          have hgd := good_groups hGl (c, G) hpm
          have haf : after c (level S) = G := grp_after hGl.2.1 hpm
          have htk : gs.take (k + 1) = gs.take k ++ [(c, G)] := by rw [List.take_add_one, hp]; rfl
          obtain ⟨fg, fc', hfv, hfg, _, _, hfc⟩ := GOwn.cell HL.out.fst (by rw [List.length_map, HFG.out, List.length_map, HNF.out]; omega)
          rw [List.length_map, HFG.out, List.length_map, HNF.out] at hfv
          simp only [Value.slice.injEq, true_and] at hfv
          obtain ⟨rfl, rfl⟩ := hfv
          have hfk : wr.cell? ⟨fg, k, none⟩ = some (.int .i32 c) := by
           have := hfc k 0 (cellI c) (.int .i32 c) (by rw [HFG.out, List.map_map, List.getElem?_map, hp]; rfl) rfl
           simpa using this
          obtain ⟨ra', rc', hvR⟩ := HL.out.ks.rests.shape
          obtain ⟨sa', sc', hvS⟩ := HL.out.ks.states.shape
          obtain ⟨rn', hrn'⟩ : ∃ n, (refA (refF f) D b (gs.take k)).1.length = n := ⟨_, rfl⟩
          obtain ⟨sn', hsn'⟩ : ∃ n, (refA (refF f) D b (gs.take k)).2.1.length = n := ⟨_, rfl⟩
          rw [hrn'] at hvR
          rw [hsn'] at hvS
          subst hvR
          subst hvS
          have hwr : w.heap.size ≤ wr.heap.size := HL.out.ks.upd.size
          have hEr : E ≤ wr.heap.size := Nat.le_trans HEW.out hwr
          have HUN : Hid (Calls Tryz.prog 80 #[.slice da dn dc, .int .i32 c] wr fun e w' => ∃ v', e = .returned v' ∧ RMade E wr.heap.size w' v' G ∧ Below wr.heap.size wr w') := by
           have := refUnder_any E wr _ (level S) c HL.out.row.row HSM.out.1 hEr
           rw [haf] at this
           exact this
          have HGD : Hid (Fm.Good f G) := hgd
          have HTK : Hid (gs.take (k + 1) = gs.take k ++ [(c, G)]) := htk
          have HWT : Hid (∀ e ∈ G, 0 ≤ e.2 ∧ e.2 ≤ 1048576) := fun e he => by
           obtain ⟨_, hr2⟩ := rise_rest hGl.2.1
           have h1 := grp_mem hr2 hpm he
           have h2 := level_wts HI.out.good.1 HI.out.wts (pre c e) (in_restOf h1)
           exact h2
          have HGL : Hid (G.length ≤ 1048576) := by show _ ≤ _; rw [← haf]; exact Nat.le_trans (after_len c _) HSM.out.1
          have HFK : Hid ((fsts (level S))[k]? = some c) := by show _ = _; rw [HFG.out, List.getElem?_map, hp]; rfl
          obtain ⟨vd, na, vc, hva⟩ : ∃ vd na vc, va = .slice vd na vc := by
           obtain ⟨vd, vc, hva, _⟩ := GOwn.shape HL.out.arcs
           exact ⟨vd, _, vc, hva⟩
          subst hva
          clear hp hpm hGl hgd haf htk hfg hfc hrn' hsn'
          go_upto_region 17 with (go_at_call 80; refine HUN.out.mono ?_; rintro e w6 ⟨vt, rfl, ht, hb6⟩)
          have hk6 := HL.out.kblk.below hb6
          obtain ⟨k0, k1, kz⟩ := hk6.facts
          obtain ⟨ta, tc, hvt⟩ := ht.row.form
          obtain ⟨tn, htn⟩ : ∃ tn, G.length = tn := ⟨_, rfl⟩
          rw [htn] at hvt
          subst hvt
          have HT6 : Hid (RMade E wr.heap.size w6 (.slice ta tn tc) G) := ht
          have HTN : Hid (G.length = tn) := htn
          have HB6 : Hid (Below wr.heap.size wr w6) := hb6
          have hpre : (refF f (refA (refF f) D b (gs.take k)).1 (refA (refF f) D b (gs.take k)).2.1 G).1 <+: (refF (f + 1) D b S).1 := by
           have e1 : (refF f (refA (refF f) D b (gs.take k)).1 (refA (refF f) D b (gs.take k)).2.1 G).1 = (refA (refF f) D b (gs.take (k + 1))).1 := by rw [HTK.out, refA_one]
           rw [e1, refF, if_neg HNM.out, HGS.out]
           refine List.IsPrefix.trans ?_ (List.prefix_append _ _)
           have e2 := refA_append (refF f) (gs.take (k + 1)) (gs.drop (k + 1)) D b
           rw [List.take_append_drop] at e2
           rw [e2]
           exact refA_pre (refF_pre f) _ _ _
          have HST : Hid (StIn A' f E B w6 (.slice ra' rn' rc') (.slice sa' sn' sc') (.slice ta tn tc) (refA (refF f) D b (gs.take k)).1 (refA (refF f) D b (gs.take k)).2.1 G) :=
           ⟨HL.out.inv, HGD.out, HL.out.ks.rests.below hEr hb6, HL.out.ks.states.below hb6, ht.row, HI.out.eb, Nat.le_trans HI.out.bw (Nat.le_trans hwr hb6.size), Nat.le_trans hpre.length_le HI.out.len, fun R hR => HI.out.sml R (hpre.subset hR), HWT.out⟩
          obtain ⟨NT, hNT⟩ : ∃ NT : Nat, (refF f (refA (refF f) D b (gs.take k)).1 (refA (refF f) D b (gs.take k)).2.1 G).2.2 = NT := ⟨_, rfl⟩
          have HNT : Hid ((refF f (refA (refF f) D b (gs.take k)).1 (refA (refF f) D b (gs.take k)).2.1 G).2.2 = NT) := hNT
          have HCL : Hid (Calls Tryz.prog 49 #[.agg #[.slice ra' rn' rc', .slice sa' sn' sc'], .slice ta tn tc] w6 fun e w' => ∃ A2 vR' vS', e = .returned (.tuple #[.agg #[vR', vS'], .int .i64 NT]) ∧ KSays A' A2 E B w6 w' (.slice ra' rn' rc') (.slice sa' sn' sc') vR' vS' (refF f (refA (refF f) D b (gs.take k)).1 (refA (refF f) D b (gs.take k)).2.1 G).1 (refF f (refA (refF f) D b (gs.take k)).1 (refA (refF f) D b (gs.take k)).2.1 G).2.1) := by
           have := HIH.out _ _ _ _ _ _ _ _ _ _ HST.out
           rw [hNT] at this
           exact this
          clear ht htn hb6 hk6 hpre hNT
          go_upto_region 18 with (go_at_call 49; refine HCL.out.mono ?_; rintro e w7 ⟨A2, vR2, vS2, rfl, hK7⟩; obtain ⟨ra2, rc2, hvR2⟩ := hK7.rests.shape; obtain ⟨sa2, sc2, hvS2⟩ := hK7.states.shape; obtain ⟨rn2, hrn2⟩ : ∃ n, (refF f (refA (refF f) D b (gs.take k)).1 (refA (refF f) D b (gs.take k)).2.1 G).1.length = n := ⟨_, rfl⟩; obtain ⟨sn2, hsn2⟩ : ∃ n, (refF f (refA (refF f) D b (gs.take k)).1 (refA (refF f) D b (gs.take k)).2.1 G).2.1.length = n := ⟨_, rfl⟩; rw [hrn2] at hvR2; rw [hsn2] at hvS2; subst hvR2; subst hvS2; clear hrn2 hsn2; have HK7 : Hid (KSays A' A2 E B w6 w7 (.slice ra' rn' rc') (.slice sa' sn' sc') (.slice ra2 rn2 rc2) (.slice sa2 sn2 sc2) (refF f (refA (refF f) D b (gs.take k)).1 (refA (refF f) D b (gs.take k)).2.1 G).1 (refF f (refA (refF f) D b (gs.take k)).1 (refA (refF f) D b (gs.take k)).2.1 G).2.1) := hK7; clear hK7)
          obtain ⟨mb, hmb⟩ : ∃ mb, mb = w7.heap.size := ⟨_, rfl⟩
          obtain ⟨w8, hw8⟩ : ∃ w8, w8 = w7.alloc (.cells #[.slice ra2 rn2 rc2, .slice sa2 sn2 sc2] 98) := ⟨_, rfl⟩
          rw [← hmb, ← hw8]
          have hb78 : Below w7.heap.size w7 w8 := by rw [hw8]; exact (Below.refl _ w7).alloc (Nat.le_refl _) _
          have hm8 : KBlk mb (.slice ra2 rn2 rc2) (.slice sa2 sn2 sc2) w8 := ⟨by rw [hw8, hmb]; exact alloc_newP _ _⟩
          have hU67 := HK7.out.upd
          have hk6 := HL.out.kblk.below HB6.out
          have hk7 : KBlk kb (.slice ra' rn' rc') (.slice sa' sn' sc') w7 := ⟨(hU67.block kb hk6.lt (HL.out.apart kb (.inl rfl))).trans hk6.blk⟩
          have hk8 := hk7.below hb78
          clear k0 k1 kz
          obtain ⟨k0, k1, kz⟩ := hk8.facts
          obtain ⟨m0, m1, mz⟩ := hm8.facts
          have hU69 : Upd (fun j => fpK (.slice ra' rn' rc') (.slice sa' sn' sc') j ∨ j = kb) w6 ((w8.setCell ⟨kb, 0, none⟩ (.slice ra2 rn2 rc2)).setCell ⟨kb, 1, none⟩ (.slice sa2 sn2 sc2)) :=
           ((hU67.mono fun j hj => .inl hj).trans (Upd.of_below hb78 : Upd (fun _ => False) w7 w8) (fun _ _ h => h.elim)).trans (Upd.set2 kb _ _ w8) (fun _ _ h => .inr h)
          have hk9 := hk8.set2 (.slice ra2 rn2 rc2) (.slice sa2 sn2 sc2)
          have HU79 : Hid (Upd (fun j => j = kb) w7 ((w8.setCell ⟨kb, 0, none⟩ (.slice ra2 rn2 rc2)).setCell ⟨kb, 1, none⟩ (.slice sa2 sn2 sc2))) := (Upd.of_below hb78 : Upd (fun j => j = kb) w7 w8).trans (Upd.set2 kb _ _ w8) (fun _ _ h => h)
          have HU69 : Hid _ := hU69
          have HK9 : Hid _ := hk9
          clear hmb hw8 hb78 hm8 hU67 hk6 hk7 hk8 hU69 hk9
          go_upto_region 19 with fail
          clear k0 k1 kz m0 m1 mz
          generalize (w8.setCell ⟨kb, 0, none⟩ (.slice ra2 rn2 rc2)).setCell ⟨kb, 1, none⟩ (.slice sa2 sn2 sc2) = w9 at *
          obtain ⟨yss, hRo, _⟩ := HL.out.ks.rests.ex
          obtain ⟨zss, hSo, _⟩ := HL.out.ks.states.ex
          obtain ⟨yss6, hRo6, _⟩ := HST.out.rests.ex
          obtain ⟨zss6, hSo6, _⟩ := HST.out.states.ex
          have hEB := HI.out.eb
          have hkE : E ≤ kb := by have h1 := HSN.out.2.1; have h2 := HEW.out; omega
          have hElow : ∀ j, (fpK (.slice ra' rn' rc') (.slice sa' sn' sc') j ∨ j = kb) → E ≤ j := fun j hj => by
           rcases hj with (hj | hj) | hj
           · exact Nat.le_trans hEB (hRo.block hj).1
           · exact Nat.le_trans hEB (hSo.block hj).1
           · omega
          have hUR9 : Upd (fun j => fpK (.slice ra' rn' rc') (.slice sa' sn' sc') j ∨ j = kb) wr w9 := (Upd.of_below HB6.out : Upd (fun j => fpK (.slice ra' rn' rc') (.slice sa' sn' sc') j ∨ j = kb) wr w6).trans HU69.out (fun _ _ h => h)
          have hE9 : Below E wr w9 := hUR9.below hEr hElow
          have hE6 : E ≤ w6.heap.size := Nat.le_trans hEr HB6.out.size
          have hE69 : Below E w6 w9 := HU69.out.below hE6 hElow
          have hk6 := HL.out.kblk.below HB6.out
          have hsk : sb ≠ kb ∧ rb ≠ kb ∧ sb ≠ rb := by have := HSN.out; exact ⟨by omega, by omega, by omega⟩
          have hs9 : SBlk sb (.bool fn) (.int .i64 ot) (.slice vd na vc) w9 := ⟨(hUR9.block sb HL.out.sblk.lt (fun h => h.elim (HL.out.apart sb (.inr (.inr rfl))) hsk.1)).trans HL.out.sblk.blk⟩
          have hr9 : KBlk rb (.slice none 0 0) (.slice none 0 0) w9 := ⟨(hUR9.block rb HL.out.rblk.lt (fun h => h.elim (HL.out.apart rb (.inr (.inl rfl))) hsk.2.1)).trans HL.out.rblk.blk⟩
          have hf9 : IOwn B w9 (.slice (some ⟨fg, 0, none⟩) nf fc) (fsts (level S)) := GOwn.over3 HL.out.fst hRo hSo HL.out.kblk.blk (by decide) (by decide) (by decide) hUR9
          have hrow9 : RMade E B w9 (.slice da dn dc) (level S) := HL.out.row.over3 hRo hSo HL.out.kblk.blk hUR9 hE9
          have ht9 : RMade E wr.heap.size w9 (.slice ta tn tc) G := HT6.out.over3 hRo6 hSo6 hk6.blk HU69.out hE69
          have ha9 : AOwn B w9 (.slice vd na vc) (refA (refF f) D b (gs.take k)).2.2 := GOwn.over3 HL.out.arcs hRo hSo HL.out.kblk.blk (by decide) (by decide) (by decide) hUR9
          have hE9s : E ≤ w9.heap.size := Nat.le_trans hEr hUR9.size
          have hb99 : Below w9.heap.size w9 w9.drew := (Below.refl _ w9).drew
          obtain ⟨lg, hlg⟩ : ∃ lg, least G = lg := ⟨_, rfl⟩
          have HLS : Calls Tryz.prog 50 #[.slice ta tn tc] w9.drew fun e w' => e = .returned (.int .i64 lg) ∧ w' = w9.drew := by
           have := refLeast_any E w9.drew _ G (ht9.row.below hE9s hb99) (List.length_pos_iff.2 HGD.out.1) HGL.out
           rw [hlg] at this
           exact this
          have hS0 : S19 sb fg k (.slice vd na vc) c w9.drew := ⟨(hb99.cell (p := ⟨sb, 2, none⟩) hs9.lt).trans hs9.facts.2.2.1, IOwn.get (GOwn.below hf9 hb99) HFK.out⟩
          obtain ⟨w10, hw10⟩ : ∃ w10, w10 = w9.drew.alloc (.cells #[.int .i32 c, .int .i64 lg, .int .i64 NT] 110) := ⟨_, rfl⟩
          have hb10 : Below w9.heap.size w9 w10 := by rw [hw10]; exact ((Below.refl _ w9).drew).alloc (by simp) _
          have hn10 : w10.heap[w9.heap.size]? = some (.cells #[.int .i32 c, .int .i64 lg, .int .i64 NT] 110) := by rw [hw10]; exact alloc_newP _ _
          have hBw9 : B ≤ w9.heap.size := Nat.le_trans HI.out.bw (Nat.le_trans hwr hUR9.size)
          have ha10 : AOwn B w10 (.slice vd na vc) (refA (refF f) D b (gs.take k)).2.2 := GOwn.below ha9 hb10
          obtain ⟨v11, w11, hap, ho11, hgr11, hown11⟩ := gappend_run rtyA ha10 (Nat.le_trans hBw9 hb10.size) (x := cellsA ⟨c, lg, NT⟩) (cellsA_ok _) (nb := w9.heap.size) (fun j u hj => by simp only [World.cell?, hn10]; simpa [cellsA] using hj) (by rw [List.length_map, refA_len, List.length_take]; omega) 86 1
          have hacc : (refA (refF f) D b (gs.take (k + 1))).2.2 = (refA (refF f) D b (gs.take k)).2.2 ++ [⟨c, lg, NT⟩] := by rw [HTK.out, refA_one, HNT.out, hlg]
          have ho11' : AOwn B w11 v11 (refA (refF f) D b (gs.take (k + 1))).2.2 := by rw [hacc]; unfold AOwn; rw [List.map_append]; exact ho11
          obtain ⟨vd2, vc2, hv2, _⟩ := GOwn.shape ho11'
          obtain ⟨n2, hn2⟩ : ∃ n2, (List.map cellsA (refA (refF f) D b (gs.take (k + 1))).2.2).length = n2 := ⟨_, rfl⟩
          rw [hn2] at hv2
          subst hv2
          have hty : ∀ (j : Nat) (cur : Array Value) (T : TypeId), w9.heap[j]? = some (Obj.cells cur T (0, 0)) → T ≠ 110 → w11.heap[j]? = w9.heap[j]? := fun j cur T hj hT => by
           have hjl := (Array.getElem?_eq_some_iff.1 hj).1
           have hj10 : w10.heap[j]? = w9.heap[j]? := hb10.block j hjl
           refine (hgr11.block j (Nat.lt_of_lt_of_le hjl hb10.size) (fun e => ?_)).trans hj10
           obtain ⟨_, cur2, hc2⟩ := GOwn.block ha10 e.symm
           rw [hj10, hj] at hc2
           simp only [Option.some.injEq, Obj.cells.injEq] at hc2
           exact hT hc2.2.1
          have hs11 : SBlk sb (.bool fn) (.int .i64 ot) (.slice vd na vc) w11 := ⟨(hty sb _ _ hs9.blk (by decide)).trans hs9.blk⟩
          have hs10 : SBlk sb (.bool fn) (.int .i64 ot) (.slice vd na vc) w10 := hs9.below hb10
          have hB11 : Below B w10 w11 := gBelow ha10 hgr11 (Nat.le_trans hBw9 hb10.size)
          have hf10 : IOwn B w10 (.slice (some ⟨fg, 0, none⟩) nf fc) (fsts (level S)) := GOwn.below hf9 hb10
          have hf11 : IOwn B w11 (.slice (some ⟨fg, 0, none⟩) nf fc) (fsts (level S)) := GOwn.same hf9 fun g hg => (by obtain ⟨_, cur, hc⟩ := GOwn.block hf9 hg; exact hty g cur _ hc (by decide))
          have hS10 : S19 sb fg k (.slice vd na vc) c w10 := ⟨hs10.facts.2.2.1, IOwn.get hf10 HFK.out⟩
          have hS11 : S19 sb fg k (.slice vd na vc) c w11 := ⟨hs11.facts.2.2.1, IOwn.get hf11 HFK.out⟩
          have HAP : Hid ((Builtin.append_ #[86, 86] 86 #[.slice vd na vc, .slice (some ⟨w9.heap.size, 0, none⟩) 1 1]).run Tryz.prog w10 = .ok (.slice vd2 n2 vc2) w11) := hap
          obtain ⟨q0, q1, q2, q3⟩ := hs11.facts
          obtain ⟨w12, hw12⟩ : ∃ w12, w12 = w11.setCell ⟨sb, 2, none⟩ (.slice vd2 n2 vc2) := ⟨_, rfl⟩
          have HNEXT : Hid (KLoop A f E B w (.slice ra rn rc) (.slice sa sn sc) (.slice da dn dc) (.slice (some ⟨fg, 0, none⟩) nf fc) D b (level S) gs kb rb sb fn ot w12 (k + 1) A2 (.slice ra2 rn2 rc2) (.slice sa2 sn2 sc2) (.slice vd2 n2 vc2)) := by
           have e1 : (refA (refF f) D b (gs.take (k + 1))).1 = (refF f (refA (refF f) D b (gs.take k)).1 (refA (refF f) D b (gs.take k)).2.1 G).1 := by rw [HTK.out, refA_one]
           have e2 : (refA (refF f) D b (gs.take (k + 1))).2.1 = (refF f (refA (refF f) D b (gs.take k)).1 (refA (refF f) D b (gs.take k)).2.1 G).2.1 := by rw [HTK.out, refA_one]
           have hK := HK7.out
           have h12 : ∀ j, j ≠ sb → w12.heap[j]? = w11.heap[j]? := fun j hj => by rw [hw12]; exact set_other _ _ _ _ hj
           have h12r := set_rest w11 sb 2 (.slice vd2 n2 vc2)
           rw [← hw12] at h12r
           have hk7 : w7.heap[kb]? = some (.cells #[.slice ra' rn' rc', .slice sa' sn' sc'] 98) := (hK.upd.block kb hk6.lt (HL.out.apart kb (.inl rfl))).trans hk6.blk
           have hsb6 : SBlk sb (.bool fn) (.int .i64 ot) (.slice vd na vc) w6 := HL.out.sblk.below HB6.out
           have hs7 : w7.heap[sb]? = some (.cells #[.bool fn, .int .i64 ot, .slice vd na vc] 88) := (hK.upd.block sb hsb6.lt (HL.out.apart sb (.inr (.inr rfl)))).trans hsb6.blk
           have hs67 := hK.upd.size
           have hs79 := HU79.out.size
           have h10s := hb10.size
           have h11s := hgr11.size
           have hw6s := HB6.out.size
           have hty7 : ∀ (j : Nat) (cur : Array Value) (T : TypeId), w7.heap[j]? = some (Obj.cells cur T (0, 0)) → T ≠ 110 → T ≠ 98 → j ≠ sb → w12.heap[j]? = w7.heap[j]? := fun j cur T hj h1 h2 h3 => by
            have hjl := (Array.getElem?_eq_some_iff.1 hj).1
            have h9 : w9.heap[j]? = w7.heap[j]? := HU79.out.block j hjl (fun e => by
             rw [e, hk7] at hj
             simp only [Option.some.injEq, Obj.cells.injEq] at hj
             exact h2 hj.2.1.symm)
            exact (h12 j h3).trans ((hty j cur T (h9.trans hj) h1).trans h9)
           have hnb : ∀ j, j = kb ∨ j = rb ∨ j = sb → ¬ fpK (.slice ra2 rn2 rc2) (.slice sa2 sn2 sc2) j := fun j hj hf => by
            have hj6 : j < w6.heap.size := by
             rcases hj with rfl | rfl | rfl
             · exact hk6.lt
             · exact Nat.lt_of_lt_of_le HL.out.rblk.lt hw6s
             · exact hsb6.lt
            rcases hf with hf | hf
            · exact HL.out.apart j hj (.inl (hK.ownR.low hj6 hf))
            · exact HL.out.apart j hj (.inr (hK.ownS.low hj6 hf))
           have hsne : ∀ (j : Nat) (cur : Array Value) (T : TypeId), w7.heap[j]? = some (Obj.cells cur T (0, 0)) → T ≠ 88 → j ≠ sb := fun j cur T hj hT e => by
            rw [e, hs7] at hj
            simp only [Option.some.injEq, Obj.cells.injEq] at hj
            exact hT hj.2.1.symm
           have hsne9 : ∀ (j : Nat) (cur : Array Value) (T : TypeId), w9.heap[j]? = some (Obj.cells cur T (0, 0)) → T ≠ 88 → j ≠ sb := fun j cur T hj hT e => by
            rw [e, hs9.blk] at hj
            simp only [Option.some.injEq, Obj.cells.injEq] at hj
            exact hT hj.2.1.symm
           have hty9 : ∀ (j : Nat) (cur : Array Value) (T : TypeId), w9.heap[j]? = some (Obj.cells cur T (0, 0)) → T ≠ 110 → T ≠ 88 → w12.heap[j]? = w9.heap[j]? := fun j cur T hj h1 h2 => (h12 j (hsne9 j cur T hj h2)).trans (hty j cur T hj h1)
           have hvaB : ∀ j, (Value.slice vd na vc).ownBlock = some j → j < wr.heap.size := fun j hj => GOwn.lt HL.out.arcs hj
           -- all that is written since w7: kb, sb, the arcs' block
           have hblk : ∀ j, j < w7.heap.size → j ≠ kb → j ≠ sb → (Value.slice vd na vc).ownBlock ≠ some j → w12.heap[j]? = w7.heap[j]? := fun j hj h1 h2 h3 => by
            have h9 : w9.heap[j]? = w7.heap[j]? := HU79.out.block j hj h1
            have h10 : w10.heap[j]? = w9.heap[j]? := hb10.block j (by omega)
            exact (h12 j h2).trans ((hgr11.block j (by omega) (fun e => h3 e.symm)).trans (h10.trans h9))
           have hgl := hgr11
           have hE7 : Below E w7 w12 := by
            have hsbE : E ≤ sb := by have := HSN.out; have := HEW.out; omega
            have h9 : Below E w7 w9 := HU79.out.below (by omega) (fun j hj => by omega)
            have h11 : Below E w9 w11 := (hb10.mono hE9s).trans (hB11.mono hEB)
            have := (h9.trans h11).setCell (p := ⟨sb, 2, none⟩) hsbE (.slice vd2 n2 vc2)
            rw [← hw12] at this
            exact this
           have hE912 : Below E w9 w12 := by
            have hsbE : E ≤ sb := by have := HSN.out; have := HEW.out; omega
            have h11 : Below E w9 w11 := (hb10.mono hE9s).trans (hB11.mono hEB)
            have := h11.setCell (p := ⟨sb, 2, none⟩) hsbE (.slice vd2 n2 vc2)
            rw [← hw12] at this
            exact this
           refine ⟨⟨?_, ?_, ?_, ?_, ?_, ?_⟩, ?_, ?_, ?_, ?_, ?_, ?_, ?_, ?_, ?_, hnb⟩
           · rw [e1]
             exact hK.rests.typed (fun j cur hj => hty7 j cur _ hj (by decide) (by decide) (hsne j cur _ hj (by decide))) (fun j cur hj => hty7 j cur _ hj (by decide) (by decide) (hsne j cur _ hj (by decide))) hE7
           · rw [e2]
             obtain ⟨zs, hz, _⟩ := hK.states.ex
             refine hK.states.kept (by omega) (fun j hj => ?_) (fun j cur hA hj => ?_)
             · obtain ⟨_, cur, hc⟩ := hz.block hj
               exact hty7 j cur _ hc (by decide) (by decide) (fun e => hnb sb (.inr (.inr rfl)) (.inr (e ▸ hj)))
             · have hjl := hK.states.lt j hA
               refine hblk j hjl (fun e => ?_) (hsne j cur _ hj (by decide)) (fun hv => ?_)
               · rw [e, hk7] at hj
                 simp only [Option.some.injEq, Obj.cells.injEq] at hj
                 exact absurd hj.2.1 (by decide)
               · rcases hK.sub j hA with h | h
                 · exact HL.out.free j hv h
                 · have := hvaB j hv
                   omega
           · intro j hj
             rcases hK.sub j hj with h | h
             · exact HL.out.ks.sub j h
             · exact .inr (by omega)
           · have hU12 : Upd (fun j => fpK (.slice ra' rn' rc') (.slice sa' sn' sc') j ∨ j = kb ∨ j = sb ∨ (Value.slice vd na vc).ownBlock = some j) wr w12 :=
              ⟨hE912.os.trans hUR9.os, hE912.tape.trans hUR9.tape, hE912.output.trans hUR9.output, Nat.le_trans hUR9.size hE912.size, fun j hj hF => by
               have h9 : w9.heap[j]? = wr.heap[j]? := hUR9.block j hj (fun h => h.elim (fun h => hF (.inl h)) (fun h => hF (.inr (.inl h))))
               have h10 : w10.heap[j]? = w9.heap[j]? := hb10.block j (by have := hUR9.size; omega)
               exact (h12 j (fun e => hF (.inr (.inr (.inl e))))).trans ((hgr11.block j (by have := hUR9.size; omega) (fun e => hF (.inr (.inr (.inr e.symm))))).trans (h10.trans h9))⟩
             refine HL.out.ks.upd.trans hU12 (fun j hj hF => ?_)
             have hsn := HSN.out
             rcases hF with (hF | hF) | hF | hF | hF
             · exact .inl (HL.out.ks.ownR.low hj hF)
             · exact .inr (HL.out.ks.ownS.low hj hF)
             · omega
             · omega
             · have := HL.out.new j hF
               omega
           · exact HL.out.ks.ownR.trans hK.ownR (by omega)
           · exact HL.out.ks.ownS.trans hK.ownS (by omega)
           · rw [e1, e2]
             obtain ⟨f1, f2⟩ := ref_st f _ _ G HL.out.inv HGD.out
             rw [f1]
             exact f2
           · exact hrow9.typed (fun j cur hj => hty9 j cur _ hj (by decide) (by decide)) hE912
           · exact GOwn.same hf9 fun g hg => (by obtain ⟨_, cur, hc⟩ := GOwn.block hf9 hg; exact hty9 g cur _ hc (by decide) (by decide))
           · refine ⟨?_⟩
             rw [hw12, set_at hs11.blk]
             rfl
           · refine GOwn.same ho11' fun g hg => h12 g fun e => ?_
             obtain ⟨_, cur, hc⟩ := GOwn.block ho11' hg
             rw [e, hs11.blk] at hc
             simp only [Option.some.injEq, Obj.cells.injEq] at hc
             exact absurd hc.2.1 (by decide)
           · exact ⟨(hty9 kb _ _ HK9.out.blk (by decide) (by decide)).trans HK9.out.blk⟩
           · exact ⟨(hty9 rb _ _ hr9.blk (by decide) (by decide)).trans hr9.blk⟩
           · intro j hj hA
             rcases hown11 with h | ⟨q, h, hq⟩
             · rw [h] at hj
               rcases hK.sub j hA with h2 | h2
               · exact HL.out.free j hj h2
               · have := hvaB j hj
                 omega
             · rw [h] at hj
               cases hj
               have := hK.states.lt _ hA
               omega
           · intro j hj
             rcases hown11 with h | ⟨q, h, hq⟩
             · rw [h] at hj
               exact HL.out.new j hj
             · rw [h] at hj
               cases hj
               omega
          clear hap ho11 hgr11 hown11 ho11' hty hs10 hB11 hf10 hf11 hn2 hacc ha10 ha9 hn10 hb10 hs11 hs9 hr9 hf9 hrow9 ht9 hRo hSo hRo6 hSo6 hUR9 hE9 hE6 hE69 hk6 hElow hkE hlg
          refine region_atE (S := S19 sb fg k (.slice vd na vc) c) 14 13 rfl mixedP ?_
          refine take_atE (i := 0) 65 rfl rfl (by kernel_rfl) (by kernel_rfl) (by kernel_rfl) (by kernel_rfl) (fun _ _ _ h => h) (by rfl) (fun _ s => by (have h := S19.facts s; clear s; go_simp; first | done | exact rfl)) (by assumption) ?_
          simp only [sZa, sZb, sZc]
          refine take_atE (i := 1) 66 rfl rfl (by kernel_rfl) (by kernel_rfl) (by kernel_rfl) (by kernel_rfl) (fun _ _ _ h => h) (by rfl) (fun _ s => by (have h := S19.facts s; clear s; go_simp; first | done | exact rfl)) (by assumption) ?_
          simp only [sZa, sZb, sZc]
          refine take_atE (i := 2) 67 rfl rfl (by kernel_rfl) (by kernel_rfl) (by kernel_rfl) (by kernel_rfl) (fun _ _ _ h => h) (by rfl) (fun _ s => by (have h := S19.facts s; clear s; go_simp; first | done | exact rfl)) (by assumption) ?_
          simp only [sZa, sZb, sZc]
          refine take_atE (i := 3) 68 rfl rfl (by kernel_rfl) (by kernel_rfl) (by kernel_rfl) (by kernel_rfl) (fun _ _ _ h => h) (by rfl) (fun _ s => by (have h := S19.facts s; clear s; go_simp; first | done | exact rfl)) (by assumption) ?_
          simp only [sZa, sZb, sZc]
          refine take_atE (i := 4) 69 rfl rfl (by kernel_rfl) (by kernel_rfl) (by kernel_rfl) (by kernel_rfl) (fun _ _ _ h => h) (by rfl) (fun _ s => by (have h := S19.facts s; clear s; go_simp; first | done | exact rfl)) (by assumption) ?_
          simp only [sZa, sZb, sZc]
          refine take_atE (i := 5) 70 rfl rfl (by kernel_rfl) (by kernel_rfl) (by kernel_rfl) (by kernel_rfl) (fun _ _ _ h => h) (by rfl) (fun _ s => by (have h := S19.facts s; clear s; go_simp; first | done | exact rfl)) (by assumption) ?_
          simp only [sZa, sZb, sZc]
          refine take_atE (i := 6) 71 rfl rfl (by kernel_rfl) (by kernel_rfl) (by kernel_rfl) (by kernel_rfl) (fun _ _ _ h => h) (by rfl) (fun _ s => by (have h := S19.facts s; clear s; go_simp; first | done | exact rfl)) (by assumption) ?_
          simp only [sZa, sZb, sZc]
          refine take_atE (i := 8) 73 rfl rfl (by kernel_rfl) (by kernel_rfl) (by kernel_rfl) (by kernel_rfl) (fun _ _ _ h => h) (by rfl) (fun _ s => by (have h := S19.facts s; clear s; go_simp; first | done | exact rfl)) (by assumption) ?_
          simp only [sZa, sZb, sZc]
          refine one_callE (i := 7) (w0 := w9.drew) 72 50 #[.slice ta tn tc] (by kernel_rfl) rfl rfl (by rfl) (by kernel_rfl) ?_
          refine HLS.mono ?_
          rintro e w4 ⟨rfl, rfl⟩
          refine ⟨_, rfl, hS0, ?_⟩
          simp only [sZa, sZb, sZc]
          refine take_atE (i := 9) 74 rfl rfl (by kernel_rfl) (by kernel_rfl) (by kernel_rfl) (by kernel_rfl) (fun _ _ _ h => h) (by rfl) (fun _ s => by (have h := S19.facts s; clear s; go_simp; first | done | exact rfl)) (by assumption) ?_
          simp only [sZa, sZb, sZc]
          refine one_valueE (i := 10) (v := .slice (some ⟨w9.heap.size, 0, none⟩) 1 1) (w' := w10) 75 (by kernel_rfl) rfl rfl (by rfl) (by rw [hw10]; go_simp; first | done | exact rfl) hS10 ?_
          simp only [sZa, sZb, sZc]
          refine one_valueE (i := 11) (v := .slice vd2 n2 vc2) (w' := w11) 76 (by kernel_rfl) rfl rfl (by rfl) (exec_app HAP.out) hS11 ?_
          simp only [sZa, sZb, sZc]
          refine one_valueE (i := 12) (v := .pointer (some ⟨sb, 2, none⟩)) (w' := w11) 77 (by kernel_rfl) rfl rfl (by rfl) (by kernel_rfl) hS11 ?_
          simp only [sZa, sZb, sZc]
          refine last_skipE (w' := w12) (by kernel_rfl) rfl rfl (by rfl) (by rw [hw12]; go_simp; first | done | exact rfl) (by kernel_rfl) ?_
          clear hw10 hw12 q0 q1 q2 q3 hS10 hS11 hS0
          go_wp2
          go_roundg (nf - (k + 1))
          case measure => omega
          case rel => exact ⟨k + 1, _, _, _, _, by go_num, by omega, Nat.le_refl _, HNEXT⟩
        · have hltz : ¬ (k : Int) < (nf : Int) := by omega
          have htk : gs.take k = gs := List.take_of_length_le (by have := HNF.out; omega)
          obtain ⟨AA, hAA⟩ : ∃ AA, refA (refF f) D b gs = AA := ⟨_, rfl⟩
          obtain ⟨D1, b1, acc⟩ := AA
          have HLL : KLoop A f E B w (.slice ra rn rc) (.slice sa sn sc) (.slice da dn dc) (.slice fa nf fc) D b (level S) gs kb rb sb fn ot wr k A' vR' vS' va := HL.out
          obtain ⟨hks, hinv, hrow, hfst, hsblk, harcs, hkblk, hrblk, hfree, hnew, hapart⟩ := HLL
          rw [htk, hAA] at hks hinv harcs
          simp only at hks hinv harcs
          have HRF : Hid (refF (f + 1) D b S = (D1 ++ [level S], b1 ++ [⟨fn, ot, acc⟩], b1.length)) := by
           show _ = _
           rw [refF, if_neg HNM.out, HGS.out, hAA, HFN.out.1, HFN.out.2]
          obtain ⟨xss, hRo, hxl, hxe⟩ := hks.rests.ex
          obtain ⟨ra1, rc1, hvR, _⟩ := hRo.shape
          obtain ⟨sa1, sc1, hvS⟩ := hks.states.shape
          obtain ⟨va1, vc1, hva, _⟩ := GOwn.shape harcs
          obtain ⟨rn1, hrn1⟩ : ∃ n, xss.length = n := ⟨_, rfl⟩
          obtain ⟨sn1, hsn1⟩ : ∃ n, b1.length = n := ⟨_, rfl⟩
          obtain ⟨an1, han1⟩ : ∃ n, (List.map cellsA acc).length = n := ⟨_, rfl⟩
          rw [hrn1] at hvR
          rw [hsn1] at hvS
          rw [han1] at hva
          subst hvR
          subst hvS
          subst hva
          obtain ⟨k0, k1, kz⟩ := hkblk.facts
          have hBwr : B ≤ wr.heap.size := Nat.le_trans HI.out.bw hks.upd.size
          have hDl : D1.length + 1 ≤ 1048576 := by have := HI.out.len; rw [HRF.out] at this; simpa using this
          have hbl : b1.length ≤ 1048576 := by have := hinv.len; omega
          have HRO : Hid (GOwn 94 1 B wr (.slice ra1 rn1 rc1) xss) := hRo
          have HXL : Hid (xss.length < 1099511627776) := by show _ < _; omega
          have HBL : Hid (b1.length = sn1 ∧ sn1 ≤ 1048576) := ⟨hsn1, by omega⟩
          have HKS : Hid (KSays A A' E B w wr (.slice ra rn rc) (.slice sa sn sc) (.slice ra1 rn1 rc1) (.slice sa1 sn1 sc1) D1 b1) := hks
          have HBWR : Hid (B ≤ wr.heap.size) := hBwr
          have HNV : Hid (∀ j, (Value.slice va1 an1 vc1).ownBlock = some j → w.heap.size ≤ j) := hnew
          have HBK : Hid (B ≤ kb ∧ rb ≠ kb ∧ w.heap.size ≤ kb ∧ w.heap.size ≤ rb) := by have h1 := HSN.out; have h2 := HI.out.bw; exact ⟨by omega, by omega, by omega, by omega⟩
          have HE7 : Hid (∀ (v7 : Value) (w7 : World) (o : Obj), GOwn 94 1 B w7 v7 (xss ++ [[.slice da dn dc]]) → Below B wr w7 → (wr.alloc o).grownBy w7 (Value.slice ra1 rn1 rc1).ownBlock → EndAt A' E B kb rb sb v7 (.slice sa1 sn1 sc1) (.slice va1 an1 vc1) (D1 ++ [level S]) b1 acc fn ot (w7.setCell ⟨kb, 0, none⟩ v7) ∧ Upd (fun j => (Value.slice ra1 rn1 rc1).ownBlock = some j ∨ j = kb) wr (w7.setCell ⟨kb, 0, none⟩ v7) ∧ Below B wr (w7.setCell ⟨kb, 0, none⟩ v7) ∧ KBlk kb (.slice ra1 rn1 rc1) (.slice sa1 sn1 sc1) w7) :=
           fun v7 w7 o h1 h2 h3 => end_rest (o := o) ⟨hks.rests, hks.states, harcs, hkblk, hrblk, hsblk⟩ hRo hxl hxe hrow HI.out.eb HBK.out.1 HBK.out.2.1 h1 h2 h3
          clear HL hks hinv hrow hfst hsblk harcs hkblk hrblk hfree hnew hapart hRo hxl hxe hrn1 hsn1 han1 hAA htk hBwr hDl hbl
          go_upto_region 20 with fail
          go_upto_region 21 with (at_builtin; refine append_g2 rtyRR (by rfl) _ _ [.slice da dn dc] _ rfl B _ _ _ _ rfl HRO.out rfl rfl ⟨rfl, by simp [Value.oneCell']⟩ HXL.out HBWR.out ?_; intro v7 w7 ho7 hb7 hg7 hn7; obtain ⟨g1, g2, g3, g4⟩ := HE7.out v7 w7 _ ho7 hb7 hg7; obtain ⟨y0, y1, yz⟩ := g4.facts; obtain ⟨a7, c7, hv7, _⟩ := ho7.shape; obtain ⟨n7, hn7l⟩ : ∃ n, (xss ++ [[Value.slice da dn dc]]).length = n := ⟨_, rfl⟩; rw [hn7l] at hv7; subst hv7; have HN7 : Hid _ := hn7; have HG1 : Hid _ := g1; have HG2 : Hid _ := g2; have HG3 : Hid _ := g3; clear ho7 hb7 hg7 hn7 g1 g2 g3 g4 hn7l k0 k1 kz)
          clear y0 y1 yz
          generalize w7.setCell ⟨kb, 0, none⟩ (.slice a7 n7 c7) = w8 at *
          obtain ⟨y0, y1, yz⟩ := HG1.out.kblk.facts
          obtain ⟨s0, s1, s2, s3⟩ := HG1.out.sblk.facts
          obtain ⟨zss, hSo, hzl, hze⟩ := HG1.out.states.ex
          have HSO : Hid (GOwn 88 3 B w8 (.slice sa1 sn1 sc1) zss) := hSo
          have HZL : Hid (zss.length < 1099511627776) := by show _ < _; have := HBL.out; omega
          have HZ1 : Hid (zss.length = sn1) := hzl.trans HBL.out.1
          have HBW8 : Hid (B ≤ w8.heap.size) := Nat.le_trans HBWR.out HG3.out.size
          have HE9 : Hid (∀ (v9 : Value) (w9 : World) (o : Obj), GOwn 88 3 B w9 v9 (zss ++ [[.bool fn, .int .i64 ot, .slice va1 an1 vc1]]) → Below B w8 w9 → (w8.alloc o).grownBy w9 (Value.slice sa1 sn1 sc1).ownBlock → AllOwn E B (w9.setCell ⟨kb, 1, none⟩ v9) (.slice a7 n7 c7) (D1 ++ [level S]) ∧ StA (fun j => A' j ∨ (Value.slice va1 an1 vc1).ownBlock = some j) B (w9.setCell ⟨kb, 1, none⟩ v9) v9 (b1 ++ [⟨fn, ot, acc⟩]) ∧ KBlk kb (.slice a7 n7 c7) v9 (w9.setCell ⟨kb, 1, none⟩ v9) ∧ KBlk rb (.slice none 0 0) (.slice none 0 0) (w9.setCell ⟨kb, 1, none⟩ v9) ∧ Upd (fun j => (Value.slice sa1 sn1 sc1).ownBlock = some j ∨ j = kb) w8 (w9.setCell ⟨kb, 1, none⟩ v9) ∧ Below B w8 (w9.setCell ⟨kb, 1, none⟩ v9) ∧ KBlk kb (.slice a7 n7 c7) (.slice sa1 sn1 sc1) w9) :=
           fun v9 w9 o h1 h2 h3 => end_state (o := o) HG1.out hSo hzl hze HI.out.eb HBK.out.1 HBK.out.2.1 h1 h2 h3
          clear hSo hzl hze
          go_upto_region 22 with (at_builtin; refine append_g2 rtyS (by rfl) _ _ [.bool fn, .int .i64 ot, .slice va1 an1 vc1] _ rfl B _ _ _ _ rfl HSO.out rfl rfl ⟨rfl, by simp [Value.oneCell']⟩ HZL.out HBW8.out ?_; intro v9 w9 ho9 hb9 hg9 hn9; obtain ⟨g1, g2, g3, g4, g5, g6, g7⟩ := HE9.out v9 w9 _ ho9 hb9 hg9; clear y0 y1 yz; obtain ⟨y0, y1, yz⟩ := g7.facts; obtain ⟨a9, c9, hv9, _⟩ := ho9.shape; obtain ⟨n9, hn9l⟩ : ∃ n, (zss ++ [[Value.bool fn, .int .i64 ot, .slice va1 an1 vc1]]).length = n := ⟨_, rfl⟩; rw [hn9l] at hv9; subst hv9; have HN9 : Hid _ := hn9; have HN9L : Hid (n9 = sn1 + 1) := (by show _ = _; rw [← hn9l]; simp [HZ1.out]); have HF1 : Hid _ := g1; have HF2 : Hid _ := g2; have HF3 : Hid _ := g3; have HF4 : Hid _ := g4; have HF5 : Hid _ := g5; have HF6 : Hid _ := g6; clear ho9 hb9 hg9 hn9 g1 g2 g3 g4 g5 g6 g7 hn9l s0 s1 s2 s3)
          clear y0 y1 yz
          generalize w9.setCell ⟨kb, 1, none⟩ (.slice a9 n9 c9) = w10 at *
          obtain ⟨y0, y1, yz⟩ := HF3.out.facts
          obtain ⟨z0, z1, z2⟩ := HF4.out.facts
          obtain ⟨hn9, hs9⟩ : n9 = sn1 + 1 ∧ sn1 ≤ 1048576 := ⟨HN9L.out, HBL.out.2⟩
          subst hn9
          have hkd : KBlk kb (.slice a7 n7 c7) (.slice a9 (sn1 + 1) c9) w10.drew := ⟨HF3.out.blk⟩
          have hrd : KBlk rb (.slice none 0 0) (.slice none 0 0) w10.drew := ⟨HF4.out.blk⟩
          obtain ⟨x0, x1, xz⟩ := hkd.facts
          obtain ⟨v0, v1, vz⟩ := hrd.facts
          obtain ⟨w11, hw11⟩ : ∃ w11, w11 = (w10.drew.setCell ⟨rb, 0, none⟩ (.slice a7 n7 c7)).setCell ⟨rb, 1, none⟩ (.slice a9 (sn1 + 1) c9) := ⟨_, rfl⟩
          have hp := two_set hrd.blk (.slice a7 n7 c7) (.slice a9 (sn1 + 1) c9)
          rw [← hw11] at hp
          have he11 : ∀ j, j ≠ rb → w11.heap[j]? = w10.heap[j]? := fun j hj => by rw [hw11, set_other _ _ _ _ hj, set_other _ _ _ _ hj]; rfl
          have hk11 : KBlk kb (.slice a7 n7 c7) (.slice a9 (sn1 + 1) c9) w11 := ⟨(he11 kb (fun e => HBK.out.2.1 e.symm)).trans HF3.out.blk⟩
          have hS0 : w10.drew.cell? ⟨kb, 0, none⟩ = some (.slice a7 n7 c7) ∧ w10.drew.cell? ⟨kb, 1, none⟩ = some (.slice a9 (sn1 + 1) c9) := ⟨x0, x1⟩
          have hS11 : w11.cell? ⟨kb, 0, none⟩ = some (.slice a7 n7 c7) ∧ w11.cell? ⟨kb, 1, none⟩ = some (.slice a9 (sn1 + 1) c9) := ⟨hk11.facts.1, hk11.facts.2.1⟩
          have hwrp : IntKind.i64.wrap (((sn1 + 1 : Nat) : Int) - 1) = (sn1 : Int) := by rw [IntKind.wrap_i64]; omega
          have HFIN : Hid (KSays A (fun j => A' j ∨ (Value.slice va1 an1 vc1).ownBlock = some j) E B w w11 (.slice ra rn rc) (.slice sa sn sc) (.slice a7 n7 c7) (.slice a9 (sn1 + 1) c9) (D1 ++ [level S]) (b1 ++ [⟨fn, ot, acc⟩])) := by
           have hBK := HBK.out
           have hEB := HI.out.eb
           have hBw := HI.out.bw
           have hsz := HKS.out.upd.size
           have hneT : ∀ (j : Nat) (cur : Array Value) (T : TypeId), w10.heap[j]? = some (Obj.cells cur T (0, 0)) → T ≠ 98 → j ≠ rb := fun j cur T hj hT e => by
            rw [e, HF4.out.blk] at hj
            simp only [Option.some.injEq, Obj.cells.injEq] at hj
            exact hT hj.2.1.symm
           have hb11 : Below w.heap.size w10 w11 := by
            rw [hw11]
            exact (((Below.refl _ w10).drew).setCell (p := ⟨rb, 0, none⟩) hBK.2.2.2 _).setCell (p := ⟨rb, 1, none⟩) hBK.2.2.2 _
           have hU11 : Upd (fun j => j = rb) w10 w11 := ⟨hb11.os, hb11.tape, hb11.output, hb11.size, fun j _ hj => he11 j hj⟩
           obtain ⟨zs2, hz2, _⟩ := HF2.out.ex
           refine ⟨HF1.out.typed (fun j cur hj => he11 j (hneT j cur _ hj (by decide))) (fun j cur hj => he11 j (hneT j cur _ hj (by decide))) (hb11.mono (by omega)), HF2.out.kept hb11.size (fun j hj => ?_) (fun j cur _ hj => he11 j (hneT j cur _ hj (by decide))), fun j hj => ?_, ((HKS.out.upd.trans HG2.out (fun j hj hF => ?_)).trans HF5.out (fun j hj hF => ?_)).trans hU11 (fun j hj hF => ?_), HKS.out.ownR.trans HN7.out hsz, HKS.out.ownS.trans HN9.out (Nat.le_trans hsz HG3.out.size)⟩
           · obtain ⟨_, cur, hc⟩ := hz2.block hj
             exact he11 j (hneT j cur _ hc (by decide))
           · rcases hj with hj | hj
             · exact HKS.out.sub j hj
             · exact .inr (HNV.out j hj)
           · rcases hF with hF | hF
             · exact .inl (HKS.out.ownR.low hj hF)
             · omega
           · rcases hF with hF | hF
             · exact .inr (HKS.out.ownS.low hj hF)
             · omega
           · omega
          clear hkd hrd he11 hk11 x0 x1 xz
          refine region_at (S := fun W => W.cell? ⟨kb, 0, none⟩ = some (.slice a7 n7 c7) ∧ W.cell? ⟨kb, 1, none⟩ = some (.slice a9 (sn1 + 1) c9)) 7 rfl mixedP hS0 (fun _ => ?_)
          refine tk (i := 0) 90 rfl rfl (by kernel_rfl) (fun _ s => by (have h := id s; clear s; go_simp; first | done | exact rfl)) ?_
          simp only [sZa, sZb, sZc]
          refine tk (i := 1) 91 rfl rfl (by kernel_rfl) (fun _ s => by (have h := id s; clear s; go_simp; first | done | exact rfl)) ?_
          simp only [sZa, sZb, sZc]
          refine tk (i := 2) 92 rfl rfl (by kernel_rfl) (fun _ s => by (have h := id s; clear s; go_simp; first | done | exact rfl)) ?_
          simp only [sZa, sZb, sZc]
          refine tk (i := 3) 93 rfl rfl (by kernel_rfl) (fun _ s => by (have h := id s; clear s; go_simp; first | done | exact rfl)) ?_
          simp only [sZa, sZb, sZc]
          refine tk (i := 4) (v := .int .i64 (sn1 : Int)) 94 rfl rfl (by kernel_rfl) (fun _ s => by (have h := id s; clear s; go_simp; first | done | exact rfl | simp_all | (simp; omega))) ?_
          simp only [sZa, sZb, sZc]
          refine one_skip (i := 5) (w' := w11) (by kernel_rfl) rfl rfl (by rfl) (by rw [hw11]; go_simp; first | done | exact rfl) hS11 (fun _ => ?_)
          refine one_value (i := 6) (v := .int .i64 (sn1 : Int)) (w' := w11) 5 (by kernel_rfl) rfl rfl (by rfl) (by go_simp; first | done | exact rfl) hS11 (fun _ => ?_)
          simp only [sZa, sZb, sZc]
          refine wpAnyH_done (by kernel_rfl) ?_ _
          clear hw11 v0 v1 vz z0 z1 z2 y0 y1 yz
          go_wp2
          try simp only [Exit.inBlock, Exit.then]
          refine bodyPost_ret (state_results rfl hp.1 hp.2) rfl ?_
          exact ⟨_, _, _, by rw [HRF.out, HBL.out.1]; rfl, by rw [HRF.out]; exact HFIN.out⟩
end Go.Proofs.YtncnefpkfbngaaaGreatDoor

/- FstSmallest: the law's own walk. -/
namespace Go.Proofs.YtncnefpkfbngaaaGreatDoor
open Go.RowKit Nums Fm
set_option maxRecDepth 100000

theorem mach_subs {l : List Pr} (h : buildE l = 0) : ∃ D, Inv D (machOf l).2 ∧ ∀ R, R ∈ D ↔ (ents l ≠ [] ∧ Sub (ents l) R) := by
 by_cases hl : l = []
 · subst hl
   exact ⟨[], Inv.nil, fun R => ⟨fun h => (by cases h), fun h => absurd rfl h.1⟩⟩
 · obtain ⟨D, M⟩ := stF_spec 25 [] [] (ents l) Inv.nil (dict_good h hl)
   rw [machOf, if_pos ⟨h, hl⟩]
   refine ⟨D, M.inv, fun R => ⟨fun hR => ⟨ents_ne hl, ?_⟩, fun hR => M.all R hR.2⟩⟩
   rcases M.sub R hR with h | h
   · cases h
   · exact h
end Go.Proofs.YtncnefpkfbngaaaGreatDoor

/- Cut: what the seat's translation lacks is left out. -/
/- The reference's Build, whole. -/
namespace Go.Proofs.YtncnefpkfbngaaaGreatDoor
open Go.RowKit Nums Fm Pm
set_option maxRecDepth 100000

theorem state_top (w : World) (v : Value) (l : List Pr) (hC : buildE l = 0) (hl : l ≠ []) (hr : RR w.heap.size w v (ents l)) : StateTop v l w := by
 have hG := dict_good hC hl
 have hD := dict_ok hC
 obtain ⟨e1, e2⟩ := ref_st 25 [] [] (ents l) Inv.nil hG
 have hM : machOf l = (least (ents l), (stF 25 [] (ents l)).1) := by rw [machOf, if_pos ⟨hC, hl⟩]
 obtain ⟨D, hI, hS⟩ := mach_subs hC
 rw [hM] at hI
 have hDD : (refF 25 [] [] (ents l)).1 = D := inv_one e2 hI
 have hsm := mach_small (l := l)
 rw [hM] at hsm
 have hin : StIn (fun _ => False) 25 w.heap.size w.heap.size w (.slice none 0 0) (.slice none 0 0) v [] [] (ents l) := by
  refine ⟨Inv.nil, hG, AllOwn.nil _ _ _, ⟨⟨[], GOwn.nil _ _ _ _, rfl, fun i s hi => by simp at hi⟩, fun k h => h.elim⟩, hr, Nat.le_refl _, Nat.le_refl _, ?_, fun R hR => ?_, fun e he => ?_⟩
  · rw [hDD, hI.len]
    simp only at hsm ⊢
    omega
  · rw [hDD] at hR
    obtain ⟨h0, hs⟩ := (hS R).1 hR
    obtain ⟨xs, n, hx, k, hk, rfl⟩ := sub_word hs hD.rise h0
    have hb := behind_len (xs.take k) (ents l)
    have hel := ents_len l
    have hl4 := hD.len
    refine ⟨?_, fun e he => ?_⟩
    · have : (level (behind (xs.take k) (ents l))).length = (behind (xs.take k) (ents l)).length := by simp [level, shift]
      omega
    · obtain ⟨y, hy, rfl⟩ := List.mem_map.1 he
      obtain ⟨z, hz, _, h3⟩ := behind_mem _ _ _ hy
      have := hD.en.ln z hz
      simp only
      omega
  · have := hD.en.wt e he
    omega
 refine (refState_any 25 _ _ _ _ _ _ _ _ _ _ hin).mono ?_
 rintro e w' ⟨A', vR', vS', rfl, hK⟩
 obtain ⟨ra, rc, h1⟩ := hK.rests.shape
 obtain ⟨sa, sc, h2⟩ := hK.states.shape
 have h3 : (refF 25 [] [] (ents l)).2.1 = (stF 25 [] (ents l)).1 := by rw [e1]
 have hb : Below w.heap.size w w' := ⟨hK.upd.os, hK.upd.tape, hK.upd.output, hK.upd.size, fun j hj => hK.upd.block j hj (fun h => by rcases h with h | h <;> cases h)⟩
 have hrow := hK.states.row
 rw [h3] at hrow
 subst h1
 subst h2
 exact ⟨_, _, _, _, _, _, _, rfl, hb, hrow⟩
end Go.Proofs.YtncnefpkfbngaaaGreatDoor
