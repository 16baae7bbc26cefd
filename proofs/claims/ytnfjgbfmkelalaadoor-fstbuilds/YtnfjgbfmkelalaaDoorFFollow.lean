/- The reference's Follow. -/
import Derived.Test.YtnfjgbfmkelalaaDoorLevelW
import Derived.Test.YtnfjgbfmkelalaaDoorInvAll
namespace Go.Proofs.YtnfjgbfmkelalaaDoor
open Go.RowKit Nums Fm
set_option maxRecDepth 100000

/-- Arcs looked through: none has the rune yet, or one had it. -/
def Seen (l : List Arc) (k : Nat) (c sum to sum' : Int) : Prop := ((∀ a ∈ l.take k, a.label ≠ c) ∧ to = -1 ∧ sum' = sum) ∨ ∃ a ∈ l.take k, a.label = c ∧ to = a.to ∧ sum' = sum + a.out
set_option maxHeartbeats 4000000 in
theorem follow_any (B : Nat) (w : World) (base : Int) (vs : Value) (b : List St) (D : List (List En)) (S : List En) (hrow : StRow B w vs b) (hI : Inv D b) (hb : b.length ≤ 102400) (v : Value) (xs : List Int) (hv : RunesAt w.heap.size w v xs) (hx : xs.length ≤ 4611686018427387904) (hst : Stands D b S xs 0 (b.length - 1) base) :
    Calls Tryd.prog 17 #[.agg #[.int .i64 base, vs], v] w fun e w' => e = .returned (.tuple #[.int .i64 ((wt xs S).getD 0), .bool (wt xs S).isSome]) ∧ Below w.heap.size w w' := by
  obtain ⟨sd, sc, rfl⟩ := hrow.shape
  obtain ⟨xd, xc, rfl, _⟩ := id hv
  obtain ⟨nb, hnb⟩ : ∃ nb, b.length = nb := ⟨_, rfl⟩
  obtain ⟨nx, hnx⟩ : ∃ nx, xs.length = nx := ⟨_, rfl⟩
  rw [hnb] at hrow hst hb ⊢
  rw [hnx] at hv hx ⊢
  have HNB : Hid (b.length = nb) := hnb
  have HNX : Hid (xs.length = nx) := hnx
  have HROW : Hid (StRow B w (.slice sd nb sc) b) := hrow
  have HV : Hid (RunesAt w.heap.size w (.slice xd nx xc) xs) := hv
  have HI : Hid (Inv D b) := hI
  obtain ⟨at0, hat0⟩ : ∃ at0 : Int, (nb : Int) - 1 = at0 := ⟨_, rfl⟩
  rw [hat0] at hst
  have HST : Hid (Stands D b S xs 0 at0 base) := hst
  have hatw : IntKind.i64.wrap at0 = at0 := by rw [IntKind.wrap_i64]; omega
  obtain ⟨w0, hw0⟩ : ∃ w0, w0 = w.alloc (.cells #[.int .i64 base, .slice sd nb sc] 27) := ⟨_, rfl⟩
  obtain ⟨bx, hbx⟩ : ∃ bx, bx = w.heap.size := ⟨_, rfl⟩
  have HW0 : Hid (Below w.heap.size w w0) := by show Below _ _ _; rw [hw0]; exact (Below.refl _ w).alloc (Nat.le_refl _) _
  have HBX : Hid (w0.heap[bx]? = some (.cells #[.int .i64 base, .slice sd nb sc] 27)) := by show _ = _; rw [hw0, hbx]; exact alloc_newP _ _
  have d0 : w0.cell? ⟨bx, 0, none⟩ = some (.int .i64 base) := by simp [World.cell?, HBX.out]
  have d1 : w0.cell? ⟨bx, 1, none⟩ = some (.slice sd nb sc) := by simp [World.cell?, HBX.out]
  clear hrow hv hI hst hnb hnx
  go_enter Tryd.func17, Tryd.ntmps17
  go_upto_region 1 with fail
  rw [← hw0, ← hbx]
  clear hw0 hbx
  go_wp2
  go_loopg [6, 7, 8, 9, 10, 11] nx (fun gm s6 s7 s8 _ _ _ wr => ∃ (i : Nat) (at' sum : Int), s6 = .int .i64 at' ∧ s7 = .int .i64 sum ∧ s8 = .int .i64 i ∧ i ≤ nx ∧ nx - i ≤ gm ∧ Hid (Stands D b S xs i at' sum) ∧ Hid (Below w0.heap.size w0 wr))
  case atStart => exact ⟨0, at0, base, rfl, rfl, rfl, Nat.zero_le _, by omega, HST, Below.refl _ _⟩
  case round =>
    clear d0 d1 hatw hat0
    obtain ⟨i, at', sum, rfl, rfl, rfl, hi, hgm, HS, HB⟩ := hrel
    have HBw : Hid (Below w.heap.size w wr) := HW0.out.trans (HB.out.mono HW0.out.size)
    have hbx1 := (HB.out.block bx (Array.getElem?_eq_some_iff.1 HBX.out).1).trans HBX.out
    have e1 : wr.cell? ⟨bx, 1, none⟩ = some (.slice sd nb sc) := by simp [World.cell?, hbx1]
    clear hbx1
    by_cases hneg : at' = -1
    · subst hneg
      have HNO : Hid (wt xs S = none) := by
        rcases HS.out with ⟨_, h⟩ | ⟨n, R, h, _⟩
        · exact h
        · omega
      by_cases hlt : i < nx
      · have hltz : (i : Int) < (nx : Int) := by omega
        go_wp2
        go_ret2
        exact ⟨by rw [HNO.out]; rfl, HBw.out⟩
      · have hltz : ¬ (i : Int) < (nx : Int) := by omega
        go_wp2
        go_ret2
        exact ⟨by rw [HNO.out]; rfl, HBw.out⟩
    · obtain ⟨n, R, hat, hn, hR, hwt, hwb⟩ := HS.out.resolve_left (fun h => hneg h.1)
      subst hat
      rw [HNB.out] at hn
      have hnz : (0 : Int) ≤ (n : Int) := by omega
      have hnn : ¬ (n : Int) < 0 := by omega
      have hnb2 : (n : Int) < (nb : Int) := by omega
      obtain ⟨s, hs⟩ : ∃ s, b[n]? = some s := ⟨b[n]'(by have := HNB.out; omega), List.getElem?_eq_getElem _⟩
      obtain ⟨gs, cap, eg, hg, hcell⟩ := HROW.out.at (by have := HNB.out; omega)
      simp only [Value.slice.injEq] at eg
      obtain ⟨rfl, hz, rfl⟩ := eg
      obtain ⟨va, hA, k0, k1, k2⟩ := hcell n s hs
      have c0 := (HBw.out.cell (p := ⟨gs, n * 3, none⟩) hg).trans k0
      have c1 := (HBw.out.cell (p := ⟨gs, n * 3 + 1, none⟩) hg).trans k1
      have c2 := (HBw.out.cell (p := ⟨gs, n * 3 + 2, none⟩) hg).trans k2
      have HK2 : Hid (w.cell? ⟨gs, n * 3 + 2, none⟩ = some va ∧ gs < w.heap.size) := ⟨k2, hg⟩
      clear k0 k1 k2
      have HRS : Hid (R = exp D s) := by
        have := (HI.out.row n s hs).1
        rw [hR] at this
        exact Option.some.inj this
      have HWT : Hid (wt xs S = wt (xs.drop i) (shift sum R)) := hwt
      have hsum := HS.out.sum HI.out
      by_cases hlt : i < nx
      · have hltz : (i : Int) < (nx : Int) := by omega
        obtain ⟨c, hc⟩ : ∃ c, xs[i]? = some c := ⟨xs[i]'(by have := HNX.out; omega), List.getElem?_eq_getElem _⟩
        obtain ⟨hno, hyes⟩ := HS.out.next HI.out hs hc
        have HNOA : Hid _ := hno
        have HYES : Hid _ := hyes
        obtain ⟨vd, vc, hva, _⟩ := GOwn.shape hA
        rw [List.length_map] at hva
        obtain ⟨na, hna⟩ : ∃ na, s.arcs.length = na := ⟨_, rfl⟩
        rw [hna] at hva
        subst hva
        have HNA : Hid (s.arcs.length = na) := hna
        have hna4 : na ≤ 9223372036854775807 := by have := GOwn.small hA; rw [List.length_map, hna] at this; simp only [maxLen] at this; omega
        have HA : Hid (AOwn B w (.slice vd na vc) s.arcs) := hA
        obtain ⟨_, _, ct⟩ := HI.out.row n s hs
        have HLAB : Hid (s.arcs.Pairwise fun a b => a.label < b.label) := ct.lab
        obtain ⟨gx, ox, exd, hzx, hxc⟩ := HV.out.get (k := i) (by have := HNX.out; omega)
        clear hzx
        subst exd
        have hcx : (xs.drop i).headD 0 = c := by rw [List.headD_eq_head?_getD, List.head?_drop, hc]; rfl
        have HXC : Hid (w.cell? ⟨gx, ox + i, none⟩ = some (.int .i32 c)) := by show _ = _; rw [hxc, hcx]
        have HXW : Hid (gx < w.heap.size) := lt_of_cell HXC.out
        clear hz hcell hs hA hna hR hwt hwb hno hyes ct hxc hcx hc c0 c1
        go_wp2
        go_loopg [7, 9, 10, 11] na (fun gm2 s7 s9 s10 _ wq => ∃ (k : Nat) (to sum' : Int), s7 = .int .i64 sum' ∧ s9 = .int .i64 to ∧ s10 = .int .i64 k ∧ k ≤ na ∧ na - k ≤ gm2 ∧ Hid (Seen s.arcs k c sum to sum') ∧ Hid (Below w0.heap.size w0 wq))
        case atStart => exact ⟨0, -1, sum, rfl, rfl, rfl, Nat.zero_le _, by omega, .inl ⟨fun a ha => by simp at ha, rfl, rfl⟩, HB⟩
        case round =>
          clear e1 c2 HBw
          obtain ⟨k, to, sum', rfl, rfl, rfl, hk, hgm2, HSEEN, HQ⟩ := hrel
          have HBw : Hid (Below w.heap.size w wr) := HW0.out.trans (HQ.out.mono HW0.out.size)
          have hbx1 := (HQ.out.block bx (Array.getElem?_eq_some_iff.1 HBX.out).1).trans HBX.out
          have e1 : wr.cell? ⟨bx, 1, none⟩ = some (.slice (some ⟨gs, 0, none⟩) nb sc) := by simp [World.cell?, hbx1]
          have c2 : wr.cell? ⟨gs, n * 3 + 2, none⟩ = some (.slice vd na vc) := (HBw.out.cell (p := ⟨gs, n * 3 + 2, none⟩) HK2.out.2).trans HK2.out.1
          clear hbx1
          by_cases hlt2 : k < na
          · have hltz2 : (k : Int) < (na : Int) := by omega
            obtain ⟨a, ha⟩ : ∃ a, s.arcs[k]? = some a := ⟨s.arcs[k]'(by have := HNA.out; omega), List.getElem?_eq_getElem _⟩
            obtain ⟨ga, ca, ea, hga, _, _, hac⟩ := AOwn.at (GOwn.below HA.out HBw.out) (by have := HNA.out; omega)
            simp only [Value.slice.injEq] at ea
            obtain ⟨rfl, hz2, rfl⟩ := ea
            obtain ⟨p0, p1, p2⟩ := hac k a ha
            obtain ⟨ato, hato⟩ : ∃ ato, a.to = ato := ⟨_, rfl⟩
            rw [hato] at p2
            have HAK : Hid (s.arcs[k]? = some a ∧ a.to = ato) := ⟨ha, hato⟩
            have HTK : Hid (s.arcs.take (k + 1) = s.arcs.take k ++ [a]) := by show _ = _; rw [List.take_add_one, ha]; rfl
            clear hz2 hac ha hato
            go_upto_region 11 with fail
            obtain ⟨wy, hwy⟩ : ∃ wy, wy = wr.alloc (.cells #[.int .i32 a.label, .int .i64 a.out, .int .i64 ato] 46) := ⟨_, rfl⟩
            obtain ⟨ab, hab⟩ : ∃ ab, ab = wr.heap.size := ⟨_, rfl⟩
            rw [← hwy, ← hab]
            have hby : Below wr.heap.size wr wy := by rw [hwy]; exact (Below.refl _ wr).alloc (Nat.le_refl _) _
            have hbx2 : wy.heap[ab]? = some (.cells #[.int .i32 a.label, .int .i64 a.out, .int .i64 ato] 46) := by rw [hwy, hab]; exact alloc_newP _ _
            obtain ⟨y0, y1, y2⟩ := (TriAt.of hbx2).facts
            have hwy2 : Below w.heap.size w wy := HBw.out.trans (hby.mono HBw.out.size)
            have x0 : wy.cell? ⟨gx, ox + i, none⟩ = some (.int .i32 c) := (hwy2.cell (p := ⟨gx, ox + i, none⟩) HXW.out).trans HXC.out
            have HQ2 : Hid (∀ q, Below w0.heap.size w0 (wy.drewN q)) := fun q => HQ.out.trans ((belowN hby q).mono HQ.out.size)
            clear hwy hab hby hbx2 hwy2 e1 c2 p0 p1 p2
            by_cases hlc : a.label = c
            · have hlb : (a.label == c) = true := beq_iff_eq.2 hlc
              have hto : to = -1 ∧ sum' = sum := by
                rcases HSEEN.out with ⟨_, h2, h3⟩ | ⟨x, hx, h2, _⟩
                · exact ⟨h2, h3⟩
                · exfalso
                  obtain ⟨m, hm⟩ := List.mem_iff_getElem?.1 hx
                  rw [List.getElem?_take] at hm
                  split at hm
                  · rename_i hmk
                    obtain ⟨h5, e5⟩ := List.getElem?_eq_some_iff.1 hm
                    obtain ⟨h6, e6⟩ := List.getElem?_eq_some_iff.1 HAK.out.1
                    have := List.pairwise_iff_getElem.1 HLAB.out m k h5 h6 hmk
                    rw [e5, e6, h2, hlc] at this
                    omega
                  · cases hm
              obtain ⟨rfl, rfl⟩ := hto
              obtain ⟨hst2, hlt3, hs1, hs2⟩ := HYES.out a (List.mem_of_getElem? HAK.out.1) hlc
              have hwr3 : IntKind.i64.wrap (sum' + a.out) = sum' + a.out := by rw [IntKind.wrap_i64]; omega
              have HSN : Hid (Seen s.arcs (k + 1) c sum' ato (sum' + a.out)) := .inr ⟨a, by rw [HTK.out]; simp, hlc, by rw [HAK.out.2], rfl⟩
              clear hlc hst2 hlt3
              go_quiet (fail)
              go_wp2
              go_roundg (na - (k + 1))
              case measure => omega
              case rel => exact ⟨k + 1, _, _, rfl, rfl, by go_num, by omega, Nat.le_refl _, HSN, HQ2.out _⟩
            · have hlb : (a.label == c) = false := beq_eq_false_iff_ne.2 hlc
              have HSN : Hid (Seen s.arcs (k + 1) c sum to sum') := by
                show Seen _ _ _ _ _ _
                rcases HSEEN.out with ⟨h1, h2, h3⟩ | ⟨x, hx, h2, h3⟩
                · refine .inl ⟨fun y hy => ?_, h2, h3⟩
                  rw [HTK.out] at hy
                  rcases List.mem_append.1 hy with hy | hy
                  · exact h1 y hy
                  · rw [List.mem_singleton.1 hy]; exact hlc
                · exact .inr ⟨x, by rw [HTK.out]; exact List.mem_append_left _ hx, h2, h3⟩
              clear hlc
              go_quiet (fail)
              go_wp2
              go_roundg (na - (k + 1))
              case measure => omega
              case rel => exact ⟨k + 1, _, _, rfl, rfl, by go_num, by omega, Nat.le_refl _, HSN, HQ2.out _⟩
          · have hltz2 : ¬ (k : Int) < (na : Int) := by omega
            have htk : s.arcs.take k = s.arcs := List.take_of_length_le (by have := HNA.out; omega)
            have hseen := HSEEN.out
            unfold Seen at hseen
            rw [htk] at hseen
            have HNEXT : Hid (Stands D b S xs (i + 1) to sum') := by
              show Stands _ _ _ _ _ _ _
              rcases hseen with ⟨h1, h2, h3⟩ | ⟨x, hx, h2, h3, h4⟩
              · rw [h2]; exact HNOA.out h1 _
              · rw [h3, h4]; exact (HYES.out x hx h2).1
            have hton : ¬ (nb : Int) ≤ to := by
              rcases hseen with ⟨h1, h2, h3⟩ | ⟨x, hx, h2, h3, h4⟩
              · omega
              · have := (HYES.out x hx h2).2.1
                rw [HNB.out] at this
                omega
            clear hseen htk
            go_wp2
            go_roundg (nx - (i + 1))
            case measure => omega
            case rel => exact ⟨i + 1, _, _, rfl, rfl, by go_num, by omega, Nat.le_refl _, HNEXT, HQ⟩
      · have hltz : ¬ (i : Int) < (nx : Int) := by omega
        have hdr : xs.drop i = [] := List.drop_eq_nil_of_le (by have := HNX.out; omega)
        have hfin := HWT.out
        rw [hdr, HRS.out, wt_zero] at hfin
        obtain ⟨hl1, _, _⟩ := state_level HI.out hs
        have hout2 : s.final = true → 0 ≤ s.out ∧ s.out ≤ 1048576 := fun hf => by
          refine ⟨hl1 hf, ?_⟩
          have := hwb ([], s.out + sum) (by rw [HRS.out]; exact List.mem_map.2 ⟨([], s.out), List.mem_append_left _ (by simp [fins, hf]), rfl⟩)
          simp only at this
          omega
        have HFIN : Hid _ := hfin
        clear hz hcell hs hA hR hwt hwb hfin hl1 c2
        cases hf : s.final with
        | false =>
          rw [hf] at c0 HFIN
          have HNO : Hid (wt xs S = none) := HFIN.out
          go_wp2
          go_ret2
          exact ⟨by rw [HNO.out]; rfl, HBw.out⟩
        | true =>
          rw [hf] at c0 HFIN
          obtain ⟨ho1, ho2⟩ := hout2 hf
          have HYES : Hid (wt xs S = some (sum + s.out)) := HFIN.out
          have hwr : IntKind.i64.wrap (sum + s.out) = sum + s.out := by rw [IntKind.wrap_i64]; omega
          clear hout2 hf
          go_wp2
          go_ret2
          exact ⟨by rw [HYES.out]; rfl, HBw.out⟩
end Go.Proofs.YtnfjgbfmkelalaaDoor
