/- The reference of the disk: Crash, the walk. -/
import Derived.Test.YtpmmpdkeahmdiaaRefCrash
import Derived.Test.YtpmmpdkeahmdiaaWholeMath
namespace Go.Proofs.Ytpmmpdkeahmdiaa
open Go.RowKit
set_option maxRecDepth 100000

attribute [local go_sem ↓] exec_alloc_D exec_box_D exec_load_D exec_store_D
attribute [local go_sem] rdV_cells rdC_0 rdC_1 rdC_2 rdC_3 rdC_4 rdC_5
theorem four_is (w : World) (y : RX) (a b c d : Value) (t : TypeId) (g : Nat) (hg : g = w.heap.size) (e0 : a = .int .u64 y.s.area) (e1 : b = .int .i64 y.s.n) (e2 : c = y.lv) (e3 : d = .bool y.s.sy) : FourAt (w.alloc (.cells #[a, b, c, d] t)) g 0 y := by
  subst hg e0 e1 e2 e3
  refine ⟨?_, ?_, ?_, ?_⟩ <;> simp
theorem rs_of {X : List RX} {S : List Sec} (h : X.map RX.s = S.map toRS) {i : Nat} {x : RX} (hx : X[i]? = some x) : ∃ s, S[i]? = some s ∧ x.s = toRS s := by
  have h1 := congrArg (·[i]?) h
  simp only [List.getElem?_map, hx, Option.map_some] at h1
  cases hs : S[i]? with
  | none => rw [hs] at h1; cases h1
  | some s => rw [hs] at h1; simp at h1; exact ⟨s, rfl, h1⟩
theorem head_drop (ps : List Int) (u : Nat) : (ps.drop u).headD 0 = ps.getD u 0 := by
  rw [List.headD_eq_head?_getD, List.head?_drop, List.getD_eq_getElem?_getD]
theorem str_ne {z : List Nat} (h : z ≠ []) : (strB z).toList.isEmpty = false := by
  cases z with
  | nil => exact absurd rfl h
  | cons a r =>
    have h1 : (strB (a :: r)).toList.length = (a :: r).length := by rw [ByteArray.toList_eq]; simp [strB, strOfNums]
    cases hb : (strB (a :: r)).toList with
    | nil => rw [hb] at h1; simp at h1
    | cons _ _ => rfl
theorem two_al (w : World) (o1 o2 : Obj) : Below w.heap.size w ((w.alloc o1).alloc o2) := ((Below.refl _ w).alloc (Nat.le_refl _) _).alloc (by simp) _
def rdRoom (m : Int) : RD := { rd0 with room := m }
set_option maxHeartbeats 1000000 in
theorem refCrash_any (P : Nat → Prop) (N : Nat) (rv v : Value) (d : DS) (ps : List Int) (w : World) (hr : RefIs P w rv d) (hok : DsOk N d) (hp : IntsAt w v ps) :
    Calls Try.prog 14 #[rv, v] w fun e w' => ∃ rv', e = .returned rv' ∧ RefIs (fun b => P b ∨ w.heap.size ≤ b) w' rv' (crashD d ps) ∧ Below w.heap.size w w' := by
  obtain ⟨l, X, rfl, hX, hXS⟩ := hr
  obtain ⟨r, hr⟩ : ∃ r, rdOf d = r := ⟨_, rfl⟩
  have HR : Hid (rdOf d = r) := hr
  rw [hr]
  obtain ⟨ad, cap, rfl, hlX, _⟩ := id hX
  have HX : Hid (SecRow P w (.slice ad X.length cap) X) := hX
  have HXS : Hid (X.map RX.s = d.secs.map toRS) := hXS
  have HOK : Hid (DsOk N d) := hok
  have hlen : X.length = d.secs.length := by have := congrArg List.length hXS; simpa using this
  have hr1 : 0 ≤ r.room := by rw [← hr]; show 0 ≤ d.room - (d.secs.length : Int); have := hok.fits; omega
  have hr2 : r.room + (X.length : Int) ≤ 9223372036854775807 := by rw [← hr, hlen]; show d.room - (d.secs.length : Int) + _ ≤ _; have := hok.r2; omega
  obtain ⟨adp, cpp, rfl, hp1, hp2, hpcs, hpb⟩ := id hp
  have HPC : Hid (0 < ps.length → ∃ b off, adp = some ⟨b, off, none⟩ ∧ b < w.heap.size ∧ ∀ (j : Nat) x, ps[j]? = some x → w.cell? ⟨b, off + j, none⟩ = some (.int .i64 x)) := hpcs
  have HPB : Hid (∀ x ∈ ps, -9223372036854775808 ≤ x ∧ x ≤ 9223372036854775807) := hpb
  obtain ⟨t1, t2, t3, t4⟩ := two0_at w r (.slice ad X.length cap)
  have T0 := DskAt.new (two0 w r (.slice ad X.length cap)) rd0 (.slice none 0 0)
  have hst := storeD_at (r := rdRoom r.room) (ad := none) (n := 0) (c := 0) T0
  rw [t4] at hst T0
  obtain ⟨w3, hw3⟩ : ∃ w3, setD ((two0 w r (.slice ad X.length cap)).alloc (.cells (rdC rd0 (.slice none 0 0)) 27)) (w.heap.size + 2) (rdRoom r.room) (.slice none 0 0) = w3 := ⟨_, rfl⟩
  rw [hw3] at hst
  have D3 : Hid (DskAt w3 w.heap.size r (.slice ad X.length cap)) := hw3 ▸ (t1.old _).far (by omega)
  have R3 : Hid (DskAt w3 (w.heap.size + 1) rd0 (.slice none 0 0)) := hw3 ▸ (t2.old _).far (by omega)
  have C3 : Hid (DskAt w3 (w.heap.size + 2) (rdRoom r.room) (.slice none 0 0)) := hw3 ▸ T0.set
  have B3 : Hid (Below w.heap.size w w3) := hw3 ▸ setD_below (t3.alloc (by omega) _) (by omega) _ _
  have hst' : storeD Try.prog (.pointer (some ⟨w.heap.size + 1 + 1, 0, none⟩)) (.agg #[.int .i64 r.room, .int .i64 0, .int .i64 0, .bool false, .bool false, .slice none 0 0]) (((w.alloc (.cells (rdC r (.slice ad X.length cap)) 27)).alloc (.cells (rdC rd0 (.slice none 0 0)) 27)).alloc (.cells (rdC rd0 (.slice none 0 0)) 27)) = .ok () w3 := hst
  have HLEN : Hid (X.length = d.secs.length) := hlen
  clear hX hXS hok hp hpcs hpb t1 t2 t3 t4 T0 hw3 hr hlen hst
  go_enter Try.func14, Try.ntmps14
  go_wp2_with fail
  clear hst'
  go_loopw [6, 7] (fun v6 v7 wr => ∃ i u acc lv, CrR P w r (.slice ad X.length cap) ps d.secs v6 v7 wr i u acc lv) (fun _ v7 _ => X.length - (intOf v7).toNat)
  case atStart => exact ⟨0, 0, [], .slice none 0 0, rfl, rfl, Nat.zero_le _, Nat.le_refl _, SecOwn.nil _ _, rfl, Nat.zero_le _, fun x hx => (by cases hx), D3.out, R3.out, (by simpa [rdRoom] using C3.out), B3.out⟩
  case round =>
    obtain ⟨i, u, acc, lv, hI⟩ := hrel
    have HI : Hid (CrR P w r (.slice ad X.length cap) ps d.secs _ _ wr i u acc lv) := hI
    obtain ⟨rfl, rfl, hi, hu, hown, heq, hal, hok, hdk, hrk, hck, hbw⟩ := hI
    obtain ⟨d0, d1, d2, d3, d4, d5, dz⟩ := hdk.cells
    obtain ⟨c0, c1, c2, c3, c4, c5, cz⟩ := hck.cells
    rw [show w.heap.size + 2 = w.heap.size + 1 + 1 from rfl] at c0 c5 cz
    have hsr := hck.lt
    have B5 : Hid (Below w.heap.size w wr) := hbw
    obtain ⟨av, ac, rfl⟩ := hown.shape
    simp only at c0
    obtain ⟨rm, hrm⟩ : ∃ rm, r.room + ((i : Int) - (acc.length : Int)) = rm := ⟨_, rfl⟩
    have HRM : Hid (r.room + ((i : Int) - (acc.length : Int)) = rm) := hrm
    rw [hrm] at c0
    have hrm1 : 0 ≤ rm := by omega
    clear hown heq hok hdk hrk hck hbw d0 d1 d2 d3 d4 c1 c2 c3 c4 hrm
    have n1 : w.heap.size < wr.heap.size := by omega
    have n2 : w.heap.size + 1 + 1 < wr.heap.size := by omega
    have hiX : i ≤ X.length := by rw [HLEN.out]; exact hi
    clear hi
    by_cases hin : i < X.length
    · obtain ⟨_, _, eX, _, hcs, hokX⟩ := id HX.out
      obtain ⟨g, hg0, _, hg, hx4⟩ := hcs (by omega)
      simp only [Value.slice.injEq] at eX
      rw [← eX.1] at hg0
      subst hg0
      obtain ⟨x, hx⟩ : ∃ x, X[i]? = some x := ⟨_, List.getElem?_eq_getElem hin⟩
      obtain ⟨x0, x1, x2, x3⟩ := (hx4 i x hx).below hg B5.out
      have hxok := hokX x (List.mem_of_getElem? hx)
      have HXO : Hid (x.ok P w) := hxok
      obtain ⟨⟨xh, xc, exl, hPxh, hxhl, hxst⟩, hvne, hvll⟩ := id hxok
      obtain ⟨s, hs, exs⟩ := rs_of HXS.out hx
      have HS : Hid (d.secs[i]? = some s) := hs
      have EXS : Hid (x.s = toRS s) := exs
      have hmem := List.mem_of_getElem? hs
      have HTH : Hid (s.last ≠ none ∨ s.fresh ≠ []) := HOK.out.there s hmem
      have hgr : g < wr.heap.size := Nat.lt_of_lt_of_le hg B5.out.size
      clear hcs hokX eX hx4 hx hxok hs
      by_cases hfr : s.fresh = []
      · obtain ⟨v, hv⟩ : ∃ v, s.last = some v := by
          cases hl : s.last with
          | none => exact absurd hl (HTH.out.resolve_right fun q => q hfr)
          | some v => exact ⟨v, rfl⟩
        have hvl : x.s.vs.length = 1 := by rw [exs]; simp [toRS, hv, hfr]
        have hsy : x.s.sy = true := by rw [exs]; simp [toRS, hv]
        rw [exl, hvl] at x2
        rw [hsy] at x3
        have HLV : Hid (x.lv = .slice (some ⟨xh, 0, none⟩) 1 xc) := by show _ = _; rw [exl, hvl]
        have HSY : Hid (x.s.sy = true) := hsy
        have HFR : Hid (s.fresh = []) := hfr
        clear exl hvl hsy hv hfr exs hvne hvll hxst
        go_wp2_with (at_builtin; refine append_sec rfl _ _ rfl (w.heap.size + 3) _ acc x rfl ((HI.out.own.alloc _).alloc _) _ _ rfl (four_is _ _ _ _ _ _ _ _ (by simp) rfl rfl HLV.out.symm (by rw [HSY.out])) w HXO.out (by omega) (by simp; omega) ?_)
        intro v' w' ho' hb' hk'
        obtain ⟨bv2, nn, bc2, rfl⟩ : ∃ a n c, v' = Value.slice a n c := by obtain ⟨a, c, e⟩ := ho'.shape; exact ⟨a, _, c, e⟩
        obtain ⟨_, _, _, _, _, q5, qz⟩ := (HI.out.ck.below (B := w.heap.size + 3) (by omega) ((((Below.refl _ wr).alloc (by omega) _).alloc (by simp; omega) _).trans hb')).cells
        rw [show w.heap.size + 2 = w.heap.size + 1 + 1 from rfl] at q5 qz
        have HN : Hid (∃ i' u' acc' lv'', CrR P w r (.slice (some ⟨g, 0, none⟩) X.length cap) ps d.secs (.int .i64 (u : Int)) (.int .i64 ((i : Int) + 1)) (w'.setCell ⟨w.heap.size + 1 + 1, 5, none⟩ (.slice bv2 nn bc2)) i' u' acc' lv'') := HI.out.add HS.out x (by rw [if_pos HFR.out, EXS.out]; rfl) (by rw [if_pos HFR.out]) rfl (((Below.refl _ wr).alloc (Nat.le_refl _) _).alloc (by simp) _) ho' hb' (fun k hk hne => hk' k (by simpa using hk) hne) (.inl HXO.out)
        clear ho' hb' hk'
        go_wp2_with fail
        go_roundw
        case rel => exact HN.out
        case measure => simp [intOf]; omega
      · have HFR : Hid (s.fresh ≠ []) := hfr
        have HV64 : Hid (∀ (q : Nat) z, (allV s)[q]? = some z → z = [] ∨ z.length = 64) := fun q z hz => by
          cases q with
          | zero =>
            simp only [allV, List.getElem?_cons_zero, Option.some.injEq] at hz
            cases hl : s.last with
            | none => rw [hl] at hz; exact .inl hz.symm
            | some v => rw [hl] at hz; subst hz; exact .inr (HOK.out.last64 s hmem v hl)
          | succ k =>
            simp only [allV, List.getElem?_cons_succ] at hz
            exact .inr (HOK.out.fresh64 s hmem z (List.mem_of_getElem? hz))
        obtain ⟨L, hL⟩ : ∃ L, s.fresh.length = L := ⟨_, rfl⟩
        have hL0 : 0 < L := by rw [← hL]; exact List.length_pos_iff.2 hfr
        have HL : Hid (s.fresh.length = L) := hL
        -- the pick
        obtain ⟨pn, hpn⟩ : ∃ pn : Nat, (max (ps.getD u 0) 0).toNat = pn := ⟨_, rfl⟩
        have htm := tmod_nat pn L
        obtain ⟨q, hq⟩ : ∃ q, pn % (L + 1) = q := ⟨_, rfl⟩
        rw [hq] at htm
        have hql : q ≤ L := by have := Nat.mod_lt pn (show 0 < L + 1 by omega); omega
        have HPK : Hid ((allV s)[q]? = some ((cvOf ((ps.drop u).headD 0) s.last s.fresh).getD [])) := allV_pick (by rw [head_drop, pickN, HL.out, hpn, hq])
        have HCV : Hid (∀ z, (allV s)[q]? = some z → z ≠ [] → (crashSec ((ps.drop u).headD 0) s).map toRS = [⟨s.area, s.n, [z], true⟩]) := fun z hz hne => by
          rw [HPK.out] at hz
          unfold crashSec
          cases hc : cvOf ((ps.drop u).headD 0) s.last s.fresh with
          | none => rw [hc] at hz; simp at hz; exact absurd hz hne
          | some v => rw [hc] at hz; simp at hz; subst hz; rfl
        have HCN : Hid ((allV s)[q]? = some [] → (crashSec ((ps.drop u).headD 0) s).map toRS = []) := fun hz => by
          have h64 := HV64.out
          unfold crashSec
          cases hc : cvOf ((ps.drop u).headD 0) s.last s.fresh with
          | none => rfl
          | some v =>
            exfalso
            have := HPK.out
            rw [hc, hz] at this
            simp at this
            subst this
            rcases cv_mem hc with h1 | h1
            · have := HOK.out.last64 s hmem _ h1; simp at this
            · have := HOK.out.fresh64 s hmem _ h1; simp at this
        clear hq hL hfr
        have HUP : Hid (Value.int .i64 ((u : Int) + 1) = .int .i64 ((if s.fresh = [] then u else u + 1 : Nat) : Int)) := by show _ = _; rw [if_neg HFR.out]; rfl
        have hxhr : xh < wr.heap.size := Nat.lt_of_lt_of_le hxhl B5.out.size
        have hq0 : (0 : Int) ≤ (q : Int) := by omega
        have hq1 : (q : Int) < (L : Int) + 1 := by omega
        cases hlast : s.last with
        | some v =>
          have hvl : x.s.vs.length = L + 1 := by rw [exs]; simp [toRS, hlast, HL.out]
          have hsy : x.s.sy = true := by rw [exs]; simp [toRS, hlast]
          have hvs : x.s.vs = allV s := by rw [exs]; exact (allV_sy hlast).symm
          obtain ⟨z, hz⟩ : ∃ z, (allV s)[q]? = some z := ⟨_, HPK.out⟩
          have hzc := (B5.out.cell (p := ⟨xh, q, none⟩) hxhl).trans (hxst q z (by rw [hvs]; exact hz))
          have hzne : z ≠ [] := fun e => by
            subst e
            have h1 := HCN.out hz
            have h2 := HPK.out
            rw [hz] at h2
            simp only [Option.some.injEq] at h2
            unfold crashSec at h1
            cases hc : cvOf ((ps.drop u).headD 0) s.last s.fresh with
            | none =>
              unfold cvOf at hc
              rw [hlast] at hc
              split at hc
              · cases hc
              · have h3 : pickN ((ps.drop u).headD 0) s.fresh.length ≤ s.fresh.length := by unfold pickN; have := Nat.mod_lt (max ((ps.drop u).headD 0) 0).toNat (show 0 < s.fresh.length + 1 by omega); omega
                have := List.getElem?_eq_none_iff.1 hc
                omega
            | some v => rw [hc] at h1; simp at h1
          have HZ : Hid ((allV s)[q]? = some z) := hz
          have HZN : Hid (z ≠ []) := hzne
          rw [exl, hvl] at x2
          rw [hsy] at x3
          clear exl hvl hsy exs hvne hvll hxst hvs hz hzne hlast
          have hze : (strB z).toList.isEmpty = false := str_ne HZN.out
          have hL1 : ((L : Int) + 1 == 1) = false := by rw [Bool.eq_false_iff]; intro h; have := beq_iff_eq.1 h; omega
          have HNS : Hid (∀ o1 o2, NewStr (w.heap.size + 3) (((wr.alloc o1).alloc (.cells #[.string (strB z)] 9)).alloc o2) ⟨⟨x.s.area, x.s.n, [z], true⟩, .slice (some ⟨wr.heap.size + 1, 0, none⟩) 1 1⟩) := fun o1 o2 => ⟨wr.heap.size + 1, z, rfl, by omega, by
            rw [alloc_old _ _ (by simp)]
            have := alloc_new (wr.alloc o1) (.cells #[.string (strB z)] 9)
            rwa [alloc_size] at this, rfl⟩
          by_cases hup : u < ps.length
          ·
            obtain ⟨pb, po, rfl, hpbl, hpc⟩ := HPC.out (by omega)
            obtain ⟨y, hy⟩ : ∃ y, ps[u]? = some y := ⟨_, List.getElem?_eq_getElem hup⟩
            have hyc := (B5.out.cell (p := ⟨pb, po + u, none⟩) hpbl).trans (hpc u y hy)
            obtain ⟨hy1, hy2⟩ := HPB.out y (List.mem_of_getElem? hy)
            have hyd : ps.getD u 0 = y := by rw [List.getD_eq_getElem?_getD, hy]; rfl
            rw [hyd] at hpn
            have hpr : pb < wr.heap.size := Nat.lt_of_lt_of_le hpbl B5.out.size
            have hmx1 : (if y < 0 then 0 else y) = (pn : Int) := by split <;> omega
            have hmx2 : (if 0 < y then y else 0) = (pn : Int) := by split <;> omega
            have hmx3 : max y 0 = (pn : Int) := by omega
            clear hyd hpc hy hpn
            go_wp2_with (at_builtin; refine append_sec rfl _ _ rfl (w.heap.size + 3) _ acc ⟨⟨x.s.area, x.s.n, [z], true⟩, .slice (some ⟨wr.heap.size + 1, 0, none⟩) 1 1⟩ rfl (((HI.out.own.alloc _).alloc _).alloc _) _ _ rfl (four_is _ _ _ _ _ _ _ _ (by simp) rfl rfl rfl rfl) _ ((HNS.out (.map #[] 0) (.map #[] 0)).ok (fun _ => True)) (by omega) (by simp; omega) ?_)
            intro v' w' ho' hb' hk'
            obtain ⟨bv2, nn, bc2, rfl⟩ : ∃ a n c, v' = Value.slice a n c := by obtain ⟨a, c, e⟩ := ho'.shape; exact ⟨a, _, c, e⟩
            have hns' := (HNS.out _ _).same (own_strs (((HI.out.own.alloc _).alloc _).alloc _) (fun k hk hne => hk' k (by simpa using hk) hne))
            obtain ⟨_, _, _, _, _, q5, qz⟩ := (HI.out.ck.below (B := w.heap.size + 3) (by omega) (((((Below.refl _ wr).alloc (by omega) _).alloc (by simp; omega) _).alloc (by simp; omega) _).trans hb')).cells
            rw [show w.heap.size + 2 = w.heap.size + 1 + 1 from rfl] at q5 qz
            have HN : Hid (∃ i' u' acc' lv'', CrR P w r (.slice (some ⟨g, 0, none⟩) X.length cap) ps d.secs (.int .i64 ((u : Int) + 1)) (.int .i64 ((i : Int) + 1)) (w'.setCell ⟨w.heap.size + 1 + 1, 5, none⟩ (.slice bv2 nn bc2)) i' u' acc' lv'') := HI.out.add HS.out _ (by rw [if_neg HFR.out, HCV.out z HZ.out HZN.out, EXS.out]; rfl) HUP.out rfl ((((Below.refl _ wr).alloc (Nat.le_refl _) _).alloc (by simp) _).alloc (by simp; omega) _) ho' hb' (fun k hk hne => hk' k (by simpa using hk) hne) (.inr hns')
            clear ho' hb' hk' hns'
            go_wp2_with fail
            go_roundw
            case rel => exact HN.out
            case measure => simp [intOf]; omega
          ·
            have hyd : ps.getD u 0 = 0 := by rw [List.getD_eq_getElem?_getD, List.getElem?_eq_none_iff.2 (by omega)]; rfl
            rw [hyd] at hpn
            have hpn0 : pn = 0 := by rw [← hpn]; rfl
            subst hpn0
            have hup' : ¬ ((u : Int) < (ps.length : Int)) := by omega
            have htm0 : Int.tmod 0 ((L : Int) + 1) = (q : Int) := by have h := htm; simpa using h
            clear hyd hpn htm
            go_wp2_with (at_builtin; refine append_sec rfl _ _ rfl (w.heap.size + 3) _ acc ⟨⟨x.s.area, x.s.n, [z], true⟩, .slice (some ⟨wr.heap.size + 1, 0, none⟩) 1 1⟩ rfl (((HI.out.own.alloc _).alloc _).alloc _) _ _ rfl (four_is _ _ _ _ _ _ _ _ (by simp) rfl rfl rfl rfl) _ ((HNS.out (.map #[] 0) (.map #[] 0)).ok (fun _ => True)) (by omega) (by simp; omega) ?_)
            intro v' w' ho' hb' hk'
            obtain ⟨bv2, nn, bc2, rfl⟩ : ∃ a n c, v' = Value.slice a n c := by obtain ⟨a, c, e⟩ := ho'.shape; exact ⟨a, _, c, e⟩
            have hns' := (HNS.out _ _).same (own_strs (((HI.out.own.alloc _).alloc _).alloc _) (fun k hk hne => hk' k (by simpa using hk) hne))
            obtain ⟨_, _, _, _, _, q5, qz⟩ := (HI.out.ck.below (B := w.heap.size + 3) (by omega) (((((Below.refl _ wr).alloc (by omega) _).alloc (by simp; omega) _).alloc (by simp; omega) _).trans hb')).cells
            rw [show w.heap.size + 2 = w.heap.size + 1 + 1 from rfl] at q5 qz
            have HN : Hid (∃ i' u' acc' lv'', CrR P w r (.slice (some ⟨g, 0, none⟩) X.length cap) ps d.secs (.int .i64 ((u : Int) + 1)) (.int .i64 ((i : Int) + 1)) (w'.setCell ⟨w.heap.size + 1 + 1, 5, none⟩ (.slice bv2 nn bc2)) i' u' acc' lv'') := HI.out.add HS.out _ (by rw [if_neg HFR.out, HCV.out z HZ.out HZN.out, EXS.out]; rfl) HUP.out rfl ((((Below.refl _ wr).alloc (Nat.le_refl _) _).alloc (by simp) _).alloc (by simp; omega) _) ho' hb' (fun k hk hne => hk' k (by simpa using hk) hne) (.inr hns')
            clear ho' hb' hk' hns'
            go_wp2_with fail
            go_roundw
            case rel => exact HN.out
            case measure => simp [intOf]; omega
        | none =>
          have hvl : x.s.vs.length = L := by rw [exs]; simp [toRS, hlast, HL.out]
          have hsy : x.s.sy = false := by rw [exs]; simp [toRS, hlast]
          have hall : allV s = [[]] ++ x.s.vs := by rw [exs]; exact allV_not hlast
          obtain ⟨z, hz⟩ : ∃ z, (allV s)[q]? = some z := ⟨_, HPK.out⟩
          have HZ : Hid ((allV s)[q]? = some z) := hz
          have HALL : Hid (allV s = [[]] ++ x.s.vs) := hall
          have HVL : Hid (x.s.vs.length = L) := hvl
          have HSO : Hid (∀ o, StrOwn (wr.heap.size + 1) ((wr.alloc o).alloc (Obj.cells #[.string (ByteArray.mk #[])] 9)) (.slice (some ⟨wr.heap.size + 1, 0, none⟩) 1 1) [[]]) := fun o => by
            have := strs_one (wr.heap.size + 1) (wr.alloc o) (by simp) []
            rw [alloc_size] at this
            exact this
          have HSI : Hid (∀ o1 o2, StrsIn ((wr.alloc o1).alloc o2) (.slice (some ⟨xh, 0, none⟩) L xc) x.s.vs) := fun o1 o2 => by
            have h1 := (HXO.out.1.below B5.out).below (((Below.refl _ wr).alloc (Nat.le_refl _) o1).alloc (by simp) o2)
            rw [exl, hvl] at h1
            exact .inr (h1.mono fun _ _ _ => trivial)
          have hrm2 : rm + 1 ≤ 9223372036854775807 := by have := HRM.out; omega
          rw [exl, hvl] at x2
          rw [hsy] at x3
          have hvll' : L ≤ 1099511627778 := by rw [← hvl]; exact hvll
          clear exl hvl hsy exs hvne hvll hxst hall hz hlast
          by_cases hup : u < ps.length
          ·
            obtain ⟨pb, po, rfl, hpbl, hpc⟩ := HPC.out (by omega)
            obtain ⟨y, hy⟩ : ∃ y, ps[u]? = some y := ⟨_, List.getElem?_eq_getElem hup⟩
            have hyc := (B5.out.cell (p := ⟨pb, po + u, none⟩) hpbl).trans (hpc u y hy)
            obtain ⟨hy1, hy2⟩ := HPB.out y (List.mem_of_getElem? hy)
            have hyd : ps.getD u 0 = y := by rw [List.getD_eq_getElem?_getD, hy]; rfl
            rw [hyd] at hpn
            have hpr : pb < wr.heap.size := Nat.lt_of_lt_of_le hpbl B5.out.size
            have hmx1 : (if y < 0 then 0 else y) = (pn : Int) := by split <;> omega
            have hmx2 : (if 0 < y then y else 0) = (pn : Int) := by split <;> omega
            have hmx3 : max y 0 = (pn : Int) := by omega
            clear hyd hpc hy hpn
            go_wp2_with (at_builtin; refine append_strs rfl _ _ rfl (wr.heap.size + 1) _ _ [[]] x.s.vs rfl (HSO.out _) rfl (HSI.out _ _) (by have := HVL.out; simp; omega) (by simp) ?_)
            intro v5 w5 ho5 hb5
            obtain ⟨g5, k5, e5, _, hg5, hc5⟩ := ho5.strs (P := fun _ => True) (fun _ _ => trivial) (by simp)
            obtain rfl : v5 = Value.slice (some ⟨g5, 0, none⟩) (L + 1) k5 := by rw [e5]; simp [HVL.out]
            clear e5
            have hzc := hc5 q z (by have h := HZ.out; rw [HALL.out] at h; simpa using h)
            have HW5 : Hid (Below wr.heap.size wr w5) := (((Below.refl _ wr).alloc (Nat.le_refl _) _).alloc (by simp) _).trans (hb5.mono (by omega))
            have hbk5 := hb5.block wr.heap.size (by omega)
            rw [alloc_old _ _ (by simp), alloc_new] at hbk5
            have hsz5 : wr.heap.size < w5.heap.size := (Array.getElem?_eq_some_iff.1 hbk5).1
            obtain ⟨y0, y1, y2, y3, yz⟩ := four_cells hbk5
            have hck5 := HI.out.ck.below hsr HW5.out
            obtain ⟨b0, _, _, _, _, b5, bz⟩ := hck5.cells
            rw [show w.heap.size + 2 = w.heap.size + 1 + 1 from rfl] at b0 b5 bz
            simp only at b0
            rw [HRM.out] at b0
            have n25 : w.heap.size + 1 + 1 < w5.heap.size := by omega
            clear ho5 hb5 hc5 hbk5 hck5 x0 x1 x2 x3 c0 c5 cz d5 dz
            by_cases hzn : z = []
            · subst hzn
              rw [str_nil] at hzc
              have HN : Hid (∃ i' u' acc' lv'', CrR P w r (.slice (some ⟨g, 0, none⟩) X.length cap) ps d.secs (.int .i64 ((u : Int) + 1)) (.int .i64 ((i : Int) + 1)) (w5.setCell ⟨w.heap.size + 1 + 1, 0, none⟩ (.int .i64 (rm + 1))) i' u' acc' lv'') := HI.out.hole HS.out (by rw [if_neg HFR.out, HCN.out HZ.out]) HUP.out rfl HW5.out rm HRM.out
              go_wp2_with fail
              go_roundw
              case rel => exact HN.out
              case measure => simp [intOf]; omega
            · have hze : (strB z).toList.isEmpty = false := str_ne hzn
              have HZN : Hid (z ≠ []) := hzn
              have HNS : Hid (∀ o2, NewStr (w.heap.size + 3) ((w5.alloc (.cells #[.string (strB z)] 9)).alloc o2) ⟨⟨x.s.area, x.s.n, [z], true⟩, .slice (some ⟨w5.heap.size, 0, none⟩) 1 1⟩) := fun o2 => ⟨w5.heap.size, z, rfl, by omega, by
                rw [alloc_old _ _ (by simp)]
                exact alloc_new w5 _, rfl⟩
              have HO5 : Hid (SecOwn (w.heap.size + 3) w5 (.slice av acc.length ac) acc) := HI.out.own.below HW5.out
              clear hzn
              go_wp2_with (at_builtin; refine append_sec rfl _ _ rfl (w.heap.size + 3) _ acc ⟨⟨x.s.area, x.s.n, [z], true⟩, .slice (some ⟨w5.heap.size, 0, none⟩) 1 1⟩ rfl ((HO5.out.alloc _).alloc _) _ _ rfl (four_is _ _ _ _ _ _ _ _ (by simp) rfl rfl rfl rfl) _ ((HNS.out (.map #[] 0)).ok (fun _ => True)) (by omega) (by simp; omega) ?_)
              intro v' w' ho' hb' hk'
              obtain ⟨bv2, nn, bc2, rfl⟩ : ∃ a n c, v' = Value.slice a n c := by obtain ⟨a, c, e⟩ := ho'.shape; exact ⟨a, _, c, e⟩
              have hns' := (HNS.out _).same (own_strs ((HO5.out.alloc _).alloc _) (fun k hk hne => hk' k (by simpa using hk) hne))
              obtain ⟨_, _, _, _, _, q5, qz⟩ := (HI.out.ck.below (B := w.heap.size + 3) (by omega) ((HW5.out.mono (by omega)).trans (((two_al w5 _ _).mono (by omega)).trans hb'))).cells
              rw [show w.heap.size + 2 = w.heap.size + 1 + 1 from rfl] at q5 qz
              have HN : Hid (∃ i' u' acc' lv'', CrR P w r (.slice (some ⟨g, 0, none⟩) X.length cap) ps d.secs (.int .i64 ((u : Int) + 1)) (.int .i64 ((i : Int) + 1)) (w'.setCell ⟨w.heap.size + 1 + 1, 5, none⟩ (.slice bv2 nn bc2)) i' u' acc' lv'') := HI.out.add HS.out _ (by rw [if_neg HFR.out, HCV.out z HZ.out HZN.out, EXS.out]; rfl) HUP.out rfl (HW5.out.trans ((two_al w5 _ _).mono (by omega))) ho' hb' (fun k hk hne => hk' k (by simpa using hk) hne) (.inr hns')
              clear ho' hb' hk' hns'
              go_wp2_with fail
              go_roundw
              case rel => exact HN.out
              case measure => simp [intOf]; omega
          ·
            have hyd : ps.getD u 0 = 0 := by rw [List.getD_eq_getElem?_getD, List.getElem?_eq_none_iff.2 (by omega)]; rfl
            rw [hyd] at hpn
            have hpn0 : pn = 0 := by rw [← hpn]; rfl
            subst hpn0
            have hup' : ¬ ((u : Int) < (ps.length : Int)) := by omega
            have htm0 : Int.tmod 0 ((L : Int) + 1) = (q : Int) := by have h := htm; simpa using h
            clear hyd hpn htm
            go_wp2_with (at_builtin; refine append_strs rfl _ _ rfl (wr.heap.size + 1) _ _ [[]] x.s.vs rfl (HSO.out _) rfl (HSI.out _ _) (by have := HVL.out; simp; omega) (by simp) ?_)
            intro v5 w5 ho5 hb5
            obtain ⟨g5, k5, e5, _, hg5, hc5⟩ := ho5.strs (P := fun _ => True) (fun _ _ => trivial) (by simp)
            obtain rfl : v5 = Value.slice (some ⟨g5, 0, none⟩) (L + 1) k5 := by rw [e5]; simp [HVL.out]
            clear e5
            have hzc := hc5 q z (by have h := HZ.out; rw [HALL.out] at h; simpa using h)
            have HW5 : Hid (Below wr.heap.size wr w5) := (((Below.refl _ wr).alloc (Nat.le_refl _) _).alloc (by simp) _).trans (hb5.mono (by omega))
            have hbk5 := hb5.block wr.heap.size (by omega)
            rw [alloc_old _ _ (by simp), alloc_new] at hbk5
            have hsz5 : wr.heap.size < w5.heap.size := (Array.getElem?_eq_some_iff.1 hbk5).1
            obtain ⟨y0, y1, y2, y3, yz⟩ := four_cells hbk5
            have hck5 := HI.out.ck.below hsr HW5.out
            obtain ⟨b0, _, _, _, _, b5, bz⟩ := hck5.cells
            rw [show w.heap.size + 2 = w.heap.size + 1 + 1 from rfl] at b0 b5 bz
            simp only at b0
            rw [HRM.out] at b0
            have n25 : w.heap.size + 1 + 1 < w5.heap.size := by omega
            clear ho5 hb5 hc5 hbk5 hck5 x0 x1 x2 x3 c0 c5 cz d5 dz
            by_cases hzn : z = []
            · subst hzn
              rw [str_nil] at hzc
              have HN : Hid (∃ i' u' acc' lv'', CrR P w r (.slice (some ⟨g, 0, none⟩) X.length cap) ps d.secs (.int .i64 ((u : Int) + 1)) (.int .i64 ((i : Int) + 1)) (w5.setCell ⟨w.heap.size + 1 + 1, 0, none⟩ (.int .i64 (rm + 1))) i' u' acc' lv'') := HI.out.hole HS.out (by rw [if_neg HFR.out, HCN.out HZ.out]) HUP.out rfl HW5.out rm HRM.out
              go_wp2_with fail
              go_roundw
              case rel => exact HN.out
              case measure => simp [intOf]; omega
            · have hze : (strB z).toList.isEmpty = false := str_ne hzn
              have HZN : Hid (z ≠ []) := hzn
              have HNS : Hid (∀ o2, NewStr (w.heap.size + 3) ((w5.alloc (.cells #[.string (strB z)] 9)).alloc o2) ⟨⟨x.s.area, x.s.n, [z], true⟩, .slice (some ⟨w5.heap.size, 0, none⟩) 1 1⟩) := fun o2 => ⟨w5.heap.size, z, rfl, by omega, by
                rw [alloc_old _ _ (by simp)]
                exact alloc_new w5 _, rfl⟩
              have HO5 : Hid (SecOwn (w.heap.size + 3) w5 (.slice av acc.length ac) acc) := HI.out.own.below HW5.out
              clear hzn
              go_wp2_with (at_builtin; refine append_sec rfl _ _ rfl (w.heap.size + 3) _ acc ⟨⟨x.s.area, x.s.n, [z], true⟩, .slice (some ⟨w5.heap.size, 0, none⟩) 1 1⟩ rfl ((HO5.out.alloc _).alloc _) _ _ rfl (four_is _ _ _ _ _ _ _ _ (by simp) rfl rfl rfl rfl) _ ((HNS.out (.map #[] 0)).ok (fun _ => True)) (by omega) (by simp; omega) ?_)
              intro v' w' ho' hb' hk'
              obtain ⟨bv2, nn, bc2, rfl⟩ : ∃ a n c, v' = Value.slice a n c := by obtain ⟨a, c, e⟩ := ho'.shape; exact ⟨a, _, c, e⟩
              have hns' := (HNS.out _).same (own_strs ((HO5.out.alloc _).alloc _) (fun k hk hne => hk' k (by simpa using hk) hne))
              obtain ⟨_, _, _, _, _, q5, qz⟩ := (HI.out.ck.below (B := w.heap.size + 3) (by omega) ((HW5.out.mono (by omega)).trans (((two_al w5 _ _).mono (by omega)).trans hb'))).cells
              rw [show w.heap.size + 2 = w.heap.size + 1 + 1 from rfl] at q5 qz
              have HN : Hid (∃ i' u' acc' lv'', CrR P w r (.slice (some ⟨g, 0, none⟩) X.length cap) ps d.secs (.int .i64 ((u : Int) + 1)) (.int .i64 ((i : Int) + 1)) (w'.setCell ⟨w.heap.size + 1 + 1, 5, none⟩ (.slice bv2 nn bc2)) i' u' acc' lv'') := HI.out.add HS.out _ (by rw [if_neg HFR.out, HCV.out z HZ.out HZN.out, EXS.out]; rfl) HUP.out rfl (HW5.out.trans ((two_al w5 _ _).mono (by omega))) ho' hb' (fun k hk hne => hk' k (by simpa using hk) hne) (.inr hns')
              clear ho' hb' hk' hns'
              go_wp2_with fail
              go_roundw
              case rel => exact HN.out
              case measure => simp [intOf]; omega
    · have hxn : ¬ ((i : Int) < (X.length : Int)) := by omega
      have hii : i = X.length := by omega
      obtain ⟨rq, hrq⟩ : ∃ rq : RD, rq = { rd0 with room := r.room + ((i : Int) - acc.length) } := ⟨_, rfl⟩
      have D6 := HI.out.ck
      rw [← hrq, show w.heap.size + 2 = w.heap.size + 1 + 1 from rfl] at D6
      have hld6 := loadD_at D6
      have hst6 := storeD_at (r := rq) (ad := av) (n := acc.length) (c := ac) HI.out.rk
      obtain ⟨w7, hw7⟩ : ∃ w7, setD wr (w.heap.size + 1) rq (.slice av acc.length ac) = w7 := ⟨_, rfl⟩
      rw [hw7] at hst6
      have R7 : Hid (DskAt w7 (w.heap.size + 1) rq (.slice av acc.length ac)) := hw7 ▸ HI.out.rk.set
      have B7 : Hid (Below w.heap.size w w7) := hw7 ▸ setD_below B5.out (by omega) _ _
      have F7 : Hid (∀ k, k ≠ w.heap.size + 1 → w7.heap[k]? = wr.heap[k]?) := fun k hk => by
        rw [← hw7]; exact setD_far _ _ _ _ _ hk
      have HRQ : Hid (rq = { rd0 with room := r.room + ((i : Int) - acc.length) }) := hrq
      have HII : Hid (i = X.length) := hii
      clear hw7 D6 hrq c0 c5 cz hii
      go_wp2_with fail
      refine retD rfl rfl R7.out rfl ?_
      have hii := HII.out
      have hE := HI.out.eq
      rw [List.drop_eq_nil_of_le (show d.secs.length ≤ i by rw [← HLEN.out]; omega)] at hE
      simp only [crashS, List.map_nil, List.append_nil] at hE
      have hal2 : acc.length = (crashS ps d.secs).length := by have := congrArg List.length hE; simpa using this
      refine ⟨_, rfl, ⟨.slice av acc.length ac, acc, ?_, ?_, hE⟩, B7.out⟩
      · have e1 : rq = rdOf (crashD d ps) := by
          rw [HRQ.out, ← HR.out]
          unfold rdOf crashD rd0
          simp only [RD.mk.injEq, and_true]
          have := HLEN.out
          omega
        rw [← e1]
      · refine SecOwn.row (B := w.heap.size + 3) ?_ (by omega) (fun b hb => .inr (by omega)) (fun x hx => ?_)
        · obtain ⟨g1, g2 | ⟨g, gc, cur, e, k1, k2, k3⟩⟩ := HI.out.own
          · exact ⟨g1, .inl g2⟩
          · exact ⟨g1, .inr ⟨g, gc, cur, e, k1, (F7.out g (by omega)).trans k2, k3⟩⟩
        · rcases HI.out.ok x hx with h1 | h1
          · exact (h1.below B7.out).mono fun b _ h => .inl h
          · have h2 := h1.same (W' := w7) fun k ⟨C, hC⟩ => F7.out k fun e => by
              subst e
              have h3 := HI.out.rk
              unfold DskAt at h3
              rw [hC] at h3
              simp at h3
            exact (h2.ok P).mono fun b _ h => h.imp id fun q => by omega
end Go.Proofs.Ytpmmpdkeahmdiaa
