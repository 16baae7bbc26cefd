/- The reference's Rises, walked. -/
import Derived.Test.YtfekpkjcociidaaDoorFRises
namespace Go.Proofs.YtfekpkjcociidaaDoor
open Go.RowKit Nums Fm
set_option maxRecDepth 100000

theorem RMade.mono {E B B' : Nat} {w : World} {v : Value} {S : List En} (h : RMade E B w v S) (hB : B' ≤ B) : RMade E B' w v S := by
  obtain ⟨xss, ho, hl, hx⟩ := h
  exact ⟨xss, ho.mono hB, hl, hx⟩
theorem RMade.kept {E B B' k : Nat} {T : TypeId} {w w' : World} {v u : Value} {S : List En} {yss : List (List Value)} (h : RMade E B w v S) (ho' : GOwn T k B' w u yss) (hT : T ≠ 68) (hg : w.grownBy w' u.ownBlock) (hb : Below E w w') : RMade E B w' v S := by
  obtain ⟨xss, ho, hl, hx⟩ := h
  refine ⟨xss, ho.same fun g hgv => ?_, hl, fun i e hi => ?_⟩
  · obtain ⟨_, cur, hc⟩ := ho.block hgv
    refine hg.block g (ho.lt hgv) fun e => ?_
    obtain ⟨_, cur', hc'⟩ := ho'.block e.symm
    rw [hc] at hc'
    simp only [Option.some.injEq, Obj.cells.injEq] at hc'
    exact hT hc'.2.1.symm
  · obtain ⟨y, h1, h2, h3⟩ := hx i e hi
    exact ⟨y, h1, h2.below hb, h3⟩
/-- Rests that lie below E, or that were made. -/
def RRb (E : Nat) (w : World) (v : Value) (S : List En) : Prop :=
  ∃ ad cap, v = .slice ad S.length cap ∧ (0 < S.length → ∃ g off, ad = some ⟨g, off, none⟩ ∧ g < E ∧ ∀ i e, S[i]? = some e → ∃ u, EntAt E w g (off + i * 2) u e ∧ CapOk u)
structure Und (E : Nat) (w : World) (v : Value) (S : List En) : Prop where
  or : RRb E w v S ∨ RMade E E w v S
theorem RRb.belowE {E : Nat} {w w' : World} {v : Value} {S : List En} (h : RRb E w v S) (hb : Below E w w') : RRb E w' v S := by
  obtain ⟨ad, cap, rfl, hc⟩ := h
  refine ⟨ad, cap, rfl, fun h0 => ?_⟩
  obtain ⟨g, off, rfl, hg, hx⟩ := hc h0
  refine ⟨g, off, rfl, hg, fun i e hi => ?_⟩
  obtain ⟨u, ⟨c0, c1, hr⟩, hk⟩ := hx i e hi
  exact ⟨u, ⟨(hb.cell (p := ⟨g, off + i * 2, none⟩) hg).trans c0, (hb.cell (p := ⟨g, off + i * 2 + 1, none⟩) hg).trans c1, hr.below hb⟩, hk⟩
theorem Und.row {E : Nat} {w : World} {v : Value} {S : List En} (h : Und E w v S) (hE : E ≤ w.heap.size) : RR E w v S := by
  rcases h.or with h | h
  · obtain ⟨ad, cap, rfl, hc⟩ := h
    refine ⟨ad, cap, rfl, fun h0 => ?_⟩
    obtain ⟨g, off, e, hg, hx⟩ := hc h0
    exact ⟨g, off, e, by omega, hx⟩
  · exact h.row
theorem Und.below {E : Nat} {w w' : World} {v : Value} {S : List En} (h : Und E w v S) (hE : E ≤ w.heap.size) (hb : Below w.heap.size w w') : Und E w' v S := by
  rcases h.or with h | h
  · exact ⟨.inl (h.belowE (hb.mono hE))⟩
  · exact ⟨.inr (h.below hE hb)⟩
theorem Und.kept {E B' k : Nat} {T : TypeId} {w w' : World} {v u : Value} {S : List En} {yss : List (List Value)} (h : Und E w v S) (ho' : GOwn T k B' w u yss) (hT : T ≠ 68) (hg : w.grownBy w' u.ownBlock) (hb : Below E w w') : Und E w' v S := by
  rcases h.or with h | h
  · exact ⟨.inl (h.belowE hb)⟩
  · exact ⟨.inr (h.kept ho' hT hg hb)⟩
/-- What Rises has found. -/
structure RDone (S : List En) (Ds : List (List En)) (i : Nat) : Prop where
  nd : Ds.Nodup
  sub : ∀ R ∈ Ds, Sub S R
  all : ∀ (j : Nat) (e : En), j < i → S[j]? = some e → ∀ k, k ≤ e.1.length → level (behind (e.1.take k) S) ∈ Ds
set_option maxHeartbeats 4000000 in
theorem refRises_any (w : World) (v : Value) (l : List Pr) (h : PRow w v l) (hd : DictOk l) (hl : l.length ≤ 300) :
    Calls Tryd.prog 20 #[v] w fun e w' => ∃ ad cap Ds, e = .returned (.slice ad (List.length Ds) cap) ∧ Ds.Nodup ∧ (∀ R ∈ Ds, Sub (ents l) R) ∧ (∀ R, ents l ≠ [] → Sub (ents l) R → R ∈ Ds) ∧ Ds.length ≤ 100 * (ents l).length ∧ Below w.heap.size w w' := by
  have HRE := refRests_any w v l h (by omega) hd.wd
  obtain ⟨ad0, cap0, rfl⟩ := h.form
  obtain ⟨S, hS⟩ : ∃ S, ents l = S := ⟨_, rfl⟩
  rw [hS] at HRE ⊢
  have HREH : Hid (Calls Tryd.prog 29 #[.slice ad0 l.length cap0] w fun e w' => ∃ v', e = .returned v' ∧ RR w'.heap.size w' v' S ∧ Below w.heap.size w w') := HRE
  obtain ⟨nl, hnl⟩ : ∃ nl, l.length = nl := ⟨_, rfl⟩
  rw [hnl] at HREH hl ⊢
  obtain ⟨n, hn⟩ : ∃ n, S.length = n := ⟨_, rfl⟩
  have HNS : Hid (S.length = n) := hn
  have hn300 : n ≤ 300 := by rw [← hn, ← hS, ents_len, hnl]; exact hl
  have HEN : Hid (EnOk S) := by show EnOk _; rw [← hS]; exact hd.en
  have HRI : Hid (Rise S) := by show Rise _; rw [← hS]; exact hd.rise
  clear h hd HRE hS hnl hn
  go_enter Tryd.func20, Tryd.ntmps20
  go_upto_region 3 with (go_at_call 29; refine HREH.out.mono ?_; rintro e w1 ⟨v4, rfl, hr4, hb1⟩; have HR4 : Hid (RR w1.heap.size w1 v4 S) := hr4; have HB1 : Hid _ := hb1; clear hr4 hb1)
  obtain ⟨a4, c4, hv4⟩ := HR4.out.form
  rw [HNS.out] at hv4
  subst hv4
  obtain ⟨E, hE⟩ : ∃ E, E = w1.heap.size := ⟨_, rfl⟩
  rw [← hE] at HR4
  have HE : Hid (E = w1.heap.size) := hE
  clear hE
  go_wp2
  go_loopg [3, 5, 6, 7, 8] n (fun gm s3 s5 _ _ _ wr => ∃ (i : Nat) (Ds : List (List En)), s5 = .int .i64 i ∧ i ≤ n ∧ n - i ≤ gm ∧ Hid (AllOwn E E wr s3 Ds) ∧ Hid (RDone S Ds i ∧ Ds.length ≤ 100 * i) ∧ Hid (Below w1.heap.size w1 wr))
  case atStart => exact ⟨0, [], rfl, Nat.zero_le _, by omega, AllOwn.nil _ _ _, ⟨⟨List.nodup_nil, (fun R h => by cases h), (fun j e hj => by omega)⟩, by simp⟩, Below.refl _ _⟩
  case round =>
    obtain ⟨i, Ds, rfl, hi, hgm, HA, HDO, HBr⟩ := hrel
    by_cases hlt : i < n
    · have hltz : (i : Int) < (n : Int) := by omega
      obtain ⟨x, hx⟩ : ∃ x, S[i]? = some x := ⟨S[i]'(by have := HNS.out; omega), List.getElem?_eq_getElem _⟩
      obtain ⟨g4, o4, rfl, hg4, hc4⟩ := HR4.out.at (by omega)
      obtain ⟨u, ⟨c0, c1, hr⟩, hck⟩ := hc4 i x hx
      obtain ⟨xd, xc, hu, _⟩ := id hr
      obtain ⟨xs, hxs⟩ : ∃ xs, x.1 = xs := ⟨_, rfl⟩
      obtain ⟨nx, hnx⟩ : ∃ nx, xs.length = nx := ⟨_, rfl⟩
      rw [hxs, hnx] at hu
      subst hu
      rw [hxs] at hr
      have hxm : (xs, x.2) ∈ S := by rw [← hxs]; exact List.mem_of_getElem? hx
      have hnx24 : nx ≤ 24 := by rw [← hnx]; exact HEN.out.ln _ hxm
      have HNX : Hid (xs.length = nx) := hnx
      have HXR : Hid (RunesAt E w1 (.slice xd nx xc) xs) := hr
      have HC0 : Hid (w1.cell? ⟨g4, o4 + i * 2, none⟩ = some (.slice xd nx xc)) := c0
      have HG4 : Hid (g4 < w1.heap.size) := hg4
      have HXI : Hid (S[i]? = some x ∧ x.1 = xs) := ⟨hx, hxs⟩
      have HXM : Hid ((xs, x.2) ∈ S) := hxm
      have HRS : Hid (RR w1.heap.size w1 (.slice (some ⟨g4, o4, none⟩) n c4) S) := by rw [← HE.out]; exact HR4.out
      have c0r : wr.cell? ⟨g4, o4 + i * 2, none⟩ = some (.slice xd nx xc) := (HBr.out.cell (p := ⟨g4, o4 + i * 2, none⟩) hg4).trans c0
      have HU0 : Hid (Und E wr (.slice (some ⟨g4, o4, none⟩) n c4) (behind (xs.take 0) S)) := by
        show Und _ _ _ _
        rw [List.take_zero]
        refine ⟨.inl (RRb.belowE (w := w1) ?_ (by rw [HE.out]; exact HBr.out))⟩
        obtain ⟨a, b, e, hc⟩ := HR4.out
        refine ⟨a, b, e, fun h0 => ?_⟩
        obtain ⟨g, off, h1, h2, h3⟩ := hc h0
        exact ⟨g, off, h1, by rw [HE.out]; exact h2, h3⟩
      clear hc4 hx hr hck c0 c1 hxs hnx hxm
      go_wp2
      go_loopg [3, 6, 7, 8] (nx + 1) (fun gm2 s3 s6 s7 _ wq => ∃ (k : Nat) (Ds : List (List En)), s7 = .int .i64 k ∧ k ≤ nx + 1 ∧ nx + 1 - k ≤ gm2 ∧ Hid (AllOwn E E wq s3 Ds) ∧ Hid (RDone S Ds i ∧ Ds.length ≤ 100 * i + k ∧ ∀ j, j < k → level (behind (xs.take j) S) ∈ Ds) ∧ Hid (Below w1.heap.size w1 wq) ∧ Hid (Und E wq s6 (behind (xs.take k) S)))
      case atStart => exact ⟨0, Ds, rfl, by omega, by omega, HA, ⟨HDO.out.1, by have := HDO.out.2; omega, fun j hj => by omega⟩, HBr, HU0⟩
      case round =>
        clear c0r HA HDO HBr HU0
        obtain ⟨k, Ds, rfl, hk, hgm2, HA, HDO, HBr, HU⟩ := hrel
        have HEr : Hid (E ≤ wr.heap.size) := by show _ ≤ _; rw [HE.out]; exact HBr.out.size
        have c0r : wr.cell? ⟨g4, o4 + i * 2, none⟩ = some (.slice xd nx xc) := (HBr.out.cell (p := ⟨g4, o4 + i * 2, none⟩) HG4.out).trans HC0.out
        by_cases hlek : k ≤ nx
        · have hlekz : (k : Int) ≤ (nx : Int) := by omega
          obtain ⟨hsub, hmem⟩ := behind_word xs x.2 S HRI.out HXM.out k (by have := HNX.out; omega)
          have HUS : Hid ((behind (xs.take k) S).length ≤ 1048576 ∧ SmallR (level (behind (xs.take k) S))) := by
            have h1 := behind_len (xs.take k) S
            rw [HNS.out] at h1
            refine ⟨by omega, by simp only [level, shift, List.length_map]; omega, fun e he => ?_⟩
            obtain ⟨y, hy, rfl⟩ := List.mem_map.1 he
            obtain ⟨z, hz, _, h3⟩ := behind_mem _ _ _ hy
            have := HEN.out.ln z hz
            simp only
            omega
          have hUne : 0 < (behind (xs.take k) S).length := List.length_pos_of_mem hmem
          have hLV := refLevel_any E wr u6 (behind (xs.take k) S) (HU.out.row HEr.out) hUne HUS.out.1 HEr.out (fun e he => by
            obtain ⟨z, hz, h2, _⟩ := behind_mem _ _ _ he
            have := HEN.out.wt z hz
            omega)
          have HLV : Hid (Calls Tryd.prog 30 #[u6] wr fun e w' => ∃ v', e = .returned v' ∧ RMade E wr.heap.size w' v' (level (behind (xs.take k) S)) ∧ Below wr.heap.size wr w') := hLV
          have HSUB : Hid (Sub S (level (behind (xs.take k) S))) := hsub
          clear hsub hmem hUne hLV
          go_upto_region 11 with (go_at_call 30; refine HLV.out.mono ?_; rintro e w3 ⟨v8, rfl, hM3, hb3⟩; have HM3 : Hid _ := hM3; have HB3 : Hid _ := hb3; clear hM3 hb3)
          have HE3 : Hid (E ≤ w3.heap.size) := Nat.le_trans HEr.out HB3.out.size
          have HA3 : Hid (AllOwn E E w3 u3 Ds) := HA.out.below HEr.out HB3.out
          obtain ⟨L, hL⟩ : ∃ L, level (behind (xs.take k) S) = L := ⟨_, rfl⟩
          rw [hL] at HM3 HSUB HUS
          have HLE : Hid (level (behind (xs.take k) S) = L) := hL
          have hIN := refIn_any E E E w3 u3 v8 Ds L HA3.out HM3.out.row HUS.out.2 (fun R hR => by
            have hsr := HDO.out.1.sub R hR
            obtain ⟨ys, m, hm, j, hj, rfl⟩ := sub_word hsr HRI.out (fun e => by have := HXM.out; rw [e] at this; cases this)
            refine ⟨by have := behind_len (ys.take j) S; rw [HNS.out] at this; simp only [level, shift, List.length_map]; omega, fun e he => ?_⟩
            obtain ⟨y, hy, rfl⟩ := List.mem_map.1 he
            obtain ⟨z, hz, _, h3⟩ := behind_mem _ _ _ hy
            have := HEN.out.ln z hz
            simp only
            omega) (by have := HDO.out.2.1; omega)
          have HIN : Hid (Calls Tryd.prog 31 #[u3, v8] w3 fun e w' => e = .returned (.int .i64 (inIx Ds L)) ∧ ∃ q, w' = w3.drewN q) := hIN
          clear hIN hL
          by_cases hLm : L ∈ Ds
          · have hix : 0 ≤ inIx Ds L := by rw [inIx, if_pos hLm]; omega
            have hixz : ¬ inIx Ds L < 0 := by omega
            have HD2 : Hid (RDone S Ds i ∧ Ds.length ≤ 100 * i + (k + 1) ∧ ∀ j, j < k + 1 → level (behind (xs.take j) S) ∈ Ds) := ⟨HDO.out.1, by have := HDO.out.2.1; omega, fun j hj => by
              by_cases e : j = k
              · rw [e, HLE.out]; exact hLm
              · exact HDO.out.2.2 j (by omega)⟩
            clear hLm hix
            generalize inIx Ds L = ix at *
            obtain ⟨Ds2, hDs2⟩ : ∃ Ds2, Ds2 = Ds := ⟨_, rfl⟩
            go_upto_region 13 with (go_at_call 31; refine HIN.out.mono ?_; rintro e W ⟨rfl, q, hq⟩; have HQ : Hid _ := hq; clear hq)
            have hbq : Below w3.heap.size w3 W := by rw [HQ.out]; exact belowN (Below.refl _ w3) q
            have HBW : Hid (Below w1.heap.size w1 W) := (HBr.out.trans (HB3.out.mono HBr.out.size)).trans (hbq.mono (Nat.le_trans HBr.out.size HB3.out.size))
            have HEW : Hid (E ≤ W.heap.size) := Nat.le_trans HE3.out hbq.size
            have HALL : Hid (AllOwn E E W u3 Ds2) := by rw [hDs2]; exact HA3.out.below HE3.out hbq
            have HUW : Hid (Und E W u6 (behind (xs.take k) S)) := (HU.out.below HEr.out HB3.out).below HE3.out hbq
            rw [← hDs2] at HD2
            clear hbq hDs2 c0r
            have t0 : W.cell? ⟨g4, o4 + i * 2, none⟩ = some (.slice xd nx xc) := (HBW.out.cell (p := ⟨g4, o4 + i * 2, none⟩) HG4.out).trans HC0.out
            by_cases hkx : k < nx
            · have hkxz : (k : Int) < (nx : Int) := by omega
              obtain ⟨c, hc⟩ : ∃ c, xs[k]? = some c := ⟨xs[k]'(by have := HNX.out; omega), List.getElem?_eq_getElem _⟩
              obtain ⟨gx, ox, exd, hzx, hxc⟩ := HXR.out.get (k := k) (by have := HNX.out; omega)
              subst exd
              have hcx : (xs.drop k).headD 0 = c := by rw [List.headD_eq_head?_getD, List.head?_drop, hc]; rfl
              rw [hcx] at hxc
              have t1 : W.cell? ⟨gx, ox + k, none⟩ = some (.int .i32 c) := (HBW.out.cell (p := ⟨gx, ox + k, none⟩) (lt_of_cell hxc)).trans hxc
              have HEU : Hid (behind (xs.take (k + 1)) S = after c (behind (xs.take k) S)) := behind_step hc S
              have HUND := refUnder_any E W u6 (behind (xs.take k) S) c (HUW.out.row HEW.out) HUS.out.1 HEW.out
              have HUNDH : Hid (Calls Tryd.prog 32 #[u6, .int .i32 c] W fun e w' => ∃ v', e = .returned v' ∧ RMade E W.heap.size w' v' (after c (behind (xs.take k) S)) ∧ Below W.heap.size W w') := HUND
              clear HUND hzx hxc hcx hc
              go_wp2_with (go_at_call 32; refine HUNDH.out.mono ?_; rintro e w9 ⟨v9, rfl, hM9, hb9⟩; have HM9 : Hid _ := hM9; have HB9 : Hid _ := hb9; clear hM9 hb9)
              have HU9 : Hid (Und E w9 v9 (behind (xs.take (k + 1)) S)) := by show Und _ _ _ _; rw [HEU.out]; exact ⟨.inr (HM9.out.mono HEW.out)⟩
              have HA9 : Hid (AllOwn E E w9 u3 Ds2) := HALL.out.below HEW.out HB9.out
              have HB9w : Hid (Below w1.heap.size w1 w9) := HBW.out.trans (HB9.out.mono HBW.out.size)
              go_roundg (nx + 1 - (k + 1))
              case measure => omega
              case rel => exact ⟨k + 1, Ds2, by go_num, by omega, Nat.le_refl _, HA9, HD2, HB9w, HU9⟩
            · have hkxz : ¬ (k : Int) < (nx : Int) := by omega
              have HU9 : Hid (Und E W u6 (behind (xs.take (k + 1)) S)) := by
                show Und _ _ _ _
                have : xs.take (k + 1) = xs.take k := by rw [List.take_of_length_le (by have := HNX.out; omega), List.take_of_length_le (by have := HNX.out; omega)]
                rw [this]; exact HUW.out
              go_wp2
              go_roundg (nx + 1 - (k + 1))
              case measure => omega
              case rel => exact ⟨k + 1, Ds2, by go_num, by omega, Nat.le_refl _, HALL, HD2, HBW, HU9⟩
          · have hix : inIx Ds L = -1 := by rw [inIx, if_neg hLm]
            rw [hix] at HIN
            obtain ⟨Ds2, hDs2⟩ : ∃ Ds2, Ds2 = Ds ++ [L] := ⟨_, rfl⟩
            have HD2 : Hid (RDone S Ds2 i ∧ Ds2.length ≤ 100 * i + (k + 1) ∧ ∀ j, j < k + 1 → level (behind (xs.take j) S) ∈ Ds2) := by
              rw [hDs2]
              have h1 := HDO.out
              refine ⟨⟨nodup_snoc h1.1.nd hLm, fun R hR => ?_, fun j e hj he m hm => List.mem_append_left _ (h1.1.all j e hj he m hm)⟩, by have := h1.2.1; rw [List.length_append]; simp only [List.length_singleton]; omega, fun j hj => ?_⟩
              · rcases List.mem_append.1 hR with hR | hR
                · exact h1.1.sub R hR
                · rw [List.mem_singleton.1 hR]; exact HSUB.out
              · by_cases e : j = k
                · rw [e, HLE.out]; simp
                · exact List.mem_append_left _ (h1.2.2 j (by omega))
            clear hLm hix
            go_upto_region 12 with (go_at_call 31; refine HIN.out.mono ?_; rintro e w5 ⟨rfl, q, hq⟩; have HQ : Hid _ := hq; clear hq)
            have hbq : Below w3.heap.size w3 w5 := by rw [HQ.out]; exact belowN (Below.refl _ w3) q
            have HE5 : Hid (E ≤ w5.heap.size) := Nat.le_trans HE3.out hbq.size
            obtain ⟨vd, vc, hv8⟩ := HM3.out.row.form
            obtain ⟨vn, hvn⟩ : ∃ vn, L.length = vn := ⟨_, rfl⟩
            rw [hvn] at hv8
            subst hv8
            have HM5 : Hid (RMade E E w5 (.slice vd vn vc) L) := (HM3.out.below HE3.out hbq).mono HEr.out
            obtain ⟨xss, ho, hxl, hxe⟩ := (HA3.out.below HE3.out hbq).ex
            have HO5 : Hid (GOwn 65 1 E w5 u3 xss) := ho
            have HXE : Hid (xss.length = Ds.length ∧ ∀ (i : Nat) (R : List En), Ds[i]? = some R → ∃ u, xss[i]? = some [u] ∧ RMade E E w5 u R) := ⟨hxl, hxe⟩
            have HB5 : Hid (Below w1.heap.size w1 w5) := (HBr.out.trans (HB3.out.mono HBr.out.size)).trans (hbq.mono (Nat.le_trans HBr.out.size HB3.out.size))
            have HU5 : Hid (Und E w5 u6 (behind (xs.take k) S)) := (HU.out.below HEr.out HB3.out).below HE3.out hbq
            have hdl : xss.length < 1099511627776 := by have := HDO.out.2.1; omega
            clear ho hxl hxe hbq hvn c0r
            go_upto_region 13 with (at_builtin; refine append_g rtyRR (by rfl) _ _ [.slice vd vn vc] _ rfl E _ _ _ xss rfl HO5.out rfl rfl ⟨rfl, by simp [Value.oneCell']⟩ hdl HE5.out ?_; intro UOUT W hoW hbW hgW; have HOW : Hid (GOwn 65 1 E W UOUT (xss ++ [[.slice vd vn vc]])) := hoW; have HBEW : Hid _ := hbW; have HGW : Hid _ := hgW; clear hoW hbW hgW)
            have HEW : Hid (E ≤ W.heap.size) := Nat.le_trans HE5.out HBEW.out.size
            have hA5 : Below w5.heap.size w5 (w5.alloc (.cells [.slice vd vn vc].toArray 65)) := (Below.refl _ w5).alloc (Nat.le_refl _) _
            have hEA : Below E (w5.alloc (.cells [.slice vd vn vc].toArray 65)) W := by
              refine (Below.refl E _).grown HGW.out (by simp; have := HE5.out; omega) (fun j hj => (World.ownsRow.lt (HO5.out.below hA5).2 j hj).1)
            have hkp : ∀ {u : Value} {R : List En}, RMade E E w5 u R → RMade E E W u R := fun h => (h.below HE5.out hA5).kept (HO5.out.below hA5) (by decide) HGW.out hEA
            have HALL : Hid (AllOwn E E W UOUT Ds2) := by
              show AllOwn _ _ _ _ _
              rw [hDs2]
              refine ⟨_, HOW.out, by simp [HXE.out.1], fun j R hj => ?_⟩
              by_cases hjl : j < Ds.length
              · rw [List.getElem?_append_left hjl] at hj
                obtain ⟨u, h1, h2⟩ := HXE.out.2 j R hj
                exact ⟨u, by rw [List.getElem?_append_left (by have := HXE.out.1; omega)]; exact h1, hkp h2⟩
              · rw [List.getElem?_append_right (by omega)] at hj
                cases hj0 : j - Ds.length with
                | zero =>
                  rw [hj0] at hj
                  simp only [List.getElem?_cons_zero, Option.some.injEq] at hj
                  subst hj
                  exact ⟨_, by rw [List.getElem?_append_right (by have := HXE.out.1; omega), HXE.out.1, hj0]; rfl, hkp HM5.out⟩
                | succ m => rw [hj0] at hj; simp at hj
            have hbW1 : Below w1.heap.size w1 W := HB5.out.trans (by rw [← HE.out]; exact HBEW.out)
            have HBW : Hid (Below w1.heap.size w1 W) := hbW1
            have HUW : Hid (Und E W u6 (behind (xs.take k) S)) := (HU5.out.below HE5.out hA5).kept (HO5.out.below hA5) (by decide) HGW.out hEA
            clear hA5 hEA hkp hbW1 hDs2 hdl
            have t0 : W.cell? ⟨g4, o4 + i * 2, none⟩ = some (.slice xd nx xc) := (HBW.out.cell (p := ⟨g4, o4 + i * 2, none⟩) HG4.out).trans HC0.out
            by_cases hkx : k < nx
            · have hkxz : (k : Int) < (nx : Int) := by omega
              obtain ⟨c, hc⟩ : ∃ c, xs[k]? = some c := ⟨xs[k]'(by have := HNX.out; omega), List.getElem?_eq_getElem _⟩
              obtain ⟨gx, ox, exd, hzx, hxc⟩ := HXR.out.get (k := k) (by have := HNX.out; omega)
              subst exd
              have hcx : (xs.drop k).headD 0 = c := by rw [List.headD_eq_head?_getD, List.head?_drop, hc]; rfl
              rw [hcx] at hxc
              have t1 : W.cell? ⟨gx, ox + k, none⟩ = some (.int .i32 c) := (HBW.out.cell (p := ⟨gx, ox + k, none⟩) (lt_of_cell hxc)).trans hxc
              have HEU : Hid (behind (xs.take (k + 1)) S = after c (behind (xs.take k) S)) := behind_step hc S
              have HUND := refUnder_any E W u6 (behind (xs.take k) S) c (HUW.out.row HEW.out) HUS.out.1 HEW.out
              have HUNDH : Hid (Calls Tryd.prog 32 #[u6, .int .i32 c] W fun e w' => ∃ v', e = .returned v' ∧ RMade E W.heap.size w' v' (after c (behind (xs.take k) S)) ∧ Below W.heap.size W w') := HUND
              clear HUND hzx hxc hcx hc
              go_wp2_with (go_at_call 32; refine HUNDH.out.mono ?_; rintro e w9 ⟨v9, rfl, hM9, hb9⟩; have HM9 : Hid _ := hM9; have HB9 : Hid _ := hb9; clear hM9 hb9)
              have HU9 : Hid (Und E w9 v9 (behind (xs.take (k + 1)) S)) := by show Und _ _ _ _; rw [HEU.out]; exact ⟨.inr (HM9.out.mono HEW.out)⟩
              have HA9 : Hid (AllOwn E E w9 UOUT Ds2) := HALL.out.below HEW.out HB9.out
              have HB9w : Hid (Below w1.heap.size w1 w9) := HBW.out.trans (HB9.out.mono HBW.out.size)
              go_roundg (nx + 1 - (k + 1))
              case measure => omega
              case rel => exact ⟨k + 1, Ds2, by go_num, by omega, Nat.le_refl _, HA9, HD2, HB9w, HU9⟩
            · have hkxz : ¬ (k : Int) < (nx : Int) := by omega
              have HU9 : Hid (Und E W u6 (behind (xs.take (k + 1)) S)) := by
                show Und _ _ _ _
                have : xs.take (k + 1) = xs.take k := by rw [List.take_of_length_le (by have := HNX.out; omega), List.take_of_length_le (by have := HNX.out; omega)]
                rw [this]; exact HUW.out
              go_wp2
              go_roundg (nx + 1 - (k + 1))
              case measure => omega
              case rel => exact ⟨k + 1, Ds2, by go_num, by omega, Nat.le_refl _, HALL, HD2, HBW, HU9⟩
        · have hlekz : ¬ (k : Int) ≤ (nx : Int) := by omega
          have HD2 : Hid (RDone S Ds (i + 1) ∧ Ds.length ≤ 100 * (i + 1)) := by
            have h1 := HDO.out
            refine ⟨⟨h1.1.nd, h1.1.sub, fun j e hj he m hm => ?_⟩, by have := h1.2.1; omega⟩
            by_cases hji : j = i
            · subst hji
              rw [HXI.out.1] at he
              have e2 : e = x := (Option.some.inj he).symm
              rw [e2, HXI.out.2] at hm ⊢
              exact h1.2.2 m (by have := HNX.out; omega)
            · exact h1.1.all j e (by omega) he m hm
          go_wp2
          go_roundg (n - (i + 1))
          case measure => omega
          case rel => exact ⟨i + 1, Ds, by go_num, by omega, Nat.le_refl _, HA, HD2, HBr⟩
    · have hltz : ¬ (i : Int) < (n : Int) := by omega
      obtain ⟨oa, oc, ho⟩ := HA.out.shape
      subst ho
      have HFIN : Hid (Ds.Nodup ∧ (∀ R ∈ Ds, Sub S R) ∧ (∀ R, S ≠ [] → Sub S R → R ∈ Ds) ∧ Ds.length ≤ 100 * S.length ∧ Below w.heap.size w wr) := by
        refine ⟨HDO.out.1.nd, HDO.out.1.sub, fun R hne hs => ?_, by have := HDO.out.2; have := HNS.out; omega, HB1.out.trans (HBr.out.mono HB1.out.size)⟩
        obtain ⟨ys, m, hm, k, hk, rfl⟩ := sub_word hs HRI.out hne
        obtain ⟨j, hj⟩ := List.mem_iff_getElem?.1 hm
        exact HDO.out.1.all j _ (by have := (List.getElem?_eq_some_iff.1 hj).1; have := HNS.out; omega) hj k hk
      go_wp2
      go_ret
      exact ⟨oa, oc, Ds, rfl, HFIN.out⟩
end Go.Proofs.YtfekpkjcociidaaDoor
