/- Texts that were written apart, joined. -/
import Derived.Test.YthjlihhknaelaaaDoorJ18
import Derived.Test.YthjlihhknaelaaaDoorJ6
import Derived.Test.YthjlihhknaelaaaDoorJ17
import Derived.Test.YthjlihhknaelaaaDoorJ7
/- The reference's In, Rests, Rises. -/
namespace Go.Proofs.YthjlihhknaelaaaDoor
open Go.RowKit Nums Fm
set_option maxRecDepth 100000

/-- Rows of rests, in a row that the call has made. -/
structure AllOwn (E B : Nat) (w : World) (v : Value) (Ds : List (List En)) : Prop where
  ex : ∃ xss : List (List Value), GOwn 72 1 B w v xss ∧ xss.length = Ds.length ∧ ∀ (i : Nat) (R : List En), Ds[i]? = some R → ∃ u, xss[i]? = some [u] ∧ RMade E B w u R
theorem AllOwn.nil (E B : Nat) (w : World) : AllOwn E B w (.slice none 0 0) [] := ⟨[], GOwn.nil _ _ _ _, rfl, fun i R hi => by simp at hi⟩
theorem AllOwn.below {E B : Nat} {w w' : World} {v : Value} {Ds : List (List En)} (h : AllOwn E B w v Ds) (hE : E ≤ w.heap.size) (hb : Below w.heap.size w w') : AllOwn E B w' v Ds := by
  obtain ⟨xss, ho, hl, hx⟩ := h
  refine ⟨xss, ho.below hb, hl, fun i R hi => ?_⟩
  obtain ⟨u, h1, h2⟩ := hx i R hi
  exact ⟨u, h1, h2.below hE hb⟩
theorem AllOwn.shape {E B : Nat} {w : World} {v : Value} {Ds : List (List En)} (h : AllOwn E B w v Ds) : ∃ ad cap, v = .slice ad Ds.length cap := by
  obtain ⟨xss, ho, hl, _⟩ := h
  obtain ⟨ad, cap, e, _⟩ := ho.shape
  exact ⟨ad, cap, by rw [e, hl]⟩
theorem AllOwn.at {E B : Nat} {w : World} {ad : Option Addr} {n cap : Nat} {Ds : List (List En)} (h : AllOwn E B w (.slice ad n cap) Ds) (h0 : 0 < n) : ∃ g, ad = some ⟨g, 0, none⟩ ∧ g < w.heap.size ∧ ∀ (i : Nat) (R : List En), Ds[i]? = some R → ∃ u, w.cell? ⟨g, i, none⟩ = some u ∧ RMade E B w u R := by
  obtain ⟨xss, ho, hl, hx⟩ := h
  obtain ⟨ad', cap', e, _⟩ := ho.shape
  simp only [Value.slice.injEq] at e
  obtain ⟨g, cap2, e2, hg, _, _, hc⟩ := ho.cell (by omega)
  simp only [Value.slice.injEq] at e2
  refine ⟨g, e2.1, hg, fun i R hi => ?_⟩
  obtain ⟨u, h1, h2⟩ := hx i R hi
  refine ⟨u, ?_, h2⟩
  have := hc i 0 _ u h1 rfl
  rwa [Nat.mul_one, Nat.add_zero] at this
theorem rtyRR : RTy 72 74 1 24 := ⟨by kernel_rfl, ⟨.slice none 0 0, by kernel_rfl, rfl⟩, by decide, by decide⟩
/-- Rests that are small. -/
def SmallR (R : List En) : Prop := R.length ≤ 1048576 ∧ ∀ e ∈ R, e.1.length ≤ 1048576
def inIx (Ds : List (List En)) (S : List En) : Int := if S ∈ Ds then (Ds.idxOf S : Int) else -1
theorem in_found {Ds : List (List En)} {S : List En} {k : Nat} (h : Ds[k]? = some S) (hn : S ∉ Ds.take k) : inIx Ds S = k := by
  have hm := List.mem_of_getElem? h
  rw [inIx, if_pos hm]
  have hk := (List.getElem?_eq_some_iff.1 h).1
  have e : Ds = Ds.take k ++ S :: Ds.drop (k + 1) := by
    have := List.drop_eq_getElem_cons hk
    rw [(List.getElem?_eq_some_iff.1 h).2] at this
    rw [← this, List.take_append_drop]
  have h2 : Ds.idxOf S = k := by
    rw [e, List.idxOf_append, if_neg hn, List.idxOf_cons_self, List.length_take]
    omega
  rw [h2]
set_option maxHeartbeats 2000000 in
theorem refIn_any (E B E' : Nat) (w : World) (v vl : Value) (Ds : List (List En)) (S : List En) (h : AllOwn E B w v Ds) (hS : RR E' w vl S) (hsm : SmallR S) (hds : ∀ R ∈ Ds, SmallR R) (hdl : Ds.length ≤ 1048576) :
    Calls Tryd.prog 56 #[v, vl] w fun e w' => e = .returned (.int .i64 (inIx Ds S)) ∧ ∃ q, w' = w.drewN q := by
  obtain ⟨ad, cap, rfl⟩ := h.shape
  obtain ⟨la, lc, rfl⟩ := hS.form
  obtain ⟨n, hn⟩ : ∃ n, Ds.length = n := ⟨_, rfl⟩
  obtain ⟨ln, hln⟩ : ∃ ln, S.length = ln := ⟨_, rfl⟩
  have HN : Hid (Ds.length = n) := hn
  rw [hn] at h hdl ⊢
  rw [hln] at hS ⊢
  have HA : Hid (AllOwn E B w (.slice ad n cap) Ds) := h
  have HS : Hid (RR E' w (.slice la ln lc) S) := hS
  have HSM : Hid (SmallR S ∧ ∀ R ∈ Ds, SmallR R) := ⟨hsm, hds⟩
  obtain ⟨F, hF⟩ : ∃ F, inIx Ds S = F := ⟨_, rfl⟩
  have HF : Hid (inIx Ds S = F) := hF
  rw [hF]
  clear h hS hn hln hF hsm hds
  go_enter Tryd.func56, Tryd.ntmps56
  go_wp2
  go_loopg [5, 6] n (fun g s5 _ wr => ∃ (k q : Nat), s5 = .int .i64 k ∧ k ≤ n ∧ n - k ≤ g ∧ Hid (wr = w.drewN q) ∧ Hid (S ∉ Ds.take k))
  case atStart => exact ⟨0, 0, rfl, Nat.zero_le _, by omega, rfl, fun h => by simp at h⟩
  case round =>
    obtain ⟨k, q, rfl, hk, hg, HW, HK⟩ := hrel
    by_cases hlt : k < n
    · have hltz : (k : Int) < (n : Int) := by omega
      obtain ⟨R, hR⟩ : ∃ R, Ds[k]? = some R := ⟨Ds[k]'(by have := HN.out; omega), List.getElem?_eq_getElem _⟩
      obtain ⟨ga, rfl, hga, hx⟩ := HA.out.at (by omega)
      obtain ⟨u, hu, hM⟩ := hx k R hR
      have c0 : wr.cell? ⟨ga, k, none⟩ = some u := by rw [HW.out]; exact hu
      obtain ⟨ud, uc, rfl⟩ := hM.row.form
      obtain ⟨un, hun⟩ : ∃ un, R.length = un := ⟨_, rfl⟩
      have HCALL : Hid (Calls Tryd.prog 69 #[.slice ud R.length uc, .slice la ln lc] wr fun e w' => e = .returned (.bool (decide (R = S))) ∧ ∃ q, w' = w.drewN q) := by
        show Calls _ _ _ _ _
        rw [HW.out]
        have r1 : RR E (w.drewN q) (.slice ud R.length uc) R := by
          obtain ⟨ad, cap, e, hc⟩ := hM.row
          refine ⟨ad, cap, e, fun h0 => ?_⟩
          obtain ⟨g, off, h1, h2, h3⟩ := hc h0
          exact ⟨g, off, h1, h2, fun i e hi => by obtain ⟨u, ⟨a, b, c⟩, d⟩ := h3 i e hi; exact ⟨u, ⟨a, b, c.below (belowN (Below.refl E w) q)⟩, d⟩⟩
        have r2 : RR E' (w.drewN q) (.slice la ln lc) S := by
          obtain ⟨ad, cap, e, hc⟩ := HS.out
          refine ⟨ad, cap, e, fun h0 => ?_⟩
          obtain ⟨g, off, h1, h2, h3⟩ := hc h0
          exact ⟨g, off, h1, h2, fun i e hi => by obtain ⟨u, ⟨a, b, c⟩, d⟩ := h3 i e hi; exact ⟨u, ⟨a, b, c.below (belowN (Below.refl E' w) q)⟩, d⟩⟩
        have hsr := HSM.out.2 R (List.mem_of_getElem? hR)
        refine (refsame_any E E' (w.drewN q) _ _ R S r1 r2 hsr.1 HSM.out.1.1 hsr.2 HSM.out.1.2).mono ?_
        rintro e w' ⟨h1, m, h2⟩
        exact ⟨h1, _, by rw [h2]; exact World.drewN_drewN ..⟩
      have HYES : Hid (R = S → F = (k : Int)) := fun e => by rw [← HF.out]; exact in_found (by rw [hR, e]) HK.out
      have HNO : Hid (R ≠ S → S ∉ Ds.take (k + 1)) := fun e hm => by
        rw [List.take_add_one, hR] at hm
        rcases List.mem_append.1 hm with hm | hm
        · exact HK.out hm
        · simp at hm; exact e hm.symm
      rw [hun] at c0 HCALL
      clear hx hR hu hM hun
      by_cases hRS : R = S
      · have HE : Hid (F = (k : Int)) := HYES.out hRS
        rw [decide_eq_true hRS] at HCALL
        clear hRS
        go_wp2_with (go_at_call 69; refine HCALL.out.mono ?_; rintro e w3 ⟨rfl, hw3⟩; have HW3 : Hid _ := hw3; clear hw3)
        go_ret
        exact ⟨by rw [HE.out]; rfl, HW3.out⟩
      · have HNO2 : Hid (S ∉ Ds.take (k + 1)) := HNO.out hRS
        rw [decide_eq_false hRS] at HCALL
        clear hRS
        go_wp2_with (go_at_call 69; refine HCALL.out.mono ?_; rintro e w3 ⟨rfl, hw3⟩; have HW3 : Hid _ := hw3; clear hw3)
        go_roundg (n - (k + 1))
        case measure => omega
        case rel =>
          obtain ⟨qq, hqq⟩ := HW3.out
          exact ⟨k + 1, qq, by go_num, by omega, Nat.le_refl _, hqq, HNO2⟩
    · have hltz : ¬ (k : Int) < (n : Int) := by omega
      have HE : Hid (F = -1) := by
        show _ = _
        rw [← HF.out]
        have h := HK.out
        rw [List.take_of_length_le (by have := HN.out; omega)] at h
        rw [inIx, if_neg h]
      go_wp2
      go_ret
      exact ⟨by rw [HE.out]; rfl, q, HW.out⟩
/-- Rests that are being made of words. -/
structure RstsAt (B : Nat) (w : World) (v : Value) (es : List En) : Prop where
  ex : ∃ xss : List (List Value), GOwn 94 2 B w v xss ∧ xss.length = es.length ∧ ∀ (i : Nat) (e : En), es[i]? = some e → ∃ u, xss[i]? = some [u, .int .i64 e.2] ∧ Made B w u e.1
theorem Made.cap {B : Nat} {w : World} {v : Value} {xs : List Int} (h : Made B w v xs) : CapOk v := by
  obtain ⟨_, ⟨e, _⟩ | ⟨g, cap, cur, rfl, _, _, h3, _⟩⟩ := h
  · rw [e]; exact Nat.le_refl _
  · exact h3
theorem RstsAt.row {B : Nat} {w : World} {v : Value} {es : List En} (h : RstsAt B w v es) : RR w.heap.size w v es := by
  obtain ⟨xss, ho, hl, hx⟩ := h
  by_cases h0 : 0 < xss.length
  · obtain ⟨g, cap, rfl, hg, _, _, hcell⟩ := ho.cell h0
    refine ⟨_, cap, by rw [hl], fun _ => ⟨g, 0, rfl, hg, fun i e hi => ?_⟩⟩
    obtain ⟨u, hu, hm⟩ := hx i e hi
    exact ⟨u, ⟨by rw [Nat.zero_add]; exact hcell i 0 _ u hu rfl, by rw [Nat.zero_add]; exact hcell i 1 _ _ hu rfl, hm.runes⟩, hm.cap⟩
  · obtain ⟨ad, cap, rfl, _⟩ := ho.shape
    exact ⟨ad, cap, by rw [hl], fun h => absurd h (by omega)⟩
set_option maxHeartbeats 1000000 in
theorem refRests_any (w : World) (v : Value) (l : List Pr) (h : PRow w v l) (hl : l.length ≤ 4096) (hwd : Wd l) :
    Calls Tryd.prog 39 #[v] w fun e w' => ∃ v', e = .returned v' ∧ RR w'.heap.size w' v' (ents l) ∧ Below w.heap.size w w' := by
  obtain ⟨ad, cap, rfl⟩ := h.form
  have HR : Hid (PRow w (.slice ad l.length cap) l) := h
  obtain ⟨n, hn⟩ : ∃ n, l.length = n := ⟨_, rfl⟩
  have HN : Hid (l.length = n) := hn
  have HS : Hid (Wd l) := hwd
  rw [hn] at HR hl
  clear h hwd
  rw [hn]
  clear hn
  go_enter Tryd.func39, Tryd.ntmps39
  go_wp2
  go_loopg [3, 4, 5, 6] n (fun g s3 s4 _ _ wr => ∃ (k : Nat), s4 = .int .i64 k ∧ k ≤ n ∧ n - k ≤ g ∧ Hid (Below w.heap.size w wr) ∧ Hid (RstsAt w.heap.size wr s3 (ents (l.take k))))
  case atStart => exact ⟨0, rfl, Nat.zero_le _, by omega, Below.refl _ _, ⟨[], GOwn.nil _ _ _ _, rfl, fun i e hi => by simp [ents] at hi⟩⟩
  case round =>
    obtain ⟨k, rfl, hk, hg, HB, HK⟩ := hrel
    by_cases hlt : k < n
    · have hltz : (k : Int) < (n : Int) := by omega
      obtain ⟨x, hx⟩ : ∃ x, l[k]? = some x := ⟨l[k]'(by have := HN.out; omega), List.getElem?_eq_getElem _⟩
      obtain ⟨b, off, rfl, hb, hcell⟩ := (HR.out.below HB.out).at (by omega)
      obtain ⟨c0, c1⟩ := hcell k x hx
      obtain ⟨xs, hxs, hx24, hx96⟩ := HS.out x (List.mem_of_getElem? hx)
      have HE : Hid (ents (l.take (k + 1)) = ents (l.take k) ++ [(xs, x.2)]) := by show _ = _; rw [ents_snoc hx, entOf, hxs]; rfl
      have HRN : Hid (Calls Tryd.prog 54 #[.string x.1] wr fun e w' => ∃ v, Below wr.heap.size wr w' ∧ e = .returned (.tuple #[v, .bool true]) ∧ Made wr.heap.size w' v xs) := by
        refine (RefRunes_any x.1 wr (by omega) (room_of_runes hxs (by omega))).mono ?_
        rintro e w' ⟨v, hb, ⟨h1, _⟩ | ⟨ys, h1, h2, h3⟩⟩
        · rw [hxs] at h1; cases h1
        · rw [hxs] at h1; cases h1; exact ⟨v, hb, h2, h3⟩
      have HC1 : Hid (wr.cell? ⟨b, off + k * 2 + 1, none⟩ = some (.int .i64 x.2) ∧ b < wr.heap.size) := ⟨c1, hb⟩
      clear hcell hx hxs
      go_upto_region 6 with (go_at_call 54; refine HRN.out.mono ?_; rintro e w2 ⟨v6, hb2, rfl, hm6⟩)
      obtain ⟨xss, ho, hxl, hxe⟩ := HK.out.ex
      have c21 : w2.cell? ⟨b, off + k * 2 + 1, none⟩ = some (.int .i64 x.2) := (hb2.cell (p := ⟨b, off + k * 2 + 1, none⟩) HC1.out.2).trans HC1.out.1
      have ho2 : GOwn 94 2 w.heap.size w2 u3 xss := ho.below hb2
      have hsz : w.heap.size ≤ wr.heap.size := HB.out.size
      have HO2 : Hid (GOwn 94 2 w.heap.size w2 u3 xss) := ho2
      have HM : Hid (∀ (i : Nat) (e : En), (ents (l.take k))[i]? = some e → ∃ u, xss[i]? = some [u, .int .i64 e.2] ∧ Made w.heap.size w2 u e.1) := fun i e hi => by
        obtain ⟨u, h1, h2⟩ := hxe i e hi
        exact ⟨u, h1, h2.below hb2⟩
      have HM6 : Hid (Made w.heap.size w2 v6 xs) := by
        obtain ⟨hl, hn | ⟨g, cap, cur, rfl, h1, h2⟩⟩ := hm6
        · exact ⟨hl, .inl hn⟩
        · exact ⟨hl, .inr ⟨g, cap, cur, rfl, by omega, h2⟩⟩
      obtain ⟨ra, rc, rfl⟩ := hm6.shape
      have HB2 : Hid (Below w.heap.size w w2) := HB.out.trans (hb2.mono HB.out.size)
      have HL : Hid (xss.length = k) := by show _ = _; rw [hxl, ents_len, List.length_take]; have := HN.out; omega
      clear ho ho2 hxe hxl hm6 hb2 c0 c1
      go_wp2_with (at_builtin; refine append_g rtyR (by rfl) _ _ [.slice ra xs.length rc, .int .i64 x.2] _ rfl w.heap.size _ _ _ _ rfl HO2.out rfl rfl ⟨rfl, by simp [Value.oneCell']⟩ (by have := HL.out; omega) HB2.out.size ?_)
      intro v7 w7 ho7 hb7 hg7
      have HB7 : Hid (Below w.heap.size w w7) := HB2.out.trans hb7
      have HK7 : Hid (RstsAt w.heap.size w7 v7 (ents (l.take (k + 1)))) := by
        show RstsAt _ _ _ _
        have hA2 : Below w2.heap.size w2 (w2.alloc (.cells [.slice ra xs.length rc, .int .i64 x.2].toArray 94)) := (Below.refl _ w2).alloc (Nat.le_refl _) _
        have hk7 : ∀ {u : Value} {ys : List Int}, Made w.heap.size w2 u ys → Made w.heap.size w7 u ys := fun h => (h.below hA2).kept (HO2.out.below hA2) (by decide) hg7
        rw [HE.out]
        refine ⟨xss ++ [[.slice ra xs.length rc, .int .i64 x.2]], ho7, by simp [HL.out, ents_len]; have := HN.out; omega, fun i e hi => ?_⟩
        have hlen : (ents (l.take k)).length = xss.length := by rw [ents_len, HL.out, List.length_take]; have := HN.out; omega
        by_cases hik : i < xss.length
        · rw [List.getElem?_append_left (by omega)] at hi ⊢
          obtain ⟨u, h1, h2⟩ := HM.out i e hi
          exact ⟨u, h1, hk7 h2⟩
        · rw [List.getElem?_append_right (by omega)] at hi ⊢
          rw [hlen] at hi
          cases hi0 : i - xss.length with
          | zero =>
            rw [hi0] at hi
            simp only [List.getElem?_cons_zero, Option.some.injEq] at hi
            subst hi
            exact ⟨_, rfl, hk7 HM6.out⟩
          | succ m => rw [hi0] at hi; simp at hi
      clear ho7 hb7 hg7 HM HM6 HO2
      go_wp2_with fail
      go_roundg (n - (k + 1))
      case measure => omega
      case rel => exact ⟨k + 1, by go_num, by omega, Nat.le_refl _, HB7, HK7⟩
    · have hltz : ¬ (k : Int) < (n : Int) := by omega
      have HE : Hid (l.take k = l) := List.take_of_length_le (by have := HN.out; omega)
      go_wp2
      go_ret
      exact ⟨_, rfl, by have := HK.out.row; rwa [HE.out] at this, HB.out⟩
end Go.Proofs.YthjlihhknaelaaaDoor

/- The reference's Rises, walked. -/
namespace Go.Proofs.YthjlihhknaelaaaDoor
open Go.RowKit Nums Fm
set_option maxRecDepth 100000

theorem RMade.mono {E B B' : Nat} {w : World} {v : Value} {S : List En} (h : RMade E B w v S) (hB : B' ≤ B) : RMade E B' w v S := by
  obtain ⟨xss, ho, hl, hx⟩ := h
  exact ⟨xss, ho.mono hB, hl, hx⟩
theorem RMade.kept {E B B' k : Nat} {T : TypeId} {w w' : World} {v u : Value} {S : List En} {yss : List (List Value)} (h : RMade E B w v S) (ho' : GOwn T k B' w u yss) (hT : T ≠ 94) (hg : w.grownBy w' u.ownBlock) (hb : Below E w w') : RMade E B w' v S := by
  obtain ⟨xss, ho, hl, hx⟩ := h
  refine ⟨xss, ho.same fun g hgv => ?_, hl, fun i e hi => ?_⟩
  · obtain ⟨_, cur, hc⟩ := ho.block hgv
    refine hg.block g (ho.lt hgv) fun e => ?_
    obtain ⟨_, cur', hc'⟩ := ho'.block e.symm
    rw [hc] at hc'
    simp only [Option.some.injEq, Obj.cells.injEq] at hc'
    exact hT hc'.2.1.symm
  · obtain ⟨y, h1, h2, h3⟩ := hx i e hi
    exact ⟨y, h1, h2.below hb, h3⟩
/-- Rests that lie below E, or that were made. -/
def RRb (E : Nat) (w : World) (v : Value) (S : List En) : Prop :=
  ∃ ad cap, v = .slice ad S.length cap ∧ (0 < S.length → ∃ g off, ad = some ⟨g, off, none⟩ ∧ g < E ∧ ∀ i e, S[i]? = some e → ∃ u, EntAt E w g (off + i * 2) u e ∧ CapOk u)
structure Und (E : Nat) (w : World) (v : Value) (S : List En) : Prop where
  or : RRb E w v S ∨ RMade E E w v S
theorem RRb.belowE {E : Nat} {w w' : World} {v : Value} {S : List En} (h : RRb E w v S) (hb : Below E w w') : RRb E w' v S := by
  obtain ⟨ad, cap, rfl, hc⟩ := h
  refine ⟨ad, cap, rfl, fun h0 => ?_⟩
  obtain ⟨g, off, rfl, hg, hx⟩ := hc h0
  refine ⟨g, off, rfl, hg, fun i e hi => ?_⟩
  obtain ⟨u, ⟨c0, c1, hr⟩, hk⟩ := hx i e hi
  exact ⟨u, ⟨(hb.cell (p := ⟨g, off + i * 2, none⟩) hg).trans c0, (hb.cell (p := ⟨g, off + i * 2 + 1, none⟩) hg).trans c1, hr.below hb⟩, hk⟩
theorem Und.row {E : Nat} {w : World} {v : Value} {S : List En} (h : Und E w v S) (hE : E ≤ w.heap.size) : RR E w v S := by
  rcases h.or with h | h
  · obtain ⟨ad, cap, rfl, hc⟩ := h
    refine ⟨ad, cap, rfl, fun h0 => ?_⟩
    obtain ⟨g, off, e, hg, hx⟩ := hc h0
    exact ⟨g, off, e, by omega, hx⟩
  · exact h.row
theorem Und.below {E : Nat} {w w' : World} {v : Value} {S : List En} (h : Und E w v S) (hE : E ≤ w.heap.size) (hb : Below w.heap.size w w') : Und E w' v S := by
  rcases h.or with h | h
  · exact ⟨.inl (h.belowE (hb.mono hE))⟩
  · exact ⟨.inr (h.below hE hb)⟩
theorem Und.kept {E B' k : Nat} {T : TypeId} {w w' : World} {v u : Value} {S : List En} {yss : List (List Value)} (h : Und E w v S) (ho' : GOwn T k B' w u yss) (hT : T ≠ 94) (hg : w.grownBy w' u.ownBlock) (hb : Below E w w') : Und E w' v S := by
  rcases h.or with h | h
  · exact ⟨.inl (h.belowE hb)⟩
  · exact ⟨.inr (h.kept ho' hT hg hb)⟩
/-- What Rises has found. -/
structure RDone (S : List En) (Ds : List (List En)) (i : Nat) : Prop where
  nd : Ds.Nodup
  sub : ∀ R ∈ Ds, Sub S R
  all : ∀ (j : Nat) (e : En), j < i → S[j]? = some e → ∀ k, k ≤ e.1.length → level (behind (e.1.take k) S) ∈ Ds
end Go.Proofs.YthjlihhknaelaaaDoor

/- The reference's Make, over its state. -/
namespace Go.Proofs.YthjlihhknaelaaaDoor
open Go.RowKit Nums Fm Pm
set_option maxRecDepth 100000

/-- What state must say of the whole. -/
def StateTop (v : Value) (l : List Pr) (w : World) : Prop :=
  Calls Tryd.prog 40 #[.agg #[.slice none 0 0, .slice none 0 0], v] w fun e w' => ∃ ra rn rc sd nb sc n, e = .returned (.tuple #[.agg #[.slice ra rn rc, .slice sd nb sc], n]) ∧ Below w.heap.size w w' ∧ StRow w.heap.size w' (.slice sd nb sc) (stF 25 [] (ents l)).1
theorem make_results {tmps : Array Value} {w : World} {rb : Nat} {a b : Value} (h2 : tmps.getD 2 undef = .pointer (some ⟨rb, 0, none⟩)) (c0 : w.cell? ⟨rb, 0, none⟩ = some a) (c1 : w.cell? ⟨rb, 1, none⟩ = some b) : (results Tryd.f22 tmps).run Tryd.prog w = .ok (.agg #[a, b]) w := by
  have h2' : tmps[2]?.getD undef = .pointer (some ⟨rb, 0, none⟩) := by simpa using h2
  simp [results, Tryd.results22, go_sem, h2', c0, c1]
set_option maxHeartbeats 4000000 in
theorem refMake_any (w : World) (v : Value) (l : List Pr) (h : PRow w v l) (hC : buildE l = 0) (hst : l ≠ [] → ∀ w1 v1, Below w.heap.size w w1 → RR w1.heap.size w1 v1 (ents l) → StateTop v1 l w1) : MakeSays v l w := by
  unfold MakeSays
  obtain ⟨ad, cap, rfl⟩ := h.form
  have HR : Hid (PRow w (.slice ad l.length cap) l) := h
  obtain ⟨n, hn⟩ : ∃ n, l.length = n := ⟨_, rfl⟩
  have HN : Hid (l.length = n) := hn
  have HC : Hid (buildE l = 0) := hC
  have HST : Hid (l ≠ [] → ∀ w1 v1, Below w.heap.size w w1 → RR w1.heap.size w1 v1 (ents l) → StateTop v1 l w1) := hst
  have HA : Hid (∀ o, Below w.heap.size w (w.alloc o)) := fun o => (Below.refl _ w).alloc (Nat.le_refl _) o
  rw [hn] at HR ⊢
  clear h hst hC hn
  by_cases hn0 : n = 0
  · have HM : Hid (machOf l = (0, [])) := by show _ = _; rw [machOf, if_neg (fun e => e.2 (List.eq_nil_of_length_eq_zero (HN.out.trans hn0)))]
    subst hn0
    go_enter Tryd.func22, Tryd.ntmps22
    go_wp2
    go_returns
    exact ⟨_, _, _, rfl, HA.out _, StRow.nil _ _, HM.out⟩
  have hn0b : ((n : Int) == 0) = false := beq_eq_false_iff_ne.2 (by omega)
  have HLE : Hid (l ≠ []) := fun e => hn0 (by rw [← HN.out, e]; rfl)
  have HD : Hid (DictOk l) := dict_ok HC.out
  have HM : Hid (machOf l = (least (ents l), (stF 25 [] (ents l)).1)) := by show _ = _; rw [machOf, if_pos ⟨HC.out, fun e => by have := HN.out; rw [e] at this; simp at this; omega⟩]
  obtain ⟨rb, hrb⟩ : ∃ rb, rb = w.heap.size := ⟨_, rfl⟩
  obtain ⟨w0, hw0⟩ : ∃ w0, w0 = w.alloc (.cells #[.int .i64 0, .slice none 0 0] 47) := ⟨_, rfl⟩
  have HB0 : Hid (Below w.heap.size w w0) := by show Below _ _ _; rw [hw0]; exact HA.out _
  have HR0 : Hid (RBlk rb w0) := ⟨by rw [hw0, hrb]; exact alloc_newP _ _⟩
  have HRB : Hid (w.heap.size ≤ rb) := by show _ ≤ _; rw [hrb]; exact Nat.le_refl _
  have hRS : Hid (Calls Tryd.prog 39 #[.slice ad n cap] w0 fun e w' => ∃ v', e = .returned v' ∧ RR w'.heap.size w' v' (ents l) ∧ Below w0.heap.size w0 w') := by
    have := refRests_any w0 _ l (HR.out.below HB0.out) HD.out.len HD.out.wd
    exact this
  have hne := HD.out.len
  rw [HN.out] at hne
  have HE0 : Hid (0 < (ents l).length ∧ (ents l).length ≤ 1048576) := by have := ents_len l; rw [HN.out] at this; exact ⟨by omega, by omega⟩
  clear hn0
  go_enter Tryd.func22, Tryd.ntmps22
  go_upto_region 1 with fail
  rw [← hw0, ← hrb]
  clear hw0 hrb
  go_upto_region 5 with (go_at_call 39; refine hRS.out.mono ?_; rintro e w1 ⟨va, rfl, hra, hb1⟩; obtain ⟨da, ca, hva⟩ := hra.form; obtain ⟨ne, hne2⟩ : ∃ ne, (ents l).length = ne := ⟨_, rfl⟩; rw [hne2] at hva; subst hva; clear hne2; have HRA : Hid (RR w1.heap.size w1 (.slice da ne ca) (ents l)) := hra; have HB1 : Hid (Below w0.heap.size w0 w1) := hb1; clear hra hb1)
  have HB01 : Hid (Below w.heap.size w w1) := HB0.out.trans (HB1.out.mono HB0.out.size)
  refine (show Calls Tryd.prog 40 #[.agg #[.slice none 0 0, .slice none 0 0], .slice da ne ca] w1 _ from HST.out HLE.out w1 _ HB01.out HRA.out).mono ?_
  rintro e w2 ⟨ra, rn, rc, sd, nb, sc, m, rfl, hb2, hrow⟩
  have HB2 : Hid (Below w1.heap.size w1 w2) := hb2
  have HRW : Hid (StRow w1.heap.size w2 (.slice sd nb sc) (stF 25 [] (ents l)).1) := hrow
  clear hb2 hrow
  go_upto_region 6 with fail
  obtain ⟨kb, hkb⟩ : ∃ kb, kb = w2.heap.size := ⟨_, rfl⟩
  obtain ⟨w3, hw3⟩ : ∃ w3, w3 = w2.alloc (.cells #[.slice ra rn rc, .slice sd nb sc] 76) := ⟨_, rfl⟩
  rw [← hkb, ← hw3]
  have hb3 : Below w2.heap.size w2 w3 := by rw [hw3]; exact (Below.refl _ w2).alloc (Nat.le_refl _) _
  have hk3 : w3.heap[kb]? = some (.cells #[.slice ra rn rc, .slice sd nb sc] 76) := by rw [hw3, hkb]; exact alloc_newP _ _
  have hb12 : Below w1.heap.size w1 w3 := HB2.out.trans (hb3.mono HB2.out.size)
  have h01 : Below w0.heap.size w0 w3 := HB1.out.trans (hb12.mono HB1.out.size)
  have h03 : Below w.heap.size w w3 := HB01.out.trans (hb12.mono HB01.out.size)
  have hR3 : RBlk rb w3 := HR0.out.below h01
  have hrb1 : rb < w1.heap.size := Nat.lt_of_lt_of_le HR0.out.lt HB1.out.size
  have HLS : Calls Tryd.prog 41 #[.slice da ne ca] w3.drew fun e w' => e = .returned (.int .i64 (least (ents l))) ∧ w' = w3.drew := refLeast_any w1.heap.size w3.drew _ (ents l) (HRA.out.below (Nat.le_refl _) (hb12.drew)) HE0.out.1 HE0.out.2
  have hS0 : w3.drew.cell? ⟨kb, 1, none⟩ = some (.slice sd nb sc) := by have : w3.drew.heap[kb]? = w3.heap[kb]? := rfl; simp [World.cell?, this, hk3]
  have hne3 : kb ≠ rb := by have := HB2.out.size; omega
  obtain ⟨w5, hw5⟩ : ∃ w5, w5 = (w3.drew.setCell ⟨rb, 0, none⟩ (.int .i64 (least (ents l)))).setCell ⟨rb, 1, none⟩ (.slice sd nb sc) := ⟨_, rfl⟩
  have hRd : RBlk rb w3.drew := ⟨hR3.blk⟩
  obtain ⟨hc0, hc1, hz⟩ := hR3.facts
  have hp := two_set hRd.blk (.int .i64 (least (ents l))) (.slice sd nb sc)
  rw [← hw5] at hp
  have he5 : ∀ j, j ≠ rb → w5.heap[j]? = w3.heap[j]? := fun j hj => by rw [hw5, set_other _ _ _ _ hj, set_other _ _ _ _ hj]; rfl
  have hS5 : w5.cell? ⟨kb, 1, none⟩ = some (.slice sd nb sc) := (World.cell?_of_block (a := ⟨kb, 1, none⟩) (he5 kb hne3)).trans (by simp [World.cell?, hk3])
  have HFIN : Hid (BuildSays w w5 l (least (ents l)) (.slice sd nb sc) (stF 25 [] (ents l)).1) := by
    refine ⟨?_, ((HRW.out.below hb3).same fun g hg => he5 g (by omega)).mono HB01.out.size, HM.out⟩
    rw [hw5]
    exact ((h03.drew).setCell HRB.out _).setCell HRB.out _
  clear hkb hw3 hb3 hk3 hb12 h01 h03 hR3 hrb1 hne3 hRd he5
  refine region_at (S := fun W => W.cell? ⟨kb, 1, none⟩ = some (.slice sd nb sc)) 6 rfl mixedP hS0 (fun _ => ?_)
  refine take_at (i := 0) 18 rfl rfl (by kernel_rfl) (by kernel_rfl) (by kernel_rfl) (fun _ _ _ h => h) (by rfl) (fun w hSw => by (have hSw2 := id hSw; clear hSw; go_simp; first | done | exact rfl)) (by assumption) ?_
  simp only [List.setIfInBounds_toArray, List.set_cons_zero, List.set_cons_succ]
  refine take_at (i := 2) 20 rfl rfl (by kernel_rfl) (by kernel_rfl) (by kernel_rfl) (fun _ _ _ h => h) (by rfl) (fun w hSw => by (have hSw2 := id hSw; clear hSw; go_simp; first | done | exact rfl)) (by assumption) ?_
  simp only [List.setIfInBounds_toArray, List.set_cons_zero, List.set_cons_succ]
  refine take_at (i := 3) 21 rfl rfl (by kernel_rfl) (by kernel_rfl) (by kernel_rfl) (fun _ _ _ h => h) (by rfl) (fun w hSw => by (have hSw2 := id hSw; clear hSw; go_simp; first | done | exact rfl)) (by assumption) ?_
  simp only [List.setIfInBounds_toArray, List.set_cons_zero, List.set_cons_succ]
  refine one_call (i := 1) (w0 := w3.drew) 19 41 #[.slice da ne ca] (by kernel_rfl) rfl rfl (by rfl) (by kernel_rfl) ?_
  refine HLS.mono ?_
  rintro e w4 ⟨rfl, rfl⟩
  refine ⟨_, rfl, hS0, fun _ => ?_⟩
  simp only [List.setIfInBounds_toArray, List.set_cons_zero, List.set_cons_succ]
  refine take_at (i := 4) 22 rfl rfl (by kernel_rfl) (by kernel_rfl) (by kernel_rfl) (fun _ _ _ h => h) (by rfl) (fun w hSw => by (have hSw2 := id hSw; clear hSw; go_simp; first | done | exact rfl)) (by assumption) ?_
  simp only [List.setIfInBounds_toArray, List.set_cons_zero, List.set_cons_succ]
  refine one_skip (i := 5) (w' := w5) (by kernel_rfl) rfl rfl (by rfl) (by rw [hw5]; go_simp; first | done | exact rfl) hS5 (fun _ => ?_)
  refine wpAnyH_done (by kernel_rfl) ?_ _
  clear hw5 hc0 hc1 hz
  go_wp2
  try simp only [Exit.inBlock, Exit.then]
  refine bodyPost_ret (make_results rfl hp.1 hp.2) rfl ?_
  exact ⟨_, _, _, rfl, HFIN.out⟩
end Go.Proofs.YthjlihhknaelaaaDoor

/- The reference's firsts. -/
namespace Go.Proofs.YthjlihhknaelaaaDoor
open Go.RowKit Nums Fm
set_option maxRecDepth 100000

namespace Fm
/-- First runes, one more. -/
def fstStep (acc : List Int) (e : En) : List Int := match e.1 with
  | [] => acc
  | c :: _ => if acc.getLast? = some c then acc else acc ++ [c]
def fsts (l : List En) : List Int := l.foldl fstStep []
theorem fsts_snoc {l : List En} {k : Nat} {e : En} (h : l[k]? = some e) : fsts (l.take (k + 1)) = fstStep (fsts (l.take k)) e := by
  rw [List.take_add_one, h]
  show fsts (l.take k ++ [e]) = _
  unfold fsts
  rw [List.foldl_append]
  rfl
theorem fstStep_len (acc : List Int) (e : En) : (fstStep acc e).length ≤ acc.length + 1 := by
  unfold fstStep
  split
  · omega
  · split <;> simp
theorem fstF_len : ∀ (l : List En) (acc : List Int), (l.foldl fstStep acc).length ≤ acc.length + l.length
  | [], _ => Nat.le_refl _
  | e :: r, acc => by
    have h1 := fstF_len r (fstStep acc e)
    have h2 := fstStep_len acc e
    simp only [List.foldl_cons, List.length_cons]
    omega
theorem fsts_len (l : List En) : (fsts l).length ≤ l.length := by have := fstF_len l []; simpa [fsts] using this
def fstMore (acc cs : List Int) : List Int := match cs with
  | [] => []
  | c :: r => if acc.getLast? = some c then r else c :: r
theorem fst_grp : ∀ (l : List En) (acc : List Int), (∀ e ∈ l, e.1 ≠ []) → l.foldl fstStep acc = acc ++ fstMore acc ((grp l).map (·.1))
  | [], acc, _ => by simp [grp, fstMore]
  | e :: r, acc, h => by
    obtain ⟨x, n⟩ := e
    cases x with
    | nil => exact absurd rfl (h ([], n) (by simp))
    | cons c t =>
      have ih := fst_grp r (fstStep acc (c :: t, n)) (fun e he => h e (by simp [he]))
      rw [List.foldl_cons, ih]
      have hst : fstStep acc (c :: t, n) = if acc.getLast? = some c then acc else acc ++ [c] := rfl
      have hlast : (fstStep acc (c :: t, n)).getLast? = some c := by
        rw [hst]
        split
        · assumption
        · simp
      have hhd : hd (c :: t, n) = c := rfl
      rw [grp]
      cases hg : grp r with
      | nil =>
        simp only [List.map_nil, List.map_cons, fstMore, hhd, hst]
        split <;> simp
      | cons p gs =>
        obtain ⟨c', G⟩ := p
        simp only [hhd, List.map_cons, fstMore, hlast]
        by_cases hc : c = c'
        · subst hc
          simp only [if_true, List.map_cons, hst]
          split <;> simp
        · have hc2 : ¬ some c = some c' := fun e => hc (Option.some.inj e)
          simp only [if_neg hc, if_neg hc2, List.map_cons, hst]
          split <;> simp
theorem fsts_grp {S : List En} (h : Rise S) : fsts S = (grp (restOf S)).map (·.1) := by
  obtain ⟨_, h2⟩ := rise_rest h
  have h3 : fsts S = (restOf S).foldl fstStep [] := by
    cases S with
    | nil => rfl
    | cons e r =>
      obtain ⟨x, n⟩ := e
      cases x with
      | nil => rfl
      | cons c t => rfl
  rw [h3, fst_grp _ _ h2, List.nil_append]
  cases (grp (restOf S)).map (·.1) with
  | nil => rfl
  | cons c r => simp [fstMore]
end Fm
def cellI (c : Int) : List Value := [.int .i32 c]
def IOwn (B : Nat) (w : World) (v : Value) (xs : List Int) : Prop := GOwn 21 1 B w v (xs.map cellI)
theorem rtyI : RTy 21 65 1 4 := ⟨by kernel_rfl, ⟨.int .i32 0, by kernel_rfl, rfl⟩, by decide, by decide⟩
theorem IOwn.last {B : Nat} {w : World} {ad : Option Addr} {n cap : Nat} {xs : List Int} (h : IOwn B w (.slice ad n cap) xs) (h0 : 0 < n) : ∃ g, ad = some ⟨g, 0, none⟩ ∧ n = xs.length ∧ ∃ d, xs.getLast? = some d ∧ w.cell? ⟨g, n - 1, none⟩ = some (.int .i32 d) := by
  obtain ⟨a', c', e, _⟩ := GOwn.shape h
  simp only [List.length_map, Value.slice.injEq] at e
  obtain ⟨e1, e2, e3⟩ := e
  subst e2
  obtain ⟨g, cp, e, _, _, _, hc⟩ := GOwn.cell h (by rw [List.length_map]; exact h0)
  simp only [List.length_map, Value.slice.injEq] at e
  obtain ⟨d, hd⟩ : ∃ d, xs[xs.length - 1]? = some d := ⟨xs[xs.length - 1]'(by omega), List.getElem?_eq_getElem _⟩
  refine ⟨g, e.1, rfl, d, by rw [List.getLast?_eq_getElem?]; exact hd, ?_⟩
  have := hc (xs.length - 1) 0 (cellI d) (.int .i32 d) (by rw [List.getElem?_map, hd]; rfl) rfl
  simpa using this
set_option maxHeartbeats 2000000 in
theorem refFirsts_any (E : Nat) (w : World) (v : Value) (l : List En) (h : RR E w v l) (hl : l.length ≤ 1048576) :
    Calls Tryd.prog 57 #[v] w fun e w' => ∃ v', e = .returned v' ∧ IOwn w.heap.size w' v' (fsts l) ∧ Below w.heap.size w w' := by
  obtain ⟨ad, cap, rfl⟩ := h.form
  obtain ⟨n, hn⟩ : ∃ n, l.length = n := ⟨_, rfl⟩
  have HN : Hid (l.length = n) := hn
  rw [hn] at h hl ⊢
  have HR : Hid (RR E w (.slice ad n cap) l) := h
  clear h hn
  go_enter Tryd.func57, Tryd.ntmps57
  go_wp2
  go_loopg [3, 4] n (fun gm s5 s6 wr => ∃ (k : Nat), s6 = .int .i64 k ∧ k ≤ n ∧ n - k ≤ gm ∧ Hid (IOwn w.heap.size wr s5 (fsts (l.take k))) ∧ Hid (Below w.heap.size w wr))
  case atStart => exact ⟨0, rfl, Nat.zero_le _, by omega, GOwn.nil _ _ _ _, Below.refl _ _⟩
  case round =>
    obtain ⟨k, rfl, hk, hgm, HM, HB⟩ := hrel
    obtain ⟨sd, no, sc, hsv⟩ : ∃ sd no sc, u3 = .slice sd no sc := by
      obtain ⟨sd, sc, hsv, _⟩ := GOwn.shape HM.out
      exact ⟨sd, _, sc, hsv⟩
    subst hsv
    by_cases hlt : k < n
    · have hltz : (k : Int) < (n : Int) := by omega
      obtain ⟨x, hxk⟩ : ∃ x, l[k]? = some x := ⟨l[k]'(by have := HN.out; omega), List.getElem?_eq_getElem _⟩
      obtain ⟨g, off, rfl, hg, hx⟩ := HR.out.at (by omega)
      obtain ⟨u, ⟨c0, c1, hr⟩, hck⟩ := hx k x hxk
      obtain ⟨ra, rc, hu, _⟩ := id hr
      obtain ⟨rn, hrn⟩ : ∃ rn, x.1.length = rn := ⟨_, rfl⟩
      rw [hrn] at hu
      subst hu
      have c0r : wr.cell? ⟨g, off + k * 2, none⟩ = some (.slice ra rn rc) := (HB.out.cell (p := ⟨g, off + k * 2, none⟩) hg).trans c0
      have hAF := fsts_snoc hxk
      by_cases hr0 : 0 < rn
      · have hr0z : (0 : Int) < (rn : Int) := by omega
        obtain ⟨gr, o, rfl, hz, hd⟩ := hr.get (k := 0) (by omega)
        clear hz
        obtain ⟨ch, hch⟩ : ∃ ch, x.1.headD 0 = ch := ⟨_, rfl⟩
        rw [Nat.add_zero, List.drop_zero, hch] at hd
        have hgr : gr < w.heap.size := lt_of_cell hd
        have d0 : wr.cell? ⟨gr, o, none⟩ = some (.int .i32 ch) := (HB.out.cell (p := ⟨gr, o, none⟩) hgr).trans hd
        have hAF2 : fsts (l.take (k + 1)) = if (fsts (l.take k)).getLast? = some ch then fsts (l.take k) else fsts (l.take k) ++ [ch] := by
          rw [hAF, fstStep]
          cases hx1 : x.1 with
          | nil => rw [hx1] at hrn; simp at hrn; omega
          | cons a t => rw [hx1] at hch; simp only [List.headD_cons] at hch; rw [hch]
        have HNO : Hid (no = (fsts (l.take k)).length) := by
          obtain ⟨_, _, e, _⟩ := GOwn.shape HM.out
          simp only [List.length_map, Value.slice.injEq] at e
          exact e.2.1
        clear hAF
        by_cases hno : 0 < no
        · obtain ⟨gl, rfl, hzz, d, hd1, hd2⟩ := IOwn.last HM.out hno
          clear hzz
          obtain ⟨m, hm⟩ : ∃ m, m = no - 1 := ⟨_, rfl⟩
          have hnom : no ≤ 1048576 := by
            have h1 := HNO.out
            have h2 := fsts_len (l.take k)
            rw [List.length_take] at h2
            omega
          have hwr : IntKind.i64.wrap ((no : Int) - 1) = (m : Int) := by simp [IntKind.wrap, IntKind.bits, IntKind.signed]; omega
          have hmz : (m : Int) < (no : Int) := by omega
          rw [← hm] at hd2
          clear hm hnom
          have hnoz : ((no : Int) == 0) = false := beq_eq_false_iff_ne.2 (by omega)
          by_cases hdc : d = ch
          · have hdb : (d == ch) = true := beq_iff_eq.2 hdc
            rw [hd1, hdc, if_pos rfl] at hAF2
            have HM2 : Hid (IOwn w.heap.size wr (.slice (some ⟨gl, 0, none⟩) no sc) (fsts (l.take (k + 1)))) := by show IOwn _ _ _ _; rw [hAF2]; exact HM.out
            clear hAF2 hx hr hrn hck c0 c1 hxk hd hd1 hch hdc
            go_upto_region 5 with fail
            go_quiet (fail)
            go_wp2
            go_roundg (n - (k + 1))
            case measure => omega
            case rel => exact ⟨k + 1, by go_num, by omega, Nat.le_refl _, GOwn.below HM2.out (belowN (Below.refl _ wr) _), HB.out.trans ((belowN (Below.refl _ wr) _).mono HB.out.size)⟩
          · have hdb : (d == ch) = false := beq_eq_false_iff_ne.2 hdc
            rw [hd1, if_neg (fun e => hdc (Option.some.inj e))] at hAF2
            have HAF : Hid (fsts (l.take (k + 1)) = fsts (l.take k) ++ [ch]) := hAF2
            clear hAF2 hx hr hrn hck c0 c1 hxk hd hd1 hch hdc
            go_upto_region 5 with fail
            go_quiet (fail)
            go_upto_region 6 with fail
            clear hd2
            obtain ⟨wz, hwz⟩ : ∃ wz, wz = wr.drewN nq := ⟨_, rfl⟩
            rw [← hwz]
            have hbz : Below wr.heap.size wr wz := by rw [hwz]; exact belowN (Below.refl _ wr) nq
            have cz : wz.cell? ⟨g, off + k * 2, none⟩ = some (.slice (some ⟨gr, o, none⟩) rn rc) := by rw [hwz]; exact c0r
            have dz : wz.cell? ⟨gr, o, none⟩ = some (.int .i32 ch) := by rw [hwz]; exact d0
            have HBZ : Hid (Below w.heap.size w wz) := HB.out.trans (hbz.mono HB.out.size)
            have HO : Hid (GOwn 21 1 w.heap.size wz _ ((fsts (l.take k)).map cellI)) := GOwn.below HM.out hbz
            have HLN : Hid (((fsts (l.take k)).map cellI).length < 1099511627776) := by
              have := fsts_len (l.take k)
              show _ < _
              rw [List.length_map]
              rw [List.length_take] at this
              omega
            clear hwz c0r d0 hbz
            go_wp2_with (at_builtin; refine append_g rtyI (by rfl) _ _ [.int .i32 ch] _ rfl w.heap.size _ _ _ _ rfl HO.out rfl rfl ⟨rfl, by simp [Value.oneCell']⟩ HLN.out HBZ.out.size ?_)
            intro v7 w7 ho7 hb7 hg7
            have HB7 : Hid (Below w.heap.size w w7) := HBZ.out.trans hb7
            have HM7 : Hid (IOwn w.heap.size w7 v7 (fsts (l.take (k + 1)))) := by
              show IOwn _ _ _ _
              rw [HAF.out]
              show GOwn _ _ _ _ _ _
              rw [List.map_append]
              exact ho7
            clear ho7 hb7 hg7 cz dz
            go_wp2
            go_roundg (n - (k + 1))
            case measure => omega
            case rel => exact ⟨k + 1, by go_num, by omega, Nat.le_refl _, HM7, HB7⟩
        · have hno0 : no = 0 := by omega
          subst hno0
          have hnoz : (((0 : Nat) : Int) == 0) = true := rfl
          have hl0 : (fsts (l.take k)).getLast? = none := by rw [List.getLast?_eq_none_iff]; exact List.eq_nil_of_length_eq_zero HNO.out.symm
          rw [hl0, if_neg (by simp)] at hAF2
          have HAF : Hid (fsts (l.take (k + 1)) = fsts (l.take k) ++ [ch]) := hAF2
          clear hAF2 hx hr hrn hck c0 c1 hxk hd hch hl0 hno
          go_upto_region 5 with fail
          go_quiet (fail)
          go_upto_region 6 with fail
          obtain ⟨wz, hwz⟩ : ∃ wz, wz = wr.drewN nq := ⟨_, rfl⟩
          rw [← hwz]
          have hbz : Below wr.heap.size wr wz := by rw [hwz]; exact belowN (Below.refl _ wr) nq
          have cz : wz.cell? ⟨g, off + k * 2, none⟩ = some (.slice (some ⟨gr, o, none⟩) rn rc) := by rw [hwz]; exact c0r
          have dz : wz.cell? ⟨gr, o, none⟩ = some (.int .i32 ch) := by rw [hwz]; exact d0
          have HBZ : Hid (Below w.heap.size w wz) := HB.out.trans (hbz.mono HB.out.size)
          have HO : Hid (GOwn 21 1 w.heap.size wz _ ((fsts (l.take k)).map cellI)) := GOwn.below HM.out hbz
          have HLN : Hid (((fsts (l.take k)).map cellI).length < 1099511627776) := by
            have := fsts_len (l.take k)
            show _ < _
            rw [List.length_map]
            rw [List.length_take] at this
            omega
          clear hwz c0r d0 hbz
          go_wp2_with (at_builtin; refine append_g rtyI (by rfl) _ _ [.int .i32 ch] _ rfl w.heap.size _ _ _ _ rfl HO.out rfl rfl ⟨rfl, by simp [Value.oneCell']⟩ HLN.out HBZ.out.size ?_)
          intro v7 w7 ho7 hb7 hg7
          have HB7 : Hid (Below w.heap.size w w7) := HBZ.out.trans hb7
          have HM7 : Hid (IOwn w.heap.size w7 v7 (fsts (l.take (k + 1)))) := by
            show IOwn _ _ _ _
            rw [HAF.out]
            show GOwn _ _ _ _ _ _
            rw [List.map_append]
            exact ho7
          clear ho7 hb7 hg7 cz dz
          go_wp2
          go_roundg (n - (k + 1))
          case measure => omega
          case rel => exact ⟨k + 1, by go_num, by omega, Nat.le_refl _, HM7, HB7⟩
      · have hr0z : ¬ (0 : Int) < (rn : Int) := by omega
        have hx1 : x.1 = [] := List.eq_nil_of_length_eq_zero (by omega)
        rw [fstStep, hx1] at hAF
        have HM2 : Hid (IOwn w.heap.size wr (.slice sd no sc) (fsts (l.take (k + 1)))) := by show IOwn _ _ _ _; rw [hAF]; exact HM.out
        clear hAF hx hr hrn hck c0 c1 hxk hx1
        go_upto_region 5 with fail
        go_quiet (fail)
        go_wp2
        go_roundg (n - (k + 1))
        case measure => omega
        case rel => exact ⟨k + 1, by go_num, by omega, Nat.le_refl _, GOwn.below HM2.out (belowN (Below.refl _ wr) _), HB.out.trans ((belowN (Below.refl _ wr) _).mono HB.out.size)⟩
    · have hltz : ¬ (k : Int) < (n : Int) := by omega
      have HE : Hid (l.take k = l) := List.take_of_length_le (by have := HN.out; omega)
      go_wp2
      go_ret
      exact ⟨_, rfl, by have := HM.out; rwa [HE.out] at this, HB.out⟩
end Go.Proofs.YthjlihhknaelaaaDoor
