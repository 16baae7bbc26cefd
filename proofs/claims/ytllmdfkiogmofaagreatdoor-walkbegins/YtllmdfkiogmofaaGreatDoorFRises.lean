/- The reference's In, Rests, Rises. -/
import Derived.Test.YtllmdfkiogmofaaGreatDoorFRest3
import Derived.Test.YtllmdfkiogmofaaGreatDoorJ7
namespace Go.Proofs.YtllmdfkiogmofaaGreatDoor
open Go.RowKit Nums Fm
set_option maxRecDepth 100000

/-- Rows of rests, in a row that the call has made. -/
structure AllOwn (E B : Nat) (w : World) (v : Value) (Ds : List (List En)) : Prop where
  ex : ∃ xss : List (List Value), GOwn 77 1 B w v xss ∧ xss.length = Ds.length ∧ ∀ (i : Nat) (R : List En), Ds[i]? = some R → ∃ u, xss[i]? = some [u] ∧ RMade E B w u R
theorem AllOwn.nil (E B : Nat) (w : World) : AllOwn E B w (.slice none 0 0) [] := ⟨[], GOwn.nil _ _ _ _, rfl, fun i R hi => by simp at hi⟩
theorem AllOwn.below {E B : Nat} {w w' : World} {v : Value} {Ds : List (List En)} (h : AllOwn E B w v Ds) (hE : E ≤ w.heap.size) (hb : Below w.heap.size w w') : AllOwn E B w' v Ds := by
  obtain ⟨xss, ho, hl, hx⟩ := h
  refine ⟨xss, ho.below hb, hl, fun i R hi => ?_⟩
  obtain ⟨u, h1, h2⟩ := hx i R hi
  exact ⟨u, h1, h2.below hE hb⟩
theorem AllOwn.shape {E B : Nat} {w : World} {v : Value} {Ds : List (List En)} (h : AllOwn E B w v Ds) : ∃ ad cap, v = .slice ad Ds.length cap := by
  obtain ⟨xss, ho, hl, _⟩ := h
  obtain ⟨ad, cap, e, _⟩ := ho.shape
  exact ⟨ad, cap, by rw [e, hl]⟩
theorem AllOwn.at {E B : Nat} {w : World} {ad : Option Addr} {n cap : Nat} {Ds : List (List En)} (h : AllOwn E B w (.slice ad n cap) Ds) (h0 : 0 < n) : ∃ g, ad = some ⟨g, 0, none⟩ ∧ g < w.heap.size ∧ ∀ (i : Nat) (R : List En), Ds[i]? = some R → ∃ u, w.cell? ⟨g, i, none⟩ = some u ∧ RMade E B w u R := by
  obtain ⟨xss, ho, hl, hx⟩ := h
  obtain ⟨ad', cap', e, _⟩ := ho.shape
  simp only [Value.slice.injEq] at e
  obtain ⟨g, cap2, e2, hg, _, _, hc⟩ := ho.cell (by omega)
  simp only [Value.slice.injEq] at e2
  refine ⟨g, e2.1, hg, fun i R hi => ?_⟩
  obtain ⟨u, h1, h2⟩ := hx i R hi
  refine ⟨u, ?_, h2⟩
  have := hc i 0 _ u h1 rfl
  rwa [Nat.mul_one, Nat.add_zero] at this
theorem rtyRR : RTy 77 106 1 24 := ⟨by kernel_rfl, ⟨.slice none 0 0, by kernel_rfl, rfl⟩, by decide, by decide⟩
/-- Rests that are small. -/
def SmallR (R : List En) : Prop := R.length ≤ 1048576 ∧ ∀ e ∈ R, e.1.length ≤ 1048576
def inIx (Ds : List (List En)) (S : List En) : Int := if S ∈ Ds then (Ds.idxOf S : Int) else -1
theorem in_found {Ds : List (List En)} {S : List En} {k : Nat} (h : Ds[k]? = some S) (hn : S ∉ Ds.take k) : inIx Ds S = k := by
  have hm := List.mem_of_getElem? h
  rw [inIx, if_pos hm]
  have hk := (List.getElem?_eq_some_iff.1 h).1
  have e : Ds = Ds.take k ++ S :: Ds.drop (k + 1) := by
    have := List.drop_eq_getElem_cons hk
    rw [(List.getElem?_eq_some_iff.1 h).2] at this
    rw [← this, List.take_append_drop]
  have h2 : Ds.idxOf S = k := by
    rw [e, List.idxOf_append, if_neg hn, List.idxOf_cons_self, List.length_take]
    omega
  rw [h2]
set_option maxHeartbeats 2000000 in
theorem refIn_any (E B E' : Nat) (w : World) (v vl : Value) (Ds : List (List En)) (S : List En) (h : AllOwn E B w v Ds) (hS : RR E' w vl S) (hsm : SmallR S) (hds : ∀ R ∈ Ds, SmallR R) (hdl : Ds.length ≤ 1048576) :
    Calls Tryz.prog 86 #[v, vl] w fun e w' => e = .returned (.int .i64 (inIx Ds S)) ∧ ∃ q, w' = w.drewN q := by
  obtain ⟨ad, cap, rfl⟩ := h.shape
  obtain ⟨la, lc, rfl⟩ := hS.form
  obtain ⟨n, hn⟩ : ∃ n, Ds.length = n := ⟨_, rfl⟩
  obtain ⟨ln, hln⟩ : ∃ ln, S.length = ln := ⟨_, rfl⟩
  have HN : Hid (Ds.length = n) := hn
  rw [hn] at h hdl ⊢
  rw [hln] at hS ⊢
  have HA : Hid (AllOwn E B w (.slice ad n cap) Ds) := h
  have HS : Hid (RR E' w (.slice la ln lc) S) := hS
  have HSM : Hid (SmallR S ∧ ∀ R ∈ Ds, SmallR R) := ⟨hsm, hds⟩
  obtain ⟨F, hF⟩ : ∃ F, inIx Ds S = F := ⟨_, rfl⟩
  have HF : Hid (inIx Ds S = F) := hF
  rw [hF]
  clear h hS hn hln hF hsm hds
  go_enter Tryz.func86, Tryz.ntmps86
  go_wp2
  go_loopg [5, 6] n (fun g s5 _ wr => ∃ (k q : Nat), s5 = .int .i64 k ∧ k ≤ n ∧ n - k ≤ g ∧ Hid (wr = w.drewN q) ∧ Hid (S ∉ Ds.take k))
  case atStart => exact ⟨0, 0, rfl, Nat.zero_le _, by omega, rfl, fun h => by simp at h⟩
  case round =>
    obtain ⟨k, q, rfl, hk, hg, HW, HK⟩ := hrel
    by_cases hlt : k < n
    · have hltz : (k : Int) < (n : Int) := by omega
      obtain ⟨R, hR⟩ : ∃ R, Ds[k]? = some R := ⟨Ds[k]'(by have := HN.out; omega), List.getElem?_eq_getElem _⟩
      obtain ⟨ga, rfl, hga, hx⟩ := HA.out.at (by omega)
      obtain ⟨u, hu, hM⟩ := hx k R hR
      have c0 : wr.cell? ⟨ga, k, none⟩ = some u := by rw [HW.out]; exact hu
      obtain ⟨ud, uc, rfl⟩ := hM.row.form
      obtain ⟨un, hun⟩ : ∃ un, R.length = un := ⟨_, rfl⟩
      have HCALL : Hid (Calls Tryz.prog 106 #[.slice ud R.length uc, .slice la ln lc] wr fun e w' => e = .returned (.bool (decide (R = S))) ∧ ∃ q, w' = w.drewN q) := by
        show Calls _ _ _ _ _
        rw [HW.out]
        have r1 : RR E (w.drewN q) (.slice ud R.length uc) R := by
          obtain ⟨ad, cap, e, hc⟩ := hM.row
          refine ⟨ad, cap, e, fun h0 => ?_⟩
          obtain ⟨g, off, h1, h2, h3⟩ := hc h0
          exact ⟨g, off, h1, h2, fun i e hi => by obtain ⟨u, ⟨a, b, c⟩, d⟩ := h3 i e hi; exact ⟨u, ⟨a, b, c.below (belowN (Below.refl E w) q)⟩, d⟩⟩
        have r2 : RR E' (w.drewN q) (.slice la ln lc) S := by
          obtain ⟨ad, cap, e, hc⟩ := HS.out
          refine ⟨ad, cap, e, fun h0 => ?_⟩
          obtain ⟨g, off, h1, h2, h3⟩ := hc h0
          exact ⟨g, off, h1, h2, fun i e hi => by obtain ⟨u, ⟨a, b, c⟩, d⟩ := h3 i e hi; exact ⟨u, ⟨a, b, c.below (belowN (Below.refl E' w) q)⟩, d⟩⟩
        have hsr := HSM.out.2 R (List.mem_of_getElem? hR)
        refine (refsame_any E E' (w.drewN q) _ _ R S r1 r2 hsr.1 HSM.out.1.1 hsr.2 HSM.out.1.2).mono ?_
        rintro e w' ⟨h1, m, h2⟩
        exact ⟨h1, _, by rw [h2]; exact World.drewN_drewN ..⟩
      have HYES : Hid (R = S → F = (k : Int)) := fun e => by rw [← HF.out]; exact in_found (by rw [hR, e]) HK.out
      have HNO : Hid (R ≠ S → S ∉ Ds.take (k + 1)) := fun e hm => by
        rw [List.take_add_one, hR] at hm
        rcases List.mem_append.1 hm with hm | hm
        · exact HK.out hm
        · simp at hm; exact e hm.symm
      rw [hun] at c0 HCALL
      clear hx hR hu hM hun
      by_cases hRS : R = S
      · have HE : Hid (F = (k : Int)) := HYES.out hRS
        rw [decide_eq_true hRS] at HCALL
        clear hRS
        go_wp2_with (go_at_call 106; refine HCALL.out.mono ?_; rintro e w3 ⟨rfl, hw3⟩; have HW3 : Hid _ := hw3; clear hw3)
        go_ret
        exact ⟨by rw [HE.out]; rfl, HW3.out⟩
      · have HNO2 : Hid (S ∉ Ds.take (k + 1)) := HNO.out hRS
        rw [decide_eq_false hRS] at HCALL
        clear hRS
        go_wp2_with (go_at_call 106; refine HCALL.out.mono ?_; rintro e w3 ⟨rfl, hw3⟩; have HW3 : Hid _ := hw3; clear hw3)
        go_roundg (n - (k + 1))
        case measure => omega
        case rel =>
          obtain ⟨qq, hqq⟩ := HW3.out
          exact ⟨k + 1, qq, by go_num, by omega, Nat.le_refl _, hqq, HNO2⟩
    · have hltz : ¬ (k : Int) < (n : Int) := by omega
      have HE : Hid (F = -1) := by
        show _ = _
        rw [← HF.out]
        have h := HK.out
        rw [List.take_of_length_le (by have := HN.out; omega)] at h
        rw [inIx, if_neg h]
      go_wp2
      go_ret
      exact ⟨by rw [HE.out]; rfl, q, HW.out⟩
/-- Rests that are being made of words. -/
structure RstsAt (B : Nat) (w : World) (v : Value) (es : List En) : Prop where
  ex : ∃ xss : List (List Value), GOwn 83 2 B w v xss ∧ xss.length = es.length ∧ ∀ (i : Nat) (e : En), es[i]? = some e → ∃ u, xss[i]? = some [u, .int .i64 e.2] ∧ Made B w u e.1
theorem Made.cap {B : Nat} {w : World} {v : Value} {xs : List Int} (h : Made B w v xs) : CapOk v := by
  obtain ⟨_, ⟨e, _⟩ | ⟨g, cap, cur, rfl, _, _, h3, _⟩⟩ := h
  · rw [e]; exact Nat.le_refl _
  · exact h3
theorem RstsAt.row {B : Nat} {w : World} {v : Value} {es : List En} (h : RstsAt B w v es) : RR w.heap.size w v es := by
  obtain ⟨xss, ho, hl, hx⟩ := h
  by_cases h0 : 0 < xss.length
  · obtain ⟨g, cap, rfl, hg, _, _, hcell⟩ := ho.cell h0
    refine ⟨_, cap, by rw [hl], fun _ => ⟨g, 0, rfl, hg, fun i e hi => ?_⟩⟩
    obtain ⟨u, hu, hm⟩ := hx i e hi
    exact ⟨u, ⟨by rw [Nat.zero_add]; exact hcell i 0 _ u hu rfl, by rw [Nat.zero_add]; exact hcell i 1 _ _ hu rfl, hm.runes⟩, hm.cap⟩
  · obtain ⟨ad, cap, rfl, _⟩ := ho.shape
    exact ⟨ad, cap, by rw [hl], fun h => absurd h (by omega)⟩
set_option maxHeartbeats 1000000 in
theorem refRests_any (w : World) (v : Value) (l : List Pr) (h : PRow w v l) (hl : l.length ≤ 4096) (hwd : Wd l) :
    Calls Tryz.prog 54 #[v] w fun e w' => ∃ v', e = .returned v' ∧ RR w'.heap.size w' v' (ents l) ∧ Below w.heap.size w w' := by
  obtain ⟨ad, cap, rfl⟩ := h.form
  have HR : Hid (PRow w (.slice ad l.length cap) l) := h
  obtain ⟨n, hn⟩ : ∃ n, l.length = n := ⟨_, rfl⟩
  have HN : Hid (l.length = n) := hn
  have HS : Hid (Wd l) := hwd
  rw [hn] at HR hl
  clear h hwd
  rw [hn]
  clear hn
  go_enter Tryz.func54, Tryz.ntmps54
  go_wp2
  go_loopg [3, 4, 5, 6] n (fun g s3 s4 _ _ wr => ∃ (k : Nat), s4 = .int .i64 k ∧ k ≤ n ∧ n - k ≤ g ∧ Hid (Below w.heap.size w wr) ∧ Hid (RstsAt w.heap.size wr s3 (ents (l.take k))))
  case atStart => exact ⟨0, rfl, Nat.zero_le _, by omega, Below.refl _ _, ⟨[], GOwn.nil _ _ _ _, rfl, fun i e hi => by simp [ents] at hi⟩⟩
  case round =>
    obtain ⟨k, rfl, hk, hg, HB, HK⟩ := hrel
    by_cases hlt : k < n
    · have hltz : (k : Int) < (n : Int) := by omega
      obtain ⟨x, hx⟩ : ∃ x, l[k]? = some x := ⟨l[k]'(by have := HN.out; omega), List.getElem?_eq_getElem _⟩
      obtain ⟨b, off, rfl, hb, hcell⟩ := (HR.out.below HB.out).at (by omega)
      obtain ⟨c0, c1⟩ := hcell k x hx
      obtain ⟨xs, hxs, hx24, hx96⟩ := HS.out x (List.mem_of_getElem? hx)
      have HE : Hid (ents (l.take (k + 1)) = ents (l.take k) ++ [(xs, x.2)]) := by show _ = _; rw [ents_snoc hx, entOf, hxs]; rfl
      have HRN : Hid (Calls Tryz.prog 84 #[.string x.1] wr fun e w' => ∃ v, Below wr.heap.size wr w' ∧ e = .returned (.tuple #[v, .bool true]) ∧ Made wr.heap.size w' v xs) := by
        refine (RefRunes_any x.1 wr (by omega) (room_of_runes hxs (by omega))).mono ?_
        rintro e w' ⟨v, hb, ⟨h1, _⟩ | ⟨ys, h1, h2, h3⟩⟩
        · rw [hxs] at h1; cases h1
        · rw [hxs] at h1; cases h1; exact ⟨v, hb, h2, h3⟩
      have HC1 : Hid (wr.cell? ⟨b, off + k * 2 + 1, none⟩ = some (.int .i64 x.2) ∧ b < wr.heap.size) := ⟨c1, hb⟩
      clear hcell hx hxs
      go_upto_region 6 with (go_at_call 84; refine HRN.out.mono ?_; rintro e w2 ⟨v6, hb2, rfl, hm6⟩)
      obtain ⟨xss, ho, hxl, hxe⟩ := HK.out.ex
      have c21 : w2.cell? ⟨b, off + k * 2 + 1, none⟩ = some (.int .i64 x.2) := (hb2.cell (p := ⟨b, off + k * 2 + 1, none⟩) HC1.out.2).trans HC1.out.1
      have ho2 : GOwn 83 2 w.heap.size w2 u3 xss := ho.below hb2
      have hsz : w.heap.size ≤ wr.heap.size := HB.out.size
      have HO2 : Hid (GOwn 83 2 w.heap.size w2 u3 xss) := ho2
      have HM : Hid (∀ (i : Nat) (e : En), (ents (l.take k))[i]? = some e → ∃ u, xss[i]? = some [u, .int .i64 e.2] ∧ Made w.heap.size w2 u e.1) := fun i e hi => by
        obtain ⟨u, h1, h2⟩ := hxe i e hi
        exact ⟨u, h1, h2.below hb2⟩
      have HM6 : Hid (Made w.heap.size w2 v6 xs) := by
        obtain ⟨hl, hn | ⟨g, cap, cur, rfl, h1, h2⟩⟩ := hm6
        · exact ⟨hl, .inl hn⟩
        · exact ⟨hl, .inr ⟨g, cap, cur, rfl, by omega, h2⟩⟩
      obtain ⟨ra, rc, rfl⟩ := hm6.shape
      have HB2 : Hid (Below w.heap.size w w2) := HB.out.trans (hb2.mono HB.out.size)
      have HL : Hid (xss.length = k) := by show _ = _; rw [hxl, ents_len, List.length_take]; have := HN.out; omega
      clear ho ho2 hxe hxl hm6 hb2 c0 c1
      go_wp2_with (at_builtin; refine append_g rtyR (by rfl) _ _ [.slice ra xs.length rc, .int .i64 x.2] _ rfl w.heap.size _ _ _ _ rfl HO2.out rfl rfl ⟨rfl, by simp [Value.oneCell']⟩ (by have := HL.out; omega) HB2.out.size ?_)
      intro v7 w7 ho7 hb7 hg7
      have HB7 : Hid (Below w.heap.size w w7) := HB2.out.trans hb7
      have HK7 : Hid (RstsAt w.heap.size w7 v7 (ents (l.take (k + 1)))) := by
        show RstsAt _ _ _ _
        have hA2 : Below w2.heap.size w2 (w2.alloc (.cells [.slice ra xs.length rc, .int .i64 x.2].toArray 83)) := (Below.refl _ w2).alloc (Nat.le_refl _) _
        have hk7 : ∀ {u : Value} {ys : List Int}, Made w.heap.size w2 u ys → Made w.heap.size w7 u ys := fun h => (h.below hA2).kept (HO2.out.below hA2) (by decide) hg7
        rw [HE.out]
        refine ⟨xss ++ [[.slice ra xs.length rc, .int .i64 x.2]], ho7, by simp [HL.out, ents_len]; have := HN.out; omega, fun i e hi => ?_⟩
        have hlen : (ents (l.take k)).length = xss.length := by rw [ents_len, HL.out, List.length_take]; have := HN.out; omega
        by_cases hik : i < xss.length
        · rw [List.getElem?_append_left (by omega)] at hi ⊢
          obtain ⟨u, h1, h2⟩ := HM.out i e hi
          exact ⟨u, h1, hk7 h2⟩
        · rw [List.getElem?_append_right (by omega)] at hi ⊢
          rw [hlen] at hi
          cases hi0 : i - xss.length with
          | zero =>
            rw [hi0] at hi
            simp only [List.getElem?_cons_zero, Option.some.injEq] at hi
            subst hi
            exact ⟨_, rfl, hk7 HM6.out⟩
          | succ m => rw [hi0] at hi; simp at hi
      clear ho7 hb7 hg7 HM HM6 HO2
      go_wp2_with fail
      go_roundg (n - (k + 1))
      case measure => omega
      case rel => exact ⟨k + 1, by go_num, by omega, Nat.le_refl _, HB7, HK7⟩
    · have hltz : ¬ (k : Int) < (n : Int) := by omega
      have HE : Hid (l.take k = l) := List.take_of_length_le (by have := HN.out; omega)
      go_wp2
      go_ret
      exact ⟨_, rfl, by have := HK.out.row; rwa [HE.out] at this, HB.out⟩
end Go.Proofs.YtllmdfkiogmofaaGreatDoor
