/- edit.aligned: the walk. -/
import Derived.Test.YtjfbildaaobfpaaDoorPtAlM
namespace Go.Proofs.YtjfbildaaobfpaaDoor
open Go.RowKit Nums Ed
set_option maxRecDepth 100000

/-- Two rows of runes, each in a block of its own. -/
structure TwoM (H : Nat) (w : World) (vF vT : Value) (F T : List Int) : Prop where
  mF : Made H w vF F
  mT : Made H w vT T
  ap : ∀ g, vF.ownBlock = some g → vT.ownBlock ≠ some g
theorem Made.own_lt {B : Nat} {w : World} {v : Value} {xs : List Int} (h : Made B w v xs) {g : Nat} (hg : v.ownBlock = some g) : g < w.heap.size := h.gown.lt hg
theorem Made.same {B : Nat} {w w' : World} {v : Value} {xs : List Int} (h : Made B w v xs) (e : ∀ g, v.ownBlock = some g → w'.heap[g]? = w.heap[g]?) : Made B w' v xs := (h.gown.same e).made
theorem Made.dn {B : Nat} {w w' : World} {v : Value} {xs : List Int} (h : Made B w v xs) (hd : Dn w w') : Made B w' v xs := by obtain ⟨n, rfl⟩ := hd; exact h
theorem TwoM.dn {H : Nat} {w w' : World} {vF vT : Value} {F T : List Int} (h : TwoM H w vF vT F T) (hd : Dn w w') : TwoM H w' vF vT F T := ⟨h.mF.dn hd, h.mT.dn hd, h.ap⟩
theorem TwoM.mid {H : Nat} {W0 w1 : World} {vF vT : Value} {F T : List Int} (h : TwoM H W0 vF vT F T) (k1 : ∀ j, j < W0.heap.size → vF.ownBlock ≠ some j → w1.heap[j]? = W0.heap[j]?) : Made H w1 vT T :=
  h.mT.same fun g hg => k1 g (h.mT.own_lt hg) (fun e => h.ap g e hg)
theorem TwoM.step {H : Nat} {W0 w1 w2 : World} {vF vT v1 v2 : Value} {F T F' T' : List Int} (h : TwoM H W0 vF vT F T) (m1 : Made H w1 v1 F') (o1 : v1.ownBlock = vF.ownBlock ∨ ∃ g, v1.ownBlock = some g ∧ W0.heap.size ≤ g)
    (m2 : Made H w2 v2 T') (k2 : ∀ j, j < w1.heap.size → vT.ownBlock ≠ some j → w2.heap[j]? = w1.heap[j]?) (o2 : v2.ownBlock = vT.ownBlock ∨ ∃ g, v2.ownBlock = some g ∧ w1.heap.size ≤ g) : TwoM H w2 v1 v2 F' T' := by
  have key : ∀ g, v1.ownBlock = some g → vT.ownBlock ≠ some g := fun g hg ht => by
    rcases o1 with e | ⟨g', e, hg'⟩
    · exact h.ap g (by rw [← e]; exact hg) ht
    · rw [hg] at e; obtain rfl := Option.some.inj e
      have := h.mT.own_lt ht; omega
  refine ⟨m1.same fun g hg => k2 g (m1.own_lt hg) (key g hg), m2, fun g hg ht => ?_⟩
  rcases o2 with e | ⟨g', e, hg'⟩
  · exact key g hg (by rw [← e]; exact ht)
  · rw [ht] at e; obtain rfl := Option.some.inj e
    have := m1.own_lt hg; omega

set_option maxHeartbeats 2000000 in
theorem aligned_any (vx vy : Value) (xs ys : List Int) (w : World) (hx : RunesAt w.heap.size w vx xs) (hy : RunesAt w.heap.size w vy ys) (hxl : xs.length ≤ 2000) (hyl : ys.length ≤ 2000) (hxr : xs.all isR = true) (hyr : ys.all isR = true) :
    Calls Tryd.prog 27 #[vx, vy] w fun e w' => ∃ vF vT F T gF gT, e = .returned (.tuple #[vF, vT]) ∧ LAt w' vF gF F ∧ LAt w' vT gT T ∧ gT ≠ gF ∧ w.heap.size ≤ gF ∧ un F = xs ∧ un T = ys ∧ F.length = T.length ∧ T.length ≤ 4000 ∧ dif F T = lv xs ys ∧ (∀ x ∈ F, okR x) ∧ (∀ x ∈ T, okR x) ∧ Below w.heap.size w w' := by
  obtain ⟨adx, capx, rfl⟩ := hx.form
  obtain ⟨ady, capy, rfl⟩ := hy.form
  have HX : Hid (RunesAt w.heap.size w (.slice adx xs.length capx) xs) := hx
  have HY : Hid (RunesAt w.heap.size w (.slice ady ys.length capy) ys) := hy
  have HXR : Hid (∀ x ∈ xs, isR x = true) := List.all_eq_true.1 hxr
  have HYR : Hid (∀ x ∈ ys, isR x = true) := List.all_eq_true.1 hyr
  clear hx hy hxr hyr
  go_enter Tryd.func27, Tryd.ntmps27
  go_upto_region 2 with (go_at_call 33; refine (table_any _ _ xs ys _ HX.out HY.out hxl hyl).mono ?_; rintro e w1 ⟨g, gl, rfl, htab, hb1⟩)
  obtain ⟨H, hH⟩ : ∃ H, H = w1.heap.size := ⟨_, rfl⟩
  have HH : Hid (H = w1.heap.size) := hH
  have HTAB : Hid (TabAt w1 gl g xs ys) := htab
  have hwH : w.heap.size ≤ H := by rw [hH]; exact hb1.size
  clear hH htab
  go_wp2
  go_loopw [4, 5, 7, 8] (fun vF vT i j wr => ∃ (a b : Nat) (F T : List Int) (f0 t0 : Value), f0 = vF ∧ t0 = vT ∧ i = .int .i64 a ∧ j = .int .i64 b ∧ AI xs ys F T a b ∧ TwoM H wr vF vT F T ∧ Below H w1 wr) (fun _ _ i j _ => (intOf i).toNat + (intOf j).toNat)
  case atStart => exact ⟨xs.length, ys.length, [], [], _, _, rfl, rfl, rfl, rfl, AI.start xs ys, ⟨World.ownsRow_nil _ _ _ _, World.ownsRow_nil _ _ _ _, fun g h => by cases h⟩, Below.refl _ _⟩
  case round =>
    obtain ⟨a, b, F, T, vF, vT, hf0, ht0, rfl, rfl, hAI, hTW, hbel⟩ := hrel
    subst hf0 ht0
    have HAI : Hid (AI xs ys F T a b) := hAI
    have HTW : Hid (TwoM H wr vF vT F T) := hTW
    have hla := hAI.la
    have hlb := hAI.lb
    have htab : TabAt wr gl g xs ys := HTAB.out.below (B := H) (by have := HTAB.out.lt; have := HH.out; omega) hbel
    have HTR : Hid (TabAt wr gl g xs ys) := htab
    have hbw : Below w.heap.size w wr := hb1.trans (hbel.mono hwH)
    clear hAI hTW htab
    obtain ⟨W, hW⟩ : ∃ W, W = ys.length + 1 := ⟨_, rfl⟩
    have hra := HTR.out.row a hla
    have hna := HTR.out.num a b hla hlb
    rw [← hW] at hra hna
    obtain ⟨ma, hma⟩ : ∃ ma, ma = a * W := ⟨_, rfl⟩
    rw [← hma] at hra hna
    have hD := dr_bd (xs.take a) ys b
    rw [List.length_take] at hD
    by_cases ha0 : a = 0
    · by_cases hb0 : b = 0
      · subst ha0 hb0
        have HF : Hid (un F.reverse = xs ∧ un T.reverse = ys ∧ dif F T = lv xs ys ∧ F.length ≤ 4000) := by
          have h := HAI.out
          refine ⟨by simpa using h.unF, by simpa using h.unT, ?_, by have := h.sz; omega⟩
          have := h.cnt
          rw [List.take_zero, List.take_zero, lv_left] at this
          simpa using this
        have HLN : Hid (F.length = T.length) := HAI.out.len
        have HOK : Hid ((∀ x ∈ F, okR x) ∧ (∀ x ∈ T, okR x)) := ⟨HAI.out.okF, HAI.out.okT⟩
        obtain ⟨gF, gT, hne, hHF, hHT, hLF, hLT⟩ : ∃ gF gT, gT ≠ gF ∧ H ≤ gF ∧ H ≤ gT ∧ LAt wr vF gF F ∧ LAt wr vT gT T := by
          obtain ⟨gF, hF1, hF2, hF3⟩ := HTW.out.mF.line
          obtain ⟨gT, hT1, hT2, hT3⟩ := HTW.out.mT.line
          rcases hF3 with e | hF3
          · refine ⟨gT + 1, gT, by omega, by omega, hT1, .inl ⟨e, ?_⟩, hT2⟩
            rcases hF2 with h | ⟨_, h, _⟩
            · exact h.2
            · rw [e] at h; cases h
          · rcases hT3 with e | hT3
            · refine ⟨gF, gF + 1, by omega, hF1, by omega, hF2, .inl ⟨e, ?_⟩⟩
              rcases hT2 with h | ⟨_, h, _⟩
              · exact h.2
              · rw [e] at h; cases h
            · exact ⟨gF, gT, fun e => HTW.out.ap gF hF3 (by rw [← e]; exact hT3), hF1, hT1, hF2, hT2⟩
        have HLF : Hid (LAt wr vF gF F) := hLF
        have HLT : Hid (LAt wr vT gT T) := hLT
        clear hra hna hma hD hW hLF hLT
        have hag : decide ((0 : Nat) < 0) = false := by simp
        go_upto_region 16 with (go_at_call 34; refine (Reverse_any vF gF F _ HLF.out (by have := HF.out; omega)).mono ?_; rintro e w4 ⟨rfl, hL4, hb4⟩)
        have HLT4 : Hid (LAt w4 vT gT T) := HLT.out.but hb4 hne
        have HL4 : Hid (LAt w4 vF gF F.reverse) := hL4
        clear hL4
        go_wp2_with (go_at_call 34; refine (Reverse_any vT gT T _ HLT4.out (by have := HF.out; have := HLN.out; omega)).mono ?_; rintro e w5 ⟨rfl, hL5, hb5⟩)
        go_ret2
        have h45 : Below w.heap.size w w4 := hbw.trans (hb4.below (by omega) hbw.size)
        exact ⟨vF, vT, F.reverse, T.reverse, gF, gT, rfl, HL4.out.but hb5 (fun e => hne e.symm), hL5, hne, by omega, HF.out.1, HF.out.2.1, by simp [HLN.out], by have := HF.out; have := HLN.out; simp; omega, by rw [dif_rev _ _ HLN.out]; exact HF.out.2.2.1, fun x hx => HOK.out.1 x (List.mem_reverse.1 hx), fun x hx => HOK.out.2 x (List.mem_reverse.1 hx), h45.trans (hb5.below (by omega) h45.size)⟩
      · have HA0 : Hid (a = 0) := ha0
        obtain ⟨b1, hb1e⟩ : ∃ b1, b = b1 + 1 := ⟨b - 1, by omega⟩
        have hnc := HTR.out.num a b1 hla (by omega)
        rw [← hW, ← hma] at hnc
        have hD2 := dr_bd (xs.take a) ys b1
        rw [List.length_take] at hD2
        obtain ⟨y, hy⟩ : ∃ y, ys[b1]? = some y := ⟨_, List.getElem?_eq_getElem (by omega)⟩
        have HYB : Hid (ys[b1]? = some y) := hy
        have hyr : isR y = true := HYR.out y (List.mem_of_getElem? hy)
        have HYI : Hid (isR y = true) := hyr
        have hyne : (y != -1) = true := by have := isR_ne hyr; simpa using this
        obtain ⟨gy, offy, rfl, hgy, hcy⟩ := (HY.out.below hbw).at hy
        have HB1X : Hid (b = b1 + 1) := hb1e
        have hwb : IntKind.i64.wrap ((b : Int) - 1) = (b1 : Int) := by rw [IntKind.wrap_i64]; omega
        have hbg : decide (0 < b) = true := by simp; omega
        have hbg2 : (0 : Int) < (b : Int) := by omega
        have hbb3 : (b : Int) < (ys.length : Int) + 1 := by omega
        have hb1b : (b1 : Int) < (ys.length : Int) + 1 := by omega
        have hb1c : (b1 : Int) < (ys.length : Int) := by omega
        have hbb4 : (b : Int) < (W : Int) := by omega
        have hb1d : (b1 : Int) < (W : Int) := by omega
        have hag : decide (0 < a) = false := by rw [ha0]; rfl
        have hc2 : lv (xs.take a) (ys.take b) = lv (xs.take a) (ys.take b1) + 1 := by
          rw [ha0, HB1X.out, List.take_zero]; exact lv_zero_left ys (by omega)
        have HAN : Hid (AI xs ys (F ++ [-1]) (T ++ [y]) a b1) := by
          have h := HAI.out
          rw [HB1X.out] at h hc2
          exact h.two HYB.out HYI.out hc2
        generalize lv (xs.take a) (ys.take b) = d at *
        generalize lv (xs.take a) (ys.take b1) = d2 at *
        have hwd2 : IntKind.i64.wrap ((d2 : Int) + 1) = (d2 : Int) + 1 := by rw [IntKind.wrap_i64]; omega
        have hde2 : ((d : Int) == (d2 : Int) + 1) = true := by rw [hc2]; simp
        have hab : (a : Int) < (xs.length : Int) + 1 := by omega
        clear hc2 ha0 hb0 hb1e hma hy hyr hW
        go_wp2
        go_quiet (fail)
        go_wp2
        go_quiet (fail)
        go_upto_region 14 with (fail)
        generalize hW0 : wr.drewN _ = W0
        have hD0 : Dn wr W0 := ⟨_, hW0.symm⟩
        clear hW0
        have HT0 : Hid (TwoM H W0 vF vT F T) := HTW.out.dn hD0
        have HB0 : Hid (Below H w1 W0) := by obtain ⟨n, rfl⟩ := hD0; exact below_drewN hbel n
        have hH0 : Hid (H ≤ W0.heap.size) := by unfold Hid; have := HB0.out.size; have := HH.out; omega
        go_wp2_with (at_builtin; refine append_m rfl _ _ _ rfl H _ _ vF F (-1) rfl HT0.out.mF rfl rfl (by have := HAI.out.sz; omega) hH0.out ?_)
        intro v1 wm hm1 hb1 hk1 ho1
        have HM1 : Hid (Made H wm v1 (F ++ [(-1)])) := hm1
        have HMT : Hid (Made H wm vT T) := HT0.out.mid hk1
        have hsm : Hid (W0.heap.size ≤ wm.heap.size) := hb1.size
        have HHm : Hid (H ≤ wm.heap.size) := Nat.le_trans hH0.out hsm.out
        have HO1 : Hid (v1.ownBlock = vF.ownBlock ∨ ∃ g, v1.ownBlock = some g ∧ W0.heap.size ≤ g) := ho1
        have HB1 : Hid (Below H W0 wm) := hb1
        clear hm1 hk1 ho1 hb1
        go_wp2_with (at_builtin; refine append_m rfl _ _ _ rfl H _ _ vT T y rfl HMT.out rfl rfl (by have := HAI.out.sz; have := HAI.out.len; omega) HHm.out ?_)
        intro v2 wn hm2 hb2 hk2 ho2
        have HTN : Hid (TwoM H wn v1 v2 (F ++ [(-1)]) (T ++ [y])) := HT0.out.step HM1.out HO1.out hm2 hk2 ho2
        have HBN : Hid (Below H w1 wn) := (HB0.out.trans HB1.out).trans hb2
        clear hm2 hk2 ho2 hb2
        go_wp2
        go_roundw
        case rel =>
          first
            | exact ⟨a, b1, F ++ [(-1)], T ++ [y], _, _, rfl, rfl, rfl, rfl, HAN.out, HTN.out, HBN.out⟩
            | (repeat (apply Exists.intro)
               refine ⟨?_, rfl⟩
               exact ⟨a, b1, F ++ [(-1)], T ++ [y], _, _, rfl, rfl, rfl, rfl, HAN.out, HTN.out, HBN.out⟩)
        case measure => simp [intOf]; first | omega | (have := HA1.out; omega) | (have := HB1X.out; omega) | (have := HA1.out; have := HB1X.out; omega)
    · obtain ⟨a1, ha1⟩ : ∃ a1, a = a1 + 1 := ⟨a - 1, by omega⟩
      have hrb := HTR.out.row a1 (by omega)
      have hnb := HTR.out.num a1 b (by omega) hlb
      rw [← hW] at hrb hnb
      obtain ⟨mb, hmb⟩ : ∃ mb, mb = a1 * W := ⟨_, rfl⟩
      rw [← hmb] at hrb hnb
      have hD1 := dr_bd (xs.take a1) ys b
      rw [List.length_take] at hD1
      obtain ⟨x, hx⟩ : ∃ x, xs[a1]? = some x := ⟨_, List.getElem?_eq_getElem (by omega)⟩
      have HXA : Hid (xs[a1]? = some x) := hx
      have hxr : isR x = true := HXR.out x (List.mem_of_getElem? hx)
      have HXI : Hid (isR x = true) := hxr
      have hxne : (x != -1) = true := by have := isR_ne hxr; simpa using this
      obtain ⟨gx, offx, rfl, hgx, hcx⟩ := (HX.out.below hbw).at hx
      have HA1 : Hid (a = a1 + 1) := ha1
      have hwa : IntKind.i64.wrap ((a : Int) - 1) = (a1 : Int) := by rw [IntKind.wrap_i64]; omega
      have hag : decide (0 < a) = true := by simp; omega
      have hag2 : (0 : Int) < (a : Int) := by omega
      have hab : (a : Int) < (xs.length : Int) + 1 := by omega
      have ha1b : (a1 : Int) < (xs.length : Int) + 1 := by omega
      have ha1c : (a1 : Int) < (xs.length : Int) := by omega
      have hbb : (b : Int) < (W : Int) := by omega
      by_cases hc1 : lv (xs.take a) (ys.take b) = lv (xs.take a1) (ys.take b) + 1
      · have HAN : Hid (AI xs ys (F ++ [x]) (T ++ [-1]) a1 b) := by
          have h := HAI.out
          rw [HA1.out] at h hc1
          exact h.one HXA.out HXI.out hc1
        generalize lv (xs.take a) (ys.take b) = d at *
        generalize lv (xs.take a1) (ys.take b) = d1 at *
        have hwd : IntKind.i64.wrap ((d1 : Int) + 1) = (d1 : Int) + 1 := by rw [IntKind.wrap_i64]; omega
        have hde : ((d : Int) == (d1 : Int) + 1) = true := by rw [hc1]; simp
        clear hc1 ha0 ha1 hma hmb hx hxr hW
        go_wp2
        go_quiet (fail)
        go_upto_region 14 with (fail)
        generalize hW0 : wr.drewN _ = W0
        have hD0 : Dn wr W0 := ⟨_, hW0.symm⟩
        clear hW0
        have HT0 : Hid (TwoM H W0 vF vT F T) := HTW.out.dn hD0
        have HB0 : Hid (Below H w1 W0) := by obtain ⟨n, rfl⟩ := hD0; exact below_drewN hbel n
        have hH0 : Hid (H ≤ W0.heap.size) := by unfold Hid; have := HB0.out.size; have := HH.out; omega
        go_wp2_with (at_builtin; refine append_m rfl _ _ _ rfl H _ _ vF F x rfl HT0.out.mF rfl rfl (by have := HAI.out.sz; omega) hH0.out ?_)
        intro v1 wm hm1 hb1 hk1 ho1
        have HM1 : Hid (Made H wm v1 (F ++ [x])) := hm1
        have HMT : Hid (Made H wm vT T) := HT0.out.mid hk1
        have hsm : Hid (W0.heap.size ≤ wm.heap.size) := hb1.size
        have HHm : Hid (H ≤ wm.heap.size) := Nat.le_trans hH0.out hsm.out
        have HO1 : Hid (v1.ownBlock = vF.ownBlock ∨ ∃ g, v1.ownBlock = some g ∧ W0.heap.size ≤ g) := ho1
        have HB1 : Hid (Below H W0 wm) := hb1
        clear hm1 hk1 ho1 hb1
        go_wp2_with (at_builtin; refine append_m rfl _ _ _ rfl H _ _ vT T (-1) rfl HMT.out rfl rfl (by have := HAI.out.sz; have := HAI.out.len; omega) HHm.out ?_)
        intro v2 wn hm2 hb2 hk2 ho2
        have HTN : Hid (TwoM H wn v1 v2 (F ++ [x]) (T ++ [(-1)])) := HT0.out.step HM1.out HO1.out hm2 hk2 ho2
        have HBN : Hid (Below H w1 wn) := (HB0.out.trans HB1.out).trans hb2
        clear hm2 hk2 ho2 hb2
        go_wp2
        go_roundw
        case rel =>
          first
            | exact ⟨a1, b, F ++ [x], T ++ [(-1)], _, _, rfl, rfl, rfl, rfl, HAN.out, HTN.out, HBN.out⟩
            | (repeat (apply Exists.intro)
               refine ⟨?_, rfl⟩
               exact ⟨a1, b, F ++ [x], T ++ [(-1)], _, _, rfl, rfl, rfl, rfl, HAN.out, HTN.out, HBN.out⟩)
        case measure => simp [intOf]; first | omega | (have := HA1.out; omega) | (have := HB1X.out; omega) | (have := HA1.out; have := HB1X.out; omega)
      · have hb0 : b ≠ 0 := fun e => hc1 (by rw [e, List.take_zero, HA1.out]; exact lv_zero_right xs (by omega))
        obtain ⟨b1, hb1e⟩ : ∃ b1, b = b1 + 1 := ⟨b - 1, by omega⟩
        have hnc := HTR.out.num a b1 hla (by omega)
        rw [← hW, ← hma] at hnc
        have hD2 := dr_bd (xs.take a) ys b1
        rw [List.length_take] at hD2
        obtain ⟨y, hy⟩ : ∃ y, ys[b1]? = some y := ⟨_, List.getElem?_eq_getElem (by omega)⟩
        have HYB : Hid (ys[b1]? = some y) := hy
        have hyr : isR y = true := HYR.out y (List.mem_of_getElem? hy)
        have HYI : Hid (isR y = true) := hyr
        have hyne : (y != -1) = true := by have := isR_ne hyr; simpa using this
        obtain ⟨gy, offy, rfl, hgy, hcy⟩ := (HY.out.below hbw).at hy
        have HB1X : Hid (b = b1 + 1) := hb1e
        have hwb : IntKind.i64.wrap ((b : Int) - 1) = (b1 : Int) := by rw [IntKind.wrap_i64]; omega
        have hbg : decide (0 < b) = true := by simp; omega
        have hbg2 : (0 : Int) < (b : Int) := by omega
        have hbb3 : (b : Int) < (ys.length : Int) + 1 := by omega
        have hb1b : (b1 : Int) < (ys.length : Int) + 1 := by omega
        have hb1c : (b1 : Int) < (ys.length : Int) := by omega
        have hbb4 : (b : Int) < (W : Int) := by omega
        have hb1d : (b1 : Int) < (W : Int) := by omega
        have HC1 : Hid (lv (xs.take a) (ys.take b) ≠ lv (xs.take a1) (ys.take b) + 1) := hc1
        by_cases hc2 : lv (xs.take a) (ys.take b) = lv (xs.take a) (ys.take b1) + 1
        · have HAN : Hid (AI xs ys (F ++ [-1]) (T ++ [y]) a b1) := by
            have h := HAI.out
            rw [HB1X.out] at h hc2
            exact h.two HYB.out HYI.out hc2
          clear HC1
          generalize lv (xs.take a) (ys.take b) = d at *
          generalize lv (xs.take a1) (ys.take b) = d1 at *
          generalize lv (xs.take a) (ys.take b1) = d2 at *
          have hwd : IntKind.i64.wrap ((d1 : Int) + 1) = (d1 : Int) + 1 := by rw [IntKind.wrap_i64]; omega
          have hde : ((d : Int) == (d1 : Int) + 1) = false := beq_eq_false_iff_ne.2 (by omega)
          have hwd2 : IntKind.i64.wrap ((d2 : Int) + 1) = (d2 : Int) + 1 := by rw [IntKind.wrap_i64]; omega
          have hde2 : ((d : Int) == (d2 : Int) + 1) = true := by rw [hc2]; simp
          clear hc1 hc2 ha0 hb0 hb1e ha1 hma hmb hx hxr hy hyr hW
          go_wp2
          go_quiet (fail)
          go_wp2
          go_quiet (fail)
          go_upto_region 14 with (fail)
          generalize hW0 : wr.drewN _ = W0
          have hD0 : Dn wr W0 := ⟨_, hW0.symm⟩
          clear hW0
          have HT0 : Hid (TwoM H W0 vF vT F T) := HTW.out.dn hD0
          have HB0 : Hid (Below H w1 W0) := by obtain ⟨n, rfl⟩ := hD0; exact below_drewN hbel n
          have hH0 : Hid (H ≤ W0.heap.size) := by unfold Hid; have := HB0.out.size; have := HH.out; omega
          go_wp2_with (at_builtin; refine append_m rfl _ _ _ rfl H _ _ vF F (-1) rfl HT0.out.mF rfl rfl (by have := HAI.out.sz; omega) hH0.out ?_)
          intro v1 wm hm1 hb1 hk1 ho1
          have HM1 : Hid (Made H wm v1 (F ++ [(-1)])) := hm1
          have HMT : Hid (Made H wm vT T) := HT0.out.mid hk1
          have hsm : Hid (W0.heap.size ≤ wm.heap.size) := hb1.size
          have HHm : Hid (H ≤ wm.heap.size) := Nat.le_trans hH0.out hsm.out
          have HO1 : Hid (v1.ownBlock = vF.ownBlock ∨ ∃ g, v1.ownBlock = some g ∧ W0.heap.size ≤ g) := ho1
          have HB1 : Hid (Below H W0 wm) := hb1
          clear hm1 hk1 ho1 hb1
          go_wp2_with (at_builtin; refine append_m rfl _ _ _ rfl H _ _ vT T y rfl HMT.out rfl rfl (by have := HAI.out.sz; have := HAI.out.len; omega) HHm.out ?_)
          intro v2 wn hm2 hb2 hk2 ho2
          have HTN : Hid (TwoM H wn v1 v2 (F ++ [(-1)]) (T ++ [y])) := HT0.out.step HM1.out HO1.out hm2 hk2 ho2
          have HBN : Hid (Below H w1 wn) := (HB0.out.trans HB1.out).trans hb2
          clear hm2 hk2 ho2 hb2
          go_wp2
          go_roundw
          case rel =>
            first
              | exact ⟨a, b1, F ++ [(-1)], T ++ [y], _, _, rfl, rfl, rfl, rfl, HAN.out, HTN.out, HBN.out⟩
              | (repeat (apply Exists.intro)
                 refine ⟨?_, rfl⟩
                 exact ⟨a, b1, F ++ [(-1)], T ++ [y], _, _, rfl, rfl, rfl, rfl, HAN.out, HTN.out, HBN.out⟩)
          case measure => simp [intOf]; first | omega | (have := HA1.out; omega) | (have := HB1X.out; omega) | (have := HA1.out; have := HB1X.out; omega)
        · have HAN : Hid (AI xs ys (F ++ [x]) (T ++ [y]) a1 b1) := by
            have h := HAI.out
            have h1 := HC1.out
            rw [HB1X.out, HA1.out] at h h1 hc2
            exact h.both HXA.out HYB.out HXI.out HYI.out h1 hc2
          clear HC1
          generalize lv (xs.take a) (ys.take b) = d at *
          generalize lv (xs.take a1) (ys.take b) = d1 at *
          generalize lv (xs.take a) (ys.take b1) = d2 at *
          have hwd : IntKind.i64.wrap ((d1 : Int) + 1) = (d1 : Int) + 1 := by rw [IntKind.wrap_i64]; omega
          have hde : ((d : Int) == (d1 : Int) + 1) = false := beq_eq_false_iff_ne.2 (by omega)
          have hwd2 : IntKind.i64.wrap ((d2 : Int) + 1) = (d2 : Int) + 1 := by rw [IntKind.wrap_i64]; omega
          have hde2 : ((d : Int) == (d2 : Int) + 1) = false := beq_eq_false_iff_ne.2 (by omega)
          clear hc1 hc2 ha0 hb0 hb1e ha1 hma hmb hx hxr hy hyr hW
          go_wp2
          go_quiet (fail)
          go_wp2
          go_quiet (fail)
          go_wp2
          go_quiet (fail)
          go_upto_region 14 with (fail)
          generalize hW0 : wr.drewN _ = W0
          have hD0 : Dn wr W0 := ⟨_, hW0.symm⟩
          clear hW0
          have HT0 : Hid (TwoM H W0 vF vT F T) := HTW.out.dn hD0
          have HB0 : Hid (Below H w1 W0) := by obtain ⟨n, rfl⟩ := hD0; exact below_drewN hbel n
          have hH0 : Hid (H ≤ W0.heap.size) := by unfold Hid; have := HB0.out.size; have := HH.out; omega
          go_wp2_with (at_builtin; refine append_m rfl _ _ _ rfl H _ _ vF F x rfl HT0.out.mF rfl rfl (by have := HAI.out.sz; omega) hH0.out ?_)
          intro v1 wm hm1 hb1 hk1 ho1
          have HM1 : Hid (Made H wm v1 (F ++ [x])) := hm1
          have HMT : Hid (Made H wm vT T) := HT0.out.mid hk1
          have hsm : Hid (W0.heap.size ≤ wm.heap.size) := hb1.size
          have HHm : Hid (H ≤ wm.heap.size) := Nat.le_trans hH0.out hsm.out
          have HO1 : Hid (v1.ownBlock = vF.ownBlock ∨ ∃ g, v1.ownBlock = some g ∧ W0.heap.size ≤ g) := ho1
          have HB1 : Hid (Below H W0 wm) := hb1
          clear hm1 hk1 ho1 hb1
          go_wp2_with (at_builtin; refine append_m rfl _ _ _ rfl H _ _ vT T y rfl HMT.out rfl rfl (by have := HAI.out.sz; have := HAI.out.len; omega) HHm.out ?_)
          intro v2 wn hm2 hb2 hk2 ho2
          have HTN : Hid (TwoM H wn v1 v2 (F ++ [x]) (T ++ [y])) := HT0.out.step HM1.out HO1.out hm2 hk2 ho2
          have HBN : Hid (Below H w1 wn) := (HB0.out.trans HB1.out).trans hb2
          clear hm2 hk2 ho2 hb2
          go_wp2
          go_roundw
          case rel =>
            first
              | exact ⟨a1, b1, F ++ [x], T ++ [y], _, _, rfl, rfl, rfl, rfl, HAN.out, HTN.out, HBN.out⟩
              | (repeat (apply Exists.intro)
                 refine ⟨?_, rfl⟩
                 exact ⟨a1, b1, F ++ [x], T ++ [y], _, _, rfl, rfl, rfl, rfl, HAN.out, HTN.out, HBN.out⟩)
          case measure => simp [intOf]; first | omega | (have := HA1.out; omega) | (have := HB1X.out; omega) | (have := HA1.out; have := HB1X.out; omega)
end Go.Proofs.YtjfbildaaobfpaaDoor
