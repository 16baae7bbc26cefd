/- FstSays: the law's own walk. -/
import Derived.Test.YtfekpkjcociidaaDoorFFind
namespace Go.Proofs.YtfekpkjcociidaaDoor
open Go.RowKit Nums Fm
set_option maxRecDepth 100000

/-- Runes of any text, by the reference. -/
theorem refRunes_or {s : ByteArray} (hs : s.size ≤ 1048576) (W : World) : Calls Tryd.prog 16 #[.string s] W fun e w' => ∃ v ok xs, e = .returned (.tuple #[v, .bool ok]) ∧ RunesAt w'.heap.size w' v xs ∧ Below W.heap.size W w' ∧ xs.length ≤ 1048576 ∧ (ok = true → rs s.data.toList = some xs) := by
  refine (RefRunes_any s W (by omega) (room_of_length (by rw [size_length]; omega))).mono ?_
  rintro e w' ⟨v, hb, ⟨h1, h2, h3⟩ | ⟨ys, h1, h2, h3⟩⟩
  · exact ⟨v, false, [], h3, ⟨none, 0, by rw [h2]; rfl, fun h => by simp at h⟩, hb, by simp, fun h => by cases h⟩
  · have := (rs_len h1).2
    rw [size_length] at this
    exact ⟨v, true, ys, h2, h3.runes, hb, by omega, fun _ => h1⟩
set_option maxHeartbeats 4000000 in
theorem says_walk (v : Value) (s : ByteArray) (w : World) (ht : Tabs w) (l : List Pr) (h : PRow w v l) (hs : Sm l) (hl : l.length ≤ 9223372036854775807) (_ : s.size ≤ maxLen) (hs20 : s.size ≤ 1048576) :
    Calls Tryd.prog 4 #[v, .string s] w fun e w' => e = .returned (.bool true) ∧ Below w.heap.size w w' := by
  have HBLD := Build_any w v l h hl hs ht
  obtain ⟨C, hC⟩ : ∃ C, buildE l = C := ⟨_, rfl⟩
  rw [hC] at HBLD
  have HT : Hid (Tabs w) := ht
  have HC : Hid (buildE l = C) := hC
  obtain ⟨ad0, cap0, rfl⟩ := h.form
  obtain ⟨nl, hnl⟩ : ∃ nl, l.length = nl := ⟨_, rfl⟩
  have HNL : Hid (l.length = nl) := hnl
  rw [hnl] at HBLD hl h ⊢
  have HPR : Hid (PRow w (.slice ad0 nl cap0) l) := h
  have HB0 : Hid (Calls Tryd.prog 13 #[.slice ad0 nl cap0] w fun e w' => ∃ base vs b, e = .returned (.tuple #[.agg #[.int .i64 base, vs], .int .i64 C]) ∧ BuildSays w w' l base vs b) := HBLD
  have HA : Hid (∀ w1 base vs b, BuildSays w w1 l base vs b → ∀ o, Tabs (w1.alloc o) ∧ Below w.heap.size w (w1.alloc o)) := fun w1 base vs b h o => by
    have hb := h.bel.alloc h.bel.size o
    exact ⟨HT.out.below hb, hb⟩
  have HRN : Hid (∀ W, Calls Tryd.prog 16 #[.string s] W fun e w' => ∃ v ok xs, e = .returned (.tuple #[v, .bool ok]) ∧ RunesAt w'.heap.size w' v xs ∧ Below W.heap.size W w' ∧ xs.length ≤ 1048576 ∧ (ok = true → rs s.data.toList = some xs)) := fun W => refRunes_or hs20 W
  clear h hs ht HBLD hC hnl hs20
  go_enter Tryd.func4, Tryd.ntmps4
  by_cases hC0 : ¬ C = 0
  · have hCb : (C == 0) = false := beq_eq_false_iff_ne.2 hC0
    clear hC0
    go_wp2_with (first
      | (go_at_call 13; refine HB0.out.mono ?_; rintro e w1 ⟨base, vs, b, rfl, hS⟩; obtain ⟨sd, sc, hvs⟩ := hS.row.shape; subst hvs; have HS : Hid _ := hS; clear hS)
      | (go_at_call 12; refine (alive_any _ (HA.out _ _ _ _ HS.out _).1).mono ?_; rintro e w2 ⟨rfl, hb2⟩))
    go_ret
    exact ⟨rfl, (HA.out _ _ _ _ HS.out _).2.trans (hb2.mono (HA.out _ _ _ _ HS.out _).2.size)⟩
  have hC0' : C = 0 := Classical.not_not.1 hC0
  subst hC0'
  clear hC0
  have HD : Hid (DictOk l) := dict_ok HC.out
  go_upto_region 4 with (go_at_call 13; refine HB0.out.mono ?_; rintro e w1 ⟨base, vs, b, rfl, hS⟩; obtain ⟨sd, sc, hvs⟩ := hS.row.shape; obtain ⟨nb, hnb⟩ : ∃ nb, b.length = nb := ⟨_, rfl⟩; rw [hnb] at hvs; subst hvs; have HS : Hid _ := hS; have HNB : Hid (b.length = nb) := hnb; clear hS hnb)
  have HBH : Hid _ := Behind.mk' HS.out
  obtain ⟨D, hD, hroot⟩ := mach_root HC.out
  rw [HS.out.mach] at hD hroot
  have HI : Hid (Inv D b) := hD
  have HROOT : Hid (∀ xs, Stands D b (ents l) xs 0 (b.length - 1) base) := hroot
  have HNBS : Hid (b.length ≤ 102400) := by have := mach_small (l := l); rw [HS.out.mach] at this; exact this
  obtain ⟨mb, hmb⟩ : ∃ mb, mb = w1.heap.size := ⟨_, rfl⟩
  obtain ⟨wm, hwm⟩ : ∃ wm, wm = w1.alloc (.cells #[.int .i64 base, .slice sd nb sc] 27) := ⟨_, rfl⟩
  have HST : Hid (Behind w wm mb base (.slice sd nb sc) b) := by rw [hmb, hwm]; exact HBH.out
  rw [← hmb, ← hwm]
  clear hmb hwm HBH HS hD hroot
  go_upto_region 5 with (go_at_call 16; refine (HRN.out _).mono ?_; rintro e w3 ⟨v3, ok, xs, rfl, hr3, hb3, hxl, hok⟩; have HR3 : Hid _ := hr3; have HB3 : Hid _ := hb3; have HOK : Hid _ := hok; clear hr3 hb3 hok)
  have HBh3 : Hid (Behind w w3 mb base (.slice sd nb sc) b) := HST.out.below HB3.out
  have m0 : w3.cell? ⟨mb, 0, none⟩ = some (.int .i64 base) := by simp [World.cell?, HBh3.out.mac]
  have m1 : w3.cell? ⟨mb, 1, none⟩ = some (.slice sd nb sc) := by simp [World.cell?, HBh3.out.mac]
  obtain ⟨fx, hfx⟩ : ∃ fx, wt xs (ents l) = fx := ⟨_, rfl⟩
  have HFO := follow_any w.heap.size w3 base (.slice sd nb sc) b D (ents l) HBh3.out.row HI.out HNBS.out v3 xs HR3.out (by omega) (HROOT.out xs)
  rw [hfx] at HFO
  have HFX : Hid (wt xs (ents l) = fx) := hfx
  have HFOH : Hid (Calls Tryd.prog 17 #[.agg #[.int .i64 base, .slice sd nb sc], v3] w3 fun e w' => e = .returned (.tuple #[.int .i64 (fx.getD 0), .bool fx.isSome]) ∧ Below w3.heap.size w3 w') := HFO
  clear HFO hfx
  obtain ⟨p, hp⟩ : ∃ p, fx.getD 0 = p := ⟨_, rfl⟩
  obtain ⟨o, ho⟩ : ∃ o, fx.isSome = o := ⟨_, rfl⟩
  rw [hp, ho] at HFOH
  have HPO : Hid (fx.getD 0 = p ∧ fx.isSome = o) := ⟨hp, ho⟩
  clear hp ho
  go_upto_region 6 with (go_at_call 17; refine HFOH.out.mono ?_; rintro e w4 ⟨rfl, hb4⟩)
  have HB4 : Hid (Below w.heap.size w w4) := HBh3.out.bel.trans (hb4.mono HBh3.out.bel.size)
  have HFI := refFind_any w4 (.slice ad0 nl cap0) l s (HPR.out.below HB4.out) (by rw [HNL.out]; exact hl)
  obtain ⟨q, hq⟩ : ∃ q, (Pm.find l s).getD 0 = q := ⟨_, rfl⟩
  obtain ⟨r, hr⟩ : ∃ r, (Pm.find l s).isSome = r := ⟨_, rfl⟩
  rw [hq, hr] at HFI
  have HFIH : Hid (Calls Tryd.prog 18 #[.slice ad0 nl cap0, .string s] w4 fun e w' => e = .returned (.tuple #[.int .i64 q, .bool r]) ∧ w' = w4) := HFI
  have HEQ : Hid (ok = true → p = q ∧ o = r) := fun h => by
    have h1 := find_wt HD.out (HOK.out h)
    rw [HFX.out] at h1
    rw [← hq, ← hr, ← HPO.out.1, ← HPO.out.2, h1]
    exact ⟨rfl, rfl⟩
  have HAL := alive_any w4 (HT.out.below HB4.out)
  have HALH : Hid (Calls Tryd.prog 12 #[] w4 fun e w' => e = .returned (.bool true) ∧ Below w4.heap.size w4 w') := HAL
  clear HFI HAL hq hr m0 m1 hb4
  cases ok with
  | false =>
    go_wp2_with (first
      | (go_at_call 18; refine HFIH.out.mono ?_; rintro e w5 ⟨rfl, rfl⟩)
      | (go_at_call 12; refine HALH.out.mono ?_; rintro e w6 ⟨rfl, hb6⟩))
    go_ret
    exact ⟨rfl, HB4.out.trans (hb6.mono HB4.out.size)⟩
  | true =>
    obtain ⟨rfl, rfl⟩ := HEQ.out rfl
    have hpp : (p == p) = true := beq_self_eq_true _
    go_wp2_with (first
      | (go_at_call 18; refine HFIH.out.mono ?_; rintro e w5 ⟨rfl, rfl⟩)
      | (go_at_call 12; refine HALH.out.mono ?_; rintro e w6 ⟨rfl, hb6⟩))
    go_ret
    exact ⟨by simp, HB4.out.trans (hb6.mono HB4.out.size)⟩
end Go.Proofs.YtfekpkjcociidaaDoor
