/- FstWords: the law's own walk. -/
import Derived.Test.YtnfjgbfmkelalaaDoorFFollow
import Derived.Test.YtnfjgbfmkelalaaDoorRefAll
namespace Go.Proofs.YtnfjgbfmkelalaaDoor
open Go.RowKit Nums Fm
set_option maxRecDepth 100000

theorem lexL_irr : ∀ x : List Int, lexL x x = false
  | [] => rfl
  | a :: x => by rw [lexL_same, lexL_irr x]
theorem wt_mem : ∀ {S : List En} {xs : List Int} {n : Int}, Rise S → (xs, n) ∈ S → wt xs S = some n
  | [], _, _, _, h => by cases h
  | e :: r, xs, n, hr, h => by
    obtain ⟨h1, h2⟩ := List.pairwise_cons.1 hr
    rw [wt_cons]
    rcases List.mem_cons.1 h with h | h
    · rw [← h, if_pos rfl]
    · have := h1 _ h
      have hne : e.1 ≠ xs := fun e2 => by rw [e2] at this; simp only [lexL_irr] at this; cases this
      rw [if_neg hne, wt_mem h2 h]
/-- Runes of a text, by the reference. -/
theorem refRunes_yes {s : ByteArray} {xs : List Int} (h : rs s.data.toList = some xs) (hx : xs.length ≤ 1048576) (hs : s.size ≤ 9223372036854775807) (W : World) : Calls Tryd.prog 16 #[.string s] W fun e w' => ∃ v, e = .returned (.tuple #[v, .bool true]) ∧ RunesAt w'.heap.size w' v xs ∧ Below W.heap.size W w' := by
  refine (RefRunes_any s W hs (room_of_runes h (by omega))).mono ?_
  rintro e w' ⟨v, hb, ⟨h1, _⟩ | ⟨ys, h1, h2, h3⟩⟩
  · rw [h] at h1; cases h1
  · rw [h] at h1; cases h1
    exact ⟨v, h2, h3.runes, hb⟩
set_option maxHeartbeats 4000000 in
theorem words_walk (v : Value) (w : World) (ht : Tabs w) (l : List Pr) (h : PRow w v l) (hs : Sm l) (hl : l.length ≤ 9223372036854775807) :
    Calls Tryd.prog 5 #[v] w fun e w' => e = .returned (.bool true) ∧ Below w.heap.size w w' := by
  have HBLD := Build_any w v l h hl hs ht
  obtain ⟨C, hC⟩ : ∃ C, buildE l = C := ⟨_, rfl⟩
  rw [hC] at HBLD
  have HT : Hid (Tabs w) := ht
  have HC : Hid (buildE l = C) := hC
  have HSM : Hid (Sm l) := hs
  obtain ⟨ad0, cap0, rfl⟩ := h.form
  obtain ⟨nl, hnl⟩ : ∃ nl, l.length = nl := ⟨_, rfl⟩
  have HNL : Hid (l.length = nl) := hnl
  rw [hnl] at HBLD hl h ⊢
  have HPR : Hid (PRow w (.slice ad0 nl cap0) l) := h
  have HB0 : Hid (Calls Tryd.prog 13 #[.slice ad0 nl cap0] w fun e w' => ∃ base vs b, e = .returned (.tuple #[.agg #[.int .i64 base, vs], .int .i64 C]) ∧ BuildSays w w' l base vs b) := HBLD
  have HA : Hid (∀ w1 base vs b, BuildSays w w1 l base vs b → ∀ o, Tabs (w1.alloc o) ∧ Below w.heap.size w (w1.alloc o)) := fun w1 base vs b h o => by
    have hb := h.bel.alloc h.bel.size o
    exact ⟨HT.out.below hb, hb⟩
  clear h hs ht HBLD hC hnl
  go_enter Tryd.func5, Tryd.ntmps5
  by_cases hC0 : ¬ C = 0
  · have hCb : (C == 0) = false := beq_eq_false_iff_ne.2 hC0
    clear hC0
    go_wp2_with (first
      | (go_at_call 13; refine HB0.out.mono ?_; rintro e w1 ⟨base, vs, b, rfl, hS⟩; obtain ⟨sd, sc, hvs⟩ := hS.row.shape; subst hvs; have HS : Hid _ := hS; clear hS)
      | (go_at_call 12; refine (alive_any _ (HA.out _ _ _ _ HS.out _).1).mono ?_; rintro e w2 ⟨rfl, hb2⟩))
    go_ret
    exact ⟨rfl, (HA.out _ _ _ _ HS.out _).2.trans (hb2.mono (HA.out _ _ _ _ HS.out _).2.size)⟩
  have hC0' : C = 0 := Classical.not_not.1 hC0
  subst hC0'
  clear hC0
  have HD : Hid (DictOk l) := dict_ok HC.out
  go_upto_region 4 with (go_at_call 13; refine HB0.out.mono ?_; rintro e w1 ⟨base, vs, b, rfl, hS⟩; obtain ⟨sd, sc, hvs⟩ := hS.row.shape; obtain ⟨nb, hnb⟩ : ∃ nb, b.length = nb := ⟨_, rfl⟩; rw [hnb] at hvs; subst hvs; have HS : Hid _ := hS; have HNB : Hid (b.length = nb) := hnb; clear hS hnb)
  have HBH : Hid _ := Behind.mk' HS.out
  obtain ⟨D, hD, hroot⟩ := mach_root HC.out
  rw [HS.out.mach] at hD hroot
  have HI : Hid (Inv D b) := hD
  have HROOT : Hid (∀ xs, Stands D b (ents l) xs 0 (b.length - 1) base) := hroot
  have HNBS : Hid (b.length ≤ 102400) := by have := mach_small (l := l); rw [HS.out.mach] at this; exact this
  obtain ⟨mb, hmb⟩ : ∃ mb, mb = w1.heap.size := ⟨_, rfl⟩
  obtain ⟨wm, hwm⟩ : ∃ wm, wm = w1.alloc (.cells #[.int .i64 base, .slice sd nb sc] 27) := ⟨_, rfl⟩
  have HST : Hid (Behind w wm mb base (.slice sd nb sc) b) := by rw [hmb, hwm]; exact HBH.out
  rw [← hmb, ← hwm]
  clear hmb hwm HBH HS hD hroot
  go_wp2
  go_loopg [6, 7, 8, 9, 10, 21] nl (fun gm _ _ _ _ _ s21 wr => ∃ (j : Nat), s21 = .int .i64 j ∧ j ≤ nl ∧ nl - j ≤ gm ∧ Hid (Behind w wr mb base (.slice sd nb sc) b))
  case atStart => exact ⟨0, rfl, Nat.zero_le _, by omega, HST⟩
  case round =>
    obtain ⟨j, rfl, hj, hgm, HB⟩ := hrel
    by_cases hlt : j < nl
    · have hltz : (j : Int) < (nl : Int) := by omega
      obtain ⟨x, hx⟩ : ∃ x, l[j]? = some x := ⟨l[j]'(by have := HNL.out; omega), List.getElem?_eq_getElem _⟩
      obtain ⟨g, off, rfl, hg, hcell⟩ := (HPR.out.below HB.out.bel).at (by omega)
      obtain ⟨c0, c1⟩ := hcell j x hx
      obtain ⟨xs, hxs, hx24, hx96⟩ := HD.out.wd x (List.mem_of_getElem? hx)
      have HWT : Hid (wt xs (ents l) = some x.2) := wt_mem HD.out.rise (by rw [ents]; exact List.mem_map.2 ⟨x, List.mem_of_getElem? hx, by rw [entOf, hxs]; rfl⟩)
      have HRN : Hid (∀ W, Calls Tryd.prog 16 #[.string x.1] W fun e w' => ∃ v, e = .returned (.tuple #[v, .bool true]) ∧ RunesAt w'.heap.size w' v xs ∧ Below W.heap.size W w') := fun W => refRunes_yes hxs (by omega) (by omega) W
      clear hcell hx hxs
      go_upto_region 7 with fail
      obtain ⟨wz, hwz⟩ : ∃ wz, wz = wr.alloc (.cells #[.string x.1, .int .i64 x.2] 40) := ⟨_, rfl⟩
      obtain ⟨pb, hpb⟩ : ∃ pb, pb = wr.heap.size := ⟨_, rfl⟩
      rw [← hwz, ← hpb]
      have hbz : Below wr.heap.size wr wz := by rw [hwz]; exact (Below.refl _ wr).alloc (Nat.le_refl _) _
      have hpz : wz.heap[pb]? = some (.cells #[.string x.1, .int .i64 x.2] 40) := by rw [hwz, hpb]; exact alloc_newP _ _
      have z0 : wz.cell? ⟨pb, 0, none⟩ = some (.string x.1) := by simp [World.cell?, hpz]
      have HPZ : Hid (wz.heap[pb]? = some (.cells #[.string x.1, .int .i64 x.2] 40)) := hpz
      have HBz : Hid (Behind w wz mb base (.slice sd nb sc) b) := HB.out.below hbz
      clear hwz hpb hbz hpz
      go_upto_region 8 with (go_at_call 16; refine (HRN.out _).mono ?_; rintro e w3 ⟨v3, rfl, hr3, hb3⟩; have HR3 : Hid _ := hr3; have HB3 : Hid _ := hb3; clear hr3 hb3)
      have HBh3 : Hid (Behind w w3 mb base (.slice sd nb sc) b) := HBz.out.below HB3.out
      have m0 : w3.cell? ⟨mb, 0, none⟩ = some (.int .i64 base) := by simp [World.cell?, HBh3.out.mac]
      have m1 : w3.cell? ⟨mb, 1, none⟩ = some (.slice sd nb sc) := by simp [World.cell?, HBh3.out.mac]
      have HFO := follow_any w.heap.size w3 base (.slice sd nb sc) b D (ents l) HBh3.out.row HI.out HNBS.out v3 xs HR3.out (by omega) (HROOT.out xs)
      rw [HWT.out] at HFO
      have HFOH : Hid (Calls Tryd.prog 17 #[.agg #[.int .i64 base, .slice sd nb sc], v3] w3 fun e w' => e = .returned (.tuple #[.int .i64 x.2, .bool true]) ∧ Below w3.heap.size w3 w') := HFO
      clear HFO z0
      go_upto_region 9 with (go_at_call 17; refine HFOH.out.mono ?_; rintro e w4 ⟨rfl, hb4⟩)
      have HB4 : Hid (Behind w w4 mb base (.slice sd nb sc) b) := HBh3.out.below hb4
      have hz4 : w4.heap[pb]? = some (.cells #[.string x.1, .int .i64 x.2] 40) := by
        have h1 := (Array.getElem?_eq_some_iff.1 HPZ.out).1
        have h3 := (HB3.out.block pb h1).trans HPZ.out
        exact (hb4.block pb (Array.getElem?_eq_some_iff.1 h3).1).trans h3
      have z1 : w4.cell? ⟨pb, 1, none⟩ = some (.int .i64 x.2) := by simp [World.cell?, hz4]
      clear hb4 hz4 m0 m1
      go_wp2
      go_roundg (nl - (j + 1))
      case measure => omega
      case rel => exact ⟨j + 1, by go_num, by omega, Nat.le_refl _, HB4⟩
    · have hltz : ¬ (j : Int) < (nl : Int) := by omega
      have HTr : Hid (Tabs wr) := HT.out.below HB.out.bel
      go_wp2_with (go_at_call 12; refine (alive_any _ HTr.out).mono ?_; rintro e w2 ⟨rfl, hb2⟩)
      go_ret
      exact ⟨rfl, HB.out.bel.trans (hb2.mono HB.out.bel.size)⟩
end Go.Proofs.YtnfjgbfmkelalaaDoor
