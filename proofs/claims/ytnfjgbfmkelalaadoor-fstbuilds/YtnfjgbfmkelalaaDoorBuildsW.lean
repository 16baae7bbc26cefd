/- FstBuilds: the law's own walk. -/
import Derived.Test.YtnfjgbfmkelalaaDoorFRTop
import Derived.Test.YtnfjgbfmkelalaaDoorFSame
namespace Go.Proofs.YtnfjgbfmkelalaaDoor
open Go.RowKit Nums Fm
set_option maxRecDepth 100000

set_option maxHeartbeats 4000000 in
theorem builds_walk (v : Value) (w : World) (ht : Tabs w) (l : List Pr) (h : PRow w v l) (hs : Sm l) (hl : l.length ≤ 9223372036854775807) :
    Calls Tryd.prog 3 #[v] w fun e w' => e = .returned (.bool true) ∧ Below w.heap.size w w' := by
  obtain ⟨ad0, cap0, rfl⟩ := h.form
  obtain ⟨nl, hnl⟩ : ∃ nl, l.length = nl := ⟨_, rfl⟩
  have HNL : Hid (l.length = nl) := hnl
  rw [hnl] at hl h ⊢
  have HT : Hid (Tabs w) := ht
  have HB0 : Hid (Calls Tryd.prog 13 #[.slice ad0 nl cap0] w fun e w' => ∃ base vs b, e = .returned (.tuple #[.agg #[.int .i64 base, vs], .int .i64 (buildE l)]) ∧ BuildSays w w' l base vs b) := Build_any w _ l h (by omega) hs ht
  have HRB : Hid (∀ W, Below w.heap.size w W → Calls Tryd.prog 14 #[.slice ad0 nl cap0] W fun e w' => ∃ base vs b, e = .returned (.tuple #[.agg #[.int .i64 base, vs], .int .i64 (buildE l)]) ∧ BuildSays W w' l base vs b) := fun W hW => refBuild_all W _ l (h.below hW) hs
  have HFEW : Hid (∀ W, Calls Tryd.prog 11 #[.slice ad0 nl cap0] W fun e w' => e = .returned (.bool (decide (nl ≤ 300) || decide (4096 < nl))) ∧ w' = W) := fun W => few_any ad0 nl cap0 W hl
  have HAL : Hid (∀ W, Below w.heap.size w W → Calls Tryd.prog 12 #[] W fun e w' => e = .returned (.bool true) ∧ Below W.heap.size W w') := fun W hW => alive_any W (HT.out.below hW)
  clear h hs ht hnl
  generalize buildE l = C at *
  generalize (decide (nl ≤ 300) || decide (4096 < nl)) = fw at *
  go_enter Tryd.func3, Tryd.ntmps3
  cases fw with
  | false =>
    go_wp2_with (first
      | (go_at_call 11; refine (HFEW.out _).mono ?_; rintro e wf ⟨rfl, hwf⟩; rw [hwf]; clear hwf wf)
      | (go_at_call 12; refine (HAL.out _ (Below.refl _ _)).mono ?_; rintro e w2 ⟨rfl, hb2⟩))
    go_ret
    exact ⟨rfl, hb2⟩
  | true =>
  go_upto_region 4 with (first
    | (go_at_call 13; refine HB0.out.mono ?_; rintro e w1 ⟨base, vs, b, rfl, hS⟩; obtain ⟨sd, sc, hvs⟩ := hS.row.shape; obtain ⟨nb, hnb⟩ : ∃ nb, b.length = nb := ⟨_, rfl⟩; rw [hnb] at hvs; subst hvs; have HS : Hid _ := hS; clear hS hnb)
    | (go_at_call 11; refine (HFEW.out _).mono ?_; rintro e wf ⟨rfl, hwf⟩; rw [hwf]; clear hwf wf))
  obtain ⟨mb, hmb⟩ : ∃ mb, mb = w1.heap.size := ⟨_, rfl⟩
  obtain ⟨wm, hwm⟩ : ∃ wm, wm = w1.alloc (.cells #[.int .i64 base, .slice sd nb sc] 27) := ⟨_, rfl⟩
  have hb1 : Below w1.heap.size w1 wm := by rw [hwm]; exact (Below.refl _ w1).alloc (Nat.le_refl _) _
  have hm1 : wm.heap[mb]? = some (.cells #[.int .i64 base, .slice sd nb sc] 27) := by rw [hwm, hmb]; exact alloc_newP _ _
  have HBM : Hid (Below w.heap.size w wm) := HS.out.bel.trans (hb1.mono HS.out.bel.size)
  have HM1 : Hid (wm.heap[mb]? = some (.cells #[.int .i64 base, .slice sd nb sc] 27)) := hm1
  have HR1 : Hid (StRow w.heap.size wm (.slice sd nb sc) b) := HS.out.row.below hb1
  have HMA : Hid (machOf l = (base, b)) := HS.out.mach
  rw [← hmb, ← hwm]
  clear hmb hwm hb1 hm1 HS
  go_upto_region 5 with (go_at_call 14; refine (HRB.out _ HBM.out).mono ?_; rintro e w2 ⟨base2, vs2, b2, rfl, hS⟩; obtain ⟨sd2, sc2, hvs⟩ := hS.row.shape; obtain ⟨nb2, hnb⟩ : ∃ nb, b2.length = nb := ⟨_, rfl⟩; rw [hnb] at hvs; subst hvs; have HS2 : Hid _ := hS; clear hS hnb)
  have heq := HMA.out.symm.trans HS2.out.mach
  simp only [Prod.mk.injEq] at heq
  obtain ⟨rfl, rfl⟩ := heq
  obtain ⟨mb2, hmb2⟩ : ∃ mb, mb = w2.heap.size := ⟨_, rfl⟩
  obtain ⟨wn, hwn⟩ : ∃ wn, wn = w2.alloc (.cells #[.int .i64 base, .slice sd2 nb2 sc2] 27) := ⟨_, rfl⟩
  have hb2 : Below w2.heap.size w2 wn := by rw [hwn]; exact (Below.refl _ w2).alloc (Nat.le_refl _) _
  have hm2 : wn.heap[mb2]? = some (.cells #[.int .i64 base, .slice sd2 nb2 sc2] 27) := by rw [hwn, hmb2]; exact alloc_newP _ _
  have hbm2 : Below wm.heap.size wm wn := HS2.out.bel.trans (hb2.mono HS2.out.bel.size)
  have HBN : Hid (Below w.heap.size w wn) := HBM.out.trans (hbm2.mono HBM.out.size)
  have HR2 : Hid (StRow wm.heap.size wn (.slice sd2 nb2 sc2) b) := HS2.out.row.below hb2
  have HR1n : Hid (StRow w.heap.size wn (.slice sd nb sc) b) := HR1.out.below hbm2
  have HCL : Hid (∀ W, Below wn.heap.size wn W → W.cell? ⟨mb, 0, none⟩ = some (.int .i64 base) ∧ W.cell? ⟨mb, 1, none⟩ = some (.slice sd nb sc) ∧ W.cell? ⟨mb2, 0, none⟩ = some (.int .i64 base) ∧ W.cell? ⟨mb2, 1, none⟩ = some (.slice sd2 nb2 sc2)) := fun W hW => by
    have h1 : W.heap[mb]? = some (.cells #[.int .i64 base, .slice sd nb sc] 27) := by
      have e1 := hbm2.block mb (Array.getElem?_eq_some_iff.1 HM1.out).1
      exact (hW.block mb (Nat.lt_of_lt_of_le (Array.getElem?_eq_some_iff.1 HM1.out).1 hbm2.size)).trans (e1.trans HM1.out)
    have h2 : W.heap[mb2]? = some (.cells #[.int .i64 base, .slice sd2 nb2 sc2] 27) := (hW.block mb2 (Array.getElem?_eq_some_iff.1 hm2).1).trans hm2
    exact ⟨by simp [World.cell?, h1], by simp [World.cell?, h1], by simp [World.cell?, h2], by simp [World.cell?, h2]⟩
  have HSM : Hid (∀ W, Below wn.heap.size wn W → Calls Tryd.prog 15 #[.agg #[.int .i64 base, .slice sd nb sc], .agg #[.int .i64 base, .slice sd2 nb2 sc2]] W fun e w' => e = .returned (.bool true) ∧ Below w.heap.size w w') := fun W hW => by
    refine (same_any w.heap.size wm.heap.size W base base _ _ b b (HR1n.out.below hW) (HR2.out.below hW)).mono ?_
    rintro e w' ⟨rfl, h2⟩
    refine ⟨by simp, (HBN.out.trans (hW.mono HBN.out.size)).trans (h2.mono (Nat.le_trans HBN.out.size hW.size))⟩
  rw [← hmb2, ← hwn]
  clear hmb2 hwn hb2 hm2 hbm2 HS2
  go_wp2_with (first
    | (go_at_call 12; refine (HAL.out _ HBN.out).mono ?_; rintro e w5 ⟨rfl, hb5⟩; have HB5 : Hid _ := hb5; clear hb5; obtain ⟨y0, y1, y2, y3⟩ := HCL.out _ HB5.out)
    | (go_at_call 15; refine (HSM.out _ HB5.out).mono ?_; rintro e w6 ⟨rfl, hb6⟩))
  go_ret
  exact ⟨rfl, hb6⟩
end Go.Proofs.YtnfjgbfmkelalaaDoor
