/- FstShifts: the law's own walk. -/
import Derived.Test.YtfekpkjcociidaaDoorFSame
import Derived.Test.YtfekpkjcociidaaDoorFShiftM
namespace Go.Proofs.YtfekpkjcociidaaDoor
open Go.RowKit Nums Fm
set_option maxRecDepth 100000

theorem more_snoc (n : Int) {l : List Pr} {k : Nat} {x : Pr} (h : l[k]? = some x) : more n (l.take (k + 1)) = more n (l.take k) ++ [(x.1, x.2 + n)] := by
  rw [List.take_add_one, h]
  simp [more]
theorem more_len (n : Int) (l : List Pr) : (more n l).length = l.length := by simp [more]
theorem more_sm {n : Int} {l : List Pr} (h : Sm l) : Sm (more n l) := fun x hx => by
  obtain ⟨y, hy, rfl⟩ := List.mem_map.1 hx
  exact h y hy
set_option maxHeartbeats 4000000 in
theorem shifts_walk (v : Value) (n : Int) (w : World) (ht : Tabs w) (l : List Pr) (h : PRow w v l) (hs : Sm l) (hl : l.length ≤ 9223372036854775807) (_ : (Lit.int .i64 n).wf = true) :
    Calls Tryd.prog 9 #[v, .int .i64 n] w fun e w' => e = .returned (.bool true) ∧ Below w.heap.size w w' := by
  have HBLD := Build_any w v l h hl hs ht
  obtain ⟨C, hC⟩ : ∃ C, buildE l = C := ⟨_, rfl⟩
  rw [hC] at HBLD
  have HT : Hid (Tabs w) := ht
  have HC : Hid (buildE l = C) := hC
  have HSM : Hid (Sm l) := hs
  obtain ⟨ad0, cap0, rfl⟩ := h.form
  obtain ⟨nl, hnl⟩ : ∃ nl, l.length = nl := ⟨_, rfl⟩
  have HNL : Hid (l.length = nl) := hnl
  rw [hnl] at HBLD hl h ⊢
  have HPR : Hid (PRow w (.slice ad0 nl cap0) l) := h
  have HB0 : Hid (Calls Tryd.prog 13 #[.slice ad0 nl cap0] w fun e w' => ∃ base vs b, e = .returned (.tuple #[.agg #[.int .i64 base, vs], .int .i64 C]) ∧ BuildSays w w' l base vs b) := HBLD
  have HA : Hid (∀ w1 base vs b, BuildSays w w1 l base vs b → ∀ o, Tabs (w1.alloc o) ∧ Below w.heap.size w (w1.alloc o)) := fun w1 base vs b h o => by
    have hb := h.bel.alloc h.bel.size o
    exact ⟨HT.out.below hb, hb⟩
  clear h hs ht HBLD hC hnl
  go_enter Tryd.func9, Tryd.ntmps9
  by_cases hC0 : ¬ C = 0
  · have hCb : (C == 0) = false := beq_eq_false_iff_ne.2 hC0
    have hCn : (C != 0) = true := by simp [bne, hCb]
    clear hC0
    go_wp2_with (first
      | (go_at_call 13; refine HB0.out.mono ?_; rintro e w1 ⟨base, vs, b, rfl, hS⟩; obtain ⟨sd, sc, hvs⟩ := hS.row.shape; subst hvs; have HS : Hid _ := hS; clear hS)
      | (go_at_call 12; refine (alive_any _ (HA.out _ _ _ _ HS.out _).1).mono ?_; rintro e w2 ⟨rfl, hb2⟩))
    go_ret
    exact ⟨rfl, (HA.out _ _ _ _ HS.out _).2.trans (hb2.mono (HA.out _ _ _ _ HS.out _).2.size)⟩
  have hC0' : C = 0 := Classical.not_not.1 hC0
  subst hC0'
  clear hC0
  by_cases hn1 : n < 1
  · go_wp2_with (first
      | (go_at_call 13; refine HB0.out.mono ?_; rintro e w1 ⟨base, vs, b, rfl, hS⟩; obtain ⟨sd, sc, hvs⟩ := hS.row.shape; subst hvs; have HS : Hid _ := hS; clear hS)
      | (go_at_call 12; refine (alive_any _ (HA.out _ _ _ _ HS.out _).1).mono ?_; rintro e w2 ⟨rfl, hb2⟩))
    go_ret
    exact ⟨rfl, (HA.out _ _ _ _ HS.out _).2.trans (hb2.mono (HA.out _ _ _ _ HS.out _).2.size)⟩
  by_cases hn2 : 1048576 < n
  · go_wp2_with (first
      | (go_at_call 13; refine HB0.out.mono ?_; rintro e w1 ⟨base, vs, b, rfl, hS⟩; obtain ⟨sd, sc, hvs⟩ := hS.row.shape; subst hvs; have HS : Hid _ := hS; clear hS)
      | (go_at_call 12; refine (alive_any _ (HA.out _ _ _ _ HS.out _).1).mono ?_; rintro e w2 ⟨rfl, hb2⟩))
    go_ret
    exact ⟨rfl, (HA.out _ _ _ _ HS.out _).2.trans (hb2.mono (HA.out _ _ _ _ HS.out _).2.size)⟩
  have HD : Hid (DictOk l) := dict_ok HC.out
  have hnl4 : nl ≤ 4096 := by rw [← HNL.out]; exact HD.out.len
  go_upto_region 4 with (go_at_call 13; refine HB0.out.mono ?_; rintro e w1 ⟨base, vs, b, rfl, hS⟩; obtain ⟨sd, sc, hvs⟩ := hS.row.shape; obtain ⟨nb, hnb⟩ : ∃ nb, b.length = nb := ⟨_, rfl⟩; rw [hnb] at hvs; subst hvs; have HS : Hid _ := hS; have HNB : Hid (b.length = nb) := hnb; clear hS hnb)
  have HBH : Hid _ := Behind.mk' HS.out
  have HMACH : Hid (machOf l = (base, b)) := HS.out.mach
  obtain ⟨mb, hmb⟩ : ∃ mb, mb = w1.heap.size := ⟨_, rfl⟩
  obtain ⟨wm, hwm⟩ : ∃ wm, wm = w1.alloc (.cells #[.int .i64 base, .slice sd nb sc] 27) := ⟨_, rfl⟩
  have HST : Hid (Behind w wm mb base (.slice sd nb sc) b) := by rw [hmb, hwm]; exact HBH.out
  have HMBW : Hid (w.heap.size ≤ mb) := by rw [hmb]; exact HS.out.bel.size
  rw [← hmb, ← hwm]
  clear hmb hwm HBH HS
  go_wp2
  go_loopg [7, 9, 30] nl (fun gm s7 _ s30 wr => ∃ (j : Nat), s30 = .int .i64 j ∧ j ≤ nl ∧ nl - j ≤ gm ∧ Hid (Below wm.heap.size wm wr) ∧ Hid (POwn wm.heap.size wr s7 (more n (l.take j))) ∧ Hid (∀ x ∈ l.take j, x.2 + n ≤ 1048576))
  case atStart => exact ⟨0, rfl, Nat.zero_le _, by omega, Below.refl _ _, POwn.nil _ _, fun x hx => by simp at hx⟩
  case round =>
    obtain ⟨j, rfl, hj, hgm, HB, HO, HW⟩ := hrel
    have HBw : Hid (Below w.heap.size w wr) := HST.out.bel.trans (HB.out.mono HST.out.bel.size)
    by_cases hlt : j < nl
    · have hltz : (j : Int) < (nl : Int) := by omega
      obtain ⟨x, hx⟩ : ∃ x, l[j]? = some x := ⟨l[j]'(by have := HNL.out; omega), List.getElem?_eq_getElem _⟩
      obtain ⟨g, off, rfl, hg, hcell⟩ := (HPR.out.below HBw.out).at (by omega)
      obtain ⟨c0, c1⟩ := hcell j x hx
      have hxw : 1 ≤ x.2 ∧ x.2 ≤ 1048576 := by
        have h0 := HC.out
        unfold buildE at h0
        split at h0
        · cases h0
        · exact (fault_all l none h0 x (List.mem_of_getElem? hx)).2
      have hwr1 : IntKind.i64.wrap (1048576 - n) = 1048576 - n := by rw [IntKind.wrap_i64]; omega
      have hwr2 : IntKind.i64.wrap (x.2 + n) = x.2 + n := by rw [IntKind.wrap_i64]; omega
      have HE : Hid (more n (l.take (j + 1)) = more n (l.take j) ++ [(x.1, x.2 + n)]) := more_snoc n hx
      have HX : Hid (l[j]? = some x) := hx
      have HBA : Hid (∀ o, Tabs (wr.alloc o) ∧ Below w.heap.size w (wr.alloc o)) := fun o => by
        have hb := HBw.out.alloc HBw.out.size o
        exact ⟨HT.out.below hb, hb⟩
      have HLN : Hid ((more n (l.take j)).length ≤ 4096) := by show _ ≤ _; rw [more_len, List.length_take]; omega
      clear hcell hx
      by_cases hgt : 1048576 - n < x.2
      · go_wp2_with (go_at_call 12; refine (alive_any _ (HBA.out _).1).mono ?_; rintro e w2 ⟨rfl, hb2⟩)
        go_ret
        exact ⟨rfl, (HBA.out _).2.trans (hb2.mono (HBA.out _).2.size)⟩
      · go_upto_region 10 with fail
        obtain ⟨wz, hwz⟩ : ∃ wz, wz = wr.alloc (.cells #[.string x.1, .int .i64 x.2] 40) := ⟨_, rfl⟩
        obtain ⟨pb, hpb⟩ : ∃ pb, pb = wr.heap.size := ⟨_, rfl⟩
        rw [← hwz, ← hpb]
        have hbz : Below wr.heap.size wr wz := by rw [hwz]; exact (Below.refl _ wr).alloc (Nat.le_refl _) _
        have z0 : wz.cell? ⟨pb, 0, none⟩ = some (.string x.1) := by rw [hwz, hpb]; simp
        have z1 : wz.cell? ⟨pb, 1, none⟩ = some (.int .i64 x.2) := by rw [hwz, hpb]; simp
        have HOz : Hid (POwn wm.heap.size wz u7 (more n (l.take j))) := HO.out.below hbz
        have HBz : Hid (Below wm.heap.size wm wz) := HB.out.trans (hbz.mono HB.out.size)
        clear hwz hpb hbz
        go_wp2_with (at_builtin; refine append_x (by rfl) _ _ (x.1, x.2 + n) _ rfl wm.heap.size _ _ _ (more n (l.take j)) rfl HOz.out rfl rfl (by have := HLN.out; omega) HBz.out.size ?_)
        intro v5 w5 hr5 hb5
        have HO5 : Hid (POwn wm.heap.size w5 v5 (more n (l.take (j + 1)))) := by show POwn _ _ _ _; rw [HE.out]; exact hr5
        have HB5 : Hid (Below wm.heap.size wm w5) := HBz.out.trans hb5
        have HW5 : Hid (∀ x ∈ l.take (j + 1), x.2 + n ≤ 1048576) := fun y hy => by
          rw [List.take_add_one, HX.out] at hy
          rcases List.mem_append.1 hy with hy | hy
          · exact HW.out y hy
          · simp at hy; subst hy; omega
        clear hr5 hb5 z0 z1
        go_wp2_with fail
        go_roundg (nl - (j + 1))
        case measure => omega
        case rel => exact ⟨j + 1, by go_num, by omega, Nat.le_refl _, HB5, HO5, HW5⟩
    · have hltz : ¬ (j : Int) < (nl : Int) := by omega
      have htk : l.take j = l := List.take_of_length_le (by have := HNL.out; omega)
      have HO2 := HO.out
      have HW2 := HW.out
      rw [htk] at HO2 HW2
      obtain ⟨kd, kc, hk7⟩ := HO2.shape
      rw [more_len, HNL.out] at hk7
      subst hk7
      obtain ⟨hbm, hmm⟩ := build_more (n := n) (by omega) HC.out HW2
      have HBK := Build_any wr (.slice kd nl kc) (more n l) HO2.row (by rw [more_len, HNL.out]; exact hl) (more_sm HSM.out) (HT.out.below HBw.out)
      rw [hbm] at HBK
      have HBKH : Hid (Calls Tryd.prog 13 #[.slice kd nl kc] wr fun e w' => ∃ base vs b, e = .returned (.tuple #[.agg #[.int .i64 base, vs], .int .i64 0]) ∧ BuildSays wr w' (more n l) base vs b) := HBK
      have HMM : Hid (machOf (more n l) = (base + (if l = [] then 0 else n), b)) := by show _ = _; rw [hmm, HMACH.out]
      clear HBK hbm hmm HO2 HW2 htk
      go_upto_region 13 with (go_at_call 13; refine HBKH.out.mono ?_; rintro e w5 ⟨base2, vs2, b2, rfl, hS5⟩; obtain ⟨sd2, sc2, hvs2⟩ := hS5.row.shape; subst hvs2; have HS5 : Hid _ := hS5; clear hS5)
      have hm5 := HS5.out.mach
      rw [HMM.out] at hm5
      simp only [Prod.mk.injEq] at hm5
      obtain ⟨hb2e, hbb⟩ := hm5
      subst hbb
      have hnbe := HNB.out
      rw [hnbe]
      obtain ⟨mb2, hmb2⟩ : ∃ mb2, mb2 = w5.heap.size := ⟨_, rfl⟩
      obtain ⟨w6, hw6⟩ : ∃ w6, w6 = w5.alloc (.cells #[.int .i64 base2, .slice sd2 nb sc2] 27) := ⟨_, rfl⟩
      rw [← hmb2, ← hw6]
      have hb56 : Below w5.heap.size w5 w6 := by rw [hw6]; exact (Below.refl _ w5).alloc (Nat.le_refl _) _
      have hm26 : w6.heap[mb2]? = some (.cells #[.int .i64 base2, .slice sd2 nb sc2] 27) := by rw [hw6, hmb2]; exact alloc_newP _ _
      have hbr5 := HS5.out.bel
      have hbr6 : Below wr.heap.size wr w6 := hbr5.trans (hb56.mono hbr5.size)
      have hBeh : Behind w w6 mb base (.slice sd nb sc) b := (HST.out.below HB.out).below hbr6
      have hrow2 : StRow w.heap.size w6 (.slice sd2 nb sc2) b := by
        have := (HS5.out.row.below hb56).mono HBw.out.size
        rw [hnbe] at this
        exact this
      have hmbl : mb < wr.heap.size := Nat.lt_of_lt_of_le (Array.getElem?_eq_some_iff.1 HST.out.mac).1 HB.out.size
      have hmne : mb ≠ mb2 := by have := hbr5.size; omega
      by_cases hn0 : 0 < nl
      · have hn0z : (0 : Int) < (nl : Int) := by omega
        have hlne : ¬ l = [] := fun e => by have := HNL.out; rw [e] at this; simp at this; omega
        rw [if_neg hlne] at hb2e
        have hbb := (least_le (ents_ne hlne) HD.out.en.wt)
        have hbase : base = least (ents l) := by
          have := HMACH.out
          rw [machOf, if_pos ⟨HC.out, hlne⟩] at this
          exact (Prod.mk.inj this).1.symm
        rw [← hbase] at hbb
        have hwr3 : IntKind.i64.wrap (base + n) = base + n := by rw [IntKind.wrap_i64]; omega
        have hc0 : w6.cell? ⟨mb, 0, none⟩ = some (.int .i64 base) := by simp [World.cell?, hBeh.mac]
        have hz0 : w6.frozen? ⟨mb, 0, none⟩ = false := by simp [World.frozen?, hBeh.mac]
        obtain ⟨w7, hw7⟩ : ∃ w7, w7 = w6.setCell ⟨mb, 0, none⟩ (.int .i64 base2) := ⟨_, rfl⟩
        have HF7 : Hid (w7.heap[mb]? = some (.cells #[.int .i64 base2, .slice sd nb sc] 27) ∧ w7.heap[mb2]? = some (.cells #[.int .i64 base2, .slice sd2 nb sc2] 27) ∧ StRow w.heap.size w7 (.slice sd nb sc) b ∧ StRow w.heap.size w7 (.slice sd2 nb sc2) b ∧ Below w.heap.size w w7) := by
          have hty : ∀ {T : TypeId} {k : Nat} {cur : Array Value}, T ≠ 27 → w6.heap[k]? = some (.cells cur T (0, 0)) → w7.heap[k]? = w6.heap[k]? := fun hT hk => by
            rw [hw7]
            refine set_other _ _ _ _ fun e => ?_
            subst e
            rw [hBeh.mac] at hk
            simp only [Option.some.injEq, Obj.cells.injEq] at hk
            exact hT hk.2.1.symm
          have hst : ∀ {vs : Value} {b : List St}, StRow w.heap.size w6 vs b → StRow w.heap.size w7 vs b := fun h => by
            obtain ⟨xss, h1, h2, h3⟩ := h
            refine ⟨xss, h1.same fun k hk => ?_, h2, fun i s hi => ?_⟩
            · obtain ⟨_, cur, hc⟩ := h1.block hk
              exact hty (by decide) hc
            · obtain ⟨va, h4, h5⟩ := h3 i s hi
              exact ⟨va, h4, AOwn.typed h5 fun k cur hc => hty (by decide) hc⟩
          have hmw : w.heap.size ≤ mb := HMBW.out
          refine ⟨by rw [hw7, set_at hBeh.mac _]; rfl, by rw [hw7, set_other _ _ _ _ (Ne.symm hmne)]; exact hm26, hst hBeh.row, hst hrow2, ?_⟩
          rw [hw7]
          exact hBeh.bel.setCell hmw _
        clear hb56 hm26 hbr5 hbr6 hBeh hrow2 hmbl hmne hlne hbb hbase hmb2 hw6
        have HW7 : Hid (w6.setCell ⟨mb, 0, none⟩ (.int .i64 (base + n)) = w7) := by show _ = _; rw [hw7, hb2e]
        clear hb2e hw7
        go_upto_region 15 with fail
        rw [HW7.out]
        clear hc0 hz0
        clear HO HMM HMACH HS5 HNB HD HPR HST HB HW HBw
        have HALH : Hid (Calls Tryd.prog 12 #[] w7 fun e w' => e = .returned (.bool true) ∧ (w'.cell? ⟨mb, 0, none⟩ = some (.int .i64 base2) ∧ w'.cell? ⟨mb, 1, none⟩ = some (.slice sd nb sc) ∧ w'.cell? ⟨mb2, 0, none⟩ = some (.int .i64 base2) ∧ w'.cell? ⟨mb2, 1, none⟩ = some (.slice sd2 nb sc2)) ∧ Hid (StRow w.heap.size w' (.slice sd nb sc) b ∧ StRow w.heap.size w' (.slice sd2 nb sc2) b ∧ Below w.heap.size w w')) := by
          refine (alive_any w7 (HT.out.below HF7.out.2.2.2.2)).mono ?_
          rintro e w' ⟨h1, h2⟩
          obtain ⟨f1, f2, f3, f4, f5⟩ := HF7.out
          have k1 := (h2.block mb (Array.getElem?_eq_some_iff.1 f1).1).trans f1
          have k2 := (h2.block mb2 (Array.getElem?_eq_some_iff.1 f2).1).trans f2
          exact ⟨h1, ⟨by simp [World.cell?, k1], by simp [World.cell?, k1], by simp [World.cell?, k2], by simp [World.cell?, k2]⟩, f3.below h2, f4.below h2, f5.trans (h2.mono f5.size)⟩
        go_wp2_with (first
          | (go_at_call 12; refine HALH.out.mono ?_; rintro e w8 ⟨rfl, ⟨m0, m1, m2, m3⟩, HR8⟩)
          | (go_at_call 15; refine (same_any w.heap.size w.heap.size _ base2 base2 _ _ b b HR8.out.1 HR8.out.2.1).mono ?_; rintro e w9 ⟨rfl, hb9⟩; rw [decide_eq_true (⟨rfl, rfl⟩ : base2 = base2 ∧ b = b)]))
        go_ret
        exact ⟨rfl, HR8.out.2.2.trans (hb9.mono HR8.out.2.2.size)⟩
      · have hn0z : ¬ (0 : Int) < (nl : Int) := by omega
        have hle : l = [] := List.eq_nil_of_length_eq_zero (by have := HNL.out; omega)
        rw [if_pos hle, Int.add_zero] at hb2e
        subst hb2e
        obtain ⟨w7, hw7⟩ : ∃ w7, w7 = w6 := ⟨_, rfl⟩
        have HF7 : Hid (w7.heap[mb]? = some (.cells #[.int .i64 base, .slice sd nb sc] 27) ∧ w7.heap[mb2]? = some (.cells #[.int .i64 base, .slice sd2 nb sc2] 27) ∧ StRow w.heap.size w7 (.slice sd nb sc) b ∧ StRow w.heap.size w7 (.slice sd2 nb sc2) b ∧ Below w.heap.size w w7) := by
          rw [hw7]
          exact ⟨hBeh.mac, hm26, hBeh.row, hrow2, hBeh.bel⟩
        rw [← hw7]
        obtain ⟨base2, hbe⟩ : ∃ base2, base2 = base := ⟨_, rfl⟩
        rw [← hbe] at HF7 ⊢
        clear hb56 hm26 hbr5 hbr6 hBeh hrow2 hmbl hmne hw7 hmb2 hw6 hbe hle
        go_upto_region 15 with fail
        clear HO HMM HMACH HS5 HNB HD HPR HST HB HW HBw
        have HALH : Hid (Calls Tryd.prog 12 #[] w7 fun e w' => e = .returned (.bool true) ∧ (w'.cell? ⟨mb, 0, none⟩ = some (.int .i64 base2) ∧ w'.cell? ⟨mb, 1, none⟩ = some (.slice sd nb sc) ∧ w'.cell? ⟨mb2, 0, none⟩ = some (.int .i64 base2) ∧ w'.cell? ⟨mb2, 1, none⟩ = some (.slice sd2 nb sc2)) ∧ Hid (StRow w.heap.size w' (.slice sd nb sc) b ∧ StRow w.heap.size w' (.slice sd2 nb sc2) b ∧ Below w.heap.size w w')) := by
          refine (alive_any w7 (HT.out.below HF7.out.2.2.2.2)).mono ?_
          rintro e w' ⟨h1, h2⟩
          obtain ⟨f1, f2, f3, f4, f5⟩ := HF7.out
          have k1 := (h2.block mb (Array.getElem?_eq_some_iff.1 f1).1).trans f1
          have k2 := (h2.block mb2 (Array.getElem?_eq_some_iff.1 f2).1).trans f2
          exact ⟨h1, ⟨by simp [World.cell?, k1], by simp [World.cell?, k1], by simp [World.cell?, k2], by simp [World.cell?, k2]⟩, f3.below h2, f4.below h2, f5.trans (h2.mono f5.size)⟩
        go_wp2_with (first
          | (go_at_call 12; refine HALH.out.mono ?_; rintro e w8 ⟨rfl, ⟨m0, m1, m2, m3⟩, HR8⟩)
          | (go_at_call 15; refine (same_any w.heap.size w.heap.size _ base2 base2 _ _ b b HR8.out.1 HR8.out.2.1).mono ?_; rintro e w9 ⟨rfl, hb9⟩; rw [decide_eq_true (⟨rfl, rfl⟩ : base2 = base2 ∧ b = b)]))
        go_ret
        exact ⟨rfl, HR8.out.2.2.trans (hb9.mono HR8.out.2.2.size)⟩
end Go.Proofs.YtfekpkjcociidaaDoor
