/- FstLevel: the law's own walk. -/
import Derived.Test.YtnfjgbfmkelalaaDoorFAlive
import Derived.Test.YtnfjgbfmkelalaaDoorInvAll
namespace Go.Proofs.YtnfjgbfmkelalaaDoor
open Go.RowKit Nums Fm
set_option maxRecDepth 100000

theorem GOwn.small {T : TypeId} {k B : Nat} {w : World} {v : Value} {xss : List (List Value)} (h : GOwn T k B w v xss) : xss.length ≤ maxLen := by
  obtain ⟨_, hl, ⟨_, h0⟩ | ⟨g, cap, cur, _, _, _, h3, h4, _⟩⟩ := h
  · omega
  · omega
theorem lowF_snoc (m : Int) {l : List Arc} {k : Nat} {a : Arc} (h : l[k]? = some a) : lowF m (l.take (k + 1)) = if a.out < lowF m (l.take k) then a.out else lowF m (l.take k) := by
  have key : ∀ (l : List Arc) (m : Int) (a : Arc), lowF m (l ++ [a]) = if a.out < lowF m l then a.out else lowF m l := by
    intro l
    induction l with
    | nil => intro m a; rfl
    | cons x r ih => intro m a; rw [List.cons_append, lowF, ih, lowF]
  rw [List.take_add_one, h]
  exact key _ _ _
/-- What is fixed behind Build. -/
structure Behind (w wm : World) (mb : Nat) (base : Int) (vs : Value) (b : List St) : Prop where
  bel : Below w.heap.size w wm
  row : StRow w.heap.size wm vs b
  mac : wm.heap[mb]? = some (.cells #[.int .i64 base, vs] 27)
theorem Behind.mk' {w w1 : World} {l : List Pr} {base : Int} {vs : Value} {b : List St} (h : BuildSays w w1 l base vs b) : Behind w (w1.alloc (.cells #[.int .i64 base, vs] 27)) w1.heap.size base vs b :=
  ⟨h.bel.alloc h.bel.size _, h.row.below ((Below.refl _ w1).alloc (Nat.le_refl _) _), alloc_newP _ _⟩
theorem Behind.below {w wm wm' : World} {mb : Nat} {base : Int} {vs : Value} {b : List St} (h : Behind w wm mb base vs b) (hb : Below wm.heap.size wm wm') : Behind w wm' mb base vs b :=
  ⟨h.bel.trans (hb.mono h.bel.size), h.row.below hb, (hb.block mb (Array.getElem?_eq_some_iff.1 h.mac).1).trans h.mac⟩
theorem mach_small {l : List Pr} : (machOf l).2.length ≤ 102400 := by
  rw [machOf]
  split
  · rename_i h
    have hg := dict_good h.1 h.2
    have h1 := (stF_facts 25 [] (ents l) (ok_of_rise 25 _ hg.1 hg.2.1 hg.2.2)).2.1
    have h2 := bulk_le (dict_ok h.1).en.ln
    rw [ents_len] at h2
    have h3 := (dict_ok h.1).len
    simp only [List.length_nil] at h1
    show (stF 25 [] (ents l)).1.length ≤ 102400
    omega
  · simp
set_option maxHeartbeats 2000000 in
theorem level_walk (v : Value) (w : World) (ht : Tabs w) (l : List Pr) (h : PRow w v l) (hs : Sm l) (hl : l.length ≤ 9223372036854775807) :
    Calls Tryd.prog 7 #[v] w fun e w' => e = .returned (.bool true) ∧ Below w.heap.size w w' := by
  have HBLD := Build_any w v l h hl hs ht
  obtain ⟨C, hC⟩ : ∃ C, buildE l = C := ⟨_, rfl⟩
  rw [hC] at HBLD
  have HB0 : Hid (Calls Tryd.prog 13 #[v] w fun e w' => ∃ base vs b, e = .returned (.tuple #[.agg #[.int .i64 base, vs], .int .i64 C]) ∧ BuildSays w w' l base vs b) := HBLD
  have HT : Hid (Tabs w) := ht
  have HC : Hid (buildE l = C) := hC
  obtain ⟨ad0, cap0, rfl⟩ := h.form
  clear h hs ht HBLD hC
  go_enter Tryd.func7, Tryd.ntmps7
  by_cases hC0 : C = 0
  · subst hC0
    go_upto_region 4 with (go_at_call 13; refine HB0.out.mono ?_; rintro e w1 ⟨base, vs, b, rfl, hS⟩; obtain ⟨sd, sc, hvs⟩ := hS.row.shape; obtain ⟨nb, hnb⟩ : ∃ nb, b.length = nb := ⟨_, rfl⟩; rw [hnb] at hvs; subst hvs; have HS : Hid _ := hS; have HNB : Hid (b.length = nb) := hnb; clear hS hnb)
    have HBH : Hid _ := Behind.mk' HS.out
    obtain ⟨D, hD⟩ := mach_inv HC.out
    rw [HS.out.mach] at hD
    have HD : Hid (Inv D b) := hD
    have hnbs : nb ≤ 102400 := by have := mach_small (l := l); rw [HS.out.mach] at this; rw [← HNB.out]; exact this
    clear hD
    obtain ⟨mb, hmb⟩ : ∃ mb, mb = w1.heap.size := ⟨_, rfl⟩
    obtain ⟨wm, hwm⟩ : ∃ wm, wm = w1.alloc (.cells #[.int .i64 base, .slice sd nb sc] 27) := ⟨_, rfl⟩
    have HST : Hid (Behind w wm mb base (.slice sd nb sc) b) := by rw [hmb, hwm]; exact HBH.out
    rw [← hmb, ← hwm]
    have hc1 : wm.cell? ⟨mb, 1, none⟩ = some (.slice sd nb sc) := by simp [World.cell?, HST.out.mac]
    clear hmb hwm HBH HS
    go_wp2
    go_loopg [6, 7, 9, 21] nb (fun gm _ _ _ s21 wr => ∃ (k : Nat), s21 = .int .i64 k ∧ k ≤ nb ∧ nb - k ≤ gm ∧ Hid (Behind w wr mb base (.slice sd nb sc) b))
    case atStart => exact ⟨0, rfl, Nat.zero_le _, by omega, HST⟩
    case round =>
      clear hc1
      obtain ⟨k, rfl, hk, hgm, HBr⟩ := hrel
      by_cases hlt : k < nb
      · have hltz : (k : Int) < (nb : Int) := by omega
        obtain ⟨s, hs⟩ : ∃ s, b[k]? = some s := ⟨b[k]'(by have := HNB.out; omega), List.getElem?_eq_getElem _⟩
        obtain ⟨g, cap, eg, hg, hcell⟩ := HBr.out.row.at (by have := HNB.out; omega)
        simp only [Value.slice.injEq] at eg
        obtain ⟨rfl, hnl, rfl⟩ := eg
        obtain ⟨va, hA, c0, c1, c2⟩ := hcell k s hs
        obtain ⟨vd, vc, hva, _⟩ := GOwn.shape hA
        rw [List.length_map] at hva
        obtain ⟨na, hna⟩ : ∃ na, s.arcs.length = na := ⟨_, rfl⟩
        rw [hna] at hva
        subst hva
        have HNA : Hid (s.arcs.length = na) := hna
        have HLOW : Hid (lowOf s = 0) := state_low HD.out hs
        have HB1 : Hid (∀ o, Behind w (wr.alloc o) mb base (.slice (some ⟨g, 0, none⟩) nb sc) b) := fun o => HBr.out.below ((Below.refl _ wr).alloc (Nat.le_refl _) o)
        have HA1 : Hid (∀ o, AOwn w.heap.size (wr.alloc o) (.slice vd na vc) s.arcs) := fun o => GOwn.below hA ((Below.refl _ wr).alloc (Nat.le_refl _) o)
        have hna4 : na ≤ 9223372036854775807 := by have := GOwn.small hA; rw [List.length_map, hna] at this; simp only [maxLen] at this; omega
        obtain ⟨m0, hm0⟩ : ∃ m0, (if s.final then s.out else 1099511627776) = m0 := ⟨_, rfl⟩
        have HLOW2 : Hid (lowF m0 s.arcs = 0) := by show _ = _; rw [← hm0]; exact HLOW.out
        clear HLOW
        have HLOW : Hid (0 = lowF m0 s.arcs) := HLOW2.out.symm
        clear hnl hcell hs hA hna HLOW2
        cases hf : s.final with
        | true =>
          rw [hf] at hm0 c0
          have HM0 : Hid (m0 = s.out) := by show _ = _; rw [← hm0]; rfl
          clear hm0 hf
          go_wp2
          go_loopg [7, 9, 32] na (fun gm s7 _ s32 wq => ∃ (j : Nat), s32 = .int .i64 j ∧ j ≤ na ∧ na - j ≤ gm ∧ s7 = .int .i64 (lowF m0 (s.arcs.take j)) ∧ Hid (Behind w wq mb base (.slice (some ⟨g, 0, none⟩) nb sc) b) ∧ Hid (AOwn w.heap.size wq (.slice vd na vc) s.arcs))
          case atStart => exact ⟨0, rfl, Nat.zero_le _, by omega, by rw [HM0.out]; rfl, HB1.out _, HA1.out _⟩
          case round =>
            obtain ⟨j, rfl, hj, hgm2, rfl, HQ, HTryd⟩ := hrel
            by_cases hlt2 : j < na
            · have hltz2 : (j : Int) < (na : Int) := by omega
              obtain ⟨a, ha⟩ : ∃ a, s.arcs[j]? = some a := ⟨s.arcs[j]'(by have := HNA.out; omega), List.getElem?_eq_getElem _⟩
              obtain ⟨ga, ca, ea, hga, _, _, hac⟩ := HTryd.out.at (by have := HNA.out; omega)
              simp only [Value.slice.injEq] at ea
              obtain ⟨rfl, hnl, rfl⟩ := ea
              obtain ⟨d0, d1, d2⟩ := hac j a ha
              have HSN : Hid _ := lowF_snoc m0 ha
              have HB2 : Hid (∀ o, Behind w (wr.alloc o) mb base (.slice (some ⟨g, 0, none⟩) nb sc) b) := fun o => HQ.out.below ((Below.refl _ wr).alloc (Nat.le_refl _) o)
              have HA2 : Hid (∀ o, AOwn w.heap.size (wr.alloc o) (.slice (some ⟨ga, 0, none⟩) na vc) s.arcs) := fun o => GOwn.below HTryd.out ((Below.refl _ wr).alloc (Nat.le_refl _) o)
              clear hac ha hnl
              generalize lowF m0 (s.arcs.take j) = m at *
              go_wp2
              all_goals
                go_roundg (na - (j + 1))
                case measure => omega
                case rel => exact ⟨j + 1, by go_num, by omega, Nat.le_refl _, by rw [HSN.out]; first | rw [if_pos (by omega)] | rw [if_neg (by omega)], HB2.out _, HA2.out _⟩
            · have hltz2 : ¬ (j : Int) < (na : Int) := by omega
              have hlow : lowF m0 (s.arcs.take j) = 0 := by rw [List.take_of_length_le (by have := HNA.out; omega), ← HLOW.out]
              rw [hlow]
              clear hlow
              go_wp2
              go_roundg (nb - (k + 1))
              case measure => omega
              case rel => exact ⟨k + 1, by go_num, by omega, Nat.le_refl _, HQ⟩
        | false =>
          rw [hf] at hm0 c0
          have HM0 : Hid (m0 = 1099511627776) := by show _ = _; rw [← hm0]; rfl
          clear hm0 hf
          go_wp2
          go_loopg [7, 9, 32] na (fun gm s7 _ s32 wq => ∃ (j : Nat), s32 = .int .i64 j ∧ j ≤ na ∧ na - j ≤ gm ∧ s7 = .int .i64 (lowF m0 (s.arcs.take j)) ∧ Hid (Behind w wq mb base (.slice (some ⟨g, 0, none⟩) nb sc) b) ∧ Hid (AOwn w.heap.size wq (.slice vd na vc) s.arcs))
          case atStart => exact ⟨0, rfl, Nat.zero_le _, by omega, by rw [HM0.out]; rfl, HB1.out _, HA1.out _⟩
          case round =>
            obtain ⟨j, rfl, hj, hgm2, rfl, HQ, HTryd⟩ := hrel
            by_cases hlt2 : j < na
            · have hltz2 : (j : Int) < (na : Int) := by omega
              obtain ⟨a, ha⟩ : ∃ a, s.arcs[j]? = some a := ⟨s.arcs[j]'(by have := HNA.out; omega), List.getElem?_eq_getElem _⟩
              obtain ⟨ga, ca, ea, hga, _, _, hac⟩ := HTryd.out.at (by have := HNA.out; omega)
              simp only [Value.slice.injEq] at ea
              obtain ⟨rfl, hnl, rfl⟩ := ea
              obtain ⟨d0, d1, d2⟩ := hac j a ha
              have HSN : Hid _ := lowF_snoc m0 ha
              have HB2 : Hid (∀ o, Behind w (wr.alloc o) mb base (.slice (some ⟨g, 0, none⟩) nb sc) b) := fun o => HQ.out.below ((Below.refl _ wr).alloc (Nat.le_refl _) o)
              have HA2 : Hid (∀ o, AOwn w.heap.size (wr.alloc o) (.slice (some ⟨ga, 0, none⟩) na vc) s.arcs) := fun o => GOwn.below HTryd.out ((Below.refl _ wr).alloc (Nat.le_refl _) o)
              clear hac ha hnl
              generalize lowF m0 (s.arcs.take j) = m at *
              go_wp2
              all_goals
                go_roundg (na - (j + 1))
                case measure => omega
                case rel => exact ⟨j + 1, by go_num, by omega, Nat.le_refl _, by rw [HSN.out]; first | rw [if_pos (by omega)] | rw [if_neg (by omega)], HB2.out _, HA2.out _⟩
            · have hltz2 : ¬ (j : Int) < (na : Int) := by omega
              have hlow : lowF m0 (s.arcs.take j) = 0 := by rw [List.take_of_length_le (by have := HNA.out; omega), ← HLOW.out]
              rw [hlow]
              clear hlow
              go_wp2
              go_roundg (nb - (k + 1))
              case measure => omega
              case rel => exact ⟨k + 1, by go_num, by omega, Nat.le_refl _, HQ⟩
      · have hltz : ¬ (k : Int) < (nb : Int) := by omega
        have HTr : Hid (Tabs wr) := HT.out.below HBr.out.bel
        go_wp2_with (go_at_call 12; refine (alive_any _ HTr.out).mono ?_; rintro e w2 ⟨rfl, hb2⟩)
        go_ret
        exact ⟨rfl, HBr.out.bel.trans (hb2.mono HBr.out.bel.size)⟩
  · have hCb : (C == 0) = false := beq_eq_false_iff_ne.2 hC0
    have HA : Hid (∀ w1 base vs b, BuildSays w w1 l base vs b → ∀ o, Tabs (w1.alloc o) ∧ Below w.heap.size w (w1.alloc o)) := fun w1 base vs b h o => by
      have hb := h.bel.alloc h.bel.size o
      exact ⟨HT.out.below hb, hb⟩
    clear hC0
    go_wp2_with (first
      | (go_at_call 13; refine HB0.out.mono ?_; rintro e w1 ⟨base, vs, b, rfl, hS⟩; obtain ⟨sd, sc, hvs⟩ := hS.row.shape; subst hvs; have HS : Hid _ := hS; clear hS)
      | (go_at_call 12; refine (alive_any _ (HA.out _ _ _ _ HS.out _).1).mono ?_; rintro e w2 ⟨rfl, hb2⟩))
    go_ret
    exact ⟨rfl, (HA.out _ _ _ _ HS.out _).2.trans (hb2.mono (HA.out _ _ _ _ HS.out _).2.size)⟩
end Go.Proofs.YtnfjgbfmkelalaaDoor
