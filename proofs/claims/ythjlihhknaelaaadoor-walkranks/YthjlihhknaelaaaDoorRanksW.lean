/- WalkRanks: the law's own walk. -/
import Derived.Test.YthjlihhknaelaaaDoorWkMk
namespace Go.Proofs.YthjlihhknaelaaaDoor
open Go.RowKit Nums Fm Pk Pm
set_option maxRecDepth 100000

theorem first_of {l : List Pr} (hu : Rising l) {s : ByteArray} {n : Nat} (hn : n ≤ l.length) (h1 : ∀ k, k < n → lessB (l.getD k zP).1 s = true) (h2 : n < l.length → lessB (l.getD n zP).1 s = false) : FirstAt l.length (fun k => !lessB (l.getD k zP).1 s) n := by
  refine ⟨hn, fun k hk => by rw [h1 k hk]; rfl, fun k hk hkl => ?_⟩
  have h3 := h2 (by omega)
  cases e : lessB (l.getD k zP).1 s with
  | false => rfl
  | true =>
    by_cases hkn : k = n
    · rw [hkn, h3] at e; cases e
    · have := lessB_sto.tr _ _ _ (hu n k (by omega) hkl) e
      rw [h3] at this; cases this
theorem first_find {l : List Pr} (hu : Rising l) {s : ByteArray} {r : Nat} (hr : FirstAt l.length (fun k => !lessB (l.getD k zP).1 s) r) (hf : (Pm.find l s).isSome = true) : ∃ v, l[r]? = some (s, v) := by
  obtain ⟨v, hv⟩ := Option.isSome_iff_exists.1 hf
  obtain ⟨j, hj, e⟩ := List.getElem_of_mem (Pm.find_mem hv)
  have hg : l.getD j zP = (s, v) := by rw [List.getD_eq_getElem?_getD, List.getElem?_eq_getElem hj, e]; rfl
  have hj' : FirstAt l.length (fun k => !lessB (l.getD k zP).1 s) j := first_of hu (by omega) (fun k hk => by have := hu k j hk hj; rw [hg] at this; exact this) (fun _ => by rw [hg]; exact lessB_sto.irr _)
  have := first_one hr hj'
  subst this
  exact ⟨v, by rw [List.getElem?_eq_getElem hj, e]⟩
set_option maxHeartbeats 4000000 in
theorem ranks_walk (v : Value) (s : ByteArray) (w : World) (ht : Tabs w) (l : List Pr) (h : PRow w v l) (hs : Sm l) (hl : l.length ≤ 9223372036854775807) (hz : s.size ≤ maxLen) :
    Calls Tryd.prog 6 #[v, .string s] w fun e w' => e = .returned (.bool true) ∧ Below w.heap.size w w' := by
  have hz : s.size ≤ 9223372036854775807 := by unfold maxLen at hz; omega
  have HAL : Hid (∀ W, Below w.heap.size w W → Calls Tryd.prog 11 #[] W fun e w' => e = .returned (.bool true) ∧ Below W.heap.size W w') := fun W hW => alive_any W (ht.below hW)
  cases hb : onB l with
  | false =>
    have HON : Hid (Calls Tryd.prog 10 #[v] w fun e w' => e = .returned (.tuple #[.pointer none, .bool false]) ∧ Below w.heap.size w w') := on_no w v l h hl hs hb
    obtain ⟨ad, cap, rfl⟩ := h.form
    clear h ht hs hb
    go_enter Tryd.func6, Tryd.ntmps6
    go_wp2_with (first
      | (go_at_call 10; refine HON.out.mono ?_; rintro e w1 ⟨rfl, hb1⟩; have HB1 : Hid (Below w.heap.size w w1) := hb1; clear hb1)
      | (go_at_call 11; refine (HAL.out _ HB1.out).mono ?_; rintro e w2 ⟨rfl, hb2⟩))
    go_ret
    exact ⟨rfl, HB1.out.trans (hb2.mono HB1.out.size)⟩
  | true =>
    have HON : Hid (Calls Tryd.prog 10 #[v] w fun e w' => ∃ wb, e = .returned (.tuple #[.pointer (some ⟨wb, 0, none⟩), .bool true]) ∧ w.heap.size ≤ wb ∧ WkOn w' wb l ∧ Below w.heap.size w w') := on_yes w ht v l h hl hs hb
    have hr300 : l.length ≤ 300 ∧ buildE l = 0 := by
      unfold onB at hb
      simp only [Bool.and_eq_true, decide_eq_true_eq] at hb
      exact ⟨hb.1, right_build hb.2⟩
    have HU : Hid (Rising l) := built_rising hr300.2
    have HRF : Hid (∀ W, Below w.heap.size w W → Calls Tryd.prog 17 #[v, .string s] W fun e w' => e = .returned (.tuple #[.int .i64 ((Pm.find l s).getD 0), .bool (Pm.find l s).isSome]) ∧ w' = W) := fun W hW => refFind_any W v l s (h.below hW) hl
    have HAH : Hid (∀ W k, k < l.length → Calls Tryd.prog 19 #[.string (l.getD k zP).1, .string s] W fun e w' => e = .returned (.bool (lessB (l.getD k zP).1 s)) ∧ Below W.heap.size W w') := fun W k hk => by
      refine (ahead_any (l.getD k zP).1 s W (hs _ (by rw [List.getD_eq_getElem?_getD, List.getElem?_eq_getElem hk]; exact List.getElem_mem hk)) hz).mono ?_
      rintro e w' ⟨rfl, q, rfl⟩
      exact ⟨rfl, belowN (Below.refl _ _) q⟩
    have HRK : Hid (∀ W wb, WkOn W wb l → Calls Tryd.prog 20 #[.pointer (some ⟨wb, 0, none⟩), .string s] W fun e w' => ∃ r : Nat, e = .returned (.int .i64 (r : Int)) ∧ FirstAt l.length (fun k => !lessB (l.getD k zP).1 s) r ∧ Below W.heap.size W w') := fun W wb hW => Rank_any W wb l hW (by omega) HU.out s
    obtain ⟨ad, cap, rfl⟩ := h.form
    have HR : Hid (PRow w (.slice ad l.length cap) l) := h
    obtain ⟨n, hn⟩ : ∃ n, l.length = n := ⟨_, rfl⟩
    have HN : Hid (l.length = n) := hn
    have hn3 : n ≤ 300 := by omega
    rw [hn] at HON HRF HAH HRK HR ⊢
    clear h ht hs hb hl hr300 hn
    go_enter Tryd.func6, Tryd.ntmps6
    go_wp2_with (go_at_call 10; refine HON.out.mono ?_; rintro e w1 ⟨wb, rfl, hlo, hon, hb1⟩; have HB1 : Hid (Below w.heap.size w w1) := hb1; have HW : Hid (WkOn w1 wb l) := hon; clear hb1 hon hlo)
    go_loopg [7] n (fun gm s7 wr => ∃ (k : Nat), s7 = .int .i64 k ∧ k ≤ n ∧ n - k ≤ gm ∧ Hid (∀ i, i < k → lessB (l.getD i zP).1 s = true) ∧ Hid (Below w1.heap.size w1 wr))
    case atStart => exact ⟨0, rfl, Nat.zero_le _, by omega, fun i hi => (by omega), Below.refl _ _⟩
    case round =>
      obtain ⟨k, rfl, hk, hgm, HK, HBR⟩ := hrel
      have HBW : Hid (Below w.heap.size w wr) := HB1.out.trans (HBR.out.mono HB1.out.size)
      have HEND : Hid ((k < n → lessB (l.getD k zP).1 s = false) → FirstAt n (fun k => !lessB (l.getD k zP).1 s) k) := fun h2 => by
        have := first_of HU.out (s := s) (n := k) (by rw [HN.out]; exact hk) HK.out (by rw [HN.out]; exact h2)
        rw [HN.out] at this
        exact this
      by_cases hlt : k < n
      · have hltz : (k : Int) < (n : Int) := by omega
        obtain ⟨x, hx⟩ : ∃ x, l[k]? = some x := ⟨l[k]'(by have := HN.out; omega), List.getElem?_eq_getElem _⟩
        have hgx : l.getD k zP = x := by rw [List.getD_eq_getElem?_getD, hx]; rfl
        obtain ⟨g, off, hg0, hg, htw⟩ := (HR.out.below HBW.out).at (by omega)
        subst hg0
        have tx := htw k x hx
        have HAK : Hid (Calls Tryd.prog 19 #[.string x.1, .string s] wr fun e w' => e = .returned (.bool (lessB x.1 s)) ∧ Below wr.heap.size wr w') := by have := HAH.out wr k hlt; rw [hgx] at this; exact this
        have t0 := tx.c0
        cases hls : lessB x.1 s with
        | true =>
          rw [hls] at HAK
          have HK2 : Hid (∀ i, i < k + 1 → lessB (l.getD i zP).1 s = true) := fun i hi => by
            by_cases e : i = k
            · rw [e, hgx]; exact hls
            · exact HK.out i (by omega)
          clear hx hgx htw tx hls
          go_wp2_with (go_at_call 19; refine HAK.out.mono ?_; rintro e w2 ⟨rfl, hb2⟩; have HB2 : Hid (Below w1.heap.size w1 w2) := HBR.out.trans (hb2.mono HBR.out.size); clear hb2)
          go_roundg (n - (k + 1))
          case measure => omega
          case rel => exact ⟨k + 1, by go_num, by omega, Nat.le_refl _, HK2, HB2⟩
        | false =>
          rw [hls] at HAK
          have HFA : Hid (FirstAt n (fun k => !lessB (l.getD k zP).1 s) k) := HEND.out (fun _ => by rw [hgx]; exact hls)
          clear hx hgx htw tx hls
          go_upto_region 7 with (go_at_call 19; refine HAK.out.mono ?_; rintro e w2 ⟨rfl, hb2⟩; have HB2 : Hid (Below w1.heap.size w1 w2) := HBR.out.trans (hb2.mono HBR.out.size); clear hb2)
          have HW2 : Hid (WkOn w2 wb l) := HW.out.below HB2.out
          have HRA : Hid (∀ W, Below w2.heap.size w2 W → Calls Tryd.prog 20 #[.pointer (some ⟨wb, 0, none⟩), .string s] W fun e w' => e = .returned (.int .i64 (k : Int)) ∧ Below W.heap.size W w') := fun W hW => by
            refine (HRK.out W wb (HW2.out.below hW)).mono ?_
            rintro e w' ⟨r, rfl, h1, h2⟩
            have := first_one h1 HFA.out
            subst this
            exact ⟨rfl, h2⟩
          have HAT : Hid (∀ W, Below w2.heap.size w2 W → Calls Tryd.prog 18 #[.pointer (some ⟨wb, 0, none⟩), .int .i64 (k : Int)] W fun e w' => e = .returned (.tuple #[.agg #[.string (l[k]?.getD zP).1, .int .i64 (l[k]?.getD zP).2], .bool l[k]?.isSome]) ∧ Below W.heap.size W w') := fun W hW => at_pos W wb l (HW2.out.below hW) k (by omega)
          have HBW2 : Hid (Below w.heap.size w w2) := HB1.out.trans (HB2.out.mono HB1.out.size)
          cases hf : (Pm.find l s).isSome with
          | true =>
            obtain ⟨u, hu⟩ := first_find HU.out (by rw [HN.out]; exact HFA.out) hf
            rw [hf] at HRF
            rw [hu] at HAT
            simp only [Option.getD_some, Option.isSome_some] at HAT
            clear hu hf
            go_upto_region 8 with (first
              | (go_at_call 20; refine (HRA.out _ (Below.refl _ _)).mono ?_; rintro e w3 ⟨rfl, hb3⟩; have HB3 : Hid (Below w2.heap.size w2 w3) := hb3; clear hb3)
              | (go_at_call 18; refine (HAT.out _ HB3.out).mono ?_; rintro e w4 ⟨rfl, hb4⟩; have HB4 : Hid (Below w2.heap.size w2 w4) := HB3.out.trans (hb4.mono HB3.out.size); clear hb4))
            generalize hW5 : w4.alloc _ = W5
            have hb5 : Below w4.heap.size w4 W5 := by rw [← hW5]; exact (Below.refl _ w4).alloc (Nat.le_refl _) _
            have HB5 : Hid (Below w2.heap.size w2 W5) := HB4.out.trans (hb5.mono HB4.out.size)
            obtain ⟨pb, hpb⟩ : ∃ pb, pb = w4.heap.size := ⟨_, rfl⟩
            have HP5 : Hid (∀ W, Below W5.heap.size W5 W → W.cell? ⟨pb, 0, none⟩ = some (.string s)) := fun W hW => by
              have h1 : W5.cell? ⟨pb, 0, none⟩ = some (.string s) := by rw [← hW5, hpb]; simp
              exact (hW.cell (p := ⟨pb, 0, none⟩) (World.block_lt_of_cell? _ _ h1)).trans h1
            rw [← hpb]
            have HBW5 : Hid (Below w.heap.size w W5) := HBW2.out.trans (HB5.out.mono HBW2.out.size)
            clear hW5 hb5 hpb
            go_wp2_with (first
              | (go_at_call 17; refine (HRF.out _ HBW5.out).mono ?_; rintro e w6 ⟨rfl, hw6⟩; rw [hw6]; clear hw6)
              | (go_at_call 11; refine (HAL.out _ HBW5.out).mono ?_; rintro e w7 ⟨rfl, hb7⟩; have HB7 : Hid (Below W5.heap.size W5 w7) := hb7; clear hb7)
              | (go_at_call 20; refine (HRA.out _ (HB5.out.trans (HB7.out.mono HB5.out.size))).mono ?_; rintro e w8 ⟨rfl, hb8⟩; have HB8 : Hid (Below W5.heap.size W5 w8) := HB7.out.trans (hb8.mono HB7.out.size); have c8 := HP5.out w8 HB8.out; clear hb8))
            go_ret
            exact ⟨by first | rfl | simp, HBW5.out.trans (HB8.out.mono HBW5.out.size)⟩
          | false =>
            rw [hf] at HRF
            clear hf
            go_upto_region 8 with (first
              | (go_at_call 20; refine (HRA.out _ (Below.refl _ _)).mono ?_; rintro e w3 ⟨rfl, hb3⟩; have HB3 : Hid (Below w2.heap.size w2 w3) := hb3; clear hb3)
              | (go_at_call 18; refine (HAT.out _ HB3.out).mono ?_; rintro e w4 ⟨rfl, hb4⟩; have HB4 : Hid (Below w2.heap.size w2 w4) := HB3.out.trans (hb4.mono HB3.out.size); clear hb4))
            generalize hW5 : w4.alloc _ = W5
            have hb5 : Below w4.heap.size w4 W5 := by rw [← hW5]; exact (Below.refl _ w4).alloc (Nat.le_refl _) _
            have HB5 : Hid (Below w2.heap.size w2 W5) := HB4.out.trans (hb5.mono HB4.out.size)
            obtain ⟨pb, hpb⟩ : ∃ pb, pb = w4.heap.size := ⟨_, rfl⟩
            have HP5 : Hid (∀ W, Below W5.heap.size W5 W → W.cell? ⟨pb, 0, none⟩ = some (.string (l[k]?.getD zP).1)) := fun W hW => by
              have h1 : W5.cell? ⟨pb, 0, none⟩ = some (.string (l[k]?.getD zP).1) := by rw [← hW5, hpb]; simp
              exact (hW.cell (p := ⟨pb, 0, none⟩) (World.block_lt_of_cell? _ _ h1)).trans h1
            rw [← hpb]
            have HBW5 : Hid (Below w.heap.size w W5) := HBW2.out.trans (HB5.out.mono HBW2.out.size)
            clear hW5 hb5 hpb
            go_wp2_with (first
              | (go_at_call 17; refine (HRF.out _ HBW5.out).mono ?_; rintro e w6 ⟨rfl, hw6⟩; rw [hw6]; clear hw6)
              | (go_at_call 11; refine (HAL.out _ HBW5.out).mono ?_; rintro e w7 ⟨rfl, hb7⟩; have HB7 : Hid (Below W5.heap.size W5 w7) := hb7; clear hb7)
              | (go_at_call 20; refine (HRA.out _ (HB5.out.trans (HB7.out.mono HB5.out.size))).mono ?_; rintro e w8 ⟨rfl, hb8⟩; have HB8 : Hid (Below W5.heap.size W5 w8) := HB7.out.trans (hb8.mono HB7.out.size); have c8 := HP5.out w8 HB8.out; clear hb8))
            go_ret
            exact ⟨by first | rfl | simp, HBW5.out.trans (HB8.out.mono HBW5.out.size)⟩
      · have hltz : ¬ (k : Int) < (n : Int) := by omega
        have HFA : Hid (FirstAt n (fun k => !lessB (l.getD k zP).1 s) k) := HEND.out (fun h => absurd h hlt)
        obtain ⟨w2, hw2⟩ : ∃ w2, wr = w2 := ⟨_, rfl⟩
        have HB2 : Hid (Below w1.heap.size w1 w2) := by rw [← hw2]; exact HBR
        go_upto_region 7 with fail
        try rw [hw2]
        clear hw2
        have HW2 : Hid (WkOn w2 wb l) := HW.out.below HB2.out
        have HRA : Hid (∀ W, Below w2.heap.size w2 W → Calls Tryd.prog 20 #[.pointer (some ⟨wb, 0, none⟩), .string s] W fun e w' => e = .returned (.int .i64 (k : Int)) ∧ Below W.heap.size W w') := fun W hW => by
          refine (HRK.out W wb (HW2.out.below hW)).mono ?_
          rintro e w' ⟨r, rfl, h1, h2⟩
          have := first_one h1 HFA.out
          subst this
          exact ⟨rfl, h2⟩
        have HAT : Hid (∀ W, Below w2.heap.size w2 W → Calls Tryd.prog 18 #[.pointer (some ⟨wb, 0, none⟩), .int .i64 (k : Int)] W fun e w' => e = .returned (.tuple #[.agg #[.string (l[k]?.getD zP).1, .int .i64 (l[k]?.getD zP).2], .bool l[k]?.isSome]) ∧ Below W.heap.size W w') := fun W hW => at_pos W wb l (HW2.out.below hW) k (by omega)
        have HBW2 : Hid (Below w.heap.size w w2) := HB1.out.trans (HB2.out.mono HB1.out.size)
        cases hf : (Pm.find l s).isSome with
        | true =>
          obtain ⟨u, hu⟩ := first_find HU.out (by rw [HN.out]; exact HFA.out) hf
          rw [hf] at HRF
          rw [hu] at HAT
          simp only [Option.getD_some, Option.isSome_some] at HAT
          clear hu hf
          go_upto_region 8 with (first
            | (go_at_call 20; refine (HRA.out _ (Below.refl _ _)).mono ?_; rintro e w3 ⟨rfl, hb3⟩; have HB3 : Hid (Below w2.heap.size w2 w3) := hb3; clear hb3)
            | (go_at_call 18; refine (HAT.out _ HB3.out).mono ?_; rintro e w4 ⟨rfl, hb4⟩; have HB4 : Hid (Below w2.heap.size w2 w4) := HB3.out.trans (hb4.mono HB3.out.size); clear hb4))
          generalize hW5 : w4.alloc _ = W5
          have hb5 : Below w4.heap.size w4 W5 := by rw [← hW5]; exact (Below.refl _ w4).alloc (Nat.le_refl _) _
          have HB5 : Hid (Below w2.heap.size w2 W5) := HB4.out.trans (hb5.mono HB4.out.size)
          obtain ⟨pb, hpb⟩ : ∃ pb, pb = w4.heap.size := ⟨_, rfl⟩
          have HP5 : Hid (∀ W, Below W5.heap.size W5 W → W.cell? ⟨pb, 0, none⟩ = some (.string s)) := fun W hW => by
            have h1 : W5.cell? ⟨pb, 0, none⟩ = some (.string s) := by rw [← hW5, hpb]; simp
            exact (hW.cell (p := ⟨pb, 0, none⟩) (World.block_lt_of_cell? _ _ h1)).trans h1
          rw [← hpb]
          have HBW5 : Hid (Below w.heap.size w W5) := HBW2.out.trans (HB5.out.mono HBW2.out.size)
          clear hW5 hb5 hpb
          go_wp2_with (first
            | (go_at_call 17; refine (HRF.out _ HBW5.out).mono ?_; rintro e w6 ⟨rfl, hw6⟩; rw [hw6]; clear hw6)
            | (go_at_call 11; refine (HAL.out _ HBW5.out).mono ?_; rintro e w7 ⟨rfl, hb7⟩; have HB7 : Hid (Below W5.heap.size W5 w7) := hb7; clear hb7)
            | (go_at_call 20; refine (HRA.out _ (HB5.out.trans (HB7.out.mono HB5.out.size))).mono ?_; rintro e w8 ⟨rfl, hb8⟩; have HB8 : Hid (Below W5.heap.size W5 w8) := HB7.out.trans (hb8.mono HB7.out.size); have c8 := HP5.out w8 HB8.out; clear hb8))
          go_ret
          exact ⟨by first | rfl | simp, HBW5.out.trans (HB8.out.mono HBW5.out.size)⟩
        | false =>
          rw [hf] at HRF
          clear hf
          go_upto_region 8 with (first
            | (go_at_call 20; refine (HRA.out _ (Below.refl _ _)).mono ?_; rintro e w3 ⟨rfl, hb3⟩; have HB3 : Hid (Below w2.heap.size w2 w3) := hb3; clear hb3)
            | (go_at_call 18; refine (HAT.out _ HB3.out).mono ?_; rintro e w4 ⟨rfl, hb4⟩; have HB4 : Hid (Below w2.heap.size w2 w4) := HB3.out.trans (hb4.mono HB3.out.size); clear hb4))
          generalize hW5 : w4.alloc _ = W5
          have hb5 : Below w4.heap.size w4 W5 := by rw [← hW5]; exact (Below.refl _ w4).alloc (Nat.le_refl _) _
          have HB5 : Hid (Below w2.heap.size w2 W5) := HB4.out.trans (hb5.mono HB4.out.size)
          obtain ⟨pb, hpb⟩ : ∃ pb, pb = w4.heap.size := ⟨_, rfl⟩
          have HP5 : Hid (∀ W, Below W5.heap.size W5 W → W.cell? ⟨pb, 0, none⟩ = some (.string (l[k]?.getD zP).1)) := fun W hW => by
            have h1 : W5.cell? ⟨pb, 0, none⟩ = some (.string (l[k]?.getD zP).1) := by rw [← hW5, hpb]; simp
            exact (hW.cell (p := ⟨pb, 0, none⟩) (World.block_lt_of_cell? _ _ h1)).trans h1
          rw [← hpb]
          have HBW5 : Hid (Below w.heap.size w W5) := HBW2.out.trans (HB5.out.mono HBW2.out.size)
          clear hW5 hb5 hpb
          go_wp2_with (first
            | (go_at_call 17; refine (HRF.out _ HBW5.out).mono ?_; rintro e w6 ⟨rfl, hw6⟩; rw [hw6]; clear hw6)
            | (go_at_call 11; refine (HAL.out _ HBW5.out).mono ?_; rintro e w7 ⟨rfl, hb7⟩; have HB7 : Hid (Below W5.heap.size W5 w7) := hb7; clear hb7)
            | (go_at_call 20; refine (HRA.out _ (HB5.out.trans (HB7.out.mono HB5.out.size))).mono ?_; rintro e w8 ⟨rfl, hb8⟩; have HB8 : Hid (Below W5.heap.size W5 w8) := HB7.out.trans (hb8.mono HB7.out.size); have c8 := HP5.out w8 HB8.out; clear hb8))
          go_ret
          exact ⟨by first | rfl | simp, HBW5.out.trans (HB8.out.mono HBW5.out.size)⟩
end Go.Proofs.YthjlihhknaelaaaDoor
