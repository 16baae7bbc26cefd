/- Texts that were written apart, joined. -/
import Derived.Test.YtjhjejjnkpbphaaDoorHe
import Derived.Test.YtjhjejjnkpbphaaDoorHg
/- Len. -/
namespace Go.Proofs.YtjhjejjnkpbphaaDoor
open Go.RowKit Nums Fm Pk
set_option maxRecDepth 100000

/-- What Len looks at. -/
structure SLn (wb g off k : Nat) (ws : Value) (c : Nat) (W : World) : Prop where
  c2 : W.cell? ⟨wb, 2, none⟩ = some ws
  cx : W.cell? ⟨g, off + k, none⟩ = some (.int .i64 (c : Int))
theorem SLn.facts {wb g off k : Nat} {ws : Value} {c : Nat} {W : World} (h : SLn wb g off k ws c W) : W.cell? ⟨wb, 2, none⟩ = some ws ∧ W.cell? ⟨g, off + k, none⟩ = some (.int .i64 (c : Int)) := ⟨h.1, h.2⟩
set_option maxHeartbeats 2000000 in
theorem Len_any (E : Nat) (w : World) (wb : Nat) (base : Int) (m : List RSt) (cs : List Nat) (h : WkAt E w wb base m cs) (hcs : cs.length = m.length) :
    Calls Tryd.prog 19 #[.pointer (some ⟨wb, 0, none⟩)] w fun e w' => e = .returned (.int .i64 ((cs.getD (m.length - 1) 0 : Nat) : Int)) ∧ Below w.heap.size w w' := by
  have HRT : Hid (∀ W, WkAt E W wb base m cs → Calls Tryd.prog 43 #[.pointer (some ⟨wb, 0, none⟩)] W fun e w' => e = .returned (.int .i64 ((m.length : Int) - 1)) ∧ w' = W) := fun W hW => Root_any E W wb base m cs hW
  by_cases h0 : m = []
  · subst h0
    have HH : Hid (WkAt E w wb base [] cs) := h
    have HC : Hid (cs = []) := List.eq_nil_of_length_eq_zero hcs
    clear h hcs
    go_enter Tryd.func19, Tryd.ntmps19
    go_wp2_with (go_at_call 43; refine (HRT.out _ HH.out).mono ?_; rintro e w1 ⟨rfl, hw1⟩; rw [hw1]; clear hw1)
    go_ret
    exact ⟨by rw [HC.out]; rfl, Below.refl _ _⟩
  · have hpos := List.length_pos_iff.2 h0
    obtain ⟨sd, sc, wd, wc, c0, c1, c2, hS, hG⟩ := h.facts
    obtain ⟨k, hk⟩ : ∃ k, m.length = k + 1 := ⟨m.length - 1, by omega⟩
    obtain ⟨c, hc⟩ : ∃ c, cs[k]? = some c := ⟨cs[k]'(by omega), List.getElem?_eq_getElem _⟩
    obtain ⟨g, off, rfl, hg, cx⟩ := hG.num hc
    have hl := hS.len
    have HW : Hid (WkAt E w wb base m cs) := h
    have HWd : Hid (WkAt E w.drew wb base m cs) := h.below (Below.refl _ w).drew
    have hS0 : SLn wb g off k (.slice (some ⟨g, off, none⟩) cs.length wc) c w.drew := ⟨c2, cx⟩
    have HCC : Hid (cs.getD (m.length - 1) 0 = c) := by
      show _ = _
      rw [hk, Nat.add_sub_cancel, List.getD_eq_getElem?_getD, hc]
      rfl
    have HBW : Hid (Below w.heap.size w w.drew) := (Below.refl _ w).drew
    rw [hcs, hk] at hS0
    rw [hk] at HRT
    have hkz : ((k + 1 : Nat) : Int) - 1 = (k : Int) := by omega
    rw [hkz] at HRT
    have hl2 : k + 1 ≤ 9223372036854775807 := by omega
    have hkz2 : (k : Int) < (k : Int) + 1 := by omega
    clear hG hS c0 c1 c2 cx h hl
    go_enter Tryd.func19, Tryd.ntmps19
    go_upto_region 3 with (go_at_call 43; refine (HRT.out _ HW.out).mono ?_; rintro e w1 ⟨rfl, hw1⟩; rw [hw1]; clear hw1)
    refine region_at (S := SLn wb g off k (.slice (some ⟨g, off, none⟩) (k + 1) wc) c) 9 rfl mixedP hS0 (fun _ => ?_)
    refine take_at (i := 0) 6 rfl rfl (by kernel_rfl) (by kernel_rfl) (by kernel_rfl) (fun _ _ _ h => h) (by rfl) (fun w hSw => by (have hSw2 := SLn.facts hSw; clear hSw; go_simp; first | done | exact rfl)) (by assumption) ?_
    simp only [List.setIfInBounds_toArray, List.set_cons_zero, List.set_cons_succ]
    refine take_at (i := 1) 7 rfl rfl (by kernel_rfl) (by kernel_rfl) (by kernel_rfl) (fun _ _ _ h => h) (by rfl) (fun w hSw => by (have hSw2 := SLn.facts hSw; clear hSw; go_simp; first | done | exact rfl)) (by assumption) ?_
    simp only [List.setIfInBounds_toArray, List.set_cons_zero, List.set_cons_succ]
    refine take_at (i := 2) 8 rfl rfl (by kernel_rfl) (by kernel_rfl) (by kernel_rfl) (fun _ _ _ h => h) (by rfl) (fun w hSw => by (have hSw2 := SLn.facts hSw; clear hSw; go_simp; first | done | exact rfl)) (by assumption) ?_
    simp only [List.setIfInBounds_toArray, List.set_cons_zero, List.set_cons_succ]
    refine take_at (i := 3) 9 rfl rfl (by kernel_rfl) (by kernel_rfl) (by kernel_rfl) (fun _ _ _ h => h) (by rfl) (fun w hSw => by (have hSw2 := SLn.facts hSw; clear hSw; go_simp; first | done | exact rfl)) (by assumption) ?_
    simp only [List.setIfInBounds_toArray, List.set_cons_zero, List.set_cons_succ]
    refine take_at (i := 4) 10 rfl rfl (by kernel_rfl) (by kernel_rfl) (by kernel_rfl) (fun _ _ _ h => h) (by rfl) (fun w hSw => by (have hSw2 := SLn.facts hSw; clear hSw; go_simp; first | done | exact rfl)) (by assumption) ?_
    simp only [List.setIfInBounds_toArray, List.set_cons_zero, List.set_cons_succ]
    refine one_call (i := 5) (w0 := w.drew) 11 43 #[.pointer (some ⟨wb, 0, none⟩)] (by kernel_rfl) rfl rfl (by rfl) (by kernel_rfl) ?_
    refine (HRT.out _ HWd.out).mono ?_
    rintro e w1 ⟨rfl, hw1⟩
    subst hw1
    refine ⟨_, rfl, hS0, fun _ => ?_⟩
    simp only [List.setIfInBounds_toArray, List.set_cons_zero, List.set_cons_succ]
    refine take_at (i := 6) 12 rfl rfl (by kernel_rfl) (by kernel_rfl) (by kernel_rfl) (fun _ _ _ h => h) (by rfl) (fun w hSw => by (have hSw2 := SLn.facts hSw; clear hSw; go_simp; first | done | exact rfl)) (by assumption) ?_
    simp only [List.setIfInBounds_toArray, List.set_cons_zero, List.set_cons_succ]
    refine take_at (i := 7) 13 rfl rfl (by kernel_rfl) (by kernel_rfl) (by kernel_rfl) (fun _ _ _ h => h) (by rfl) (fun w hSw => by (have hSw2 := SLn.facts hSw; clear hSw; go_simp; first | done | exact rfl)) (by assumption) ?_
    simp only [List.setIfInBounds_toArray, List.set_cons_zero, List.set_cons_succ]
    refine take_at (i := 8) 2 rfl rfl (by kernel_rfl) (by kernel_rfl) (by kernel_rfl) (fun _ _ _ h => h) (by rfl) (fun w hSw => by (have hSw2 := SLn.facts hSw; clear hSw; go_simp; first | done | exact rfl)) (by assumption) ?_
    simp only [List.setIfInBounds_toArray, List.set_cons_zero, List.set_cons_succ]
    clear hkz2
    refine wpAnyH_done (by kernel_rfl) ?_ _
    clear hS0
    go_wp2
    go_ret
    exact ⟨by rw [HCC.out]; rfl, HBW.out⟩
end Go.Proofs.YtjhjejjnkpbphaaDoor

/- Rank. -/
namespace Go.Proofs.YtjhjejjnkpbphaaDoor
open Go.RowKit Nums Fm Pk
set_option maxRecDepth 100000

/-- The first place where p holds. -/
structure FirstAt (n : Nat) (p : Nat → Bool) (r : Nat) : Prop where
  le : r ≤ n
  lo : ∀ k, k < r → p k = false
  hi : ∀ k, r ≤ k → k < n → p k = true
theorem half_run (x : Int) (t : TypeId) (W : World) : (binOp .shr t (.int .u64 x) (.int .u64 1)).run Tryd.prog W = .ok (.int .u64 (x / 2)) W := by
  rw [binOp_shr, shift_shr_u64 _ _ _ (by omega) (by omega)]
  rfl
set_option maxHeartbeats 2000000 in
theorem search_any (n : Nat) (p : Nat → Bool) (w : World) (c0 c1 : Value) (hn : n ≤ 4611686018427387903) (hm : ∀ a b, a ≤ b → b < n → p a = true → p b = true)
    (hf : ∀ W k, Below w.heap.size w W → k < n → Calls Tryd.prog 58 #[.int .i64 (k : Int), c0, c1] W fun e w' => e = .returned (.bool (p k)) ∧ Below W.heap.size W w') :
    Calls Tryd.prog 57 #[.int .i64 (n : Int), .func (.func 58) #[] #[c0, c1]] w fun e w' => ∃ r : Nat, e = .returned (.int .i64 (r : Int)) ∧ FirstAt n p r ∧ Below w.heap.size w w' := by
  have HF : Hid (∀ W k, Below w.heap.size w W → k < n → Calls Tryd.prog 58 #[.int .i64 (k : Int), c0, c1] W fun e w' => e = .returned (.bool (p k)) ∧ Below W.heap.size W w') := hf
  have HM : Hid (∀ a b, a ≤ b → b < n → p a = true → p b = true) := hm
  clear hf hm
  go_enter Tryd.func57, Tryd.ntmps57
  go_wp2
  go_loopg [5, 6, 7] n (fun gm s5 s6 _ wr => ∃ (i j : Nat), s5 = .int .i64 i ∧ s6 = .int .i64 j ∧ i ≤ j ∧ j ≤ n ∧ j - i ≤ gm ∧ Hid ((∀ k, k < i → p k = false) ∧ ∀ k, j ≤ k → k < n → p k = true) ∧ Hid (Below w.heap.size w wr))
  case atStart => exact ⟨0, n, rfl, rfl, Nat.zero_le _, Nat.le_refl _, by omega, ⟨fun k hk => by omega, fun k h1 h2 => by omega⟩, Below.refl _ _⟩
  case round =>
    obtain ⟨i, j, rfl, rfl, hij, hjn, hgm, HP, HB⟩ := hrel
    by_cases hlt : i < j
    · have hltz : (i : Int) < (j : Int) := by omega
      obtain ⟨h, hh⟩ : ∃ h, h = (i + j) / 2 := ⟨_, rfl⟩
      have h1 : i ≤ h := by omega
      have h2 : h < j := by omega
      have hhz : ((i : Int) + (j : Int)) / 2 = (h : Int) := by omega
      have HC : Hid (Calls Tryd.prog 58 #[.int .i64 (h : Int), c0, c1] wr fun e w' => e = .returned (.bool (p h)) ∧ Below wr.heap.size wr w') := HF.out wr h HB.out (by omega)
      have HHZ : Hid (((i : Int) + (j : Int)) / 2 = (h : Int)) := hhz
      have hh63 : (h : Int) ≤ 9223372036854775807 := by omega
      clear hhz hh
      go_upto_region 4 with fail
      rw [HHZ.out]
      cases hph : p h with
      | false =>
        rw [hph] at HC
        have HN : Hid ((∀ k, k < h + 1 → p k = false) ∧ ∀ k, j ≤ k → k < n → p k = true) := ⟨fun k hk => (by
          cases hpk : p k with
          | false => rfl
          | true => exact absurd ((HM.out k h (by omega) (by omega) hpk).symm.trans hph) (by simp)), HP.out.2⟩
        clear hph
        go_wp2_with (go_at_call 58; refine HC.out.mono ?_; rintro e w2 ⟨rfl, hb2⟩; have HB2 : Hid (Below w.heap.size w w2) := HB.out.trans (hb2.mono HB.out.size); clear hb2)
        go_roundg (j - (h + 1))
        case measure => omega
        case rel => exact ⟨h + 1, j, by go_num, by go_num, by omega, hjn, Nat.le_refl _, HN, HB2⟩
      | true =>
        rw [hph] at HC
        have HN : Hid ((∀ k, k < i → p k = false) ∧ ∀ k, h ≤ k → k < n → p k = true) := ⟨HP.out.1, fun k h3 h4 => HM.out h k h3 h4 hph⟩
        clear hph
        go_wp2_with (go_at_call 58; refine HC.out.mono ?_; rintro e w2 ⟨rfl, hb2⟩; have HB2 : Hid (Below w.heap.size w w2) := HB.out.trans (hb2.mono HB.out.size); clear hb2)
        go_roundg (h - i)
        case measure => omega
        case rel => exact ⟨i, h, by go_num, by go_num, h1, by omega, Nat.le_refl _, HN, HB2⟩
    · have hltz : ¬ (i : Int) < (j : Int) := by omega
      go_wp2
      go_ret
      have e : i = j := by omega
      exact ⟨i, rfl, ⟨by omega, HP.out.1, by rw [e]; exact HP.out.2⟩, HB.out⟩
end Go.Proofs.YtjhjejjnkpbphaaDoor

/- Rank. -/
namespace Go.Proofs.YtjhjejjnkpbphaaDoor
open Go.RowKit Nums Fm Pk Pm
set_option maxRecDepth 100000

theorem LenW_any (w : World) (wb : Nat) (l : List Pr) (h : WkOn w wb l) :
    Calls Tryd.prog 19 #[.pointer (some ⟨wb, 0, none⟩)] w fun e w' => e = .returned (.int .i64 (l.length : Int)) ∧ Below w.heap.size w w' := by
  obtain ⟨D, hM, hI, hW⟩ := h.at'
  have h1 := Len_any _ w wb _ _ _ hW (by rw [List.length_map, List.length_map, hI.len])
  have e : (D.map List.length).getD (((machOf l).2.map ofSt).length - 1) 0 = l.length := by
    rcases mach_nil h.ok with hl | ⟨hl, n, hn⟩
    · subst hl
      have : D = [] := by
        have := hI.len
        simpa [machOf] using this
      rw [this]
      rfl
    · have hr := (hM hl).root
      rw [List.length_map, List.getD_eq_getElem?_getD, List.getElem?_map, hr]
      show (level (ents l)).length = _
      simp [level, shift, ents]
  rw [e] at h1
  exact h1
set_option maxHeartbeats 1000000 in
theorem rank1_any (W : World) (wb : Nat) (l : List Pr) (h : WkOn W wb l) (c0 c1 : Nat) (s : ByteArray) (h0 : W.cell? ⟨c0, 0, none⟩ = some (.pointer (some ⟨wb, 0, none⟩))) (h1 : W.cell? ⟨c1, 0, none⟩ = some (.string s)) (k : Nat) (hk : k < l.length) (hl : l.length ≤ 4096) :
    Calls Tryd.prog 58 #[.int .i64 (k : Int), .pointer (some ⟨c0, 0, none⟩), .pointer (some ⟨c1, 0, none⟩)] W fun e w' => e = .returned (.bool (!lessB (l.getD k zP).1 s)) ∧ Below W.heap.size W w' := by
  obtain ⟨x, hx⟩ : ∃ x, l[k]? = some x := ⟨l[k], List.getElem?_eq_getElem _⟩
  have HA : Hid (Calls Tryd.prog 59 #[.pointer (some ⟨wb, 0, none⟩), .int .i64 (k : Int)] W fun e w' => e = .returned (.tuple #[.agg #[.string x.1, .int .i64 x.2], .bool true]) ∧ Below W.heap.size W w') := by
    have := at_pos W wb l h k (by omega)
    rw [hx] at this
    exact this
  have e : l.getD k zP = x := by rw [List.getD_eq_getElem?_getD, hx]; rfl
  rw [e]
  obtain ⟨F, hF⟩ : ∃ F, lessB x.1 s = F := ⟨_, rfl⟩
  have HPL : Hid (∀ W', Calls Tryd.prog 60 #[.string x.1, .string s] W' fun e w' => e = .returned (.bool F) ∧ w' = W') := fun W' => by rw [← hF]; exact pless_any x.1 s W'
  have HC1 : Hid (∀ w', Below W.heap.size W w' → w'.cell? ⟨c1, 0, none⟩ = some (.string s)) := fun w' hb => (hb.cell (p := ⟨c1, 0, none⟩) (World.block_lt_of_cell? _ _ h1)).trans h1
  rw [hF]
  clear h hx e hF h1
  go_enter Tryd.func58, Tryd.ntmps58
  go_upto_region 2 with (go_at_call 59; refine HA.out.mono ?_; rintro e w1 ⟨rfl, hb1⟩; have HB1 : Hid (Below W.heap.size W w1) := hb1; clear hb1)
  obtain ⟨W2, hW2⟩ : ∃ W2, W2 = w1.alloc (.cells #[.string x.1, .int .i64 x.2] 54) := ⟨_, rfl⟩
  rw [← hW2]
  have hb2 : Below w1.heap.size w1 W2 := by rw [hW2]; exact (Below.refl _ w1).alloc (Nat.le_refl _) _
  have HB2 : Hid (Below W.heap.size W W2) := HB1.out.trans (hb2.mono HB1.out.size)
  have p0 : W2.cell? ⟨w1.heap.size, 0, none⟩ = some (.string x.1) := by rw [hW2]; simp
  have p1 := HC1.out W2 HB2.out
  clear hW2 hb2
  go_wp2_with (go_at_call 60; refine (HPL.out _).mono ?_; rintro e w3 ⟨rfl, hw3⟩; rw [hw3]; clear hw3)
  go_ret
  exact ⟨by first | rfl | simp, HB2.out⟩
theorem first_one {n : Nat} {p : Nat → Bool} {r q : Nat} (h : FirstAt n p r) (h' : FirstAt n p q) : r = q := by
  rcases Nat.lt_trichotomy r q with g | g | g
  · have h1 := h'.lo r g
    have h2 := h.hi r (Nat.le_refl _) (by have := h'.le; omega)
    rw [h1] at h2; cases h2
  · exact g
  · have h1 := h.lo q g
    have h2 := h'.hi q (Nat.le_refl _) (by have := h.le; omega)
    rw [h1] at h2; cases h2
/-- Words rise. -/
def Rising (l : List Pr) : Prop := ∀ a b, a < b → b < l.length → lessB (l.getD a zP).1 (l.getD b zP).1 = true
set_option maxHeartbeats 1000000 in
theorem Rank_any (w : World) (wb : Nat) (l : List Pr) (h : WkOn w wb l) (hl : l.length ≤ 4096) (hu : Rising l) (s : ByteArray) :
    Calls Tryd.prog 28 #[.pointer (some ⟨wb, 0, none⟩), .string s] w fun e w' => ∃ r : Nat, e = .returned (.int .i64 (r : Int)) ∧ FirstAt l.length (fun k => !lessB (l.getD k zP).1 s) r ∧ Below w.heap.size w w' := by
  obtain ⟨c0, hc0⟩ : ∃ c0, c0 = w.heap.size := ⟨_, rfl⟩
  obtain ⟨c1, hc1⟩ : ∃ c1, c1 = w.heap.size + 1 := ⟨_, rfl⟩
  have HLn : Hid (∀ W, Below w.heap.size w W → Calls Tryd.prog 19 #[.pointer (some ⟨wb, 0, none⟩)] W fun e w' => e = .returned (.int .i64 (l.length : Int)) ∧ Below W.heap.size W w') := fun W hW => LenW_any W wb l (h.below hW)
  have HS : Hid (∀ W, Below w.heap.size w W → W.cell? ⟨c0, 0, none⟩ = some (.pointer (some ⟨wb, 0, none⟩)) → W.cell? ⟨c1, 0, none⟩ = some (.string s) → Calls Tryd.prog 57 #[.int .i64 (l.length : Int), .func (.func 58) #[] #[.pointer (some ⟨c0, 0, none⟩), .pointer (some ⟨c1, 0, none⟩)]] W fun e w' => ∃ r : Nat, e = .returned (.int .i64 (r : Int)) ∧ FirstAt l.length (fun k => !lessB (l.getD k zP).1 s) r ∧ Below W.heap.size W w') := fun W hW g0 g1 => by
    refine search_any l.length _ W _ _ (by omega) (fun a b hab hb hp => ?_) (fun W2 k hW2 hk => ?_)
    · by_cases e : a = b
      · rw [← e]; exact hp
      · have h1 := hu a b (by omega) hb
        simp only [Bool.not_eq_true'] at hp ⊢
        cases hbs : lessB (l.getD b zP).1 s with
        | false => rfl
        | true => have := lessB_sto.tr _ _ _ h1 hbs; rw [hp] at this; cases this
    · exact rank1_any W2 wb l (h.below (hW.trans (hW2.mono hW.size))) c0 c1 s ((hW2.cell (p := ⟨c0, 0, none⟩) (World.block_lt_of_cell? _ _ g0)).trans g0) ((hW2.cell (p := ⟨c1, 0, none⟩) (World.block_lt_of_cell? _ _ g1)).trans g1) k hk hl
  obtain ⟨n, hn⟩ : ∃ n, l.length = n := ⟨_, rfl⟩
  rw [hn] at HLn HS hl ⊢
  clear h hn hu
  go_enter Tryd.func28, Tryd.ntmps28
  go_upto_region 1 with fail
  rw [← hc1, ← hc0]
  generalize hW1 : (w.alloc _).alloc _ = W1
  have hb1 : Below w.heap.size w W1 := by rw [← hW1]; exact ((Below.refl _ w).alloc (Nat.le_refl _) _).alloc (by simp) _
  have HB1 : Hid (Below w.heap.size w W1) := hb1
  have g0 : W1.cell? ⟨c0, 0, none⟩ = some (.pointer (some ⟨wb, 0, none⟩)) := by rw [← hW1, hc0]; simp
  have g1 : W1.cell? ⟨c1, 0, none⟩ = some (.string s) := by rw [← hW1, hc1]; simp
  have HG : Hid (∀ W, Below W1.heap.size W1 W → W.cell? ⟨c0, 0, none⟩ = some (.pointer (some ⟨wb, 0, none⟩)) ∧ W.cell? ⟨c1, 0, none⟩ = some (.string s)) := fun W hW => ⟨(hW.cell (p := ⟨c0, 0, none⟩) (World.block_lt_of_cell? _ _ g0)).trans g0, (hW.cell (p := ⟨c1, 0, none⟩) (World.block_lt_of_cell? _ _ g1)).trans g1⟩
  clear hb1 hW1 g1 hc0 hc1
  go_wp2_with (first
    | (go_at_call 19; refine (HLn.out _ HB1.out).mono ?_; rintro e w2 ⟨rfl, hb2⟩; have HB2 : Hid (Below W1.heap.size W1 w2) := hb2; clear hb2)
    | (go_at_call 57; refine (HS.out _ (HB1.out.trans (HB2.out.mono HB1.out.size)) (HG.out _ HB2.out).1 (HG.out _ HB2.out).2).mono ?_; rintro e w3 ⟨r, rfl, hfa, hb3⟩))
  go_ret
  have hb12 := HB1.out.trans (HB2.out.mono HB1.out.size)
  exact ⟨r, rfl, hfa, hb12.trans (hb3.mono hb12.size)⟩
end Go.Proofs.YtjhjejjnkpbphaaDoor
