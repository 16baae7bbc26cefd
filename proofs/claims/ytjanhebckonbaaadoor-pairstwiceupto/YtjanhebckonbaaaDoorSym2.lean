/- slices.symMergeCmpFunc at pairs: one pair on the right. -/
import Derived.Test.YtjanhebckonbaaaDoorSym1
namespace Go.Proofs.YtjanhebckonbaaaDoor
open Go.RowKit Go.Shelf Go.Lib Go.Sort Pm
set_option maxRecDepth 1000000
attribute [local go_sem ↓] exec_load_P exec_store_P

set_option maxHeartbeats 8000000 in
theorem symMerge_two (blk off n cap : Nat) (w0 w : World) (R : RowP w0 blk off n) (A Q B : List Pr) (x : Pr) (S : SWK encP 2 w0 blk off (A ++ (Q ++ x :: B)).toArray w) (hn : (A ++ (Q ++ x :: B)).length = n) (hQ : Up lessB Q) (hq1 : Q.length ≠ 1) (a m b : Nat) (ha : a = A.length) (hm : m = a + Q.length) (hb : b = m + 1) :
    Calls Tryd.prog 49 #[.slice (some ⟨blk, off, none⟩) n cap, .int .i64 a, .int .i64 m, .int .i64 b, .func (.func 31) #[] #[]] w fun e w' => e = .returned (.tuple #[]) ∧ ∃ X, Stably lessB (Q ++ [x]) X ∧ SWK encP 2 w0 blk off (A ++ (X ++ B)).toArray w' := by
  have hbig := R.big
  have mixed := mixedP
  have eg : ∀ args w, (callFunc 31 args).run Tryd.prog w = .ok (.enter 31 args) w := enters_of Tryd.func31 (by kernel_rfl) rfl
  have hn' : A.length + (Q.length + (B.length + 1)) = n := by simpa using hn
  have hmn : m < n := by omega
  have ham : a ≤ m := by omega
  obtain ⟨dl, hdl⟩ : ∃ dl, m - a = dl := ⟨_, rfl⟩
  have ema : (m : Int) - (a : Int) = (dl : Int) := by omega
  have ema1 : ((dl : Int) == 1) = false := beq_eq_false_iff_ne.2 (by omega)
  have ebm : (b : Int) - (m : Int) = 1 := by omega
  have hxm : (A ++ (Q ++ x :: B)).toArray[m]! = x := Pm.get_at _ (A ++ Q) B x m (by simp) (by simp; omega)
  have HPT : Hid (∀ i, a ≤ i → i ≤ m → ∃ L1 L2, Q = L1 ++ L2 ∧ a + L1.length = i ∧ (0 < L1.length → ∃ a' u, L1 = a' ++ [u] ∧ (A ++ (Q ++ x :: B)).toArray[i - 1]! = u) ∧ (0 < L2.length → ∃ u b', L2 = u :: b' ∧ (A ++ (Q ++ x :: B)).toArray[i]! = u)) := by
    show ∀ i, _
    intro i h1 h2
    obtain ⟨L1, L2, g1, g2, g3, g4⟩ := part_at A Q (x :: B) i (by omega) (by omega)
    exact ⟨L1, L2, g1, by omega, g3, g4⟩
  have S0 : Aside (SWK encP 2 w0 blk off (A ++ (Q ++ x :: B)).toArray w) := S
  have HN : Hid ((A ++ (Q ++ x :: B)).length = n) := hn
  have HQ : Hid (Up lessB Q) := hQ
  have HA : Hid (a = A.length) := ha
  have HM : Hid (m = a + Q.length) := hm
  have HXM : Hid ((A ++ (Q ++ x :: B)).toArray[m]! = x) := hxm
  have HL : Hid ((A ++ (Q ++ x :: B)).toArray.size = n) := by show _ = _; simpa using hn
  obtain ⟨d, hd⟩ : ∃ d : Array Pr, (A ++ (Q ++ x :: B)).toArray = d := ⟨_, rfl⟩
  have HD : Hid ((A ++ (Q ++ x :: B)).toArray = d) := hd
  rw [hd] at S0 HXM HL HPT
  clear S hn hn' hQ ha hm hb hxm hd hq1 hdl
  go_enter Tryd.func49, Tryd.ntmps49
  go_wp2
  go_loopg [14, 15] (m - a) (fun g s10 s11 wr => ∃ (i j : Nat), s10 = .int .i64 i ∧ s11 = .int .i64 j ∧ a ≤ i ∧ i ≤ j ∧ j ≤ m ∧ j - i ≤ g ∧ Aside (SWK encP 2 w0 blk off d wr) ∧ Hid ((i = a ∨ lessB x.1 d[i - 1]!.1 = false) ∧ (j = m ∨ lessB x.1 d[j]!.1 = true)))
  case atStart => exact ⟨a, m, rfl, rfl, Nat.le_refl _, ham, Nat.le_refl _, Nat.le_refl _, S0, .inl rfl, .inl rfl⟩
  case round =>
    clear S0
    obtain ⟨i, j, rfl, rfl, hmi, hij, hjb, hg, S1, H⟩ := hrel
    by_cases hlt : i < j
    · have hltz : (i : Int) < (j : Int) := by omega
      obtain ⟨h, hh⟩ : ∃ h, h = (i + j) / 2 := ⟨_, rfl⟩
      have ehz : ((i : Int) + (j : Int)) / 2 = (h : Int) := by omega
      have hih : i ≤ h := by omega
      have hhj : h < j := by omega
      clear hh
      have rh : IntKind.i64.wrap (h : Int) = (h : Int) := by rw [IntKind.wrap_i64]; omega
      have ph : (0 : Int) ≤ (h : Int) := by omega
      have bh : (h : Int) < (n : Int) := by omega
      have eh : (h : Int).toNat = h := by omega
      have pa : (0 : Int) ≤ (m : Int) := by omega
      have ba : (m : Int) < (n : Int) := by omega
      have ea : (m : Int).toNat = m := by omega
      have lh := R.ld S1.out HL.out h (by omega)
      have la := R.ld S1.out HL.out m (by omega)
      rw [HXM.out] at la
      obtain ⟨y, hy⟩ : ∃ y, d[h]! = y := ⟨_, rfl⟩
      rw [hy] at lh
      have HY : Hid (d[h]! = y) := hy
      clear hy
      have hcm := RowP.cmp S1.out x y
      cases hv : lessB x.1 y.1
      · have hv1 : ¬ cfP x y < 0 := not_lt_of_cf hv
        have hv2 : decide (cfP x y < 0) = false := decide_eq_false hv1
        have HV : Hid (lessB x.1 y.1 = false) := hv
        clear hv
        go_wp2_with fail
        go_quiet_grown (first | (go_at_fn 31; refine Calls.grown_of (hcm _ _)) | (go_at_call 31; refine Calls.grown_of (hcm _ _)))
        have S2 : Aside (SWK encP 2 w0 blk off d (grow (wr.drewN nq) osq)) := S1.out.grown nq osq
        clear lh la hcm S1
        generalize grow (wr.drewN nq) osq = w2 at S2 ⊢
        go_wp2
        go_roundg (j - (h + 1))
        case measure => omega
        case rel => exact ⟨h + 1, j, by go_num, rfl, by omega, by omega, hjb, Nat.le_refl _, S2, .inr (by rw [Nat.add_sub_cancel, HY.out]; exact HV.out), H.out.2⟩
      · have hv1 : cfP x y < 0 := lt_of_cf hv
        have hv2 : decide (cfP x y < 0) = true := decide_eq_true hv1
        have HV : Hid (lessB x.1 y.1 = true) := hv
        clear hv
        go_wp2_with fail
        go_quiet_grown (first | (go_at_fn 31; refine Calls.grown_of (hcm _ _)) | (go_at_call 31; refine Calls.grown_of (hcm _ _)))
        have S2 : Aside (SWK encP 2 w0 blk off d (grow (wr.drewN nq) osq)) := S1.out.grown nq osq
        clear lh la hcm S1
        generalize grow (wr.drewN nq) osq = w2 at S2 ⊢
        go_wp2
        go_roundg (h - i)
        case measure => omega
        case rel => exact ⟨i, h, rfl, rfl, hmi, hih, by omega, Nat.le_refl _, S2, H.out.1, .inr (by rw [HY.out]; exact HV.out)⟩
    · have hltz : ¬ (i : Int) < (j : Int) := by omega
      obtain rfl : i = j := by omega
      obtain ⟨Q1, Q2, hq, hl1, hq1, hq2⟩ := HPT.out i hmi hjb
      have HQ1 : Hid (∀ v ∈ Q1, lessB x.1 v.1 = false) := by
        show ∀ v ∈ Q1, _
        rcases Nat.eq_zero_or_pos Q1.length with h0 | h0
        · rw [List.eq_nil_of_length_eq_zero h0]; intro v hv; cases hv
        · obtain ⟨a', u, e1, e2⟩ := hq1 h0
          rcases H.out.1 with h1 | h1
          · omega
          · rw [e1]
            rw [e2] at h1
            have hup := HQ.out
            rw [hq, e1] at hup
            exact all_le (up_left hup) h1
      have HQ2 : Hid (∀ v ∈ Q2, lessB x.1 v.1 = true) := by
        show ∀ v ∈ Q2, _
        rcases Nat.eq_zero_or_pos Q2.length with h0 | h0
        · rw [List.eq_nil_of_length_eq_zero h0]; intro v hv; cases hv
        · obtain ⟨u, b', e1, e2⟩ := hq2 h0
          rcases H.out.2 with h1 | h1
          · exfalso
            have hm2 := HM.out
            rw [hq, List.length_append] at hm2
            omega
          · rw [e1]
            rw [e2] at h1
            have hup := HQ.out
            rw [hq, e1] at hup
            exact all_gt (up_right hup) h1
      have HQQ : Hid (Q = Q1 ++ Q2) := hq
      have S1' : Aside (SWK encP 2 w0 blk off (A ++ (Q1 ++ (Q2 ++ x :: ([] ++ B)))).toArray wr) := by
        have h := S1.out
        rw [← HD.out, hq, List.append_assoc Q1] at h
        exact h
      have HL1 : Hid (a + Q1.length = i) := hl1
      clear S1 hq hl1 hq1 hq2 H HPT HXM
      go_wp2
      go_loopg [17] (m - i) (fun g s17 wr => ∃ (k : Nat) (U V : List Pr), s17 = .int .i64 k ∧ i ≤ k ∧ k ≤ m ∧ k - i ≤ g ∧ Aside (SWK encP 2 w0 blk off (A ++ (Q1 ++ (U ++ x :: (V ++ B)))).toArray wr) ∧ Hid (Q2 = U ++ V ∧ k = i + U.length))
      case atStart => exact ⟨m, Q2, [], rfl, hjb, Nat.le_refl _, Nat.le_refl _, S1', by simp, by have h := HM.out; rw [HQQ.out, List.length_append] at h; have := HL1.out; omega⟩
      case round =>
        clear S1'
        obtain ⟨k, U, V, rfl, hak, hki, hg2, S1, H2⟩ := hrel
        by_cases hk : i < k
        · have hkz : (i : Int) < (k : Int) := by omega
          obtain ⟨U', v, hU⟩ := cut_last U (by have := H2.out.2; omega)
          have HU : Hid (U = U' ++ [v]) := hU
          clear hU
          obtain ⟨kp, rfl⟩ : ∃ kp, k = kp + 1 := ⟨k - 1, by omega⟩
          have hs : (A ++ (Q1 ++ (U ++ x :: (V ++ B)))).toArray.size = n := by
            have h1 := HN.out
            rw [HQQ.out, H2.out.1] at h1
            simp at h1 ⊢
            omega
          have ekk : ((kp + 1 : Nat) : Int) - 1 = (kp : Int) := by omega
          have ek : (kp : Int).toNat = kp := by omega
          have pk : (0 : Int) ≤ (kp : Int) := by omega
          have bk : (kp : Int) < (n : Int) := by omega
          have rk : IntKind.i64.wrap (kp : Int) = (kp : Int) := by rw [IntKind.wrap_i64]; omega
          have ek1 : ((kp : Int) + 1).toNat = kp + 1 := by omega
          have pk1 : (0 : Int) ≤ (kp : Int) + 1 := by omega
          have bk1 : (kp : Int) + 1 < (n : Int) := by omega
          have rk1 : IntKind.i64.wrap ((kp : Int) + 1) = (kp : Int) + 1 := by rw [IntKind.wrap_i64]; omega
          have S2 := R.swapped S1.out hs (kp + 1) kp (by omega) (by omega)
          have lk := R.ld1 S1.out hs kp (by omega)
          have lk1 := R.ld1 S1.out hs (kp + 1) (by omega)
          have sk := R.st1 S1.out hs (kp + 1) (by omega) (A ++ (Q1 ++ (U ++ x :: (V ++ B)))).toArray[kp]!
          have sk1 := R.st2 S1.out hs (kp + 1) kp (by omega) (by omega) (A ++ (Q1 ++ (U ++ x :: (V ++ B)))).toArray[kp]! (A ++ (Q1 ++ (U ++ x :: (V ++ B)))).toArray[kp + 1]!
          have HSW : Hid (swp (A ++ (Q1 ++ (U ++ x :: (V ++ B)))).toArray (kp + 1) kp = (A ++ (Q1 ++ (U' ++ x :: ((v :: V) ++ B)))).toArray) := by
            show _ = _
            have el : A ++ (Q1 ++ (U ++ x :: (V ++ B))) = (A ++ (Q1 ++ U')) ++ v :: x :: (V ++ B) := by rw [HU.out]; simp
            have ep : kp = (A ++ (Q1 ++ U')).length := by have h := H2.out.2; rw [HU.out] at h; have := HA.out; have := HL1.out; simp at h ⊢; omega
            rw [el, ep, swp_adj]
            simp
          rw [HSW.out] at S2
          have HS2 : Aside _ := S2
          clear S2 hs
          generalize (A ++ (Q1 ++ (U ++ x :: (V ++ B)))).toArray[kp + 1]! = y1 at HS2 lk1 sk1
          generalize (A ++ (Q1 ++ (U ++ x :: (V ++ B)))).toArray[kp]! = y0 at HS2 lk sk sk1
          clear S1
          go_wp2_with fail
          go_big_region_o
          clear lk lk1 sk sk1
          generalize (wr.drew.setCells blk (off + (kp + 1) * 2) (encP y0)).setCells blk (off + kp * 2) (encP y1) = w2 at HS2 ⊢
          go_wp2
          go_roundg (kp - i)
          case measure => omega
          case rel => exact ⟨kp, U', v :: V, by first | rfl | go_num, by omega, by omega, Nat.le_refl _, HS2, by rw [H2.out.1, HU.out]; simp, by have h := H2.out.2; rw [HU.out] at h; simp at h; omega⟩
        · have hkz : ¬ (i : Int) < (k : Int) := by omega
          go_wp2
          (try simp only [Exit.inBlock, Exit.then]); refine bodyPost_ret (results_none rfl _ _ _) rfl ?_
          refine ⟨rfl, Q1 ++ x :: Q2, ?_, ?_⟩
          · have := insert_right lessB_sto (y := x) (a := Q1) (b := Q2) (by rw [← HQQ.out]; exact HQ.out) HQ1.out HQ2.out
            rw [HQQ.out]
            exact this
          · have h1 := H2.out.1
            have hU : U = [] := List.eq_nil_of_length_eq_zero (by have := H2.out.2; omega)
            have h := S1.out
            rw [hU] at h h1
            simp at h1
            rw [h1]
            simpa using h
end Go.Proofs.YtjanhebckonbaaaDoor
