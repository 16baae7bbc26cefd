/- WalkKeeps: the law's own walk. -/
import Derived.Test.YtllmdfkiogmofaaDoorKpB
import Derived.Test.YtllmdfkiogmofaaDoorAllW
namespace Go.Proofs.YtllmdfkiogmofaaDoor
open Go.RowKit Nums Fm Pk Pm
set_option maxRecDepth 100000

set_option maxHeartbeats 8000000 in
theorem keeps_walk (v : Value) (w : World) (ht : Tabs w) (l : List Pr) (h : PRow w v l) (hs : Sm l) (hl : l.length ≤ 9223372036854775807) :
    Calls Tryd.prog 3 #[v] w fun e w' => e = .returned (.bool true) ∧ Below w.heap.size w w' := by
  have HAL : Hid (∀ W, Below w.heap.size w W → Calls Tryd.prog 5 #[] W fun e w' => e = .returned (.bool true) ∧ Below W.heap.size W w') := fun W hW => alive_any W (ht.below hW)
  obtain ⟨ad, cap, rfl⟩ := h.form
  have HR : Hid (Calls Tryd.prog 4 #[.slice ad l.length cap] w fun e w' => e = .returned (.bool (rightP l)) ∧ Below w.heap.size w w') := refRight_any w _ l h hl hs
  obtain ⟨n, hn⟩ : ∃ n, l.length = n := ⟨_, rfl⟩
  have HN : Hid (l.length = n) := hn
  have HPR : Hid (PRow w (.slice ad n cap) l) := by have := h; rw [hn] at this; exact this
  have HT : Hid (Tabs w) := ht
  by_cases h3 : 300 < n
  · have HB1 : Hid (Below w.heap.size w w) := Below.refl _ _
    rw [hn] at hl ⊢
    clear h ht hs hn HR
    go_enter Tryd.func3, Tryd.ntmps3
    go_wp2_with (go_at_call 5; refine (HAL.out _ HB1.out).mono ?_; rintro e w2 ⟨rfl, hb2⟩)
    go_ret
    exact ⟨rfl, HB1.out.trans (hb2.mono HB1.out.size)⟩
  cases hr : rightP l with
  | false =>
    rw [hr] at HR
    rw [hn] at HR hl ⊢
    clear h ht hs hn hr
    go_enter Tryd.func3, Tryd.ntmps3
    go_wp2_with (first
      | (go_at_call 4; refine HR.out.mono ?_; rintro e w1 ⟨rfl, hb1⟩; have HB1 : Hid (Below w.heap.size w w1) := hb1; clear hb1)
      | (go_at_call 5; refine (HAL.out _ HB1.out).mono ?_; rintro e w2 ⟨rfl, hb2⟩))
    go_ret
    exact ⟨rfl, HB1.out.trans (hb2.mono HB1.out.size)⟩
  | true =>
    have HC : Hid (buildE l = 0) := right_build hr
    have HMK : Hid (∀ W, Below w.heap.size w W → Calls Tryd.prog 6 #[.slice ad n cap] W fun e w' => ∃ base vs b, e = .returned (.agg #[.int .i64 base, vs]) ∧ BuildSays W w' l base vs b) := fun W hW => make_all W _ l (HPR.out.below hW) HC.out
    rw [hr] at HR
    rw [hn] at HR hl ⊢
    have h3z : ¬ (300 : Int) < (n : Int) := by omega
    clear h ht hs hn hr
    go_enter Tryd.func3, Tryd.ntmps3
    go_upto_region 3 with (first
      | (go_at_call 4; refine HR.out.mono ?_; rintro e w0 ⟨rfl, hb0⟩; have HB0 : Hid (Below w.heap.size w w0) := hb0; clear hb0)
      | (go_at_call 5; refine (HAL.out _ HB0.out).mono ?_; rintro e w0a ⟨rfl, hb0a⟩; have HBA : Hid (Below w.heap.size w w0a) := HB0.out.trans (hb0a.mono HB0.out.size); clear hb0a))
    go_upto_region 4 with (go_at_call 6; refine (HMK.out _ HBA.out).mono ?_; rintro e w1 ⟨base, vs, b, rfl, hS⟩; obtain ⟨sd, sc, vas, hvs, hvl, hvn, hms⟩ := MS.of hS.row; subst hvs; have HS : Hid (BuildSays w0a w1 l base (.slice sd b.length sc) b) := hS; have HMS : Hid (MS w0a.heap.size w1.heap.size w1 sd vas) := hms; have HVN : Hid (vas.length = b.length ∧ ∀ (i : Nat) (t : Fm.St) (x : Sl), b[i]? = some t → vas[i]? = some x → x.2.1 = t.arcs.length) := ⟨hvl, hvn⟩; clear hS hms hvl hvn)
    obtain ⟨T, hT1⟩ : ∃ T, w1.heap.size = T := ⟨_, rfl⟩
    obtain ⟨nb, hnb⟩ : ∃ nb, b.length = nb := ⟨_, rfl⟩
    obtain ⟨W1, hW1⟩ : ∃ W1, w1.alloc (.cells #[.int .i64 base, .slice sd nb sc] 27) = W1 := ⟨_, rfl⟩
    have HNB : Hid (b.length = nb) := hnb
    rw [hnb] at HS ⊢
    have hbW : Below w1.heap.size w1 W1 := hW1 ▸ (Below.refl _ w1).alloc (Nat.le_refl _) _
    have hsW : W1.heap.size = T + 1 := by rw [← hW1, ← hT1]; simp
    have hmbW : W1.heap[T]? = some (.cells #[.int .i64 base, .slice sd nb sc] 27) := by rw [← hT1, ← hW1]; exact alloc_newP _ _
    have hb01 : Below w.heap.size w w1 := HBA.out.trans (HS.out.bel.mono HBA.out.size)
    have hb0W : Below w.heap.size w W1 := hb01.trans (hbW.mono hb01.size)
    have HB0W : Hid (Below w.heap.size w W1) := hb0W
    have HNW : Hid (Calls Tryd.prog 7 #[.agg #[.int .i64 base, .slice sd nb sc]] W1 fun e w' => ∃ wb, e = .returned (.tuple #[.pointer (some ⟨wb, 0, none⟩), .bool true]) ∧ W1.heap.size ≤ wb ∧ WkOnLo W1.heap.size w' wb l ∧ Below W1.heap.size W1 w') := NewW_lo _ W1 l base _ b HC.out (HS.out.row.below hbW) HS.out.mach (HT.out.below hb0W)
    have c0 : W1.cell? ⟨T, 0, none⟩ = some (.int .i64 base) := by simp [World.cell?, hmbW]
    have c1 : W1.cell? ⟨T, 1, none⟩ = some (.slice sd nb sc) := by simp [World.cell?, hmbW]
    have hwa : w.heap.size ≤ w0a.heap.size := HBA.out.size
    have HMB : Hid (W1.heap[T]? = some (.cells #[.int .i64 base, .slice sd nb sc] 27)) := hmbW
    have HMA : Hid (machOf l = (base, b)) := HS.out.mach
    have HMSW : Hid (MS w0a.heap.size T W1 sd vas) := by
      have h1 := HMS.out
      rw [hT1] at h1
      exact h1.keep (by omega) (fun j _ hj => hbW.block j (by omega))
    have hTl : T < W1.heap.size := by omega
    have hnb3 : nb ≤ 1048576 := by have := mach_few (l := l); rw [HMA.out] at this; simp only at this; omega
    rw [hT1, hW1]
    have HSW : Hid (W1.heap.size = T + 1) := hsW
    clear hbW hmbW hb01 hb0W hT1 hW1 HMS hnb hsW
    go_upto_region 7 with (go_at_call 7; refine HNW.out.mono ?_; rintro e w2 ⟨wb, rfl, hwb, hlo, hb2⟩)
    have HSO : Hid (∀ W, Kp w T w2 W → WkOn W wb l) := fun W hK => hlo W hK.sz (fun j h1 h2 => hK.lo j (by have := HSW.out; omega) h2) (HT.out.below hK.bel)
    have hsz2 := hb2.size
    have HK2 : Hid (Kp w T w2 w2) := ⟨HB0W.out.trans (hb2.mono HB0W.out.size), fun _ _ _ => rfl, Nat.le_refl _⟩
    have HM2 : Hid (MS w0a.heap.size T w2 sd vas) := HMSW.out.keep (by omega) (fun j _ hj => hb2.block j (by omega))
    have HMB2 : Hid (∀ W, Kp w T w2 W → W.cell? ⟨T, 1, none⟩ = some (.slice sd nb sc)) := fun W hK => by
      have e := (hK.lo T (Nat.le_refl _) (by omega)).trans ((hb2.block T (by omega)).trans HMB.out)
      simp [World.cell?, e]
    have c2 := HMB2.out w2 HK2.out
    have hT2 : T < w2.heap.size := by omega
    clear c0 c1 hlo hb2 HMSW HB0W HNW
    go_wp2_with fail
    go_loopw [36] (fun v wr => ∃ k : Nat, v = .int .i64 k ∧ k ≤ nb ∧ Kp w T w2 wr ∧ MS w0a.heap.size T wr sd vas) (fun v _ => nb - (intOf v).toNat)
    case atStart => exact ⟨0, rfl, Nat.zero_le _, HK2.out, HM2.out⟩
    case round =>
      clear HK2 HM2 c2
      obtain ⟨k, rfl, hk, hK, hM⟩ := hrel
      have HK : Hid (Kp w T w2 wr) := hK
      have HM : Hid (MS w0a.heap.size T wr sd vas) := hM
      obtain ⟨wk, hwk⟩ : ∃ wk : World, wk = wr := ⟨_, rfl⟩
      subst hwk
      by_cases hlt : k < nb
      · have hlti : decide ((k : Int) < (nb : Int)) = true := by simp; omega
        obtain ⟨t, ht⟩ : ∃ t, b[k]? = some t := ⟨_, List.getElem?_eq_getElem (by have := HNB.out; omega)⟩
        obtain ⟨x, hx⟩ : ∃ x, vas[k]? = some x := ⟨_, List.getElem?_eq_getElem (by have := HVN.out.1; have := HNB.out; omega)⟩
        have hxn := HVN.out.2 k t x ht hx
        have HST : Hid (Calls Tryd.prog 8 #[.pointer (some ⟨wb, 0, none⟩), .int .i64 (k : Int)] wk fun e w' => ∃ ad cap, e = .returned (.tuple #[.agg #[.bool t.final, .int .i64 t.out, .slice ad t.arcs.length cap], .bool true]) ∧ RowW wk.heap.size w' ad t.arcs.length ∧ Below wk.heap.size wk w') := State_own wk wb l (HSO.out wk hK) k t (by rw [HMA.out]; exact ht)
        obtain ⟨na, hna⟩ : ∃ na, t.arcs.length = na := ⟨_, rfl⟩
        have hna3 : na ≤ 1114112 := by have := arcs_few HC.out (n := k) (s := t) (by rw [HMA.out]; exact ht); rw [List.length_map, hna] at this; exact this
        rw [hna] at HST hxn
        clear hK hM ht hna
        go_upto_region 11 with (go_at_call 8; refine HST.out.mono ?_; rintro e w4 ⟨ad4, cap4, rfl, hR4, hb4⟩)
        obtain ⟨sb, hsb⟩ : ∃ sb, w4.heap.size = sb := ⟨_, rfl⟩
        obtain ⟨w5, hw5⟩ : ∃ w5, w4.alloc (.cells #[.bool t.final, .int .i64 t.out, .slice ad4 na cap4] 34) = w5 := ⟨_, rfl⟩
        have hn5 : w5.heap[sb]? = some (.cells #[.bool t.final, .int .i64 t.out, .slice ad4 na cap4] 34) := by rw [← hw5, ← hsb]; exact alloc_newP _ _
        have c5 : w5.cell? ⟨sb, 2, none⟩ = some (.slice ad4 na cap4) := by simp [World.cell?, hn5]
        have hb5 : Below w4.heap.size w4 w5 := hw5 ▸ (Below.refl _ w4).alloc (Nat.le_refl _) _
        have hs4 := hb4.size
        have HB5 : Hid (Below wk.heap.size wk w5) := hb4.trans (hb5.mono hb4.size)
        have HR5 : Hid (RowW wk.heap.size w5 ad4 na ∧ ∀ g off, ad4 = some ⟨g, off, none⟩ → 0 < na → g ≠ sb) := ⟨fun h0 => by
          obtain ⟨g, off, e, k1, k2, k3⟩ := hR4 h0
          exact ⟨g, off, e, k1, Nat.lt_of_lt_of_le k2 hb5.size, there_of k3 (hb5.block g k2)⟩, fun g off e h0 => by
          obtain ⟨g2, off2, e2, k1, k2, k3⟩ := hR4 h0
          rw [e] at e2; cases e2; omega⟩
        have HC5 : Hid (w5.cell? ⟨sb, 2, none⟩ = some (.slice ad4 na cap4)) := c5
        have hsbk : wk.heap.size ≤ sb := by omega
        rw [hsb, hw5]
        clear hn5 hb5 hsb hw5 hb4 hR4 hs4
        go_wp2_with fail
        go_loopw [48] (fun v wr => ∃ j : Nat, v = .int .i64 j ∧ j ≤ na ∧ wr.cell? ⟨sb, 2, none⟩ = some (.slice ad4 na cap4) ∧ RowW wk.heap.size wr ad4 na ∧ Below wk.heap.size wk wr) (fun v _ => na - (intOf v).toNat)
        case atStart => exact ⟨0, rfl, Nat.zero_le _, HC5.out, HR5.out.1, HB5.out⟩
        case round =>
          clear c5 HC5 HB5
          obtain ⟨j, rfl, hj, hcs, hRW, hBk⟩ := hrel
          have HRW : Hid (RowW wk.heap.size wr ad4 na) := hRW
          have HBK : Hid (Below wk.heap.size wk wr) := hBk
          have HCS : Hid (wr.cell? ⟨sb, 2, none⟩ = some (.slice ad4 na cap4)) := hcs
          by_cases hjl : j < na
          · obtain ⟨g, off, rfl, k1, k2, k3⟩ := hRW (by omega)
            have hgs : g ≠ sb := HR5.out.2 g off rfl (by omega)
            have hjz : (j : Int) < (na : Int) := by omega
            have q0 := k3 (j * 3) (by omega)
            have q1 := k3 (j * 3 + 1) (by omega)
            have q2 := k3 (j * 3 + 2) (by omega)
            obtain ⟨u0, hu0⟩ := Option.isSome_iff_exists.1 q0.1
            obtain ⟨u1, hu1⟩ := Option.isSome_iff_exists.1 q1.1
            obtain ⟨u2, hu2⟩ := Option.isSome_iff_exists.1 q2.1
            have f0 := q0.2
            have f1 := q1.2
            have f2 := q2.2
            rw [← Nat.add_assoc] at hu1 hu2 f1 f2
            clear hRW hBk k3 q0 q1 q2
            go_wp2_with fail
            go_roundw
            case rel =>
              refine ⟨j + 1, by go_num, by omega, ?_, ((HRW.out.set _ _ _).set _ _ _).set _ _ _, ((HBK.out.setCell k1 _).setCell k1 _).setCell k1 _⟩
              have e : ∀ (W : World) (p : Nat) (u : Value), (W.setCell ⟨g, p, none⟩ u).cell? ⟨sb, 2, none⟩ = W.cell? ⟨sb, 2, none⟩ := fun W p u => World.cell?_of_block (a := ⟨sb, 2, none⟩) (Below.heap_setCell _ _ _ _ (fun e => hgs e.symm))
              rw [e, e, e]
              exact HCS.out
            case measure => simp [intOf]; omega
          · obtain rfl : j = na := by omega
            have hK3 := HK.out.step hBk
            have hsk := HK.out.sz
            have hskk := hBk.size
            have hM3 := HM.out.keep (by omega) (fun j _ hj => hBk.block j (by omega))
            have HK3 : Hid (Kp w T w2 wr) := hK3
            have HM3 : Hid (MS w0a.heap.size T wr sd vas) := hM3
            obtain ⟨sg, so, rfl, m1, m2, m3, m4⟩ := hM3.st (by have := (List.getElem?_eq_some_iff.1 hx).1; omega)
            obtain ⟨_, m6, m7⟩ := m4 k x hx
            obtain ⟨xa, xn, xc⟩ := x
            simp only at hxn m6 m7
            subst hxn
            have cT := HMB2.out wr hK3
            have hkz : (k : Int) < (nb : Int) := by omega
            have HX : Hid (vas[k]? = some (xa, xn, xc)) := hx
            clear hRW hBk hcs hK3 hM3 m4 m7 m3 hx
            go_wp2_with fail
            go_loopw [64] (fun v wr => ∃ j : Nat, v = .int .i64 j ∧ j ≤ xn ∧ Kp w T w2 wr ∧ MS w0a.heap.size T wr (some ⟨sg, so, none⟩) vas) (fun v _ => xn - (intOf v).toNat)
            case atStart => exact ⟨0, rfl, Nat.zero_le _, HK3.out, HM3.out⟩
            case round =>
              clear HK3 HM3 cT m6
              obtain ⟨j, rfl, hj, hK4, hM4⟩ := hrel
              have HK4 : Hid (Kp w T w2 wr) := hK4
              have HM4 : Hid (MS w0a.heap.size T wr (some ⟨sg, so, none⟩) vas) := hM4
              obtain ⟨sg', so', e4, _, _, m3, m4⟩ := hM4.st (by have := (List.getElem?_eq_some_iff.1 HX.out).1; omega)
              cases e4
              obtain ⟨m5, m6, m7⟩ := m4 k _ HX.out
              simp only at m6 m7
              have cT := HMB2.out wr hK4
              by_cases hjl : j < xn
              · obtain ⟨g, off, rfl, k1, k2, k4, k3⟩ := m7 (by omega)
                have hjz : (j : Int) < (xn : Int) := by omega
                have q0 := k3 (j * 3) (by omega)
                have q1 := k3 (j * 3 + 1) (by omega)
                have q2 := k3 (j * 3 + 2) (by omega)
                obtain ⟨u0, hu0⟩ := Option.isSome_iff_exists.1 q0.1
                obtain ⟨u1, hu1⟩ := Option.isSome_iff_exists.1 q1.1
                obtain ⟨u2, hu2⟩ := Option.isSome_iff_exists.1 q2.1
                have f0 := q0.2
                have f1 := q1.2
                have f2 := q2.2
                rw [← Nat.add_assoc] at hu1 hu2 f1 f2
                clear hK4 hM4 m3 m4 m5 m7 k3 q0 q1 q2
                go_wp2_with fail
                go_roundw
                case rel =>
                  have hgw : w.heap.size ≤ g := by omega
                  have hne : ∀ sg2 so2, some (⟨sg, so, none⟩ : Addr) = some ⟨sg2, so2, none⟩ → g ≠ sg2 := fun sg2 so2 e => by cases e; exact k4
                  exact ⟨j + 1, by go_num, by omega, ((HK4.out.set _ hgw (.inl k2)).set _ hgw (.inl k2)).set _ hgw (.inl k2), ((HM4.out.arc _ _ _ hne).arc _ _ _ hne).arc _ _ _ hne⟩
                case measure => simp [intOf]; omega
              · obtain rfl : j = xn := by omega
                obtain ⟨f, hf⟩ := m5
                have hS0 : wr.drew.cell? ⟨T, 1, none⟩ = some (.slice (some ⟨sg, so, none⟩) nb sc) ∧ wr.drew.cell? ⟨sg, so + k * 3, none⟩ = some (.bool f) := ⟨cT, hf⟩
                have hfz : wr.drew.frozen? ⟨sg, so + k * 3, none⟩ = false := m3 _
                clear hK4 hM4 m3 m4 m7 hf
                go_upto_region 21 with fail
                refine region_atE (S := fun W' => W'.cell? ⟨T, 1, none⟩ = some (.slice (some ⟨sg, so, none⟩) nb sc) ∧ W'.cell? ⟨sg, so + k * 3, none⟩ = some (.bool f)) 13 12 rfl mixedP ?_
                refine take_atE (i := 0) 77 rfl rfl (by kernel_rfl) (by kernel_rfl) (by kernel_rfl) (by kernel_rfl) (fun _ _ _ h => h) (by rfl) (fun w hSw => by (have hSw2 := id hSw; clear hSw; go_simp; first | done | exact rfl)) (by assumption) ?_
                simp only [List.setIfInBounds_toArray, List.set_cons_zero, List.set_cons_succ]
                refine take_atE (i := 1) 78 rfl rfl (by kernel_rfl) (by kernel_rfl) (by kernel_rfl) (by kernel_rfl) (fun _ _ _ h => h) (by rfl) (fun w hSw => by (have hSw2 := id hSw; clear hSw; go_simp; first | done | exact rfl)) (by assumption) ?_
                simp only [List.setIfInBounds_toArray, List.set_cons_zero, List.set_cons_succ]
                refine take_atE (i := 2) 79 rfl rfl (by kernel_rfl) (by kernel_rfl) (by kernel_rfl) (by kernel_rfl) (fun _ _ _ h => h) (by rfl) (fun w hSw => by (have hSw2 := id hSw; clear hSw; go_simp; first | done | exact rfl)) (by assumption) ?_
                simp only [List.setIfInBounds_toArray, List.set_cons_zero, List.set_cons_succ]
                refine take_atE (i := 3) 80 rfl rfl (by kernel_rfl) (by kernel_rfl) (by kernel_rfl) (by kernel_rfl) (fun _ _ _ h => h) (by rfl) (fun w hSw => by (have hSw2 := id hSw; clear hSw; go_simp; first | done | exact rfl)) (by assumption) ?_
                simp only [List.setIfInBounds_toArray, List.set_cons_zero, List.set_cons_succ]
                refine take_atE (i := 4) 81 rfl rfl (by kernel_rfl) (by kernel_rfl) (by kernel_rfl) (by kernel_rfl) (fun _ _ _ h => h) (by rfl) (fun w hSw => by (have hSw2 := id hSw; clear hSw; go_simp; first | done | exact rfl)) (by assumption) ?_
                simp only [List.setIfInBounds_toArray, List.set_cons_zero, List.set_cons_succ]
                refine take_atE (i := 5) 82 rfl rfl (by kernel_rfl) (by kernel_rfl) (by kernel_rfl) (by kernel_rfl) (fun _ _ _ h => h) (by rfl) (fun w hSw => by (have hSw2 := id hSw; clear hSw; go_simp; first | done | exact rfl)) (by assumption) ?_
                simp only [List.setIfInBounds_toArray, List.set_cons_zero, List.set_cons_succ]
                refine take_atE (i := 6) 83 rfl rfl (by kernel_rfl) (by kernel_rfl) (by kernel_rfl) (by kernel_rfl) (fun _ _ _ h => h) (by rfl) (fun w hSw => by (have hSw2 := id hSw; clear hSw; go_simp; first | done | exact rfl)) (by assumption) ?_
                simp only [List.setIfInBounds_toArray, List.set_cons_zero, List.set_cons_succ]
                refine take_atE (i := 7) 84 rfl rfl (by kernel_rfl) (by kernel_rfl) (by kernel_rfl) (by kernel_rfl) (fun _ _ _ h => h) (by rfl) (fun w hSw => by (have hSw2 := id hSw; clear hSw; go_simp; first | done | exact rfl)) (by assumption) ?_
                simp only [List.setIfInBounds_toArray, List.set_cons_zero, List.set_cons_succ]
                refine take_atE (i := 8) 85 rfl rfl (by kernel_rfl) (by kernel_rfl) (by kernel_rfl) (by kernel_rfl) (fun _ _ _ h => h) (by rfl) (fun w hSw => by (have hSw2 := id hSw; clear hSw; go_simp; first | done | exact rfl)) (by assumption) ?_
                simp only [List.setIfInBounds_toArray, List.set_cons_zero, List.set_cons_succ]
                refine take_atE (i := 9) 86 rfl rfl (by kernel_rfl) (by kernel_rfl) (by kernel_rfl) (by kernel_rfl) (fun _ _ _ h => h) (by rfl) (fun w hSw => by (have hSw2 := id hSw; clear hSw; go_simp; first | done | exact rfl)) (by assumption) ?_
                simp only [List.setIfInBounds_toArray, List.set_cons_zero, List.set_cons_succ]
                refine one_valueE (i := 10) (v := .pointer (some ⟨sg, so + k * 3, none⟩)) (w' := wr.drew) 87 (by kernel_rfl) rfl rfl (by rfl) (by go_simp; first | done | exact rfl) hS0 ?_
                simp only [List.setIfInBounds_toArray, List.set_cons_zero, List.set_cons_succ]
                refine one_valueE (i := 11) (v := .pointer (some ⟨sg, so + k * 3, none⟩)) (w' := wr.drew) 88 (by kernel_rfl) rfl rfl (by rfl) (by go_simp; first | done | exact rfl) hS0 ?_
                simp only [List.setIfInBounds_toArray, List.set_cons_zero, List.set_cons_succ]
                have hcq := hS0.2
                refine last_skipE (w' := wr.drew.setCell ⟨sg, so + k * 3, none⟩ (.bool !f)) (by kernel_rfl) rfl rfl (by rfl) (by go_simp; first | done | exact rfl) (by kernel_rfl) ?_
                have HK5 : Hid (Kp w T w2 (wr.drew.setCell ⟨sg, so + k * 3, none⟩ (.bool !f))) := (HK4.out.step (Below.refl _ wr).drew).set _ (by omega) (.inl m2)
                have HM5 : Hid (MS w0a.heap.size T (wr.drew.setCell ⟨sg, so + k * 3, none⟩ (.bool !f)) (some ⟨sg, so, none⟩) vas) := (HM4.out.keep (w' := wr.drew) HM4.out.sz (fun _ _ _ => rfl)).flip k (!f)
                clear hcq hfz hS0 cT m6
                go_wp2_with fail
                go_roundw
                case rel => exact ⟨k + 1, by go_num, by omega, HK5.out, HM5.out⟩
                case measure => simp [intOf]; omega
      · obtain rfl : k = nb := by omega
        have hkz : ¬ (k : Int) < (k : Int) := by omega
        have hon := HSO.out wk hK
        have HWK : Hid (Below w.heap.size w wk) := hK.bel
        have HAA : Hid (Calls Tryd.prog 11 #[.pointer (some ⟨wb, 0, none⟩)] wk fun e w' => ∃ c0 c1, e = .returned (.func (.func 43) #[] #[.pointer (some ⟨c0, 0, none⟩), .pointer (some ⟨c1, 0, none⟩)]) ∧ Below wk.heap.size wk w' ∧ ToldSays (.func (.func 43) #[] #[.pointer (some ⟨c0, 0, none⟩), .pointer (some ⟨c1, 0, none⟩)]) w' l) := All_any wk wb l hon
        have HTW : Hid (l.take ((n : Int) + 1).toNat = l) := by show _ = _; exact List.take_of_length_le (by have := HN.out; omega)
        have HSM : Hid (∀ W u v (a b : List Pr), PRow W u a → PRow W v b → a = b → b.length ≤ 300 → Calls Tryd.prog 9 #[u, v] W fun e w' => e = .returned (.bool true) ∧ Below W.heap.size W w') := fun W u v a b h1 h2 e hb3 => by
          refine (same_any W u v a b h1 h2 (by rw [e]; omega) (by omega)).mono ?_
          rintro e2 w' ⟨rfl, q, rfl⟩
          exact ⟨by rw [decide_eq_true e], belowN (Below.refl _ _) q⟩
        have hw1 : IntKind.i64.wrap ((n : Int) + 1) = (n : Int) + 1 := wrap_n1 (by omega)
        clear hK hM hon
        go_wp2_with (first
          | (go_at_call 11; refine HAA.out.mono ?_; rintro e w4 ⟨c0, c1, rfl, hb4, hts⟩; have HB4 : Hid (Below w.heap.size w w4) := HWK.out.trans (hb4.mono HWK.out.size); have HTS : Hid (ToldSays (.func (.func 43) #[] #[.pointer (some ⟨c0, 0, none⟩), .pointer (some ⟨c1, 0, none⟩)]) w4 l) := hts; clear hb4 hts)
          | (go_at_call 10; refine (HTS.out _ (Below.refl _ _) _ (by omega)).mono ?_; rintro e w5 ⟨ad5, n5, cap5, rfl, hr5, hb5⟩; rw [HTW.out] at hr5; have HR5 : Hid (PRow w5 (.slice ad5 n5 cap5) l) := hr5; have HB5 : Hid (Below w.heap.size w w5) := HB4.out.trans (hb5.mono HB4.out.size); clear hr5 hb5)
          | (go_at_call 9; refine (HSM.out _ _ _ l l HR5.out (HPR.out.below HB5.out) rfl (by have := HN.out; omega)).mono ?_; rintro e w6 ⟨rfl, hb6⟩; have HB6 : Hid (Below w.heap.size w w6) := HB5.out.trans (hb6.mono HB5.out.size); clear hb6))
        go_ret
        exact ⟨rfl, HB6.out⟩
end Go.Proofs.YtllmdfkiogmofaaDoor
