/- PackUnlike: the law's own walk. -/
import Derived.Test.YtdidcombjmbkdaaDoorBackW
import Derived.Test.YtdidcombjmbkdaaDoorUnlM
import Derived.Deep.QuietTactic
import Derived.BigQuiet
import Derived.Laws.StructEq
namespace Go.Proofs.YtdidcombjmbkdaaDoor
open Go.RowKit Nums Fm Pk Go.Lib
set_option maxRecDepth 100000

theorem pr_take {l m : List Pr} {k : Nat} {x y : Pr} (h : l.take k = m.take k) (hx : l[k]? = some x) (hy : m[k]? = some y) (e : x = y) : l.take (k + 1) = m.take (k + 1) := by
  obtain ⟨h1, e1⟩ := List.getElem?_eq_some_iff.1 hx
  obtain ⟨h2, e2⟩ := List.getElem?_eq_some_iff.1 hy
  rw [List.take_succ_eq_append_getElem h1, List.take_succ_eq_append_getElem h2, e1, e2, h, e]
theorem BB.pack' {w W : World} {l : List Pr} {mb : Nat} {base : Int} {vs : Value} {b : List St} (h : BB w W l mb base vs b) (hC : buildE l = 0) (ht : Tabs w) : Calls Tryd.prog 14 #[.agg #[.int .i64 base, vs]] W fun e w' => ∃ ad n cap, e = .returned (.tuple #[.slice ad n cap, .int .i64 0]) ∧ Below W.heap.size W w' ∧ Cd.Bytes W.heap.size w' (.slice ad n cap) (packB (machOf l).1 ((machOf l).2.map ofSt)) := by
  have hr := built_right hC
  have hf := mach_few (l := l)
  rw [h.eq] at hr hf ⊢
  refine (Pack_any W.heap.size W base (b.map ofSt) vs (built_at h.row hC (by rw [h.eq])) (Nat.le_refl _) (ht.below h.bel) (by rw [List.length_map]; simp only at hf; omega)).mono ?_
  intro e w' hs
  obtain ⟨ad, n, cap, e1, e2⟩ := hs.yes hr
  exact ⟨ad, n, cap, e1, hs.bel, e2⟩
set_option maxHeartbeats 4000000 in
theorem unlike_walk (u v : Value) (w : World) (ht : Tabs w) (l : List Pr) (h : PRow w u l) (hs : Sm l) (hl : l.length ≤ 9223372036854775807) (m : List Pr) (h2 : PRow w v m) (hs2 : Sm m) (hl2 : m.length ≤ 9223372036854775807) :
    Calls Tryd.prog 9 #[u, v] w fun e w' => e = .returned (.bool true) ∧ Below w.heap.size w w' := by
  obtain ⟨ad1, cap1, hu⟩ := PRow.form h
  obtain ⟨ad2, cap2, hv⟩ := PRow.form h2
  obtain ⟨n1, hn1⟩ : ∃ n, l.length = n := ⟨_, rfl⟩
  obtain ⟨n2, hn2⟩ : ∃ n, m.length = n := ⟨_, rfl⟩
  rw [hn1] at hu
  rw [hn2] at hv
  subst hu hv
  have HN : Hid (l.length = n1 ∧ m.length = n2) := ⟨hn1, hn2⟩
  have HBLD := Build_any w _ l h hl hs ht
  obtain ⟨C, hC⟩ : ∃ C, buildE l = C := ⟨_, rfl⟩
  obtain ⟨E, hE⟩ : ∃ E, buildE m = E := ⟨_, rfl⟩
  rw [hC] at HBLD
  have HT : Hid (Tabs w) := ht
  have HC : Hid (buildE l = C) := hC
  have HE : Hid (buildE m = E) := hE
  have HR1 : Hid (PRow w (.slice ad1 n1 cap1) l) := h
  have HR2 : Hid (PRow w (.slice ad2 n2 cap2) m) := h2
  have HS2 : Hid (Sm m ∧ m.length ≤ 9223372036854775807) := ⟨hs2, hl2⟩
  have hm1 : n1 ≤ 9223372036854775807 := by omega
  have hm2 : n2 ≤ 9223372036854775807 := by omega
  have HB0 : Hid (Calls Tryd.prog 13 #[.slice ad1 n1 cap1] w fun e w' => ∃ base vs b, e = .returned (.tuple #[.agg #[.int .i64 base, vs], .int .i64 C]) ∧ BuildSays w w' l base vs b) := HBLD
  clear h hs ht HBLD hC h2 hs2 hl hl2 hE hn1 hn2
  go_enter Tryd.func9, Tryd.ntmps9
  go_upto_region 2 with (go_at_call 13; refine HB0.out.mono ?_; rintro e w1 ⟨base, vs, b, rfl, hS⟩; obtain ⟨sd, nb, sc, hvs, hnb⟩ := StRow.form hS.row; subst hvs; have HS : Hid (BuildSays w w1 l base (.slice sd nb sc) b) := hS; clear hS hnb)
  have HBB := BB.mk' HS.out
  obtain ⟨mb, hmb⟩ : ∃ mb, mb = w1.heap.size := ⟨_, rfl⟩
  obtain ⟨W2, hW2⟩ : ∃ W2, W2 = w1.alloc (.cells #[.int .i64 base, .slice sd nb sc] 24) := ⟨_, rfl⟩
  rw [← hmb, ← hW2] at HBB
  have HA2 : Hid (BB w W2 l mb base (.slice sd nb sc) b) := HBB
  rw [← hmb, ← hW2]
  clear hmb hW2 HBB HS
  have HT2 : Hid (Tabs W2) := HT.out.below HA2.out.bel
  have HB1 : Hid (Calls Tryd.prog 13 #[.slice ad2 n2 cap2] W2 fun e w' => ∃ base vs b, e = .returned (.tuple #[.agg #[.int .i64 base, vs], .int .i64 E]) ∧ BuildSays W2 w' m base vs b) := by
    have := Build_any W2 _ m (HR2.out.below HA2.out.bel) HS2.out.2 HS2.out.1 HT2.out
    rw [HE.out] at this
    exact this
  go_upto_region 3 with (go_at_call 13; refine HB1.out.mono ?_; rintro e w3 ⟨bas2, vs, c, rfl, hS⟩; obtain ⟨td, nc, tc, hvs, hnc⟩ := StRow.form hS.row; subst hvs; have HS : Hid (BuildSays W2 w3 m bas2 (.slice td nc tc) c) := hS; clear hS hnc)
  have HBB := BB.mk' HS.out
  obtain ⟨mc, hmc⟩ : ∃ mc, mc = w3.heap.size := ⟨_, rfl⟩
  obtain ⟨W, hW⟩ : ∃ W, W = w3.alloc (.cells #[.int .i64 bas2, .slice td nc tc] 24) := ⟨_, rfl⟩
  rw [← hmc, ← hW] at HBB
  have HC4 : Hid (BB W2 W m mc bas2 (.slice td nc tc) c) := HBB
  have HA4 : Hid (BB w W l mb base (.slice sd nb sc) b) := HA2.out.below HC4.out.bel
  rw [← hmc, ← hW]
  clear hmc hW HBB HS
  by_cases hC0 : ¬ C = 0
  · have hCb : (C == 0) = false := beq_eq_false_iff_ne.2 hC0
    have hCn : (C != 0) = true := by simp [bne, hCb]
    go_wp2_with (first
      | (go_at_call 10; refine (alive_any _ (HT.out.below HA4.out.bel)).mono ?_; rintro e w5 ⟨rfl, hb5⟩; have HA5 : Hid (BB w w5 l mb base (.slice sd nb sc) b) := HA4.out.below hb5; clear hb5))
    go_ret
    exact ⟨rfl, HA5.out.bel⟩
  have hC0' : C = 0 := Classical.not_not.1 hC0
  subst hC0'
  by_cases hE0 : ¬ E = 0
  · have hEb : (E == 0) = false := beq_eq_false_iff_ne.2 hE0
    have hEn : (E != 0) = true := by simp [bne, hEb]
    go_wp2_with (first
      | (go_at_call 10; refine (alive_any _ (HT.out.below HA4.out.bel)).mono ?_; rintro e w5 ⟨rfl, hb5⟩; have HA5 : Hid (BB w w5 l mb base (.slice sd nb sc) b) := HA4.out.below hb5; clear hb5))
    go_ret
    exact ⟨rfl, HA5.out.bel⟩
  have hE0' : E = 0 := Classical.not_not.1 hE0
  subst hE0'
  clear hC0 hE0
  have HCa : Hid (buildE l = 0) := HC.out
  have HCb : Hid (buildE m = 0) := HE.out
  go_upto_region 5 with fail
  have HBW : Hid (Below w.heap.size w W) := HA4.out.bel
  obtain ⟨S0, hS0⟩ : ∃ S0 : Bool, ((n1 : Int) == (n2 : Int)) = S0 := ⟨_, rfl⟩
  have HS0 : Hid (((n1 : Int) == (n2 : Int)) = S0) := hS0
  go_wp2
  go_loopg [9, 10] (n1 + 1) (fun g s9 s10 wr => ∃ (S : Bool) (k q : Nat), s9 = .bool S ∧ s10 = .int .i64 k ∧ k ≤ n1 ∧ n1 + 1 - k ≤ g ∧ wr = W.drewN q ∧ Hid ((S = true → n1 = n2 ∧ l.take k = m.take k) ∧ (S = false → l ≠ m)))
  case atStart =>
    refine ⟨S0, 0, 0, by first | rfl | simp [hS0], rfl, Nat.zero_le _, by omega, rfl, fun e => ⟨?_, by simp⟩, fun e hlm => ?_⟩
    · have := HS0.out
      rw [e] at this
      have := beq_iff_eq.1 this
      omega
    · have h1 := HS0.out
      rw [e] at h1
      have h2 := HN.out
      rw [hlm] at h2
      exact absurd (by omega) (beq_eq_false_iff_ne.1 h1)
  case round =>
    obtain ⟨S, k, q, rfl, rfl, hk, hg, hwr, HK⟩ := hrel
    clear hS0 HS0
    cases S with
    | false =>
      subst hwr
      have HNE : Hid (l ≠ m) := HK.out.2 rfl
      have HBA : Hid (BB w (W.drewN q) l mb base (.slice sd nb sc) b) := HA4.out.below (belowN (Below.refl _ W) q)
      have HBC : Hid (BB W2 (W.drewN q) m mc bas2 (.slice td nc tc) c) := HC4.out.below (belowN (Below.refl _ W) q)
      obtain ⟨p0, p1⟩ := HBA.out.facts
      go_upto_region 11 with (go_at_call 14; refine (HBA.out.pack' HCa.out HT.out).mono ?_; rintro e w5 ⟨ad5, n5, cap5, rfl, hb5, hy5⟩; have HA5 : Hid (BB w w5 l mb base (.slice sd nb sc) b) := HBA.out.below hb5; have HC5 : Hid (BB W2 w5 m mc bas2 (.slice td nc tc) c) := HBC.out.below hb5; have HY5 : Hid (Cd.Row w5.heap.size w5 (.slice ad5 n5 cap5) (packB (machOf l).1 ((machOf l).2.map ofSt))) := hy5.row; clear hb5 hy5 p0 p1)
      obtain ⟨r0, r1⟩ := HC5.out.facts
      go_upto_region 12 with (go_at_call 14; refine (HC5.out.pack' HCb.out HT2.out).mono ?_; rintro e w6 ⟨ad6, n6, cap6, rfl, hb6, hy6⟩; have HA6 : Hid (BB w w6 l mb base (.slice sd nb sc) b) := HA5.out.below hb6; have HY6 : Hid (Cd.Row w6.heap.size w6 (.slice ad5 n5 cap5) (packB (machOf l).1 ((machOf l).2.map ofSt))) := (HY5.out.below hb6).mono hb6.size; have HZ6 : Hid (Cd.Row w6.heap.size w6 (.slice ad6 n6 cap6) (packB (machOf m).1 ((machOf m).2.map ofSt))) := hy6.row; clear hb6 hy6 r0 r1)
      obtain ⟨sx, hsx⟩ : ∃ sx, Cd.strB (packB (machOf l).1 ((machOf l).2.map ofSt)) = sx := ⟨_, rfl⟩
      obtain ⟨sy, hsy⟩ : ∃ sy, Cd.strB (packB (machOf m).1 ((machOf m).2.map ofSt)) = sy := ⟨_, rfl⟩
      have HSX : Hid (∀ W', Below w6.heap.size w6 W' → (convert 32 9 (.slice ad5 n5 cap5)).run Tryd.prog W' = .ok (.string sx) W') := fun W' hW => by rw [← hsx]; exact (HY6.out.below hW).str
      have HSY : Hid (∀ W', Below w6.heap.size w6 W' → (convert 32 9 (.slice ad6 n6 cap6)).run Tryd.prog W' = .ok (.string sy) W') := fun W' hW => by rw [← hsy]; exact (HZ6.out.below hW).str
      have HSE : Hid (sx ≠ sy) := fun e => HNE.out (pack_one HCa.out HCb.out (strB_one (packB_byte _ _) (packB_byte _ _) (by rw [hsx, hsy, e])))
      have hsb : (sx.toList == sy.toList) = false := by rw [strEq]; exact decide_eq_false HSE.out
      clear hsx hsy
      go_wp2_with (first
        | (go_at_call 10; refine (alive_any _ (HT.out.below HA6.out.bel)).mono ?_; rintro e w7 ⟨rfl, hb7⟩; have HA7 : Hid (BB w w7 l mb base (.slice sd nb sc) b) := HA6.out.below hb7; have hc1 := HSX.out w7 hb7; have hc2 := HSY.out w7 hb7; clear hb7))
      go_ret
      exact ⟨by first | rfl | simp, HA7.out.bel⟩
    | true =>
      obtain ⟨hnn, hKK⟩ := HK.out.1 rfl
      have HKK : Hid (l.take k = m.take k) := hKK
      subst hnn
      clear hKK
      by_cases hlt : k < n1
      · have hltz : (k : Int) < (n1 : Int) := by omega
        obtain ⟨x, hx⟩ : ∃ x, l[k]? = some x := ⟨l[k]'(by have := HN.out; omega), List.getElem?_eq_getElem _⟩
        obtain ⟨y, hy⟩ : ∃ y, m[k]? = some y := ⟨m[k]'(by have := HN.out; omega), List.getElem?_eq_getElem _⟩
        obtain ⟨b1, off1, rfl, hb1, hc1⟩ := (HR1.out.below HBW.out).at (by omega)
        obtain ⟨b2, off2, rfl, hb2, hc2⟩ := (HR2.out.below HBW.out).at (by omega)
        obtain ⟨c0, c1⟩ := hc1 k x hx
        obtain ⟨d0, d1⟩ := hc2 k y hy
        have c0' : wr.cell? ⟨b1, off1 + k * 2, none⟩ = some (.string x.1) := by rw [hwr]; exact c0
        have c1' : wr.cell? ⟨b1, off1 + k * 2 + 1, none⟩ = some (.int .i64 x.2) := by rw [hwr]; exact c1
        have d0' : wr.cell? ⟨b2, off2 + k * 2, none⟩ = some (.string y.1) := by rw [hwr]; exact d0
        have d1' : wr.cell? ⟨b2, off2 + k * 2 + 1, none⟩ = some (.int .i64 y.2) := by rw [hwr]; exact d1
        have HW : Hid (wr = W.drewN q) := hwr
        have HX : Hid (l[k]? = some x ∧ m[k]? = some y) := ⟨hx, hy⟩
        clear c0 c1 d0 d1 hc1 hc2 hx hy hwr
        by_cases e1 : x.1 = y.1
        · have s1 : (x.1.toList == y.1.toList) = true := by rw [strEq]; exact decide_eq_true e1
          by_cases e2 : x.2 = y.2
          · have s2 : (x.2 == y.2) = true := beq_iff_eq.2 e2
            have HK2 : Hid (l.take (k + 1) = m.take (k + 1)) := pr_take HKK.out HX.out.1 HX.out.2 (Prod.ext e1 e2)
            clear e1 e2
            go_wp2_with fail
            go_quiet (fail)
            go_wp2_with fail
            go_roundg (n1 + 1 - (k + 1))
            case measure => omega
            case rel => exact ⟨true, k + 1, q + nq, rfl, by go_num, by omega, Nat.le_refl _, by rw [HW.out, World.drewN_drewN], fun _ => ⟨by trivial, HK2.out⟩, fun e => (by cases e)⟩
          · have s2 : (x.2 == y.2) = false := beq_eq_false_iff_ne.2 e2
            have HE2 : Hid (l ≠ m) := fun e => e2 (by
              have h1 := HX.out.1
              rw [e, HX.out.2] at h1
              rw [Option.some.inj h1])
            clear e1 e2
            go_wp2_with fail
            go_quiet (fail)
            go_wp2_with fail
            go_roundg (n1 + 1 - (k + 1))
            case measure => omega
            case rel => exact ⟨false, k + 1, q + nq, rfl, by go_num, by omega, Nat.le_refl _, by rw [HW.out, World.drewN_drewN], (fun e => (by cases e)), (fun _ => HE2.out)⟩
        · have s1 : (x.1.toList == y.1.toList) = false := by rw [strEq]; exact decide_eq_false e1
          have HE2 : Hid (l ≠ m) := fun e => e1 (by
            have h1 := HX.out.1
            rw [e, HX.out.2] at h1
            rw [Option.some.inj h1])
          clear e1
          go_wp2_with fail
          go_quiet (fail)
          go_wp2_with fail
          go_roundg (n1 + 1 - (k + 1))
          case measure => omega
          case rel => exact ⟨false, k + 1, q + nq, rfl, by go_num, by omega, Nat.le_refl _, by rw [HW.out, World.drewN_drewN], (fun e => (by cases e)), (fun _ => HE2.out)⟩
      · have hltz : ¬ (k : Int) < (n1 : Int) := by omega
        subst hwr
        have HLM : Hid (l = m) := by
          show _ = _
          have h := HKK.out
          rwa [List.take_of_length_le (by have := HN.out; omega), List.take_of_length_le (by have := HN.out; omega)] at h
        have HBA : Hid (BB w (W.drewN q) l mb base (.slice sd nb sc) b) := HA4.out.below (belowN (Below.refl _ W) q)
        have HBC : Hid (BB W2 (W.drewN q) m mc bas2 (.slice td nc tc) c) := HC4.out.below (belowN (Below.refl _ W) q)
        obtain ⟨p0, p1⟩ := HBA.out.facts
        go_upto_region 11 with (go_at_call 14; refine (HBA.out.pack' HCa.out HT.out).mono ?_; rintro e w5 ⟨ad5, n5, cap5, rfl, hb5, hy5⟩; have HA5 : Hid (BB w w5 l mb base (.slice sd nb sc) b) := HBA.out.below hb5; have HC5 : Hid (BB W2 w5 m mc bas2 (.slice td nc tc) c) := HBC.out.below hb5; have HY5 : Hid (Cd.Row w5.heap.size w5 (.slice ad5 n5 cap5) (packB (machOf l).1 ((machOf l).2.map ofSt))) := hy5.row; clear hb5 hy5 p0 p1)
        obtain ⟨r0, r1⟩ := HC5.out.facts
        go_upto_region 12 with (go_at_call 14; refine (HC5.out.pack' HCb.out HT2.out).mono ?_; rintro e w6 ⟨ad6, n6, cap6, rfl, hb6, hy6⟩; have HA6 : Hid (BB w w6 l mb base (.slice sd nb sc) b) := HA5.out.below hb6; have HY6 : Hid (Cd.Row w6.heap.size w6 (.slice ad5 n5 cap5) (packB (machOf l).1 ((machOf l).2.map ofSt))) := (HY5.out.below hb6).mono hb6.size; have HZ6 : Hid (Cd.Row w6.heap.size w6 (.slice ad6 n6 cap6) (packB (machOf m).1 ((machOf m).2.map ofSt))) := hy6.row; clear hb6 hy6 r0 r1)
        obtain ⟨sx, hsx⟩ : ∃ sx, Cd.strB (packB (machOf l).1 ((machOf l).2.map ofSt)) = sx := ⟨_, rfl⟩
        obtain ⟨sy, hsy⟩ : ∃ sy, Cd.strB (packB (machOf m).1 ((machOf m).2.map ofSt)) = sy := ⟨_, rfl⟩
        have HSX : Hid (∀ W', Below w6.heap.size w6 W' → (convert 32 9 (.slice ad5 n5 cap5)).run Tryd.prog W' = .ok (.string sx) W') := fun W' hW => by rw [← hsx]; exact (HY6.out.below hW).str
        have HSY : Hid (∀ W', Below w6.heap.size w6 W' → (convert 32 9 (.slice ad6 n6 cap6)).run Tryd.prog W' = .ok (.string sy) W') := fun W' hW => by rw [← hsy]; exact (HZ6.out.below hW).str
        have hxy : sx = sy := by rw [← hsx, ← hsy, HLM.out]
        subst hxy
        clear hsx hsy
        go_wp2_with (first
          | (go_at_call 10; refine (alive_any _ (HT.out.below HA6.out.bel)).mono ?_; rintro e w7 ⟨rfl, hb7⟩; have HA7 : Hid (BB w w7 l mb base (.slice sd nb sc) b) := HA6.out.below hb7; have hc1 := HSX.out w7 hb7; have hc2 := HSY.out w7 hb7; clear hb7))
        go_ret
        exact ⟨by first | rfl | simp, HA7.out.bel⟩
end Go.Proofs.YtdidcombjmbkdaaDoor
