/- unlike: no two states alike. -/
import Derived.Test.YtdidcombjmbkdaaDoorPkSort
import Derived.Test.YtdidcombjmbkdaaDoorPkBnd
namespace Go.Proofs.YtdidcombjmbkdaaDoor
open Go.RowKit Nums Fm Pk
set_option maxRecDepth 100000

/-- Two states of the row, as the region reads them. -/
structure SU (g k : Nat) (s t : RSt) (va vb : Value) (w0 w : World) : Prop where
  a0 : w.cell? ⟨g, k * 3, none⟩ = some (.bool s.final)
  a1 : w.cell? ⟨g, k * 3 + 1, none⟩ = some (.int .i64 s.out)
  a2 : w.cell? ⟨g, k * 3 + 2, none⟩ = some va
  b0 : w.cell? ⟨g, (k + 1) * 3, none⟩ = some (.bool t.final)
  b1 : w.cell? ⟨g, (k + 1) * 3 + 1, none⟩ = some (.int .i64 t.out)
  b2 : w.cell? ⟨g, (k + 1) * 3 + 2, none⟩ = some vb
  gr : Gr w0 w
theorem SU.facts {g k : Nat} {s t : RSt} {va vb : Value} {w0 w : World} (h : SU g k s t va vb w0 w) : w.cell? ⟨g, k * 3, none⟩ = some (.bool s.final) ∧ w.cell? ⟨g, k * 3 + 1, none⟩ = some (.int .i64 s.out) ∧ w.cell? ⟨g, k * 3 + 2, none⟩ = some va ∧ w.cell? ⟨g, (k + 1) * 3, none⟩ = some (.bool t.final) ∧ w.cell? ⟨g, (k + 1) * 3 + 1, none⟩ = some (.int .i64 t.out) ∧ w.cell? ⟨g, (k + 1) * 3 + 2, none⟩ = some vb := ⟨h.a0, h.a1, h.a2, h.b0, h.b1, h.b2⟩
theorem SU.grow {g k : Nat} {s t : RSt} {va vb : Value} {w0 w w' : World} (h : SU g k s t va vb w0 w) (hg : g < w0.heap.size) (hr : Gr w w') : SU g k s t va vb w0 w' := by
  have e : ∀ j, w'.cell? ⟨g, j, none⟩ = w.cell? ⟨g, j, none⟩ := fun j => hr.bel.cell (p := ⟨g, j, none⟩) (Nat.lt_of_lt_of_le hg h.gr.bel.size)
  exact ⟨(e _).trans h.a0, (e _).trans h.a1, (e _).trans h.a2, (e _).trans h.b0, (e _).trans h.b1, (e _).trans h.b2, h.gr.trans hr⟩
set_option maxHeartbeats 4000000 in
theorem unlike_any (E : Nat) (w : World) (m : List RSt) (vs : Value) (h : StsAt E w vs m) (hE : E ≤ w.heap.size) (hF : formB 0 m = true) (hm : m.length ≤ 1048576) (h0 : m ≠ []) :
    Calls Tryd.prog 21 #[vs] w fun e w' => e = .returned (.bool (decide m.Nodup)) ∧ Below w.heap.size w w' := by
  obtain ⟨xss, hR, hxl, hx⟩ := h.ex
  have hX : StX E w xss m := ⟨hxl, hx, fun s hs => by
    obtain ⟨i, hi, rfl⟩ := List.getElem_of_mem hs
    have := form_get m 0 i _ hF (List.getElem?_eq_getElem hi)
    exact (form_facts this).2.2⟩
  obtain ⟨ad, cap, rfl⟩ := h.shape
  have hpos := List.length_pos_iff.2 h0
  obtain ⟨n, hn⟩ : ∃ n, m.length = n + 1 := ⟨m.length - 1, by omega⟩
  have HN : Hid (m.length = n + 1) := hn
  have HX : Hid (StX E w xss m) := hX
  have HCL : Hid (Calls Tryd.prog 39 #[.slice ad (n + 1) cap] w fun e w' => ∃ g cap, e = .returned (.slice (some ⟨g, 0, none⟩) (n + 1) cap) ∧ GOwn 44 3 w.heap.size w' (.slice (some ⟨g, 0, none⟩) (n + 1) cap) xss ∧ Below w.heap.size w w') := by
    have := cloneS_any E w xss m _ hR hX h0 hm
    rw [hn] at this
    exact this
  have HSO : Hid (∀ w1 g cap, GOwn 44 3 w.heap.size w1 (.slice (some ⟨g, 0, none⟩) (n + 1) cap) xss → Below w.heap.size w w1 → Calls Tryd.prog 40 #[.slice (some ⟨g, 0, none⟩) (n + 1) cap, .func (.func 41) #[] #[]] w1 fun e w' => e = .returned (.tuple #[]) ∧ ∃ d : Array Nat, d.size = m.length ∧ d.toList.Perm (List.range m.length) ∧ Go.Sort.SortedIn (ltOf (cfS m)) 0 m.length d ∧ Go.Sort.HoldsK (encS xss) 3 w' g 0 d ∧ Below w.heap.size w1 w') := fun w1 g cap ho hb => by
    have := sortS_any E w.heap.size w1 xss m g cap (by rw [hn]; exact ho) (hX.below (hb.mono hE)) hE hb.size h0 hm
    rw [hn] at this ⊢
    exact this
  rw [hn] at hm ⊢
  clear h hR hxl hx hX hn hF
  go_enter Tryd.func21, Tryd.ntmps21
  go_upto_region 2 with (go_at_call 39; refine HCL.out.mono ?_; rintro e w1 ⟨g, gc, rfl, ho1, hb1⟩; have HO1 : Hid (GOwn 44 3 w.heap.size w1 (.slice (some ⟨g, 0, none⟩) (n + 1) gc) xss) := ho1; have HB1 : Hid (Below w.heap.size w w1) := hb1; clear ho1 hb1)
  go_upto_region 3 with (go_at_call 40; refine (HSO.out w1 g gc HO1.out HB1.out).mono ?_; rintro e w2 ⟨rfl, d, hd1, hd2, hd3, hd4, hb2⟩)
  have hgc : n + 1 ≤ gc := by
    obtain ⟨_, c', e, hc⟩ := HO1.out.shape
    simp only [Value.slice.injEq] at e
    omega
  have hgw : g < w2.heap.size := Nat.lt_of_lt_of_le (HO1.out.lt (g := g) rfl) hb2.size
  have HBW : Hid (Below w.heap.size w w2) := HB1.out.trans (hb2.mono (Nat.le_refl _))
  have HD : Hid (d.size = m.length ∧ d.toList.Perm (List.range m.length) ∧ Go.Sort.SortedIn (ltOf (cfS m)) 0 m.length d ∧ Go.Sort.HoldsK (encS xss) 3 w2 g 0 d) := ⟨hd1, hd2, hd3, hd4⟩
  have HX2 : Hid (StX E w2 xss m) := HX.out.below (HBW.out.mono hE)
  have hgcz : ((n : Int) + 1) ≤ (gc : Int) := by omega
  clear hd1 hd2 hd3 hd4 hb2
  go_wp2
  all_goals
    go_loopg [4, 12] n (fun gm _ s12 wr => ∃ (k : Nat), s12 = .int .i64 k ∧ k ≤ n ∧ n - k ≤ gm ∧ Hid (∀ i, i < k → cfS m d[i]! d[i + 1]! ≠ 0) ∧ Hid (Gr w2 wr))
    case atStart => exact ⟨0, rfl, Nat.zero_le _, by omega, fun i hi => absurd hi (Nat.not_lt_zero _), Gr.refl _⟩
    case round =>
      obtain ⟨k, rfl, hk, hgm, HA, HG⟩ := hrel
      by_cases hlt : k < n
      · have hltz : (k : Int) < (n : Int) := by omega
        have hn1 := HN.out
        have hds := HD.out.1
        obtain ⟨va, ea, haa, hla, _⟩ := encS_get HX2.out d[k]!
        obtain ⟨vb, eb, hbb, hlb, _⟩ := encS_get HX2.out d[k + 1]!
        obtain ⟨s, hs⟩ : ∃ s, m.getD d[k]! zS = s := ⟨_, rfl⟩
        obtain ⟨t, ht⟩ : ∃ t, m.getD d[k + 1]! zS = t := ⟨_, rfl⟩
        rw [hs] at ea haa hla
        rw [ht] at eb hbb hlb
        have hcell : ∀ (i c : Nat), i < d.size → c < 3 → wr.cell? ⟨g, i * 3 + c, none⟩ = some (encS xss d[i]!)[c]! := fun i c hi hc => by
          have := (HD.out.2.2.2.cell hi hc).1
          rw [Nat.zero_add] at this
          exact (HG.out.bel.cell (p := ⟨g, i * 3 + c, none⟩) hgw).trans this
        have hS : SU g k s t va vb w2 wr := by
          have a0 := hcell k 0 (by omega) (by omega)
          have a1 := hcell k 1 (by omega) (by omega)
          have a2 := hcell k 2 (by omega) (by omega)
          have b0 := hcell (k + 1) 0 (by omega) (by omega)
          have b1 := hcell (k + 1) 1 (by omega) (by omega)
          have b2 := hcell (k + 1) 2 (by omega) (by omega)
          rw [ea] at a0 a1 a2
          rw [eb] at b0 b1 b2
          exact ⟨a0, a1, a2, b0, b1, b2, HG.out⟩
        obtain ⟨vd, vc, hva⟩ := haa.shape
        obtain ⟨ud, uc, hvb⟩ := hbb.shape
        obtain ⟨na, hna⟩ : ∃ na, s.arcs.length = na := ⟨_, rfl⟩
        obtain ⟨nb, hnb⟩ : ∃ nb, t.arcs.length = nb := ⟨_, rfl⟩
        rw [hna] at hva
        rw [hnb] at hvb
        subst hva
        subst hvb
        have hS0 := hS.grow hgw ((Gr.refl wr).drew)
        have hE2 : E ≤ w2.heap.size := Nat.le_trans hE HBW.out.size
        have hbd : Below E w2 wr.drew := (HG.out.drew).bel.mono hE2
        have HCS : Hid (Calls Tryd.prog 41 #[.agg #[.bool s.final, .int .i64 s.out, .slice vd na vc], .agg #[.bool t.final, .int .i64 t.out, .slice ud nb uc]] wr.drew fun e w' => e = .returned (.int .i64 (cfS m d[k]! d[k + 1]!)) ∧ Gr wr.drew w') := by
          have := compareStates_any E s t _ _ wr.drew (haa.below hbd) (hbb.below hbd) (Nat.le_trans hE2 hbd.size) hla hlb
          unfold cfS
          rw [hs, ht]
          exact this
        have HS0 : Hid (SU g k s t (.slice vd na vc) (.slice ud nb uc) w2 wr.drew) := hS0
        have HK1 : Hid (cfS m d[k]! d[k + 1]! = 0 → ¬ m.Nodup) := fun h => dup_adj hds HD.out.2.1 (by omega) h
        have HK2 : Hid (cfS m d[k]! d[k + 1]! ≠ 0 → ∀ i, i < k + 1 → cfS m d[i]! d[i + 1]! ≠ 0) := fun h i hi => by
          by_cases hik : i = k
          · rw [hik]; exact h
          · exact HA.out i (by omega)
        have hk1 : IntKind.i64.wrap ((k : Int) + 1) = (k : Int) + 1 := by rw [IntKind.wrap_i64]; omega
        have hk2 : (k : Int) + 1 < (n : Int) + 1 := by omega
        have hk3 : (0 : Int) ≤ (k : Int) + 1 := by omega
        have hk4 : ((k : Int) + 1).toNat = k + 1 := by omega
        have hk5 : (k : Int) < (n : Int) + 1 := by omega
        clear hs ht hcell hS ea eb haa hbb hna hnb hds hn1
        generalize cfS m d[k]! d[k + 1]! = c at HCS HK1 HK2
        go_upto_region 6 with fail
        refine region_at (S := SU g k s t (.slice vd na vc) (.slice ud nb uc) w2) 11 rfl mixedP hS0 (fun _ => ?_)
        refine take_at (i := 0) 15 rfl rfl (by kernel_rfl) (by kernel_rfl) (by kernel_rfl) (fun _ _ _ h => h) (by rfl) (fun w hSw => by (have hSw2 := SU.facts hSw; clear hSw; go_simp; first | done | exact rfl)) (by assumption) ?_
        simp only [List.setIfInBounds_toArray, List.set_cons_zero, List.set_cons_succ]
        refine take_at (i := 1) 16 rfl rfl (by kernel_rfl) (by kernel_rfl) (by kernel_rfl) (fun _ _ _ h => h) (by rfl) (fun w hSw => by (have hSw2 := SU.facts hSw; clear hSw; go_simp; first | done | exact rfl)) (by assumption) ?_
        simp only [List.setIfInBounds_toArray, List.set_cons_zero, List.set_cons_succ]
        refine take_at (i := 2) 17 rfl rfl (by kernel_rfl) (by kernel_rfl) (by kernel_rfl) (fun _ _ _ h => h) (by rfl) (fun w hSw => by (have hSw2 := SU.facts hSw; clear hSw; go_simp; first | done | exact rfl)) (by assumption) ?_
        simp only [List.setIfInBounds_toArray, List.set_cons_zero, List.set_cons_succ]
        refine take_at (i := 3) 18 rfl rfl (by kernel_rfl) (by kernel_rfl) (by kernel_rfl) (fun _ _ _ h => h) (by rfl) (fun w hSw => by (have hSw2 := SU.facts hSw; clear hSw; go_simp; first | done | exact rfl)) (by assumption) ?_
        simp only [List.setIfInBounds_toArray, List.set_cons_zero, List.set_cons_succ]
        refine take_at (i := 4) 19 rfl rfl (by kernel_rfl) (by kernel_rfl) (by kernel_rfl) (fun _ _ _ h => h) (by rfl) (fun w hSw => by (have hSw2 := SU.facts hSw; clear hSw; go_simp; first | done | exact rfl)) (by assumption) ?_
        simp only [List.setIfInBounds_toArray, List.set_cons_zero, List.set_cons_succ]
        refine take_at (i := 5) 20 rfl rfl (by kernel_rfl) (by kernel_rfl) (by kernel_rfl) (fun _ _ _ h => h) (by rfl) (fun w hSw => by (have hSw2 := SU.facts hSw; clear hSw; go_simp; first | done | exact rfl)) (by assumption) ?_
        simp only [List.setIfInBounds_toArray, List.set_cons_zero, List.set_cons_succ]
        refine take_at (i := 6) (v := .int .i64 ((k : Int) + 1)) 21 rfl rfl (by kernel_rfl) (by kernel_rfl) (by kernel_rfl) (fun _ _ _ h => h) (by rfl) (fun w hSw => by (have hSw2 := SU.facts hSw; clear hSw; go_simp; first | done | exact rfl | simp_all | (simp; omega))) (by assumption) ?_
        simp only [List.setIfInBounds_toArray, List.set_cons_zero, List.set_cons_succ]
        refine take_at (i := 7) 22 rfl rfl (by kernel_rfl) (by kernel_rfl) (by kernel_rfl) (fun _ _ _ h => h) (by rfl) (fun w hSw => by (have hSw2 := SU.facts hSw; clear hSw; go_simp; first | done | exact rfl)) (by assumption) ?_
        simp only [List.setIfInBounds_toArray, List.set_cons_zero, List.set_cons_succ]
        refine take_at (i := 8) 23 rfl rfl (by kernel_rfl) (by kernel_rfl) (by kernel_rfl) (fun _ _ _ h => h) (by rfl) (fun w hSw => by (have hSw2 := SU.facts hSw; clear hSw; go_simp; first | done | exact rfl)) (by assumption) ?_
        simp only [List.setIfInBounds_toArray, List.set_cons_zero, List.set_cons_succ]
        refine one_call (i := 9) (w0 := wr.drew) 24 41 #[.agg #[.bool s.final, .int .i64 s.out, .slice vd na vc], .agg #[.bool t.final, .int .i64 t.out, .slice ud nb uc]] (by kernel_rfl) rfl rfl (by rfl) (by kernel_rfl) ?_
        refine HCS.out.mono ?_
        rintro e w3 ⟨rfl, hg3⟩
        have hS3 := HS0.out.grow hgw hg3
        have HG3 : Hid (Gr w2 w3) := hS3.gr
        refine ⟨_, rfl, hS3, fun _ => ?_⟩
        simp only [List.setIfInBounds_toArray, List.set_cons_zero, List.set_cons_succ]
        by_cases hc : c = 0
        · subst hc
          have HF : Hid (decide m.Nodup = false) := decide_eq_false (HK1.out rfl)
          refine take_at (i := 10) (v := .bool true) 25 rfl rfl (by kernel_rfl) (by kernel_rfl) (by kernel_rfl) (fun _ _ _ h => h) (by rfl) (fun w hSw => by (have hSw2 := SU.facts hSw; clear hSw; go_simp; first | done | exact rfl | simp_all | (simp; omega))) (by assumption) ?_
          simp only [List.setIfInBounds_toArray, List.set_cons_zero, List.set_cons_succ]
          refine wpAnyH_done (by kernel_rfl) ?_ _
          go_wp2
          go_ret
          exact ⟨by rw [HF.out]; rfl, HBW.out.trans (HG3.out.bel.mono HBW.out.size)⟩
        · have HF : Hid (∀ i, i < k + 1 → cfS m d[i]! d[i + 1]! ≠ 0) := HK2.out hc
          have h1b : (c == 0) = false := beq_eq_false_iff_ne.2 hc
          refine take_at (i := 10) (v := .bool false) 25 rfl rfl (by kernel_rfl) (by kernel_rfl) (by kernel_rfl) (fun _ _ _ h => h) (by rfl) (fun w hSw => by (have hSw2 := SU.facts hSw; clear hSw; go_simp; first | done | exact rfl | simp_all | (simp; omega))) (by assumption) ?_
          simp only [List.setIfInBounds_toArray, List.set_cons_zero, List.set_cons_succ]
          refine wpAnyH_done (by kernel_rfl) ?_ _
          go_wp2
          go_roundg (n - (k + 1))
          case measure => omega
          case rel => exact ⟨k + 1, by go_num, by omega, Nat.le_refl _, HF, HG3⟩
      · have hltz : ¬ (k : Int) < (n : Int) := by omega
        have hkn : k = n := by omega
        have HF : Hid (decide m.Nodup = true) := by
          refine decide_eq_true (nodup_adj HD.out.1 HD.out.2.1 HD.out.2.2.1 fun i hi => ?_)
          have := HN.out
          exact HA.out i (by omega)
        go_wp2
        go_ret
        exact ⟨by rw [HF.out]; rfl, HBW.out.trans (HG.out.bel.mono HBW.out.size)⟩
end Go.Proofs.YtdidcombjmbkdaaDoor
