/- Find: a word's weight. -/
import Derived.Test.YtllmdfkiogmofaaGreatDoorWkF
import Derived.Test.YtllmdfkiogmofaaGreatDoorJ16
import Derived.Test.YtllmdfkiogmofaaGreatDoorJ12
namespace Go.Proofs.YtllmdfkiogmofaaGreatDoor
open Go.RowKit Nums Fm Pk Pm
set_option maxRecDepth 100000

theorem built_all {l : List Pr} (h : buildE l = 0) : (∀ x ∈ l, wordB x.1.data.toList = true ∧ 1 ≤ x.2 ∧ x.2 ≤ 1048576) ∧ l.Pairwise (fun a b => lessB a.1 b.1 = true) ∧ l.length ≤ 4096 := by
  unfold buildE at h
  split at h
  · cases h
  · exact ⟨fault_all l none h, (fault_rise l none h).2, by omega⟩
theorem built_rising {l : List Pr} (h : buildE l = 0) : Rising l := fun a b hab hb => by
  have := List.pairwise_iff_getElem.1 (built_all h).2.1 a b (by omega) hb hab
  rw [List.getD_eq_getElem?_getD, List.getD_eq_getElem?_getD, List.getElem?_eq_getElem (by omega), List.getElem?_eq_getElem hb]
  exact this
theorem find_noword {l : List Pr} (h : buildE l = 0) {s : ByteArray} (hs : wordB s.data.toList = false) : Pm.find l s = none := by
  cases hf : Pm.find l s with
  | none => rfl
  | some v =>
    have := ((built_all h).1 _ (Pm.find_mem hf)).1
    rw [hs] at this
    cases this
theorem arcs_rise {D : List (List En)} {b : List St} (hI : Inv D b) {n : Nat} {s : St} (hs : b[n]? = some s) : ∀ a c, a < c → c < (s.arcs.map ofArc).length → lblAt (s.arcs.map ofArc) a < lblAt (s.arcs.map ofArc) c := fun a c hac hc => by
  have hl : c < s.arcs.length := by simpa using hc
  have h1 := List.pairwise_iff_getElem.1 (hI.row n s hs).2.2.lab a c (by omega) hl hac
  rw [lblAt_of (a := ofArc s.arcs[a]) (by rw [List.getElem?_map, List.getElem?_eq_getElem (by omega)]; rfl), lblAt_of (a := ofArc s.arcs[c]) (by rw [List.getElem?_map, List.getElem?_eq_getElem hl]; rfl)]
  exact h1
theorem arcs_few {l : List Pr} (h : buildE l = 0) {n : Nat} {s : St} (hs : (machOf l).2[n]? = some s) : (s.arcs.map ofArc).length ≤ 1114112 := by
  have h1 := built_right h
  unfold rightB at h1
  split at h1
  · rename_i h2
    have : (machOf l).2 = [] := by simpa using h2
    rw [this] at hs
    simp at hs
  · simp only [Bool.and_eq_true] at h1
    obtain ⟨⟨⟨⟨⟨_, _⟩, hf⟩, _⟩, _⟩, _⟩ := h1
    have key : ∀ (m : List RSt) (i k : Nat) (t : RSt), formB i m = true → m[k]? = some t → formS t (i + k) = true := fun m => by
      induction m with
      | nil => intro i k t _ hk; simp at hk
      | cons x r ih =>
        intro i k t hf hk
        rw [formB, Bool.and_eq_true] at hf
        cases k with
        | zero => simp at hk; subst hk; exact hf.1
        | succ k => have := ih (i + 1) k t hf.2 (by simpa using hk); rwa [show i + 1 + k = i + (k + 1) by omega] at this
    have h3 := key _ 0 n (ofSt s) hf (by rw [List.getElem?_map, hs]; rfl)
    exact (form_facts h3).2.2
theorem wrap_sum {x y : Int} (h1 : 1 ≤ x) (h2 : x ≤ 1048576) (h3 : 0 ≤ y) (h4 : y ≤ 1048576) : IntKind.i64.wrap (x + y) = x + y := by
  first | exact wrap_small _ (by omega) (by omega) | (rw [IntKind.wrap_i64]; exact IntWalk.wrap64_in _ (by omega)) | (rw [IntKind.wrap_i64]; unfold wrap64; omega)
/-- What region 11 looks at. -/
structure S11 (ab : Nat) (o t : Int) (W : World) : Prop where
  c1 : W.cell? ⟨ab, 1, none⟩ = some (.int .i64 o)
  c2 : W.cell? ⟨ab, 2, none⟩ = some (.int .i64 t)
theorem S11.facts {ab : Nat} {o t : Int} {W : World} (h : S11 ab o t W) : W.cell? ⟨ab, 1, none⟩ = some (.int .i64 o) ∧ W.cell? ⟨ab, 2, none⟩ = some (.int .i64 t) := ⟨h.1, h.2⟩
def S4b (wb : Nat) (base : Int) (W : World) : Prop := W.cell? ⟨wb, 0, none⟩ = some (.int .i64 base)
theorem S4b.facts {wb : Nat} {base : Int} {W : World} (h : S4b wb base W) : W.cell? ⟨wb, 0, none⟩ = some (.int .i64 base) := h
theorem fa_arcs {l : List Arc} {c : Int} (h : fa (l.map ofArc) c = none) : ∀ a ∈ l, a.label ≠ c := fun a ha e => by
  unfold fa at h
  rw [List.find?_eq_none] at h
  have := h (ofArc a) (List.mem_map.2 ⟨a, ha, rfl⟩)
  exact this (by rw [beq_iff_eq]; exact e)
theorem fa_arc {l : List Arc} {c : Int} {x : RArc} (h : fa (l.map ofArc) c = some x) : ∃ a ∈ l, a.label = c ∧ x = ofArc a := by
  unfold fa at h
  have h1 := List.find?_some h
  obtain ⟨a, ha, rfl⟩ := List.mem_map.1 (List.mem_of_find?_eq_some h)
  exact ⟨a, ha, beq_iff_eq.1 h1, rfl⟩
set_option maxHeartbeats 4000000 in
theorem Find_any (w : World) (wb : Nat) (l : List Pr) (h : WkOn w wb l) (s : ByteArray) (hs : s.size ≤ 9223372036854775807) :
    Calls Tryz.prog 28 #[.pointer (some ⟨wb, 0, none⟩), .string s] w fun e w' => e = .returned (.tuple #[.int .i64 ((Pm.find l s).getD 0), .bool (Pm.find l s).isSome]) ∧ Below w.heap.size w w' := by
  obtain ⟨D, hMW, hI, hWk⟩ := h.at'
  have HRT : Hid (∀ W', Below w.heap.size w W' → Calls Tryz.prog 36 #[.pointer (some ⟨wb, 0, none⟩)] W' fun e w' => e = .returned (.int .i64 ((((machOf l).2.map ofSt).length : Int) - 1)) ∧ w' = W') := fun W' hW => Root_any _ W' wb _ _ _ (hWk.below hW)
  have HWd : Hid (∀ W, Below w.heap.size w W → Calls Tryz.prog 57 #[.string s] W fun e w' => e = .returned (.bool (wordB s.data.toList)) ∧ Below W.heap.size W w') := fun W hW => by
    refine (Word_any s W (h.tabs.below hW) hs).mono ?_
    rintro e w' ⟨rfl, n, rfl⟩
    exact ⟨rfl, belowN (Below.refl _ _) n⟩
  obtain ⟨F, hF⟩ : ∃ F, Pm.find l s = F := ⟨_, rfl⟩
  have HF : Hid (Pm.find l s = F) := hF
  rw [hF]
  clear hF
  rcases mach_nil h.ok with hl | ⟨hl, n, hn⟩
  · subst hl
    have HFN : Hid (F = none) := HF.out.symm
    clear hMW hI hWk h
    go_enter Tryz.func28, Tryz.ntmps28
    go_wp2_with (go_at_call 36; refine (HRT.out _ (Below.refl _ _)).mono ?_; rintro e w1 ⟨rfl, hw1⟩; rw [hw1]; clear hw1)
    go_ret2
    exact ⟨by rw [HFN.out]; rfl, Below.refl _ _⟩
  · have hM := hMW hl
    have hnl : ((machOf l).2.map ofSt).length = n + 1 := by rw [List.length_map, hn]
    rw [hnl] at HRT
    have hkz : ((n + 1 : Nat) : Int) - 1 = (n : Int) := by omega
    rw [hkz] at HRT
    cases hwd : wordB s.data.toList with
    | false =>
      rw [hwd] at HWd
      have HFN : Hid (F = none) := HF.out.symm.trans (find_noword h.ok hwd)
      clear hMW hI hWk h hM
      go_enter Tryz.func28, Tryz.ntmps28
      go_wp2_with (first
        | (go_at_call 36; refine (HRT.out _ (Below.refl _ _)).mono ?_; rintro e w1 ⟨rfl, hw1⟩; rw [hw1]; clear hw1)
        | (go_at_call 57; refine (HWd.out _ (Below.refl _ _)).mono ?_; rintro e w1 ⟨rfl, hb1⟩))
      go_ret2
      exact ⟨by rw [HFN.out]; rfl, hb1⟩
    | true =>
      rw [hwd] at HWd
      obtain ⟨xs, hxs, hx1, hx24, _, _⟩ := word_runes (x := (s, 0)) hwd
      have hxs : rs s.data.toList = some xs := hxs
      have HFW : Hid (F = wt xs (ents l)) := HF.out.symm.trans (find_wt (dict_ok h.ok) hxs)
      have HRU : Hid (∀ W, Below w.heap.size w W → Calls Tryz.prog 58 #[.string s] W fun e w' => ∃ v, e = .returned (.tuple #[v, .bool true]) ∧ Made W.heap.size w' v xs ∧ Below W.heap.size W w') := fun W hW => by
        refine (Runes_any s W (h.tabs.below hW) hs (room_of_runes hxs (by omega))).mono ?_
        rintro e w' ⟨v, hb, ⟨h1, _⟩ | ⟨ys, h1, h2, h3⟩⟩
        · rw [hxs] at h1; cases h1
        · rw [hxs] at h1; cases h1; exact ⟨v, h2, h3, hb⟩
      obtain ⟨D2, hI2, hst⟩ := mach_root h.ok
      have hDD := inv_one hI2 hI
      subst hDD
      have hst0 : Stands D2 (machOf l).2 (ents l) xs 0 ((n : Int)) (machOf l).1 := by have := hst xs; rw [hn] at this; rw [show ((n : Int)) = ((n + 1 : Nat) : Int) - 1 by omega]; exact this
      obtain ⟨base, hbase⟩ : ∃ base, (machOf l).1 = base := ⟨_, rfl⟩
      rw [hbase] at hst0 hWk
      obtain ⟨b, hb0⟩ : ∃ b, (machOf l).2 = b := ⟨_, rfl⟩
      have HAF : Hid (∀ (n : Nat) (t : St), b[n]? = some t → (t.arcs.map ofArc).length ≤ 1114112) := fun k t ht => arcs_few h.ok (by rw [hb0]; exact ht)
      rw [hb0] at hst0 hWk hI hn
      have HWK : Hid (WkAt w.heap.size w wb base (b.map ofSt) (D2.map List.length)) := hWk
      have HST0 : Hid (Stands D2 b (ents l) xs 0 (n : Int) base) := hst0
      have HNB : Hid (b.length = n + 1) := hn
      obtain ⟨m, hm⟩ : ∃ m, xs.length = m := ⟨_, rfl⟩
      have HM : Hid (xs.length = m) := hm
      have hm24 : m ≤ 24 := by omega
      obtain ⟨sd, sc, wd, wc, q0, q1, q2, hSt, _⟩ := hWk.facts
      have hlm : (b.map ofSt).length = n + 1 := by rw [List.length_map, hn]
      rw [hlm] at q1 hSt
      have hsl := hSt.len
      rw [List.length_map, hn] at hsl
      have HSt : Hid (StsAt w.heap.size w (.slice sd (n + 1) sc) (b.map ofSt)) := hSt
      have HQ : Hid (∀ W, Below w.heap.size w W → W.cell? ⟨wb, 0, none⟩ = some (.int .i64 base) ∧ W.cell? ⟨wb, 1, none⟩ = some (.slice sd (n + 1) sc)) := fun W hW => ⟨(hW.cell (p := ⟨wb, 0, none⟩) hWk.lt).trans q0, (hW.cell (p := ⟨wb, 1, none⟩) hWk.lt).trans q1⟩
      have hnl' : n ≤ 9223372036854775806 := by omega
      clear hMW hWk h hM hst hst0 hI2 hnl hn hxs hbase hb0 hm hSt q0 q1 q2 hlm hwd
      go_enter Tryz.func28, Tryz.ntmps28
      go_upto_region 4 with (first
        | (go_at_call 36; refine (HRT.out _ (Below.refl _ _)).mono ?_; rintro e w0 ⟨rfl, hw0⟩; rw [hw0]; clear hw0)
        | (go_at_call 57; refine (HWd.out _ (Below.refl _ _)).mono ?_; rintro e w1 ⟨rfl, hb1⟩; have HB1 : Hid (Below w.heap.size w w1) := hb1; clear hb1)
        | (go_at_call 58; refine (HRU.out _ HB1.out).mono ?_; rintro e w2 ⟨v, rfl, hmd, hb2⟩; have HMD : Hid (Made w1.heap.size w2 v xs) := hmd; have HB2 : Hid (Below w.heap.size w w2) := HB1.out.trans (hb2.mono HB1.out.size); clear hmd hb2))
      have HBd : Hid (Below w.heap.size w w2.drew) := HB2.out.drew
      have hS4 : S4b wb base w2.drew := (HQ.out _ HBd.out).1
      obtain ⟨vd, vc, hvv⟩ : ∃ vd vc, v = .slice vd m vc := by
        obtain ⟨a, c, e⟩ := HMD.out.shape
        exact ⟨a, c, by rw [e, HM.out]⟩
      subst hvv
      have HRW : Hid (RunesAt w2.drew.heap.size w2.drew (.slice vd m vc) xs) := (HMD.out.below (Below.refl _ w2).drew).runes
      refine region_at (S := S4b wb base) 9 rfl mixedP hS4 (fun _ => ?_)
      refine take_at (i := 0) 28 rfl rfl (by kernel_rfl) (by kernel_rfl) (by kernel_rfl) (fun _ _ _ h => h) (by rfl) (fun w hSw => by (have hSw2 := S4b.facts hSw; clear hSw; go_simp; first | done | exact rfl)) (by assumption) ?_
      simp only [List.setIfInBounds_toArray, List.set_cons_zero, List.set_cons_succ]
      refine take_at (i := 2) 30 rfl rfl (by kernel_rfl) (by kernel_rfl) (by kernel_rfl) (fun _ _ _ h => h) (by rfl) (fun w hSw => by (have hSw2 := S4b.facts hSw; clear hSw; go_simp; first | done | exact rfl)) (by assumption) ?_
      simp only [List.setIfInBounds_toArray, List.set_cons_zero, List.set_cons_succ]
      refine take_at (i := 3) 31 rfl rfl (by kernel_rfl) (by kernel_rfl) (by kernel_rfl) (fun _ _ _ h => h) (by rfl) (fun w hSw => by (have hSw2 := S4b.facts hSw; clear hSw; go_simp; first | done | exact rfl)) (by assumption) ?_
      simp only [List.setIfInBounds_toArray, List.set_cons_zero, List.set_cons_succ]
      refine take_at (i := 4) 32 rfl rfl (by kernel_rfl) (by kernel_rfl) (by kernel_rfl) (fun _ _ _ h => h) (by rfl) (fun w hSw => by (have hSw2 := S4b.facts hSw; clear hSw; go_simp; first | done | exact rfl)) (by assumption) ?_
      simp only [List.setIfInBounds_toArray, List.set_cons_zero, List.set_cons_succ]
      refine take_at (i := 5) 33 rfl rfl (by kernel_rfl) (by kernel_rfl) (by kernel_rfl) (fun _ _ _ h => h) (by rfl) (fun w hSw => by (have hSw2 := S4b.facts hSw; clear hSw; go_simp; first | done | exact rfl)) (by assumption) ?_
      simp only [List.setIfInBounds_toArray, List.set_cons_zero, List.set_cons_succ]
      refine take_at (i := 6) 34 rfl rfl (by kernel_rfl) (by kernel_rfl) (by kernel_rfl) (fun _ _ _ h => h) (by rfl) (fun w hSw => by (have hSw2 := S4b.facts hSw; clear hSw; go_simp; first | done | exact rfl)) (by assumption) ?_
      simp only [List.setIfInBounds_toArray, List.set_cons_zero, List.set_cons_succ]
      refine one_call (i := 1) (w0 := w2.drew) 29 36 #[.pointer (some ⟨wb, 0, none⟩)] (by kernel_rfl) rfl rfl (by rfl) (by kernel_rfl) ?_
      refine (HRT.out _ HBd.out).mono ?_
      rintro e w3 ⟨rfl, hw3⟩
      rw [hw3]
      clear hw3
      refine ⟨_, rfl, hS4, fun _ => ?_⟩
      simp only [List.setIfInBounds_toArray, List.set_cons_zero, List.set_cons_succ]
      refine take_at (i := 7) 8 rfl rfl (by kernel_rfl) (by kernel_rfl) (by kernel_rfl) (fun _ _ _ h => h) (by rfl) (fun w hSw => by (have hSw2 := S4b.facts hSw; clear hSw; go_simp; first | done | exact rfl)) (by assumption) ?_
      simp only [List.setIfInBounds_toArray, List.set_cons_zero, List.set_cons_succ]
      refine take_at (i := 8) 9 rfl rfl (by kernel_rfl) (by kernel_rfl) (by kernel_rfl) (fun _ _ _ h => h) (by rfl) (fun w hSw => by (have hSw2 := S4b.facts hSw; clear hSw; go_simp; first | done | exact rfl)) (by assumption) ?_
      simp only [List.setIfInBounds_toArray, List.set_cons_zero, List.set_cons_succ]
      refine wpAnyH_done (by kernel_rfl) ?_ _
      clear hS4
      generalize w2.drew = Wd at *
      go_wp2
      go_loopg [8, 9, 11, 12, 13, 37] m (fun gm s8 s9 _ _ _ s37 wr => ∃ (i k : Nat) (sum : Int), s37 = .int .i64 i ∧ s8 = .int .i64 (k : Int) ∧ s9 = .int .i64 sum ∧ i ≤ m ∧ m - i ≤ gm ∧ Hid (Stands D2 b (ents l) xs i (k : Int) sum) ∧ Hid (k < b.length) ∧ Hid (Below Wd.heap.size Wd wr))
      case atStart => exact ⟨0, n, base, by go_num, rfl, rfl, Nat.zero_le _, by omega, HST0, (show n < b.length by have := HNB.out; omega), Below.refl _ _⟩
      case round =>
        obtain ⟨i, k, sum, rfl, rfl, rfl, hi, hgm, HST, HK, HBR⟩ := hrel
        have hsum := HST.out.sum hI
        obtain ⟨t, ht⟩ : ∃ t, b[k]? = some t := ⟨b[k]'HK.out, List.getElem?_eq_getElem _⟩
        have hbw : Below w.heap.size w wr := HBd.out.trans (HBR.out.mono HBd.out.size)
        have HBW : Hid (Below w.heap.size w wr) := hbw
        obtain ⟨g, off, va, hgd, hg, x0, x1, x2, hA⟩ := HSt.out.at (k := k) (s := ofSt t) (by rw [List.getElem?_map, ht]; rfl)
        obtain ⟨ta, tc, hva⟩ := hA.shape
        obtain ⟨na, hna⟩ : ∃ na, t.arcs.length = na := ⟨_, rfl⟩
        have hna2 : (ofSt t).arcs.length = na := by show (t.arcs.map ofArc).length = na; rw [List.length_map, hna]
        rw [hna2] at hva
        subst hva
        subst hgd
        have u0 : wr.cell? ⟨g, off + k * 3, none⟩ = some (.bool t.final) := (hbw.cell (p := ⟨g, off + k * 3, none⟩) hg).trans x0
        have u1 : wr.cell? ⟨g, off + k * 3 + 1, none⟩ = some (.int .i64 t.out) := (hbw.cell (p := ⟨g, off + k * 3 + 1, none⟩) hg).trans x1
        have u2 : wr.cell? ⟨g, off + k * 3 + 2, none⟩ = some (.slice ta na tc) := (hbw.cell (p := ⟨g, off + k * 3 + 2, none⟩) hg).trans x2
        have u3 := (HQ.out wr hbw).2
        have hkz2 : (k : Int) < (n : Int) + 1 := by have := HK.out; have := HNB.out; omega
        have HTB : Hid (b[k]? = some t) := ht
        by_cases hlt : i < m
        · have hltz : (i : Int) < (m : Int) := by omega
          obtain ⟨c, hc⟩ : ∃ c, xs[i]? = some c := ⟨xs[i]'(by have := HM.out; omega), List.getElem?_eq_getElem _⟩
          obtain ⟨ad2, cap2, hv2, hcells⟩ := HRW.out.below HBR.out
          simp only [Value.slice.injEq] at hv2
          obtain ⟨gx, ox, hgx, _, hcx⟩ := hcells (by have := HM.out; omega)
          obtain ⟨hv2a, hv2b, hv2c⟩ := hv2
          clear hv2b hv2c
          subst hv2a
          subst hgx
          have ucx := hcx i c hc
          have HFD : Hid (Calls Tryz.prog 59 #[.slice ta na tc, .int .i32 c] wr fun e w' => e = .returned (.tuple #[arcV ((fa (t.arcs.map ofArc) c).getD zA), .bool (fa (t.arcs.map ofArc) c).isSome]) ∧ Below wr.heap.size wr w') :=
            find_any w.heap.size wr (t.arcs.map ofArc) _ c (hA.below hbw) hbw.size (arcs_rise hI ht) (HAF.out k t ht)
          have hnext := HST.out.next hI ht hc
          clear x0 x1 x2 hA hna hna2 hbw ht hcells hcx u0 u1
          cases hfa : fa (t.arcs.map ofArc) c with
          | none =>
            rw [hfa] at HFD
            have HFN : Hid (F = none) := by
              rcases hnext.1 (fa_arcs hfa) 0 with ⟨_, h2⟩ | ⟨q, _, h2, _⟩
              · exact HFW.out.trans h2
              · omega
            clear hnext hfa hc
            go_wp2_with (go_at_call 59; refine HFD.out.mono ?_; simp only [Option.getD_none, Option.isSome_none, arcV, zA]; rintro e w5 ⟨rfl, hb5⟩; have HB5 : Hid (Below wr.heap.size wr w5) := hb5; clear hb5)
            go_ret2
            have h6 := HBW.out.trans (HB5.out.mono HBW.out.size)
            exact ⟨by rw [HFN.out]; rfl, h6.alloc (Nat.le_trans HBW.out.size HB5.out.size) _⟩
          | some x =>
            rw [hfa] at HFD
            obtain ⟨a, ham, hac, rfl⟩ := fa_arc hfa
            obtain ⟨n1, n2, n3, n4⟩ := hnext.2 a ham hac
            have HN1 : Hid (Stands D2 b (ents l) xs (i + 1) (a.to : Int) (sum + a.out)) := n1
            have HN2 : Hid (a.to < b.length) := n2
            obtain ⟨d1, d2⟩ : 0 ≤ a.out ∧ a.out ≤ 1048576 := ⟨(state_level hI HTB.out).2.1 a ham, by omega⟩
            clear hnext hfa hc n1 n2 hac
            go_upto_region 9 with (go_at_call 59; refine HFD.out.mono ?_; simp only [Option.getD_some, Option.isSome_some, arcV, ofArc]; rintro e w5 ⟨rfl, hb5⟩; have HB5 : Hid (Below wr.heap.size wr w5) := hb5; clear hb5)
            obtain ⟨W6, hW6⟩ : ∃ W6, W6 = w5.alloc (.cells #[.int .i32 a.label, .int .i64 a.out, .int .i64 (a.to : Int)] 63) := ⟨_, rfl⟩
            rw [← hW6]
            obtain ⟨ab, hab⟩ : ∃ ab, ab = w5.heap.size := ⟨_, rfl⟩
            rw [← hab]
            have hn6 : W6.heap[ab]? = some (.cells #[.int .i32 a.label, .int .i64 a.out, .int .i64 (a.to : Int)] 63) := by rw [hW6, hab]; exact alloc_newP _ _
            have hb6 : Below w5.heap.size w5 W6 := by rw [hW6]; exact (Below.refl _ w5).alloc (Nat.le_refl _) _
            have hb7 : Below Wd.heap.size Wd W6.drew := by
              have h1 := HBR.out.trans (HB5.out.mono HBR.out.size)
              exact (h1.trans (hb6.mono h1.size)).drew
            have HB7 : Hid (Below Wd.heap.size Wd W6.drew) := hb7
            have hS : S11 ab a.out (a.to : Int) W6.drew := ⟨(by show W6.cell? ⟨ab, 1, none⟩ = _; simp [World.cell?, hn6]), (by show W6.cell? ⟨ab, 2, none⟩ = _; simp [World.cell?, hn6])⟩
            clear hW6 hab hn6 hb6 hb7
            go_upto_region 11 with fail
            refine region_at (S := S11 ab a.out (a.to : Int)) 8 rfl mixedP hS (fun _ => ?_)
            refine take_at (i := 0) 57 rfl rfl (by kernel_rfl) (by kernel_rfl) (by kernel_rfl) (fun _ _ _ h => h) (by rfl) (fun w hSw => by (have hSw2 := S11.facts hSw; clear hSw; go_simp; first | done | exact rfl)) (by assumption) ?_
            simp only [List.setIfInBounds_toArray, List.set_cons_zero, List.set_cons_succ]
            refine take_at (i := 1) 58 rfl rfl (by kernel_rfl) (by kernel_rfl) (by kernel_rfl) (fun _ _ _ h => h) (by rfl) (fun w hSw => by (have hSw2 := S11.facts hSw; clear hSw; go_simp; first | done | exact rfl)) (by assumption) ?_
            simp only [List.setIfInBounds_toArray, List.set_cons_zero, List.set_cons_succ]
            refine take_at (i := 2) 59 rfl rfl (by kernel_rfl) (by kernel_rfl) (by kernel_rfl) (fun _ _ _ h => h) (by rfl) (fun w hSw => by (have hSw2 := S11.facts hSw; clear hSw; go_simp; first | done | exact rfl)) (by assumption) ?_
            simp only [List.setIfInBounds_toArray, List.set_cons_zero, List.set_cons_succ]
            refine take_at (i := 3) 60 rfl rfl (by kernel_rfl) (by kernel_rfl) (by kernel_rfl) (fun _ _ _ h => h) (by rfl) (fun w hSw => by (have hSw2 := S11.facts hSw; clear hSw; go_simp; first | done | exact rfl)) (by assumption) ?_
            simp only [List.setIfInBounds_toArray, List.set_cons_zero, List.set_cons_succ]
            refine take_at (i := 4) 61 rfl rfl (by kernel_rfl) (by kernel_rfl) (by kernel_rfl) (fun _ _ _ h => h) (by rfl) (fun w hSw => by (have hSw2 := S11.facts hSw; clear hSw; go_simp; first | done | exact rfl)) (by assumption) ?_
            simp only [List.setIfInBounds_toArray, List.set_cons_zero, List.set_cons_succ]
            refine take_at (i := 5) (v := .int .i64 (sum + a.out)) 62 rfl rfl (by kernel_rfl) (by kernel_rfl) (by kernel_rfl) (fun _ _ _ h => h) (by rfl) (fun w hSw => by (clear hSw; go_simp; first | done | exact wrap_sum hsum.1 hsum.2 d1 d2)) (by assumption) ?_
            simp only [List.setIfInBounds_toArray, List.set_cons_zero, List.set_cons_succ]
            refine take_at (i := 6) 8 rfl rfl (by kernel_rfl) (by kernel_rfl) (by kernel_rfl) (fun _ _ _ h => h) (by rfl) (fun w hSw => by (have hSw2 := S11.facts hSw; clear hSw; go_simp; first | done | exact rfl)) (by assumption) ?_
            simp only [List.setIfInBounds_toArray, List.set_cons_zero, List.set_cons_succ]
            refine take_at (i := 7) 9 rfl rfl (by kernel_rfl) (by kernel_rfl) (by kernel_rfl) (fun _ _ _ h => h) (by rfl) (fun w hSw => by (have hSw2 := S11.facts hSw; clear hSw; go_simp; first | done | exact rfl)) (by assumption) ?_
            simp only [List.setIfInBounds_toArray, List.set_cons_zero, List.set_cons_succ]
            refine wpAnyH_done (by kernel_rfl) ?_ _
            clear hS
            go_wp2
            go_roundg (m - (i + 1))
            case measure => omega
            case rel => exact ⟨i + 1, a.to, sum + a.out, by go_num, rfl, rfl, by omega, Nat.le_refl _, HN1, HN2, HB7⟩
        · have hltz : ¬ (i : Int) < (m : Int) := by omega
          have hwt : F = if t.final then some (sum + t.out) else none := by
            rcases HST.out with ⟨h1, _⟩ | ⟨q, R, h1, h2, h3, h4, h5⟩
            · omega
            · have hq : q = k := by omega
              subst hq
              have e1 := (hI.row q t ht).1
              rw [h3] at e1
              have hR : R = exp D2 t := Option.some.inj e1
              rw [HFW.out, h4, List.drop_eq_nil_of_le (by have := HM.out; omega), hR, wt_zero]
          have hto : t.final = true → 0 ≤ t.out ∧ sum + t.out ≤ 1048576 := fun hf => by
            have hin : ([], t.out) ∈ exp D2 t := by unfold exp fins; rw [hf]; simp
            rcases HST.out with ⟨h1, _⟩ | ⟨q, R, h1, h2, h3, h4, h5⟩
            · omega
            · have hq : q = k := by omega
              subst hq
              have e1 := (hI.row q t ht).1
              rw [h3] at e1
              have hR : R = exp D2 t := Option.some.inj e1
              have h6 := h5 ([], t.out + sum) (by rw [hR]; exact List.mem_map.2 ⟨_, hin, rfl⟩)
              have h7 := hI.lv R (List.mem_of_getElem? h3)
              have h8 := least_all (show ([], t.out) ∈ R by rw [hR]; exact hin)
              rw [h7.2] at h8
              simp only at h6 h8
              omega
          have HWT : Hid (F = if t.final then some (sum + t.out) else none) := hwt
          clear hwt x0 x1 x2 hA hna hna2 hbw ht
          obtain ⟨ft, hft⟩ : ∃ ft, t.final = ft := ⟨_, rfl⟩
          rw [hft] at HWT u0 hto
          clear hft
          cases ft with
          | false =>
            go_wp2
            go_ret2
            exact ⟨by rw [HWT.out]; rfl, HBW.out.alloc HBW.out.size _⟩
          | true =>
            obtain ⟨o1, o2⟩ := hto rfl
            go_wp2
            go_ret2
            exact ⟨by rw [HWT.out]; rfl, HBW.out.alloc HBW.out.size _⟩
end Go.Proofs.YtllmdfkiogmofaaGreatDoor
