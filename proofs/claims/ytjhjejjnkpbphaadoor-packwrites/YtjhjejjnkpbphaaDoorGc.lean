/- Texts that were written apart, joined. -/
import Derived.Test.YtjhjejjnkpbphaaDoorG8
import Derived.Test.YtjhjejjnkpbphaaDoorFRState
import Derived.Test.YtjhjejjnkpbphaaDoorG7
import Derived.Test.YtjhjejjnkpbphaaDoorGa
import Derived.Test.YtjhjejjnkpbphaaDoorG4
import Derived.Test.YtjhjejjnkpbphaaDoorDrawn8
import Derived.Test.YtjhjejjnkpbphaaDoorG6
/- FstSmallest: the law's own walk. -/
namespace Go.Proofs.YtjhjejjnkpbphaaDoor
open Go.RowKit Nums Fm
set_option maxRecDepth 100000

theorem mach_subs {l : List Pr} (h : buildE l = 0) : ∃ D, Inv D (machOf l).2 ∧ ∀ R, R ∈ D ↔ (ents l ≠ [] ∧ Sub (ents l) R) := by
  by_cases hl : l = []
  · subst hl
    exact ⟨[], Inv.nil, fun R => ⟨fun h => (by cases h), fun h => absurd rfl h.1⟩⟩
  · obtain ⟨D, M⟩ := stF_spec 25 [] [] (ents l) Inv.nil (dict_good h hl)
    rw [machOf, if_pos ⟨h, hl⟩]
    refine ⟨D, M.inv, fun R => ⟨fun hR => ⟨ents_ne hl, ?_⟩, fun hR => M.all R hR.2⟩⟩
    rcases M.sub R hR with h | h
    · cases h
    · exact h
end Go.Proofs.YtjhjejjnkpbphaaDoor

/- The reference's Build, whole. -/
namespace Go.Proofs.YtjhjejjnkpbphaaDoor
open Go.RowKit Nums Fm Pm
set_option maxRecDepth 100000

theorem state_top (w : World) (v : Value) (l : List Pr) (hC : buildE l = 0) (hl : l ≠ []) (hr : RR w.heap.size w v (ents l)) : StateTop v l w := by
  have hG := dict_good hC hl
  have hD := dict_ok hC
  obtain ⟨e1, e2⟩ := ref_st 25 [] [] (ents l) Inv.nil hG
  have hM : machOf l = (least (ents l), (stF 25 [] (ents l)).1) := by rw [machOf, if_pos ⟨hC, hl⟩]
  obtain ⟨D, hI, hS⟩ := mach_subs hC
  rw [hM] at hI
  have hDD : (refF 25 [] [] (ents l)).1 = D := inv_one e2 hI
  have hsm := mach_small (l := l)
  rw [hM] at hsm
  have hin : StIn (fun _ => False) 25 w.heap.size w.heap.size w (.slice none 0 0) (.slice none 0 0) v [] [] (ents l) := by
    refine ⟨Inv.nil, hG, AllOwn.nil _ _ _, ⟨⟨[], GOwn.nil _ _ _ _, rfl, fun i s hi => by simp at hi⟩, fun k h => h.elim⟩, hr, Nat.le_refl _, Nat.le_refl _, ?_, fun R hR => ?_, fun e he => ?_⟩
    · rw [hDD, hI.len]
      simp only at hsm ⊢
      omega
    · rw [hDD] at hR
      obtain ⟨h0, hs⟩ := (hS R).1 hR
      obtain ⟨xs, n, hx, k, hk, rfl⟩ := sub_word hs hD.rise h0
      have hb := behind_len (xs.take k) (ents l)
      have hel := ents_len l
      have hl4 := hD.len
      refine ⟨?_, fun e he => ?_⟩
      · have : (level (behind (xs.take k) (ents l))).length = (behind (xs.take k) (ents l)).length := by simp [level, shift]
        omega
      · obtain ⟨y, hy, rfl⟩ := List.mem_map.1 he
        obtain ⟨z, hz, _, h3⟩ := behind_mem _ _ _ hy
        have := hD.en.ln z hz
        simp only
        omega
    · have := hD.en.wt e he
      omega
  refine (refState_any 25 _ _ _ _ _ _ _ _ _ _ hin).mono ?_
  rintro e w' ⟨A', vR', vS', rfl, hK⟩
  obtain ⟨ra, rc, h1⟩ := hK.rests.shape
  obtain ⟨sa, sc, h2⟩ := hK.states.shape
  have h3 : (refF 25 [] [] (ents l)).2.1 = (stF 25 [] (ents l)).1 := by rw [e1]
  have hb : Below w.heap.size w w' := ⟨hK.upd.os, hK.upd.tape, hK.upd.output, hK.upd.size, fun j hj => hK.upd.block j hj (fun h => by rcases h with h | h <;> cases h)⟩
  have hrow := hK.states.row
  rw [h3] at hrow
  subst h1
  subst h2
  exact ⟨_, _, _, _, _, _, _, rfl, hb, hrow⟩
theorem refBuild_all (w : World) (v : Value) (l : List Pr) (h : PRow w v l) (hsm : Sm l) :
    Calls Tryd.prog 50 #[v] w fun e w' => ∃ base vs b, e = .returned (.tuple #[.agg #[.int .i64 base, vs], .int .i64 (buildE l)]) ∧ BuildSays w w' l base vs b :=
  refBuild_any w v l h hsm fun hC w1 hb1 => refMake_any w1 v l (h.below hb1) hC fun hl w2 v2 _ hr => state_top w2 v2 l hC hl hr
end Go.Proofs.YtjhjejjnkpbphaaDoor

/- Cut: what the seat's translation lacks is left out. -/
/- PackRight: the law's own walk. -/
namespace Go.Proofs.YtjhjejjnkpbphaaDoor
open Go.RowKit Nums Fm Pk
set_option maxRecDepth 100000

theorem refRight_all (E : Nat) (w : World) (base : Int) (m : List RSt) (vs : Value) (h : StsAt E w vs m) (hE : E ≤ w.heap.size) :
    Calls Tryd.prog 23 #[.agg #[.int .i64 base, vs]] w fun e w' => e = .returned (.bool (rightB base m)) ∧ Below w.heap.size w w' :=
  refRight_any E w base m vs h hE (fun W hW => (refPairs_any E W base m vs (h.below (hW.mono hE)) (Nat.le_trans hE hW.size)).mono fun _ _ hp => hp) (fun W vl l hp hs => refBuild_all W vl l hp hs)
end Go.Proofs.YtjhjejjnkpbphaaDoor

/- PackWrites: the reference's Pack, and the law's own walk. -/
namespace Go.Proofs.YtjhjejjnkpbphaaDoor
open Go.RowKit Nums Fm Pk
open Cd (uw)
set_option maxRecDepth 100000

set_option maxHeartbeats 1000000 in
theorem refPack_any (E : Nat) (w : World) (base : Int) (m : List RSt) (vs : Value) (h : StsAt E w vs m) (hE : E ≤ w.heap.size) (hm : m.length ≤ 1048576) :
    Calls Tryd.prog 8 #[.agg #[.int .i64 base, vs]] w fun e w' => PackSays w w' base m e := by
  obtain ⟨ad, cap, rfl⟩ := h.shape
  obtain ⟨n, hn⟩ : ∃ n, m.length = n := ⟨_, rfl⟩
  rw [hn] at h hm ⊢
  obtain ⟨mb, hmb⟩ : ∃ mb, mb = w.heap.size := ⟨_, rfl⟩
  obtain ⟨W1, hW1⟩ : ∃ W1, W1 = w.alloc (.cells #[.int .i64 base, .slice ad n cap] 24) := ⟨_, rfl⟩
  have HPB : Hid (PB w W1 mb base (.slice ad n cap)) := ⟨by rw [hW1]; exact (Below.refl _ w).alloc (Nat.le_refl _) _, by rw [hW1, hmb]; exact alloc_newP _ _⟩
  have HR : Hid (Calls Tryd.prog 23 #[.agg #[.int .i64 base, .slice ad n cap]] W1 fun e w' => e = .returned (.bool (rightB base m)) ∧ Below W1.heap.size W1 w') := refRight_all E W1 base m _ (h.below (HPB.out.bel.mono hE)) (Nat.le_trans hE HPB.out.bel.size)
  obtain ⟨R, hR⟩ : ∃ R, rightB base m = R := ⟨_, rfl⟩
  rw [hR] at HR
  have HB : Hid (∀ W, Below w.heap.size w W → rightB base m = true → Calls Tryd.prog 24 #[.agg #[.int .i64 base, .slice ad n cap]] W fun e w' => ∃ ad2 n2 cap2, e = .returned (.slice ad2 n2 cap2) ∧ Cd.Bytes W.heap.size w' (.slice ad2 n2 cap2) (packB base m) ∧ Below W.heap.size W w') := fun W hW hr => refBytes_any E W base m _ (h.below (hW.mono hE)) (Nat.le_trans hE hW.size) (by rw [hn]; exact hm) hr
  clear h hn
  obtain ⟨p0, p1⟩ := HPB.out.facts
  go_enter Tryd.func8, Tryd.ntmps8
  go_upto_region 1 with fail
  rw [← hW1, ← hmb]
  clear hW1 hmb
  cases R with
  | false =>
    go_wp2_with (go_at_call 23; refine HR.out.mono ?_; rintro e w2 ⟨rfl, hb2⟩)
    go_ret2
    exact ⟨HPB.out.bel.trans (hb2.mono HPB.out.bel.size), fun _ => rfl, fun h => by rw [hR] at h; cases h⟩
  | true =>
    go_upto_region 3 with (go_at_call 23; refine HR.out.mono ?_; rintro e w2 ⟨rfl, hb2⟩)
    have HP2 : Hid (PB w w2 mb base (.slice ad n cap)) := HPB.out.below hb2
    clear p0 p1 hb2
    obtain ⟨p0, p1⟩ := HP2.out.facts
    go_wp2_with (go_at_call 24; refine (HB.out _ HP2.out.bel hR).mono ?_; rintro e w3 ⟨ad3, n3, cap3, rfl, hby, hb3⟩)
    go_ret2
    exact ⟨HP2.out.bel.trans (hb3.mono HP2.out.bel.size), fun h => (by rw [hR] at h; cases h), fun _ => ⟨_, _, _, rfl, hby.mono HP2.out.bel.size⟩⟩
/-- What Pack's answer is good for: its bytes, or none. -/
theorem PackSays.two {w w' : World} {base : Int} {m : List RSt} {e : Ending} (h : PackSays w w' base m e) {R : Bool} (hR : rightB base m = R) : ∃ ad n cap, e = .returned (.tuple #[.slice ad n cap, .int .i64 (if R then 0 else 80)]) ∧ Cd.Row w'.heap.size w' (.slice ad n cap) (if R then packB base m else []) := by
  cases R with
  | true =>
    obtain ⟨ad, n, cap, e1, e2⟩ := h.yes hR
    exact ⟨_, _, _, e1, e2.row⟩
  | false => exact ⟨_, _, _, h.no hR, (Cd.Bytes.nil 0 w').row⟩
set_option maxHeartbeats 2000000 in
theorem writes_walk (v : Value) (w : World) (ht : Tabs w) (n : Int) (vs : Value) (m : List RSt) (hv : v = .agg #[.int .i64 n, vs]) (h : StsAt w.heap.size w vs m) :
    Calls Tryd.prog 3 #[v] w fun e w' => e = .returned (.bool true) ∧ Below w.heap.size w w' := by
  subst hv
  obtain ⟨ad, cap, rfl⟩ := h.shape
  obtain ⟨ns, hns⟩ : ∃ ns, m.length = ns := ⟨_, rfl⟩
  have HNS : Hid (m.length = ns) := hns
  rw [hns] at h ⊢
  have HR : Hid (StsAt w.heap.size w (.slice ad ns cap) m) := h
  have HT : Hid (Tabs w) := ht
  obtain ⟨W0, hW0⟩ : ∃ W0, W0 = w.alloc (.cells #[.int .i64 n, .slice ad ns cap] 24) := ⟨_, rfl⟩
  obtain ⟨mb, hmb⟩ : ∃ mb, mb = w.heap.size := ⟨_, rfl⟩
  have HPB : Hid (PB w W0 mb n (.slice ad ns cap)) := ⟨by rw [hW0]; exact (Below.refl _ w).alloc (Nat.le_refl _) _, by rw [hW0, hmb]; exact alloc_newP _ _⟩
  have HAL : Hid (∀ W, Below w.heap.size w W → Calls Tryd.prog 6 #[] W fun e w' => e = .returned (.bool true) ∧ Below W.heap.size W w') := fun W hW => alive_any W (HT.out.below hW)
  clear h ht hns
  go_enter Tryd.func3, Tryd.ntmps3
  go_upto_region 1 with fail
  rw [← hW0, ← hmb]
  clear hW0 hmb
  obtain ⟨p0, p1⟩ := HPB.out.facts
  by_cases hbig : 300 < ns
  · have hbz : (300 : Int) < (ns : Int) := by omega
    go_wp2_with (go_at_call 6; refine (HAL.out _ HPB.out.bel).mono ?_; rintro e w2 ⟨rfl, hb2⟩)
    go_ret
    exact ⟨rfl, HPB.out.bel.trans (hb2.mono HPB.out.bel.size)⟩
  · have hbz : ¬ (300 : Int) < (ns : Int) := by omega
    obtain ⟨R, hRR⟩ : ∃ R, rightB n m = R := ⟨_, rfl⟩
    have HPA : Hid (∀ W, Below w.heap.size w W → Calls Tryd.prog 7 #[.agg #[.int .i64 n, .slice ad ns cap]] W fun e w' => ∃ ad2 n2 cap2, e = .returned (.tuple #[.slice ad2 n2 cap2, .int .i64 (if R then 0 else 80)]) ∧ Cd.Row w'.heap.size w' (.slice ad2 n2 cap2) (if R then packB n m else []) ∧ Below W.heap.size W w') := fun W hW =>
      (Pack_any W.heap.size W n m (.slice ad ns cap) ((HR.out.below hW).mono hW.size) (Nat.le_refl _) (HT.out.below hW) (by have := HNS.out; omega)).mono fun e w' hs => by
        obtain ⟨a, b, c, h1, h2⟩ := hs.two hRR
        exact ⟨a, b, c, h1, h2, hs.bel⟩
    have HPR : Hid (∀ W, Below w.heap.size w W → Calls Tryd.prog 8 #[.agg #[.int .i64 n, .slice ad ns cap]] W fun e w' => ∃ ad2 n2 cap2, e = .returned (.tuple #[.slice ad2 n2 cap2, .int .i64 (if R then 0 else 80)]) ∧ Cd.Row w'.heap.size w' (.slice ad2 n2 cap2) (if R then packB n m else []) ∧ Below W.heap.size W w') := fun W hW =>
      (refPack_any W.heap.size W n m (.slice ad ns cap) ((HR.out.below hW).mono hW.size) (Nat.le_refl _) (by have := HNS.out; omega)).mono fun e w' hs => by
        obtain ⟨a, b, c, h1, h2⟩ := hs.two hRR
        exact ⟨a, b, c, h1, h2, hs.bel⟩
    generalize (if R then packB n m else []) = xs at *
    generalize (if R then (0 : Int) else 80) = c at *
    clear hRR
    go_upto_region 4 with (go_at_call 7; refine (HPA.out _ HPB.out.bel).mono ?_; rintro e w2 ⟨d2, n2, c2, rfl, hr2, hb2⟩)
    have HP2 : Hid (PB w w2 mb n (.slice ad ns cap)) := HPB.out.below hb2
    have HR2 : Hid (Cd.Row w2.heap.size w2 (.slice d2 n2 c2) xs) := hr2
    clear p0 p1 hb2 hr2
    obtain ⟨p0, p1⟩ := HP2.out.facts
    go_upto_region 5 with (go_at_call 8; refine (HPR.out _ HP2.out.bel).mono ?_; rintro e w3 ⟨d3, n3, c3, rfl, hr3, hb3⟩)
    have HP3 : Hid (PB w w3 mb n (.slice ad ns cap)) := HP2.out.below hb3
    have HR23 : Hid (Cd.Row w3.heap.size w3 (.slice d2 n2 c2) xs) := (HR2.out.below hb3).mono hb3.size
    have HR3 : Hid (Cd.Row w3.heap.size w3 (.slice d3 n3 c3) xs) := hr3
    clear p0 p1 hb3 hr3
    have HST : Hid (∀ W, Below w3.heap.size w3 W → (convert 26 9 (.slice d2 n2 c2)).run Tryd.prog W = .ok (.string (Cd.strB xs)) W ∧ (convert 26 9 (.slice d3 n3 c3)).run Tryd.prog W = .ok (.string (Cd.strB xs)) W) := fun W hW => ⟨(HR23.out.below hW).str, (HR3.out.below hW).str⟩
    have hcc : (c == c) = true := by simp
    go_wp2_with (go_at_call 6; refine (HAL.out _ HP3.out.bel).mono ?_; rintro e w4 ⟨rfl, hb4⟩; obtain ⟨s1, s2⟩ := HST.out _ hb4)
    go_ret
    exact ⟨by simp, HP3.out.bel.trans (hb4.mono HP3.out.bel.size)⟩
end Go.Proofs.YtjhjejjnkpbphaaDoor
