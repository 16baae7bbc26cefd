/- WalkBegins: the law's own walk. -/
import Derived.Test.YtllmdfkiogmofaaGreatDoorJ25
import Derived.Test.YtllmdfkiogmofaaGreatDoorJ24
import Derived.Test.YtllmdfkiogmofaaGreatDoorMachOne
import Derived.Test.YtllmdfkiogmofaaGreatDoorJ22
namespace Go.Proofs.YtllmdfkiogmofaaGreatDoor
open Go.RowKit Nums Fm Pk Pm
set_option maxRecDepth 100000

theorem NewB_any (E : Nat) (w : World) (base : Int) (m : List RSt) (vs : Value) (h : StsAt E w vs m) (hE : E ≤ w.heap.size) (hT : Tabs w) (hr : rightB base m = true) :
    Calls Tryz.prog 10 #[.agg #[.int .i64 base, vs]] w fun e w' => ∃ wb l, e = .returned (.tuple #[.pointer (some ⟨wb, 0, none⟩), .bool true]) ∧ buildE l = 0 ∧ machOf l = (base, m.map toSt) ∧ WkOn w' wb l ∧ Below w.heap.size w w' := by
  obtain ⟨l, hC, hmach, hmm⟩ := right_built hr
  obtain ⟨b, hb⟩ : ∃ b, m.map toSt = b := ⟨_, rfl⟩
  rw [hb] at hmach hmm ⊢
  have hb2 : (machOf l).2 = b := by rw [hmach]
  have hb1 : (machOf l).1 = base := by rw [hmach]
  have hfew : b.length ≤ 1048576 := by have := mach_few (l := l); rw [hmach] at this; simp only at this; omega
  obtain ⟨D, hI, hF, hM⟩ : ∃ D, Inv D b ∧ (∀ R ∈ D, R.length ≤ 4096) ∧ (l ≠ [] → Pk.MW l (machOf l).1 (machOf l).2 D) := by
    by_cases hl : l = []
    · subst hl
      have : b = [] := by rw [← hb2]; rfl
      subst this
      exact ⟨[], Inv.nil, fun R hR => (by cases hR), fun h => absurd rfl h⟩
    · obtain ⟨D, M⟩ := mach_walk hC hl
      exact ⟨D, by have := M.inv; rw [hb2] at this; exact this, M.rst.few, fun _ => M⟩
  have hsm : ∀ s ∈ b.map ofSt, s.arcs.length ≤ 1114112 := fun s hs => by
    obtain ⟨t, ht, rfl⟩ := List.mem_map.1 hs
    obtain ⟨i, hi, rfl⟩ := List.getElem_of_mem ht
    exact arcs_few hC (n := i) (by rw [hb2]; exact List.getElem?_eq_getElem hi)
  rw [← hmm] at h hr
  refine (New_yes E w base b D hI hF vs h hE hT hfew hr hsm).mono ?_
  rintro e w' ⟨wb, rfl, h1, h2, h3⟩
  exact ⟨wb, l, rfl, hC, hmach, ⟨hC, hT.below h3, D, hM, by rw [hb2]; exact hI, by rw [hb1, hb2]; exact h2⟩, h3⟩
theorem build_few {l : List Pr} (h : buildE l = 0) : l.length ≤ 4096 := by
  unfold buildE at h
  by_cases h2 : 4096 < l.length
  · rw [if_pos h2] at h; cases h
  · omega
set_option maxHeartbeats 4000000 in
theorem begins_walk (v : Value) (w : World) (ht : Tabs w) (n : Int) (vs : Value) (m : List RSt) (hv : v = .agg #[.int .i64 n, vs]) (h : StsAt w.heap.size w vs m) :
    Calls Tryz.prog 4 #[v] w fun e w' => e = .returned (.bool true) ∧ Below w.heap.size w w' := by
  subst hv
  obtain ⟨ad, cap, rfl⟩ := h.shape
  obtain ⟨ns, hns⟩ : ∃ ns, m.length = ns := ⟨_, rfl⟩
  have HNS : Hid (m.length = ns) := hns
  have h63 := h.len
  rw [hns] at h h63 ⊢
  have HR : Hid (StsAt w.heap.size w (.slice ad ns cap) m) := h
  have HT : Hid (Tabs w) := ht
  have HAL : Hid (∀ W, Below w.heap.size w W → Calls Tryz.prog 9 #[] W fun e w' => e = .returned (.bool true) ∧ Below W.heap.size W w') := fun W hW => alive_any W (ht.below hW)
  obtain ⟨W0, hW0⟩ : ∃ W0, W0 = w.alloc (.cells #[.int .i64 n, .slice ad ns cap] 26) := ⟨_, rfl⟩
  obtain ⟨mb, hmb⟩ : ∃ mb, mb = w.heap.size := ⟨_, rfl⟩
  have HPB : Hid (PB w W0 mb n (.slice ad ns cap)) := ⟨by rw [hW0]; exact (Below.refl _ w).alloc (Nat.le_refl _) _, by rw [hW0, hmb]; exact alloc_newP _ _⟩
  obtain ⟨z0, z1⟩ := HPB.out.facts
  clear h ht hns
  by_cases hbig : 300 < ns
  · go_enter Tryz.func4, Tryz.ntmps4
    go_upto_region 1 with fail
    rw [← hW0, ← hmb]
    clear hW0 hmb
    go_wp2_with (go_at_call 9; refine (HAL.out _ HPB.out.bel).mono ?_; rintro e w1 ⟨rfl, hb1⟩)
    go_ret
    exact ⟨rfl, HPB.out.bel.trans (hb1.mono HPB.out.bel.size)⟩
  have hbz : ¬ (300 : Int) < (ns : Int) := by omega
  have HRB : Hid (∀ W, Below w.heap.size w W → Calls Tryz.prog 11 #[.agg #[.int .i64 n, .slice ad ns cap]] W fun e w' => e = .returned (.bool (rightB n m)) ∧ Below W.heap.size W w') := fun W hW => refRight_all W.heap.size W n m (.slice ad ns cap) ((HR.out.below hW).mono hW.size) (Nat.le_refl _)
  cases hr : rightB n m with
  | false =>
    have HNW : Hid (Calls Tryz.prog 10 #[.agg #[.int .i64 n, .slice ad ns cap]] W0 fun e w' => e = .returned (.tuple #[.pointer none, .bool false]) ∧ Below W0.heap.size W0 w') := New_no W0.heap.size W0 n m _ ((HR.out.below HPB.out.bel).mono HPB.out.bel.size) (Nat.le_refl _) (HT.out.below HPB.out.bel) (by have := HNS.out; omega) hr
    rw [hr] at HRB
    clear hr
    go_enter Tryz.func4, Tryz.ntmps4
    go_upto_region 1 with fail
    rw [← hW0, ← hmb]
    clear hW0 hmb
    go_wp2_with (first
      | (go_at_call 10; refine HNW.out.mono ?_; rintro e w1 ⟨rfl, hb1⟩; have HP1 : Hid (PB w w1 mb n (.slice ad ns cap)) := HPB.out.below hb1; obtain ⟨y0, y1⟩ := HP1.out.facts; clear hb1)
      | (go_at_call 11; refine (HRB.out _ HP1.out.bel).mono ?_; rintro e w2 ⟨rfl, hb2⟩; have HP2 : Hid (PB w w2 mb n (.slice ad ns cap)) := HP1.out.below hb2; clear hb2)
      | (go_at_call 9; refine (HAL.out _ HP2.out.bel).mono ?_; rintro e w3 ⟨rfl, hb3⟩))
    go_ret
    exact ⟨rfl, HP2.out.bel.trans (hb3.mono HP2.out.bel.size)⟩
  | true =>
    have HNW : Hid (Calls Tryz.prog 10 #[.agg #[.int .i64 n, .slice ad ns cap]] W0 fun e w' => ∃ wb l, e = .returned (.tuple #[.pointer (some ⟨wb, 0, none⟩), .bool true]) ∧ buildE l = 0 ∧ machOf l = (n, m.map toSt) ∧ WkOn w' wb l ∧ Below W0.heap.size W0 w') := NewB_any W0.heap.size W0 n m _ ((HR.out.below HPB.out.bel).mono HPB.out.bel.size) (Nat.le_refl _) (HT.out.below HPB.out.bel) hr
    have HPP : Hid (∀ W, Below w.heap.size w W → Calls Tryz.prog 12 #[.agg #[.int .i64 n, .slice ad ns cap]] W (PairsPost W n m)) := fun W hW => refPairs_any W.heap.size W n m (.slice ad ns cap) ((HR.out.below hW).mono hW.size) (Nat.le_refl _)
    have HRT : Hid (rightB n m = true) := hr
    rw [hr] at HRB
    clear hr
    go_enter Tryz.func4, Tryz.ntmps4
    go_upto_region 1 with fail
    rw [← hW0, ← hmb]
    clear hW0 hmb
    go_upto_region 9 with (first
      | (go_at_call 10; refine HNW.out.mono ?_; rintro e w1 ⟨wb, l, rfl, hC, hmach, hon, hb1⟩; have HC : Hid (buildE l = 0) := hC; have HMA : Hid (machOf l = (n, m.map toSt)) := hmach; have HON : Hid (WkOn w1 wb l) := hon; have HP1 : Hid (PB w w1 mb n (.slice ad ns cap)) := HPB.out.below hb1; obtain ⟨y0, y1⟩ := HP1.out.facts; clear hb1 hC hmach hon)
      | (go_at_call 11; refine (HRB.out _ HP1.out.bel).mono ?_; rintro e w2 ⟨rfl, hb2⟩; have HP2 : Hid (PB w w2 mb n (.slice ad ns cap)) := HP1.out.below hb2; have HB2 : Hid (Below w1.heap.size w1 w2) := hb2; obtain ⟨y2, y3⟩ := HP2.out.facts; clear hb2)
      | (go_at_call 12; refine (HPP.out _ HP2.out.bel).mono ?_; rintro e w3 ⟨vl, ok, l2, rfl, hS⟩; have HS : Hid (PairsSays w2 w3 n m vl ok l2) := hS; clear hS))
    obtain ⟨g1, g2, g3, _⟩ := HS.out.yes HRT.out
    obtain rfl : l2 = l := mach_one g2 HC.out (g3.trans HMA.out.symm)
    obtain ⟨hPR, _⟩ := HS.out.row g1
    obtain ⟨ad3, cap3, rfl⟩ := hPR.form
    obtain ⟨nl, hnl⟩ : ∃ nl, l2.length = nl := ⟨_, rfl⟩
    have HNL : Hid (l2.length = nl) := hnl
    have hnl4 : nl ≤ 4096 := by rw [← hnl]; exact build_few g2
    rw [hnl] at hPR ⊢
    have HPR : Hid (PRow w3 (.slice ad3 nl cap3) l2) := hPR
    have hb13 : Below w1.heap.size w1 w3 := HB2.out.trans (HS.out.bel.mono HB2.out.size)
    have HON3 : Hid (WkOn w3 wb l2) := HON.out.below hb13
    have HB3 : Hid (Below w.heap.size w w3) := HP2.out.bel.trans (HS.out.bel.mono HP2.out.bel.size)
    have HLN : Hid (∀ W, Below w3.heap.size w3 W → Calls Tryz.prog 13 #[.pointer (some ⟨wb, 0, none⟩)] W fun e w' => e = .returned (.int .i64 (nl : Int)) ∧ Below W.heap.size W w') := fun W hW => by rw [← hnl]; exact LenW_any W wb l2 (HON3.out.below hW)
    have HAA : Hid (∀ W, Below w3.heap.size w3 W → Calls Tryz.prog 16 #[.pointer (some ⟨wb, 0, none⟩)] W fun e w' => ∃ c0 c1, e = .returned (.func (.func 69) #[] #[.pointer (some ⟨c0, 0, none⟩), .pointer (some ⟨c1, 0, none⟩)]) ∧ Below W.heap.size W w' ∧ ToldSays (.func (.func 69) #[] #[.pointer (some ⟨c0, 0, none⟩), .pointer (some ⟨c1, 0, none⟩)]) w' l2) := fun W hW => All_any W wb l2 (HON3.out.below hW)
    have HTW : Hid (l2.take ((nl : Int) + 1).toNat = l2) := by show _ = _; exact List.take_of_length_le (by omega)
    have HSM : Hid (∀ W u v (a b : List Pr), PRow W u a → PRow W v b → a = b → b.length ≤ 4096 → Calls Tryz.prog 14 #[u, v] W fun e w' => e = .returned (.bool true) ∧ Below W.heap.size W w') := fun W u v a b h1 h2 e hb3 => by
      refine (same6_any W u v a b h1 h2 (by rw [e]; omega) (by omega)).mono ?_
      rintro e2 w' ⟨rfl, q, rfl⟩
      exact ⟨by rw [decide_eq_true e], belowN (Below.refl _ _) q⟩
    have hw1 : IntKind.i64.wrap ((nl : Int) + 1) = (nl : Int) + 1 := by
      first | exact wrap_small _ (by omega) (by omega) | (rw [IntKind.wrap_i64]; exact IntWalk.wrap64_in _ (by omega)) | (rw [IntKind.wrap_i64]; unfold wrap64; omega)
    clear hPR hnl g1 g2 g3 hb13 y0 y1 y2 y3 z0 z1
    go_wp2_with (first
      | (go_at_call 9; refine (HAL.out _ HB3.out).mono ?_; rintro e w4 ⟨rfl, hb4⟩; have HB4 : Hid (Below w3.heap.size w3 w4) := hb4; clear hb4)
      | (go_at_call 13; refine (HLN.out _ HB4.out).mono ?_; rintro e w5 ⟨rfl, hb5⟩; have HB5 : Hid (Below w3.heap.size w3 w5) := HB4.out.trans (hb5.mono HB4.out.size); clear hb5)
      | (go_at_call 16; refine (HAA.out _ HB5.out).mono ?_; rintro e w6 ⟨c0, c1, rfl, hb6, hts⟩; have HB6 : Hid (Below w3.heap.size w3 w6) := HB5.out.trans (hb6.mono HB5.out.size); have HTS : Hid (ToldSays (.func (.func 69) #[] #[.pointer (some ⟨c0, 0, none⟩), .pointer (some ⟨c1, 0, none⟩)]) w6 l2) := hts; clear hb6 hts)
      | (go_at_call 15; refine (HTS.out _ (Below.refl _ _) _ (by omega)).mono ?_; rintro e w7 ⟨ad7, n7, cap7, rfl, hr7, hb7⟩; rw [HTW.out] at hr7; have HR7 : Hid (PRow w7 (.slice ad7 n7 cap7) l2) := hr7; have HB7 : Hid (Below w3.heap.size w3 w7) := HB6.out.trans (hb7.mono HB6.out.size); clear hr7 hb7)
      | (go_at_call 14; refine (HSM.out _ _ _ l2 l2 HR7.out (HPR.out.below HB7.out) rfl (by have := HNL.out; omega)).mono ?_; rintro e w8 ⟨rfl, hb8⟩; have HB8 : Hid (Below w3.heap.size w3 w8) := HB7.out.trans (hb8.mono HB7.out.size); clear hb8))
    go_ret
    exact ⟨rfl, HB3.out.trans (HB8.out.mono HB3.out.size)⟩
end Go.Proofs.YtllmdfkiogmofaaGreatDoor
