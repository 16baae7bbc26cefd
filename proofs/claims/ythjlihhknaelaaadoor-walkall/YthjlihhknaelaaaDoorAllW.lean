/- WalkAll: the law's own walk. -/
import Derived.Test.YthjlihhknaelaaaDoorWkTd
import Derived.Test.YthjlihhknaelaaaDoorSameP
namespace Go.Proofs.YthjlihhknaelaaaDoor
open Go.RowKit Nums Fm Pk Pm
set_option maxRecDepth 100000

/-- What told says of an iterator's value. -/
def ToldSays (fv : Value) (w1 : World) (L : List Pr) : Prop := ∀ W, Below w1.heap.size w1 W → ∀ most : Int, most ≤ 1048576 → Calls Tryd.prog 14 #[fv, .int .i64 most] W fun e w' => ∃ ad n cap, e = .returned (.slice ad n cap) ∧ PRow w' (.slice ad n cap) (L.take most.toNat) ∧ Below W.heap.size W w'
set_option maxHeartbeats 1000000 in
theorem All_any (w : World) (wb : Nat) (l : List Pr) (h : WkOn w wb l) :
    Calls Tryd.prog 15 #[.pointer (some ⟨wb, 0, none⟩)] w fun e w' => ∃ c0 c1, e = .returned (.func (.func 46) #[] #[.pointer (some ⟨c0, 0, none⟩), .pointer (some ⟨c1, 0, none⟩)]) ∧ Below w.heap.size w w' ∧ ToldSays (.func (.func 46) #[] #[.pointer (some ⟨c0, 0, none⟩), .pointer (some ⟨c1, 0, none⟩)]) w' l := by
  have HFR : Hid (Calls Tryd.prog 30 #[.pointer (some ⟨wb, 0, none⟩), .int .i64 0] w fun e w' => ∃ c0 c1, e = .returned (.func (.func 46) #[] #[.pointer (some ⟨c0, 0, none⟩), .pointer (some ⟨c1, 0, none⟩)]) ∧ Below w.heap.size w w' ∧ ToldSays (.func (.func 46) #[] #[.pointer (some ⟨c0, 0, none⟩), .pointer (some ⟨c1, 0, none⟩)]) w' l) := by
    refine (from_any wb 0 w).mono ?_
    rintro e w' ⟨rfl, t1, t2, hw'⟩
    have hb : Below w.heap.size w w' := by rw [hw']; exact ((Below.refl _ w).alloc (Nat.le_refl _) _).alloc (by simp) _
    have hcw : w'.cell? ⟨w.heap.size, 0, none⟩ = some (.pointer (some ⟨wb, 0, none⟩)) := by rw [hw']; simp
    have hci : w'.cell? ⟨w.heap.size + 1, 0, none⟩ = some (.int .i64 ((0 : Nat) : Int)) := by rw [hw']; simp
    have hsz : w'.heap.size = w.heap.size + 2 := by rw [hw']; simp
    refine ⟨_, _, rfl, hb, fun W hW most hm => ?_⟩
    have hwb : wb < w.heap.size := by obtain ⟨D, _, _, hWk⟩ := h.at'; exact hWk.lt
    have hbW : Below w.heap.size w W := hb.trans (hW.mono hb.size)
    have := toldF_any W _ _ _ _ _ most hm (from_seq w wb l h w.heap.size (w.heap.size + 1) 0 (by omega)) (fun W' A hW' hA => ⟨hbW.trans (hW'.mono hbW.size), fun j hj => Nat.le_trans hbW.size (hA j hj), (hW'.cell (p := ⟨w.heap.size, 0, none⟩) (by show w.heap.size < _; have := hW.size; omega)).trans ((hW.cell (p := ⟨w.heap.size, 0, none⟩) (by show w.heap.size < _; omega)).trans hcw), (hW'.cell (p := ⟨w.heap.size + 1, 0, none⟩) (by show w.heap.size + 1 < _; have := hW.size; omega)).trans ((hW.cell (p := ⟨w.heap.size + 1, 0, none⟩) (by show w.heap.size + 1 < _; omega)).trans hci), fun ha => by have h1 := hA _ ha; have h2 := hW.size; omega⟩) (fun W' hW' => ⟨(hW'.cell (p := ⟨w.heap.size, 0, none⟩) (by show w.heap.size < _; have := hW.size; omega)).trans ((hW.cell (p := ⟨w.heap.size, 0, none⟩) (by show w.heap.size < _; omega)).trans hcw), by
        obtain ⟨D, _, _, hWk⟩ := h.at'
        obtain ⟨_, _, _, _, q0, _⟩ := hWk.facts
        exact ((hbW.trans (hW'.mono hbW.size)).cell (p := ⟨wb, 0, none⟩) hwb).trans q0⟩)
    rw [List.drop_zero] at this
    exact this
  clear h
  go_enter Tryd.func15, Tryd.ntmps15
  go_wp2_with (go_at_call 30; refine HFR.out.mono ?_; rintro e w1 ⟨c0, c1, rfl, hb1, hts⟩; have HTS : Hid _ := hts; clear hts)
  go_ret
  exact ⟨c0, c1, rfl, hb1, HTS.out⟩
theorem PRow.take {w : World} {ad : Option Addr} {n cap k : Nat} {l : List Pr} (h : PRow w (.slice ad n cap) l) (hk : k ≤ n) : PRow w (.slice ad k cap) (l.take k) := by
  obtain ⟨ad', cap', e, hc⟩ := h
  simp only [Value.slice.injEq] at e
  obtain ⟨rfl, h2, rfl⟩ := e
  refine ⟨ad, cap, by rw [List.length_take]; congr 1; omega, fun h0 => ?_⟩
  rw [List.length_take] at h0
  obtain ⟨g, off, rfl, hg, hx⟩ := hc (by omega)
  refine ⟨g, off, rfl, hg, fun i x hi => hx i x ?_⟩
  have hlt := (List.getElem?_eq_some_iff.1 hi).1
  rw [List.length_take] at hlt
  rwa [List.getElem?_take_of_lt (by omega)] at hi
theorem wrap_n1 {n : Nat} (h : n ≤ 300) : IntKind.i64.wrap ((n : Int) + 1) = (n : Int) + 1 := by
  first | exact wrap_small _ (by omega) (by omega) | (rw [IntKind.wrap_i64]; exact IntWalk.wrap64_in _ (by omega)) | (rw [IntKind.wrap_i64]; unfold wrap64; omega)
def STr (_ : World) : Prop := True
theorem STr.facts {W : World} (_ : STr W) : True := trivial
set_option maxHeartbeats 4000000 in
theorem all_walk (v : Value) (c : Int) (w : World) (ht : Tabs w) (l : List Pr) (h : PRow w v l) (hs : Sm l) (hl : l.length ≤ 9223372036854775807) (hcap : ∀ ad n cap, v = .slice ad n cap → n ≤ cap) (hc : -9223372036854775808 ≤ c ∧ c ≤ 9223372036854775807) :
    Calls Tryd.prog 3 #[v, .int .i64 c] w fun e w' => e = .returned (.bool true) ∧ Below w.heap.size w w' := by
  have HAL : Hid (∀ W, Below w.heap.size w W → Calls Tryd.prog 11 #[] W fun e w' => e = .returned (.bool true) ∧ Below W.heap.size W w') := fun W hW => alive_any W (ht.below hW)
  cases hb : onB l with
  | false =>
    have HON : Hid (Calls Tryd.prog 10 #[v] w fun e w' => e = .returned (.tuple #[.pointer none, .bool false]) ∧ Below w.heap.size w w') := on_no w v l h hl hs hb
    obtain ⟨ad, cap, rfl⟩ := h.form
    clear h ht hs hb hcap
    go_enter Tryd.func3, Tryd.ntmps3
    go_wp2_with (first
      | (go_at_call 10; refine HON.out.mono ?_; rintro e w1 ⟨rfl, hb1⟩; have HB1 : Hid (Below w.heap.size w w1) := hb1; clear hb1)
      | (go_at_call 11; refine (HAL.out _ HB1.out).mono ?_; rintro e w2 ⟨rfl, hb2⟩))
    go_ret
    exact ⟨rfl, HB1.out.trans (hb2.mono HB1.out.size)⟩
  | true =>
    have HON : Hid (Calls Tryd.prog 10 #[v] w fun e w' => ∃ wb, e = .returned (.tuple #[.pointer (some ⟨wb, 0, none⟩), .bool true]) ∧ w.heap.size ≤ wb ∧ WkOn w' wb l ∧ Below w.heap.size w w') := on_yes w ht v l h hl hs hb
    have hr300 : l.length ≤ 300 := by
      unfold onB at hb
      simp only [Bool.and_eq_true, decide_eq_true_eq] at hb
      exact hb.1
    obtain ⟨ad, cap, rfl⟩ := h.form
    have hcp : l.length ≤ cap := hcap _ _ _ rfl
    obtain ⟨n, hn⟩ : ∃ n, l.length = n := ⟨_, rfl⟩
    have HN : Hid (l.length = n) := hn
    have HR : Hid (PRow w (.slice ad n cap) l) := by have := h; rw [hn] at this; exact this
    have HLN : Hid (∀ W wb, WkOn W wb l → Calls Tryd.prog 12 #[.pointer (some ⟨wb, 0, none⟩)] W fun e w' => e = .returned (.int .i64 (n : Int)) ∧ Below W.heap.size W w') := fun W wb hW => by rw [← hn]; exact LenW_any W wb l hW
    have HAA : Hid (∀ W wb, WkOn W wb l → Calls Tryd.prog 15 #[.pointer (some ⟨wb, 0, none⟩)] W fun e w' => ∃ c0 c1, e = .returned (.func (.func 46) #[] #[.pointer (some ⟨c0, 0, none⟩), .pointer (some ⟨c1, 0, none⟩)]) ∧ Below W.heap.size W w' ∧ ToldSays (.func (.func 46) #[] #[.pointer (some ⟨c0, 0, none⟩), .pointer (some ⟨c1, 0, none⟩)]) w' l) := fun W wb hW => All_any W wb l hW
    have HTW : Hid (l.take ((n : Int) + 1).toNat = l) := by show _ = _; exact List.take_of_length_le (by omega)
    have HSM : Hid (∀ W u v (a b : List Pr), PRow W u a → PRow W v b → a = b → b.length ≤ 300 → Calls Tryd.prog 13 #[u, v] W fun e w' => e = .returned (.bool true) ∧ Below W.heap.size W w') := fun W u v a b h1 h2 e hb3 => by
      refine (same_any W u v a b h1 h2 (by rw [e]; omega) (by omega)).mono ?_
      rintro e2 w' ⟨rfl, q, rfl⟩
      exact ⟨by rw [decide_eq_true e], belowN (Below.refl _ _) q⟩
    rw [hn] at HON hr300 hcp ⊢
    clear h ht hs hb hl hn hcap
    go_enter Tryd.func3, Tryd.ntmps3
    go_upto_region 6 with (first
      | (go_at_call 10; refine HON.out.mono ?_; rintro e w1 ⟨wb, rfl, hlo, hon, hb1⟩; have HB1 : Hid (Below w.heap.size w w1) := hb1; have HW : Hid (WkOn w1 wb l) := hon; clear hb1 hon hlo)
      | (go_at_call 11; refine (HAL.out _ HB1.out).mono ?_; rintro e w2 ⟨rfl, hb2⟩; have HB2 : Hid (Below w1.heap.size w1 w2) := hb2; clear hb2)
      | (go_at_call 12; refine (HLN.out _ _ (HW.out.below HB2.out)).mono ?_; rintro e w3 ⟨rfl, hb3⟩; have HB3 : Hid (Below w1.heap.size w1 w3) := HB2.out.trans (hb3.mono HB2.out.size); clear hb3)
      | (go_at_call 15; refine (HAA.out _ _ (HW.out.below HB3.out)).mono ?_; rintro e w4 ⟨c0, c1, rfl, hb4, hts⟩; have HB4 : Hid (Below w1.heap.size w1 w4) := HB3.out.trans (hb4.mono HB3.out.size); have HTS : Hid _ := hts; clear hb4 hts)
      | (go_at_call 14; refine (HTS.out _ (Below.refl _ _) _ (by omega)).mono ?_; rintro e w5 ⟨ad5, n5, cap5, rfl, hr5, hb5⟩; rw [HTW.out] at hr5; have HR5 : Hid (PRow w5 (.slice ad5 n5 cap5) l) := hr5; have HB5 : Hid (Below w1.heap.size w1 w5) := HB4.out.trans (hb5.mono HB4.out.size); clear hr5 hb5)
      | (go_at_call 13; refine (HSM.out _ _ _ l l HR5.out (HR.out.below (HB1.out.trans (HB5.out.mono HB1.out.size))) rfl (by rw [HN.out]; exact hr300)).mono ?_; rintro e w6 ⟨rfl, hb6⟩; have HB6 : Hid (Below w1.heap.size w1 w6) := HB5.out.trans (hb6.mono HB5.out.size); clear hb6))
    have HW6 : Hid (Below w.heap.size w w6) := HB1.out.trans (HB6.out.mono HB1.out.size)
    by_cases hin : 0 ≤ c ∧ c ≤ (n : Int)
    · obtain ⟨k, rfl⟩ : ∃ k : Nat, c = k := ⟨c.toNat, by omega⟩
      have hk0 : ¬ (k : Int) < 0 := by omega
      have hkn : ¬ (n : Int) < (k : Int) := by omega
      have hkn2 : k ≤ n := by omega
      have hkc : (k : Int) ≤ (cap : Int) := by omega
      clear hin
      go_upto_region 8 with fail
      have hS6 : STr w6.drew := trivial
      have HD : Hid (Below w1.heap.size w1 w6.drew) := HB6.out.drew
      refine region_at (S := STr) 19 rfl mixedP hS6 (fun _ => ?_)
      refine take_at (i := 0) 51 rfl rfl (by kernel_rfl) (by kernel_rfl) (by kernel_rfl) (fun _ _ _ h => h) (by rfl) (fun w hSw => by (have hSw2 := STr.facts hSw; clear hSw; go_simp; first | done | exact rfl)) (by assumption) ?_
      simp only [List.setIfInBounds_toArray, List.set_cons_zero, List.set_cons_succ]
      refine take_at (i := 2) 53 rfl rfl (by kernel_rfl) (by kernel_rfl) (by kernel_rfl) (fun _ _ _ h => h) (by rfl) (fun w hSw => by (have hSw2 := STr.facts hSw; clear hSw; go_simp; first | done | exact rfl)) (by assumption) ?_
      simp only [List.setIfInBounds_toArray, List.set_cons_zero, List.set_cons_succ]
      refine take_at (i := 4) 55 rfl rfl (by kernel_rfl) (by kernel_rfl) (by kernel_rfl) (fun _ _ _ h => h) (by rfl) (fun w hSw => by (have hSw2 := STr.facts hSw; clear hSw; go_simp; first | done | exact rfl)) (by assumption) ?_
      simp only [List.setIfInBounds_toArray, List.set_cons_zero, List.set_cons_succ]
      refine take_at (i := 5) 56 rfl rfl (by kernel_rfl) (by kernel_rfl) (by kernel_rfl) (fun _ _ _ h => h) (by rfl) (fun w hSw => by (have hSw2 := STr.facts hSw; clear hSw; go_simp; first | done | exact rfl)) (by assumption) ?_
      simp only [List.setIfInBounds_toArray, List.set_cons_zero, List.set_cons_succ]
      refine take_at (i := 6) (v := .slice ad k cap) 57 rfl rfl (by kernel_rfl) (by kernel_rfl) (by kernel_rfl) (fun _ _ _ h => h) (by rfl) (fun w hSw => by (have hSw2 := STr.facts hSw; clear hSw; go_simp; first | done | exact rfl | simp_all | (simp; omega))) (by assumption) ?_
      simp only [List.setIfInBounds_toArray, List.set_cons_zero, List.set_cons_succ]
      refine one_call (i := 1) (w0 := w6.drew) 52 15 #[.pointer (some ⟨wb, 0, none⟩)] (by kernel_rfl) rfl rfl (by rfl) (by kernel_rfl) ?_
      refine (HAA.out _ _ (HW.out.below HD.out)).mono ?_
      rintro e w7 ⟨d0, d1, rfl, hb7, hts7⟩
      have HB7 : Hid (Below w1.heap.size w1 w7) := HD.out.trans (hb7.mono HD.out.size)
      have hS7 : STr w7 := trivial
      refine ⟨_, rfl, hS7, fun _ => ?_⟩
      simp only [List.setIfInBounds_toArray, List.set_cons_zero, List.set_cons_succ]
      refine one_call (i := 3) (w0 := w7) 54 14 #[.func (.func 46) #[] #[.pointer (some ⟨d0, 0, none⟩), .pointer (some ⟨d1, 0, none⟩)], .int .i64 (k : Int)] (by kernel_rfl) rfl rfl (by rfl) (by kernel_rfl) ?_
      refine (hts7 _ (Below.refl _ _) (k : Int) (by omega)).mono ?_
      rintro e w8 ⟨ad8, n8, cap8, rfl, hr8, hb8⟩
      have HB8 : Hid (Below w1.heap.size w1 w8) := HB7.out.trans (hb8.mono HB7.out.size)
      have hS8 : STr w8 := trivial
      rw [Int.toNat_natCast] at hr8
      refine ⟨_, rfl, hS8, fun _ => ?_⟩
      simp only [List.setIfInBounds_toArray, List.set_cons_zero, List.set_cons_succ]
      refine one_call (i := 7) (w0 := w8) 58 13 #[.slice ad8 n8 cap8, .slice ad k cap] (by kernel_rfl) rfl rfl (by rfl) (by kernel_rfl) ?_
      refine (HSM.out _ _ _ (l.take k) (l.take k) hr8 ((HR.out.below (HB1.out.trans (HB8.out.mono HB1.out.size))).take hkn2) rfl (by rw [List.length_take]; omega)).mono ?_
      rintro e w9 ⟨rfl, hb9⟩
      have HB9 : Hid (Below w1.heap.size w1 w9) := HB8.out.trans (hb9.mono HB8.out.size)
      have hS9 : STr w9 := trivial
      clear hr8 hb8 hb9 hts7 hb7
      refine ⟨_, rfl, hS9, fun _ => ?_⟩
      simp only [List.setIfInBounds_toArray, List.set_cons_zero, List.set_cons_succ]
      refine take_at (i := 8) 59 rfl rfl (by kernel_rfl) (by kernel_rfl) (by kernel_rfl) (fun _ _ _ h => h) (by rfl) (fun w hSw => by (have hSw2 := STr.facts hSw; clear hSw; go_simp; first | done | exact rfl)) (by assumption) ?_
      simp only [List.setIfInBounds_toArray, List.set_cons_zero, List.set_cons_succ]
      refine take_at (i := 9) 60 rfl rfl (by kernel_rfl) (by kernel_rfl) (by kernel_rfl) (fun _ _ _ h => h) (by rfl) (fun w hSw => by (have hSw2 := STr.facts hSw; clear hSw; go_simp; first | done | exact rfl)) (by assumption) ?_
      simp only [List.setIfInBounds_toArray, List.set_cons_zero, List.set_cons_succ]
      refine take_at (i := 11) 62 rfl rfl (by kernel_rfl) (by kernel_rfl) (by kernel_rfl) (fun _ _ _ h => h) (by rfl) (fun w hSw => by (have hSw2 := STr.facts hSw; clear hSw; go_simp; first | done | exact rfl)) (by assumption) ?_
      simp only [List.setIfInBounds_toArray, List.set_cons_zero, List.set_cons_succ]
      refine take_at (i := 12) 63 rfl rfl (by kernel_rfl) (by kernel_rfl) (by kernel_rfl) (fun _ _ _ h => h) (by rfl) (fun w hSw => by (have hSw2 := STr.facts hSw; clear hSw; go_simp; first | done | exact rfl)) (by assumption) ?_
      simp only [List.setIfInBounds_toArray, List.set_cons_zero, List.set_cons_succ]
      refine take_at (i := 13) (v := .int .i64 ((n : Int) + 1)) 64 rfl rfl (by kernel_rfl) (by kernel_rfl) (by kernel_rfl) (fun _ _ _ h => h) (by rfl) (fun w hSw => by (clear hSw; go_simp; first | done | exact wrap_n1 hr300)) (by assumption) ?_
      simp only [List.setIfInBounds_toArray, List.set_cons_zero, List.set_cons_succ]
      refine take_at (i := 15) 66 rfl rfl (by kernel_rfl) (by kernel_rfl) (by kernel_rfl) (fun _ _ _ h => h) (by rfl) (fun w hSw => by (have hSw2 := STr.facts hSw; clear hSw; go_simp; first | done | exact rfl)) (by assumption) ?_
      simp only [List.setIfInBounds_toArray, List.set_cons_zero, List.set_cons_succ]
      refine one_call (i := 10) (w0 := w9) 61 15 #[.pointer (some ⟨wb, 0, none⟩)] (by kernel_rfl) rfl rfl (by rfl) (by kernel_rfl) ?_
      refine (HAA.out _ _ (HW.out.below HB9.out)).mono ?_
      rintro e wa ⟨e0, e1, rfl, hba, htsa⟩
      have HBa : Hid (Below w1.heap.size w1 wa) := HB9.out.trans (hba.mono HB9.out.size)
      have hSa : STr wa := trivial
      refine ⟨_, rfl, hSa, fun _ => ?_⟩
      simp only [List.setIfInBounds_toArray, List.set_cons_zero, List.set_cons_succ]
      refine one_call (i := 14) (w0 := wa) 65 14 #[.func (.func 46) #[] #[.pointer (some ⟨e0, 0, none⟩), .pointer (some ⟨e1, 0, none⟩)], .int .i64 ((n : Int) + 1)] (by kernel_rfl) rfl rfl (by rfl) (by kernel_rfl) ?_
      refine (htsa _ (Below.refl _ _) ((n : Int) + 1) (by omega)).mono ?_
      rintro e wb2 ⟨adb, nb, capb, rfl, hrb, hbb⟩
      rw [HTW.out] at hrb
      have HBb : Hid (Below w1.heap.size w1 wb2) := HBa.out.trans (hbb.mono HBa.out.size)
      have hSb : STr wb2 := trivial
      refine ⟨_, rfl, hSb, fun _ => ?_⟩
      simp only [List.setIfInBounds_toArray, List.set_cons_zero, List.set_cons_succ]
      refine one_call (i := 16) (w0 := wb2) 67 13 #[.slice adb nb capb, .slice ad n cap] (by kernel_rfl) rfl rfl (by rfl) (by kernel_rfl) ?_
      refine (HSM.out _ _ _ l l hrb (HR.out.below (HB1.out.trans (HBb.out.mono HB1.out.size))) rfl (by rw [HN.out]; exact hr300)).mono ?_
      rintro e wc ⟨rfl, hbc⟩
      have HBc : Hid (Below w1.heap.size w1 wc) := HBb.out.trans (hbc.mono HBb.out.size)
      have hSc : STr wc := trivial
      clear hrb hbb hbc htsa hba
      refine ⟨_, rfl, hSc, fun _ => ?_⟩
      simp only [List.setIfInBounds_toArray, List.set_cons_zero, List.set_cons_succ]
      refine take_at (i := 17) 68 rfl rfl (by kernel_rfl) (by kernel_rfl) (by kernel_rfl) (fun _ _ _ h => h) (by rfl) (fun w hSw => by (have hSw2 := STr.facts hSw; clear hSw; go_simp; first | done | exact rfl)) (by assumption) ?_
      simp only [List.setIfInBounds_toArray, List.set_cons_zero, List.set_cons_succ]
      refine take_at (i := 18) 4 rfl rfl (by kernel_rfl) (by kernel_rfl) (by kernel_rfl) (fun _ _ _ h => h) (by rfl) (fun w hSw => by (have hSw2 := STr.facts hSw; clear hSw; go_simp; first | done | exact rfl)) (by assumption) ?_
      simp only [List.setIfInBounds_toArray, List.set_cons_zero, List.set_cons_succ]
      refine wpAnyH_done (by kernel_rfl) ?_ _
      clear hSc hSb hSa hS9 hS8 hS7 hS6
      go_wp2
      go_ret
      exact ⟨by first | rfl | simp, HB1.out.trans (HBc.out.mono HB1.out.size)⟩
    · by_cases h0 : c < 0
      · clear hin
        go_wp2
        go_ret
        exact ⟨rfl, HW6.out⟩
      · have h1 : (n : Int) < c := by omega
        clear hin
        go_wp2
        go_ret
        exact ⟨rfl, HW6.out⟩
end Go.Proofs.YthjlihhknaelaaaDoor
