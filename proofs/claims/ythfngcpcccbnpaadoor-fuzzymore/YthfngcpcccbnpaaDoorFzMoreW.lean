/- FuzzyMore: the law's own walk. -/
import Derived.Test.YthfngcpcccbnpaaDoorFzLawA
namespace Go.Proofs.YthfngcpcccbnpaaDoor
open Go.RowKit Go.Shelf Go.Lib Nums Fm Pk Pm Fz Ed Lv
set_option maxRecDepth 100000

def nearP (d : Nat) (m : Mt) : Bool := decide (m.2.2 ≤ (d : Int))
theorem near_more (xs : List Int) (d : Nat) : ∀ l : List Pr, (nearOf xs (d + 1) l).filter (nearP d) = nearOf xs d l
  | [] => rfl
  | x :: r => by
    have ih := near_more xs d r
    unfold nearOf at ih ⊢
    rw [List.filterMap_cons, List.filterMap_cons]
    by_cases h1 : lv (entOf x).1 xs ≤ d
    · rw [if_pos (by omega : lv (entOf x).1 xs ≤ d + 1), if_pos h1]
      simp only
      rw [List.filter_cons, if_pos (by unfold nearP; exact decide_eq_true (by simp only; omega)), ih]
    · rw [if_neg h1]
      by_cases h2 : lv (entOf x).1 xs ≤ d + 1
      · rw [if_pos h2]
        simp only
        rw [List.filter_cons, if_neg (by unfold nearP; simp only [decide_eq_true_eq]; omega), ih]
      · rw [if_neg h2]
        exact ih
def cntP (p : Mt → Bool) (L : List Mt) (k : Nat) : Nat := ((L.take k).filter p).length
theorem cnt_yes {p : Mt → Bool} {L : List Mt} {k : Nat} {x : Mt} (h : L[k]? = some x) (hp : p x = true) : cntP p L (k + 1) = cntP p L k + 1 ∧ (L.filter p)[cntP p L k]? = some x := by
  have e : L.take (k + 1) = L.take k ++ [x] := by rw [List.take_add_one, h]; rfl
  constructor
  · unfold cntP
    rw [e, List.filter_append, List.length_append, List.filter_cons, if_pos hp]
    rfl
  · unfold cntP
    have e2 : L = L.take k ++ x :: L.drop (k + 1) := by
      have hk := (List.getElem?_eq_some_iff.1 h).1
      have hx := (List.getElem?_eq_some_iff.1 h).2
      rw [← hx, ← List.drop_eq_getElem_cons hk, List.take_append_drop]
    conv => lhs; lhs; rw [e2]
    rw [List.filter_append, List.filter_cons, if_pos hp, List.getElem?_append_right (Nat.le_refl _), Nat.sub_self]
    rfl
theorem cnt_no {p : Mt → Bool} {L : List Mt} {k : Nat} {x : Mt} (h : L[k]? = some x) (hp : p x = false) : cntP p L (k + 1) = cntP p L k := by
  have e : L.take (k + 1) = L.take k ++ [x] := by rw [List.take_add_one, h]; rfl
  unfold cntP
  rw [e, List.filter_append, List.length_append, List.filter_cons, if_neg (by rw [hp]; simp)]
  rfl
theorem cnt_all {p : Mt → Bool} {L : List Mt} : cntP p L L.length = (L.filter p).length := by unfold cntP; rw [List.take_length]
set_option maxHeartbeats 4000000 in
theorem fmore_walk {p : Prop} (v : Value) (s : ByteArray) (e : Int) (w : World) (ht : Tabs w) (l : List Pr) (h : PRow w v l) (hs : Sm l) (hl : l.length ≤ 9223372036854775807) (hz : s.size ≤ maxLen) (_ : p) :
    Calls Tryd.prog 4 #[v, .string s, .int .i64 e] w fun e w' => e = .returned (.bool true) ∧ Below w.heap.size w w' := by
  have hz : s.size ≤ 9223372036854775807 := by unfold maxLen at hz; omega
  have HAL : Hid (∀ W, Below w.heap.size w W → Calls Tryd.prog 9 #[] W fun e w' => e = .returned (.bool true) ∧ Below W.heap.size W w') := fun W hW => alive12_any W (ht.below hW)
  cases hb : onB l with
  | false =>
    have HON : Hid (Calls Tryd.prog 8 #[v] w fun e w' => e = .returned (.tuple #[.pointer none, .bool false]) ∧ Below w.heap.size w w') := on12_no w v l h hl hs hb
    obtain ⟨ad, cap, rfl⟩ := h.form
    clear h ht hs hb
    go_enter Tryd.func4, Tryd.ntmps4
    go_wp2_with (first
      | (go_at_call 8; refine HON.out.mono ?_; rintro e w1 ⟨rfl, hb1⟩; have HB1 : Hid (Below w.heap.size w w1) := hb1; clear hb1)
      | (go_at_call 9; refine (HAL.out _ HB1.out).mono ?_; rintro e w2 ⟨rfl, hb2⟩))
    go_ret
    exact ⟨rfl, HB1.out.trans (hb2.mono HB1.out.size)⟩
  | true =>
    have hC := on_ok hb
    have hfew := (built_all hC).2.2
    have HON : Hid (Calls Tryd.prog 8 #[v] w fun e w' => ∃ wb, e = .returned (.tuple #[.pointer (some ⟨wb, 0, none⟩), .bool true]) ∧ w.heap.size ≤ wb ∧ WkOn w' wb l ∧ Below w.heap.size w w') := on12_yes w ht v l h hl hs hb
    have HALL : Hid (∀ W wb, WkOn W wb l → Calls Tryd.prog 10 #[.pointer (some ⟨wb, 0, none⟩), .string s, .int .i64 e] W fun x w' => ∃ ad cap, x = .returned (.tuple #[.slice ad (allL l s.data.toList e).length cap, .int .i64 (allC s.data.toList e)]) ∧ MRow w' (.slice ad (allL l s.data.toList e).length cap) (allL l s.data.toList e) ∧ Below W.heap.size W w') := fun W wb hW => All_told W wb l hW s e hz
    obtain ⟨ad, cap, rfl⟩ := h.form
    cases hr : Go.Proofs.YthfngcpcccbnpaaDoor.rightB s.data.toList e with
    | false =>
      have hc : allC s.data.toList e = 110 := by rw [allC, hr]; rfl
      rw [hc] at HALL
      clear h ht hs hb hC hr hc
      generalize allL l s.data.toList e = L at HALL
      go_enter Tryd.func4, Tryd.ntmps4
      go_wp2_with (first
        | (go_at_call 8; refine HON.out.mono ?_; rintro e w1 ⟨wb, rfl, hlo, hon, hb1⟩; have HB1 : Hid (Below w.heap.size w w1) := hb1; have HW : Hid (WkOn w1 wb l) := hon; clear hb1 hon hlo)
        | (go_at_call 10; refine (HALL.out _ _ HW.out).mono ?_; rintro x w2 ⟨a2, c2, rfl, hm2, hb2⟩; have HB2 : Hid (Below w.heap.size w w2) := HB1.out.trans (hb2.mono HB1.out.size); clear hb2 hm2)
        | (go_at_call 9; refine (HAL.out _ HB2.out).mono ?_; rintro e w4 ⟨rfl, hb4⟩; have HB4 : Hid (Below w.heap.size w w4) := HB2.out.trans (hb4.mono HB2.out.size); clear hb4))
      go_ret
      exact ⟨by first | rfl | simp, HB4.out⟩
    | true =>
      have hc : allC s.data.toList e = 0 := by rw [allC, hr]; rfl
      rw [hc] at HALL
      by_cases h3 : 3 ≤ e
      · clear h ht hs hb hC hr hc
        generalize allL l s.data.toList e = L at HALL
        go_enter Tryd.func4, Tryd.ntmps4
        go_wp2_with (first
          | (go_at_call 8; refine HON.out.mono ?_; rintro e w1 ⟨wb, rfl, hlo, hon, hb1⟩; have HB1 : Hid (Below w.heap.size w w1) := hb1; have HW : Hid (WkOn w1 wb l) := hon; clear hb1 hon hlo)
          | (go_at_call 10; refine (HALL.out _ _ HW.out).mono ?_; rintro x w2 ⟨a2, c2, rfl, hm2, hb2⟩; have HB2 : Hid (Below w.heap.size w w2) := HB1.out.trans (hb2.mono HB1.out.size); clear hb2 hm2)
          | (go_at_call 9; refine (HAL.out _ HB2.out).mono ?_; rintro e w4 ⟨rfl, hb4⟩; have HB4 : Hid (Below w.heap.size w w4) := HB2.out.trans (hb4.mono HB2.out.size); clear hb4))
        go_ret
        exact ⟨by first | rfl | simp, HB4.out⟩
      · have hh := hr
        simp only [Go.Proofs.YthfngcpcccbnpaaDoor.rightB, Bool.and_eq_true, decide_eq_true_eq] at hh
        obtain ⟨⟨hwd, h0⟩, _⟩ := hh
        obtain ⟨d, rfl⟩ : ∃ d : Nat, e = (d : Int) := ⟨e.toNat, by omega⟩
        have hr1 : Go.Proofs.YthfngcpcccbnpaaDoor.rightB s.data.toList ((d : Int) + 1) = true := by
          simp only [Go.Proofs.YthfngcpcccbnpaaDoor.rightB, hwd, Bool.true_and, Bool.and_eq_true, decide_eq_true_eq]
          omega
        have hc1 : allC s.data.toList ((d : Int) + 1) = 0 := by rw [allC, hr1]; rfl
        have HAL2 : Hid (∀ W wb, WkOn W wb l → Calls Tryd.prog 10 #[.pointer (some ⟨wb, 0, none⟩), .string s, .int .i64 ((d : Int) + 1)] W fun x w' => ∃ ad cap, x = .returned (.tuple #[.slice ad (allL l s.data.toList ((d : Int) + 1)).length cap, .int .i64 (allC s.data.toList ((d : Int) + 1))]) ∧ MRow w' (.slice ad (allL l s.data.toList ((d : Int) + 1)).length cap) (allL l s.data.toList ((d : Int) + 1)) ∧ Below W.heap.size W w') := fun W wb hW => All_told W wb l hW s _ hz
        rw [hc1] at HAL2
        have hfil : (allL l s.data.toList ((d : Int) + 1)).filter (nearP d) = allL l s.data.toList (d : Int) := by
          rw [allL, allL, if_pos hr1, if_pos hr]
          exact near_more _ d l
        have hlb := allL_len l s.data.toList ((d : Int) + 1)
        generalize allL l s.data.toList ((d : Int) + 1) = L2 at HAL2 hfil hlb
        generalize allL l s.data.toList (d : Int) = L1 at HALL hfil
        obtain ⟨na, hna⟩ : ∃ na, L1.length = na := ⟨_, rfl⟩
        obtain ⟨nb, hnb⟩ : ∃ nb, L2.length = nb := ⟨_, rfl⟩
        rw [hna] at HALL
        rw [hnb] at HAL2
        have HFIL : Hid (L2.filter (nearP d) = L1 ∧ L1.length = na ∧ L2.length = nb) := ⟨hfil, hna, hnb⟩
        have hwd1 : IntKind.i64.wrap ((d : Int) + 1) = (d : Int) + 1 := by rw [IntKind.wrap_i64]; omega
        have hnbs : nb ≤ 4096 := by omega
        have hnas : na ≤ nb := by rw [← hna, ← hnb, ← hfil]; exact List.length_filter_le _ _
        clear h ht hs hb hC hr hc hr1 hc1 hfil hlb hna hnb hwd hfew
        go_enter Tryd.func4, Tryd.ntmps4
        go_upto_region 7 with (first
          | (go_at_call 8; refine HON.out.mono ?_; rintro e w1 ⟨wb, rfl, hlo, hon, hb1⟩; have HB1 : Hid (Below w.heap.size w w1) := hb1; have HW : Hid (WkOn w1 wb l) := hon; clear hb1 hon hlo)
          | (go_at_call 10; refine (HALL.out _ _ HW.out).mono ?_; rintro x w2 ⟨a2, c2, rfl, hm2, hb2⟩; have HB2 : Hid (Below w.heap.size w w2) := HB1.out.trans (hb2.mono HB1.out.size); have HW2 : Hid (WkOn w2 wb l) := HW.out.below hb2; have HM2 : Hid (MRow w2 (.slice a2 na c2) L1) := hm2; clear hb2 hm2))
        go_wp2_with (go_at_call 10; refine (HAL2.out _ _ HW2.out).mono ?_; rintro x w3 ⟨a3, c3, rfl, hm3, hb3⟩; have HB3 : Hid (Below w.heap.size w w3) := HB2.out.trans (hb3.mono HB2.out.size); have HM3 : Hid (MRow w3 (.slice a3 nb c3) L2) := hm3; have HM23 : Hid (MRow w3 (.slice a2 na c2) L1) := HM2.out.below hb3; clear hb3 hm3)
        go_loopg [13, 15, 48] nb (fun gm s13 _ s48 wr => ∃ (k q : Nat), s13 = .int .i64 q ∧ s48 = .int .i64 k ∧ k ≤ nb ∧ nb - k ≤ gm ∧ q ≤ k ∧ Hid (q = cntP (nearP d) L2 k) ∧ Hid (Below w3.heap.size w3 wr))
        case atStart => exact ⟨0, 0, rfl, rfl, Nat.zero_le _, by omega, Nat.le_refl _, rfl, Below.refl _ _⟩
        case round =>
          obtain ⟨k, q, rfl, rfl, hk, hg, hqk, HQ, HBR⟩ := hrel
          by_cases hlt : k < nb
          · have hltz : (k : Int) < (nb : Int) := by omega
            obtain ⟨x, hx⟩ : ∃ x, L2[k]? = some x := ⟨L2[k]'(by have := HFIL.out; omega), List.getElem?_eq_getElem _⟩
            obtain ⟨g3, o3, had3, hg3, hc3⟩ := HM3.out.at (by have := HFIL.out; omega)
            subst had3
            obtain ⟨x1, x2, x3⟩ := x
            obtain ⟨e0, e1, e2⟩ := hc3 k _ hx
            have f0 : wr.cell? ⟨g3, o3 + k * 3, none⟩ = some (.string x1) := (HBR.out.cell (p := ⟨g3, o3 + k * 3, none⟩) hg3).trans e0
            have f1 : wr.cell? ⟨g3, o3 + k * 3 + 1, none⟩ = some (.int .i64 x2) := (HBR.out.cell (p := ⟨g3, o3 + k * 3 + 1, none⟩) hg3).trans e1
            have f2 : wr.cell? ⟨g3, o3 + k * 3 + 2, none⟩ = some (.int .i64 x3) := (HBR.out.cell (p := ⟨g3, o3 + k * 3 + 2, none⟩) hg3).trans e2
            have hwk : IntKind.i64.wrap ((k : Int) + 1) = (k : Int) + 1 := by rw [IntKind.wrap_i64]; omega
            by_cases hd : x3 ≤ (d : Int)
            · obtain ⟨n1, n2⟩ := cnt_yes hx (p := nearP d) (decide_eq_true hd)
              rw [HFIL.out.1, ← HQ.out] at n2
              have hqa : q < na := by rw [← HFIL.out.2.1]; exact (List.getElem?_eq_some_iff.1 n2).1
              obtain ⟨g2, o2, had2, hg2, hc2⟩ := HM23.out.at (by have := HFIL.out; omega)
              subst had2
              obtain ⟨b0, b1, b2⟩ := hc2 q _ n2
              have HNX : Hid (q + 1 = cntP (nearP d) L2 (k + 1)) := by rw [n1, ← HQ.out]; rfl
              have HCA : Hid (∀ W, Below w3.heap.size w3 W → W.cell? ⟨g2, o2 + q * 3, none⟩ = some (.string x1) ∧ W.cell? ⟨g2, o2 + q * 3 + 1, none⟩ = some (.int .i64 x2) ∧ W.cell? ⟨g2, o2 + q * 3 + 2, none⟩ = some (.int .i64 x3)) := fun W hW => ⟨(hW.cell (p := ⟨g2, o2 + q * 3, none⟩) hg2).trans b0, (hW.cell (p := ⟨g2, o2 + q * 3 + 1, none⟩) hg2).trans b1, (hW.cell (p := ⟨g2, o2 + q * 3 + 2, none⟩) hg2).trans b2⟩
              have hqz : (q : Int) < (na : Int) := by omega
              have hnle : ¬ na ≤ q := by omega
              have hnlez : ¬ (na : Int) ≤ (q : Int) := by omega
              have hge : decide ((na : Int) ≤ (q : Int)) = false := decide_eq_false hnlez
              have s1 : (x1.toList == x1.toList) = true := by simp
              have s2 : (x2 == x2) = true := by simp
              have s3 : (x3 == x3) = true := by simp
              have hwq : IntKind.i64.wrap ((q : Int) + 1) = (q : Int) + 1 := by rw [IntKind.wrap_i64]; omega
              clear hx hc3 hc2 e0 e1 e2 b0 b1 b2 n1 n2
              go_upto_region 13 with fail
              obtain ⟨V, hV⟩ : ∃ V, wr.alloc (.cells #[.string x1, .int .i64 x2, .int .i64 x3] 35) = V := ⟨_, rfl⟩
              obtain ⟨mb, hmb⟩ : ∃ mb, wr.heap.size = mb := ⟨_, rfl⟩
              have hbV : Below w3.heap.size w3 V := by rw [← hV]; exact HBR.out.alloc HBR.out.size _
              have hm0 : V.cell? ⟨mb, 0, none⟩ = some (.string x1) := by rw [← hV, ← hmb]; simp
              have hm1 : V.cell? ⟨mb, 1, none⟩ = some (.int .i64 x2) := by rw [← hV, ← hmb]; simp
              have hm2 : V.cell? ⟨mb, 2, none⟩ = some (.int .i64 x3) := by rw [← hV, ← hmb]; simp
              rw [hV, hmb]
              clear hV hmb f0 f1 f2
              obtain ⟨a0, a1, a2'⟩ := HCA.out V hbV
              have HBV : Hid (Below w3.heap.size w3 V) := hbV
              clear hbV
              go_quiet (fail)
              go_wp2_with fail
              go_roundg (nb - (k + 1))
              case measure => omega
              case rel => exact ⟨k + 1, q + 1, by go_num, by go_num, by omega, Nat.le_refl _, by omega, HNX, below_drewN HBV.out _⟩
            · have HNX : Hid (q = cntP (nearP d) L2 (k + 1)) := by rw [cnt_no hx (decide_eq_false hd)]; exact HQ.out
              clear hx hc3 e0 e1 e2
              go_wp2
              go_roundg (nb - (k + 1))
              case measure => omega
              case rel => exact ⟨k + 1, q, by go_num, by go_num, by omega, Nat.le_refl _, by omega, HNX, HBR.out.alloc HBR.out.size _⟩
          · have hkn : k = nb := by omega
            have hnlt : ¬ (k : Int) < (nb : Int) := by omega
            have hqn : q = na := by
              have h1 := HQ.out
              rw [hkn, ← HFIL.out.2.2, cnt_all, HFIL.out.1, HFIL.out.2.1] at h1
              exact h1
            subst hqn
            have hqq : ((q : Int) == (q : Int)) = true := beq_self_eq_true _
            have HBW : Hid (Below w.heap.size w wr) := HB3.out.trans (HBR.out.mono HB3.out.size)
            clear hk hkn hqk
            go_wp2_with (go_at_call 9; refine (HAL.out _ HBW.out).mono ?_; rintro e w4 ⟨rfl, hb4⟩; have HB4 : Hid (Below w.heap.size w w4) := HBW.out.trans (hb4.mono HBW.out.size); clear hb4)
            go_ret
            exact ⟨by first | rfl | simp, HB4.out⟩
end Go.Proofs.YthfngcpcccbnpaaDoor
