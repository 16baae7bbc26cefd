/- AbecedaryFinds: the law's own walk. -/
import Derived.Test.YthfngcpcccbnpaaDoorFzLawA
import Derived.Test.YthfngcpcccbnpaaDoorE2
import Derived.Test.YthfngcpcccbnpaaDoorWkRk2
import Derived.Test.YthfngcpcccbnpaaDoorG0
namespace Go.Proofs.YthfngcpcccbnpaaDoor
open Go.RowKit Go.Shelf Go.Lib Nums Fm Pk Pm Fz Ed Lv
set_option maxRecDepth 100000

theorem mach_err {l : List Pr} (h : buildE l ≠ 0) : machOf l = (0, []) := by
  unfold machOf
  rw [if_neg (fun g => h g.1)]
/-- Is a match among them? -/
def anyM (M : Mt) (L : List Mt) : Bool := L.any fun m => decide (m = M)
theorem anyM_next (M : Mt) {L : List Mt} {k : Nat} {x : Mt} (h : L[k]? = some x) : anyM M (L.take (k + 1)) = (anyM M (L.take k) || decide (x = M)) := by
  unfold anyM
  rw [List.take_add_one, h, List.any_append]
  simp
theorem any_near {l : List Pr} {x : Pr} {ys : List Int} (hx : x ∈ l) : anyM (x.1, x.2, (lv (entOf x).1 ys : Int)) (nearOf ys (min (lv (entOf x).1 ys) 3) l) = decide (lv (entOf x).1 ys ≤ 3) := by
  by_cases h : lv (entOf x).1 ys ≤ 3
  · rw [decide_eq_true h]
    unfold anyM
    refine List.any_eq_true.2 ⟨(x.1, x.2, (lv (entOf x).1 ys : Int)), ?_, decide_eq_true rfl⟩
    unfold nearOf
    refine List.mem_filterMap.2 ⟨x, hx, ?_⟩
    rw [if_pos (by omega)]
  · rw [decide_eq_false h]
    unfold anyM
    refine List.any_eq_false.2 fun m hm => ?_
    unfold nearOf at hm
    obtain ⟨p, _, hp⟩ := List.mem_filterMap.1 hm
    split at hp
    · rename_i hle
      cases hp
      simp only [decide_eq_true_eq, Prod.mk.injEq, not_and]
      intro _ _ e
      omega
    · cases hp
attribute [local go_sem ↓] run_min2
set_option maxHeartbeats 8000000 in
theorem afinds_walk {p : Prop} (v : Value) (s : ByteArray) (i : Int) (w : World) (ht : Tabs w) (l : List Pr) (h : PRow w v l) (hs : Sm l) (hl : l.length ≤ 9223372036854775807) (hz : s.size ≤ maxLen) (_ : p) :
    Calls Tryd.prog 7 #[v, .string s, .int .i64 i] w fun e w' => e = .returned (.bool true) ∧ Below w.heap.size w w' := by
  have hz : s.size ≤ 9223372036854775807 := by unfold maxLen at hz; omega
  have HBU : Hid (Calls Tryd.prog 23 #[v] w fun e w' => ∃ base vs b, e = .returned (.tuple #[.agg #[.int .i64 base, vs], .int .i64 (buildE l)]) ∧ BuildSays w w' l base vs b) := Build_any w v l h hl hs ht
  have HT : Hid (Tabs w) := ht
  by_cases hC : buildE l = 0
  · obtain ⟨hall, _, hfew⟩ := built_all hC
    rw [hC] at HBU
    have HNW : Hid (∀ W base vs b, BuildSays w W l base vs b → ∀ V, Below W.heap.size W V → Calls Tryd.prog 24 #[.agg #[.int .i64 base, vs]] V fun e w' => ∃ wb, e = .returned (.tuple #[.pointer (some ⟨wb, 0, none⟩), .bool true]) ∧ WkOn w' wb l ∧ Below W.heap.size W w') := fun W base vs b hS V hV => by
      refine (NewW_any _ V l base vs b hC (hS.row.below hV) hS.mach (HT.out.below (hS.bel.trans (hV.mono hS.bel.size)))).mono ?_
      rintro e w' ⟨wb, rfl, _, h1, h2⟩
      exact ⟨wb, rfl, h1, hV.trans (h2.mono hV.size)⟩
    have HWD : Hid (∀ W, Below w.heap.size w W → Calls Tryd.prog 15 #[.string s] W fun e w' => e = .returned (.bool (wordB s.data.toList)) ∧ Below W.heap.size W w') := fun W hW => by
      refine (Word_any s W (HT.out.below hW) hz).mono ?_
      rintro e w' ⟨rfl, hw⟩
      exact ⟨rfl, by obtain ⟨n, rfl⟩ := hw; exact below_drewN (Below.refl _ _) n⟩
    have HLN : Hid (∀ W wb, WkOn W wb l → Calls Tryd.prog 26 #[.pointer (some ⟨wb, 0, none⟩)] W fun e w' => e = .returned (.int .i64 (l.length : Int)) ∧ Below W.heap.size W w') := fun W wb hW => LenW_any W wb l hW
    have HROW : Hid (PRow w v l) := h
    obtain ⟨ad, cap, rfl⟩ := h.form
    obtain ⟨n, hn⟩ : ∃ n, l.length = n := ⟨_, rfl⟩
    have HN : Hid (l.length = n) := hn
    rw [hn] at HBU HLN HROW hfew hl ⊢
    have hnn : ((n : Int) == (n : Int)) = true := beq_self_eq_true _
    by_cases hi0 : i < 0 ∨ (n : Int) ≤ i ∨ wordB s.data.toList = false
    · have HI0 : Hid (i < 0 ∨ (n : Int) ≤ i ∨ wordB s.data.toList = false) := hi0
      clear h ht hs hC hn hi0 hall
      obtain ⟨wd, hwd⟩ : ∃ wd, wordB s.data.toList = wd := ⟨_, rfl⟩
      rw [hwd] at HWD
      go_enter Tryd.func7, Tryd.ntmps7
      go_upto_region 5 with (first
        | (go_at_call 23; refine HBU.out.mono ?_; rintro e w1 ⟨base, vs, b, rfl, hS⟩; obtain ⟨sd, sn, sc, hvs, hnb⟩ := StRow.form hS.row; subst hvs; have HS : Hid (BuildSays w w1 l base (.slice sd sn sc) b) := hS; clear hS hnb)
        | (go_at_call 24; refine (HNW.out _ _ _ _ HS.out _ ((Below.refl _ w1).alloc (Nat.le_refl _) _)).mono ?_; rintro e w2 ⟨wb, rfl, hon, hb2⟩))
      have HB2 : Hid (Below w.heap.size w w2) := HS.out.bel.trans (hb2.mono HS.out.bel.size)
      have HW : Hid (WkOn w2 wb l) := hon
      clear hb2 hon
      by_cases h1 : i < 0
      · go_wp2_with (first
          | (go_at_call 26; refine (HLN.out _ _ HW.out).mono ?_; rintro e w4 ⟨rfl, hb4⟩; have HB4 : Hid (Below w.heap.size w w4) := HB2.out.trans (hb4.mono HB2.out.size); clear hb4))
        go_ret
        exact ⟨by first | rfl | simp, HB4.out⟩
      · by_cases h2 : (n : Int) ≤ i
        · go_wp2_with (first
            | (go_at_call 26; refine (HLN.out _ _ HW.out).mono ?_; rintro e w4 ⟨rfl, hb4⟩; have HB4 : Hid (Below w.heap.size w w4) := HB2.out.trans (hb4.mono HB2.out.size); clear hb4))
          go_ret
          exact ⟨by first | rfl | simp, HB4.out⟩
        · have hwf : wd = false := by
            rw [← hwd]
            rcases HI0.out with g | g | g
            · exact absurd g h1
            · exact absurd g h2
            · exact g
          subst hwf
          clear hwd
          go_wp2_with (first
            | (go_at_call 15; refine (HWD.out _ HB2.out).mono ?_; rintro e w3 ⟨rfl, hb3⟩; have HB3 : Hid (Below w.heap.size w w3) := HB2.out.trans (hb3.mono HB2.out.size); have HW3 : Hid (WkOn w3 wb l) := HW.out.below hb3; clear hb3)
            | (go_at_call 26; refine (HLN.out _ _ HW3.out).mono ?_; rintro e w4 ⟨rfl, hb4⟩; have HB4 : Hid (Below w.heap.size w w4) := HB3.out.trans (hb4.mono HB3.out.size); clear hb4))
          go_ret
          exact ⟨by first | rfl | simp, HB4.out⟩
    · have h1 : ¬ i < 0 := fun g => hi0 (.inl g)
      have h2 : ¬ (n : Int) ≤ i := fun g => hi0 (.inr (.inl g))
      have h3 : wordB s.data.toList = true := by
        cases hw : wordB s.data.toList with
        | true => rfl
        | false => exact absurd (.inr (.inr hw)) hi0
      obtain ⟨j, rfl⟩ : ∃ j : Nat, i = (j : Int) := ⟨i.toNat, by omega⟩
      have hjn : j < n := by omega
      obtain ⟨x, hx⟩ : ∃ x, l[j]? = some x := ⟨l[j]'(by omega), List.getElem?_eq_getElem _⟩
      have hxm := List.mem_of_getElem? hx
      obtain ⟨ys, hys, _, hy24, hy96, _⟩ := word_runes (x := (s, 0)) h3
      simp only at hys hy96
      rw [h3] at HWD
      obtain ⟨N, hN⟩ : ∃ N, lv (entOf x).1 ys = N := ⟨_, rfl⟩
      obtain ⟨_, _, _, _, hx96, _⟩ := word_runes (hall x hxm).1
      have HDI : Hid (∀ W, Below w.heap.size w W → Calls Tryd.prog 16 #[.string x.1, .string s] W fun e w' => e = .returned (.tuple #[.int .i64 (N : Int), .bool true]) ∧ Below W.heap.size W w') := fun W hW => by
        have := Distance_is x.1 s W (HT.out.below hW) (by omega) hz
        rw [ds_word (hall x hxm).1 hys hy24, hN] at this
        exact this
      have hmin : min2 (N : Int) 3 = ((min N 3 : Nat) : Int) := by unfold min2; split <;> omega
      obtain ⟨D, hD⟩ : ∃ D, min N 3 = D := ⟨_, rfl⟩
      rw [hD] at hmin
      have hrb : Go.Proofs.YthfngcpcccbnpaaDoor.rightB s.data.toList (D : Int) = true := by
        simp only [Go.Proofs.YthfngcpcccbnpaaDoor.rightB, h3, Bool.true_and, Bool.and_eq_true, decide_eq_true_eq]
        omega
      have hLe : allL l s.data.toList (D : Int) = nearOf ys D l := by rw [allL, if_pos hrb, hys]; rfl
      have hCe : allC s.data.toList (D : Int) = 0 := by rw [allC, if_pos hrb]
      have hany : anyM (x.1, x.2, (N : Int)) (nearOf ys D l) = decide (N ≤ 3) := by
        have := any_near (ys := ys) hxm
        rw [hN, hD] at this
        exact this
      have HALL : Hid (∀ W wb, WkOn W wb l → Calls Tryd.prog 10 #[.pointer (some ⟨wb, 0, none⟩), .string s, .int .i64 (D : Int)] W fun x w' => ∃ ad cap, x = .returned (.tuple #[.slice ad (nearOf ys D l).length cap, .int .i64 0]) ∧ MRow w' (.slice ad (nearOf ys D l).length cap) (nearOf ys D l) ∧ Below W.heap.size W w') := fun W wb hW => by
        have := All_told W wb l hW s (D : Int) hz
        rw [hLe, hCe] at this
        exact this
      have hlb := nearOf_len ys D l
      generalize nearOf ys D l = L at HALL hany hlb
      obtain ⟨nb, hnb⟩ : ∃ nb, L.length = nb := ⟨_, rfl⟩
      rw [hnb] at HALL hlb
      rw [hn] at hlb
      have HNB : Hid (L.length = nb) := hnb
      obtain ⟨g, off, had, hgb, hcell⟩ := HROW.out.at (by omega)
      subst had
      obtain ⟨d0, d1⟩ := hcell j x hx
      obtain ⟨y1, y2⟩ := x
      simp only at d0 d1 HDI hany
      have HCA : Hid (∀ W, Below w.heap.size w W → W.cell? ⟨g, off + j * 2, none⟩ = some (.string y1) ∧ W.cell? ⟨g, off + j * 2 + 1, none⟩ = some (.int .i64 y2)) := fun W hW => ⟨(hW.cell (p := ⟨g, off + j * 2, none⟩) hgb).trans d0, (hW.cell (p := ⟨g, off + j * 2 + 1, none⟩) hgb).trans d1⟩
      have hjz : (j : Int) < (n : Int) := by omega
      have HANY : Hid (anyM (y1, y2, (N : Int)) L = decide (N ≤ 3)) := hany
      clear h ht hs hC hn hi0 hall hx hxm hys hy96 h3 hN hx96 hD hrb hLe hCe hany hnb hcell d0 d1 hgb hy24
      go_enter Tryd.func7, Tryd.ntmps7
      go_upto_region 5 with (first
        | (go_at_call 23; refine HBU.out.mono ?_; rintro e w1 ⟨base, vs, b, rfl, hS⟩; obtain ⟨sd, sn, sc, hvs, hnb⟩ := StRow.form hS.row; subst hvs; have HS : Hid (BuildSays w w1 l base (.slice sd sn sc) b) := hS; clear hS hnb)
        | (go_at_call 24; refine (HNW.out _ _ _ _ HS.out _ ((Below.refl _ w1).alloc (Nat.le_refl _) _)).mono ?_; rintro e w2 ⟨wb, rfl, hon, hb2⟩))
      have HB2 : Hid (Below w.heap.size w w2) := HS.out.bel.trans (hb2.mono HS.out.bel.size)
      have HW : Hid (WkOn w2 wb l) := hon
      clear hb2 hon
      go_upto_region 7 with (go_at_call 15; refine (HWD.out _ HB2.out).mono ?_; rintro e w3 ⟨rfl, hb3⟩; have HBw3 : Hid (Below w.heap.size w w3) := HB2.out.trans (hb3.mono HB2.out.size); have HW3 : Hid (WkOn w3 wb l) := HW.out.below hb3; clear hb3)
      obtain ⟨c0, c1⟩ := HCA.out _ HBw3.out
      go_upto_region 8 with (go_at_call 16; refine (HDI.out _ HBw3.out).mono ?_; rintro e w4 ⟨rfl, hb4⟩; have HBw4 : Hid (Below w.heap.size w w4) := HBw3.out.trans (hb4.mono HBw3.out.size); have HW4 : Hid (WkOn w4 wb l) := HW3.out.below hb4; clear hb4)
      clear c0 c1
      go_upto_region 9 with (first | (rw [hmin]; fail) | (go_at_call 10; (try rw [hmin]); refine (HALL.out _ _ HW4.out).mono ?_; rintro x w5 ⟨a5, c5, rfl, hm5, hb5⟩))
      have HB5 : Hid (Below w.heap.size w w5) := HBw4.out.trans (hb5.mono HBw4.out.size)
      have HM5 : Hid (MRow w5 (.slice a5 nb c5) L) := hm5
      clear hb5 hm5
      go_wp2
      go_loopg [15, 17, 75] nb (fun gm s15 _ s75 wr => ∃ (k : Nat), s75 = .int .i64 k ∧ k ≤ nb ∧ nb - k ≤ gm ∧ s15 = .bool (anyM (y1, y2, (N : Int)) (L.take k)) ∧ Hid (Below w.heap.size w wr) ∧ Hid (Below w5.heap.size w5 wr))
      case atStart => exact ⟨0, rfl, Nat.zero_le _, by omega, rfl, HB5, Below.refl _ _⟩
      case round =>
        obtain ⟨k, rfl, hk, hg, rfl, HBR, HB3R⟩ := hrel
        by_cases hlt : k < nb
        · have hltz : (k : Int) < (nb : Int) := by omega
          obtain ⟨x, hx⟩ : ∃ x, L[k]? = some x := ⟨L[k]'(by have := HNB.out; omega), List.getElem?_eq_getElem _⟩
          obtain ⟨g3, o3, had3, hg3, hc3⟩ := HM5.out.at (by have := HNB.out; omega)
          subst had3
          have HNX0 := anyM_next (y1, y2, (N : Int)) hx
          obtain ⟨x1, x2, x3⟩ := x
          obtain ⟨e0, e1, e2⟩ := hc3 k _ hx
          have f0 : wr.cell? ⟨g3, o3 + k * 3, none⟩ = some (.string x1) := (HB3R.out.cell (p := ⟨g3, o3 + k * 3, none⟩) hg3).trans e0
          have f1 : wr.cell? ⟨g3, o3 + k * 3 + 1, none⟩ = some (.int .i64 x2) := (HB3R.out.cell (p := ⟨g3, o3 + k * 3 + 1, none⟩) hg3).trans e1
          have f2 : wr.cell? ⟨g3, o3 + k * 3 + 2, none⟩ = some (.int .i64 x3) := (HB3R.out.cell (p := ⟨g3, o3 + k * 3 + 2, none⟩) hg3).trans e2
          have hwk : IntKind.i64.wrap ((k : Int) + 1) = (k : Int) + 1 := by rw [IntKind.wrap_i64]; omega
          obtain ⟨Z, hZ⟩ : ∃ Z, anyM (y1, y2, (N : Int)) (L.take (k + 1)) = Z := ⟨_, rfl⟩
          have HZ : Hid (anyM (y1, y2, (N : Int)) (L.take (k + 1)) = Z) := hZ
          rw [hZ] at HNX0
          clear hx hc3 e0 e1 e2 hZ
          generalize anyM (y1, y2, (N : Int)) (L.take k) = A0 at HNX0 ⊢
          cases A0
          · by_cases q1 : x1 = y1
            · have s1 : (x1.toList == y1.toList) = true := by rw [strEq]; exact decide_eq_true q1
              by_cases q2 : x2 = y2
              · have s2 : (x2 == y2) = true := beq_iff_eq.2 q2
                by_cases q3 : x3 = (N : Int)
                · have s3 : (x3 == (N : Int)) = true := beq_iff_eq.2 q3
                  have HNX : Hid (Z = true) := by rw [HNX0, decide_eq_true (by rw [q1, q2, q3])]; rfl
                  clear q1 q2 q3 HNX0
                  go_upto_region 13 with fail
                  obtain ⟨V, hV⟩ : ∃ V, wr.alloc (.cells #[.string x1, .int .i64 x2, .int .i64 x3] 35) = V := ⟨_, rfl⟩
                  obtain ⟨mb, hmb⟩ : ∃ mb, wr.heap.size = mb := ⟨_, rfl⟩
                  have hbV : Below w.heap.size w V := by rw [← hV]; exact HBR.out.alloc HBR.out.size _
                  have hb3V : Below w5.heap.size w5 V := by rw [← hV]; exact HB3R.out.alloc HB3R.out.size _
                  have hm0 : V.cell? ⟨mb, 0, none⟩ = some (.string x1) := by rw [← hV, ← hmb]; simp
                  have hm1 : V.cell? ⟨mb, 1, none⟩ = some (.int .i64 x2) := by rw [← hV, ← hmb]; simp
                  have hm2 : V.cell? ⟨mb, 2, none⟩ = some (.int .i64 x3) := by rw [← hV, ← hmb]; simp
                  rw [hV, hmb]
                  clear hV hmb f0 f1 f2
                  obtain ⟨a0, a1⟩ := HCA.out V hbV
                  have HBV : Hid (Below w.heap.size w V) := hbV
                  have HB3V : Hid (Below w5.heap.size w5 V) := hb3V
                  clear hbV hb3V
                  go_quiet (fail)
                  go_wp2_with fail
                  go_roundg (nb - (k + 1))
                  case measure => omega
                  case rel => exact ⟨k + 1, by go_num, by omega, Nat.le_refl _, (by rw [HZ.out, HNX.out] <;> first | rfl | simp), below_drewN HBV.out _, below_drewN HB3V.out _⟩
                · have s3 : (x3 == (N : Int)) = false := beq_eq_false_iff_ne.2 q3
                  have HNX : Hid (Z = false) := by rw [HNX0, decide_eq_false (by simp [q3])]; rfl
                  clear q1 q2 q3 HNX0
                  go_upto_region 13 with fail
                  obtain ⟨V, hV⟩ : ∃ V, wr.alloc (.cells #[.string x1, .int .i64 x2, .int .i64 x3] 35) = V := ⟨_, rfl⟩
                  obtain ⟨mb, hmb⟩ : ∃ mb, wr.heap.size = mb := ⟨_, rfl⟩
                  have hbV : Below w.heap.size w V := by rw [← hV]; exact HBR.out.alloc HBR.out.size _
                  have hb3V : Below w5.heap.size w5 V := by rw [← hV]; exact HB3R.out.alloc HB3R.out.size _
                  have hm0 : V.cell? ⟨mb, 0, none⟩ = some (.string x1) := by rw [← hV, ← hmb]; simp
                  have hm1 : V.cell? ⟨mb, 1, none⟩ = some (.int .i64 x2) := by rw [← hV, ← hmb]; simp
                  have hm2 : V.cell? ⟨mb, 2, none⟩ = some (.int .i64 x3) := by rw [← hV, ← hmb]; simp
                  rw [hV, hmb]
                  clear hV hmb f0 f1 f2
                  obtain ⟨a0, a1⟩ := HCA.out V hbV
                  have HBV : Hid (Below w.heap.size w V) := hbV
                  have HB3V : Hid (Below w5.heap.size w5 V) := hb3V
                  clear hbV hb3V
                  go_quiet (fail)
                  go_wp2_with fail
                  go_roundg (nb - (k + 1))
                  case measure => omega
                  case rel => exact ⟨k + 1, by go_num, by omega, Nat.le_refl _, (by rw [HZ.out, HNX.out] <;> first | rfl | simp), below_drewN HBV.out _, below_drewN HB3V.out _⟩
              · have s2 : (x2 == y2) = false := beq_eq_false_iff_ne.2 q2
                have HNX : Hid (Z = false) := by rw [HNX0, decide_eq_false (by simp [q2])]; rfl
                clear q1 q2 HNX0
                go_upto_region 13 with fail
                obtain ⟨V, hV⟩ : ∃ V, wr.alloc (.cells #[.string x1, .int .i64 x2, .int .i64 x3] 35) = V := ⟨_, rfl⟩
                obtain ⟨mb, hmb⟩ : ∃ mb, wr.heap.size = mb := ⟨_, rfl⟩
                have hbV : Below w.heap.size w V := by rw [← hV]; exact HBR.out.alloc HBR.out.size _
                have hb3V : Below w5.heap.size w5 V := by rw [← hV]; exact HB3R.out.alloc HB3R.out.size _
                have hm0 : V.cell? ⟨mb, 0, none⟩ = some (.string x1) := by rw [← hV, ← hmb]; simp
                have hm1 : V.cell? ⟨mb, 1, none⟩ = some (.int .i64 x2) := by rw [← hV, ← hmb]; simp
                have hm2 : V.cell? ⟨mb, 2, none⟩ = some (.int .i64 x3) := by rw [← hV, ← hmb]; simp
                rw [hV, hmb]
                clear hV hmb f0 f1 f2
                obtain ⟨a0, a1⟩ := HCA.out V hbV
                have HBV : Hid (Below w.heap.size w V) := hbV
                have HB3V : Hid (Below w5.heap.size w5 V) := hb3V
                clear hbV hb3V
                go_quiet (fail)
                go_wp2_with fail
                go_roundg (nb - (k + 1))
                case measure => omega
                case rel => exact ⟨k + 1, by go_num, by omega, Nat.le_refl _, (by rw [HZ.out, HNX.out] <;> first | rfl | simp), below_drewN HBV.out _, below_drewN HB3V.out _⟩
            · have s1 : (x1.toList == y1.toList) = false := by rw [strEq]; exact decide_eq_false q1
              have HNX : Hid (Z = false) := by rw [HNX0, decide_eq_false (by simp [q1])]; rfl
              clear q1 HNX0
              go_upto_region 13 with fail
              obtain ⟨V, hV⟩ : ∃ V, wr.alloc (.cells #[.string x1, .int .i64 x2, .int .i64 x3] 35) = V := ⟨_, rfl⟩
              obtain ⟨mb, hmb⟩ : ∃ mb, wr.heap.size = mb := ⟨_, rfl⟩
              have hbV : Below w.heap.size w V := by rw [← hV]; exact HBR.out.alloc HBR.out.size _
              have hb3V : Below w5.heap.size w5 V := by rw [← hV]; exact HB3R.out.alloc HB3R.out.size _
              have hm0 : V.cell? ⟨mb, 0, none⟩ = some (.string x1) := by rw [← hV, ← hmb]; simp
              have hm1 : V.cell? ⟨mb, 1, none⟩ = some (.int .i64 x2) := by rw [← hV, ← hmb]; simp
              have hm2 : V.cell? ⟨mb, 2, none⟩ = some (.int .i64 x3) := by rw [← hV, ← hmb]; simp
              rw [hV, hmb]
              clear hV hmb f0 f1 f2
              obtain ⟨a0, a1⟩ := HCA.out V hbV
              have HBV : Hid (Below w.heap.size w V) := hbV
              have HB3V : Hid (Below w5.heap.size w5 V) := hb3V
              clear hbV hb3V
              go_quiet (fail)
              go_wp2_with fail
              go_roundg (nb - (k + 1))
              case measure => omega
              case rel => exact ⟨k + 1, by go_num, by omega, Nat.le_refl _, (by rw [HZ.out, HNX.out] <;> first | rfl | simp), below_drewN HBV.out _, below_drewN HB3V.out _⟩
          · have HNX : Hid (Z = true) := by rw [HNX0]; rfl
            clear HNX0
            go_upto_region 13 with fail
            obtain ⟨V, hV⟩ : ∃ V, wr.alloc (.cells #[.string x1, .int .i64 x2, .int .i64 x3] 35) = V := ⟨_, rfl⟩
            obtain ⟨mb, hmb⟩ : ∃ mb, wr.heap.size = mb := ⟨_, rfl⟩
            have hbV : Below w.heap.size w V := by rw [← hV]; exact HBR.out.alloc HBR.out.size _
            have hb3V : Below w5.heap.size w5 V := by rw [← hV]; exact HB3R.out.alloc HB3R.out.size _
            have hm0 : V.cell? ⟨mb, 0, none⟩ = some (.string x1) := by rw [← hV, ← hmb]; simp
            have hm1 : V.cell? ⟨mb, 1, none⟩ = some (.int .i64 x2) := by rw [← hV, ← hmb]; simp
            have hm2 : V.cell? ⟨mb, 2, none⟩ = some (.int .i64 x3) := by rw [← hV, ← hmb]; simp
            rw [hV, hmb]
            clear hV hmb f0 f1 f2
            obtain ⟨a0, a1⟩ := HCA.out V hbV
            have HBV : Hid (Below w.heap.size w V) := hbV
            have HB3V : Hid (Below w5.heap.size w5 V) := hb3V
            clear hbV hb3V
            go_quiet (fail)
            go_wp2_with fail
            go_roundg (nb - (k + 1))
            case measure => omega
            case rel => exact ⟨k + 1, by go_num, by omega, Nat.le_refl _, (by rw [HZ.out, HNX.out] <;> first | rfl | simp), below_drewN HBV.out _, below_drewN HB3V.out _⟩
        · have hkn : k = nb := by omega
          have hnlt : ¬ (k : Int) < (nb : Int) := by omega
          have hAll : anyM (y1, y2, (N : Int)) (L.take k) = decide (N ≤ 3) := by rw [hkn, List.take_of_length_le (by rw [HNB.out]; exact Nat.le_refl _)]; exact HANY.out
          rw [hAll]
          have hdz : decide ((N : Int) ≤ 3) = decide (N ≤ 3) := decide_eq_decide.2 (by omega)
          clear hk hkn hAll
          by_cases hN3 : N ≤ 3
          · have hN3z : (N : Int) ≤ 3 := by omega
            rw [decide_eq_true hN3]
            clear hdz
            go_wp2
            go_ret
            exact ⟨by first | rfl | simp, HBR.out⟩
          · have hN3z : ¬ (N : Int) ≤ 3 := by omega
            rw [decide_eq_false hN3]
            clear hdz
            go_wp2
            go_ret
            exact ⟨by first | rfl | simp, HBR.out⟩
  · have hm0 := mach_err hC
    have hrp : rightP l = false := by
      cases hr : rightP l with
      | false => rfl
      | true => exact absurd (right_build hr) hC
    have HRR : Hid (∀ W, Below w.heap.size w W → Calls Tryd.prog 25 #[v] W fun e w' => e = .returned (.bool false) ∧ Below W.heap.size W w') := fun W hW => by
      have := refRight_any W v l (h.below hW) hl hs
      rw [hrp] at this
      exact this
    have HNW : Hid (∀ W base vs b, BuildSays w W l base vs b → ∀ V, Below W.heap.size W V → Calls Tryd.prog 24 #[.agg #[.int .i64 base, vs]] V fun e w' => ∃ wb, e = .returned (.tuple #[.pointer (some ⟨wb, 0, none⟩), .bool true]) ∧ Below W.heap.size W w') := fun W base vs b hS V hV => by
      have hme := hS.mach
      rw [hm0] at hme
      have hb0 : b = [] := (Prod.mk.inj hme).2.symm
      have hba : base = 0 := (Prod.mk.inj hme).1.symm
      subst hb0; subst hba
      refine (NewW_any _ V [] 0 vs [] rfl (hS.row.below hV) rfl (HT.out.below (hS.bel.trans (hV.mono hS.bel.size)))).mono ?_
      rintro e w' ⟨wb, rfl, _, h1, h2⟩
      exact ⟨wb, rfl, hV.trans (h2.mono hV.size)⟩
    obtain ⟨ad, cap, rfl⟩ := h.form
    obtain ⟨ec, hec⟩ : ∃ ec, buildE l = ec := ⟨_, rfl⟩
    rw [hec] at HBU hC
    have hcb : (ec == 0) = false := beq_eq_false_iff_ne.2 hC
    clear h ht hs hrp hm0 hec
    go_enter Tryd.func7, Tryd.ntmps7
    go_wp2_with (first
      | (go_at_call 23; refine HBU.out.mono ?_; rintro e w1 ⟨base, vs, b, rfl, hS⟩; obtain ⟨sd, sn, sc, hvs, hnb⟩ := StRow.form hS.row; subst hvs; have HS : Hid (BuildSays w w1 l base (.slice sd sn sc) b) := hS; clear hS hnb)
      | (go_at_call 24; refine (HNW.out _ _ _ _ HS.out _ ((Below.refl _ w1).alloc (Nat.le_refl _) _)).mono ?_; rintro e w2 ⟨wb, rfl, hb2⟩; have HB2 : Hid (Below w.heap.size w w2) := HS.out.bel.trans (hb2.mono HS.out.bel.size); clear hb2)
      | (go_at_call 25; refine (HRR.out _ HB2.out).mono ?_; rintro e w3 ⟨rfl, hb3⟩; have HB3 : Hid (Below w.heap.size w w3) := HB2.out.trans (hb3.mono HB2.out.size); clear hb3))
    all_goals (go_ret; exact ⟨by first | rfl | simp, HB3.out⟩)
end Go.Proofs.YthfngcpcccbnpaaDoor
