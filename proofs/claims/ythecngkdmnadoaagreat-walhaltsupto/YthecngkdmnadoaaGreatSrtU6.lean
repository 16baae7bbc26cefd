/- The library's sort at uint64: some steps of insertion. -/
import Derived.Test.YthecngkdmnadoaaGreatSrtU5
namespace Go.Proofs.YthecngkdmnadoaaGreat
open Go.RowKit Go.Sort
set_option maxRecDepth 100000
namespace SrtU

theorem ss_go {d : Array Int} {b i : Nat} (h : i < b) (hl : ltInt d[i]! d[i - 1]! = false) : scanSorted ltInt d b i = scanSorted ltInt d b (i + 1) := by rw [scanSorted, if_pos (by simp only [h, hl]; rfl)]
theorem ss_stop {d : Array Int} {b i : Nat} (h : ¬ i < b ∨ ltInt d[i]! d[i - 1]! = true) : scanSorted ltInt d b i = i := by
  rw [scanSorted, if_neg]
  rcases h with h | h
  · simp [h]
  · rw [h]; simp
theorem sd_go1 {d : Array Int} {j : Nat} (h0 : 0 < j) (hl : ltInt d[j]! d[j - 1]! = true) : shiftDown ltInt j d = shiftDown ltInt (j - 1) (swp d j (j - 1)) := by
  obtain ⟨k, rfl⟩ : ∃ k, j = k + 1 := ⟨j - 1, by omega⟩
  simp only [Nat.add_sub_cancel] at hl ⊢
  rw [shiftDown, hl, if_neg (by simp)]
theorem sd_stop1 {d : Array Int} {j : Nat} (h : j = 0 ∨ ltInt d[j]! d[j - 1]! = false) : shiftDown ltInt j d = d := by
  cases j with
  | zero => rfl
  | succ k =>
    rcases h with h | h
    · omega
    · simp only [Nat.add_sub_cancel] at h
      rw [shiftDown, h, if_pos (by simp)]
theorem su_go {d : Array Int} {b j : Nat} (h : j < b) (hl : ltInt d[j]! d[j - 1]! = true) : shiftUp ltInt b j d = shiftUp ltInt b (j + 1) (swp d j (j - 1)) := by rw [shiftUp, if_pos h, hl, if_neg (by simp)]
theorem su_stop {d : Array Int} {b j : Nat} (h : ¬ j < b ∨ ltInt d[j]! d[j - 1]! = false) : shiftUp ltInt b j d = d := by
  rw [shiftUp]
  rcases h with h | h
  · rw [if_neg h]
  · split
    · rw [h, if_pos (by simp)]
    · rfl

set_option maxHeartbeats 32000000 in
theorem partialInsertionSort_any (blk off cap a b n : Nat) (d : Array Int) (w0 w : World) (hA : At blk off w0 w n d) (hab : a < b) (hb : b ≤ n) (hsz : n < 2305843009213693952) :
    Calls Tryz.prog 109 #[.slice (some ⟨blk, off, none⟩) n cap, .int .i64 a, .int .i64 b] w fun e w' =>
      e = .returned (.bool (partialInsertionSort ltInt d a b).2) ∧ At blk off w0 w' n (partialInsertionSort ltInt d a b).1 := by
  obtain ⟨R, hR⟩ : ∃ R, partialIns ltInt a b 5 (a + 1) d = R := ⟨_, rfl⟩
  have HE : Hid (partialInsertionSort ltInt d a b = R) := by show _ = _; rw [partialInsertionSort, hR]
  have HO0 : Hid (partialIns ltInt a b 5 (a + 1) d = R) := hR
  have HA : Hid (At blk off w0 w n d) := hA
  clear hA hR
  go_enter Tryz.func109, Tryz.ntmps109
  go_wp2
  go_loopw [7, 8] (fun vi vs wr => ∃ (i s : Nat) (dk : Array Int), vi = .int .i64 i ∧ vs = .int .i64 (5 - (s : Int)) ∧ s ≤ 5 ∧ a < i ∧ i ≤ b ∧ At blk off w0 wr n dk ∧ partialIns ltInt a b s i dk = R) (fun _ vs _ => (5 - intOf vs).toNat)
  case atStart => exact ⟨a + 1, 5, d, by go_num, rfl, Nat.le_refl _, by omega, by omega, HA.out, HO0.out⟩
  case round =>
    obtain ⟨i, s, dk, rfl, rfl, hs5, hai, hib, hAt, hO⟩ := hrel
    have HO : Hid (partialIns ltInt a b s i dk = R) := hO
    have HK : Hid (At blk off w0 wr n dk) := hAt
    clear hO hAt
    rcases s with _ | s
    · go_wp2
      go_ret
      refine ⟨?_, ?_⟩
      · rw [HE.out, ← HO.out]
        first | rfl | simp [partialIns]
      · rw [HE.out, ← HO.out]
        exact HK.out
    · have hs5' : (5 : Int) - ((s + 1 : Nat) : Int) < 5 := by omega
      go_wp2
      go_loopw [7] (fun vi wr2 => ∃ (i2 : Nat), vi = .int .i64 i2 ∧ i ≤ i2 ∧ i2 ≤ b ∧ At blk off w0 wr2 n dk ∧ scanSorted ltInt dk b i2 = scanSorted ltInt dk b i) (fun vi _ => (b - (intOf vi).toNat))
      case atStart => exact ⟨i, rfl, Nat.le_refl _, hib, HK.out, rfl⟩
      case round =>
        obtain ⟨i2, rfl, hi2, hi2b, hAt2, hI⟩ := hrel
        obtain ⟨G2, hG2, hcw2, hfw2⟩ := hAt2.fam
        have HG2 : Hid (∀ t, G2 t = dk[t]!) := hG2
        have HI : Hid (scanSorted ltInt dk b i2 = scanSorted ltInt dk b i) := hI
        have HK2 : Hid (At blk off w0 wr n dk) := hAt2
        clear hI hAt2 hG2
        by_cases hlt : i2 < b
        · have hi2n : i2 < n := by omega
          have hi21 : 1 ≤ i2 := by omega
          go_wp2
          go_quiet (first | (go_at_call 110; refine Calls.quiet_of_same (Less_any _ _ _)))
          go_wp2
          · have hl : ltInt (G2 i2) (G2 (i2 - 1)) = false := by first | assumption | (refine bnot_t ?_; assumption)
            go_roundw
            case rel => exact ⟨i2 + 1, by go_num, by omega, by omega, HK2.out.drewN _, by rw [← HI.out, ← ss_go hlt (by rw [← HG2.out, ← HG2.out, hl])]⟩
            case measure => simp [intOf]; omega
          · have hl : ltInt (G2 i2) (G2 (i2 - 1)) = true := by first | assumption | (refine bnot_f ?_; assumption) | (refine bnot_n ?_; assumption)
            have HU : Hid (scanSorted ltInt dk b i = i2) := by
              show _ = _
              rw [← HI.out, ss_stop (.inr (by rw [← HG2.out, ← HG2.out, hl]))]
            go_ret
            refine ⟨?_, ?_⟩
            · rw [HE.out, ← HO.out, partialIns_succ, HU.out, if_neg (by omega), if_pos (by omega)]
              first | rfl | simp
            · rw [HE.out, ← HO.out, partialIns_succ, HU.out, if_neg (by omega), if_pos (by omega)]
              exact HK2.out.drewN _
          · have hl : ltInt (G2 i2) (G2 (i2 - 1)) = true := by first | assumption | (refine bnot_f ?_; assumption) | (refine bnot_n ?_; assumption)
            have HU : Hid (scanSorted ltInt dk b i = i2) := by
              show _ = _
              rw [← HI.out, ss_stop (.inr (by rw [← HG2.out, ← HG2.out, hl]))]
            clear hl
            obtain ⟨D1, hD1⟩ : ∃ D, swp dk i2 (i2 - 1) = D := ⟨_, rfl⟩
            obtain ⟨D2, hD2⟩ : ∃ D, fixDown ltInt a i2 D1 = D := ⟨_, rfl⟩
            obtain ⟨D3, hD3⟩ : ∃ D, fixUp ltInt b i2 D2 = D := ⟨_, rfl⟩
            have HN : Hid (partialIns ltInt a b s i2 D3 = R) := by
              show _ = _
              rw [← HO.out, partialIns_succ, HU.out, if_neg (by omega), if_neg (by omega), hD1, hD2, hD3]
            have HK3 : Hid (At blk off w0 (((wr.drewN nq).drew.setCell ⟨blk, off + i2, none⟩ (enc dk[i2 - 1]!)).setCell ⟨blk, off + (i2 - 1), none⟩ (enc dk[i2]!)) n D1) := by
              rw [← hD1]
              exact ((HK2.out.drewN _).drew).swap (by omega) (by omega)
            have HD2 : Hid (fixDown ltInt a i2 D1 = D2) := hD2
            have HD3 : Hid (fixUp ltInt b i2 D2 = D3) := hD3
            clear hD1 hD2 hD3
            by_cases hbi : 2 ≤ b - i2
            · have hbi' : (2 : Int) ≤ (b : Int) - (i2 : Int) := by omega
              by_cases hia : 2 ≤ i2 - a
              · have hia' : (2 : Int) ≤ (i2 : Int) - (a : Int) := by omega
                go_region
                all_goals go_wp2
                go_loopw [9] (fun vj wr2 => ∃ (m : Nat) (dj : Array Int), vj = .int .i64 m ∧ m ≤ i2 - 1 ∧ At blk off w0 wr2 n dj ∧ shiftDown ltInt m dj = D2) (fun vj _ => (intOf vj).toNat)
                case atStart => exact ⟨i2 - 1, D1, by congr 1; omega, Nat.le_refl _, (by simp only [HG2.out]; exact HK3.out), by rw [← HD2.out, fixDown, if_pos hia]⟩
                case round =>
                  clear HK3 hcw2 hfw2 HG2 HK2 HI HU
                  obtain ⟨m, dj, rfl, hm, hAt3, hJ⟩ := hrel
                  obtain ⟨G3, hG3, hcw3, hfw3⟩ := hAt3.fam
                  have HG3 : Hid (∀ t, G3 t = dj[t]!) := hG3
                  have HJ : Hid (shiftDown ltInt m dj = D2) := hJ
                  have HK4 : Hid (At blk off w0 wr n dj) := hAt3
                  clear hG3 hJ hAt3
                  by_cases hm1 : 1 ≤ m
                  · skip
                    have hmn : m < n := by omega
                    obtain ⟨l, hL⟩ : ∃ l, m - 1 = l := ⟨_, rfl⟩
                    have HL : Hid (m - 1 = l) := hL
                    have hli : (m : Int) - 1 = (l : Int) := by omega
                    have hln : l < n := by omega
                    have hml : ¬ m = l := by omega
                    have hwl : IntKind.i64.wrap (l : Int) = (l : Int) := wrapId (by omega) (by omega)
                    have hx1 : (0 : Int) ≤ (l : Int) := by omega
                    have hx2 : (l : Int) < (n : Int) := by omega
                    have hx3 : (0 : Int) ≤ (m : Int) := by omega
                    have hx4 : (m : Int) < (n : Int) := by omega
                    have ht1 : ((l : Int)).toNat = l := by omega
                    clear hL
                    go_wp2
                    go_quiet (first | (go_at_call 110; refine Calls.quiet_of_same (Less_any _ _ _)))
                    go_wp2
                    · have hl2 : ltInt (G3 m) (G3 l) = false := by first | assumption | (refine bnot_t ?_; assumption)
                      have HM : Hid (At blk off w0 (wr.drewN nq) n D2) := by
                        rw [← HJ.out, sd_stop1 (.inr (by rw [HL.out, ← HG3.out, ← HG3.out, hl2]))]
                        exact HK4.out.drewN _
                      clear hcw3 hfw3 HG3 HK4 HJ hl2 hwl hli hml hx1 hx2 hx3 hx4 ht1 hmn HL hln
                      go_loopw [10] (fun vj wr2 => ∃ (m : Nat) (dj : Array Int), vj = .int .i64 m ∧ i2 < m ∧ m ≤ b ∧ At blk off w0 wr2 n dj ∧ shiftUp ltInt b m dj = D3) (fun vj _ => (b - (intOf vj).toNat))
                      case atStart => exact ⟨i2 + 1, D2, by go_num, by omega, by omega, (by first | exact HM.out | (simp only [HG2.out]; exact HM.out)), by rw [← HD3.out, fixUp, if_pos hbi]⟩
                      case round =>
                        clear HM
                        obtain ⟨m, dj, rfl, hm, hmb, hAt3, hJ⟩ := hrel
                        obtain ⟨G3, hG3, hcw3, hfw3⟩ := hAt3.fam
                        have HG3 : Hid (∀ t, G3 t = dj[t]!) := hG3
                        have HJ : Hid (shiftUp ltInt b m dj = D3) := hJ
                        have HK4 : Hid (At blk off w0 wr n dj) := hAt3
                        clear hG3 hJ hAt3
                        by_cases hm1 : m < b
                        · skip
                          have hmn : m < n := by omega
                          obtain ⟨l, hL⟩ : ∃ l, m - 1 = l := ⟨_, rfl⟩
                          have HL : Hid (m - 1 = l) := hL
                          have hli : (m : Int) - 1 = (l : Int) := by omega
                          have hln : l < n := by omega
                          have hml : ¬ m = l := by omega
                          have hwl : IntKind.i64.wrap (l : Int) = (l : Int) := wrapId (by omega) (by omega)
                          have hx1 : (0 : Int) ≤ (l : Int) := by omega
                          have hx2 : (l : Int) < (n : Int) := by omega
                          have hx3 : (0 : Int) ≤ (m : Int) := by omega
                          have hx4 : (m : Int) < (n : Int) := by omega
                          have ht1 : ((l : Int)).toNat = l := by omega
                          clear hL
                          go_wp2
                          go_quiet (first | (go_at_call 110; refine Calls.quiet_of_same (Less_any _ _ _)))
                          go_wp2
                          · have hl2 : ltInt (G3 m) (G3 l) = false := by first | assumption | (refine bnot_t ?_; assumption)
                            have HM3 : Hid (At blk off w0 (wr.drewN nq) n D3) := by
                              rw [← HJ.out, su_stop (.inr (by rw [HL.out, ← HG3.out, ← HG3.out, hl2]))]
                              exact HK4.out.drewN _
                            go_roundw
                            case rel => exact ⟨i2, s, D3, rfl, by congr 1; omega, by omega, by omega, by omega, HM3.out, HN.out⟩
                            case measure => simp [intOf]; omega
                          · have hl2 : ltInt (G3 m) (G3 l) = true := by first | assumption | (refine bnot_f ?_; assumption) | (refine bnot_n ?_; assumption)
                            go_region
                            all_goals go_wp2
                            go_roundw
                            case rel =>
                              refine ⟨m + 1, swp dj m l, by go_num, by omega, by omega, ?_, by rw [← HJ.out, su_go (j := m) (d := dj) hm1 (by rw [HL.out, ← HG3.out, ← HG3.out, hl2]), HL.out]⟩
                              simp only [HG3.out]
                              exact ((HK4.out.drewN _).drew).swap (by omega) (by omega)
                            case measure => simp [intOf]; omega
                        · go_wp2
                          have HM3 : Hid (At blk off w0 wr n D3) := by
                            rw [← HJ.out, su_stop (.inl hm1)]
                            exact HK4.out
                          go_roundw
                          case rel => exact ⟨i2, s, D3, rfl, by congr 1; omega, by omega, by omega, by omega, HM3.out, HN.out⟩
                          case measure => simp [intOf]; omega
                    · have hl2 : ltInt (G3 m) (G3 l) = true := by first | assumption | (refine bnot_f ?_; assumption) | (refine bnot_n ?_; assumption)
                      go_region
                      all_goals go_wp2
                      go_roundw
                      case rel =>
                        refine ⟨l, swp dj m l, by congr 1; try omega, by omega, ?_, by rw [← HJ.out, sd_go1 (j := m) (d := dj) (by omega) (by rw [HL.out, ← HG3.out, ← HG3.out, hl2]), HL.out]⟩
                        simp only [HG3.out]
                        exact ((HK4.out.drewN _).drew).swap (by omega) (by omega)
                      case measure => simp [intOf]; omega
                  · have hm0 : m = 0 := by omega
                    subst hm0
                    have HM : Hid (At blk off w0 wr n D2) := by
                      rw [← HJ.out]
                      exact HK4.out
                    clear hcw3 hfw3 HG3 HK4 HJ
                    go_wp2
                    go_loopw [10] (fun vj wr2 => ∃ (m : Nat) (dj : Array Int), vj = .int .i64 m ∧ i2 < m ∧ m ≤ b ∧ At blk off w0 wr2 n dj ∧ shiftUp ltInt b m dj = D3) (fun vj _ => (b - (intOf vj).toNat))
                    case atStart => exact ⟨i2 + 1, D2, by go_num, by omega, by omega, (by first | exact HM.out | (simp only [HG2.out]; exact HM.out)), by rw [← HD3.out, fixUp, if_pos hbi]⟩
                    case round =>
                      clear HM
                      obtain ⟨m, dj, rfl, hm, hmb, hAt3, hJ⟩ := hrel
                      obtain ⟨G3, hG3, hcw3, hfw3⟩ := hAt3.fam
                      have HG3 : Hid (∀ t, G3 t = dj[t]!) := hG3
                      have HJ : Hid (shiftUp ltInt b m dj = D3) := hJ
                      have HK4 : Hid (At blk off w0 wr n dj) := hAt3
                      clear hG3 hJ hAt3
                      by_cases hm1 : m < b
                      · skip
                        have hmn : m < n := by omega
                        obtain ⟨l, hL⟩ : ∃ l, m - 1 = l := ⟨_, rfl⟩
                        have HL : Hid (m - 1 = l) := hL
                        have hli : (m : Int) - 1 = (l : Int) := by omega
                        have hln : l < n := by omega
                        have hml : ¬ m = l := by omega
                        have hwl : IntKind.i64.wrap (l : Int) = (l : Int) := wrapId (by omega) (by omega)
                        have hx1 : (0 : Int) ≤ (l : Int) := by omega
                        have hx2 : (l : Int) < (n : Int) := by omega
                        have hx3 : (0 : Int) ≤ (m : Int) := by omega
                        have hx4 : (m : Int) < (n : Int) := by omega
                        have ht1 : ((l : Int)).toNat = l := by omega
                        clear hL
                        go_wp2
                        go_quiet (first | (go_at_call 110; refine Calls.quiet_of_same (Less_any _ _ _)))
                        go_wp2
                        · have hl2 : ltInt (G3 m) (G3 l) = false := by first | assumption | (refine bnot_t ?_; assumption)
                          have HM3 : Hid (At blk off w0 (wr.drewN nq) n D3) := by
                            rw [← HJ.out, su_stop (.inr (by rw [HL.out, ← HG3.out, ← HG3.out, hl2]))]
                            exact HK4.out.drewN _
                          go_roundw
                          case rel => exact ⟨i2, s, D3, rfl, by congr 1; omega, by omega, by omega, by omega, HM3.out, HN.out⟩
                          case measure => simp [intOf]; omega
                        · have hl2 : ltInt (G3 m) (G3 l) = true := by first | assumption | (refine bnot_f ?_; assumption) | (refine bnot_n ?_; assumption)
                          go_region
                          all_goals go_wp2
                          go_roundw
                          case rel =>
                            refine ⟨m + 1, swp dj m l, by go_num, by omega, by omega, ?_, by rw [← HJ.out, su_go (j := m) (d := dj) hm1 (by rw [HL.out, ← HG3.out, ← HG3.out, hl2]), HL.out]⟩
                            simp only [HG3.out]
                            exact ((HK4.out.drewN _).drew).swap (by omega) (by omega)
                          case measure => simp [intOf]; omega
                      · go_wp2
                        have HM3 : Hid (At blk off w0 wr n D3) := by
                          rw [← HJ.out, su_stop (.inl hm1)]
                          exact HK4.out
                        go_roundw
                        case rel => exact ⟨i2, s, D3, rfl, by congr 1; omega, by omega, by omega, by omega, HM3.out, HN.out⟩
                        case measure => simp [intOf]; omega
              · have hia' : decide ((2 : Int) ≤ (i2 : Int) - (a : Int)) = false := by simp; omega
                try (exfalso; omega)
                all_goals
                  go_region
                  all_goals go_wp2
                  have HM : Hid (At blk off w0 (((wr.drewN nq).drew.setCell ⟨blk, off + i2, none⟩ (enc dk[i2 - 1]!)).setCell ⟨blk, off + (i2 - 1), none⟩ (enc dk[i2]!)) n D2) := by
                    rw [← HD2.out, fixDown, if_neg hia]
                    exact HK3.out
                  go_loopw [10] (fun vj wr2 => ∃ (m : Nat) (dj : Array Int), vj = .int .i64 m ∧ i2 < m ∧ m ≤ b ∧ At blk off w0 wr2 n dj ∧ shiftUp ltInt b m dj = D3) (fun vj _ => (b - (intOf vj).toNat))
                  case atStart => exact ⟨i2 + 1, D2, by go_num, by omega, by omega, (by first | exact HM.out | (simp only [HG2.out]; exact HM.out)), by rw [← HD3.out, fixUp, if_pos hbi]⟩
                  case round =>
                    clear HM
                    obtain ⟨m, dj, rfl, hm, hmb, hAt3, hJ⟩ := hrel
                    obtain ⟨G3, hG3, hcw3, hfw3⟩ := hAt3.fam
                    have HG3 : Hid (∀ t, G3 t = dj[t]!) := hG3
                    have HJ : Hid (shiftUp ltInt b m dj = D3) := hJ
                    have HK4 : Hid (At blk off w0 wr n dj) := hAt3
                    clear hG3 hJ hAt3
                    by_cases hm1 : m < b
                    · skip
                      have hmn : m < n := by omega
                      obtain ⟨l, hL⟩ : ∃ l, m - 1 = l := ⟨_, rfl⟩
                      have HL : Hid (m - 1 = l) := hL
                      have hli : (m : Int) - 1 = (l : Int) := by omega
                      have hln : l < n := by omega
                      have hml : ¬ m = l := by omega
                      have hwl : IntKind.i64.wrap (l : Int) = (l : Int) := wrapId (by omega) (by omega)
                      have hx1 : (0 : Int) ≤ (l : Int) := by omega
                      have hx2 : (l : Int) < (n : Int) := by omega
                      have hx3 : (0 : Int) ≤ (m : Int) := by omega
                      have hx4 : (m : Int) < (n : Int) := by omega
                      have ht1 : ((l : Int)).toNat = l := by omega
                      clear hL
                      go_wp2
                      go_quiet (first | (go_at_call 110; refine Calls.quiet_of_same (Less_any _ _ _)))
                      go_wp2
                      · have hl2 : ltInt (G3 m) (G3 l) = false := by first | assumption | (refine bnot_t ?_; assumption)
                        have HM3 : Hid (At blk off w0 (wr.drewN nq) n D3) := by
                          rw [← HJ.out, su_stop (.inr (by rw [HL.out, ← HG3.out, ← HG3.out, hl2]))]
                          exact HK4.out.drewN _
                        go_roundw
                        case rel => exact ⟨i2, s, D3, rfl, by congr 1; omega, by omega, by omega, by omega, HM3.out, HN.out⟩
                        case measure => simp [intOf]; omega
                      · have hl2 : ltInt (G3 m) (G3 l) = true := by first | assumption | (refine bnot_f ?_; assumption) | (refine bnot_n ?_; assumption)
                        go_region
                        all_goals go_wp2
                        go_roundw
                        case rel =>
                          refine ⟨m + 1, swp dj m l, by go_num, by omega, by omega, ?_, by rw [← HJ.out, su_go (j := m) (d := dj) hm1 (by rw [HL.out, ← HG3.out, ← HG3.out, hl2]), HL.out]⟩
                          simp only [HG3.out]
                          exact ((HK4.out.drewN _).drew).swap (by omega) (by omega)
                        case measure => simp [intOf]; omega
                    · go_wp2
                      have HM3 : Hid (At blk off w0 wr n D3) := by
                        rw [← HJ.out, su_stop (.inl hm1)]
                        exact HK4.out
                      go_roundw
                      case rel => exact ⟨i2, s, D3, rfl, by congr 1; omega, by omega, by omega, by omega, HM3.out, HN.out⟩
                      case measure => simp [intOf]; omega
            · have hbi' : decide ((2 : Int) ≤ (b : Int) - (i2 : Int)) = false := by simp; omega
              by_cases hia : 2 ≤ i2 - a
              · have hia' : (2 : Int) ≤ (i2 : Int) - (a : Int) := by omega
                go_region
                all_goals go_wp2
                go_loopw [9] (fun vj wr2 => ∃ (m : Nat) (dj : Array Int), vj = .int .i64 m ∧ m ≤ i2 - 1 ∧ At blk off w0 wr2 n dj ∧ shiftDown ltInt m dj = D2) (fun vj _ => (intOf vj).toNat)
                case atStart => exact ⟨i2 - 1, D1, by congr 1; omega, Nat.le_refl _, (by simp only [HG2.out]; exact HK3.out), by rw [← HD2.out, fixDown, if_pos hia]⟩
                case round =>
                  clear HK3 hcw2 hfw2 HG2 HK2 HI HU
                  obtain ⟨m, dj, rfl, hm, hAt3, hJ⟩ := hrel
                  obtain ⟨G3, hG3, hcw3, hfw3⟩ := hAt3.fam
                  have HG3 : Hid (∀ t, G3 t = dj[t]!) := hG3
                  have HJ : Hid (shiftDown ltInt m dj = D2) := hJ
                  have HK4 : Hid (At blk off w0 wr n dj) := hAt3
                  clear hG3 hJ hAt3
                  by_cases hm1 : 1 ≤ m
                  · skip
                    have hmn : m < n := by omega
                    obtain ⟨l, hL⟩ : ∃ l, m - 1 = l := ⟨_, rfl⟩
                    have HL : Hid (m - 1 = l) := hL
                    have hli : (m : Int) - 1 = (l : Int) := by omega
                    have hln : l < n := by omega
                    have hml : ¬ m = l := by omega
                    have hwl : IntKind.i64.wrap (l : Int) = (l : Int) := wrapId (by omega) (by omega)
                    have hx1 : (0 : Int) ≤ (l : Int) := by omega
                    have hx2 : (l : Int) < (n : Int) := by omega
                    have hx3 : (0 : Int) ≤ (m : Int) := by omega
                    have hx4 : (m : Int) < (n : Int) := by omega
                    have ht1 : ((l : Int)).toNat = l := by omega
                    clear hL
                    go_wp2
                    go_quiet (first | (go_at_call 110; refine Calls.quiet_of_same (Less_any _ _ _)))
                    go_wp2
                    · have hl2 : ltInt (G3 m) (G3 l) = false := by first | assumption | (refine bnot_t ?_; assumption)
                      have HM : Hid (At blk off w0 (wr.drewN nq) n D2) := by
                        rw [← HJ.out, sd_stop1 (.inr (by rw [HL.out, ← HG3.out, ← HG3.out, hl2]))]
                        exact HK4.out.drewN _
                      clear hcw3 hfw3 HG3 HK4 HJ hl2 hwl hli hml hx1 hx2 hx3 hx4 ht1 hmn HL hln
                      have HM3 : D2 = D3 := by rw [← HD3.out, fixUp, if_neg hbi]
                      go_roundw
                      case rel => exact ⟨i2, s, D3, rfl, by congr 1; omega, by omega, by omega, by omega, (by rw [← HM3]; first | exact HM.out | (simp only [HG2.out]; exact HM.out)), HN.out⟩
                      case measure => simp [intOf]; omega
                    · have hl2 : ltInt (G3 m) (G3 l) = true := by first | assumption | (refine bnot_f ?_; assumption) | (refine bnot_n ?_; assumption)
                      go_region
                      all_goals go_wp2
                      go_roundw
                      case rel =>
                        refine ⟨l, swp dj m l, by congr 1; try omega, by omega, ?_, by rw [← HJ.out, sd_go1 (j := m) (d := dj) (by omega) (by rw [HL.out, ← HG3.out, ← HG3.out, hl2]), HL.out]⟩
                        simp only [HG3.out]
                        exact ((HK4.out.drewN _).drew).swap (by omega) (by omega)
                      case measure => simp [intOf]; omega
                  · have hm0 : m = 0 := by omega
                    subst hm0
                    have HM : Hid (At blk off w0 wr n D2) := by
                      rw [← HJ.out]
                      exact HK4.out
                    clear hcw3 hfw3 HG3 HK4 HJ
                    go_wp2
                    have HM3 : D2 = D3 := by rw [← HD3.out, fixUp, if_neg hbi]
                    go_roundw
                    case rel => exact ⟨i2, s, D3, rfl, by congr 1; omega, by omega, by omega, by omega, (by rw [← HM3]; first | exact HM.out | (simp only [HG2.out]; exact HM.out)), HN.out⟩
                    case measure => simp [intOf]; omega
              · have hia' : decide ((2 : Int) ≤ (i2 : Int) - (a : Int)) = false := by simp; omega
                try (exfalso; omega)
                all_goals
                  go_region
                  all_goals go_wp2
                  have HM : Hid (At blk off w0 (((wr.drewN nq).drew.setCell ⟨blk, off + i2, none⟩ (enc dk[i2 - 1]!)).setCell ⟨blk, off + (i2 - 1), none⟩ (enc dk[i2]!)) n D2) := by
                    rw [← HD2.out, fixDown, if_neg hia]
                    exact HK3.out
                  have HM3 : D2 = D3 := by rw [← HD3.out, fixUp, if_neg hbi]
                  go_roundw
                  case rel => exact ⟨i2, s, D3, rfl, by congr 1; omega, by omega, by omega, by omega, (by rw [← HM3]; first | exact HM.out | (simp only [HG2.out]; exact HM.out)), HN.out⟩
                  case measure => simp [intOf]; omega
        · have hi2e : i2 = b := by omega
          go_wp2
          go_quiet (first | (go_at_call 110; refine Calls.quiet_of_same (Less_any _ _ _)))
          go_wp2
          have HU : Hid (scanSorted ltInt dk b i = b) := by
            show _ = _
            rw [← HI.out, hi2e, ss_stop (.inl (by omega))]
          go_ret
          refine ⟨?_, ?_⟩
          · rw [HE.out, ← HO.out, partialIns_succ, HU.out, if_pos rfl]
            first | rfl | simp
          · rw [HE.out, ← HO.out, partialIns_succ, HU.out, if_pos rfl]
            exact HK2.out.drewN _
end SrtU
end Go.Proofs.YthecngkdmnadoaaGreat
