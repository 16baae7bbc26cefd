/- letters.Common: with how many runes two texts begin alike. -/
import Derived.Test.YtoikilbndhjfcabDoorRefRunes
import Derived.Test.YtoikilbndhjfcabDoorPfx
namespace Go.Proofs.YtoikilbndhjfcabDoor
open Go.RowKit Nums
set_option maxRecDepth 100000

set_option maxHeartbeats 4000000 in
theorem Common_any (a b : ByteArray) (w : World) (ht : Tabs w) (ha : a.size ≤ 9223372036854775807) (hb : b.size ≤ 9223372036854775807) (ra : Room a.data.toList) (rb : Room b.data.toList) :
    Calls Tryd.prog 10 #[.string a, .string b] w fun e w' => e = .returned (.int .i64 (commonOf a.data.toList b.data.toList)) ∧ Below w.heap.size w w' := by
  go_enter Tryd.func10, Tryd.ntmps10
  go_wp2_with fail
  refine (Runes_any a _ ht ha ra).mono ?_
  rintro e w1 ⟨v1, hb1, hr1⟩
  rcases hr1 with ⟨hr1, rfl, rfl⟩ | ⟨xs, hr1, rfl, hmade1⟩
  · have HF : Hid (commonOf a.data.toList b.data.toList = 0) := common_none (.inl hr1)
    clear hr1
    go_wp2_with fail
    refine (Runes_any b _ (ht.below hb1) hb rb).mono ?_
    rintro e w2 ⟨v2, hb2, hr2⟩
    have hbb : Below w.heap.size w w2 := hb1.trans (hb2.mono hb1.size)
    rcases hr2 with ⟨hr2, rfl, rfl⟩ | ⟨ys, hr2, rfl, hmade2⟩
    all_goals
      clear hr2
      go_wp2
      go_ret
      exact ⟨by rw [HF.out]; rfl, hbb⟩
  have HR1 : Hid (rs a.data.toList = some xs) := hr1
  clear hr1
  go_wp2_with fail
  refine (Runes_any b _ (ht.below hb1) hb rb).mono ?_
  rintro e w2 ⟨v2, hb2, hr2⟩
  have hbb : Below w.heap.size w w2 := hb1.trans (hb2.mono hb1.size)
  rcases hr2 with ⟨hr2, rfl, rfl⟩ | ⟨ys, hr2, rfl, hmade2⟩
  · have HF : Hid (commonOf a.data.toList b.data.toList = 0) := common_none (.inr hr2)
    clear hr2
    go_wp2
    go_ret
    exact ⟨by rw [HF.out]; rfl, hbb⟩
  have HR2 : Hid (rs b.data.toList = some ys) := hr2
  have hl1 := (rs_len HR1.out).2
  have hl2 := (rs_len hr2).2
  rw [size_length] at hl1 hl2
  clear hr2
  obtain ⟨ao1, cap1, rfl, hc1⟩ := (hmade1.below hb2).row
  obtain ⟨ao2, cap2, rfl, hc2⟩ := hmade2.row
  have HC1 : Hid (0 < xs.length → ∃ b off, ao1 = some ⟨b, off, none⟩ ∧ ∀ i, i < xs.length → w2.cell? ⟨b, off + i, none⟩ = some (.int .i32 (xs.getD i 0))) := hc1
  have HC2 : Hid (0 < ys.length → ∃ b off, ao2 = some ⟨b, off, none⟩ ∧ ∀ i, i < ys.length → w2.cell? ⟨b, off + i, none⟩ = some (.int .i32 (ys.getD i 0))) := hc2
  clear hc1 hc2 hmade1 hmade2
  go_wp2
  go_loopw [9] (fun i wr => ∃ k : Nat, k ≤ xs.length ∧ k ≤ ys.length ∧ i = .int .i64 k ∧ (∀ j, j < k → xs.getD j 0 = ys.getD j 0) ∧ ∃ n, wr = w2.drewN n) (fun i _ => xs.length - (intOf i).toNat)
  case atStart => exact ⟨0, Nat.zero_le _, Nat.zero_le _, rfl, fun j h => by omega, 0, rfl⟩
  case round =>
    obtain ⟨k, hk1, hk2, rfl, hall, nw, rfl⟩ := hrel
    have HA : Hid (∀ j, j < k → xs.getD j 0 = ys.getD j 0) := hall
    clear hall
    by_cases hlt1 : k < xs.length
    · have d1 : decide (k < xs.length) = true := decide_eq_true hlt1
      by_cases hlt2 : k < ys.length
      · have d2 : decide (k < ys.length) = true := decide_eq_true hlt2
        obtain ⟨g1, off1, rfl, hc1⟩ := HC1.out (by omega)
        obtain ⟨g2, off2, rfl, hc2⟩ := HC2.out (by omega)
        have hck1 := hc1 k hlt1
        have hck2 := hc2 k hlt2
        clear hc1 hc2
        generalize hx : xs.getD k 0 = x at *
        generalize hy : ys.getD k 0 = y at *
        have HX : Hid (xs.getD k 0 = x) := hx
        have HY : Hid (ys.getD k 0 = y) := hy
        clear hx hy
        by_cases hxy : x = y
        · subst hxy
          have HB : Hid (∀ j, j < k + 1 → xs.getD j 0 = ys.getD j 0) := fun j h => by
            by_cases e : j = k
            · subst e; rw [HX.out, HY.out]
            · exact HA.out j (by omega)
          go_wp2
          go_quiet (fail)
          go_wp2
          go_roundw
          case rel => exact ⟨k + 1, by omega, by omega, by go_num, HB.out, _, rfl⟩
          case measure => simp [intOf]; omega
        · have hb : (x == y) = false := beq_eq_false_iff_ne.2 hxy
          have HF : Hid (commonOf a.data.toList b.data.toList = k) := by
            show commonOf _ _ = _
            rw [common_some HR1.out HR2.out]
            exact pfx_at k xs ys hk1 hk2 HA.out (.inr (.inr (by rw [HX.out, HY.out]; exact hxy)))
          clear hxy
          go_wp2
          go_quiet (fail)
          go_wp2
          go_ret
          exact ⟨by rw [HF.out]; rfl, by first | exact below_drewN hbb _ | exact below_drewN (below_drewN hbb _) _⟩
      · have d2 : decide (k < ys.length) = false := decide_eq_false hlt2
        have HF : Hid (commonOf a.data.toList b.data.toList = k) := by
          show commonOf _ _ = _
          rw [common_some HR1.out HR2.out]
          exact pfx_at k xs ys hk1 hk2 HA.out (.inr (.inl (by omega)))
        go_wp2
        go_quiet (fail)
        go_wp2
        go_ret
        exact ⟨by rw [HF.out]; rfl, by first | exact below_drewN hbb _ | exact below_drewN (below_drewN hbb _) _⟩
    · have d1 : decide (k < xs.length) = false := decide_eq_false hlt1
      have HF : Hid (commonOf a.data.toList b.data.toList = k) := by
        show commonOf _ _ = _
        rw [common_some HR1.out HR2.out]
        exact pfx_at k xs ys hk1 hk2 HA.out (.inl (by omega))
      go_wp2
      go_quiet (fail)
      go_wp2
      go_ret
      exact ⟨by rw [HF.out]; rfl, by first | exact below_drewN hbb _ | exact below_drewN (below_drewN hbb _) _⟩
end Go.Proofs.YtoikilbndhjfcabDoor
