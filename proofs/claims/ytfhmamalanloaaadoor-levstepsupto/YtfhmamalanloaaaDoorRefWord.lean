/- The reference's Word: it tells just the words that 'wordB' tells. -/
import Derived.Test.YtfhmamalanloaaaDoorRefRunes
namespace Go.Proofs.YtfhmamalanloaaaDoor
open Go.RowKit Nums
set_option maxRecDepth 100000

set_option maxHeartbeats 2000000 in
theorem RefWord_any (s : ByteArray) (w : World) (hm : s.size ≤ 9223372036854775807) :
    Calls Tryd.prog 25 #[.string s] w fun e w' => e = .returned (.bool (wordB s.data.toList)) ∧ Below w.heap.size w w' := by
  by_cases hs : 96 < s.size
  · have HF : Hid (wordB s.data.toList = false) := word_far (by rw [size_length]; exact hs)
    go_enter Tryd.func25, Tryd.ntmps25
    go_wp2
    go_ret
    exact ⟨by rw [HF.out]; rfl, Below.refl _ _⟩
  have HROOM : Hid (Room s.data.toList) := room_of_length (by rw [size_length]; omega)
  go_enter Tryd.func25, Tryd.ntmps25
  go_wp2_with fail
  refine (RefRunes_any s _ hm HROOM.out).mono ?_
  rintro e w1 ⟨v1, hb1, ⟨hr, rfl, rfl⟩ | ⟨xs, hr, rfl, hmade⟩⟩
  · have HF : Hid (wordB s.data.toList = false) := by show wordB _ = _; unfold wordB; rw [hr]
    clear hr
    go_wp2
    refine wp_loop_rounds 1 ?_
    rw [rounds_succ]
    go_wp2
    go_ret
    exact ⟨by rw [HF.out]; rfl, hb1⟩
  have HR : Hid (rs s.data.toList = some xs) := hr
  have hlen := (rs_len hr).2
  rw [size_length] at hlen
  clear hr
  obtain ⟨ao, cap, rfl, hc⟩ := hmade.row
  have HC : Hid (0 < xs.length → ∃ b off, ao = some ⟨b, off, none⟩ ∧ ∀ i, i < xs.length → w1.cell? ⟨b, off + i, none⟩ = some (.int .i32 (xs.getD i 0))) := hc
  clear hc hmade
  go_wp2
  go_loop [5] (fun i => ∃ k : Nat, k ≤ xs.length ∧ i = .int .i64 k ∧ (xs.take k).all vis = true) (fun i => xs.length - (intOf i).toNat)
  case atStart => exact ⟨0, Nat.zero_le _, rfl, rfl⟩
  case round =>
    obtain ⟨k, hk, rfl, hall⟩ := hrel
    have HA : Hid ((xs.take k).all vis = true) := hall
    clear hall
    by_cases hlt : k < xs.length
    · obtain ⟨b, off, rfl, hc⟩ := HC.out (by omega)
      have hck := hc k hlt
      clear hc HC
      generalize hx : xs.getD k 0 = x at *
      have HX : Hid (xs.getD k 0 = x) := hx
      clear hx
      by_cases h32 : x ≤ 32
      · have HF : Hid (wordB s.data.toList = false) := word_blind HR.out hlt (by rw [HX.out]; simp [vis]; omega)
        go_wp2
        go_ret
        exact ⟨by rw [HF.out]; rfl, hb1⟩
      by_cases h127 : x = 127
      · have HF : Hid (wordB s.data.toList = false) := word_blind HR.out hlt (by rw [HX.out]; simp [vis]; omega)
        have h127' : (x == 127) = true := beq_iff_eq.2 h127
        clear h127
        go_wp2
        go_ret
        exact ⟨by rw [HF.out]; rfl, hb1⟩
      · have h127' : (x == 127) = false := beq_eq_false_iff_ne.2 h127
        have HV : Hid (vis x = true) := by show vis x = true; simp [vis]; omega
        go_wp2
        go_round
        case rel => exact ⟨k + 1, by omega, by go_num, all_next hlt HA.out (by rw [HX.out]; exact HV.out)⟩
        case measure => simp [intOf]; omega
    · obtain rfl : k = xs.length := by omega
      have HF : Hid (wordB s.data.toList = (decide (1 ≤ xs.length) && decide (xs.length ≤ 24))) := word_of HR.out (by have := HA.out; rwa [List.take_length] at this)
      by_cases h1 : 1 ≤ xs.length
      · by_cases h24 : xs.length ≤ 24
        all_goals
          go_wp2
          go_ret
          refine ⟨?_, hb1⟩
          rw [HF.out]
          simp [h1, h24]
          omega
      · go_wp2
        go_ret
        refine ⟨?_, hb1⟩
        rw [HF.out]
        simp [h1]
end Go.Proofs.YtfhmamalanloaaaDoor
