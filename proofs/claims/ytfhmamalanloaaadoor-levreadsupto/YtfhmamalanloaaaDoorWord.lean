/- letters.Word: it tells just the words that 'wordB' tells. -/
import Derived.Test.YtfhmamalanloaaaDoorRead
import Derived.Test.YtfhmamalanloaaaDoorTexts
namespace Go.Proofs.YtfhmamalanloaaaDoor
open Go.RowKit Nums
set_option maxRecDepth 100000

theorem lt_of_cell {w : World} {b o : Nat} {v : Value} (h : w.cell? ⟨b, o, none⟩ = some v) : b < w.heap.size := World.block_lt_of_cell? w ⟨b, o, none⟩ h
/-- The tables are there still. -/
theorem Tabs.below {w w' : World} (h : Tabs w) (hb : Below w.heap.size w w') : Tabs w' := by
  obtain ⟨c2, c3, c4, c1, t1, t2, t3, t4⟩ := h
  refine ⟨?_, ?_, ?_, ?_, ?_, ?_, ?_, ?_⟩
  all_goals (first
    | exact (hb.cell (p := ⟨0, 2, none⟩) (lt_of_cell c2)).trans c2
    | exact (hb.cell (p := ⟨0, 3, none⟩) (lt_of_cell c3)).trans c3
    | exact (hb.cell (p := ⟨0, 4, none⟩) (lt_of_cell c4)).trans c4
    | exact (hb.cell (p := ⟨0, 1, none⟩) (lt_of_cell c1)).trans c1
    | exact (hb.cell (p := ⟨1, 1, none⟩) (lt_of_cell t1)).trans t1
    | exact (hb.cell (p := ⟨1, 2, none⟩) (lt_of_cell t2)).trans t2
    | exact (hb.cell (p := ⟨1, 3, none⟩) (lt_of_cell t3)).trans t3
    | exact (hb.cell (p := ⟨1, 4, none⟩) (lt_of_cell t4)).trans t4)
theorem Tabs.drewN {w : World} (h : Tabs w) (n : Nat) : Tabs (w.drewN n) := h

theorem ne_of_size {s : ByteArray} (h : 0 < s.size) : s.data.toList ≠ [] := by
  intro e; have := size_length s; rw [e] at this; simp at this; omega
theorem nil_of_size {s : ByteArray} (h : ¬ 0 < s.size) : s.data.toList = [] := List.length_eq_zero_iff.1 (by rw [size_length]; omega)

set_option maxHeartbeats 2000000 in
theorem Word_any (s : ByteArray) (w : World) (ht : Tabs w) (hm : s.size ≤ 9223372036854775807) :
    Calls Tryd.prog 23 #[.string s] w fun e w' => e = .returned (.bool (wordB s.data.toList)) ∧ ∃ n, w' = w.drewN n := by
  go_enter Tryd.func23, Tryd.ntmps23
  go_wp2
  go_loopw [0, 3] (fun t c wr => ∃ (m : ByteArray) (pre : List Int), t = .string m ∧ m.size ≤ s.size ∧ c = .int .i64 pre.length ∧ pre.length ≤ 24 ∧ pre.all vis = true ∧ Remains s.data.toList m.data.toList pre ∧ ∃ n, wr = w.drewN n)
    (fun t _ _ => lenOf t)
  case atStart => exact ⟨s, [], rfl, Nat.le_refl _, rfl, by simp, rfl, left_start _, 0, rfl⟩
  case round =>
    obtain ⟨m, pre, rfl, hms, rfl, hp, hv, hL, nw, rfl⟩ := hrel
    have HL : Hid (Remains s.data.toList m.data.toList pre) := hL
    have HV : Hid (pre.all vis = true) := hv
    clear hL hv
    by_cases h0 : 0 < m.size
    · have hne := ne_of_size h0
      have hbd := rd_bd hne
      rw [size_length] at hbd
      have HNE : Hid (m.data.toList ≠ []) := hne
      clear hne
      generalize hr : rd m.data.toList = q at hbd
      obtain ⟨r, n⟩ := q
      have HR : Hid (rd m.data.toList = (r, n)) := hr
      clear hr
      simp only at hbd
      by_cases hn : n = 0
      · subst hn
        go_wp2_with (go_at_call 28; refine (readRune_any _ _ (ht.drewN _) h0 (by omega)).mono ?_; rintro e w' ⟨rfl, n2, rfl⟩; rw [HR.out])
        go_ret
        refine ⟨?_, _, by first | rfl | rw [World.drewN_drewN]⟩
        rw [word_none HL.out HNE.out (by rw [HR.out])]
        rfl
      have hn0 : ((n : Int) == 0) = false := beq_eq_false_iff_ne.2 (by omega)
      cases hvv : vis r
      · have HVV : Hid (vis r = false) := hvv
        clear hvv
        go_wp2_with (first
          | (go_at_call 28; refine (readRune_any _ _ (ht.drewN _) h0 (by omega)).mono ?_; rintro e w' ⟨rfl, n2, rfl⟩; rw [HR.out])
          | (go_at_call 29; refine (inWord_any _ _).mono ?_; rintro e w' ⟨rfl, rfl⟩; rw [HVV.out]))
        go_ret
        refine ⟨?_, _, by first | rfl | rw [World.drewN_drewN]⟩
        rw [word_unseen HL.out HNE.out (by rw [HR.out]; exact hn) (by rw [HR.out]; exact HVV.out)]
        rfl
      · have HVV : Hid (vis r = true) := hvv
        clear hvv
        by_cases hc : pre.length = 24
        · have HC : Hid (pre.length = 24) := hc
          have hc' : ((pre.length : Int) == 24) = true := beq_iff_eq.2 (by omega)
          clear hc
          go_wp2_with (first
            | (go_at_call 28; refine (readRune_any _ _ (ht.drewN _) h0 (by omega)).mono ?_; rintro e w' ⟨rfl, n2, rfl⟩; rw [HR.out])
            | (go_at_call 29; refine (inWord_any _ _).mono ?_; rintro e w' ⟨rfl, rfl⟩; rw [HVV.out]))
          go_ret
          refine ⟨?_, _, by first | rfl | rw [World.drewN_drewN]⟩
          rw [word_long HL.out HNE.out (by rw [HR.out]; exact hn) HC.out]
          rfl
        · have hc' : ((pre.length : Int) == 24) = false := beq_eq_false_iff_ne.2 (by omega)
          go_wp2_with (first
            | (go_at_call 28; refine (readRune_any _ _ (ht.drewN _) h0 (by omega)).mono ?_; rintro e w' ⟨rfl, n2, rfl⟩; rw [HR.out])
            | (go_at_call 29; refine (inWord_any _ _).mono ?_; rintro e w' ⟨rfl, rfl⟩; rw [HVV.out]))
          go_roundw
          case rel =>
            refine ⟨m.extract n m.size, pre ++ [r], rfl, by rw [extract_size]; omega, by simp, by simp; omega, ?_, rest_go HL.out HNE.out HR.out hn, _, by first | rfl | rw [World.drewN_drewN]⟩
            have := HV.out
            have h2 := HVV.out
            simp [this, h2]
          case measure => simp only [lenOf]; rw [extract_size]; omega
    · have HN : Hid (m.data.toList = []) := nil_of_size h0
      have HF : Hid (wordB s.data.toList = decide (0 < pre.length)) := word_end (by have := HL.out; rw [HN.out] at this; exact this) hp HV.out
      go_wp2
      go_ret
      refine ⟨?_, _, rfl⟩
      rw [HF.out]
      rfl
end Go.Proofs.YtfhmamalanloaaaDoor
