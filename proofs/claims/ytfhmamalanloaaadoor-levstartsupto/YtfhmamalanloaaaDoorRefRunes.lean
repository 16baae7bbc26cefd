/- The reference's Runes: the same runes, in new memory, or none. -/
import Derived.Test.YtfhmamalanloaaaDoorFirst
namespace Go.Proofs.YtfhmamalanloaaaDoor
open Go.RowKit Nums
set_option maxRecDepth 100000

set_option maxHeartbeats 2000000 in
theorem RefRunes_any (s : ByteArray) (w : World) (hm : s.size ≤ 9223372036854775807) (hroom : Room s.data.toList) :
    Calls Tryd.prog 26 #[.string s] w fun e w' => ∃ v, Below w.heap.size w w' ∧
      ((rs s.data.toList = none ∧ v = .slice none 0 0 ∧ e = .returned (.tuple #[v, .bool false])) ∨
       ∃ xs, rs s.data.toList = some xs ∧ e = .returned (.tuple #[v, .bool true]) ∧ Made w.heap.size w' v xs) := by
  obtain ⟨i0, hi, hz0, hz1, hz2⟩ := info_parts infoRune
  go_enter Tryd.func26, Tryd.ntmps26
  go_wp2
  go_loopw [0, 4] (fun t v wr => ∃ (m : ByteArray) (pre : List Int), t = .string m ∧ m.size + pre.length ≤ s.size ∧ Made w.heap.size wr v pre ∧ Remains s.data.toList m.data.toList pre ∧ Below w.heap.size w wr)
    (fun t _ _ => lenOf t)
  case atStart => exact ⟨s, [], rfl, by simp, World.ownsRow_nil _ _ _ _, left_start _, Below.refl _ _⟩
  case round =>
    obtain ⟨m, pre, rfl, hms, hown, hL, hbel⟩ := hrel
    have HL : Hid (Remains s.data.toList m.data.toList pre) := hL
    clear hL
    by_cases h0 : 0 < m.size
    · have hne := ne_of_size h0
      have hbd := rd_bd hne
      rw [size_length] at hbd
      have HNE : Hid (m.data.toList ≠ []) := hne
      clear hne
      generalize hr : rd m.data.toList = q at hbd
      obtain ⟨r, n⟩ := q
      have HR : Hid (rd m.data.toList = (r, n)) := hr
      clear hr
      simp only at hbd
      by_cases hn : n = 0
      · subst hn
        have HF : Hid (rs s.data.toList = none) := left_none HL.out HNE.out (by rw [HR.out])
        go_wp2_with (go_at_call 30; refine (First_any _ _ h0 (by omega)).mono ?_; rintro e w2 ⟨rfl, hb2⟩; rw [HR.out])
        go_ret2
        exact ⟨_, hbel.trans (hb2.mono hbel.size), .inl ⟨HF.out, rfl, rfl⟩⟩
      have hrb : 0 ≤ r ∧ r < 1114112 := by
        have h2 := rd_isR (l := m.data.toList) (by rw [HR.out]; exact hn)
        rw [HR.out] at h2; exact isR_bd h2
      have hn0 : ((n : Int) == 0) = false := beq_eq_false_iff_ne.2 (by omega)
      have hrm : pre.length + 1 ≤ 35184372088832 := hroom m.data.toList pre HL.out (by rw [size_length, size_length]; exact hms) HNE.out (by rw [HR.out]; exact hn)
      go_wp2_with (first
        | (go_at_call 30; refine (First_any _ _ h0 (by omega)).mono ?_; rintro e w2 ⟨rfl, hb2⟩; rw [HR.out])
        | (at_builtin; refine wpList_append_own _ rfl _ _ 28 rfl w.heap.size 21 i0 (.int .i32 0) 1 4 Tryd.underlying28 hi hz0 hz1 hz2 rfl (by decide) _ _ _ rfl (World.ownsRow.alloc (hown.below hb2) _) ⟨w2.heap.size, 0, none⟩ 1 1 [.int .i32 r] rfl rfl ?c1 ?c2 ?c3 ?c4 ?c5 ?_))
      case c1 =>
        intro j u hj
        match j, hj with
        | 0, hj => simp at hj; subst hj; exact cell_new w2 r
      case c2 => intro u hu; simp at hu; subst hu; rfl
      case c3 => unfold maxLen; omega
      case c4 => omega
      case c5 => have := hbel.size; have := hb2.size; simp; omega
      intro v' w1 hown' hgrow _
      have hown2 : Made w.heap.size w1 v' (pre ++ [r]) := by unfold Made; simpa using hown'
      have hbw : Below w.heap.size w w2 := hbel.trans (hb2.mono hbel.size)
      have hb1 : Below w.heap.size w w1 := (hbw.alloc hbw.size _).grown hgrow (by have := hbw.size; simp; omega) (fun k hk => (World.ownsRow.lt hown k hk).1)
      clear hown' hgrow hown
      go_wp2
      go_roundw
      case rel => exact ⟨m.extract n m.size, pre ++ [r], rfl, by rw [extract_size]; simp; omega, hown2, rest_go HL.out HNE.out HR.out hn, hb1⟩
      case measure => simp only [lenOf]; rw [extract_size]; omega
    · have HN : Hid (m.data.toList = []) := nil_of_size h0
      have HF : Hid (rs s.data.toList = some pre) := left_end (by have := HL.out; rw [HN.out] at this; exact this)
      go_wp2
      go_ret2
      exact ⟨_, hbel, .inr ⟨pre, HF.out, rfl, hown⟩⟩
end Go.Proofs.YtfhmamalanloaaaDoor
