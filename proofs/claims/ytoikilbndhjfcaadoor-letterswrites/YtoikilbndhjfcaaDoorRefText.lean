/- The reference's Text: the same writing, or none. -/
import Derived.Test.YtoikilbndhjfcaaDoorRef
namespace Go.Proofs.YtoikilbndhjfcaaDoor
open Go.RowKit Nums
set_option maxRecDepth 100000

theorem nums_add (xs ys : List Int) : strOfNums xs ++ strOfNums ys = strOfNums (xs ++ ys) := by
  have h : (strOfNums xs ++ strOfNums ys).data.toList = (strOfNums (xs ++ ys)).data.toList := by
    simp [strOfNums_data]
  generalize strOfNums xs ++ strOfNums ys = a at *
  generalize strOfNums (xs ++ ys) = b at *
  cases a; cases b; congr; exact Array.toList_inj.1 h

set_option maxHeartbeats 2000000 in
theorem RefText_any (v : Value) (xs : List Int) (w : World) (hrow : Row w v xs) (hl : xs.length * 4 ≤ 140737488355328) (hw : ∀ x ∈ xs, -2147483648 ≤ x ∧ x < 2147483648) :
    Calls Tryd.prog 14 #[v] w fun e w' => e = .returned (.tuple #[.string (textS xs), .bool (allR xs)]) ∧ Below w.heap.size w w' := by
  obtain ⟨ao, cap, rfl, hcells⟩ := hrow
  have HC : Hid (0 < xs.length → ∃ b off, ao = some ⟨b, off, none⟩ ∧ ∀ i, i < xs.length → w.cell? ⟨b, off + i, none⟩ = some (.int .i32 (xs.getD i 0))) := hcells
  have HW : Hid (∀ x ∈ xs, -2147483648 ≤ x ∧ x < 2147483648) := hw
  clear hcells hw
  go_enter Tryd.func14, Tryd.ntmps14
  go_wp2
  go_loopw [4, 5] (fun t i wr => ∃ k : Nat, k ≤ xs.length ∧ i = .int .i64 k ∧ t = .string (strOfNums ((xs.take k).flatMap wrI)) ∧ allR (xs.take k) = true ∧ Below w.heap.size w wr)
    (fun _ i _ => xs.length - (intOf i).toNat)
  case atStart => exact ⟨0, Nat.zero_le _, rfl, rfl, rfl, Below.refl _ _⟩
  case round =>
    obtain ⟨k, hk, rfl, rfl, hall, hbel⟩ := hrel
    have HA : Hid (allR (xs.take k) = true) := hall
    clear hall
    by_cases hlt : k < xs.length
    · obtain ⟨b, off, rfl, hc⟩ := HC.out (by omega)
      have hcl := lt_of_cell (hc k hlt)
      have hck : wr.cell? ⟨b, off + k, none⟩ = some (.int .i32 (xs.getD k 0)) := by
        rw [hbel.cell (p := ⟨b, off + k, none⟩) hcl]; exact hc k hlt
      clear hc HC
      have hwk := HW.out (xs.getD k 0) (by simp [List.getD_eq_getElem?_getD, List.getElem?_eq_getElem hlt])
      have hnx := take_next xs k hlt
      generalize hx : xs.getD k 0 = x at *
      have HX : Hid (xs.getD k 0 = x) := hx
      have HN : Hid (xs.take (k + 1) = xs.take k ++ [x]) := hnx
      clear hnx hx HW
      cases hr : isR x
      · have HR : Hid (isR x = false) := hr
        clear hr
        have HF : Hid (allR xs = false) := text_no hlt (by rw [HX.out]; exact HR.out)
        go_wp2_with (go_at_call 23; refine (Rune_any _ _).mono ?_; rintro e w' ⟨rfl, rfl⟩; rw [HR.out])
        go_ret2
        refine ⟨?_, hbel⟩
        rw [HF.out, show textS xs = ByteArray.empty by unfold textS; rw [HF.out]; rfl]
        rfl
      · have HR : Hid (isR x = true) := hr
        clear hr
        have hbd := isR_bd HR.out
        have hfl := flat_len (xs.take k)
        rw [List.length_take] at hfl
        have hsum : (strOfNums ((xs.take k).flatMap wrI)).size + (strOfNums (wrI x)).size ≤ 9223372036854775807 := by
          rw [strOfNums_size, strOfNums_size]; have := wrI_len x; omega
        have HS : Hid (strOfNums ((xs.take k).flatMap wrI) ++ strOfNums (wrI x) = strOfNums ((xs.take (k + 1)).flatMap wrI)) := by
          show _ ++ _ = _
          rw [nums_add, HN.out, List.flatMap_append]; simp
        generalize strOfNums ((xs.take k).flatMap wrI) = sk at *
        go_wp2_with (first
          | (go_at_call 23; refine (Rune_any _ _).mono ?_; rintro e w' ⟨rfl, rfl⟩; rw [HR.out])
          | (go_at_call 24; refine (Write_any _ _ HR.out).mono ?_; rintro e w2 ⟨rfl, hb2⟩))
        go_roundw
        case rel =>
          refine ⟨k + 1, by omega, by go_num, congrArg Value.string HS.out, ?_, hbel.trans (hb2.mono hbel.size)⟩
          rw [HN.out]; have := HA.out; unfold allR at *; rw [List.all_append, this]; simp [HR.out]
        case measure => simp [intOf]; omega
    · obtain rfl : k = xs.length := by omega
      have HF : Hid (allR xs = true) := by have := HA.out; rw [List.take_length] at this; exact this
      have HT : Hid (strOfNums ((xs.take xs.length).flatMap wrI) = textS xs) := by
        show _ = _
        rw [List.take_length]; unfold textS; rw [HF.out]; rfl
      go_wp2
      go_ret2
      refine ⟨?_, hbel⟩
      rw [HF.out, ← HT.out]
      rfl
end Go.Proofs.YtoikilbndhjfcaaDoor
