/- LettersApart: the law's own walk. -/
import Derived.Test.YtoikilbndhjfcabDoorAlive
import Derived.Test.YtoikilbndhjfcabDoorCodes
import Derived.Deep.RegionHeld3
import Derived.Deep.DrawnRows
namespace Go.Proofs.YtoikilbndhjfcabDoor
open Go.RowKit Nums
set_option maxRecDepth 100000
attribute [local go_sem ↓] Go.wp_at_zero Go.wp_at_succ

theorem isR_of_all {a : Int} (h : allR [a] = true) : isR a = true := by simpa [allR] using h
theorem text_one {a : Int} (h : allR [a] = true) : (textS [a]).data.toList = wr a := by
  unfold textS; rw [if_pos h, strOfNums_data]; simp [wr]; intros; rfl
theorem ext_take (s : ByteArray) (n : Nat) : (s.extract 0 n).toList = s.data.toList.take n := by
  rw [ByteArray.toList_eq]; simp [ByteArray.extract, ByteArray.copySlice]
theorem text_pos {a : Int} (h : allR [a] = true) : 0 < (textS [a]).size := by
  rw [← size_length, text_one h, wr_len]; have := wrI_len a; omega
theorem apart_ne {a b : Int} (ha : allR [a] = true) (hb : allR [b] = true) (hab : ¬ a = b) : ((textS [a]).data.toList.take (textS [b]).size == (textS [b]).data.toList) = false := by
  rw [beq_eq_false_iff_ne]
  intro e
  rw [text_one ha, text_one hb] at e
  refine hab (wr_apart (isR_of_all ha) (isR_of_all hb) ((wr a).drop (textS [b]).size) ?_)
  rw [← e, List.take_append_drop]

set_option maxHeartbeats 2000000 in
theorem apart_walk (a b : Int) (w : World) (ht : Tabs w) : Calls Tryd.prog 3 #[.int .i32 a, .int .i32 b] w fun e w' => e = .returned (.bool true) ∧ Below w.heap.size w w' := by
  go_enter Tryd.func3, Tryd.ntmps3
  go_wp2_with fail
  refine (Text_any _ [a] _ (ht.below ((Below.refl _ _).alloc (Nat.le_refl _) _)) (row_one w a) (by simp)).mono ?_
  rintro e w1 ⟨rfl, hb1⟩
  have hbA : Below w.heap.size w w1 := ((Below.refl _ _).alloc (Nat.le_refl _) _).trans (hb1.mono (by simp))
  clear hb1
  have ht1 := ht.below hbA
  go_wp2_with fail
  refine (Text_any _ [b] _ (ht1.below ((Below.refl _ _).alloc (Nat.le_refl _) _)) (row_one w1 b) (by simp)).mono ?_
  rintro e w2 ⟨rfl, hb2⟩
  have hbB : Below w.heap.size w w2 := (hbA.alloc hbA.size _).trans (hb2.mono (by have := hbA.size; simp; omega))
  clear hb2
  have ht2 := ht.below hbB
  cases ha : allR [a]
  · have HA : Hid (allR [a] = false) := ha
    clear ha
    go_wp2_with (go_at_call 7; refine (alive_any _ ht2).mono ?_; rintro e w3 ⟨rfl, hb3⟩)
    go_ret
    exact ⟨rfl, hbB.trans (hb3.mono hbB.size)⟩
  cases hb : allR [b]
  · go_wp2_with (go_at_call 7; refine (alive_any _ ht2).mono ?_; rintro e w3 ⟨rfl, hb3⟩)
    go_ret
    exact ⟨rfl, hbB.trans (hb3.mono hbB.size)⟩
  by_cases hab : a = b
  · have hab' : (a == b) = true := beq_iff_eq.2 hab
    clear hab
    go_wp2_with (go_at_call 7; refine (alive_any _ ht2).mono ?_; rintro e w3 ⟨rfl, hb3⟩)
    go_ret
    exact ⟨rfl, hbB.trans (hb3.mono hbB.size)⟩
  have hab' : (a == b) = false := beq_eq_false_iff_ne.2 hab
  have hsa : 0 < (textS [a]).size := text_pos ha
  have hsb : 0 < (textS [b]).size := text_pos hb
  have HN1 : Hid (((textS [a]).data.toList.take (textS [b]).size == (textS [b]).data.toList) = false) := apart_ne ha hb hab
  have HN2 : Hid (((textS [b]).data.toList.take (textS [a]).size == (textS [a]).data.toList) = false) := apart_ne hb ha (fun e => hab e.symm)
  generalize textS [a] = sa at *
  generalize textS [b] = sb at *
  by_cases hlt : sb.size < sa.size
  · have h1 : (sb.size : Int) ≤ (sa.size : Int) := by omega
    have h2 : (0 : Int) < (sb.size : Int) := by omega
    go_wp2_with fail
    go_region_held3 (fun _ => True) (trivial) ((go_at_call 7; refine (alive_any _ (by exact ht2)).mono ?_; rintro e w3 ⟨rfl, hb3⟩))
    all_goals go_wp2
    all_goals go_ret
    all_goals refine ⟨?_, hbB.drew.trans (hb3.mono hbB.size)⟩
    refine ret_bool ?_
    rw [ext_take, ByteArray.toList_eq, HN1.out]
    rfl
  · have h1 : (sa.size : Int) ≤ (sb.size : Int) := by omega
    have h2 : (0 : Int) < (sa.size : Int) := by omega
    go_wp2_with fail
    go_region_held3 (fun _ => True) (trivial) ((go_at_call 7; refine (alive_any _ (by exact ht2)).mono ?_; rintro e w3 ⟨rfl, hb3⟩))
    all_goals go_wp2
    all_goals go_ret
    all_goals refine ⟨?_, hbB.drew.trans (hb3.mono hbB.size)⟩
    refine ret_bool ?_
    rw [ext_take, ByteArray.toList_eq, BEq.comm, HN2.out]
    rfl
end Go.Proofs.YtoikilbndhjfcabDoor
