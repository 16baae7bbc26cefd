/- Texts that were written apart, joined. -/
import Derived.Test.YtncnefpkfbngaaaGreatDoorJ3
import Derived.Laws.BytesArg
import Derived.Test.YtncnefpkfbngaaaGreatDoorG0
import Derived.Test.YtncnefpkfbngaaaGreatDoorDrawn8
/- letters.size. -/
namespace Go.Proofs.YtncnefpkfbngaaaGreatDoor
open Go.RowKit Nums
set_option maxRecDepth 100000

set_option maxHeartbeats 400000 in
theorem size_any (r : Int) (w : World) (ht : Tabs w) : Calls Tryz.prog 114 #[.int .i32 r] w fun e w' => e = .returned (.int .i64 (sz r)) ∧ w' = w := by
 obtain ⟨_, _, _, _, _, t2, t3, t4⟩ := ht
 go_enter Tryz.func114, Tryz.ntmps114
 go_wp2
 go_loop [3] (fun n => ∃ k : Nat, 1 ≤ k ∧ k ≤ 4 ∧ n = .int .i64 k ∧ (2 ≤ k → 128 ≤ r) ∧ (3 ≤ k → 2048 ≤ r) ∧ (4 ≤ k → 65536 ≤ r)) (fun n => 4 - (intOf n).toNat)
 case atStart => exact ⟨1, by omega, by omega, rfl, by omega, by omega, by omega⟩
 case round =>
  obtain ⟨k, hk1, hk4, rfl, g2, g3, g4⟩ := hrel
  obtain rfl | rfl | rfl | rfl : k = 1 ∨ k = 2 ∨ k = 3 ∨ k = 4 := by omega
  · by_cases h : 128 ≤ r
    · go_wp2
      go_round
      case rel => exact ⟨2, by omega, by omega, rfl, by omega, by omega, by omega⟩
      case measure => simp [intOf]
    · go_wp2
      go_ret
      exact ⟨ret_int (by unfold sz; repeat' split; all_goals omega), rfl⟩
  · by_cases h : 2048 ≤ r
    · go_wp2
      go_round
      case rel => exact ⟨3, by omega, by omega, rfl, by omega, by omega, by omega⟩
      case measure => simp [intOf]
    · go_wp2
      go_ret
      exact ⟨ret_int (by unfold sz; repeat' split; all_goals omega), rfl⟩
  · by_cases h : 65536 ≤ r
    · go_wp2
      go_round
      case rel => exact ⟨4, by omega, by omega, rfl, by omega, by omega, by omega⟩
      case measure => simp [intOf]
    · go_wp2
      go_ret
      exact ⟨ret_int (by unfold sz; repeat' split; all_goals omega), rfl⟩
  · go_wp2
    go_ret
    exact ⟨ret_int (by unfold sz; repeat' split; all_goals omega), rfl⟩
end Go.Proofs.YtncnefpkfbngaaaGreatDoor

/- letters.appendRune: the writing of a rune, laid behind the bytes that are there. -/
namespace Go.Proofs.YtncnefpkfbngaaaGreatDoor
open Go.RowKit Nums
set_option maxRecDepth 100000

theorem infoByte : (Tryz.prog.info? 5).map (fun i => (i.zero, i.size, i.bytes)) = some (some (.int .u8 0), 1, 1) := by kernel_rfl
/-- A slice of bytes that the call has made owns the numbers xs. -/
def Bytes (B : Nat) (w : World) (v : Value) (xs : List Int) : Prop := w.ownsRow B 5 1 v xs.length (xs.map (Value.int .u8))

set_option maxHeartbeats 2000000 in
theorem appendRune_1 (B : Nat) (vb : Value) (xs : List Int) (r : Int) (w : World) (ht : Tabs w) (hown : Bytes B w vb xs) (hB : B ≤ w.heap.size) (hl : xs.length + 4 ≤ 140737488355328) (h0 : 0 ≤ r) (h1 : r < 128) :
 Calls Tryz.prog 100 #[vb, .int .i32 r] w fun e w' => ∃ v', e = .returned v' ∧ Bytes B w' v' (xs ++ [r]) ∧ Below B w w' := by
 have HS : Hid (sz r = 1) := sz1 h0 h1
 obtain ⟨i0, hi, hz0, hz1, hz2⟩ := info_parts infoByte
 obtain ⟨c2, c3, c4, c1, t1, t2, t3, t4⟩ := id ht
 have b2 := lt_of_cell c2
 have htA : ∀ o, Tabs (w.alloc o) := fun o => ht.below ((Below.refl _ _).alloc (Nat.le_refl _) o)
 have HTA : Hid (∀ o, Tabs (w.alloc o)) := htA
 clear htA
 go_enter Tryz.func100, Tryz.ntmps100
 go_wp2_with (first | (go_at_call 114; refine (size_any _ _ (HTA.out _)).mono ?_; rintro e w' ⟨rfl, rfl⟩; rw [HS.out]))
 refine wp_loop_rounds 1 ?_
 rw [rounds_succ]
 go_wp2_with (at_builtin; refine wpList_append_own _ rfl _ _ 162 rfl B 5 i0 (.int .u8 0) 1 1 Tryz.underlying162 hi hz0 hz1 hz2 rfl (by decide) _ _ _ rfl (World.ownsRow.alloc hown _) ⟨w.heap.size, 0, none⟩ 1 4 [.int .u8 (r)] rfl rfl ?c1 ?c2 ?c3 ?c4 ?c5 ?_)
 case c1 =>
  intro j u hj
  match j, hj with
  | 0, hj => simp at hj; subst hj; simp [Addr.add]
 case c2 => intro u hu; simp at hu; subst hu; rfl
 case c3 => unfold maxLen; omega
 case c4 => omega
 case c5 => simp; omega
 intro v' w1 hown' hgrow _
 have hb : Below B w w1 := ((Below.refl B w).alloc hB _).grown hgrow (by simp; omega) (fun k hk => (World.ownsRow.lt hown k hk).1)
 have hown2 : Bytes B w1 v' (xs ++ [r]) := by unfold Bytes; simpa using hown'
 clear hown' hgrow hown
 go_wp2
 go_ret
 exact ⟨_, rfl, hown2, hb⟩

set_option maxHeartbeats 2000000 in
theorem appendRune_2 (B : Nat) (vb : Value) (xs : List Int) (r : Int) (w : World) (ht : Tabs w) (hown : Bytes B w vb xs) (hB : B ≤ w.heap.size) (hl : xs.length + 4 ≤ 140737488355328) (h0 : 128 ≤ r) (h1 : r < 2048) :
 Calls Tryz.prog 100 #[vb, .int .i32 r] w fun e w' => ∃ v', e = .returned v' ∧ Bytes B w' v' (xs ++ [192 + r / 64, 128 + r % 64]) ∧ Below B w w' := by
 have HS : Hid (sz r = 2) := sz2 h0 h1
 obtain ⟨i0, hi, hz0, hz1, hz2⟩ := info_parts infoByte
 obtain ⟨c2, c3, c4, c1, t1, t2, t3, t4⟩ := id ht
 have b2 := lt_of_cell c2
 have htA : ∀ o, Tabs (w.alloc o) := fun o => ht.below ((Below.refl _ _).alloc (Nat.le_refl _) o)
 have HTA : Hid (∀ o, Tabs (w.alloc o)) := htA
 clear htA
 go_enter Tryz.func100, Tryz.ntmps100
 go_wp2_with (first | (go_at_call 114; refine (size_any _ _ (HTA.out _)).mono ?_; rintro e w' ⟨rfl, rfl⟩; rw [HS.out]))
 refine wp_loop_rounds 2 ?_
 rw [rounds_succ]
 go_wp2
 rw [rounds_succ]
 go_wp2_with (at_builtin; refine wpList_append_own _ rfl _ _ 162 rfl B 5 i0 (.int .u8 0) 1 1 Tryz.underlying162 hi hz0 hz1 hz2 rfl (by decide) _ _ _ rfl (World.ownsRow.alloc hown _) ⟨w.heap.size, 0, none⟩ 2 4 [.int .u8 (192 + r / 64), .int .u8 (128 + r % 64)] rfl rfl ?c1 ?c2 ?c3 ?c4 ?c5 ?_)
 case c1 =>
  intro j u hj
  match j, hj with
  | 0, hj => simp at hj; subst hj; simp [Addr.add]
  | 1, hj => simp at hj; subst hj; simp [Addr.add]
 case c2 => intro u hu; simp at hu; rcases hu with rfl | rfl <;> rfl
 case c3 => unfold maxLen; omega
 case c4 => omega
 case c5 => simp; omega
 intro v' w1 hown' hgrow _
 have hb : Below B w w1 := ((Below.refl B w).alloc hB _).grown hgrow (by simp; omega) (fun k hk => (World.ownsRow.lt hown k hk).1)
 have hown2 : Bytes B w1 v' (xs ++ [192 + r / 64, 128 + r % 64]) := by unfold Bytes; simpa using hown'
 clear hown' hgrow hown
 go_wp2
 go_ret
 exact ⟨_, rfl, hown2, hb⟩

set_option maxHeartbeats 2000000 in
theorem appendRune_3 (B : Nat) (vb : Value) (xs : List Int) (r : Int) (w : World) (ht : Tabs w) (hown : Bytes B w vb xs) (hB : B ≤ w.heap.size) (hl : xs.length + 4 ≤ 140737488355328) (h0 : 2048 ≤ r) (h1 : r < 65536) :
 Calls Tryz.prog 100 #[vb, .int .i32 r] w fun e w' => ∃ v', e = .returned v' ∧ Bytes B w' v' (xs ++ [224 + r / 64 / 64, 128 + r / 64 % 64, 128 + r % 64]) ∧ Below B w w' := by
 have HS : Hid (sz r = 3) := sz3 h0 h1
 obtain ⟨i0, hi, hz0, hz1, hz2⟩ := info_parts infoByte
 obtain ⟨c2, c3, c4, c1, t1, t2, t3, t4⟩ := id ht
 have b2 := lt_of_cell c2
 have htA : ∀ o, Tabs (w.alloc o) := fun o => ht.below ((Below.refl _ _).alloc (Nat.le_refl _) o)
 have HTA : Hid (∀ o, Tabs (w.alloc o)) := htA
 clear htA
 go_enter Tryz.func100, Tryz.ntmps100
 go_wp2_with (first | (go_at_call 114; refine (size_any _ _ (HTA.out _)).mono ?_; rintro e w' ⟨rfl, rfl⟩; rw [HS.out]))
 refine wp_loop_rounds 3 ?_
 rw [rounds_succ]
 go_wp2
 rw [rounds_succ]
 go_wp2
 rw [rounds_succ]
 go_wp2_with (at_builtin; refine wpList_append_own _ rfl _ _ 162 rfl B 5 i0 (.int .u8 0) 1 1 Tryz.underlying162 hi hz0 hz1 hz2 rfl (by decide) _ _ _ rfl (World.ownsRow.alloc hown _) ⟨w.heap.size, 0, none⟩ 3 4 [.int .u8 (224 + r / 64 / 64), .int .u8 (128 + r / 64 % 64), .int .u8 (128 + r % 64)] rfl rfl ?c1 ?c2 ?c3 ?c4 ?c5 ?_)
 case c1 =>
  intro j u hj
  match j, hj with
  | 0, hj => simp at hj; subst hj; simp [Addr.add]
  | 1, hj => simp at hj; subst hj; simp [Addr.add]
  | 2, hj => simp at hj; subst hj; simp [Addr.add]
 case c2 => intro u hu; simp at hu; rcases hu with rfl | rfl | rfl <;> rfl
 case c3 => unfold maxLen; omega
 case c4 => omega
 case c5 => simp; omega
 intro v' w1 hown' hgrow _
 have hb : Below B w w1 := ((Below.refl B w).alloc hB _).grown hgrow (by simp; omega) (fun k hk => (World.ownsRow.lt hown k hk).1)
 have hown2 : Bytes B w1 v' (xs ++ [224 + r / 64 / 64, 128 + r / 64 % 64, 128 + r % 64]) := by unfold Bytes; simpa using hown'
 clear hown' hgrow hown
 go_wp2
 go_ret
 exact ⟨_, rfl, hown2, hb⟩

set_option maxHeartbeats 2000000 in
theorem appendRune_4 (B : Nat) (vb : Value) (xs : List Int) (r : Int) (w : World) (ht : Tabs w) (hown : Bytes B w vb xs) (hB : B ≤ w.heap.size) (hl : xs.length + 4 ≤ 140737488355328) (h0 : 65536 ≤ r) (h1 : r < 1114112) :
 Calls Tryz.prog 100 #[vb, .int .i32 r] w fun e w' => ∃ v', e = .returned v' ∧ Bytes B w' v' (xs ++ [240 + r / 64 / 64 / 64, 128 + r / 64 / 64 % 64, 128 + r / 64 % 64, 128 + r % 64]) ∧ Below B w w' := by
 have HS : Hid (sz r = 4) := sz4 h0 h1
 obtain ⟨i0, hi, hz0, hz1, hz2⟩ := info_parts infoByte
 obtain ⟨c2, c3, c4, c1, t1, t2, t3, t4⟩ := id ht
 have b2 := lt_of_cell c2
 have htA : ∀ o, Tabs (w.alloc o) := fun o => ht.below ((Below.refl _ _).alloc (Nat.le_refl _) o)
 have HTA : Hid (∀ o, Tabs (w.alloc o)) := htA
 clear htA
 go_enter Tryz.func100, Tryz.ntmps100
 go_wp2_with (first | (go_at_call 114; refine (size_any _ _ (HTA.out _)).mono ?_; rintro e w' ⟨rfl, rfl⟩; rw [HS.out]))
 refine wp_loop_rounds 4 ?_
 rw [rounds_succ]
 go_wp2
 rw [rounds_succ]
 go_wp2
 rw [rounds_succ]
 go_wp2
 rw [rounds_succ]
 go_wp2_with (at_builtin; refine wpList_append_own _ rfl _ _ 162 rfl B 5 i0 (.int .u8 0) 1 1 Tryz.underlying162 hi hz0 hz1 hz2 rfl (by decide) _ _ _ rfl (World.ownsRow.alloc hown _) ⟨w.heap.size, 0, none⟩ 4 4 [.int .u8 (240 + r / 64 / 64 / 64), .int .u8 (128 + r / 64 / 64 % 64), .int .u8 (128 + r / 64 % 64), .int .u8 (128 + r % 64)] rfl rfl ?c1 ?c2 ?c3 ?c4 ?c5 ?_)
 case c1 =>
  intro j u hj
  match j, hj with
  | 0, hj => simp at hj; subst hj; simp [Addr.add]
  | 1, hj => simp at hj; subst hj; simp [Addr.add]
  | 2, hj => simp at hj; subst hj; simp [Addr.add]
  | 3, hj => simp at hj; subst hj; simp [Addr.add]
 case c2 => intro u hu; simp at hu; rcases hu with rfl | rfl | rfl | rfl <;> rfl
 case c3 => unfold maxLen; omega
 case c4 => omega
 case c5 => simp; omega
 intro v' w1 hown' hgrow _
 have hb : Below B w w1 := ((Below.refl B w).alloc hB _).grown hgrow (by simp; omega) (fun k hk => (World.ownsRow.lt hown k hk).1)
 have hown2 : Bytes B w1 v' (xs ++ [240 + r / 64 / 64 / 64, 128 + r / 64 / 64 % 64, 128 + r / 64 % 64, 128 + r % 64]) := by unfold Bytes; simpa using hown'
 clear hown' hgrow hown
 go_wp2
 go_ret
 exact ⟨_, rfl, hown2, hb⟩

theorem appendRune_any (B : Nat) (vb : Value) (xs : List Int) (r : Int) (w : World) (ht : Tabs w) (hown : Bytes B w vb xs) (hB : B ≤ w.heap.size) (hl : xs.length + 4 ≤ 140737488355328) (h0 : 0 ≤ r) (h1 : r < 1114112) :
 Calls Tryz.prog 100 #[vb, .int .i32 r] w fun e w' => ∃ v', e = .returned v' ∧ Bytes B w' v' (xs ++ wrI r) ∧ Below B w w' := by
 by_cases a : r < 128
 · rw [wrI1 a]; exact appendRune_1 B vb xs r w ht hown hB hl h0 a
 by_cases b : r < 2048
 · rw [wrI2 (by omega) b]; exact appendRune_2 B vb xs r w ht hown hB hl (by omega) b
 by_cases c : r < 65536
 · rw [wrI3 (by omega) c]; exact appendRune_3 B vb xs r w ht hown hB hl (by omega) c
 · rw [wrI4 (by omega)]; exact appendRune_4 B vb xs r w ht hown hB hl (by omega) h1
end Go.Proofs.YtncnefpkfbngaaaGreatDoor

/- letters.Text: the writing of a row of runes, or none. -/
namespace Go.Proofs.YtncnefpkfbngaaaGreatDoor
open Go.RowKit Nums
set_option maxRecDepth 100000

/-- A slice of numbers that lies in memory: nothing is said of who made it. -/
def Row (w : World) (v : Value) (xs : List Int) : Prop :=
 ∃ ao cap, v = .slice ao xs.length cap ∧ (0 < xs.length → ∃ b off, ao = some ⟨b, off, none⟩ ∧ ∀ i, i < xs.length → w.cell? ⟨b, off + i, none⟩ = some (.int .i32 (xs.getD i 0)))

theorem Bytes.back {B : Nat} {w : World} {v : Value} {xs : List Int} (h : Bytes B w v xs) : (convert 162 9 v).run Tryz.prog w = .ok (.string (strOfNums xs)) w := by
 obtain ⟨hl, hn | ⟨g, cap, cur, rfl, hb, hg, h1, h2, h3, h4⟩⟩ := h
 · obtain ⟨rfl, h0⟩ := hn
   have e : xs = [] := List.length_eq_zero_iff.1 h0
   subst e
   exact run_convert_bytes_nil w 162 5 Tryz.underlying162 Tryz.underlying5 0 0 9 Tryz.underlying9
 · refine run_convert_bytes_arg w 162 5 Tryz.underlying162 Tryz.underlying5 g 0 xs.length cap xs rfl (fun i hi => ?_) 9 Tryz.underlying9
   have hc : cur[i]? = some (.int .u8 (xs.getD i 0)) := by
    have e : (cur.toList.take (xs.length * 1))[i]? = (xs.map (Value.int .u8))[i]? := by rw [h4]
    rw [List.getElem?_take, if_pos (by omega)] at e
    rw [← Array.getElem?_toList, e, List.getElem?_map, List.getElem?_eq_getElem hi]
    simp [List.getD_eq_getElem?_getD, List.getElem?_eq_getElem hi]
   simp only [World.cell?, hg, Nat.zero_add]
   simpa using hc

def allR (xs : List Int) : Bool := xs.all isR
def textS (xs : List Int) : ByteArray := if allR xs = true then strOfNums (xs.flatMap wrI) else ByteArray.empty

theorem flat_len (xs : List Int) : (xs.flatMap wrI).length ≤ 4 * xs.length := by
 induction xs with
 | nil => simp
 | cons x r ih => have := wrI_len x; rw [List.flatMap_cons, List.length_append, List.length_cons]; omega
theorem take_next (xs : List Int) (k : Nat) (h : k < xs.length) : xs.take (k + 1) = xs.take k ++ [xs.getD k 0] := by
 rw [List.take_succ_eq_append_getElem h]; simp [List.getD_eq_getElem?_getD, List.getElem?_eq_getElem h]
theorem text_no {xs : List Int} {k : Nat} (h : k < xs.length) (hr : isR (xs.getD k 0) = false) : allR xs = false := by
 have hm : xs.getD k 0 ∈ xs := by simp [List.getD_eq_getElem?_getD, List.getElem?_eq_getElem h]
 cases e : allR xs
 · rfl
 · have := List.all_eq_true.1 e _ hm; rw [hr] at this; cases this
theorem isR_bd {r : Int} (h : isR r = true) : 0 ≤ r ∧ r < 1114112 := by
 have := of_decide_eq_true h; omega

set_option maxHeartbeats 2000000 in
theorem Text_any (v : Value) (xs : List Int) (w : World) (ht : Tabs w) (hrow : Row w v xs) (hl : xs.length * 4 ≤ 140737488355328) :
 Calls Tryz.prog 82 #[v] w fun e w' => e = .returned (.tuple #[.string (textS xs), .bool (allR xs)]) ∧ Below w.heap.size w w' := by
 obtain ⟨i0, hi, hz0, hz1, hz2⟩ := info_parts infoByte
 obtain ⟨ao, cap, rfl, hcells⟩ := hrow
 have HC : Hid (0 < xs.length → ∃ b off, ao = some ⟨b, off, none⟩ ∧ ∀ i, i < xs.length → w.cell? ⟨b, off + i, none⟩ = some (.int .i32 (xs.getD i 0))) := hcells
 clear hcells
 go_enter Tryz.func82, Tryz.ntmps82
 go_wp2_with (at_make; refine wpList_make_own _ rfl _ _ 162 rfl w.heap.size 5 i0 (.int .u8 0) 1 Tryz.underlying162 hi hz0 hz1 _ _ _ xs.length rfl rfl (by omega) (by rw [hz2]; omega) (by unfold maxLen; omega) (Nat.le_refl _) ?_; intro w0 hown0 hgrow0)
 have hb0 : Below w.heap.size w w0 := (Below.refl _ _).grown hgrow0 (Nat.le_refl _) (fun k hk => by cases hk)
 have HO0 : Hid (Bytes w.heap.size w0 (.slice (some ⟨w.heap.size, 0, none⟩) 0 xs.length) []) := hown0
 clear hown0 hgrow0
 go_loopw [4, 12] (fun vb i wr => ∃ k : Nat, k ≤ xs.length ∧ i = .int .i64 k ∧ Bytes w.heap.size wr vb ((xs.take k).flatMap wrI) ∧ allR (xs.take k) = true ∧ Below w.heap.size w wr)
  (fun _ i _ => xs.length - (intOf i).toNat)
 case atStart => exact ⟨0, Nat.zero_le _, rfl, HO0.out, rfl, hb0⟩
 case round =>
  obtain ⟨k, hk, rfl, hown, hall, hbel⟩ := hrel
  have HA : Hid (allR (xs.take k) = true) := hall
  clear hall
  have htr : Tabs wr := ht.below hbel
  by_cases hlt : k < xs.length
  · obtain ⟨b, off, rfl, hc⟩ := HC.out (by omega)
    have hck : wr.cell? ⟨b, off + k, none⟩ = some (.int .i32 (xs.getD k 0)) := by
     rw [hbel.cell (p := ⟨b, off + k, none⟩) (lt_of_cell (hc k hlt))]; exact hc k hlt
    clear hc HC HO0
    have hnx := take_next xs k hlt
    generalize hx : xs.getD k 0 = x at *
    have HX : Hid (xs.getD k 0 = x) := hx
    have HN : Hid (xs.take (k + 1) = xs.take k ++ [x]) := hnx
    clear hnx hx
    cases hr : isR x
    · have HR : Hid (isR x = false) := hr
      clear hr
      have HF : Hid (allR xs = false) := text_no hlt (by rw [HX.out]; exact HR.out)
      go_wp2_with (go_at_call 84; refine (isRune_any _ _).mono ?_; rintro e w' ⟨rfl, rfl⟩; rw [HR.out])
      go_ret2
      refine ⟨?_, hbel⟩
      rw [HF.out, show textS xs = ByteArray.empty by unfold textS; rw [HF.out]; rfl]
      rfl
    · have HR : Hid (isR x = true) := hr
      clear hr
      have hbd := isR_bd HR.out
      have hfl := flat_len (xs.take k)
      rw [List.length_take] at hfl
      go_wp2_with (first
       | (go_at_call 84; refine (isRune_any _ _).mono ?_; rintro e w' ⟨rfl, rfl⟩; rw [HR.out])
       | (go_at_call 100; refine (appendRune_any w.heap.size _ ((xs.take k).flatMap wrI) x _ htr hown hbel.size (by omega) hbd.1 hbd.2).mono ?_; rintro e w1 ⟨v1, rfl, hown1, hb1⟩))
      go_roundw
      case rel =>
       refine ⟨k + 1, by omega, by go_num, ?_, ?_, hbel.trans hb1⟩
       · rw [HN.out, List.flatMap_append]; simpa using hown1
       · rw [HN.out]; have := HA.out; unfold allR at *; rw [List.all_append, this]; simp [HR.out]
      case measure => simp [intOf]; omega
  · obtain rfl : k = xs.length := by omega
    have hfull : xs.take xs.length = xs := List.take_length
    have HO : Hid (Bytes w.heap.size wr u4 (xs.flatMap wrI)) := by rw [hfull] at hown; exact hown
    have HF : Hid (allR xs = true) := by have := HA.out; rw [hfull] at this; exact this
    have hconv := HO.out.back
    clear hfull hown HA
    go_wp2
    go_ret2
    refine ⟨?_, hbel⟩
    rw [HF.out, show textS xs = strOfNums (xs.flatMap wrI) by unfold textS; rw [HF.out]; rfl]
    rfl
end Go.Proofs.YtncnefpkfbngaaaGreatDoor

/- least, ofWords: of a state, of a rune. -/
namespace Go.Proofs.YtncnefpkfbngaaaGreatDoor
open Go.RowKit Nums Fm Pk
set_option maxRecDepth 100000

theorem minF_snoc {l : List RArc} {k : Nat} {a : RArc} (h : l[k]? = some a) (m : Int) : minF m (l.take (k + 1)) = min (minF m (l.take k)) a.out := by
 have : ∀ (x : List RArc) (m : Int), minF m (x ++ [a]) = min (minF m x) a.out := fun x => by
  induction x with
  | nil => intro m; rfl
  | cons y r ih => intro m; exact ih _
 rw [List.take_add_one, h]
 exact this _ _
set_option maxHeartbeats 1000000 in
theorem pleast_any (E : Nat) (w : World) (s : RSt) (va : Value) (h : ArcsAt E w va s.arcs) (hE : E ≤ w.heap.size) :
 Calls Tryz.prog 92 #[.agg #[.bool s.final, .int .i64 s.out, va]] w fun e w' => e = .returned (.int .i64 (leastS s)) ∧ Below w.heap.size w w' := by
 obtain ⟨ad, cap, rfl⟩ := h.shape
 obtain ⟨n, hn⟩ : ∃ n, s.arcs.length = n := ⟨_, rfl⟩
 have HN : Hid (s.arcs.length = n) := hn
 have HR : Hid (ArcsAt E w (.slice ad s.arcs.length cap) s.arcs) := h
 have hl := h.len
 rw [hn] at HR hl ⊢
 clear h hn
 obtain ⟨M, hM⟩ : ∃ M : Int, M = if s.final then s.out else 9223372036854775807 := ⟨_, rfl⟩
 have HM : Hid (minF M s.arcs = leastS s) := by show _ = _; rw [hM]; rfl
 cases hf : s.final with
 | true =>
  rw [hf, if_pos rfl] at hM
  subst hM
  generalize s.out = M at *
  clear hf
  go_enter Tryz.func92, Tryz.ntmps92
  go_wp2
  go_loopg [3, 5, 13] n (fun gm s3 _ s13 wr => ∃ (k : Nat), s13 = .int .i64 k ∧ k ≤ n ∧ n - k ≤ gm ∧ s3 = .int .i64 (minF M (s.arcs.take k)) ∧ Hid (Below w.heap.size w wr))
  case atStart => exact ⟨0, rfl, Nat.zero_le _, by omega, by simp [minF], (Below.refl _ _).alloc (Nat.le_refl _) _⟩
  case round =>
   obtain ⟨k, rfl, hk, hgm, rfl, HB⟩ := hrel
   by_cases hlt : k < n
   · have hltz : (k : Int) < (n : Int) := by omega
     obtain ⟨x, hx⟩ : ∃ x, s.arcs[k]? = some x := ⟨s.arcs[k]'(by have := HN.out; omega), List.getElem?_eq_getElem _⟩
     obtain ⟨g, off, rfl, hg, c0, c1, c2⟩ := (HR.out.below (HB.out.mono hE)).at hx
     have HS : Hid (minF M (s.arcs.take (k + 1)) = min (minF M (s.arcs.take k)) x.out) := minF_snoc hx _
     have HB2 : Hid (∀ o, Below w.heap.size w (wr.alloc o)) := fun o => HB.out.alloc HB.out.size o
     clear hx
     generalize minF M (s.arcs.take k) = m at *
     go_wp2
     all_goals
      go_roundg (n - (k + 1))
      case measure => omega
      case rel => exact ⟨k + 1, by go_num, by omega, Nat.le_refl _, by (first | (rw [HS.out]; done) | (rw [HS.out]; congr 1; omega)), HB2.out _⟩
   · have hltz : ¬ (k : Int) < (n : Int) := by omega
     have HE : Hid (minF M (s.arcs.take k) = leastS s) := by show _ = _; rw [List.take_of_length_le (by have := HN.out; omega)]; exact HM.out
     go_wp2
     go_ret
     exact ⟨by rw [HE.out]; rfl, HB.out⟩
 | false =>
  rw [hf, if_neg (by decide)] at hM
  subst hM
  generalize s.out = so at *
  clear hf
  go_enter Tryz.func92, Tryz.ntmps92
  go_wp2
  obtain ⟨M, hMM⟩ : ∃ M : Int, M = 9223372036854775807 := ⟨_, rfl⟩
  rw [← hMM] at HM ⊢
  clear hMM
  go_loopg [3, 5, 13] n (fun gm s3 _ s13 wr => ∃ (k : Nat), s13 = .int .i64 k ∧ k ≤ n ∧ n - k ≤ gm ∧ s3 = .int .i64 (minF M (s.arcs.take k)) ∧ Hid (Below w.heap.size w wr))
  case atStart => exact ⟨0, rfl, Nat.zero_le _, by omega, by simp [minF], (Below.refl _ _).alloc (Nat.le_refl _) _⟩
  case round =>
   obtain ⟨k, rfl, hk, hgm, rfl, HB⟩ := hrel
   by_cases hlt : k < n
   · have hltz : (k : Int) < (n : Int) := by omega
     obtain ⟨x, hx⟩ : ∃ x, s.arcs[k]? = some x := ⟨s.arcs[k]'(by have := HN.out; omega), List.getElem?_eq_getElem _⟩
     obtain ⟨g, off, rfl, hg, c0, c1, c2⟩ := (HR.out.below (HB.out.mono hE)).at hx
     have HS : Hid (minF M (s.arcs.take (k + 1)) = min (minF M (s.arcs.take k)) x.out) := minF_snoc hx _
     have HB2 : Hid (∀ o, Below w.heap.size w (wr.alloc o)) := fun o => HB.out.alloc HB.out.size o
     clear hx
     generalize minF M (s.arcs.take k) = m at *
     go_wp2
     all_goals
      go_roundg (n - (k + 1))
      case measure => omega
      case rel => exact ⟨k + 1, by go_num, by omega, Nat.le_refl _, by (first | (rw [HS.out]; done) | (rw [HS.out]; congr 1; omega)), HB2.out _⟩
   · have hltz : ¬ (k : Int) < (n : Int) := by omega
     have HE : Hid (minF M (s.arcs.take k) = leastS s) := by show _ = _; rw [List.take_of_length_le (by have := HN.out; omega)]; exact HM.out
     go_wp2
     go_ret
     exact ⟨by rw [HE.out]; rfl, HB.out⟩
theorem word_one (r : Int) : (allR [r] && wordB (textS [r]).data.toList) = wordR r := by
 unfold allR wordR
 simp only [List.all_cons, List.all_nil, Bool.and_true]
 cases hr : isR r with
 | false => rfl
 | true =>
  have h1 : allR [r] = true := by simp [allR, hr]
  have h2 : (textS [r]).data.toList = [r].flatMap wr := by
   unfold textS
   rw [if_pos h1]
   show ((([r].flatMap wrI).map (fun n => UInt8.ofNat n.toNat)).toArray).toList = _
   rw [List.toList_toArray]
   exact flat_bytes [r]
  rw [h2, Bool.true_and, Bool.true_and]
  have h3 := rs_text (xs := [r]) (by simp [hr])
  unfold wordB
  rw [h3]
  simp
set_option maxHeartbeats 1000000 in
theorem ofWords_any (w : World) (r : Int) (hT : Tabs w) :
 Calls Tryz.prog 104 #[.int .i32 r] w fun e w' => e = .returned (.bool (wordR r)) ∧ Below w.heap.size w w' := by
 have hb0 : ∀ o, Below w.heap.size w (w.alloc o) := fun o => (Below.refl _ w).alloc (Nat.le_refl _) o
 have HT : Hid (∀ o, Tabs (w.alloc o)) := fun o => hT.below (hb0 o)
 have HB : Hid (∀ o, Below w.heap.size w (w.alloc o)) := hb0
 have HW : Hid ((allR [r] && wordB (textS [r]).data.toList) = wordR r) := word_one r
 have HSZ : Hid ((textS [r]).size ≤ 9223372036854775807) := by
  show _ ≤ _
  have h1 := flat_len [r]
  unfold textS
  split
  · show (List.toArray _).size ≤ _
    simp only [List.size_toArray, List.length_map]
    simp only [List.length_cons, List.length_nil] at h1
    omega
  · decide
 have HROW : Hid (∀ T, Row (w.alloc (.cells #[.int .i32 r] T)) (.slice (some ⟨w.heap.size, 0, none⟩) 1 1) [r]) := fun T => by
  refine ⟨_, 1, rfl, fun _ => ⟨_, 0, rfl, fun i hi => ?_⟩⟩
  have : i = 0 := by simpa using hi
  subst this
  simp
 have HTX : Hid (∀ T, Calls Tryz.prog 82 #[.slice (some ⟨w.heap.size, 0, none⟩) 1 1] (w.alloc (.cells #[.int .i32 r] T)) fun e w' => e = .returned (.tuple #[.string (textS [r]), .bool (allR [r])]) ∧ Below w.heap.size w w') := fun T => by
  refine (Text_any _ [r] _ (HT.out _) (HROW.out T) (by simp)).mono ?_
  rintro e w1 ⟨rfl, hb1⟩
  exact ⟨rfl, (HB.out _).trans (hb1.mono (HB.out (.cells #[.int .i32 r] T)).size)⟩
 have HWD : Hid (∀ w1, Below w.heap.size w w1 → Calls Tryz.prog 33 #[.string (textS [r])] w1 fun e w' => e = .returned (.bool (wordB (textS [r]).data.toList)) ∧ Below w.heap.size w w') := fun w1 hb1 => by
  refine (Word_any _ _ (hT.below hb1) HSZ.out).mono ?_
  rintro e w2 ⟨rfl, q, rfl⟩
  exact ⟨rfl, belowN hb1 q⟩
 clear hT hb0 HSZ HROW HT HB
 generalize allR [r] = A at *
 generalize wordB (textS [r]).data.toList = B at *
 generalize textS [r] = S at *
 go_enter Tryz.func104, Tryz.ntmps104
 cases A with
 | true =>
  go_wp2_with (first
   | (go_at_call 82; refine (HTX.out _).mono ?_; rintro e w1 ⟨rfl, hb1⟩; have HB1 : Hid (Below w.heap.size w w1) := hb1; clear hb1)
   | (go_at_call 33; refine (HWD.out _ HB1.out).mono ?_; rintro e w2 ⟨rfl, hb2⟩))
  go_ret
  exact ⟨by rw [← HW.out]; rfl, hb2⟩
 | false =>
  go_wp2_with (first
   | (go_at_call 82; refine (HTX.out _).mono ?_; rintro e w1 ⟨rfl, hb1⟩; have HB1 : Hid (Below w.heap.size w w1) := hb1; clear hb1))
  go_ret
  exact ⟨by rw [← HW.out]; rfl, HB1.out⟩
end Go.Proofs.YtncnefpkfbngaaaGreatDoor

/- ordered: arcs that rise. -/
namespace Go.Proofs.YtncnefpkfbngaaaGreatDoor
open Go.RowKit Nums Fm Pk
set_option maxRecDepth 100000

namespace Pk
def prevL (l : List RArc) : Nat → Option Int
 | 0 => none
 | k + 1 => l[k]?.map (·.label)
theorem ord_at {l : List RArc} {k : Nat} {a : RArc} (h : l[k]? = some a) (n : Int) : ordB n (prevL l k) (l.drop k) = (!((prevL l k).any fun q => decide (a.label ≤ q)) && wordR a.label && decide (0 ≤ a.to ∧ a.to < n) && ordB n (prevL l (k + 1)) (l.drop (k + 1))) := by
 obtain ⟨hk, rfl⟩ := List.getElem?_eq_some_iff.1 h
 rw [List.drop_eq_getElem_cons hk, ordB, prevL, List.getElem?_eq_getElem hk]
 rfl
end Pk
/-- What the region looks at. -/
structure SO (ab g o : Nat) (x y : RArc) (p : Bool) (W1 W : World) : Prop where
 c0 : W.cell? ⟨ab, 0, none⟩ = some (.int .i32 x.label)
 c2 : W.cell? ⟨ab, 2, none⟩ = some (.int .i64 x.to)
 d0 : p = true → W.cell? ⟨g, o, none⟩ = some (.int .i32 y.label)
 bel : Below W1.heap.size W1 W
theorem SO.facts {ab g o : Nat} {x y : RArc} {p : Bool} {W1 W : World} (h : SO ab g o x y p W1 W) : W.cell? ⟨ab, 0, none⟩ = some (.int .i32 x.label) ∧ W.cell? ⟨ab, 2, none⟩ = some (.int .i64 x.to) := ⟨h.c0, h.c2⟩
theorem SO.facts3 {ab g o : Nat} {x y : RArc} {W1 W : World} (h : SO ab g o x y true W1 W) : W.cell? ⟨ab, 0, none⟩ = some (.int .i32 x.label) ∧ W.cell? ⟨ab, 2, none⟩ = some (.int .i64 x.to) ∧ W.cell? ⟨g, o, none⟩ = some (.int .i32 y.label) := ⟨h.c0, h.c2, h.d0 rfl⟩
theorem SO.below {ab g o : Nat} {x y : RArc} {p : Bool} {W1 W W' : World} (h : SO ab g o x y p W1 W) (hab : ab < W1.heap.size) (hg : p = true → g < W1.heap.size) (hb : Below W.heap.size W W') : SO ab g o x y p W1 W' := by
 have hs := h.bel.size
 exact ⟨(hb.cell (p := ⟨ab, 0, none⟩) (by simp only; omega)).trans h.c0, (hb.cell (p := ⟨ab, 2, none⟩) (by simp only; omega)).trans h.c2, fun hp => (hb.cell (p := ⟨g, o, none⟩) (by have := hg hp; simp only; omega)).trans (h.d0 hp), h.bel.trans (hb.mono hs)⟩
set_option maxHeartbeats 8000000 in
theorem ordered_any (E : Nat) (w : World) (l : List RArc) (va : Value) (n : Nat) (h : ArcsAt E w va l) (hE : E ≤ w.heap.size) (hT : Tabs w) :
 Calls Tryz.prog 93 #[va, .int .i64 n] w fun e w' => e = .returned (.bool (ordB n none l)) ∧ Below w.heap.size w w' := by
 obtain ⟨ad, cap, rfl⟩ := h.shape
 obtain ⟨m, hm⟩ : ∃ m, l.length = m := ⟨_, rfl⟩
 have HN : Hid (l.length = m) := hm
 have HR : Hid (ArcsAt E w (.slice ad l.length cap) l) := h
 have hl := h.len
 rw [hm] at HR hl ⊢
 have HT : Hid (Tabs w) := hT
 clear h hm hT
 go_enter Tryz.func93, Tryz.ntmps93
 go_wp2
 go_loopg [5, 6, 9] m (fun gm _ _ s9 wr => ∃ (k : Nat), s9 = .int .i64 k ∧ k ≤ m ∧ m - k ≤ gm ∧ Hid (ordB n none l = ordB n (prevL l k) (l.drop k)) ∧ Hid (Below w.heap.size w wr))
 case atStart => exact ⟨0, rfl, Nat.zero_le _, by omega, rfl, Below.refl _ _⟩
 case round =>
  obtain ⟨k, rfl, hk, hgm, HO, HB⟩ := hrel
  by_cases hlt : k < m
  · have hltz : (k : Int) < (m : Int) := by omega
    obtain ⟨x, hx⟩ : ∃ x, l[k]? = some x := ⟨l[k]'(by have := HN.out; omega), List.getElem?_eq_getElem _⟩
    have hxo := HR.out.ok x (List.mem_of_getElem? hx)
    have hRw := HR.out.below (HB.out.mono hE)
    obtain ⟨g, off, rfl, hg, c0, c1, c2⟩ := hRw.at hx
    have HOA := ord_at hx (n : Int)
    obtain ⟨ab, hab⟩ : ∃ ab, ab = wr.heap.size := ⟨_, rfl⟩
    obtain ⟨W1, hW1⟩ : ∃ W1, W1 = wr.alloc (.cells #[.int .i32 x.label, .int .i64 x.out, .int .i64 x.to] 110) := ⟨_, rfl⟩
    have hn1 : W1.heap[ab]? = some (.cells #[.int .i32 x.label, .int .i64 x.out, .int .i64 x.to] 110) := by rw [hW1, hab]; exact alloc_newP _ _
    have hb1 : Below wr.heap.size wr W1 := by rw [hW1]; exact (Below.refl _ wr).alloc (Nat.le_refl _) _
    have HBW : Hid (Below w.heap.size w W1) := HB.out.trans (hb1.mono HB.out.size)
    have HB1 : Hid (Below wr.heap.size wr W1) := hb1
    have HAB : Hid (ab < W1.heap.size) := (Array.getElem?_eq_some_iff.1 hn1).1
    have HS0 : Hid (SO ab g 0 x x false W1 W1.drew) := by
     have h1 : W1.drew.heap[ab]? = W1.heap[ab]? := rfl
     exact ⟨by simp [World.cell?, h1, hn1], by simp [World.cell?, h1, hn1], fun h => (by cases h), (Below.refl _ W1).drew⟩
    obtain ⟨WR, hWR⟩ : ∃ WR, wordR x.label = WR := ⟨_, rfl⟩
    have HWR : Hid (wordR x.label = WR) := hWR
    rw [hWR] at HOA
    go_upto_region 4 with fail
    rw [← hab, ← hW1]
    clear hab hW1 c0 c1 c2
    by_cases hk0 : k = 0
    · have hk0z : ¬ (0 : Int) < (k : Int) := by omega
      have HOA2 : Hid (ordB n none l = (WR && decide (0 ≤ x.to ∧ x.to < (n : Int)) && ordB n (prevL l (k + 1)) (l.drop (k + 1)))) := by
       show _ = _
       rw [HO.out, HOA, hk0]
       rfl
      clear HOA hx hRw hn1 hb1 hWR HO hk0
      cases WR with
      | false =>
       have HF : Hid (ordB n none l = false) := by show _ = _; rw [HOA2.out]; rfl
       clear HOA2
       refine region_at (S := SO ab g 0 x x false W1) 30 rfl mixedP HS0.out (fun _ => ?_)
       refine tk (i := 0) 14 rfl rfl (by kernel_rfl) (fun _ s => by (have h := SO.facts s; clear s; go_simp; first | done | exact rfl)) ?_
       simp only [sZa, sZb, sZc]
       refine tk (i := 1) (v := .bool false) 15 rfl rfl (by kernel_rfl) (fun _ s => by (have h := SO.facts s; clear s; go_simp; first | done | exact rfl | simp_all | (simp; omega))) ?_
       simp only [sZa, sZb, sZc]
       refine tk (i := 2) 16 rfl rfl (by kernel_rfl) (fun _ s => by (have h := SO.facts s; clear s; go_simp; first | done | exact rfl)) ?_
       simp only [sZa, sZb, sZc]
       refine pk (i := 3) 17 rfl rfl (by kernel_rfl) (fun _ _ _ h => h) (by rfl) (by assumption) ?_
       simp only [sZa, sZb, sZc]
       refine pk (i := 4) 18 rfl rfl (by kernel_rfl) (fun _ _ _ h => h) (by rfl) (by assumption) ?_
       simp only [sZa, sZb, sZc]
       refine pk (i := 5) 19 rfl rfl (by kernel_rfl) (fun _ _ _ h => h) (by rfl) (by assumption) ?_
       simp only [sZa, sZb, sZc]
       refine pk (i := 6) 20 rfl rfl (by kernel_rfl) (fun _ _ _ h => h) (by rfl) (by assumption) ?_
       simp only [sZa, sZb, sZc]
       refine pk (i := 7) 21 rfl rfl (by kernel_rfl) (fun _ _ _ h => h) (by rfl) (by assumption) ?_
       simp only [sZa, sZb, sZc]
       refine pk (i := 8) 22 rfl rfl (by kernel_rfl) (fun _ _ _ h => h) (by rfl) (by assumption) ?_
       simp only [sZa, sZb, sZc]
       refine pk (i := 9) 23 rfl rfl (by kernel_rfl) (fun _ _ _ h => h) (by rfl) (by assumption) ?_
       simp only [sZa, sZb, sZc]
       refine pk (i := 10) 24 rfl rfl (by kernel_rfl) (fun _ _ _ h => h) (by rfl) (by assumption) ?_
       simp only [sZa, sZb, sZc]
       refine pk (i := 11) 25 rfl rfl (by kernel_rfl) (fun _ _ _ h => h) (by rfl) (by assumption) ?_
       simp only [sZa, sZb, sZc]
       refine tk (i := 12) 26 rfl rfl (by kernel_rfl) (fun _ s => by (have h := SO.facts s; clear s; go_simp; first | done | exact rfl)) ?_
       simp only [sZa, sZb, sZc]
       refine tk (i := 13) 27 rfl rfl (by kernel_rfl) (fun _ s => by (have h := SO.facts s; clear s; go_simp; first | done | exact rfl)) ?_
       simp only [sZa, sZb, sZc]
       refine tk (i := 14) 28 rfl rfl (by kernel_rfl) (fun _ s => by (have h := SO.facts s; clear s; go_simp; first | done | exact rfl)) ?_
       simp only [sZa, sZb, sZc]
       refine tk (i := 15) 29 rfl rfl (by kernel_rfl) (fun _ s => by (have h := SO.facts s; clear s; go_simp; first | done | exact rfl)) ?_
       simp only [sZa, sZb, sZc]
       refine one_call (i := 16) (w0 := W1.drew) 30 104 #[.int .i32 x.label] (by kernel_rfl) rfl rfl (by rfl) (by kernel_rfl) ?_
       refine (ofWords_any W1.drew x.label (HT.out.below (HBW.out.drew))).mono ?_
       rintro e w3 ⟨rfl, hb3⟩
       have HS3 : Hid (SO ab g 0 x x false W1 w3) := HS0.out.below HAB.out (fun h => by cases h) hb3
       have hS3 := HS3.out
       rw [HWR.out]
       refine ⟨_, rfl, hS3, fun _ => ?_⟩
       simp only [sZa, sZb, sZc]
       refine tk (i := 17) 31 rfl rfl (by kernel_rfl) (fun _ s => by (have h := SO.facts s; clear s; go_simp; first | done | exact rfl)) ?_
       simp only [sZa, sZb, sZc]
       refine tk (i := 18) 32 rfl rfl (by kernel_rfl) (fun _ s => by (have h := SO.facts s; clear s; go_simp; first | done | exact rfl)) ?_
       simp only [sZa, sZb, sZc]
       refine tk (i := 19) 33 rfl rfl (by kernel_rfl) (fun _ s => by (have h := SO.facts s; clear s; go_simp; first | done | exact rfl)) ?_
       simp only [sZa, sZb, sZc]
       refine pk (i := 20) 34 rfl rfl (by kernel_rfl) (fun _ _ _ h => h) (by rfl) (by assumption) ?_
       simp only [sZa, sZb, sZc]
       refine pk (i := 21) 35 rfl rfl (by kernel_rfl) (fun _ _ _ h => h) (by rfl) (by assumption) ?_
       simp only [sZa, sZb, sZc]
       refine pk (i := 22) 36 rfl rfl (by kernel_rfl) (fun _ _ _ h => h) (by rfl) (by assumption) ?_
       simp only [sZa, sZb, sZc]
       refine tk (i := 23) 37 rfl rfl (by kernel_rfl) (fun _ s => by (have h := SO.facts s; clear s; go_simp; first | done | exact rfl)) ?_
       simp only [sZa, sZb, sZc]
       refine tk (i := 24) 38 rfl rfl (by kernel_rfl) (fun _ s => by (have h := SO.facts s; clear s; go_simp; first | done | exact rfl)) ?_
       simp only [sZa, sZb, sZc]
       refine pk (i := 25) 39 rfl rfl (by kernel_rfl) (fun _ _ _ h => h) (by rfl) (by assumption) ?_
       simp only [sZa, sZb, sZc]
       refine pk (i := 26) 40 rfl rfl (by kernel_rfl) (fun _ _ _ h => h) (by rfl) (by assumption) ?_
       simp only [sZa, sZb, sZc]
       refine pk (i := 27) 41 rfl rfl (by kernel_rfl) (fun _ _ _ h => h) (by rfl) (by assumption) ?_
       simp only [sZa, sZb, sZc]
       refine pk (i := 28) 42 rfl rfl (by kernel_rfl) (fun _ _ _ h => h) (by rfl) (by assumption) ?_
       simp only [sZa, sZb, sZc]
       refine tk (i := 29) 43 rfl rfl (by kernel_rfl) (fun _ s => by (have h := SO.facts s; clear s; go_simp; first | done | exact rfl)) ?_
       simp only [sZa, sZb, sZc]
       refine wpAnyH_done (by kernel_rfl) ?_ _
       go_wp2
       go_ret
       exact ⟨by rw [HF.out]; rfl, HBW.out.trans (HS3.out.bel.mono HBW.out.size)⟩
      | true =>
       by_cases ht1 : x.to < 0
       · have HF : Hid (ordB n none l = false) := by show _ = _; rw [HOA2.out, decide_eq_false (by omega)]; rfl
         clear HOA2
         refine region_at (S := SO ab g 0 x x false W1) 30 rfl mixedP HS0.out (fun _ => ?_)
         refine tk (i := 0) 14 rfl rfl (by kernel_rfl) (fun _ s => by (have h := SO.facts s; clear s; go_simp; first | done | exact rfl)) ?_
         simp only [sZa, sZb, sZc]
         refine tk (i := 1) (v := .bool false) 15 rfl rfl (by kernel_rfl) (fun _ s => by (have h := SO.facts s; clear s; go_simp; first | done | exact rfl | simp_all | (simp; omega))) ?_
         simp only [sZa, sZb, sZc]
         refine tk (i := 2) 16 rfl rfl (by kernel_rfl) (fun _ s => by (have h := SO.facts s; clear s; go_simp; first | done | exact rfl)) ?_
         simp only [sZa, sZb, sZc]
         refine pk (i := 3) 17 rfl rfl (by kernel_rfl) (fun _ _ _ h => h) (by rfl) (by assumption) ?_
         simp only [sZa, sZb, sZc]
         refine pk (i := 4) 18 rfl rfl (by kernel_rfl) (fun _ _ _ h => h) (by rfl) (by assumption) ?_
         simp only [sZa, sZb, sZc]
         refine pk (i := 5) 19 rfl rfl (by kernel_rfl) (fun _ _ _ h => h) (by rfl) (by assumption) ?_
         simp only [sZa, sZb, sZc]
         refine pk (i := 6) 20 rfl rfl (by kernel_rfl) (fun _ _ _ h => h) (by rfl) (by assumption) ?_
         simp only [sZa, sZb, sZc]
         refine pk (i := 7) 21 rfl rfl (by kernel_rfl) (fun _ _ _ h => h) (by rfl) (by assumption) ?_
         simp only [sZa, sZb, sZc]
         refine pk (i := 8) 22 rfl rfl (by kernel_rfl) (fun _ _ _ h => h) (by rfl) (by assumption) ?_
         simp only [sZa, sZb, sZc]
         refine pk (i := 9) 23 rfl rfl (by kernel_rfl) (fun _ _ _ h => h) (by rfl) (by assumption) ?_
         simp only [sZa, sZb, sZc]
         refine pk (i := 10) 24 rfl rfl (by kernel_rfl) (fun _ _ _ h => h) (by rfl) (by assumption) ?_
         simp only [sZa, sZb, sZc]
         refine pk (i := 11) 25 rfl rfl (by kernel_rfl) (fun _ _ _ h => h) (by rfl) (by assumption) ?_
         simp only [sZa, sZb, sZc]
         refine tk (i := 12) 26 rfl rfl (by kernel_rfl) (fun _ s => by (have h := SO.facts s; clear s; go_simp; first | done | exact rfl)) ?_
         simp only [sZa, sZb, sZc]
         refine tk (i := 13) 27 rfl rfl (by kernel_rfl) (fun _ s => by (have h := SO.facts s; clear s; go_simp; first | done | exact rfl)) ?_
         simp only [sZa, sZb, sZc]
         refine tk (i := 14) 28 rfl rfl (by kernel_rfl) (fun _ s => by (have h := SO.facts s; clear s; go_simp; first | done | exact rfl)) ?_
         simp only [sZa, sZb, sZc]
         refine tk (i := 15) 29 rfl rfl (by kernel_rfl) (fun _ s => by (have h := SO.facts s; clear s; go_simp; first | done | exact rfl)) ?_
         simp only [sZa, sZb, sZc]
         refine one_call (i := 16) (w0 := W1.drew) 30 104 #[.int .i32 x.label] (by kernel_rfl) rfl rfl (by rfl) (by kernel_rfl) ?_
         refine (ofWords_any W1.drew x.label (HT.out.below (HBW.out.drew))).mono ?_
         rintro e w3 ⟨rfl, hb3⟩
         have HS3 : Hid (SO ab g 0 x x false W1 w3) := HS0.out.below HAB.out (fun h => by cases h) hb3
         have hS3 := HS3.out
         rw [HWR.out]
         refine ⟨_, rfl, hS3, fun _ => ?_⟩
         simp only [sZa, sZb, sZc]
         refine tk (i := 17) 31 rfl rfl (by kernel_rfl) (fun _ s => by (have h := SO.facts s; clear s; go_simp; first | done | exact rfl)) ?_
         simp only [sZa, sZb, sZc]
         refine tk (i := 18) 32 rfl rfl (by kernel_rfl) (fun _ s => by (have h := SO.facts s; clear s; go_simp; first | done | exact rfl)) ?_
         simp only [sZa, sZb, sZc]
         refine tk (i := 19) 33 rfl rfl (by kernel_rfl) (fun _ s => by (have h := SO.facts s; clear s; go_simp; first | done | exact rfl)) ?_
         simp only [sZa, sZb, sZc]
         refine tk (i := 20) 34 rfl rfl (by kernel_rfl) (fun _ s => by (have h := SO.facts s; clear s; go_simp; first | done | exact rfl)) ?_
         simp only [sZa, sZb, sZc]
         refine tk (i := 21) 35 rfl rfl (by kernel_rfl) (fun _ s => by (have h := SO.facts s; clear s; go_simp; first | done | exact rfl)) ?_
         simp only [sZa, sZb, sZc]
         refine tk (i := 22) (v := .bool true) 36 rfl rfl (by kernel_rfl) (fun _ s => by (have h := SO.facts s; clear s; go_simp; first | done | exact rfl | simp_all | (simp; omega))) ?_
         simp only [sZa, sZb, sZc]
         refine tk (i := 23) 37 rfl rfl (by kernel_rfl) (fun _ s => by (have h := SO.facts s; clear s; go_simp; first | done | exact rfl)) ?_
         simp only [sZa, sZb, sZc]
         refine tk (i := 24) 38 rfl rfl (by kernel_rfl) (fun _ s => by (have h := SO.facts s; clear s; go_simp; first | done | exact rfl)) ?_
         simp only [sZa, sZb, sZc]
         refine pk (i := 25) 39 rfl rfl (by kernel_rfl) (fun _ _ _ h => h) (by rfl) (by assumption) ?_
         simp only [sZa, sZb, sZc]
         refine pk (i := 26) 40 rfl rfl (by kernel_rfl) (fun _ _ _ h => h) (by rfl) (by assumption) ?_
         simp only [sZa, sZb, sZc]
         refine pk (i := 27) 41 rfl rfl (by kernel_rfl) (fun _ _ _ h => h) (by rfl) (by assumption) ?_
         simp only [sZa, sZb, sZc]
         refine pk (i := 28) 42 rfl rfl (by kernel_rfl) (fun _ _ _ h => h) (by rfl) (by assumption) ?_
         simp only [sZa, sZb, sZc]
         refine tk (i := 29) 43 rfl rfl (by kernel_rfl) (fun _ s => by (have h := SO.facts s; clear s; go_simp; first | done | exact rfl)) ?_
         simp only [sZa, sZb, sZc]
         refine wpAnyH_done (by kernel_rfl) ?_ _
         go_wp2
         go_ret
         exact ⟨by rw [HF.out]; rfl, HBW.out.trans (HS3.out.bel.mono HBW.out.size)⟩
       · by_cases ht2 : (n : Int) ≤ x.to
         · have HF : Hid (ordB n none l = false) := by show _ = _; rw [HOA2.out, decide_eq_false (by omega)]; rfl
           clear HOA2
           refine region_at (S := SO ab g 0 x x false W1) 30 rfl mixedP HS0.out (fun _ => ?_)
           refine tk (i := 0) 14 rfl rfl (by kernel_rfl) (fun _ s => by (have h := SO.facts s; clear s; go_simp; first | done | exact rfl)) ?_
           simp only [sZa, sZb, sZc]
           refine tk (i := 1) (v := .bool false) 15 rfl rfl (by kernel_rfl) (fun _ s => by (have h := SO.facts s; clear s; go_simp; first | done | exact rfl | simp_all | (simp; omega))) ?_
           simp only [sZa, sZb, sZc]
           refine tk (i := 2) 16 rfl rfl (by kernel_rfl) (fun _ s => by (have h := SO.facts s; clear s; go_simp; first | done | exact rfl)) ?_
           simp only [sZa, sZb, sZc]
           refine pk (i := 3) 17 rfl rfl (by kernel_rfl) (fun _ _ _ h => h) (by rfl) (by assumption) ?_
           simp only [sZa, sZb, sZc]
           refine pk (i := 4) 18 rfl rfl (by kernel_rfl) (fun _ _ _ h => h) (by rfl) (by assumption) ?_
           simp only [sZa, sZb, sZc]
           refine pk (i := 5) 19 rfl rfl (by kernel_rfl) (fun _ _ _ h => h) (by rfl) (by assumption) ?_
           simp only [sZa, sZb, sZc]
           refine pk (i := 6) 20 rfl rfl (by kernel_rfl) (fun _ _ _ h => h) (by rfl) (by assumption) ?_
           simp only [sZa, sZb, sZc]
           refine pk (i := 7) 21 rfl rfl (by kernel_rfl) (fun _ _ _ h => h) (by rfl) (by assumption) ?_
           simp only [sZa, sZb, sZc]
           refine pk (i := 8) 22 rfl rfl (by kernel_rfl) (fun _ _ _ h => h) (by rfl) (by assumption) ?_
           simp only [sZa, sZb, sZc]
           refine pk (i := 9) 23 rfl rfl (by kernel_rfl) (fun _ _ _ h => h) (by rfl) (by assumption) ?_
           simp only [sZa, sZb, sZc]
           refine pk (i := 10) 24 rfl rfl (by kernel_rfl) (fun _ _ _ h => h) (by rfl) (by assumption) ?_
           simp only [sZa, sZb, sZc]
           refine pk (i := 11) 25 rfl rfl (by kernel_rfl) (fun _ _ _ h => h) (by rfl) (by assumption) ?_
           simp only [sZa, sZb, sZc]
           refine tk (i := 12) 26 rfl rfl (by kernel_rfl) (fun _ s => by (have h := SO.facts s; clear s; go_simp; first | done | exact rfl)) ?_
           simp only [sZa, sZb, sZc]
           refine tk (i := 13) 27 rfl rfl (by kernel_rfl) (fun _ s => by (have h := SO.facts s; clear s; go_simp; first | done | exact rfl)) ?_
           simp only [sZa, sZb, sZc]
           refine tk (i := 14) 28 rfl rfl (by kernel_rfl) (fun _ s => by (have h := SO.facts s; clear s; go_simp; first | done | exact rfl)) ?_
           simp only [sZa, sZb, sZc]
           refine tk (i := 15) 29 rfl rfl (by kernel_rfl) (fun _ s => by (have h := SO.facts s; clear s; go_simp; first | done | exact rfl)) ?_
           simp only [sZa, sZb, sZc]
           refine one_call (i := 16) (w0 := W1.drew) 30 104 #[.int .i32 x.label] (by kernel_rfl) rfl rfl (by rfl) (by kernel_rfl) ?_
           refine (ofWords_any W1.drew x.label (HT.out.below (HBW.out.drew))).mono ?_
           rintro e w3 ⟨rfl, hb3⟩
           have HS3 : Hid (SO ab g 0 x x false W1 w3) := HS0.out.below HAB.out (fun h => by cases h) hb3
           have hS3 := HS3.out
           rw [HWR.out]
           refine ⟨_, rfl, hS3, fun _ => ?_⟩
           simp only [sZa, sZb, sZc]
           refine tk (i := 17) 31 rfl rfl (by kernel_rfl) (fun _ s => by (have h := SO.facts s; clear s; go_simp; first | done | exact rfl)) ?_
           simp only [sZa, sZb, sZc]
           refine tk (i := 18) 32 rfl rfl (by kernel_rfl) (fun _ s => by (have h := SO.facts s; clear s; go_simp; first | done | exact rfl)) ?_
           simp only [sZa, sZb, sZc]
           refine tk (i := 19) 33 rfl rfl (by kernel_rfl) (fun _ s => by (have h := SO.facts s; clear s; go_simp; first | done | exact rfl)) ?_
           simp only [sZa, sZb, sZc]
           refine tk (i := 20) 34 rfl rfl (by kernel_rfl) (fun _ s => by (have h := SO.facts s; clear s; go_simp; first | done | exact rfl)) ?_
           simp only [sZa, sZb, sZc]
           refine tk (i := 21) 35 rfl rfl (by kernel_rfl) (fun _ s => by (have h := SO.facts s; clear s; go_simp; first | done | exact rfl)) ?_
           simp only [sZa, sZb, sZc]
           refine tk (i := 22) (v := .bool false) 36 rfl rfl (by kernel_rfl) (fun _ s => by (have h := SO.facts s; clear s; go_simp; first | done | exact rfl | simp_all | (simp; omega))) ?_
           simp only [sZa, sZb, sZc]
           refine tk (i := 23) 37 rfl rfl (by kernel_rfl) (fun _ s => by (have h := SO.facts s; clear s; go_simp; first | done | exact rfl)) ?_
           simp only [sZa, sZb, sZc]
           refine tk (i := 24) 38 rfl rfl (by kernel_rfl) (fun _ s => by (have h := SO.facts s; clear s; go_simp; first | done | exact rfl)) ?_
           simp only [sZa, sZb, sZc]
           refine tk (i := 25) 39 rfl rfl (by kernel_rfl) (fun _ s => by (have h := SO.facts s; clear s; go_simp; first | done | exact rfl)) ?_
           simp only [sZa, sZb, sZc]
           refine tk (i := 26) 40 rfl rfl (by kernel_rfl) (fun _ s => by (have h := SO.facts s; clear s; go_simp; first | done | exact rfl)) ?_
           simp only [sZa, sZb, sZc]
           refine tk (i := 27) 41 rfl rfl (by kernel_rfl) (fun _ s => by (have h := SO.facts s; clear s; go_simp; first | done | exact rfl)) ?_
           simp only [sZa, sZb, sZc]
           refine tk (i := 28) (v := .bool true) 42 rfl rfl (by kernel_rfl) (fun _ s => by (have h := SO.facts s; clear s; go_simp; first | done | exact rfl | simp_all | (simp; omega))) ?_
           simp only [sZa, sZb, sZc]
           refine tk (i := 29) 43 rfl rfl (by kernel_rfl) (fun _ s => by (have h := SO.facts s; clear s; go_simp; first | done | exact rfl)) ?_
           simp only [sZa, sZb, sZc]
           refine wpAnyH_done (by kernel_rfl) ?_ _
           go_wp2
           go_ret
           exact ⟨by rw [HF.out]; rfl, HBW.out.trans (HS3.out.bel.mono HBW.out.size)⟩
         · have HF : Hid (ordB n none l = ordB n (prevL l (k + 1)) (l.drop (k + 1))) := by show _ = _; rw [HOA2.out, decide_eq_true (by omega)]; rfl
           clear HOA2
           refine region_at (S := SO ab g 0 x x false W1) 30 rfl mixedP HS0.out (fun _ => ?_)
           refine tk (i := 0) 14 rfl rfl (by kernel_rfl) (fun _ s => by (have h := SO.facts s; clear s; go_simp; first | done | exact rfl)) ?_
           simp only [sZa, sZb, sZc]
           refine tk (i := 1) (v := .bool false) 15 rfl rfl (by kernel_rfl) (fun _ s => by (have h := SO.facts s; clear s; go_simp; first | done | exact rfl | simp_all | (simp; omega))) ?_
           simp only [sZa, sZb, sZc]
           refine tk (i := 2) 16 rfl rfl (by kernel_rfl) (fun _ s => by (have h := SO.facts s; clear s; go_simp; first | done | exact rfl)) ?_
           simp only [sZa, sZb, sZc]
           refine pk (i := 3) 17 rfl rfl (by kernel_rfl) (fun _ _ _ h => h) (by rfl) (by assumption) ?_
           simp only [sZa, sZb, sZc]
           refine pk (i := 4) 18 rfl rfl (by kernel_rfl) (fun _ _ _ h => h) (by rfl) (by assumption) ?_
           simp only [sZa, sZb, sZc]
           refine pk (i := 5) 19 rfl rfl (by kernel_rfl) (fun _ _ _ h => h) (by rfl) (by assumption) ?_
           simp only [sZa, sZb, sZc]
           refine pk (i := 6) 20 rfl rfl (by kernel_rfl) (fun _ _ _ h => h) (by rfl) (by assumption) ?_
           simp only [sZa, sZb, sZc]
           refine pk (i := 7) 21 rfl rfl (by kernel_rfl) (fun _ _ _ h => h) (by rfl) (by assumption) ?_
           simp only [sZa, sZb, sZc]
           refine pk (i := 8) 22 rfl rfl (by kernel_rfl) (fun _ _ _ h => h) (by rfl) (by assumption) ?_
           simp only [sZa, sZb, sZc]
           refine pk (i := 9) 23 rfl rfl (by kernel_rfl) (fun _ _ _ h => h) (by rfl) (by assumption) ?_
           simp only [sZa, sZb, sZc]
           refine pk (i := 10) 24 rfl rfl (by kernel_rfl) (fun _ _ _ h => h) (by rfl) (by assumption) ?_
           simp only [sZa, sZb, sZc]
           refine pk (i := 11) 25 rfl rfl (by kernel_rfl) (fun _ _ _ h => h) (by rfl) (by assumption) ?_
           simp only [sZa, sZb, sZc]
           refine tk (i := 12) 26 rfl rfl (by kernel_rfl) (fun _ s => by (have h := SO.facts s; clear s; go_simp; first | done | exact rfl)) ?_
           simp only [sZa, sZb, sZc]
           refine tk (i := 13) 27 rfl rfl (by kernel_rfl) (fun _ s => by (have h := SO.facts s; clear s; go_simp; first | done | exact rfl)) ?_
           simp only [sZa, sZb, sZc]
           refine tk (i := 14) 28 rfl rfl (by kernel_rfl) (fun _ s => by (have h := SO.facts s; clear s; go_simp; first | done | exact rfl)) ?_
           simp only [sZa, sZb, sZc]
           refine tk (i := 15) 29 rfl rfl (by kernel_rfl) (fun _ s => by (have h := SO.facts s; clear s; go_simp; first | done | exact rfl)) ?_
           simp only [sZa, sZb, sZc]
           refine one_call (i := 16) (w0 := W1.drew) 30 104 #[.int .i32 x.label] (by kernel_rfl) rfl rfl (by rfl) (by kernel_rfl) ?_
           refine (ofWords_any W1.drew x.label (HT.out.below (HBW.out.drew))).mono ?_
           rintro e w3 ⟨rfl, hb3⟩
           have HS3 : Hid (SO ab g 0 x x false W1 w3) := HS0.out.below HAB.out (fun h => by cases h) hb3
           have hS3 := HS3.out
           rw [HWR.out]
           refine ⟨_, rfl, hS3, fun _ => ?_⟩
           simp only [sZa, sZb, sZc]
           refine tk (i := 17) 31 rfl rfl (by kernel_rfl) (fun _ s => by (have h := SO.facts s; clear s; go_simp; first | done | exact rfl)) ?_
           simp only [sZa, sZb, sZc]
           refine tk (i := 18) 32 rfl rfl (by kernel_rfl) (fun _ s => by (have h := SO.facts s; clear s; go_simp; first | done | exact rfl)) ?_
           simp only [sZa, sZb, sZc]
           refine tk (i := 19) 33 rfl rfl (by kernel_rfl) (fun _ s => by (have h := SO.facts s; clear s; go_simp; first | done | exact rfl)) ?_
           simp only [sZa, sZb, sZc]
           refine tk (i := 20) 34 rfl rfl (by kernel_rfl) (fun _ s => by (have h := SO.facts s; clear s; go_simp; first | done | exact rfl)) ?_
           simp only [sZa, sZb, sZc]
           refine tk (i := 21) 35 rfl rfl (by kernel_rfl) (fun _ s => by (have h := SO.facts s; clear s; go_simp; first | done | exact rfl)) ?_
           simp only [sZa, sZb, sZc]
           refine tk (i := 22) (v := .bool false) 36 rfl rfl (by kernel_rfl) (fun _ s => by (have h := SO.facts s; clear s; go_simp; first | done | exact rfl | simp_all | (simp; omega))) ?_
           simp only [sZa, sZb, sZc]
           refine tk (i := 23) 37 rfl rfl (by kernel_rfl) (fun _ s => by (have h := SO.facts s; clear s; go_simp; first | done | exact rfl)) ?_
           simp only [sZa, sZb, sZc]
           refine tk (i := 24) 38 rfl rfl (by kernel_rfl) (fun _ s => by (have h := SO.facts s; clear s; go_simp; first | done | exact rfl)) ?_
           simp only [sZa, sZb, sZc]
           refine tk (i := 25) 39 rfl rfl (by kernel_rfl) (fun _ s => by (have h := SO.facts s; clear s; go_simp; first | done | exact rfl)) ?_
           simp only [sZa, sZb, sZc]
           refine tk (i := 26) 40 rfl rfl (by kernel_rfl) (fun _ s => by (have h := SO.facts s; clear s; go_simp; first | done | exact rfl)) ?_
           simp only [sZa, sZb, sZc]
           refine tk (i := 27) 41 rfl rfl (by kernel_rfl) (fun _ s => by (have h := SO.facts s; clear s; go_simp; first | done | exact rfl)) ?_
           simp only [sZa, sZb, sZc]
           refine tk (i := 28) (v := .bool false) 42 rfl rfl (by kernel_rfl) (fun _ s => by (have h := SO.facts s; clear s; go_simp; first | done | exact rfl | simp_all | (simp; omega))) ?_
           simp only [sZa, sZb, sZc]
           refine tk (i := 29) 43 rfl rfl (by kernel_rfl) (fun _ s => by (have h := SO.facts s; clear s; go_simp; first | done | exact rfl)) ?_
           simp only [sZa, sZb, sZc]
           refine wpAnyH_done (by kernel_rfl) ?_ _
           go_wp2
           go_roundg (m - (k + 1))
           case measure => omega
           case rel => exact ⟨k + 1, by go_num, by omega, Nat.le_refl _, HF, HBW.out.trans (HS3.out.bel.mono HBW.out.size)⟩
    · obtain ⟨kp, hkp⟩ : ∃ kp, kp + 1 = k := ⟨k - 1, by omega⟩
      have hk0z : (0 : Int) < (k : Int) := by omega
      obtain ⟨y, hy⟩ : ∃ y, l[kp]? = some y := ⟨l[kp]'(by have := HN.out; omega), List.getElem?_eq_getElem _⟩
      obtain ⟨g', off', e', _, d0, d1, d2⟩ := hRw.at hy
      simp only [Option.some.injEq, Addr.mk.injEq] at e'
      obtain ⟨rfl, rfl, _⟩ := e'
      have rkp : IntKind.i64.wrap ((k : Int) - 1) = (kp : Int) := by rw [IntKind.wrap_i64]; omega
      have pkp : (0 : Int) ≤ (kp : Int) := by omega
      have bkp : (kp : Int) < (m : Int) := by omega
      have tkp : (kp : Int).toNat = kp := by omega
      have HGW : Hid (g < W1.heap.size) := Nat.lt_of_lt_of_le hg (Nat.le_trans hE HBW.out.size)
      have HSP : Hid (SO ab g (off + kp * 3) x y true W1 W1.drew) := ⟨HS0.out.c0, HS0.out.c2, fun _ => ((HB1.out.drew).cell (p := ⟨g, off + kp * 3, none⟩) (Nat.lt_of_lt_of_le hg (Nat.le_trans hE HB.out.size))).trans d0, HS0.out.bel⟩
      have HOA3 : Hid (ordB n none l = (!decide (x.label ≤ y.label) && WR && decide (0 ≤ x.to ∧ x.to < (n : Int)) && ordB n (prevL l (k + 1)) (l.drop (k + 1)))) := by
       show _ = _
       rw [HO.out, HOA]
       have : prevL l k = some y.label := by rw [← hkp, prevL, hy]; rfl
       rw [this]
       rfl
      clear HOA hx hRw hn1 hb1 hWR HO hk0 hy d0 d1 d2
      by_cases hyx : x.label ≤ y.label
      · have HF : Hid (ordB n none l = false) := by show _ = _; rw [HOA3.out, decide_eq_true hyx]; rfl
        have HS3 : Hid (SO ab g (off + kp * 3) x y true W1 W1.drew) := HSP
        clear HOA3
        refine region_at (S := SO ab g (off + kp * 3) x y true W1) 30 rfl mixedP HSP.out (fun _ => ?_)
        refine tk (i := 0) 14 rfl rfl (by kernel_rfl) (fun _ s => by (have h := SO.facts3 s; clear s; go_simp; first | done | exact rfl)) ?_
        simp only [sZa, sZb, sZc]
        refine tk (i := 1) (v := .bool true) 15 rfl rfl (by kernel_rfl) (fun _ s => by (have h := SO.facts3 s; clear s; go_simp; first | done | exact rfl | simp_all | (simp; omega))) ?_
        simp only [sZa, sZb, sZc]
        refine tk (i := 2) 16 rfl rfl (by kernel_rfl) (fun _ s => by (have h := SO.facts3 s; clear s; go_simp; first | done | exact rfl)) ?_
        simp only [sZa, sZb, sZc]
        refine tk (i := 3) 17 rfl rfl (by kernel_rfl) (fun _ s => by (have h := SO.facts3 s; clear s; go_simp; first | done | exact rfl)) ?_
        simp only [sZa, sZb, sZc]
        refine tk (i := 4) 18 rfl rfl (by kernel_rfl) (fun _ s => by (have h := SO.facts3 s; clear s; go_simp; first | done | exact rfl)) ?_
        simp only [sZa, sZb, sZc]
        refine tk (i := 5) (v := .int .i64 (kp : Int)) 19 rfl rfl (by kernel_rfl) (fun _ s => by (have h := SO.facts3 s; clear s; go_simp; first | done | exact rfl | simp_all | (simp; omega))) ?_
        simp only [sZa, sZb, sZc]
        refine tk (i := 6) 20 rfl rfl (by kernel_rfl) (fun _ s => by (have h := SO.facts3 s; clear s; go_simp; first | done | exact rfl)) ?_
        simp only [sZa, sZb, sZc]
        refine tk (i := 7) 21 rfl rfl (by kernel_rfl) (fun _ s => by (have h := SO.facts3 s; clear s; go_simp; first | done | exact rfl)) ?_
        simp only [sZa, sZb, sZc]
        refine tk (i := 8) 22 rfl rfl (by kernel_rfl) (fun _ s => by (have h := SO.facts3 s; clear s; go_simp; first | done | exact rfl)) ?_
        simp only [sZa, sZb, sZc]
        refine tk (i := 9) 23 rfl rfl (by kernel_rfl) (fun _ s => by (have h := SO.facts3 s; clear s; go_simp; first | done | exact rfl)) ?_
        simp only [sZa, sZb, sZc]
        refine tk (i := 10) 24 rfl rfl (by kernel_rfl) (fun _ s => by (have h := SO.facts3 s; clear s; go_simp; first | done | exact rfl)) ?_
        simp only [sZa, sZb, sZc]
        have hS3 := HSP.out
        refine tk (i := 11) (v := .bool true) 25 rfl rfl (by kernel_rfl) (fun _ s => by (have h := SO.facts3 s; clear s; go_simp; first | done | exact rfl | simp_all | (simp; omega))) ?_
        simp only [sZa, sZb, sZc]
        refine tk (i := 12) 26 rfl rfl (by kernel_rfl) (fun _ s => by (have h := SO.facts s; clear s; go_simp; first | done | exact rfl)) ?_
        simp only [sZa, sZb, sZc]
        refine tk (i := 13) 27 rfl rfl (by kernel_rfl) (fun _ s => by (have h := SO.facts s; clear s; go_simp; first | done | exact rfl)) ?_
        simp only [sZa, sZb, sZc]
        refine pk (i := 14) 28 rfl rfl (by kernel_rfl) (fun _ _ _ h => h) (by rfl) (by assumption) ?_
        simp only [sZa, sZb, sZc]
        refine pk (i := 15) 29 rfl rfl (by kernel_rfl) (fun _ _ _ h => h) (by rfl) (by assumption) ?_
        simp only [sZa, sZb, sZc]
        refine pk (i := 16) 30 rfl rfl (by kernel_rfl) (fun _ _ _ h => h) (by rfl) (by assumption) ?_
        simp only [sZa, sZb, sZc]
        refine pk (i := 17) 31 rfl rfl (by kernel_rfl) (fun _ _ _ h => h) (by rfl) (by assumption) ?_
        simp only [sZa, sZb, sZc]
        refine tk (i := 18) 32 rfl rfl (by kernel_rfl) (fun _ s => by (have h := SO.facts s; clear s; go_simp; first | done | exact rfl)) ?_
        simp only [sZa, sZb, sZc]
        refine tk (i := 19) 33 rfl rfl (by kernel_rfl) (fun _ s => by (have h := SO.facts s; clear s; go_simp; first | done | exact rfl)) ?_
        simp only [sZa, sZb, sZc]
        refine pk (i := 20) 34 rfl rfl (by kernel_rfl) (fun _ _ _ h => h) (by rfl) (by assumption) ?_
        simp only [sZa, sZb, sZc]
        refine pk (i := 21) 35 rfl rfl (by kernel_rfl) (fun _ _ _ h => h) (by rfl) (by assumption) ?_
        simp only [sZa, sZb, sZc]
        refine pk (i := 22) 36 rfl rfl (by kernel_rfl) (fun _ _ _ h => h) (by rfl) (by assumption) ?_
        simp only [sZa, sZb, sZc]
        refine tk (i := 23) 37 rfl rfl (by kernel_rfl) (fun _ s => by (have h := SO.facts s; clear s; go_simp; first | done | exact rfl)) ?_
        simp only [sZa, sZb, sZc]
        refine tk (i := 24) 38 rfl rfl (by kernel_rfl) (fun _ s => by (have h := SO.facts s; clear s; go_simp; first | done | exact rfl)) ?_
        simp only [sZa, sZb, sZc]
        refine pk (i := 25) 39 rfl rfl (by kernel_rfl) (fun _ _ _ h => h) (by rfl) (by assumption) ?_
        simp only [sZa, sZb, sZc]
        refine pk (i := 26) 40 rfl rfl (by kernel_rfl) (fun _ _ _ h => h) (by rfl) (by assumption) ?_
        simp only [sZa, sZb, sZc]
        refine pk (i := 27) 41 rfl rfl (by kernel_rfl) (fun _ _ _ h => h) (by rfl) (by assumption) ?_
        simp only [sZa, sZb, sZc]
        refine pk (i := 28) 42 rfl rfl (by kernel_rfl) (fun _ _ _ h => h) (by rfl) (by assumption) ?_
        simp only [sZa, sZb, sZc]
        refine tk (i := 29) 43 rfl rfl (by kernel_rfl) (fun _ s => by (have h := SO.facts s; clear s; go_simp; first | done | exact rfl)) ?_
        simp only [sZa, sZb, sZc]
        refine wpAnyH_done (by kernel_rfl) ?_ _
        go_wp2
        go_ret
        exact ⟨by rw [HF.out]; rfl, HBW.out.trans (HS3.out.bel.mono HBW.out.size)⟩
      · have HOA2 : Hid (ordB n none l = (WR && decide (0 ≤ x.to ∧ x.to < (n : Int)) && ordB n (prevL l (k + 1)) (l.drop (k + 1)))) := by
         show _ = _
         rw [HOA3.out, decide_eq_false hyx]
         rfl
        clear HOA3
        cases WR with
        | false =>
         have HF : Hid (ordB n none l = false) := by show _ = _; rw [HOA2.out]; rfl
         clear HOA2
         refine region_at (S := SO ab g (off + kp * 3) x y true W1) 30 rfl mixedP HSP.out (fun _ => ?_)
         refine tk (i := 0) 14 rfl rfl (by kernel_rfl) (fun _ s => by (have h := SO.facts3 s; clear s; go_simp; first | done | exact rfl)) ?_
         simp only [sZa, sZb, sZc]
         refine tk (i := 1) (v := .bool true) 15 rfl rfl (by kernel_rfl) (fun _ s => by (have h := SO.facts3 s; clear s; go_simp; first | done | exact rfl | simp_all | (simp; omega))) ?_
         simp only [sZa, sZb, sZc]
         refine tk (i := 2) 16 rfl rfl (by kernel_rfl) (fun _ s => by (have h := SO.facts3 s; clear s; go_simp; first | done | exact rfl)) ?_
         simp only [sZa, sZb, sZc]
         refine tk (i := 3) 17 rfl rfl (by kernel_rfl) (fun _ s => by (have h := SO.facts3 s; clear s; go_simp; first | done | exact rfl)) ?_
         simp only [sZa, sZb, sZc]
         refine tk (i := 4) 18 rfl rfl (by kernel_rfl) (fun _ s => by (have h := SO.facts3 s; clear s; go_simp; first | done | exact rfl)) ?_
         simp only [sZa, sZb, sZc]
         refine tk (i := 5) (v := .int .i64 (kp : Int)) 19 rfl rfl (by kernel_rfl) (fun _ s => by (have h := SO.facts3 s; clear s; go_simp; first | done | exact rfl | simp_all | (simp; omega))) ?_
         simp only [sZa, sZb, sZc]
         refine tk (i := 6) 20 rfl rfl (by kernel_rfl) (fun _ s => by (have h := SO.facts3 s; clear s; go_simp; first | done | exact rfl)) ?_
         simp only [sZa, sZb, sZc]
         refine tk (i := 7) 21 rfl rfl (by kernel_rfl) (fun _ s => by (have h := SO.facts3 s; clear s; go_simp; first | done | exact rfl)) ?_
         simp only [sZa, sZb, sZc]
         refine tk (i := 8) 22 rfl rfl (by kernel_rfl) (fun _ s => by (have h := SO.facts3 s; clear s; go_simp; first | done | exact rfl)) ?_
         simp only [sZa, sZb, sZc]
         refine tk (i := 9) 23 rfl rfl (by kernel_rfl) (fun _ s => by (have h := SO.facts3 s; clear s; go_simp; first | done | exact rfl)) ?_
         simp only [sZa, sZb, sZc]
         refine tk (i := 10) 24 rfl rfl (by kernel_rfl) (fun _ s => by (have h := SO.facts3 s; clear s; go_simp; first | done | exact rfl)) ?_
         simp only [sZa, sZb, sZc]
         refine tk (i := 11) (v := .bool false) 25 rfl rfl (by kernel_rfl) (fun _ s => by (have h := SO.facts3 s; clear s; go_simp; first | done | exact rfl | simp_all | (simp; omega))) ?_
         simp only [sZa, sZb, sZc]
         refine tk (i := 12) 26 rfl rfl (by kernel_rfl) (fun _ s => by (have h := SO.facts3 s; clear s; go_simp; first | done | exact rfl)) ?_
         simp only [sZa, sZb, sZc]
         refine tk (i := 13) 27 rfl rfl (by kernel_rfl) (fun _ s => by (have h := SO.facts3 s; clear s; go_simp; first | done | exact rfl)) ?_
         simp only [sZa, sZb, sZc]
         refine tk (i := 14) 28 rfl rfl (by kernel_rfl) (fun _ s => by (have h := SO.facts3 s; clear s; go_simp; first | done | exact rfl)) ?_
         simp only [sZa, sZb, sZc]
         refine tk (i := 15) 29 rfl rfl (by kernel_rfl) (fun _ s => by (have h := SO.facts3 s; clear s; go_simp; first | done | exact rfl)) ?_
         simp only [sZa, sZb, sZc]
         refine one_call (i := 16) (w0 := W1.drew) 30 104 #[.int .i32 x.label] (by kernel_rfl) rfl rfl (by rfl) (by kernel_rfl) ?_
         refine (ofWords_any W1.drew x.label (HT.out.below (HBW.out.drew))).mono ?_
         rintro e w3 ⟨rfl, hb3⟩
         have HS3 : Hid (SO ab g (off + kp * 3) x y true W1 w3) := HSP.out.below HAB.out (fun _ => HGW.out) hb3
         have hS3 := HS3.out
         rw [HWR.out]
         refine ⟨_, rfl, hS3, fun _ => ?_⟩
         simp only [sZa, sZb, sZc]
         refine tk (i := 17) 31 rfl rfl (by kernel_rfl) (fun _ s => by (have h := SO.facts s; clear s; go_simp; first | done | exact rfl)) ?_
         simp only [sZa, sZb, sZc]
         refine tk (i := 18) 32 rfl rfl (by kernel_rfl) (fun _ s => by (have h := SO.facts s; clear s; go_simp; first | done | exact rfl)) ?_
         simp only [sZa, sZb, sZc]
         refine tk (i := 19) 33 rfl rfl (by kernel_rfl) (fun _ s => by (have h := SO.facts s; clear s; go_simp; first | done | exact rfl)) ?_
         simp only [sZa, sZb, sZc]
         refine pk (i := 20) 34 rfl rfl (by kernel_rfl) (fun _ _ _ h => h) (by rfl) (by assumption) ?_
         simp only [sZa, sZb, sZc]
         refine pk (i := 21) 35 rfl rfl (by kernel_rfl) (fun _ _ _ h => h) (by rfl) (by assumption) ?_
         simp only [sZa, sZb, sZc]
         refine pk (i := 22) 36 rfl rfl (by kernel_rfl) (fun _ _ _ h => h) (by rfl) (by assumption) ?_
         simp only [sZa, sZb, sZc]
         refine tk (i := 23) 37 rfl rfl (by kernel_rfl) (fun _ s => by (have h := SO.facts s; clear s; go_simp; first | done | exact rfl)) ?_
         simp only [sZa, sZb, sZc]
         refine tk (i := 24) 38 rfl rfl (by kernel_rfl) (fun _ s => by (have h := SO.facts s; clear s; go_simp; first | done | exact rfl)) ?_
         simp only [sZa, sZb, sZc]
         refine pk (i := 25) 39 rfl rfl (by kernel_rfl) (fun _ _ _ h => h) (by rfl) (by assumption) ?_
         simp only [sZa, sZb, sZc]
         refine pk (i := 26) 40 rfl rfl (by kernel_rfl) (fun _ _ _ h => h) (by rfl) (by assumption) ?_
         simp only [sZa, sZb, sZc]
         refine pk (i := 27) 41 rfl rfl (by kernel_rfl) (fun _ _ _ h => h) (by rfl) (by assumption) ?_
         simp only [sZa, sZb, sZc]
         refine pk (i := 28) 42 rfl rfl (by kernel_rfl) (fun _ _ _ h => h) (by rfl) (by assumption) ?_
         simp only [sZa, sZb, sZc]
         refine tk (i := 29) 43 rfl rfl (by kernel_rfl) (fun _ s => by (have h := SO.facts s; clear s; go_simp; first | done | exact rfl)) ?_
         simp only [sZa, sZb, sZc]
         refine wpAnyH_done (by kernel_rfl) ?_ _
         go_wp2
         go_ret
         exact ⟨by rw [HF.out]; rfl, HBW.out.trans (HS3.out.bel.mono HBW.out.size)⟩
        | true =>
         by_cases ht1 : x.to < 0
         · have HF : Hid (ordB n none l = false) := by show _ = _; rw [HOA2.out, decide_eq_false (by omega)]; rfl
           clear HOA2
           refine region_at (S := SO ab g (off + kp * 3) x y true W1) 30 rfl mixedP HSP.out (fun _ => ?_)
           refine tk (i := 0) 14 rfl rfl (by kernel_rfl) (fun _ s => by (have h := SO.facts3 s; clear s; go_simp; first | done | exact rfl)) ?_
           simp only [sZa, sZb, sZc]
           refine tk (i := 1) (v := .bool true) 15 rfl rfl (by kernel_rfl) (fun _ s => by (have h := SO.facts3 s; clear s; go_simp; first | done | exact rfl | simp_all | (simp; omega))) ?_
           simp only [sZa, sZb, sZc]
           refine tk (i := 2) 16 rfl rfl (by kernel_rfl) (fun _ s => by (have h := SO.facts3 s; clear s; go_simp; first | done | exact rfl)) ?_
           simp only [sZa, sZb, sZc]
           refine tk (i := 3) 17 rfl rfl (by kernel_rfl) (fun _ s => by (have h := SO.facts3 s; clear s; go_simp; first | done | exact rfl)) ?_
           simp only [sZa, sZb, sZc]
           refine tk (i := 4) 18 rfl rfl (by kernel_rfl) (fun _ s => by (have h := SO.facts3 s; clear s; go_simp; first | done | exact rfl)) ?_
           simp only [sZa, sZb, sZc]
           refine tk (i := 5) (v := .int .i64 (kp : Int)) 19 rfl rfl (by kernel_rfl) (fun _ s => by (have h := SO.facts3 s; clear s; go_simp; first | done | exact rfl | simp_all | (simp; omega))) ?_
           simp only [sZa, sZb, sZc]
           refine tk (i := 6) 20 rfl rfl (by kernel_rfl) (fun _ s => by (have h := SO.facts3 s; clear s; go_simp; first | done | exact rfl)) ?_
           simp only [sZa, sZb, sZc]
           refine tk (i := 7) 21 rfl rfl (by kernel_rfl) (fun _ s => by (have h := SO.facts3 s; clear s; go_simp; first | done | exact rfl)) ?_
           simp only [sZa, sZb, sZc]
           refine tk (i := 8) 22 rfl rfl (by kernel_rfl) (fun _ s => by (have h := SO.facts3 s; clear s; go_simp; first | done | exact rfl)) ?_
           simp only [sZa, sZb, sZc]
           refine tk (i := 9) 23 rfl rfl (by kernel_rfl) (fun _ s => by (have h := SO.facts3 s; clear s; go_simp; first | done | exact rfl)) ?_
           simp only [sZa, sZb, sZc]
           refine tk (i := 10) 24 rfl rfl (by kernel_rfl) (fun _ s => by (have h := SO.facts3 s; clear s; go_simp; first | done | exact rfl)) ?_
           simp only [sZa, sZb, sZc]
           refine tk (i := 11) (v := .bool false) 25 rfl rfl (by kernel_rfl) (fun _ s => by (have h := SO.facts3 s; clear s; go_simp; first | done | exact rfl | simp_all | (simp; omega))) ?_
           simp only [sZa, sZb, sZc]
           refine tk (i := 12) 26 rfl rfl (by kernel_rfl) (fun _ s => by (have h := SO.facts3 s; clear s; go_simp; first | done | exact rfl)) ?_
           simp only [sZa, sZb, sZc]
           refine tk (i := 13) 27 rfl rfl (by kernel_rfl) (fun _ s => by (have h := SO.facts3 s; clear s; go_simp; first | done | exact rfl)) ?_
           simp only [sZa, sZb, sZc]
           refine tk (i := 14) 28 rfl rfl (by kernel_rfl) (fun _ s => by (have h := SO.facts3 s; clear s; go_simp; first | done | exact rfl)) ?_
           simp only [sZa, sZb, sZc]
           refine tk (i := 15) 29 rfl rfl (by kernel_rfl) (fun _ s => by (have h := SO.facts3 s; clear s; go_simp; first | done | exact rfl)) ?_
           simp only [sZa, sZb, sZc]
           refine one_call (i := 16) (w0 := W1.drew) 30 104 #[.int .i32 x.label] (by kernel_rfl) rfl rfl (by rfl) (by kernel_rfl) ?_
           refine (ofWords_any W1.drew x.label (HT.out.below (HBW.out.drew))).mono ?_
           rintro e w3 ⟨rfl, hb3⟩
           have HS3 : Hid (SO ab g (off + kp * 3) x y true W1 w3) := HSP.out.below HAB.out (fun _ => HGW.out) hb3
           have hS3 := HS3.out
           rw [HWR.out]
           refine ⟨_, rfl, hS3, fun _ => ?_⟩
           simp only [sZa, sZb, sZc]
           refine tk (i := 17) 31 rfl rfl (by kernel_rfl) (fun _ s => by (have h := SO.facts s; clear s; go_simp; first | done | exact rfl)) ?_
           simp only [sZa, sZb, sZc]
           refine tk (i := 18) 32 rfl rfl (by kernel_rfl) (fun _ s => by (have h := SO.facts s; clear s; go_simp; first | done | exact rfl)) ?_
           simp only [sZa, sZb, sZc]
           refine tk (i := 19) 33 rfl rfl (by kernel_rfl) (fun _ s => by (have h := SO.facts s; clear s; go_simp; first | done | exact rfl)) ?_
           simp only [sZa, sZb, sZc]
           refine tk (i := 20) 34 rfl rfl (by kernel_rfl) (fun _ s => by (have h := SO.facts s; clear s; go_simp; first | done | exact rfl)) ?_
           simp only [sZa, sZb, sZc]
           refine tk (i := 21) 35 rfl rfl (by kernel_rfl) (fun _ s => by (have h := SO.facts s; clear s; go_simp; first | done | exact rfl)) ?_
           simp only [sZa, sZb, sZc]
           refine tk (i := 22) (v := .bool true) 36 rfl rfl (by kernel_rfl) (fun _ s => by (have h := SO.facts s; clear s; go_simp; first | done | exact rfl | simp_all | (simp; omega))) ?_
           simp only [sZa, sZb, sZc]
           refine tk (i := 23) 37 rfl rfl (by kernel_rfl) (fun _ s => by (have h := SO.facts s; clear s; go_simp; first | done | exact rfl)) ?_
           simp only [sZa, sZb, sZc]
           refine tk (i := 24) 38 rfl rfl (by kernel_rfl) (fun _ s => by (have h := SO.facts s; clear s; go_simp; first | done | exact rfl)) ?_
           simp only [sZa, sZb, sZc]
           refine pk (i := 25) 39 rfl rfl (by kernel_rfl) (fun _ _ _ h => h) (by rfl) (by assumption) ?_
           simp only [sZa, sZb, sZc]
           refine pk (i := 26) 40 rfl rfl (by kernel_rfl) (fun _ _ _ h => h) (by rfl) (by assumption) ?_
           simp only [sZa, sZb, sZc]
           refine pk (i := 27) 41 rfl rfl (by kernel_rfl) (fun _ _ _ h => h) (by rfl) (by assumption) ?_
           simp only [sZa, sZb, sZc]
           refine pk (i := 28) 42 rfl rfl (by kernel_rfl) (fun _ _ _ h => h) (by rfl) (by assumption) ?_
           simp only [sZa, sZb, sZc]
           refine tk (i := 29) 43 rfl rfl (by kernel_rfl) (fun _ s => by (have h := SO.facts s; clear s; go_simp; first | done | exact rfl)) ?_
           simp only [sZa, sZb, sZc]
           refine wpAnyH_done (by kernel_rfl) ?_ _
           go_wp2
           go_ret
           exact ⟨by rw [HF.out]; rfl, HBW.out.trans (HS3.out.bel.mono HBW.out.size)⟩
         · by_cases ht2 : (n : Int) ≤ x.to
           · have HF : Hid (ordB n none l = false) := by show _ = _; rw [HOA2.out, decide_eq_false (by omega)]; rfl
             clear HOA2
             refine region_at (S := SO ab g (off + kp * 3) x y true W1) 30 rfl mixedP HSP.out (fun _ => ?_)
             refine tk (i := 0) 14 rfl rfl (by kernel_rfl) (fun _ s => by (have h := SO.facts3 s; clear s; go_simp; first | done | exact rfl)) ?_
             simp only [sZa, sZb, sZc]
             refine tk (i := 1) (v := .bool true) 15 rfl rfl (by kernel_rfl) (fun _ s => by (have h := SO.facts3 s; clear s; go_simp; first | done | exact rfl | simp_all | (simp; omega))) ?_
             simp only [sZa, sZb, sZc]
             refine tk (i := 2) 16 rfl rfl (by kernel_rfl) (fun _ s => by (have h := SO.facts3 s; clear s; go_simp; first | done | exact rfl)) ?_
             simp only [sZa, sZb, sZc]
             refine tk (i := 3) 17 rfl rfl (by kernel_rfl) (fun _ s => by (have h := SO.facts3 s; clear s; go_simp; first | done | exact rfl)) ?_
             simp only [sZa, sZb, sZc]
             refine tk (i := 4) 18 rfl rfl (by kernel_rfl) (fun _ s => by (have h := SO.facts3 s; clear s; go_simp; first | done | exact rfl)) ?_
             simp only [sZa, sZb, sZc]
             refine tk (i := 5) (v := .int .i64 (kp : Int)) 19 rfl rfl (by kernel_rfl) (fun _ s => by (have h := SO.facts3 s; clear s; go_simp; first | done | exact rfl | simp_all | (simp; omega))) ?_
             simp only [sZa, sZb, sZc]
             refine tk (i := 6) 20 rfl rfl (by kernel_rfl) (fun _ s => by (have h := SO.facts3 s; clear s; go_simp; first | done | exact rfl)) ?_
             simp only [sZa, sZb, sZc]
             refine tk (i := 7) 21 rfl rfl (by kernel_rfl) (fun _ s => by (have h := SO.facts3 s; clear s; go_simp; first | done | exact rfl)) ?_
             simp only [sZa, sZb, sZc]
             refine tk (i := 8) 22 rfl rfl (by kernel_rfl) (fun _ s => by (have h := SO.facts3 s; clear s; go_simp; first | done | exact rfl)) ?_
             simp only [sZa, sZb, sZc]
             refine tk (i := 9) 23 rfl rfl (by kernel_rfl) (fun _ s => by (have h := SO.facts3 s; clear s; go_simp; first | done | exact rfl)) ?_
             simp only [sZa, sZb, sZc]
             refine tk (i := 10) 24 rfl rfl (by kernel_rfl) (fun _ s => by (have h := SO.facts3 s; clear s; go_simp; first | done | exact rfl)) ?_
             simp only [sZa, sZb, sZc]
             refine tk (i := 11) (v := .bool false) 25 rfl rfl (by kernel_rfl) (fun _ s => by (have h := SO.facts3 s; clear s; go_simp; first | done | exact rfl | simp_all | (simp; omega))) ?_
             simp only [sZa, sZb, sZc]
             refine tk (i := 12) 26 rfl rfl (by kernel_rfl) (fun _ s => by (have h := SO.facts3 s; clear s; go_simp; first | done | exact rfl)) ?_
             simp only [sZa, sZb, sZc]
             refine tk (i := 13) 27 rfl rfl (by kernel_rfl) (fun _ s => by (have h := SO.facts3 s; clear s; go_simp; first | done | exact rfl)) ?_
             simp only [sZa, sZb, sZc]
             refine tk (i := 14) 28 rfl rfl (by kernel_rfl) (fun _ s => by (have h := SO.facts3 s; clear s; go_simp; first | done | exact rfl)) ?_
             simp only [sZa, sZb, sZc]
             refine tk (i := 15) 29 rfl rfl (by kernel_rfl) (fun _ s => by (have h := SO.facts3 s; clear s; go_simp; first | done | exact rfl)) ?_
             simp only [sZa, sZb, sZc]
             refine one_call (i := 16) (w0 := W1.drew) 30 104 #[.int .i32 x.label] (by kernel_rfl) rfl rfl (by rfl) (by kernel_rfl) ?_
             refine (ofWords_any W1.drew x.label (HT.out.below (HBW.out.drew))).mono ?_
             rintro e w3 ⟨rfl, hb3⟩
             have HS3 : Hid (SO ab g (off + kp * 3) x y true W1 w3) := HSP.out.below HAB.out (fun _ => HGW.out) hb3
             have hS3 := HS3.out
             rw [HWR.out]
             refine ⟨_, rfl, hS3, fun _ => ?_⟩
             simp only [sZa, sZb, sZc]
             refine tk (i := 17) 31 rfl rfl (by kernel_rfl) (fun _ s => by (have h := SO.facts s; clear s; go_simp; first | done | exact rfl)) ?_
             simp only [sZa, sZb, sZc]
             refine tk (i := 18) 32 rfl rfl (by kernel_rfl) (fun _ s => by (have h := SO.facts s; clear s; go_simp; first | done | exact rfl)) ?_
             simp only [sZa, sZb, sZc]
             refine tk (i := 19) 33 rfl rfl (by kernel_rfl) (fun _ s => by (have h := SO.facts s; clear s; go_simp; first | done | exact rfl)) ?_
             simp only [sZa, sZb, sZc]
             refine tk (i := 20) 34 rfl rfl (by kernel_rfl) (fun _ s => by (have h := SO.facts s; clear s; go_simp; first | done | exact rfl)) ?_
             simp only [sZa, sZb, sZc]
             refine tk (i := 21) 35 rfl rfl (by kernel_rfl) (fun _ s => by (have h := SO.facts s; clear s; go_simp; first | done | exact rfl)) ?_
             simp only [sZa, sZb, sZc]
             refine tk (i := 22) (v := .bool false) 36 rfl rfl (by kernel_rfl) (fun _ s => by (have h := SO.facts s; clear s; go_simp; first | done | exact rfl | simp_all | (simp; omega))) ?_
             simp only [sZa, sZb, sZc]
             refine tk (i := 23) 37 rfl rfl (by kernel_rfl) (fun _ s => by (have h := SO.facts s; clear s; go_simp; first | done | exact rfl)) ?_
             simp only [sZa, sZb, sZc]
             refine tk (i := 24) 38 rfl rfl (by kernel_rfl) (fun _ s => by (have h := SO.facts s; clear s; go_simp; first | done | exact rfl)) ?_
             simp only [sZa, sZb, sZc]
             refine tk (i := 25) 39 rfl rfl (by kernel_rfl) (fun _ s => by (have h := SO.facts s; clear s; go_simp; first | done | exact rfl)) ?_
             simp only [sZa, sZb, sZc]
             refine tk (i := 26) 40 rfl rfl (by kernel_rfl) (fun _ s => by (have h := SO.facts s; clear s; go_simp; first | done | exact rfl)) ?_
             simp only [sZa, sZb, sZc]
             refine tk (i := 27) 41 rfl rfl (by kernel_rfl) (fun _ s => by (have h := SO.facts s; clear s; go_simp; first | done | exact rfl)) ?_
             simp only [sZa, sZb, sZc]
             refine tk (i := 28) (v := .bool true) 42 rfl rfl (by kernel_rfl) (fun _ s => by (have h := SO.facts s; clear s; go_simp; first | done | exact rfl | simp_all | (simp; omega))) ?_
             simp only [sZa, sZb, sZc]
             refine tk (i := 29) 43 rfl rfl (by kernel_rfl) (fun _ s => by (have h := SO.facts s; clear s; go_simp; first | done | exact rfl)) ?_
             simp only [sZa, sZb, sZc]
             refine wpAnyH_done (by kernel_rfl) ?_ _
             go_wp2
             go_ret
             exact ⟨by rw [HF.out]; rfl, HBW.out.trans (HS3.out.bel.mono HBW.out.size)⟩
           · have HF : Hid (ordB n none l = ordB n (prevL l (k + 1)) (l.drop (k + 1))) := by show _ = _; rw [HOA2.out, decide_eq_true (by omega)]; rfl
             clear HOA2
             refine region_at (S := SO ab g (off + kp * 3) x y true W1) 30 rfl mixedP HSP.out (fun _ => ?_)
             refine tk (i := 0) 14 rfl rfl (by kernel_rfl) (fun _ s => by (have h := SO.facts3 s; clear s; go_simp; first | done | exact rfl)) ?_
             simp only [sZa, sZb, sZc]
             refine tk (i := 1) (v := .bool true) 15 rfl rfl (by kernel_rfl) (fun _ s => by (have h := SO.facts3 s; clear s; go_simp; first | done | exact rfl | simp_all | (simp; omega))) ?_
             simp only [sZa, sZb, sZc]
             refine tk (i := 2) 16 rfl rfl (by kernel_rfl) (fun _ s => by (have h := SO.facts3 s; clear s; go_simp; first | done | exact rfl)) ?_
             simp only [sZa, sZb, sZc]
             refine tk (i := 3) 17 rfl rfl (by kernel_rfl) (fun _ s => by (have h := SO.facts3 s; clear s; go_simp; first | done | exact rfl)) ?_
             simp only [sZa, sZb, sZc]
             refine tk (i := 4) 18 rfl rfl (by kernel_rfl) (fun _ s => by (have h := SO.facts3 s; clear s; go_simp; first | done | exact rfl)) ?_
             simp only [sZa, sZb, sZc]
             refine tk (i := 5) (v := .int .i64 (kp : Int)) 19 rfl rfl (by kernel_rfl) (fun _ s => by (have h := SO.facts3 s; clear s; go_simp; first | done | exact rfl | simp_all | (simp; omega))) ?_
             simp only [sZa, sZb, sZc]
             refine tk (i := 6) 20 rfl rfl (by kernel_rfl) (fun _ s => by (have h := SO.facts3 s; clear s; go_simp; first | done | exact rfl)) ?_
             simp only [sZa, sZb, sZc]
             refine tk (i := 7) 21 rfl rfl (by kernel_rfl) (fun _ s => by (have h := SO.facts3 s; clear s; go_simp; first | done | exact rfl)) ?_
             simp only [sZa, sZb, sZc]
             refine tk (i := 8) 22 rfl rfl (by kernel_rfl) (fun _ s => by (have h := SO.facts3 s; clear s; go_simp; first | done | exact rfl)) ?_
             simp only [sZa, sZb, sZc]
             refine tk (i := 9) 23 rfl rfl (by kernel_rfl) (fun _ s => by (have h := SO.facts3 s; clear s; go_simp; first | done | exact rfl)) ?_
             simp only [sZa, sZb, sZc]
             refine tk (i := 10) 24 rfl rfl (by kernel_rfl) (fun _ s => by (have h := SO.facts3 s; clear s; go_simp; first | done | exact rfl)) ?_
             simp only [sZa, sZb, sZc]
             refine tk (i := 11) (v := .bool false) 25 rfl rfl (by kernel_rfl) (fun _ s => by (have h := SO.facts3 s; clear s; go_simp; first | done | exact rfl | simp_all | (simp; omega))) ?_
             simp only [sZa, sZb, sZc]
             refine tk (i := 12) 26 rfl rfl (by kernel_rfl) (fun _ s => by (have h := SO.facts3 s; clear s; go_simp; first | done | exact rfl)) ?_
             simp only [sZa, sZb, sZc]
             refine tk (i := 13) 27 rfl rfl (by kernel_rfl) (fun _ s => by (have h := SO.facts3 s; clear s; go_simp; first | done | exact rfl)) ?_
             simp only [sZa, sZb, sZc]
             refine tk (i := 14) 28 rfl rfl (by kernel_rfl) (fun _ s => by (have h := SO.facts3 s; clear s; go_simp; first | done | exact rfl)) ?_
             simp only [sZa, sZb, sZc]
             refine tk (i := 15) 29 rfl rfl (by kernel_rfl) (fun _ s => by (have h := SO.facts3 s; clear s; go_simp; first | done | exact rfl)) ?_
             simp only [sZa, sZb, sZc]
             refine one_call (i := 16) (w0 := W1.drew) 30 104 #[.int .i32 x.label] (by kernel_rfl) rfl rfl (by rfl) (by kernel_rfl) ?_
             refine (ofWords_any W1.drew x.label (HT.out.below (HBW.out.drew))).mono ?_
             rintro e w3 ⟨rfl, hb3⟩
             have HS3 : Hid (SO ab g (off + kp * 3) x y true W1 w3) := HSP.out.below HAB.out (fun _ => HGW.out) hb3
             have hS3 := HS3.out
             rw [HWR.out]
             refine ⟨_, rfl, hS3, fun _ => ?_⟩
             simp only [sZa, sZb, sZc]
             refine tk (i := 17) 31 rfl rfl (by kernel_rfl) (fun _ s => by (have h := SO.facts s; clear s; go_simp; first | done | exact rfl)) ?_
             simp only [sZa, sZb, sZc]
             refine tk (i := 18) 32 rfl rfl (by kernel_rfl) (fun _ s => by (have h := SO.facts s; clear s; go_simp; first | done | exact rfl)) ?_
             simp only [sZa, sZb, sZc]
             refine tk (i := 19) 33 rfl rfl (by kernel_rfl) (fun _ s => by (have h := SO.facts s; clear s; go_simp; first | done | exact rfl)) ?_
             simp only [sZa, sZb, sZc]
             refine tk (i := 20) 34 rfl rfl (by kernel_rfl) (fun _ s => by (have h := SO.facts s; clear s; go_simp; first | done | exact rfl)) ?_
             simp only [sZa, sZb, sZc]
             refine tk (i := 21) 35 rfl rfl (by kernel_rfl) (fun _ s => by (have h := SO.facts s; clear s; go_simp; first | done | exact rfl)) ?_
             simp only [sZa, sZb, sZc]
             refine tk (i := 22) (v := .bool false) 36 rfl rfl (by kernel_rfl) (fun _ s => by (have h := SO.facts s; clear s; go_simp; first | done | exact rfl | simp_all | (simp; omega))) ?_
             simp only [sZa, sZb, sZc]
             refine tk (i := 23) 37 rfl rfl (by kernel_rfl) (fun _ s => by (have h := SO.facts s; clear s; go_simp; first | done | exact rfl)) ?_
             simp only [sZa, sZb, sZc]
             refine tk (i := 24) 38 rfl rfl (by kernel_rfl) (fun _ s => by (have h := SO.facts s; clear s; go_simp; first | done | exact rfl)) ?_
             simp only [sZa, sZb, sZc]
             refine tk (i := 25) 39 rfl rfl (by kernel_rfl) (fun _ s => by (have h := SO.facts s; clear s; go_simp; first | done | exact rfl)) ?_
             simp only [sZa, sZb, sZc]
             refine tk (i := 26) 40 rfl rfl (by kernel_rfl) (fun _ s => by (have h := SO.facts s; clear s; go_simp; first | done | exact rfl)) ?_
             simp only [sZa, sZb, sZc]
             refine tk (i := 27) 41 rfl rfl (by kernel_rfl) (fun _ s => by (have h := SO.facts s; clear s; go_simp; first | done | exact rfl)) ?_
             simp only [sZa, sZb, sZc]
             refine tk (i := 28) (v := .bool false) 42 rfl rfl (by kernel_rfl) (fun _ s => by (have h := SO.facts s; clear s; go_simp; first | done | exact rfl | simp_all | (simp; omega))) ?_
             simp only [sZa, sZb, sZc]
             refine tk (i := 29) 43 rfl rfl (by kernel_rfl) (fun _ s => by (have h := SO.facts s; clear s; go_simp; first | done | exact rfl)) ?_
             simp only [sZa, sZb, sZc]
             refine wpAnyH_done (by kernel_rfl) ?_ _
             go_wp2
             go_roundg (m - (k + 1))
             case measure => omega
             case rel => exact ⟨k + 1, by go_num, by omega, Nat.le_refl _, HF, HBW.out.trans (HS3.out.bel.mono HBW.out.size)⟩
  · have hltz : ¬ (k : Int) < (m : Int) := by omega
    have HE : Hid (ordB n none l = true) := by
     show _ = _
     rw [HO.out, List.drop_of_length_le (by have := HN.out; omega)]
     cases prevL l k <;> rfl
    go_wp2
    go_ret
    exact ⟨by rw [HE.out]; rfl, HB.out⟩
end Go.Proofs.YtncnefpkfbngaaaGreatDoor
