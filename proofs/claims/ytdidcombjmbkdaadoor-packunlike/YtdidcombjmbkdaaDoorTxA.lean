/- Texts that were written apart, joined. -/
import Derived.Test.YtdidcombjmbkdaaDoorRunes
import Derived.Laws.BytesArg
/- letters.size. -/
namespace Go.Proofs.YtdidcombjmbkdaaDoor
open Go.RowKit Nums
set_option maxRecDepth 100000

set_option maxHeartbeats 400000 in
theorem size_any (r : Int) (w : World) (ht : Tabs w) : Calls Tryd.prog 109 #[.int .i32 r] w fun e w' => e = .returned (.int .i64 (sz r)) ∧ w' = w := by
  obtain ⟨_, _, _, _, _, t2, t3, t4⟩ := ht
  go_enter Tryd.func109, Tryd.ntmps109
  go_wp2
  go_loop [3] (fun n => ∃ k : Nat, 1 ≤ k ∧ k ≤ 4 ∧ n = .int .i64 k ∧ (2 ≤ k → 128 ≤ r) ∧ (3 ≤ k → 2048 ≤ r) ∧ (4 ≤ k → 65536 ≤ r)) (fun n => 4 - (intOf n).toNat)
  case atStart => exact ⟨1, by omega, by omega, rfl, by omega, by omega, by omega⟩
  case round =>
    obtain ⟨k, hk1, hk4, rfl, g2, g3, g4⟩ := hrel
    obtain rfl | rfl | rfl | rfl : k = 1 ∨ k = 2 ∨ k = 3 ∨ k = 4 := by omega
    · by_cases h : 128 ≤ r
      · go_wp2
        go_round
        case rel => exact ⟨2, by omega, by omega, rfl, by omega, by omega, by omega⟩
        case measure => simp [intOf]
      · go_wp2
        go_ret
        exact ⟨ret_int (by unfold sz; repeat' split; all_goals omega), rfl⟩
    · by_cases h : 2048 ≤ r
      · go_wp2
        go_round
        case rel => exact ⟨3, by omega, by omega, rfl, by omega, by omega, by omega⟩
        case measure => simp [intOf]
      · go_wp2
        go_ret
        exact ⟨ret_int (by unfold sz; repeat' split; all_goals omega), rfl⟩
    · by_cases h : 65536 ≤ r
      · go_wp2
        go_round
        case rel => exact ⟨4, by omega, by omega, rfl, by omega, by omega, by omega⟩
        case measure => simp [intOf]
      · go_wp2
        go_ret
        exact ⟨ret_int (by unfold sz; repeat' split; all_goals omega), rfl⟩
    · go_wp2
      go_ret
      exact ⟨ret_int (by unfold sz; repeat' split; all_goals omega), rfl⟩
end Go.Proofs.YtdidcombjmbkdaaDoor

/- letters.appendRune: the writing of a rune, laid behind the bytes that are there. -/
namespace Go.Proofs.YtdidcombjmbkdaaDoor
open Go.RowKit Nums
set_option maxRecDepth 100000

theorem infoByte : (Tryd.prog.info? 5).map (fun i => (i.zero, i.size, i.bytes)) = some (some (.int .u8 0), 1, 1) := by kernel_rfl
/-- A slice of bytes that the call has made owns the numbers xs. -/
def Bytes (B : Nat) (w : World) (v : Value) (xs : List Int) : Prop := w.ownsRow B 5 1 v xs.length (xs.map (Value.int .u8))

set_option maxHeartbeats 2000000 in
theorem appendRune_1 (B : Nat) (vb : Value) (xs : List Int) (r : Int) (w : World) (ht : Tabs w) (hown : Bytes B w vb xs) (hB : B ≤ w.heap.size) (hl : xs.length + 4 ≤ 140737488355328) (h0 : 0 ≤ r) (h1 : r < 128) :
    Calls Tryd.prog 100 #[vb, .int .i32 r] w fun e w' => ∃ v', e = .returned v' ∧ Bytes B w' v' (xs ++ [r]) ∧ Below B w w' := by
  have HS : Hid (sz r = 1) := sz1 h0 h1
  obtain ⟨i0, hi, hz0, hz1, hz2⟩ := info_parts infoByte
  obtain ⟨c2, c3, c4, c1, t1, t2, t3, t4⟩ := id ht
  have b2 := lt_of_cell c2
  have htA : ∀ o, Tabs (w.alloc o) := fun o => ht.below ((Below.refl _ _).alloc (Nat.le_refl _) o)
  have HTA : Hid (∀ o, Tabs (w.alloc o)) := htA
  clear htA
  go_enter Tryd.func100, Tryd.ntmps100
  go_wp2_with (first | (go_at_call 109; refine (size_any _ _ (HTA.out _)).mono ?_; rintro e w' ⟨rfl, rfl⟩; rw [HS.out]))
  refine wp_loop_rounds 1 ?_
  rw [rounds_succ]
  go_wp2_with (at_builtin; refine wpList_append_own _ rfl _ _ 32 rfl B 5 i0 (.int .u8 0) 1 1 Tryd.underlying32 hi hz0 hz1 hz2 rfl (by decide) _ _ _ rfl (World.ownsRow.alloc hown _) ⟨w.heap.size, 0, none⟩ 1 4 [.int .u8 (r)] rfl rfl ?c1 ?c2 ?c3 ?c4 ?c5 ?_)
  case c1 =>
    intro j u hj
    match j, hj with
    | 0, hj => simp at hj; subst hj; simp [Addr.add]
  case c2 => intro u hu; simp at hu; subst hu; rfl
  case c3 => unfold maxLen; omega
  case c4 => omega
  case c5 => simp; omega
  intro v' w1 hown' hgrow _
  have hb : Below B w w1 := ((Below.refl B w).alloc hB _).grown hgrow (by simp; omega) (fun k hk => (World.ownsRow.lt hown k hk).1)
  have hown2 : Bytes B w1 v' (xs ++ [r]) := by unfold Bytes; simpa using hown'
  clear hown' hgrow hown
  go_wp2
  go_ret
  exact ⟨_, rfl, hown2, hb⟩

set_option maxHeartbeats 2000000 in
theorem appendRune_2 (B : Nat) (vb : Value) (xs : List Int) (r : Int) (w : World) (ht : Tabs w) (hown : Bytes B w vb xs) (hB : B ≤ w.heap.size) (hl : xs.length + 4 ≤ 140737488355328) (h0 : 128 ≤ r) (h1 : r < 2048) :
    Calls Tryd.prog 100 #[vb, .int .i32 r] w fun e w' => ∃ v', e = .returned v' ∧ Bytes B w' v' (xs ++ [192 + r / 64, 128 + r % 64]) ∧ Below B w w' := by
  have HS : Hid (sz r = 2) := sz2 h0 h1
  obtain ⟨i0, hi, hz0, hz1, hz2⟩ := info_parts infoByte
  obtain ⟨c2, c3, c4, c1, t1, t2, t3, t4⟩ := id ht
  have b2 := lt_of_cell c2
  have htA : ∀ o, Tabs (w.alloc o) := fun o => ht.below ((Below.refl _ _).alloc (Nat.le_refl _) o)
  have HTA : Hid (∀ o, Tabs (w.alloc o)) := htA
  clear htA
  go_enter Tryd.func100, Tryd.ntmps100
  go_wp2_with (first | (go_at_call 109; refine (size_any _ _ (HTA.out _)).mono ?_; rintro e w' ⟨rfl, rfl⟩; rw [HS.out]))
  refine wp_loop_rounds 2 ?_
  rw [rounds_succ]
  go_wp2
  rw [rounds_succ]
  go_wp2_with (at_builtin; refine wpList_append_own _ rfl _ _ 32 rfl B 5 i0 (.int .u8 0) 1 1 Tryd.underlying32 hi hz0 hz1 hz2 rfl (by decide) _ _ _ rfl (World.ownsRow.alloc hown _) ⟨w.heap.size, 0, none⟩ 2 4 [.int .u8 (192 + r / 64), .int .u8 (128 + r % 64)] rfl rfl ?c1 ?c2 ?c3 ?c4 ?c5 ?_)
  case c1 =>
    intro j u hj
    match j, hj with
    | 0, hj => simp at hj; subst hj; simp [Addr.add]
    | 1, hj => simp at hj; subst hj; simp [Addr.add]
  case c2 => intro u hu; simp at hu; rcases hu with rfl | rfl <;> rfl
  case c3 => unfold maxLen; omega
  case c4 => omega
  case c5 => simp; omega
  intro v' w1 hown' hgrow _
  have hb : Below B w w1 := ((Below.refl B w).alloc hB _).grown hgrow (by simp; omega) (fun k hk => (World.ownsRow.lt hown k hk).1)
  have hown2 : Bytes B w1 v' (xs ++ [192 + r / 64, 128 + r % 64]) := by unfold Bytes; simpa using hown'
  clear hown' hgrow hown
  go_wp2
  go_ret
  exact ⟨_, rfl, hown2, hb⟩

set_option maxHeartbeats 2000000 in
theorem appendRune_3 (B : Nat) (vb : Value) (xs : List Int) (r : Int) (w : World) (ht : Tabs w) (hown : Bytes B w vb xs) (hB : B ≤ w.heap.size) (hl : xs.length + 4 ≤ 140737488355328) (h0 : 2048 ≤ r) (h1 : r < 65536) :
    Calls Tryd.prog 100 #[vb, .int .i32 r] w fun e w' => ∃ v', e = .returned v' ∧ Bytes B w' v' (xs ++ [224 + r / 64 / 64, 128 + r / 64 % 64, 128 + r % 64]) ∧ Below B w w' := by
  have HS : Hid (sz r = 3) := sz3 h0 h1
  obtain ⟨i0, hi, hz0, hz1, hz2⟩ := info_parts infoByte
  obtain ⟨c2, c3, c4, c1, t1, t2, t3, t4⟩ := id ht
  have b2 := lt_of_cell c2
  have htA : ∀ o, Tabs (w.alloc o) := fun o => ht.below ((Below.refl _ _).alloc (Nat.le_refl _) o)
  have HTA : Hid (∀ o, Tabs (w.alloc o)) := htA
  clear htA
  go_enter Tryd.func100, Tryd.ntmps100
  go_wp2_with (first | (go_at_call 109; refine (size_any _ _ (HTA.out _)).mono ?_; rintro e w' ⟨rfl, rfl⟩; rw [HS.out]))
  refine wp_loop_rounds 3 ?_
  rw [rounds_succ]
  go_wp2
  rw [rounds_succ]
  go_wp2
  rw [rounds_succ]
  go_wp2_with (at_builtin; refine wpList_append_own _ rfl _ _ 32 rfl B 5 i0 (.int .u8 0) 1 1 Tryd.underlying32 hi hz0 hz1 hz2 rfl (by decide) _ _ _ rfl (World.ownsRow.alloc hown _) ⟨w.heap.size, 0, none⟩ 3 4 [.int .u8 (224 + r / 64 / 64), .int .u8 (128 + r / 64 % 64), .int .u8 (128 + r % 64)] rfl rfl ?c1 ?c2 ?c3 ?c4 ?c5 ?_)
  case c1 =>
    intro j u hj
    match j, hj with
    | 0, hj => simp at hj; subst hj; simp [Addr.add]
    | 1, hj => simp at hj; subst hj; simp [Addr.add]
    | 2, hj => simp at hj; subst hj; simp [Addr.add]
  case c2 => intro u hu; simp at hu; rcases hu with rfl | rfl | rfl <;> rfl
  case c3 => unfold maxLen; omega
  case c4 => omega
  case c5 => simp; omega
  intro v' w1 hown' hgrow _
  have hb : Below B w w1 := ((Below.refl B w).alloc hB _).grown hgrow (by simp; omega) (fun k hk => (World.ownsRow.lt hown k hk).1)
  have hown2 : Bytes B w1 v' (xs ++ [224 + r / 64 / 64, 128 + r / 64 % 64, 128 + r % 64]) := by unfold Bytes; simpa using hown'
  clear hown' hgrow hown
  go_wp2
  go_ret
  exact ⟨_, rfl, hown2, hb⟩

set_option maxHeartbeats 2000000 in
theorem appendRune_4 (B : Nat) (vb : Value) (xs : List Int) (r : Int) (w : World) (ht : Tabs w) (hown : Bytes B w vb xs) (hB : B ≤ w.heap.size) (hl : xs.length + 4 ≤ 140737488355328) (h0 : 65536 ≤ r) (h1 : r < 1114112) :
    Calls Tryd.prog 100 #[vb, .int .i32 r] w fun e w' => ∃ v', e = .returned v' ∧ Bytes B w' v' (xs ++ [240 + r / 64 / 64 / 64, 128 + r / 64 / 64 % 64, 128 + r / 64 % 64, 128 + r % 64]) ∧ Below B w w' := by
  have HS : Hid (sz r = 4) := sz4 h0 h1
  obtain ⟨i0, hi, hz0, hz1, hz2⟩ := info_parts infoByte
  obtain ⟨c2, c3, c4, c1, t1, t2, t3, t4⟩ := id ht
  have b2 := lt_of_cell c2
  have htA : ∀ o, Tabs (w.alloc o) := fun o => ht.below ((Below.refl _ _).alloc (Nat.le_refl _) o)
  have HTA : Hid (∀ o, Tabs (w.alloc o)) := htA
  clear htA
  go_enter Tryd.func100, Tryd.ntmps100
  go_wp2_with (first | (go_at_call 109; refine (size_any _ _ (HTA.out _)).mono ?_; rintro e w' ⟨rfl, rfl⟩; rw [HS.out]))
  refine wp_loop_rounds 4 ?_
  rw [rounds_succ]
  go_wp2
  rw [rounds_succ]
  go_wp2
  rw [rounds_succ]
  go_wp2
  rw [rounds_succ]
  go_wp2_with (at_builtin; refine wpList_append_own _ rfl _ _ 32 rfl B 5 i0 (.int .u8 0) 1 1 Tryd.underlying32 hi hz0 hz1 hz2 rfl (by decide) _ _ _ rfl (World.ownsRow.alloc hown _) ⟨w.heap.size, 0, none⟩ 4 4 [.int .u8 (240 + r / 64 / 64 / 64), .int .u8 (128 + r / 64 / 64 % 64), .int .u8 (128 + r / 64 % 64), .int .u8 (128 + r % 64)] rfl rfl ?c1 ?c2 ?c3 ?c4 ?c5 ?_)
  case c1 =>
    intro j u hj
    match j, hj with
    | 0, hj => simp at hj; subst hj; simp [Addr.add]
    | 1, hj => simp at hj; subst hj; simp [Addr.add]
    | 2, hj => simp at hj; subst hj; simp [Addr.add]
    | 3, hj => simp at hj; subst hj; simp [Addr.add]
  case c2 => intro u hu; simp at hu; rcases hu with rfl | rfl | rfl | rfl <;> rfl
  case c3 => unfold maxLen; omega
  case c4 => omega
  case c5 => simp; omega
  intro v' w1 hown' hgrow _
  have hb : Below B w w1 := ((Below.refl B w).alloc hB _).grown hgrow (by simp; omega) (fun k hk => (World.ownsRow.lt hown k hk).1)
  have hown2 : Bytes B w1 v' (xs ++ [240 + r / 64 / 64 / 64, 128 + r / 64 / 64 % 64, 128 + r / 64 % 64, 128 + r % 64]) := by unfold Bytes; simpa using hown'
  clear hown' hgrow hown
  go_wp2
  go_ret
  exact ⟨_, rfl, hown2, hb⟩

theorem appendRune_any (B : Nat) (vb : Value) (xs : List Int) (r : Int) (w : World) (ht : Tabs w) (hown : Bytes B w vb xs) (hB : B ≤ w.heap.size) (hl : xs.length + 4 ≤ 140737488355328) (h0 : 0 ≤ r) (h1 : r < 1114112) :
    Calls Tryd.prog 100 #[vb, .int .i32 r] w fun e w' => ∃ v', e = .returned v' ∧ Bytes B w' v' (xs ++ wrI r) ∧ Below B w w' := by
  by_cases a : r < 128
  · rw [wrI1 a]; exact appendRune_1 B vb xs r w ht hown hB hl h0 a
  by_cases b : r < 2048
  · rw [wrI2 (by omega) b]; exact appendRune_2 B vb xs r w ht hown hB hl (by omega) b
  by_cases c : r < 65536
  · rw [wrI3 (by omega) c]; exact appendRune_3 B vb xs r w ht hown hB hl (by omega) c
  · rw [wrI4 (by omega)]; exact appendRune_4 B vb xs r w ht hown hB hl (by omega) h1
end Go.Proofs.YtdidcombjmbkdaaDoor

/- letters.Text: the writing of a row of runes, or none. -/
namespace Go.Proofs.YtdidcombjmbkdaaDoor
open Go.RowKit Nums
set_option maxRecDepth 100000

/-- A slice of numbers that lies in memory: nothing is said of who made it. -/
def Row (w : World) (v : Value) (xs : List Int) : Prop :=
  ∃ ao cap, v = .slice ao xs.length cap ∧ (0 < xs.length → ∃ b off, ao = some ⟨b, off, none⟩ ∧ ∀ i, i < xs.length → w.cell? ⟨b, off + i, none⟩ = some (.int .i32 (xs.getD i 0)))

theorem Bytes.back {B : Nat} {w : World} {v : Value} {xs : List Int} (h : Bytes B w v xs) : (convert 32 9 v).run Tryd.prog w = .ok (.string (strOfNums xs)) w := by
  obtain ⟨hl, hn | ⟨g, cap, cur, rfl, hb, hg, h1, h2, h3, h4⟩⟩ := h
  · obtain ⟨rfl, h0⟩ := hn
    have e : xs = [] := List.length_eq_zero_iff.1 h0
    subst e
    exact run_convert_bytes_nil w 32 5 Tryd.underlying32 Tryd.underlying5 0 0 9 Tryd.underlying9
  · refine run_convert_bytes_arg w 32 5 Tryd.underlying32 Tryd.underlying5 g 0 xs.length cap xs rfl (fun i hi => ?_) 9 Tryd.underlying9
    have hc : cur[i]? = some (.int .u8 (xs.getD i 0)) := by
      have e : (cur.toList.take (xs.length * 1))[i]? = (xs.map (Value.int .u8))[i]? := by rw [h4]
      rw [List.getElem?_take, if_pos (by omega)] at e
      rw [← Array.getElem?_toList, e, List.getElem?_map, List.getElem?_eq_getElem hi]
      simp [List.getD_eq_getElem?_getD, List.getElem?_eq_getElem hi]
    simp only [World.cell?, hg, Nat.zero_add]
    simpa using hc

def allR (xs : List Int) : Bool := xs.all isR
def textS (xs : List Int) : ByteArray := if allR xs = true then strOfNums (xs.flatMap wrI) else ByteArray.empty

theorem flat_len (xs : List Int) : (xs.flatMap wrI).length ≤ 4 * xs.length := by
  induction xs with
  | nil => simp
  | cons x r ih => have := wrI_len x; rw [List.flatMap_cons, List.length_append, List.length_cons]; omega
theorem take_next (xs : List Int) (k : Nat) (h : k < xs.length) : xs.take (k + 1) = xs.take k ++ [xs.getD k 0] := by
  rw [List.take_succ_eq_append_getElem h]; simp [List.getD_eq_getElem?_getD, List.getElem?_eq_getElem h]
theorem text_no {xs : List Int} {k : Nat} (h : k < xs.length) (hr : isR (xs.getD k 0) = false) : allR xs = false := by
  have hm : xs.getD k 0 ∈ xs := by simp [List.getD_eq_getElem?_getD, List.getElem?_eq_getElem h]
  cases e : allR xs
  · rfl
  · have := List.all_eq_true.1 e _ hm; rw [hr] at this; cases this
theorem isR_bd {r : Int} (h : isR r = true) : 0 ≤ r ∧ r < 1114112 := by
  have := of_decide_eq_true h; omega

set_option maxHeartbeats 2000000 in
theorem Text_any (v : Value) (xs : List Int) (w : World) (ht : Tabs w) (hrow : Row w v xs) (hl : xs.length * 4 ≤ 140737488355328) :
    Calls Tryd.prog 78 #[v] w fun e w' => e = .returned (.tuple #[.string (textS xs), .bool (allR xs)]) ∧ Below w.heap.size w w' := by
  obtain ⟨i0, hi, hz0, hz1, hz2⟩ := info_parts infoByte
  obtain ⟨ao, cap, rfl, hcells⟩ := hrow
  have HC : Hid (0 < xs.length → ∃ b off, ao = some ⟨b, off, none⟩ ∧ ∀ i, i < xs.length → w.cell? ⟨b, off + i, none⟩ = some (.int .i32 (xs.getD i 0))) := hcells
  clear hcells
  go_enter Tryd.func78, Tryd.ntmps78
  go_wp2_with (at_make; refine wpList_make_own _ rfl _ _ 32 rfl w.heap.size 5 i0 (.int .u8 0) 1 Tryd.underlying32 hi hz0 hz1 _ _ _ xs.length rfl rfl (by omega) (by rw [hz2]; omega) (by unfold maxLen; omega) (Nat.le_refl _) ?_; intro w0 hown0 hgrow0)
  have hb0 : Below w.heap.size w w0 := (Below.refl _ _).grown hgrow0 (Nat.le_refl _) (fun k hk => by cases hk)
  have HO0 : Hid (Bytes w.heap.size w0 (.slice (some ⟨w.heap.size, 0, none⟩) 0 xs.length) []) := hown0
  clear hown0 hgrow0
  go_loopw [4, 12] (fun vb i wr => ∃ k : Nat, k ≤ xs.length ∧ i = .int .i64 k ∧ Bytes w.heap.size wr vb ((xs.take k).flatMap wrI) ∧ allR (xs.take k) = true ∧ Below w.heap.size w wr)
    (fun _ i _ => xs.length - (intOf i).toNat)
  case atStart => exact ⟨0, Nat.zero_le _, rfl, HO0.out, rfl, hb0⟩
  case round =>
    obtain ⟨k, hk, rfl, hown, hall, hbel⟩ := hrel
    have HA : Hid (allR (xs.take k) = true) := hall
    clear hall
    have htr : Tabs wr := ht.below hbel
    by_cases hlt : k < xs.length
    · obtain ⟨b, off, rfl, hc⟩ := HC.out (by omega)
      have hck : wr.cell? ⟨b, off + k, none⟩ = some (.int .i32 (xs.getD k 0)) := by
        rw [hbel.cell (p := ⟨b, off + k, none⟩) (lt_of_cell (hc k hlt))]; exact hc k hlt
      clear hc HC HO0
      have hnx := take_next xs k hlt
      generalize hx : xs.getD k 0 = x at *
      have HX : Hid (xs.getD k 0 = x) := hx
      have HN : Hid (xs.take (k + 1) = xs.take k ++ [x]) := hnx
      clear hnx hx
      cases hr : isR x
      · have HR : Hid (isR x = false) := hr
        clear hr
        have HF : Hid (allR xs = false) := text_no hlt (by rw [HX.out]; exact HR.out)
        go_wp2_with (go_at_call 98; refine (isRune_any _ _).mono ?_; rintro e w' ⟨rfl, rfl⟩; rw [HR.out])
        go_ret2
        refine ⟨?_, hbel⟩
        rw [HF.out, show textS xs = ByteArray.empty by unfold textS; rw [HF.out]; rfl]
        rfl
      · have HR : Hid (isR x = true) := hr
        clear hr
        have hbd := isR_bd HR.out
        have hfl := flat_len (xs.take k)
        rw [List.length_take] at hfl
        go_wp2_with (first
          | (go_at_call 98; refine (isRune_any _ _).mono ?_; rintro e w' ⟨rfl, rfl⟩; rw [HR.out])
          | (go_at_call 100; refine (appendRune_any w.heap.size _ ((xs.take k).flatMap wrI) x _ htr hown hbel.size (by omega) hbd.1 hbd.2).mono ?_; rintro e w1 ⟨v1, rfl, hown1, hb1⟩))
        go_roundw
        case rel =>
          refine ⟨k + 1, by omega, by go_num, ?_, ?_, hbel.trans hb1⟩
          · rw [HN.out, List.flatMap_append]; simpa using hown1
          · rw [HN.out]; have := HA.out; unfold allR at *; rw [List.all_append, this]; simp [HR.out]
        case measure => simp [intOf]; omega
    · obtain rfl : k = xs.length := by omega
      have hfull : xs.take xs.length = xs := List.take_length
      have HO : Hid (Bytes w.heap.size wr u4 (xs.flatMap wrI)) := by rw [hfull] at hown; exact hown
      have HF : Hid (allR xs = true) := by have := HA.out; rw [hfull] at this; exact this
      have hconv := HO.out.back
      clear hfull hown HA
      go_wp2
      go_ret2
      refine ⟨?_, hbel⟩
      rw [HF.out, show textS xs = strOfNums (xs.flatMap wrI) by unfold textS; rw [HF.out]; rfl]
      rfl
end Go.Proofs.YtdidcombjmbkdaaDoor
