/- letters.appendRune: the writing of a rune, laid behind the bytes that are there. -/
import Derived.Test.YtjfbildaaobfpaaDoorSizeS
namespace Go.Proofs.YtjfbildaaobfpaaDoor
open Go.RowKit Nums
set_option maxRecDepth 100000

theorem infoByte : (Tryd.prog.info? 5).map (fun i => (i.zero, i.size, i.bytes)) = some (some (.int .u8 0), 1, 1) := by kernel_rfl
/-- A slice of bytes that the call has made owns the numbers xs. -/
def Bytes (B : Nat) (w : World) (v : Value) (xs : List Int) : Prop := w.ownsRow B 5 1 v xs.length (xs.map (Value.int .u8))

set_option maxHeartbeats 2000000 in
theorem appendRune_1 (B : Nat) (vb : Value) (xs : List Int) (r : Int) (w : World) (ht : Tabs w) (hown : Bytes B w vb xs) (hB : B ≤ w.heap.size) (hl : xs.length + 4 ≤ 140737488355328) (h0 : 0 ≤ r) (h1 : r < 128) :
    Calls Tryd.prog 42 #[vb, .int .i32 r] w fun e w' => ∃ v', e = .returned v' ∧ Bytes B w' v' (xs ++ [r]) ∧ Below B w w' := by
  have HS : Hid (sz r = 1) := sz1 h0 h1
  obtain ⟨i0, hi, hz0, hz1, hz2⟩ := info_parts infoByte
  obtain ⟨c2, c3, c4, c1, t1, t2, t3, t4⟩ := id ht
  have b2 := lt_of_cell c2
  have htA : ∀ o, Tabs (w.alloc o) := fun o => ht.below ((Below.refl _ _).alloc (Nat.le_refl _) o)
  have HTA : Hid (∀ o, Tabs (w.alloc o)) := htA
  clear htA
  go_enter Tryd.func42, Tryd.ntmps42
  go_wp2_with (first | (go_at_call 45; refine (size_any _ _ (HTA.out _)).mono ?_; rintro e w' ⟨rfl, rfl⟩; rw [HS.out]))
  refine wp_loop_rounds 1 ?_
  rw [rounds_succ]
  go_wp2_with (at_builtin; refine wpList_append_own _ rfl _ _ 57 rfl B 5 i0 (.int .u8 0) 1 1 Tryd.underlying57 hi hz0 hz1 hz2 rfl (by decide) _ _ _ rfl (World.ownsRow.alloc hown _) ⟨w.heap.size, 0, none⟩ 1 4 [.int .u8 (r)] rfl rfl ?c1 ?c2 ?c3 ?c4 ?c5 ?_)
  case c1 =>
    intro j u hj
    match j, hj with
    | 0, hj => simp at hj; subst hj; simp [Addr.add]
  case c2 => intro u hu; simp at hu; subst hu; rfl
  case c3 => unfold maxLen; omega
  case c4 => omega
  case c5 => simp; omega
  intro v' w1 hown' hgrow _
  have hb : Below B w w1 := ((Below.refl B w).alloc hB _).grown hgrow (by simp; omega) (fun k hk => (World.ownsRow.lt hown k hk).1)
  have hown2 : Bytes B w1 v' (xs ++ [r]) := by unfold Bytes; simpa using hown'
  clear hown' hgrow hown
  go_wp2
  go_ret
  exact ⟨_, rfl, hown2, hb⟩

set_option maxHeartbeats 2000000 in
theorem appendRune_2 (B : Nat) (vb : Value) (xs : List Int) (r : Int) (w : World) (ht : Tabs w) (hown : Bytes B w vb xs) (hB : B ≤ w.heap.size) (hl : xs.length + 4 ≤ 140737488355328) (h0 : 128 ≤ r) (h1 : r < 2048) :
    Calls Tryd.prog 42 #[vb, .int .i32 r] w fun e w' => ∃ v', e = .returned v' ∧ Bytes B w' v' (xs ++ [192 + r / 64, 128 + r % 64]) ∧ Below B w w' := by
  have HS : Hid (sz r = 2) := sz2 h0 h1
  obtain ⟨i0, hi, hz0, hz1, hz2⟩ := info_parts infoByte
  obtain ⟨c2, c3, c4, c1, t1, t2, t3, t4⟩ := id ht
  have b2 := lt_of_cell c2
  have htA : ∀ o, Tabs (w.alloc o) := fun o => ht.below ((Below.refl _ _).alloc (Nat.le_refl _) o)
  have HTA : Hid (∀ o, Tabs (w.alloc o)) := htA
  clear htA
  go_enter Tryd.func42, Tryd.ntmps42
  go_wp2_with (first | (go_at_call 45; refine (size_any _ _ (HTA.out _)).mono ?_; rintro e w' ⟨rfl, rfl⟩; rw [HS.out]))
  refine wp_loop_rounds 2 ?_
  rw [rounds_succ]
  go_wp2
  rw [rounds_succ]
  go_wp2_with (at_builtin; refine wpList_append_own _ rfl _ _ 57 rfl B 5 i0 (.int .u8 0) 1 1 Tryd.underlying57 hi hz0 hz1 hz2 rfl (by decide) _ _ _ rfl (World.ownsRow.alloc hown _) ⟨w.heap.size, 0, none⟩ 2 4 [.int .u8 (192 + r / 64), .int .u8 (128 + r % 64)] rfl rfl ?c1 ?c2 ?c3 ?c4 ?c5 ?_)
  case c1 =>
    intro j u hj
    match j, hj with
    | 0, hj => simp at hj; subst hj; simp [Addr.add]
    | 1, hj => simp at hj; subst hj; simp [Addr.add]
  case c2 => intro u hu; simp at hu; rcases hu with rfl | rfl <;> rfl
  case c3 => unfold maxLen; omega
  case c4 => omega
  case c5 => simp; omega
  intro v' w1 hown' hgrow _
  have hb : Below B w w1 := ((Below.refl B w).alloc hB _).grown hgrow (by simp; omega) (fun k hk => (World.ownsRow.lt hown k hk).1)
  have hown2 : Bytes B w1 v' (xs ++ [192 + r / 64, 128 + r % 64]) := by unfold Bytes; simpa using hown'
  clear hown' hgrow hown
  go_wp2
  go_ret
  exact ⟨_, rfl, hown2, hb⟩

set_option maxHeartbeats 2000000 in
theorem appendRune_3 (B : Nat) (vb : Value) (xs : List Int) (r : Int) (w : World) (ht : Tabs w) (hown : Bytes B w vb xs) (hB : B ≤ w.heap.size) (hl : xs.length + 4 ≤ 140737488355328) (h0 : 2048 ≤ r) (h1 : r < 65536) :
    Calls Tryd.prog 42 #[vb, .int .i32 r] w fun e w' => ∃ v', e = .returned v' ∧ Bytes B w' v' (xs ++ [224 + r / 64 / 64, 128 + r / 64 % 64, 128 + r % 64]) ∧ Below B w w' := by
  have HS : Hid (sz r = 3) := sz3 h0 h1
  obtain ⟨i0, hi, hz0, hz1, hz2⟩ := info_parts infoByte
  obtain ⟨c2, c3, c4, c1, t1, t2, t3, t4⟩ := id ht
  have b2 := lt_of_cell c2
  have htA : ∀ o, Tabs (w.alloc o) := fun o => ht.below ((Below.refl _ _).alloc (Nat.le_refl _) o)
  have HTA : Hid (∀ o, Tabs (w.alloc o)) := htA
  clear htA
  go_enter Tryd.func42, Tryd.ntmps42
  go_wp2_with (first | (go_at_call 45; refine (size_any _ _ (HTA.out _)).mono ?_; rintro e w' ⟨rfl, rfl⟩; rw [HS.out]))
  refine wp_loop_rounds 3 ?_
  rw [rounds_succ]
  go_wp2
  rw [rounds_succ]
  go_wp2
  rw [rounds_succ]
  go_wp2_with (at_builtin; refine wpList_append_own _ rfl _ _ 57 rfl B 5 i0 (.int .u8 0) 1 1 Tryd.underlying57 hi hz0 hz1 hz2 rfl (by decide) _ _ _ rfl (World.ownsRow.alloc hown _) ⟨w.heap.size, 0, none⟩ 3 4 [.int .u8 (224 + r / 64 / 64), .int .u8 (128 + r / 64 % 64), .int .u8 (128 + r % 64)] rfl rfl ?c1 ?c2 ?c3 ?c4 ?c5 ?_)
  case c1 =>
    intro j u hj
    match j, hj with
    | 0, hj => simp at hj; subst hj; simp [Addr.add]
    | 1, hj => simp at hj; subst hj; simp [Addr.add]
    | 2, hj => simp at hj; subst hj; simp [Addr.add]
  case c2 => intro u hu; simp at hu; rcases hu with rfl | rfl | rfl <;> rfl
  case c3 => unfold maxLen; omega
  case c4 => omega
  case c5 => simp; omega
  intro v' w1 hown' hgrow _
  have hb : Below B w w1 := ((Below.refl B w).alloc hB _).grown hgrow (by simp; omega) (fun k hk => (World.ownsRow.lt hown k hk).1)
  have hown2 : Bytes B w1 v' (xs ++ [224 + r / 64 / 64, 128 + r / 64 % 64, 128 + r % 64]) := by unfold Bytes; simpa using hown'
  clear hown' hgrow hown
  go_wp2
  go_ret
  exact ⟨_, rfl, hown2, hb⟩

set_option maxHeartbeats 2000000 in
theorem appendRune_4 (B : Nat) (vb : Value) (xs : List Int) (r : Int) (w : World) (ht : Tabs w) (hown : Bytes B w vb xs) (hB : B ≤ w.heap.size) (hl : xs.length + 4 ≤ 140737488355328) (h0 : 65536 ≤ r) (h1 : r < 1114112) :
    Calls Tryd.prog 42 #[vb, .int .i32 r] w fun e w' => ∃ v', e = .returned v' ∧ Bytes B w' v' (xs ++ [240 + r / 64 / 64 / 64, 128 + r / 64 / 64 % 64, 128 + r / 64 % 64, 128 + r % 64]) ∧ Below B w w' := by
  have HS : Hid (sz r = 4) := sz4 h0 h1
  obtain ⟨i0, hi, hz0, hz1, hz2⟩ := info_parts infoByte
  obtain ⟨c2, c3, c4, c1, t1, t2, t3, t4⟩ := id ht
  have b2 := lt_of_cell c2
  have htA : ∀ o, Tabs (w.alloc o) := fun o => ht.below ((Below.refl _ _).alloc (Nat.le_refl _) o)
  have HTA : Hid (∀ o, Tabs (w.alloc o)) := htA
  clear htA
  go_enter Tryd.func42, Tryd.ntmps42
  go_wp2_with (first | (go_at_call 45; refine (size_any _ _ (HTA.out _)).mono ?_; rintro e w' ⟨rfl, rfl⟩; rw [HS.out]))
  refine wp_loop_rounds 4 ?_
  rw [rounds_succ]
  go_wp2
  rw [rounds_succ]
  go_wp2
  rw [rounds_succ]
  go_wp2
  rw [rounds_succ]
  go_wp2_with (at_builtin; refine wpList_append_own _ rfl _ _ 57 rfl B 5 i0 (.int .u8 0) 1 1 Tryd.underlying57 hi hz0 hz1 hz2 rfl (by decide) _ _ _ rfl (World.ownsRow.alloc hown _) ⟨w.heap.size, 0, none⟩ 4 4 [.int .u8 (240 + r / 64 / 64 / 64), .int .u8 (128 + r / 64 / 64 % 64), .int .u8 (128 + r / 64 % 64), .int .u8 (128 + r % 64)] rfl rfl ?c1 ?c2 ?c3 ?c4 ?c5 ?_)
  case c1 =>
    intro j u hj
    match j, hj with
    | 0, hj => simp at hj; subst hj; simp [Addr.add]
    | 1, hj => simp at hj; subst hj; simp [Addr.add]
    | 2, hj => simp at hj; subst hj; simp [Addr.add]
    | 3, hj => simp at hj; subst hj; simp [Addr.add]
  case c2 => intro u hu; simp at hu; rcases hu with rfl | rfl | rfl | rfl <;> rfl
  case c3 => unfold maxLen; omega
  case c4 => omega
  case c5 => simp; omega
  intro v' w1 hown' hgrow _
  have hb : Below B w w1 := ((Below.refl B w).alloc hB _).grown hgrow (by simp; omega) (fun k hk => (World.ownsRow.lt hown k hk).1)
  have hown2 : Bytes B w1 v' (xs ++ [240 + r / 64 / 64 / 64, 128 + r / 64 / 64 % 64, 128 + r / 64 % 64, 128 + r % 64]) := by unfold Bytes; simpa using hown'
  clear hown' hgrow hown
  go_wp2
  go_ret
  exact ⟨_, rfl, hown2, hb⟩

theorem appendRune_any (B : Nat) (vb : Value) (xs : List Int) (r : Int) (w : World) (ht : Tabs w) (hown : Bytes B w vb xs) (hB : B ≤ w.heap.size) (hl : xs.length + 4 ≤ 140737488355328) (h0 : 0 ≤ r) (h1 : r < 1114112) :
    Calls Tryd.prog 42 #[vb, .int .i32 r] w fun e w' => ∃ v', e = .returned v' ∧ Bytes B w' v' (xs ++ wrI r) ∧ Below B w w' := by
  by_cases a : r < 128
  · rw [wrI1 a]; exact appendRune_1 B vb xs r w ht hown hB hl h0 a
  by_cases b : r < 2048
  · rw [wrI2 (by omega) b]; exact appendRune_2 B vb xs r w ht hown hB hl (by omega) b
  by_cases c : r < 65536
  · rw [wrI3 (by omega) c]; exact appendRune_3 B vb xs r w ht hown hB hl (by omega) c
  · rw [wrI4 (by omega)]; exact appendRune_4 B vb xs r w ht hown hB hl (by omega) h1
end Go.Proofs.YtjfbildaaobfpaaDoor
