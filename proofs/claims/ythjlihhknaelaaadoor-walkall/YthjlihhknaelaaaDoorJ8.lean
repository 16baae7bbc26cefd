/- Texts that were written apart, joined. -/
import Derived.Test.YthjlihhknaelaaaDoorJ7
import Derived.Laws.BytesArg
import Derived.Test.YthjlihhknaelaaaDoorJ6
import Derived.Handy
import Derived.Carry
import Derived.Test.YthjlihhknaelaaaDoorJ3
import Derived.Test.YthjlihhknaelaaaDoorJ4
/- letters.appendRune: the writing of a rune, laid behind the bytes that are there. -/
namespace Go.Proofs.YthjlihhknaelaaaDoor
open Go.RowKit Nums
set_option maxRecDepth 100000

theorem infoByte : (Tryd.prog.info? 5).map (fun i => (i.zero, i.size, i.bytes)) = some (some (.int .u8 0), 1, 1) := by kernel_rfl
/-- A slice of bytes that the call has made owns the numbers xs. -/
def Bytes (B : Nat) (w : World) (v : Value) (xs : List Int) : Prop := w.ownsRow B 5 1 v xs.length (xs.map (Value.int .u8))

set_option maxHeartbeats 2000000 in
theorem appendRune_1 (B : Nat) (vb : Value) (xs : List Int) (r : Int) (w : World) (ht : Tabs w) (hown : Bytes B w vb xs) (hB : B ≤ w.heap.size) (hl : xs.length + 4 ≤ 140737488355328) (h0 : 0 ≤ r) (h1 : r < 128) :
    Calls Tryd.prog 91 #[vb, .int .i32 r] w fun e w' => ∃ v', e = .returned v' ∧ Bytes B w' v' (xs ++ [r]) ∧ Below B w w' := by
  have HS : Hid (sz r = 1) := sz1 h0 h1
  obtain ⟨i0, hi, hz0, hz1, hz2⟩ := info_parts infoByte
  obtain ⟨c2, c3, c4, c1, t1, t2, t3, t4⟩ := id ht
  have b2 := lt_of_cell c2
  have htA : ∀ o, Tabs (w.alloc o) := fun o => ht.below ((Below.refl _ _).alloc (Nat.le_refl _) o)
  have HTA : Hid (∀ o, Tabs (w.alloc o)) := htA
  clear htA
  go_enter Tryd.func91, Tryd.ntmps91
  go_wp2_with (first | (go_at_call 104; refine (size_any _ _ (HTA.out _)).mono ?_; rintro e w' ⟨rfl, rfl⟩; rw [HS.out]))
  refine wp_loop_rounds 1 ?_
  rw [rounds_succ]
  go_wp2_with (at_builtin; refine wpList_append_own _ rfl _ _ 132 rfl B 5 i0 (.int .u8 0) 1 1 Tryd.underlying132 hi hz0 hz1 hz2 rfl (by decide) _ _ _ rfl (World.ownsRow.alloc hown _) ⟨w.heap.size, 0, none⟩ 1 4 [.int .u8 (r)] rfl rfl ?c1 ?c2 ?c3 ?c4 ?c5 ?_)
  case c1 =>
    intro j u hj
    match j, hj with
    | 0, hj => simp at hj; subst hj; simp [Addr.add]
  case c2 => intro u hu; simp at hu; subst hu; rfl
  case c3 => unfold maxLen; omega
  case c4 => omega
  case c5 => simp; omega
  intro v' w1 hown' hgrow _
  have hb : Below B w w1 := ((Below.refl B w).alloc hB _).grown hgrow (by simp; omega) (fun k hk => (World.ownsRow.lt hown k hk).1)
  have hown2 : Bytes B w1 v' (xs ++ [r]) := by unfold Bytes; simpa using hown'
  clear hown' hgrow hown
  go_wp2
  go_ret
  exact ⟨_, rfl, hown2, hb⟩

set_option maxHeartbeats 2000000 in
theorem appendRune_2 (B : Nat) (vb : Value) (xs : List Int) (r : Int) (w : World) (ht : Tabs w) (hown : Bytes B w vb xs) (hB : B ≤ w.heap.size) (hl : xs.length + 4 ≤ 140737488355328) (h0 : 128 ≤ r) (h1 : r < 2048) :
    Calls Tryd.prog 91 #[vb, .int .i32 r] w fun e w' => ∃ v', e = .returned v' ∧ Bytes B w' v' (xs ++ [192 + r / 64, 128 + r % 64]) ∧ Below B w w' := by
  have HS : Hid (sz r = 2) := sz2 h0 h1
  obtain ⟨i0, hi, hz0, hz1, hz2⟩ := info_parts infoByte
  obtain ⟨c2, c3, c4, c1, t1, t2, t3, t4⟩ := id ht
  have b2 := lt_of_cell c2
  have htA : ∀ o, Tabs (w.alloc o) := fun o => ht.below ((Below.refl _ _).alloc (Nat.le_refl _) o)
  have HTA : Hid (∀ o, Tabs (w.alloc o)) := htA
  clear htA
  go_enter Tryd.func91, Tryd.ntmps91
  go_wp2_with (first | (go_at_call 104; refine (size_any _ _ (HTA.out _)).mono ?_; rintro e w' ⟨rfl, rfl⟩; rw [HS.out]))
  refine wp_loop_rounds 2 ?_
  rw [rounds_succ]
  go_wp2
  rw [rounds_succ]
  go_wp2_with (at_builtin; refine wpList_append_own _ rfl _ _ 132 rfl B 5 i0 (.int .u8 0) 1 1 Tryd.underlying132 hi hz0 hz1 hz2 rfl (by decide) _ _ _ rfl (World.ownsRow.alloc hown _) ⟨w.heap.size, 0, none⟩ 2 4 [.int .u8 (192 + r / 64), .int .u8 (128 + r % 64)] rfl rfl ?c1 ?c2 ?c3 ?c4 ?c5 ?_)
  case c1 =>
    intro j u hj
    match j, hj with
    | 0, hj => simp at hj; subst hj; simp [Addr.add]
    | 1, hj => simp at hj; subst hj; simp [Addr.add]
  case c2 => intro u hu; simp at hu; rcases hu with rfl | rfl <;> rfl
  case c3 => unfold maxLen; omega
  case c4 => omega
  case c5 => simp; omega
  intro v' w1 hown' hgrow _
  have hb : Below B w w1 := ((Below.refl B w).alloc hB _).grown hgrow (by simp; omega) (fun k hk => (World.ownsRow.lt hown k hk).1)
  have hown2 : Bytes B w1 v' (xs ++ [192 + r / 64, 128 + r % 64]) := by unfold Bytes; simpa using hown'
  clear hown' hgrow hown
  go_wp2
  go_ret
  exact ⟨_, rfl, hown2, hb⟩

set_option maxHeartbeats 2000000 in
theorem appendRune_3 (B : Nat) (vb : Value) (xs : List Int) (r : Int) (w : World) (ht : Tabs w) (hown : Bytes B w vb xs) (hB : B ≤ w.heap.size) (hl : xs.length + 4 ≤ 140737488355328) (h0 : 2048 ≤ r) (h1 : r < 65536) :
    Calls Tryd.prog 91 #[vb, .int .i32 r] w fun e w' => ∃ v', e = .returned v' ∧ Bytes B w' v' (xs ++ [224 + r / 64 / 64, 128 + r / 64 % 64, 128 + r % 64]) ∧ Below B w w' := by
  have HS : Hid (sz r = 3) := sz3 h0 h1
  obtain ⟨i0, hi, hz0, hz1, hz2⟩ := info_parts infoByte
  obtain ⟨c2, c3, c4, c1, t1, t2, t3, t4⟩ := id ht
  have b2 := lt_of_cell c2
  have htA : ∀ o, Tabs (w.alloc o) := fun o => ht.below ((Below.refl _ _).alloc (Nat.le_refl _) o)
  have HTA : Hid (∀ o, Tabs (w.alloc o)) := htA
  clear htA
  go_enter Tryd.func91, Tryd.ntmps91
  go_wp2_with (first | (go_at_call 104; refine (size_any _ _ (HTA.out _)).mono ?_; rintro e w' ⟨rfl, rfl⟩; rw [HS.out]))
  refine wp_loop_rounds 3 ?_
  rw [rounds_succ]
  go_wp2
  rw [rounds_succ]
  go_wp2
  rw [rounds_succ]
  go_wp2_with (at_builtin; refine wpList_append_own _ rfl _ _ 132 rfl B 5 i0 (.int .u8 0) 1 1 Tryd.underlying132 hi hz0 hz1 hz2 rfl (by decide) _ _ _ rfl (World.ownsRow.alloc hown _) ⟨w.heap.size, 0, none⟩ 3 4 [.int .u8 (224 + r / 64 / 64), .int .u8 (128 + r / 64 % 64), .int .u8 (128 + r % 64)] rfl rfl ?c1 ?c2 ?c3 ?c4 ?c5 ?_)
  case c1 =>
    intro j u hj
    match j, hj with
    | 0, hj => simp at hj; subst hj; simp [Addr.add]
    | 1, hj => simp at hj; subst hj; simp [Addr.add]
    | 2, hj => simp at hj; subst hj; simp [Addr.add]
  case c2 => intro u hu; simp at hu; rcases hu with rfl | rfl | rfl <;> rfl
  case c3 => unfold maxLen; omega
  case c4 => omega
  case c5 => simp; omega
  intro v' w1 hown' hgrow _
  have hb : Below B w w1 := ((Below.refl B w).alloc hB _).grown hgrow (by simp; omega) (fun k hk => (World.ownsRow.lt hown k hk).1)
  have hown2 : Bytes B w1 v' (xs ++ [224 + r / 64 / 64, 128 + r / 64 % 64, 128 + r % 64]) := by unfold Bytes; simpa using hown'
  clear hown' hgrow hown
  go_wp2
  go_ret
  exact ⟨_, rfl, hown2, hb⟩

set_option maxHeartbeats 2000000 in
theorem appendRune_4 (B : Nat) (vb : Value) (xs : List Int) (r : Int) (w : World) (ht : Tabs w) (hown : Bytes B w vb xs) (hB : B ≤ w.heap.size) (hl : xs.length + 4 ≤ 140737488355328) (h0 : 65536 ≤ r) (h1 : r < 1114112) :
    Calls Tryd.prog 91 #[vb, .int .i32 r] w fun e w' => ∃ v', e = .returned v' ∧ Bytes B w' v' (xs ++ [240 + r / 64 / 64 / 64, 128 + r / 64 / 64 % 64, 128 + r / 64 % 64, 128 + r % 64]) ∧ Below B w w' := by
  have HS : Hid (sz r = 4) := sz4 h0 h1
  obtain ⟨i0, hi, hz0, hz1, hz2⟩ := info_parts infoByte
  obtain ⟨c2, c3, c4, c1, t1, t2, t3, t4⟩ := id ht
  have b2 := lt_of_cell c2
  have htA : ∀ o, Tabs (w.alloc o) := fun o => ht.below ((Below.refl _ _).alloc (Nat.le_refl _) o)
  have HTA : Hid (∀ o, Tabs (w.alloc o)) := htA
  clear htA
  go_enter Tryd.func91, Tryd.ntmps91
  go_wp2_with (first | (go_at_call 104; refine (size_any _ _ (HTA.out _)).mono ?_; rintro e w' ⟨rfl, rfl⟩; rw [HS.out]))
  refine wp_loop_rounds 4 ?_
  rw [rounds_succ]
  go_wp2
  rw [rounds_succ]
  go_wp2
  rw [rounds_succ]
  go_wp2
  rw [rounds_succ]
  go_wp2_with (at_builtin; refine wpList_append_own _ rfl _ _ 132 rfl B 5 i0 (.int .u8 0) 1 1 Tryd.underlying132 hi hz0 hz1 hz2 rfl (by decide) _ _ _ rfl (World.ownsRow.alloc hown _) ⟨w.heap.size, 0, none⟩ 4 4 [.int .u8 (240 + r / 64 / 64 / 64), .int .u8 (128 + r / 64 / 64 % 64), .int .u8 (128 + r / 64 % 64), .int .u8 (128 + r % 64)] rfl rfl ?c1 ?c2 ?c3 ?c4 ?c5 ?_)
  case c1 =>
    intro j u hj
    match j, hj with
    | 0, hj => simp at hj; subst hj; simp [Addr.add]
    | 1, hj => simp at hj; subst hj; simp [Addr.add]
    | 2, hj => simp at hj; subst hj; simp [Addr.add]
    | 3, hj => simp at hj; subst hj; simp [Addr.add]
  case c2 => intro u hu; simp at hu; rcases hu with rfl | rfl | rfl | rfl <;> rfl
  case c3 => unfold maxLen; omega
  case c4 => omega
  case c5 => simp; omega
  intro v' w1 hown' hgrow _
  have hb : Below B w w1 := ((Below.refl B w).alloc hB _).grown hgrow (by simp; omega) (fun k hk => (World.ownsRow.lt hown k hk).1)
  have hown2 : Bytes B w1 v' (xs ++ [240 + r / 64 / 64 / 64, 128 + r / 64 / 64 % 64, 128 + r / 64 % 64, 128 + r % 64]) := by unfold Bytes; simpa using hown'
  clear hown' hgrow hown
  go_wp2
  go_ret
  exact ⟨_, rfl, hown2, hb⟩

theorem appendRune_any (B : Nat) (vb : Value) (xs : List Int) (r : Int) (w : World) (ht : Tabs w) (hown : Bytes B w vb xs) (hB : B ≤ w.heap.size) (hl : xs.length + 4 ≤ 140737488355328) (h0 : 0 ≤ r) (h1 : r < 1114112) :
    Calls Tryd.prog 91 #[vb, .int .i32 r] w fun e w' => ∃ v', e = .returned v' ∧ Bytes B w' v' (xs ++ wrI r) ∧ Below B w w' := by
  by_cases a : r < 128
  · rw [wrI1 a]; exact appendRune_1 B vb xs r w ht hown hB hl h0 a
  by_cases b : r < 2048
  · rw [wrI2 (by omega) b]; exact appendRune_2 B vb xs r w ht hown hB hl (by omega) b
  by_cases c : r < 65536
  · rw [wrI3 (by omega) c]; exact appendRune_3 B vb xs r w ht hown hB hl (by omega) c
  · rw [wrI4 (by omega)]; exact appendRune_4 B vb xs r w ht hown hB hl (by omega) h1
end Go.Proofs.YthjlihhknaelaaaDoor

/- letters.Text: the writing of a row of runes, or none. -/
namespace Go.Proofs.YthjlihhknaelaaaDoor
open Go.RowKit Nums
set_option maxRecDepth 100000

/-- A slice of numbers that lies in memory: nothing is said of who made it. -/
def Row (w : World) (v : Value) (xs : List Int) : Prop :=
  ∃ ao cap, v = .slice ao xs.length cap ∧ (0 < xs.length → ∃ b off, ao = some ⟨b, off, none⟩ ∧ ∀ i, i < xs.length → w.cell? ⟨b, off + i, none⟩ = some (.int .i32 (xs.getD i 0)))

theorem Bytes.back {B : Nat} {w : World} {v : Value} {xs : List Int} (h : Bytes B w v xs) : (convert 132 9 v).run Tryd.prog w = .ok (.string (strOfNums xs)) w := by
  obtain ⟨hl, hn | ⟨g, cap, cur, rfl, hb, hg, h1, h2, h3, h4⟩⟩ := h
  · obtain ⟨rfl, h0⟩ := hn
    have e : xs = [] := List.length_eq_zero_iff.1 h0
    subst e
    exact run_convert_bytes_nil w 132 5 Tryd.underlying132 Tryd.underlying5 0 0 9 Tryd.underlying9
  · refine run_convert_bytes_arg w 132 5 Tryd.underlying132 Tryd.underlying5 g 0 xs.length cap xs rfl (fun i hi => ?_) 9 Tryd.underlying9
    have hc : cur[i]? = some (.int .u8 (xs.getD i 0)) := by
      have e : (cur.toList.take (xs.length * 1))[i]? = (xs.map (Value.int .u8))[i]? := by rw [h4]
      rw [List.getElem?_take, if_pos (by omega)] at e
      rw [← Array.getElem?_toList, e, List.getElem?_map, List.getElem?_eq_getElem hi]
      simp [List.getD_eq_getElem?_getD, List.getElem?_eq_getElem hi]
    simp only [World.cell?, hg, Nat.zero_add]
    simpa using hc

def allR (xs : List Int) : Bool := xs.all isR
def textS (xs : List Int) : ByteArray := if allR xs = true then strOfNums (xs.flatMap wrI) else ByteArray.empty

theorem flat_len (xs : List Int) : (xs.flatMap wrI).length ≤ 4 * xs.length := by
  induction xs with
  | nil => simp
  | cons x r ih => have := wrI_len x; rw [List.flatMap_cons, List.length_append, List.length_cons]; omega
theorem take_next (xs : List Int) (k : Nat) (h : k < xs.length) : xs.take (k + 1) = xs.take k ++ [xs.getD k 0] := by
  rw [List.take_succ_eq_append_getElem h]; simp [List.getD_eq_getElem?_getD, List.getElem?_eq_getElem h]
theorem text_no {xs : List Int} {k : Nat} (h : k < xs.length) (hr : isR (xs.getD k 0) = false) : allR xs = false := by
  have hm : xs.getD k 0 ∈ xs := by simp [List.getD_eq_getElem?_getD, List.getElem?_eq_getElem h]
  cases e : allR xs
  · rfl
  · have := List.all_eq_true.1 e _ hm; rw [hr] at this; cases this
theorem isR_bd {r : Int} (h : isR r = true) : 0 ≤ r ∧ r < 1114112 := by
  have := of_decide_eq_true h; omega

set_option maxHeartbeats 2000000 in
theorem Text_any (v : Value) (xs : List Int) (w : World) (ht : Tabs w) (hrow : Row w v xs) (hl : xs.length * 4 ≤ 140737488355328) :
    Calls Tryd.prog 77 #[v] w fun e w' => e = .returned (.tuple #[.string (textS xs), .bool (allR xs)]) ∧ Below w.heap.size w w' := by
  obtain ⟨i0, hi, hz0, hz1, hz2⟩ := info_parts infoByte
  obtain ⟨ao, cap, rfl, hcells⟩ := hrow
  have HC : Hid (0 < xs.length → ∃ b off, ao = some ⟨b, off, none⟩ ∧ ∀ i, i < xs.length → w.cell? ⟨b, off + i, none⟩ = some (.int .i32 (xs.getD i 0))) := hcells
  clear hcells
  go_enter Tryd.func77, Tryd.ntmps77
  go_wp2_with (at_make; refine wpList_make_own _ rfl _ _ 132 rfl w.heap.size 5 i0 (.int .u8 0) 1 Tryd.underlying132 hi hz0 hz1 _ _ _ xs.length rfl rfl (by omega) (by rw [hz2]; omega) (by unfold maxLen; omega) (Nat.le_refl _) ?_; intro w0 hown0 hgrow0)
  have hb0 : Below w.heap.size w w0 := (Below.refl _ _).grown hgrow0 (Nat.le_refl _) (fun k hk => by cases hk)
  have HO0 : Hid (Bytes w.heap.size w0 (.slice (some ⟨w.heap.size, 0, none⟩) 0 xs.length) []) := hown0
  clear hown0 hgrow0
  go_loopw [4, 12] (fun vb i wr => ∃ k : Nat, k ≤ xs.length ∧ i = .int .i64 k ∧ Bytes w.heap.size wr vb ((xs.take k).flatMap wrI) ∧ allR (xs.take k) = true ∧ Below w.heap.size w wr)
    (fun _ i _ => xs.length - (intOf i).toNat)
  case atStart => exact ⟨0, Nat.zero_le _, rfl, HO0.out, rfl, hb0⟩
  case round =>
    obtain ⟨k, hk, rfl, hown, hall, hbel⟩ := hrel
    have HA : Hid (allR (xs.take k) = true) := hall
    clear hall
    have htr : Tabs wr := ht.below hbel
    by_cases hlt : k < xs.length
    · obtain ⟨b, off, rfl, hc⟩ := HC.out (by omega)
      have hck : wr.cell? ⟨b, off + k, none⟩ = some (.int .i32 (xs.getD k 0)) := by
        rw [hbel.cell (p := ⟨b, off + k, none⟩) (lt_of_cell (hc k hlt))]; exact hc k hlt
      clear hc HC HO0
      have hnx := take_next xs k hlt
      generalize hx : xs.getD k 0 = x at *
      have HX : Hid (xs.getD k 0 = x) := hx
      have HN : Hid (xs.take (k + 1) = xs.take k ++ [x]) := hnx
      clear hnx hx
      cases hr : isR x
      · have HR : Hid (isR x = false) := hr
        clear hr
        have HF : Hid (allR xs = false) := text_no hlt (by rw [HX.out]; exact HR.out)
        go_wp2_with (go_at_call 66; refine (isRune_any _ _).mono ?_; rintro e w' ⟨rfl, rfl⟩; rw [HR.out])
        go_ret2
        refine ⟨?_, hbel⟩
        rw [HF.out, show textS xs = ByteArray.empty by unfold textS; rw [HF.out]; rfl]
        rfl
      · have HR : Hid (isR x = true) := hr
        clear hr
        have hbd := isR_bd HR.out
        have hfl := flat_len (xs.take k)
        rw [List.length_take] at hfl
        go_wp2_with (first
          | (go_at_call 66; refine (isRune_any _ _).mono ?_; rintro e w' ⟨rfl, rfl⟩; rw [HR.out])
          | (go_at_call 91; refine (appendRune_any w.heap.size _ ((xs.take k).flatMap wrI) x _ htr hown hbel.size (by omega) hbd.1 hbd.2).mono ?_; rintro e w1 ⟨v1, rfl, hown1, hb1⟩))
        go_roundw
        case rel =>
          refine ⟨k + 1, by omega, by go_num, ?_, ?_, hbel.trans hb1⟩
          · rw [HN.out, List.flatMap_append]; simpa using hown1
          · rw [HN.out]; have := HA.out; unfold allR at *; rw [List.all_append, this]; simp [HR.out]
        case measure => simp [intOf]; omega
    · obtain rfl : k = xs.length := by omega
      have hfull : xs.take xs.length = xs := List.take_length
      have HO : Hid (Bytes w.heap.size wr u4 (xs.flatMap wrI)) := by rw [hfull] at hown; exact hown
      have HF : Hid (allR xs = true) := by have := HA.out; rw [hfull] at this; exact this
      have hconv := HO.out.back
      clear hfull hown HA
      go_wp2
      go_ret2
      refine ⟨?_, hbel⟩
      rw [HF.out, show textS xs = strOfNums (xs.flatMap wrI) by unfold textS; rw [HF.out]; rfl]
      rfl
end Go.Proofs.YthjlihhknaelaaaDoor

/- What a walk tells of a dictionary's machine: mathematics. -/
namespace Go.Proofs.YthjlihhknaelaaaDoor.Pk
open Go.Proofs.YthjlihhknaelaaaDoor.Nums Go.Proofs.YthjlihhknaelaaaDoor.Fm Go.Proofs.YthjlihhknaelaaaDoor

/-- What is told behind a beginning. -/
def ud (head : List Int) (sum : Int) (R : List En) : List En := R.map fun e => (head ++ e.1, sum + e.2)
theorem ud_append (head : List Int) (sum : Int) (R S : List En) : ud head sum (R ++ S) = ud head sum R ++ ud head sum S := List.map_append
theorem ud_len (head : List Int) (sum : Int) (R : List En) : (ud head sum R).length = R.length := by simp [ud]
theorem ud_arc (head : List Int) (sum c o : Int) (R : List En) : ud head sum ((shift o R).map (pre c)) = ud (head ++ [c]) (sum + o) R := by
  simp only [ud, shift, List.map_map]
  refine List.map_congr_left fun e _ => ?_
  simp only [Function.comp, pre, List.append_assoc, List.singleton_append, Prod.mk.injEq, true_and]
  omega
/-- By the end of some arcs. -/
def udA (D : List (List En)) (head : List Int) (sum : Int) (l : List Arc) : List En := l.flatMap fun a => ud (head ++ [a.label]) (sum + a.out) (D[a.to]?.getD [])
def udF (head : List Int) (sum : Int) (s : St) : List En := if s.final then [(head, sum + s.out)] else []
theorem udA_snoc (D : List (List En)) (head : List Int) (sum : Int) (l : List Arc) (a : Arc) : udA D head sum (l ++ [a]) = udA D head sum l ++ ud (head ++ [a.label]) (sum + a.out) (D[a.to]?.getD []) := by simp [udA]
theorem ud_flat (D : List (List En)) (head : List Int) (sum : Int) : ∀ l : List Arc, ud head sum (flat (outs D l)) = udA D head sum l
  | [] => rfl
  | a :: l => by
    have e : flat (outs D (a :: l)) = (shift a.out (D[a.to]?.getD [])).map (pre a.label) ++ flat (outs D l) := by simp [flat, outs]
    rw [e, ud_append, ud_arc, ud_flat D head sum l]
    simp [udA]
theorem ud_exp (D : List (List En)) (s : St) (head : List Int) (sum : Int) : ud head sum (exp D s) = udF head sum s ++ udA D head sum s.arcs := by
  rw [exp, ud_append, ud_flat]
  congr 1
  unfold fins udF ud
  cases s.final <;> simp
/-- How many. -/
theorem exp_len (D : List (List En)) (s : St) : (exp D s).length = (if s.final then 1 else 0) + (s.arcs.map fun a => (D[a.to]?.getD []).length).sum := by
  have h := congrArg List.length (ud_exp D s [] 0)
  rw [ud_len, List.length_append] at h
  rw [h]
  congr 1
  · unfold udF; cases s.final <;> rfl
  · unfold udA
    rw [List.length_flatMap]
    congr 1
    exact List.map_congr_left fun a _ => ud_len _ _ _
/-- What is known of a dictionary's machine. -/
structure MW (l : List Pr) (base : Int) (b : List St) (D : List (List En)) : Prop where
  inv : Inv D b
  rst : Rests base D
  ne : b ≠ []
  root : D[b.length - 1]? = some (level (ents l))
  top : ud [] base (level (ents l)) = ents l
theorem mach_walk {l : List Pr} (h : buildE l = 0) (hl : l ≠ []) : ∃ D, MW l (machOf l).1 (machOf l).2 D := by
  have hg := dict_good h hl
  obtain ⟨D, M⟩ := stF_spec 25 [] [] (ents l) Inv.nil hg
  obtain ⟨D2, hI2, hR⟩ := dict_rests h hl
  have e := inv_one M.inv hI2
  subst e
  have hrl : (stF 25 [] (ents l)).2 + 1 = (stF 25 [] (ents l)).1.length := root_last (f := 24) hg
  have hM : machOf l = (least (ents l), (stF 25 [] (ents l)).1) := by rw [machOf, if_pos ⟨h, hl⟩]
  rw [hM]
  refine ⟨D, M.inv, hR, fun e => ?_, ?_, ?_⟩
  · simp only at e
    rw [e] at hrl
    simp at hrl
  · simp only
    rw [← hrl, Nat.add_sub_cancel]
    exact M.num
  · have : shift (least (ents l)) (level (ents l)) = ents l := by rw [shift_level, Int.sub_self, shift_zero]
    conv => rhs; rw [← this]
    unfold ud shift
    refine List.map_congr_left fun e _ => ?_
    simp only [List.nil_append, Prod.mk.injEq, true_and]
    omega
/-- Pairs of entries. -/
def prW (e : En) : Pr := (textS e.1, e.2)
theorem text_entW {x : Pr} (hx : ∃ xs, rs x.1.data.toList = some xs) : textS (entOf x).1 = x.1 := by
  obtain ⟨xs, hx⟩ := hx
  obtain ⟨h1, h2⟩ := rs_write hx
  have e : (entOf x).1 = xs := by rw [entOf, hx]; rfl
  rw [e]
  have h1' : allR xs = true := h1
  unfold textS
  rw [if_pos h1']
  have h3 : (xs.flatMap wrI).map (fun n => UInt8.ofNat n.toNat) = x.1.data.toList := by
    rw [← h2, List.map_flatMap]
    rfl
  unfold strOfNums
  rw [h3]
theorem prs_entsW {l : List Pr} (h : Wd l) : (ents l).map prW = l := by
  unfold ents
  rw [List.map_map]
  conv => rhs; rw [← List.map_id l]
  refine List.map_congr_left fun x hx => ?_
  obtain ⟨xs, h1, _⟩ := h x hx
  simp only [Function.comp, id]
  exact Prod.ext (text_entW ⟨xs, h1⟩) rfl
/-- What may be told behind a beginning. -/
structure Tells (base : Int) (head : List Int) (sum : Int) (R : List En) : Prop where
  ln : ∀ e ∈ R, head.length + e.1.length ≤ 24
  wt : ∀ e ∈ R, sum + e.2 ≤ 1048576
  lo : 0 ≤ sum
  hr : ∀ c ∈ head, wordR c = true
theorem Tells.arc {base : Int} {D : List (List En)} {b : List St} (hI : Inv D b) (hR : Rests base D) {i : Nat} {s : St} (hi : b[i]? = some s) {head : List Int} {sum : Int} (h : Tells base head sum (exp D s)) {a : Arc} (ha : a ∈ s.arcs) : Tells base (head ++ [a.label]) (sum + a.out) (D[a.to]?.getD []) ∧ head.length < 24 ∧ sum + a.out ≤ 1048576 := by
  obtain ⟨e1, e2, e3⟩ := hI.row i s hi
  have ht := e3.to a ha
  have hg : D[a.to]?.getD [] = D[a.to] := by rw [List.getElem?_eq_getElem ht]; rfl
  obtain ⟨f1, f2, f3, f4⟩ := arc_facts hI hR hi a ha
  rw [hg]
  have hne := hR.ne _ (List.getElem_mem ht)
  obtain ⟨e0, he0⟩ := List.exists_mem_of_ne_nil _ hne
  have key : ∀ e ∈ D[a.to], head.length + 1 + e.1.length ≤ 24 ∧ sum + a.out + e.2 ≤ 1048576 := fun e he => by
    have hin := arc_in ha ht he
    have h1 := h.ln _ hin
    have h2 := h.wt _ hin
    simp only [List.length_cons] at h1 h2
    omega
  have hk0 := key e0 he0
  have hn0 := hR.nn _ (List.getElem_mem ht) e0 he0
  have hlo := h.lo
  refine ⟨⟨fun e he => ?_, fun e he => (key e he).2, by omega, fun c hc => ?_⟩, by omega, by omega⟩
  · have := (key e he).1
    simp only [List.length_append, List.length_singleton]
    omega
  · rcases List.mem_append.1 hc with hc | hc
    · exact h.hr c hc
    · rw [List.mem_singleton.1 hc]; exact f4
theorem MW.tells {l : List Pr} {base : Int} {b : List St} {D : List (List En)} (h : MW l base b D) : Tells base [] base (level (ents l)) := by
  have hm := List.mem_of_getElem? h.root
  refine ⟨fun e he => by simpa using h.rst.ln _ hm e he, fun e he => ?_, by have := h.rst.lo; omega, fun c hc => by cases hc⟩
  have := h.rst.wt _ hm e he
  omega
theorem word_allR {xs : List Int} (h : ∀ c ∈ xs, wordR c = true) : allR xs = true := by
  unfold allR
  refine List.all_eq_true.2 fun c hc => ?_
  have := h c hc
  unfold wordR at this
  simp only [Bool.and_eq_true] at this
  exact this.1
end Go.Proofs.YthjlihhknaelaaaDoor.Pk

/- Cut: what the seat's translation lacks is left out. -/
/- fst.Build, walked. -/
namespace Go.Proofs.YthjlihhknaelaaaDoor
open Go.RowKit Nums Fm
set_option maxRecDepth 100000

theorem two_set {w : World} {b : Nat} {a0 a1 : Value} {T : TypeId} {q : Nat × Nat} (h : w.heap[b]? = some (.cells #[a0, a1] T q)) (x y : Value) : ((w.setCell ⟨b, 0, none⟩ x).setCell ⟨b, 1, none⟩ y).cell? ⟨b, 0, none⟩ = some x ∧ ((w.setCell ⟨b, 0, none⟩ x).setCell ⟨b, 1, none⟩ y).cell? ⟨b, 1, none⟩ = some y := by
  have h1 := set_at (o := 0) h x
  have h2 := set_at (o := 1) h1 y
  refine ⟨?_, ?_⟩
  · simp only [World.cell?, h2]; rfl
  · simp only [World.cell?, h2]; rfl
/-- What region 11 looks at. -/
def SB (g : Nat) (vs : Value) (w : World) : Prop := w.cell? ⟨g, 0, none⟩ = some vs
theorem SB.facts {g : Nat} {vs : Value} {w : World} (h : SB g vs w) : w.cell? ⟨g, 0, none⟩ = some vs := h
end Go.Proofs.YthjlihhknaelaaaDoor

/- Machines in memory, as they are read. -/
namespace Go.Proofs.YthjlihhknaelaaaDoor
open Go.RowKit Nums Fm Pk
set_option maxRecDepth 100000

/-- A row of structs that is read, in a block below E. -/
structure GRow (E k : Nat) (w : World) (v : Value) (xss : List (List Value)) : Prop where
  ex : ∃ ad cap, v = .slice ad xss.length cap ∧ (0 < xss.length → ∃ g off, ad = some ⟨g, off, none⟩ ∧ g < E ∧ ∀ (i j : Nat) (x : List Value) (u : Value), xss[i]? = some x → x[j]? = some u → w.cell? ⟨g, off + i * k + j, none⟩ = some u)
theorem GRow.below {E k : Nat} {w w' : World} {v : Value} {xss : List (List Value)} (h : GRow E k w v xss) (hb : Below E w w') : GRow E k w' v xss := by
  obtain ⟨ad, cap, rfl, hc⟩ := h.ex
  refine ⟨ad, cap, rfl, fun h0 => ?_⟩
  obtain ⟨g, off, rfl, hg, hx⟩ := hc h0
  exact ⟨g, off, rfl, hg, fun i j x u hi hj => (hb.cell (p := ⟨g, off + i * k + j, none⟩) hg).trans (hx i j x u hi hj)⟩
theorem GRow.mono {E E' k : Nat} {w : World} {v : Value} {xss : List (List Value)} (h : GRow E k w v xss) (hE : E ≤ E') : GRow E' k w v xss := by
  obtain ⟨ad, cap, rfl, hc⟩ := h.ex
  refine ⟨ad, cap, rfl, fun h0 => ?_⟩
  obtain ⟨g, off, rfl, hg, hx⟩ := hc h0
  exact ⟨g, off, rfl, Nat.lt_of_lt_of_le hg hE, hx⟩
theorem GRow.shape {E k : Nat} {w : World} {v : Value} {xss : List (List Value)} (h : GRow E k w v xss) : ∃ ad cap, v = .slice ad xss.length cap := by
  obtain ⟨ad, cap, rfl, _⟩ := h.ex
  exact ⟨ad, cap, rfl⟩
theorem GOwn.reads {T : TypeId} {k B : Nat} {w : World} {v : Value} {xss : List (List Value)} (h : GOwn T k B w v xss) : GRow w.heap.size k w v xss := by
  obtain ⟨ad, cap, hv, _⟩ := h.shape
  refine ⟨ad, cap, hv, fun h0 => ?_⟩
  obtain ⟨g, c2, hv2, hg, _, _, hc⟩ := h.cell h0
  rw [hv] at hv2
  simp only [Value.slice.injEq] at hv2
  exact ⟨g, 0, hv2.1, hg, fun i j x u hi hj => by rw [Nat.zero_add]; exact hc i j x u hi hj⟩
def cellsRA (a : RArc) : List Value := [.int .i32 a.label, .int .i64 a.out, .int .i64 a.to]
def OkRA (a : RArc) : Prop := Fits32 a.label ∧ Fits64 a.out ∧ Fits64 a.to
/-- Arcs that are read. -/
structure ArcsAt (E : Nat) (w : World) (va : Value) (l : List RArc) : Prop where
  row : GRow E 3 w va (l.map cellsRA)
  ok : ∀ a ∈ l, OkRA a
  len : l.length ≤ 9223372036854775807
theorem ArcsAt.below {E : Nat} {w w' : World} {va : Value} {l : List RArc} (h : ArcsAt E w va l) (hb : Below E w w') : ArcsAt E w' va l := ⟨h.row.below hb, h.ok, h.len⟩
theorem ArcsAt.shape {E : Nat} {w : World} {va : Value} {l : List RArc} (h : ArcsAt E w va l) : ∃ ad cap, va = .slice ad l.length cap := by
  obtain ⟨ad, cap, h1⟩ := h.row.shape
  exact ⟨ad, cap, by rw [h1, List.length_map]⟩
/-- One arc's cells. -/
theorem ArcsAt.at {E : Nat} {w : World} {ad : Option Addr} {n cap : Nat} {l : List RArc} (h : ArcsAt E w (.slice ad n cap) l) {k : Nat} {a : RArc} (ha : l[k]? = some a) : ∃ g off, ad = some ⟨g, off, none⟩ ∧ g < E ∧ w.cell? ⟨g, off + k * 3, none⟩ = some (.int .i32 a.label) ∧ w.cell? ⟨g, off + k * 3 + 1, none⟩ = some (.int .i64 a.out) ∧ w.cell? ⟨g, off + k * 3 + 2, none⟩ = some (.int .i64 a.to) := by
  obtain ⟨ad', cap', hv, hc⟩ := h.row.ex
  simp only [Value.slice.injEq] at hv
  have hk := (List.getElem?_eq_some_iff.1 ha).1
  obtain ⟨g, off, rfl, hg, hx⟩ := hc (by rw [List.length_map]; omega)
  have e : (l.map cellsRA)[k]? = some (cellsRA a) := by rw [List.getElem?_map, ha]; rfl
  exact ⟨g, off, hv.1, hg, hx k 0 _ _ e rfl, hx k 1 _ _ e rfl, hx k 2 _ _ e rfl⟩
/-- States that are read. -/
structure StsAt (E : Nat) (w : World) (vs : Value) (m : List RSt) : Prop where
  ex : ∃ xss, GRow E 3 w vs xss ∧ xss.length = m.length ∧ ∀ (i : Nat) (s : RSt), m[i]? = some s → ∃ va, xss[i]? = some [.bool s.final, .int .i64 s.out, va] ∧ ArcsAt E w va s.arcs
  ok : ∀ s ∈ m, Fits64 s.out
  len : m.length ≤ 9223372036854775807
theorem StsAt.below {E : Nat} {w w' : World} {vs : Value} {m : List RSt} (h : StsAt E w vs m) (hb : Below E w w') : StsAt E w' vs m := by
  obtain ⟨xss, h1, h2, h3⟩ := h.ex
  refine ⟨⟨xss, h1.below hb, h2, fun i s hi => ?_⟩, h.ok, h.len⟩
  obtain ⟨va, e1, e2⟩ := h3 i s hi
  exact ⟨va, e1, e2.below hb⟩
theorem StsAt.shape {E : Nat} {w : World} {vs : Value} {m : List RSt} (h : StsAt E w vs m) : ∃ ad cap, vs = .slice ad m.length cap := by
  obtain ⟨xss, h1, h2, _⟩ := h.ex
  obtain ⟨ad, cap, e⟩ := h1.shape
  exact ⟨ad, cap, by rw [e, h2]⟩
/-- One state's cells. -/
theorem StsAt.at {E : Nat} {w : World} {ad : Option Addr} {n cap : Nat} {m : List RSt} (h : StsAt E w (.slice ad n cap) m) {k : Nat} {s : RSt} (hs : m[k]? = some s) : ∃ g off va, ad = some ⟨g, off, none⟩ ∧ g < E ∧ w.cell? ⟨g, off + k * 3, none⟩ = some (.bool s.final) ∧ w.cell? ⟨g, off + k * 3 + 1, none⟩ = some (.int .i64 s.out) ∧ w.cell? ⟨g, off + k * 3 + 2, none⟩ = some va ∧ ArcsAt E w va s.arcs := by
  obtain ⟨xss, h1, h2, h3⟩ := h.ex
  obtain ⟨ad', cap', hv, hc⟩ := h1.ex
  simp only [Value.slice.injEq] at hv
  have hk := (List.getElem?_eq_some_iff.1 hs).1
  obtain ⟨g, off, rfl, hg, hx⟩ := hc (by omega)
  obtain ⟨va, e1, e2⟩ := h3 k s hs
  exact ⟨g, off, va, hv.1, hg, hx k 0 _ _ e1 rfl, hx k 1 _ _ e1 rfl, hx k 2 _ _ e1 rfl, e2⟩
end Go.Proofs.YthjlihhknaelaaaDoor

/- A region that draws its order: an operation that is not wanted. -/
namespace Go.Proofs.YthjlihhknaelaaaDoor
open Go.RowKit
variable {P : Program} {md : Region.Mode} {ops : Array Oper} {Q : Exit → Act → World → Prop} {S : World → Prop}
theorem pass_at {i : Nat} {oi : Oper} {fuel : Nat} {listed : Array Bool} {tmps : Array Value} {df : List Deferred} {w : World} (t : Tmp) (hi : ops[i]? = some oi) (hd : oi.dst = some t)
    (hs : Region.noSelect ops = true) (hf : Region.free md ops listed i = true) (hr : (Region.ready md ops listed).contains i = true)
    (hQ : ∀ c a w, Q (.panic c) (a.put oi.dst undef) w → Q (.panic c) a w) (hw : Region.wanted oi (yielded ops tmps) = false) (hS : S w)
    (h : wpAnyH P md ops Q S fuel (listed.setIfInBounds i true) { tmps := tmps.setIfInBounds t undef, defers := df } w) : wpAnyH P md ops Q S (fuel + 1) listed { tmps := tmps, defers := df } w := by
  refine wpAnyH_take hi hs hf hr hQ (.inr ⟨hw, rfl⟩) hS ?_
  rw [hd]; exact h
end Go.Proofs.YthjlihhknaelaaaDoor

/- A walk in memory; its root, its base, how many words. -/
namespace Go.Proofs.YthjlihhknaelaaaDoor
open Go.RowKit Nums Fm Pk
set_option maxRecDepth 100000

def cellsN (c : Nat) : List Value := [.int .i64 (c : Int)]
theorem rtyN : RTy 3 59 1 8 := ⟨by kernel_rfl, ⟨.int .i64 0, by kernel_rfl, rfl⟩, by decide, by decide⟩
/-- A walk that is read. -/
structure WkAt (E : Nat) (w : World) (wb : Nat) (base : Int) (m : List RSt) (cs : List Nat) : Prop where
  lt : wb < E
  ex : ∃ vs vw, w.heap[wb]? = some (.cells #[.int .i64 base, vs, vw] 61) ∧ StsAt E w vs m ∧ GRow E 1 w vw (cs.map cellsN)
theorem WkAt.below {E : Nat} {w w' : World} {wb : Nat} {base : Int} {m : List RSt} {cs : List Nat} (h : WkAt E w wb base m cs) (hb : Below E w w') : WkAt E w' wb base m cs := by
  obtain ⟨vs, vw, h1, h2, h3⟩ := h.ex
  exact ⟨h.lt, vs, vw, (hb.block wb h.lt).trans h1, h2.below hb, h3.below hb⟩
theorem WkAt.facts {E : Nat} {w : World} {wb : Nat} {base : Int} {m : List RSt} {cs : List Nat} (h : WkAt E w wb base m cs) : ∃ sd sc wd wc, w.cell? ⟨wb, 0, none⟩ = some (.int .i64 base) ∧ w.cell? ⟨wb, 1, none⟩ = some (.slice sd m.length sc) ∧ w.cell? ⟨wb, 2, none⟩ = some (.slice wd cs.length wc) ∧ StsAt E w (.slice sd m.length sc) m ∧ GRow E 1 w (.slice wd cs.length wc) (cs.map cellsN) := by
  obtain ⟨vs, vw, h1, h2, h3⟩ := h.ex
  obtain ⟨sd, sc, rfl⟩ := h2.shape
  obtain ⟨wd, wc, rfl⟩ := h3.shape
  rw [List.length_map] at h1 h3
  exact ⟨sd, sc, wd, wc, by simp [World.cell?, h1], by simp [World.cell?, h1], by simp [World.cell?, h1], h2, h3⟩
/-- One number of a row. -/
theorem GRow.num {E : Nat} {w : World} {ad : Option Addr} {n cap : Nat} {cs : List Nat} (h : GRow E 1 w (.slice ad n cap) (cs.map cellsN)) {k c : Nat} (hc : cs[k]? = some c) : ∃ g off, ad = some ⟨g, off, none⟩ ∧ g < E ∧ w.cell? ⟨g, off + k, none⟩ = some (.int .i64 (c : Int)) := by
  obtain ⟨ad', cap', hv, hx⟩ := h.ex
  simp only [Value.slice.injEq] at hv
  have hk := (List.getElem?_eq_some_iff.1 hc).1
  obtain ⟨g, off, rfl, hg, hx⟩ := hx (by rw [List.length_map]; omega)
  have e : (cs.map cellsN)[k]? = some (cellsN c) := by rw [List.getElem?_map, hc]; rfl
  have := hx k 0 _ _ e rfl
  rw [Nat.mul_one, Nat.add_zero] at this
  exact ⟨g, off, hv.1, hg, this⟩
set_option maxHeartbeats 1000000 in
theorem Root_any (E : Nat) (w : World) (wb : Nat) (base : Int) (m : List RSt) (cs : List Nat) (h : WkAt E w wb base m cs) :
    Calls Tryd.prog 24 #[.pointer (some ⟨wb, 0, none⟩)] w fun e w' => e = .returned (.int .i64 ((m.length : Int) - 1)) ∧ w' = w := by
  obtain ⟨sd, sc, wd, wc, c0, c1, c2, hS, _⟩ := h.facts
  have hl := hS.len
  go_enter Tryd.func24, Tryd.ntmps24
  go_wp2
  go_ret
  exact ⟨by go_num, rfl⟩
set_option maxHeartbeats 1000000 in
theorem Base_any (E : Nat) (w : World) (wb : Nat) (base : Int) (m : List RSt) (cs : List Nat) (h : WkAt E w wb base m cs) :
    Calls Tryd.prog 25 #[.pointer (some ⟨wb, 0, none⟩)] w fun e w' => e = .returned (.int .i64 base) ∧ w' = w := by
  obtain ⟨sd, sc, wd, wc, c0, c1, c2, hS, _⟩ := h.facts
  go_enter Tryd.func25, Tryd.ntmps25
  go_wp2
  go_ret
  exact ⟨rfl, rfl⟩
end Go.Proofs.YthjlihhknaelaaaDoor

/- least, ofWords: of a state, of a rune. -/
namespace Go.Proofs.YthjlihhknaelaaaDoor
open Go.RowKit Nums Fm Pk
set_option maxRecDepth 100000

theorem minF_snoc {l : List RArc} {k : Nat} {a : RArc} (h : l[k]? = some a) (m : Int) : minF m (l.take (k + 1)) = min (minF m (l.take k)) a.out := by
  have : ∀ (x : List RArc) (m : Int), minF m (x ++ [a]) = min (minF m x) a.out := fun x => by
    induction x with
    | nil => intro m; rfl
    | cons y r ih => intro m; exact ih _
  rw [List.take_add_one, h]
  exact this _ _
set_option maxHeartbeats 1000000 in
theorem pleast_any (E : Nat) (w : World) (s : RSt) (va : Value) (h : ArcsAt E w va s.arcs) (hE : E ≤ w.heap.size) :
    Calls Tryd.prog 70 #[.agg #[.bool s.final, .int .i64 s.out, va]] w fun e w' => e = .returned (.int .i64 (leastS s)) ∧ Below w.heap.size w w' := by
  obtain ⟨ad, cap, rfl⟩ := h.shape
  obtain ⟨n, hn⟩ : ∃ n, s.arcs.length = n := ⟨_, rfl⟩
  have HN : Hid (s.arcs.length = n) := hn
  have HR : Hid (ArcsAt E w (.slice ad s.arcs.length cap) s.arcs) := h
  have hl := h.len
  rw [hn] at HR hl ⊢
  clear h hn
  obtain ⟨M, hM⟩ : ∃ M : Int, M = if s.final then s.out else 9223372036854775807 := ⟨_, rfl⟩
  have HM : Hid (minF M s.arcs = leastS s) := by show _ = _; rw [hM]; rfl
  cases hf : s.final with
  | true =>
    rw [hf, if_pos rfl] at hM
    subst hM
    generalize s.out = M at *
    clear hf
    go_enter Tryd.func70, Tryd.ntmps70
    go_wp2
    go_loopg [3, 5, 13] n (fun gm s3 _ s13 wr => ∃ (k : Nat), s13 = .int .i64 k ∧ k ≤ n ∧ n - k ≤ gm ∧ s3 = .int .i64 (minF M (s.arcs.take k)) ∧ Hid (Below w.heap.size w wr))
    case atStart => exact ⟨0, rfl, Nat.zero_le _, by omega, by simp [minF], (Below.refl _ _).alloc (Nat.le_refl _) _⟩
    case round =>
      obtain ⟨k, rfl, hk, hgm, rfl, HB⟩ := hrel
      by_cases hlt : k < n
      · have hltz : (k : Int) < (n : Int) := by omega
        obtain ⟨x, hx⟩ : ∃ x, s.arcs[k]? = some x := ⟨s.arcs[k]'(by have := HN.out; omega), List.getElem?_eq_getElem _⟩
        obtain ⟨g, off, rfl, hg, c0, c1, c2⟩ := (HR.out.below (HB.out.mono hE)).at hx
        have HS : Hid (minF M (s.arcs.take (k + 1)) = min (minF M (s.arcs.take k)) x.out) := minF_snoc hx _
        have HB2 : Hid (∀ o, Below w.heap.size w (wr.alloc o)) := fun o => HB.out.alloc HB.out.size o
        clear hx
        generalize minF M (s.arcs.take k) = m at *
        go_wp2
        all_goals
          go_roundg (n - (k + 1))
          case measure => omega
          case rel => exact ⟨k + 1, by go_num, by omega, Nat.le_refl _, by rw [HS.out]; congr 1; omega, HB2.out _⟩
      · have hltz : ¬ (k : Int) < (n : Int) := by omega
        have HE : Hid (minF M (s.arcs.take k) = leastS s) := by show _ = _; rw [List.take_of_length_le (by have := HN.out; omega)]; exact HM.out
        go_wp2
        go_ret
        exact ⟨by rw [HE.out]; rfl, HB.out⟩
  | false =>
    rw [hf, if_neg (by decide)] at hM
    subst hM
    generalize s.out = so at *
    clear hf
    go_enter Tryd.func70, Tryd.ntmps70
    go_wp2
    obtain ⟨M, hMM⟩ : ∃ M : Int, M = 9223372036854775807 := ⟨_, rfl⟩
    rw [← hMM] at HM ⊢
    clear hMM
    go_loopg [3, 5, 13] n (fun gm s3 _ s13 wr => ∃ (k : Nat), s13 = .int .i64 k ∧ k ≤ n ∧ n - k ≤ gm ∧ s3 = .int .i64 (minF M (s.arcs.take k)) ∧ Hid (Below w.heap.size w wr))
    case atStart => exact ⟨0, rfl, Nat.zero_le _, by omega, by simp [minF], (Below.refl _ _).alloc (Nat.le_refl _) _⟩
    case round =>
      obtain ⟨k, rfl, hk, hgm, rfl, HB⟩ := hrel
      by_cases hlt : k < n
      · have hltz : (k : Int) < (n : Int) := by omega
        obtain ⟨x, hx⟩ : ∃ x, s.arcs[k]? = some x := ⟨s.arcs[k]'(by have := HN.out; omega), List.getElem?_eq_getElem _⟩
        obtain ⟨g, off, rfl, hg, c0, c1, c2⟩ := (HR.out.below (HB.out.mono hE)).at hx
        have HS : Hid (minF M (s.arcs.take (k + 1)) = min (minF M (s.arcs.take k)) x.out) := minF_snoc hx _
        have HB2 : Hid (∀ o, Below w.heap.size w (wr.alloc o)) := fun o => HB.out.alloc HB.out.size o
        clear hx
        generalize minF M (s.arcs.take k) = m at *
        go_wp2
        all_goals
          go_roundg (n - (k + 1))
          case measure => omega
          case rel => exact ⟨k + 1, by go_num, by omega, Nat.le_refl _, by rw [HS.out]; congr 1; omega, HB2.out _⟩
      · have hltz : ¬ (k : Int) < (n : Int) := by omega
        have HE : Hid (minF M (s.arcs.take k) = leastS s) := by show _ = _; rw [List.take_of_length_le (by have := HN.out; omega)]; exact HM.out
        go_wp2
        go_ret
        exact ⟨by rw [HE.out]; rfl, HB.out⟩
theorem word_one (r : Int) : (allR [r] && wordB (textS [r]).data.toList) = wordR r := by
  unfold allR wordR
  simp only [List.all_cons, List.all_nil, Bool.and_true]
  cases hr : isR r with
  | false => rfl
  | true =>
    have h1 : allR [r] = true := by simp [allR, hr]
    have h2 : (textS [r]).data.toList = [r].flatMap wr := by
      unfold textS
      rw [if_pos h1]
      show ((([r].flatMap wrI).map (fun n => UInt8.ofNat n.toNat)).toArray).toList = _
      rw [List.toList_toArray]
      exact flat_bytes [r]
    rw [h2, Bool.true_and, Bool.true_and]
    have h3 := rs_text (xs := [r]) (by simp [hr])
    unfold wordB
    rw [h3]
    simp
set_option maxHeartbeats 1000000 in
theorem ofWords_any (w : World) (r : Int) (hT : Tabs w) :
    Calls Tryd.prog 82 #[.int .i32 r] w fun e w' => e = .returned (.bool (wordR r)) ∧ Below w.heap.size w w' := by
  have hb0 : ∀ o, Below w.heap.size w (w.alloc o) := fun o => (Below.refl _ w).alloc (Nat.le_refl _) o
  have HT : Hid (∀ o, Tabs (w.alloc o)) := fun o => hT.below (hb0 o)
  have HB : Hid (∀ o, Below w.heap.size w (w.alloc o)) := hb0
  have HW : Hid ((allR [r] && wordB (textS [r]).data.toList) = wordR r) := word_one r
  have HSZ : Hid ((textS [r]).size ≤ 9223372036854775807) := by
    show _ ≤ _
    have h1 := flat_len [r]
    unfold textS
    split
    · show (List.toArray _).size ≤ _
      simp only [List.size_toArray, List.length_map]
      simp only [List.length_cons, List.length_nil] at h1
      omega
    · decide
  have HROW : Hid (∀ T, Row (w.alloc (.cells #[.int .i32 r] T)) (.slice (some ⟨w.heap.size, 0, none⟩) 1 1) [r]) := fun T => by
    refine ⟨_, 1, rfl, fun _ => ⟨_, 0, rfl, fun i hi => ?_⟩⟩
    have : i = 0 := by simpa using hi
    subst this
    simp
  have HTX : Hid (∀ T, Calls Tryd.prog 77 #[.slice (some ⟨w.heap.size, 0, none⟩) 1 1] (w.alloc (.cells #[.int .i32 r] T)) fun e w' => e = .returned (.tuple #[.string (textS [r]), .bool (allR [r])]) ∧ Below w.heap.size w w') := fun T => by
    refine (Text_any _ [r] _ (HT.out _) (HROW.out T) (by simp)).mono ?_
    rintro e w1 ⟨rfl, hb1⟩
    exact ⟨rfl, (HB.out _).trans (hb1.mono (HB.out (.cells #[.int .i32 r] T)).size)⟩
  have HWD : Hid (∀ w1, Below w.heap.size w w1 → Calls Tryd.prog 31 #[.string (textS [r])] w1 fun e w' => e = .returned (.bool (wordB (textS [r]).data.toList)) ∧ Below w.heap.size w w') := fun w1 hb1 => by
    refine (Word_any _ _ (hT.below hb1) HSZ.out).mono ?_
    rintro e w2 ⟨rfl, q, rfl⟩
    exact ⟨rfl, belowN hb1 q⟩
  clear hT hb0 HSZ HROW HT HB
  generalize allR [r] = A at *
  generalize wordB (textS [r]).data.toList = B at *
  generalize textS [r] = S at *
  go_enter Tryd.func82, Tryd.ntmps82
  cases A with
  | true =>
    go_wp2_with (first
      | (go_at_call 77; refine (HTX.out _).mono ?_; rintro e w1 ⟨rfl, hb1⟩; have HB1 : Hid (Below w.heap.size w w1) := hb1; clear hb1)
      | (go_at_call 31; refine (HWD.out _ HB1.out).mono ?_; rintro e w2 ⟨rfl, hb2⟩))
    go_ret
    exact ⟨by rw [← HW.out]; rfl, hb2⟩
  | false =>
    go_wp2_with (first
      | (go_at_call 77; refine (HTX.out _).mono ?_; rintro e w1 ⟨rfl, hb1⟩; have HB1 : Hid (Below w.heap.size w w1) := hb1; clear hb1))
    go_ret
    exact ⟨by rw [← HW.out]; rfl, HB1.out⟩
end Go.Proofs.YthjlihhknaelaaaDoor
