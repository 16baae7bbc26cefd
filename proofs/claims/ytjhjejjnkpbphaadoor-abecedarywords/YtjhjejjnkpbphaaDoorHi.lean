/- Texts that were written apart, joined. -/
import Derived.Test.YtjhjejjnkpbphaaDoorPBase
import Derived.Test.YtjhjejjnkpbphaaDoorGh
import Derived.Deep.QuietTactic
import Derived.BigQuiet
import Derived.Test.YtjhjejjnkpbphaaDoorFFault
import Derived.Test.YtjhjejjnkpbphaaDoorG2
import Derived.Deep.RegionHeld3
import Derived.Deep.DrawnRows
/- The reference's Ahead: which of two words is ahead. -/
namespace Go.Proofs.YtjhjejjnkpbphaaDoor
open Go.RowKit Nums
set_option maxRecDepth 100000

theorem drewN3 (w : World) (a b c : Nat) : ∃ n, ((w.drewN a).drewN b).drewN c = w.drewN n := ⟨a + (b + c), by rw [World.drewN_drewN, World.drewN_drewN]⟩
set_option maxHeartbeats 2000000 in
theorem Ahead_any (a b : ByteArray) (w : World) (ha : a.size ≤ 9223372036854775807) (_ : b.size ≤ 9223372036854775807) :
    Calls Tryd.prog 26 #[.string a, .string b] w fun e w' => e = .returned (.bool (lexL (a.data.toList.map N) (b.data.toList.map N))) ∧ ∃ n, w' = w.drewN n := by
  have HA : Hid (∀ i (h : i < a.size), ((a[i]'h).toNat : Int) = bt a.data.toList i) := bt_get a
  have HB : Hid (∀ i (h : i < b.size), ((b[i]'h).toNat : Int) = bt b.data.toList i) := bt_get b
  have HM : Hid ((a.data.toList.map N).length = a.size ∧ (b.data.toList.map N).length = b.size) := ⟨by rw [List.length_map, size_length], by rw [List.length_map, size_length]⟩
  go_enter Tryd.func26, Tryd.ntmps26
  go_wp2
  go_loopw [5] (fun i wr => ∃ k : Nat, k ≤ a.size ∧ k ≤ b.size ∧ i = .int .i64 k ∧ (∀ j, j < k → (a.data.toList.map N).getD j 0 = (b.data.toList.map N).getD j 0) ∧ ∃ n, wr = w.drewN n) (fun i _ => a.size - (intOf i).toNat)
  case atStart => exact ⟨0, Nat.zero_le _, Nat.zero_le _, rfl, fun j h => by omega, 0, rfl⟩
  case round =>
    obtain ⟨k, hk1, hk2, rfl, hall, nw, rfl⟩ := hrel
    have HK : Hid (∀ j, j < k → (a.data.toList.map N).getD j 0 = (b.data.toList.map N).getD j 0) := hall
    clear hall
    by_cases hlt1 : k < a.size
    · by_cases hlt2 : k < b.size
      · by_cases hxy : ((a[k]'hlt1).toNat : Int) = ((b[k]'hlt2).toNat : Int)
        · have hn : (((a[k]'hlt1).toNat : Int) != ((b[k]'hlt2).toNat : Int)) = false := by simpa using hxy
          have HB2 : Hid (∀ j, j < k + 1 → (a.data.toList.map N).getD j 0 = (b.data.toList.map N).getD j 0) := fun j h => by
            by_cases e : j = k
            · subst e; rw [bt_map, bt_map, ← HA.out j hlt1, ← HB.out j hlt2, hxy]
            · exact HK.out j (by omega)
          clear hxy
          go_wp2
          go_quiet (fail)
          go_wp2
          go_roundw
          case rel => exact ⟨k + 1, by omega, by omega, by go_num, HB2.out, _, rfl⟩
          case measure => simp [intOf]; omega
        · have hn : (((a[k]'hlt1).toNat : Int) != ((b[k]'hlt2).toNat : Int)) = true := by simpa using hxy
          have HF : Hid (lexL (a.data.toList.map N) (b.data.toList.map N) = decide (((a[k]'hlt1).toNat : Int) < ((b[k]'hlt2).toNat : Int))) := by
            show lexL _ _ = _
            rw [lexL_at k _ _ (by rw [HM.out.1]; exact hlt1) (by rw [HM.out.2]; exact hlt2) HK.out (by rw [bt_map, bt_map, ← HA.out k hlt1, ← HB.out k hlt2]; exact hxy), bt_map, bt_map, ← HA.out k hlt1, ← HB.out k hlt2]
          clear hxy
          go_wp2
          go_quiet (fail)
          go_wp2
          go_quiet (fail)
          go_wp2
          go_ret
          exact ⟨by rw [HF.out]; first | rfl | (simp; done), drewN3 _ _ _ _⟩
      · have HF : Hid (lexL (a.data.toList.map N) (b.data.toList.map N) = decide (a.size < b.size)) := by
          show lexL _ _ = _
          rw [lexL_end k _ _ (by rw [HM.out.1]; exact hk1) (by rw [HM.out.2]; exact hk2) HK.out (.inr (by rw [HM.out.2]; omega)), HM.out.1, HM.out.2]
        go_wp2
        go_ret
        exact ⟨by rw [HF.out]; first | rfl | (simp; done), _, by first | rfl | rw [World.drewN_drewN]⟩
    · have HF : Hid (lexL (a.data.toList.map N) (b.data.toList.map N) = decide (a.size < b.size)) := by
        show lexL _ _ = _
        rw [lexL_end k _ _ (by rw [HM.out.1]; exact hk1) (by rw [HM.out.2]; exact hk2) HK.out (.inl (by rw [HM.out.1]; omega)), HM.out.1, HM.out.2]
      go_wp2
      go_ret
      exact ⟨by rw [HF.out]; first | rfl | (simp; done), _, by first | rfl | rw [World.drewN_drewN]⟩

theorem ahead_any (a b : ByteArray) (w : World) (ha : a.size ≤ 9223372036854775807) (hb : b.size ≤ 9223372036854775807) :
    Calls Tryd.prog 26 #[.string a, .string b] w fun e w' => e = .returned (.bool (lessB a b)) ∧ ∃ n, w' = w.drewN n := by
  have h := Ahead_any a b w ha hb
  rw [← less_lex] at h
  exact h
end Go.Proofs.YtjhjejjnkpbphaaDoor

/- What makes a list a dictionary: plain mathematics over rows. -/
namespace Go.Proofs.YtjhjejjnkpbphaaDoor
open Go.RowKit Nums Pm
set_option maxRecDepth 100000

def oneOk (x : Pr) : Bool := wordB x.1.data.toList && (decide (1 ≤ x.2) && decide (x.2 ≤ 1048576))
def rightFrom (p : Option Pr) : List Pr → Bool
  | [] => true
  | x :: r => oneOk x && (prevOk p x && rightFrom (some x) r)
/-- Is it a dictionary? -/
def rightP (l : List Pr) : Bool := decide (l.length ≤ 4096) && rightFrom none l
theorem right_long {l : List Pr} (h : ¬ l.length ≤ 4096) : rightP l = false := by simp [rightP, h]
theorem right_start {l : List Pr} (h : l.length ≤ 4096) : rightP l = rightFrom (prevAt l 0) (l.drop 0) := by simp [rightP, h, prevAt]
theorem right_bad {l : List Pr} {k : Nat} {x : Pr} (hx : l[k]? = some x) (h : oneOk x = false) : rightFrom (prevAt l k) (l.drop k) = false := by rw [drop_at l k x hx, rightFrom, h]; rfl
theorem right_low {l : List Pr} {k : Nat} {x y : Pr} (hx : l[k + 1]? = some x) (hy : l[k]? = some y) (h : lessB y.1 x.1 = false) : rightFrom (prevAt l (k + 1)) (l.drop (k + 1)) = false := by
  rw [drop_at l (k + 1) x hx, rightFrom, prevAt, hy, prevOk, h]
  simp
theorem right_step0 {l : List Pr} {x : Pr} (hx : l[0]? = some x) (h : oneOk x = true) : rightFrom (prevAt l 0) (l.drop 0) = rightFrom (prevAt l 1) (l.drop 1) := by
  rw [drop_at l 0 x hx, rightFrom, h, prevAt, prevAt, prevOk, hx]
  rfl
theorem right_step {l : List Pr} {k : Nat} {x y : Pr} (hx : l[k + 1]? = some x) (hy : l[k]? = some y) (h : oneOk x = true) (h2 : lessB y.1 x.1 = true) : rightFrom (prevAt l (k + 1)) (l.drop (k + 1)) = rightFrom (prevAt l (k + 1 + 1)) (l.drop (k + 1 + 1)) := by
  rw [drop_at l (k + 1) x hx, rightFrom, h, prevAt, prevAt, hy, prevOk, hx, h2]
  rfl
theorem right_end {l : List Pr} {k : Nat} (h : l.length ≤ k) : rightFrom (prevAt l k) (l.drop k) = true := by rw [List.drop_eq_nil_of_le h]; rfl
theorem one_wordP {x : Pr} (h : wordB x.1.data.toList = false) : oneOk x = false := by simp [oneOk, h]
theorem one_lowP {x : Pr} (h : x.2 < 1) : oneOk x = false := by simp [oneOk]; intro _ h2; omega
theorem one_highP {x : Pr} (h : 1048576 < x.2) : oneOk x = false := by simp [oneOk]; omega
theorem one_okP {x : Pr} (h : wordB x.1.data.toList = true) (h1 : ¬ x.2 < 1) (h2 : ¬ 1048576 < x.2) : oneOk x = true := by simp [oneOk, h]; omega
end Go.Proofs.YtjhjejjnkpbphaaDoor

/- The law's own 'alive': it is true. -/
namespace Go.Proofs.YtjhjejjnkpbphaaDoor
open Go.RowKit Nums
set_option maxRecDepth 100000

/-- What is owned can be read. -/
theorem Made.row {B : Nat} {w : World} {v : Value} {xs : List Int} (h : Made B w v xs) : Row w v xs := by
  obtain ⟨hl, hn | ⟨g, cap, cur, rfl, hb, hg, h1, h2, h3, h4⟩⟩ := h
  · obtain ⟨rfl, h0⟩ := hn
    refine ⟨none, 0, by rw [h0], fun h => by omega⟩
  · refine ⟨_, _, rfl, fun _ => ⟨g, 0, rfl, fun i hi => ?_⟩⟩
    have hc : cur[i]? = some (.int .i32 (xs.getD i 0)) := by
      have e : (cur.toList.take (xs.length * 1))[i]? = (xs.map (Value.int .i32))[i]? := by rw [h4]
      rw [List.getElem?_take, if_pos (by omega)] at e
      rw [← Array.getElem?_toList, e, List.getElem?_map, List.getElem?_eq_getElem hi]
      simp [List.getD_eq_getElem?_getD, List.getElem?_eq_getElem hi]
    simp only [World.cell?, hg, Nat.zero_add]
    simpa using hc
/-- What could be read can be read still. -/
theorem Row.below {w w' : World} {v : Value} {xs : List Int} (h : Row w v xs) (hb : Below w.heap.size w w') : Row w' v xs := by
  obtain ⟨ao, cap, rfl, hc⟩ := h
  refine ⟨ao, cap, rfl, fun h0 => ?_⟩
  obtain ⟨b, off, rfl, hd⟩ := hc h0
  exact ⟨b, off, rfl, fun i hi => (hb.cell (p := ⟨b, off + i, none⟩) (lt_of_cell (hd i hi))).trans (hd i hi)⟩
/-- A row of one new number. -/
theorem row_one (w : World) (r : Int) : Row (w.alloc (Obj.cells #[Value.int .i32 r] 21)) (.slice (some ⟨w.heap.size, 0, none⟩) 1 1) [r] := by
  refine ⟨_, _, rfl, fun _ => ⟨w.heap.size, 0, rfl, fun i hi => ?_⟩⟩
  simp at hi
  subst hi
  simp

theorem rs_ae : rs [97, 195, 169] = some [97, 233] := by decide +kernel
theorem text_euro : allR [8364] = true ∧ textS [8364] = ⟨#[226, 130, 172]⟩ := by decide +kernel
theorem word_x : wordB [120] = true := by decide +kernel

end Go.Proofs.YtjhjejjnkpbphaaDoor

/- What the reference reckons, in plain numbers. No program is named here. -/
namespace Go.Proofs.YtjhjejjnkpbphaaDoor.Nums

/-- The number that so many bytes would say. -/
def sd (l : List UInt8) (n : Nat) : Int :=
  if n = 1 then bt l 0 else if n = 2 then bt l 0 % 32 * 64 + bt l 1 % 64
  else if n = 3 then (bt l 0 % 16 * 64 + bt l 1 % 64) * 64 + bt l 2 % 64
  else ((bt l 0 % 8 * 64 + bt l 1 % 64) * 64 + bt l 2 % 64) * 64 + bt l 3 % 64
theorem sd1 (l : List UInt8) : sd l 1 = bt l 0 := rfl
theorem sd2 (l : List UInt8) : sd l 2 = bt l 0 % 32 * 64 + bt l 1 % 64 := rfl
theorem sd3 (l : List UInt8) : sd l 3 = (bt l 0 % 16 * 64 + bt l 1 % 64) * 64 + bt l 2 % 64 := rfl
theorem sd4 (l : List UInt8) : sd l 4 = ((bt l 0 % 8 * 64 + bt l 1 % 64) * 64 + bt l 2 % 64) * 64 + bt l 3 % 64 := rfl

theorem rd_zero {l : List UInt8} (h : (rd l).2 = 0) : rd l = (0, 0) := by
  revert h
  unfold rd
  by_cases c1 : bt l 0 < 128
  · rw [if_pos c1]; intro h; cases h
  rw [if_neg c1]
  split
  · intro h; cases h
  split
  · intro h; cases h
  split
  · intro h; cases h
  intro _; rfl
theorem rd_said {l : List UInt8} (h : (rd l).2 ≠ 0) : (rd l).1 = sd l (rd l).2 := by
  have c0 := bt_bd l 0
  revert h
  unfold rd
  by_cases c1 : bt l 0 < 128
  · rw [if_pos c1]; intro _; exact (sd1 l).symm
  rw [if_neg c1]
  split
  · rename_i c; intro _
    show acc 192 l 2 = sd l 2
    rw [acc2, sd2]; omega
  split
  · rename_i c; intro _
    show acc 224 l 3 = sd l 3
    rw [acc3, sd3]; omega
  split
  · rename_i c; intro _
    show acc 240 l 4 = sd l 4
    rw [acc4, sd4]; omega
  intro h; exact absurd rfl h

/-- The reference's test at n holds just where 'rd' tells n bytes. -/
theorem first_yes {l : List UInt8} {n : Nat} (hn : n ≤ l.length) (hr : isR (sd l n) = true) (hw : wr (sd l n) = l.take n) : rd l = (sd l n, n) := by
  have h := rd_wr hr (l.drop n)
  rw [hw, List.take_append_drop] at h
  rw [h]
  have : (wr (sd l n)).length = (l.take n).length := by rw [hw]
  rw [wr_len, List.length_take] at this
  rw [this, Nat.min_eq_left hn]
theorem first_no {l : List UInt8} (hl : l ≠ []) {n : Nat} (h1 : 1 ≤ n) (h : ¬ (isR (sd l n) = true ∧ wr (sd l n) = l.take n)) : (rd l).2 ≠ n := by
  intro e
  have h0 : (rd l).2 ≠ 0 := by omega
  have hs := rd_said h0
  rw [e] at hs
  obtain ⟨hr, hlen, hb⟩ := rd_back hl (r := sd l n) (n := n) (Prod.ext hs e) (by omega)
  refine h ⟨hr, ?_⟩
  have e2 : l.take n = (wr (sd l n) ++ l.drop n).take n := congrArg (List.take n) hb
  rw [e2, List.take_append_of_le_length (by rw [wr_len]; omega), List.take_of_length_le (by rw [wr_len]; omega)]
theorem sd_bd (l : List UInt8) (n : Nat) : 0 ≤ sd l n ∧ sd l n < 2097152 := by
  have c0 := bt_bd l 0
  unfold sd
  by_cases h1 : n = 1
  · rw [if_pos h1]; omega
  rw [if_neg h1]
  by_cases h2 : n = 2
  · rw [if_pos h2]; omega
  rw [if_neg h2]
  by_cases h3 : n = 3
  · rw [if_pos h3]; omega
  rw [if_neg h3]; omega
end Go.Proofs.YtjhjejjnkpbphaaDoor.Nums

/- The reference's own small functions: what each of them returns. -/
namespace Go.Proofs.YtjhjejjnkpbphaaDoor
open Go.RowKit Nums
set_option maxRecDepth 100000
attribute [local go_sem ↓] Go.wp_at_zero Go.wp_at_succ

set_option maxHeartbeats 400000 in
theorem Rune_any (r : Int) (w : World) : Calls Tryd.prog 104 #[.int .i64 r] w fun e w' => e = .returned (.bool (isR r)) ∧ w' = w := by
  by_cases h0 : 0 ≤ r
  · by_cases h1 : r ≤ 1114111
    · by_cases h2 : r < 55296
      · go_enter Tryd.func104, Tryd.ntmps104
        go_wp2
        go_ret
        exact ⟨ret_bool (by first | (rw [isR_of (by omega)]) | (rw [isR_not (by omega)])), rfl⟩
      · by_cases h3 : 57343 < r
        all_goals
          go_enter Tryd.func104, Tryd.ntmps104
          go_wp2
          go_ret
          exact ⟨ret_bool (by first | (rw [isR_of (by omega)]) | (rw [isR_not (by omega)])), rfl⟩
    · go_enter Tryd.func104, Tryd.ntmps104
      go_wp2
      go_ret
      exact ⟨ret_bool (by first | (rw [isR_of (by omega)]) | (rw [isR_not (by omega)])), rfl⟩
  · go_enter Tryd.func104, Tryd.ntmps104
    go_wp2
    go_ret
    exact ⟨ret_bool (by first | (rw [isR_of (by omega)]) | (rw [isR_not (by omega)])), rfl⟩

theorem conv_new (w : World) (xs : List Int) (n : Nat) (hn : xs.length = n) :
    (convert 26 9 (.slice (some ⟨w.heap.size, 0, none⟩) n n)).run Tryd.prog (w.alloc (.cells (xs.map (Value.int .u8)).toArray 5)) = .ok (.string (strOfNums xs)) (w.alloc (.cells (xs.map (Value.int .u8)).toArray 5)) := by
  refine run_convert_bytes_arg _ 26 5 Tryd.underlying26 Tryd.underlying5 w.heap.size 0 n n xs hn (fun i hi => ?_) 9 Tryd.underlying9
  rw [Nat.zero_add, World.cell?_alloc_new]
  subst hn
  simp [List.getD_eq_getElem?_getD, List.getElem?_eq_getElem hi]

set_option maxHeartbeats 1000000 in
theorem Write_any (r : Int) (w : World) (hr : isR r = true) : Calls Tryd.prog 105 #[.int .i64 r] w fun e w' => e = .returned (.string (strOfNums (wrI r))) ∧ Below w.heap.size w w' := by
  have hbd := isR_bd hr
  clear hr
  by_cases a : r < 128
  · have h := conv_new w [r] 1 rfl
    simp only [List.map] at h
    have HW : Hid (wrI r = [r]) := wrI1 a
    go_enter Tryd.func105, Tryd.ntmps105
    go_wp2
    go_ret
    exact ⟨by rw [HW.out]; rfl, (Below.refl _ _).alloc (Nat.le_refl _) _⟩
  by_cases b : r < 2048
  · have h := conv_new w [192 + r / 64, 128 + r % 64] 2 rfl
    simp only [List.map] at h
    have HW : Hid (wrI r = [192 + r / 64, 128 + r % 64]) := wrI2 (by omega) b
    go_enter Tryd.func105, Tryd.ntmps105
    go_wp2
    go_ret
    exact ⟨by rw [HW.out]; rfl, (Below.refl _ _).alloc (Nat.le_refl _) _⟩
  by_cases c : r < 65536
  · have h := conv_new w [224 + r / 4096, 128 + r / 64 % 64, 128 + r % 64] 3 rfl
    simp only [List.map] at h
    have HW : Hid (wrI r = [224 + r / 4096, 128 + r / 64 % 64, 128 + r % 64]) := by
      show wrI r = _
      rw [wrI3 (by omega) c, show r / 64 / 64 = r / 4096 by omega]
    go_enter Tryd.func105, Tryd.ntmps105
    go_wp2
    go_ret
    exact ⟨by rw [HW.out]; rfl, (Below.refl _ _).alloc (Nat.le_refl _) _⟩
  · have h := conv_new w [240 + r / 262144, 128 + r / 4096 % 64, 128 + r / 64 % 64, 128 + r % 64] 4 rfl
    simp only [List.map] at h
    have HW : Hid (wrI r = [240 + r / 262144, 128 + r / 4096 % 64, 128 + r / 64 % 64, 128 + r % 64]) := by
      show wrI r = _
      rw [wrI4 (by omega), show r / 64 / 64 / 64 = r / 262144 by omega, show r / 64 / 64 = r / 4096 by omega]
    go_enter Tryd.func105, Tryd.ntmps105
    go_wp2
    go_ret
    exact ⟨by rw [HW.out]; rfl, (Below.refl _ _).alloc (Nat.le_refl _) _⟩

theorem byte_bd (s : ByteArray) (i : Nat) (h : i < s.size) : ((s[i]'h).toNat : Int) < 256 := by have := (s[i]'h).toNat_lt; omega

set_option maxHeartbeats 1000000 in
theorem said_any (s : ByteArray) (n : Nat) (w : World) (h1 : 1 ≤ n) (h4 : n ≤ 4) (hn : n ≤ s.size) (hm : s.size ≤ 9223372036854775807) :
    Calls Tryd.prog 106 #[.string s, .int .i64 n] w fun e w' => e = .returned (.int .i64 (sd s.data.toList n)) ∧ w' = w := by
  have HB : Hid (∀ i (h : i < s.size), ((s[i]'h).toNat : Int) = bt s.data.toList i) := bt_get s
  obtain rfl | rfl | rfl | rfl : n = 1 ∨ n = 2 ∨ n = 3 ∨ n = 4 := by omega
  · have q0 := byte_bd s 0 (by omega)
    go_enter Tryd.func106, Tryd.ntmps106
    go_wp2
    go_ret
    exact ⟨ret_int (by rw [sd1, HB.out 0 (by omega)]), rfl⟩
  · have q0 := byte_bd s 0 (by omega)
    have q1 := byte_bd s 1 (by omega)
    go_enter Tryd.func106, Tryd.ntmps106
    go_wp2
    refine wp_loop_rounds 2 ?_
    rw [rounds_succ]
    go_wp2
    rw [rounds_succ]
    go_wp2
    go_ret
    exact ⟨ret_int (by rw [sd2, HB.out 0 (by omega), HB.out 1 (by omega)]), rfl⟩
  · have q0 := byte_bd s 0 (by omega)
    have q1 := byte_bd s 1 (by omega)
    have q2 := byte_bd s 2 (by omega)
    go_enter Tryd.func106, Tryd.ntmps106
    go_wp2
    refine wp_loop_rounds 3 ?_
    rw [rounds_succ]
    go_wp2
    rw [rounds_succ]
    go_wp2
    rw [rounds_succ]
    go_wp2
    go_ret
    exact ⟨ret_int (by rw [sd3, HB.out 0 (by omega), HB.out 1 (by omega), HB.out 2 (by omega)]), rfl⟩
  · have q0 := byte_bd s 0 (by omega)
    have q1 := byte_bd s 1 (by omega)
    have q2 := byte_bd s 2 (by omega)
    have q3 := byte_bd s 3 (by omega)
    go_enter Tryd.func106, Tryd.ntmps106
    go_wp2
    refine wp_loop_rounds 4 ?_
    rw [rounds_succ]
    go_wp2
    rw [rounds_succ]
    go_wp2
    rw [rounds_succ]
    go_wp2
    rw [rounds_succ]
    go_wp2
    go_ret
    exact ⟨ret_int (by rw [sd4, HB.out 0 (by omega), HB.out 1 (by omega), HB.out 2 (by omega), HB.out 3 (by omega)]), rfl⟩
end Go.Proofs.YtjhjejjnkpbphaaDoor

/- The reference's First: the rune with whose writing a text begins. -/
namespace Go.Proofs.YtjhjejjnkpbphaaDoor
open Go.RowKit Nums
set_option maxRecDepth 100000
attribute [local go_sem ↓] Go.wp_at_zero Go.wp_at_succ

theorem wr_toList (r : Int) : (strOfNums (wrI r)).toList = wr r := by
  rw [ByteArray.toList_eq, strOfNums_data]; rfl
theorem ext_toList (s : ByteArray) (n : Nat) : (s.extract 0 n).toList = s.data.toList.take n := by
  rw [ByteArray.toList_eq]; simp [ByteArray.extract, ByteArray.copySlice]

theorem Rune_is (r : Int) (w : World) {b : Bool} (h : isR r = b) : Calls Tryd.prog 104 #[.int .i64 r] w fun e w' => e = .returned (.bool b) ∧ w' = w := by
  rw [← h]; exact Rune_any r w

set_option maxHeartbeats 2000000 in
theorem First_any (s : ByteArray) (w : World) (h0 : 0 < s.size) (hm : s.size ≤ 9223372036854775807) :
    Calls Tryd.prog 85 #[.string s] w fun e w' => e = .returned (.tuple #[.int .i64 (rd s.data.toList).1, .int .i64 (rd s.data.toList).2]) ∧ Below w.heap.size w w' := by
  have HNE : Hid (s.data.toList ≠ []) := ne_of_size h0
  have HBD : Hid ((rd s.data.toList).2 ≤ s.data.toList.length ∧ (rd s.data.toList).2 ≤ 4) := rd_bd HNE.out
  go_enter Tryd.func85, Tryd.ntmps85
  go_wp2
  go_loopw [4] (fun i wr => ∃ k : Nat, 1 ≤ k ∧ k ≤ 5 ∧ i = .int .i64 k ∧ (∀ j, 1 ≤ j → j < k → (rd s.data.toList).2 ≠ j) ∧ Below w.heap.size w wr) (fun i _ => 5 - (intOf i).toNat)
  case atStart => exact ⟨1, by omega, by omega, rfl, fun j a b => by omega, Below.refl _ _⟩
  case round =>
    obtain ⟨k, hk1, hk5, rfl, hno, hbel⟩ := hrel
    have HNO : Hid (∀ j, 1 ≤ j → j < k → (rd s.data.toList).2 ≠ j) := hno
    clear hno
    by_cases hk : k ≤ 4 ∧ k ≤ s.size
    · obtain ⟨hk4, hks⟩ := hk
      have hsb := sd_bd s.data.toList k
      generalize hx : sd s.data.toList k = x at *
      have HX : Hid (sd s.data.toList k = x) := hx
      clear hx
      cases hr : isR x
      · have HR : Hid (isR x = false) := hr
        clear hr
        have HF : Hid (∀ j, 1 ≤ j → j < k + 1 → (rd s.data.toList).2 ≠ j) := fun j a b => by
          by_cases e : j = k
          · subst e; exact first_no HNE.out hk1 (fun h => by have h2 := h.1; rw [HX.out, HR.out] at h2; cases h2)
          · exact HNO.out j a (by omega)
        go_wp2_with (go_at_call 106; refine (said_any s k _ hk1 hk4 hks hm).mono ?_; rintro e w' ⟨rfl, rfl⟩; rw [HX.out])
        go_quiet ((go_at_call 104; exact Calls.quiet_of_same (Rune_is _ _ HR.out)))
        go_wp2
        go_roundw
        case rel => exact ⟨k + 1, by omega, by omega, by go_num, HF.out, below_drewN hbel _⟩
        case measure => simp [intOf]; omega
      · have HR : Hid (isR x = true) := hr
        clear hr
        have h1k : (k : Int) ≤ (s.size : Int) := by omega
        have h1k' : (0 : Int) ≤ (k : Int) := by omega
        by_cases hw : Nums.wr x = s.data.toList.take k
        · have HW : Hid (Nums.wr x = s.data.toList.take k) := hw
          have hq : ((strOfNums (wrI x)).toList == (s.extract 0 k).toList) = true := by rw [wr_toList, ext_toList, hw]; simp
          clear hw
          have HF : Hid (rd s.data.toList = (x, k)) := by
            have := first_yes (l := s.data.toList) (n := k) (by rw [size_length]; exact hks) (by rw [HX.out]; exact HR.out) (by rw [HX.out]; exact HW.out)
            rw [HX.out] at this; exact this
          go_wp2_with (go_at_call 106; refine (said_any s k _ hk1 hk4 hks hm).mono ?_; rintro e w' ⟨rfl, rfl⟩; rw [HX.out])
          go_region_held3 (fun _ => True) (trivial) (first | (go_at_call 104; refine (Rune_is _ _ HR.out).mono ?_; rintro e w' ⟨rfl, rfl⟩) | (go_at_call 105; refine (Write_any _ _ HR.out).mono ?_; rintro e w3 ⟨rfl, hb3⟩))
          all_goals go_wp2
          all_goals go_ret2
          refine ⟨?_, ?_⟩
          · rw [HF.out]; rfl
          · exact hbel.drew.trans (hb3.mono hbel.size)
        · have hq : ((strOfNums (wrI x)).toList == (s.extract 0 k).toList) = false := by rw [wr_toList, ext_toList]; simpa using hw
          have HW : Hid (¬ Nums.wr x = s.data.toList.take k) := hw
          clear hw
          have HF : Hid (∀ j, 1 ≤ j → j < k + 1 → (rd s.data.toList).2 ≠ j) := fun j a b => by
            by_cases e : j = k
            · subst e; exact first_no HNE.out hk1 (fun h => by have h2 := h.2; rw [HX.out] at h2; exact HW.out h2)
            · exact HNO.out j a (by omega)
          go_wp2_with (go_at_call 106; refine (said_any s k _ hk1 hk4 hks hm).mono ?_; rintro e w' ⟨rfl, rfl⟩; rw [HX.out])
          go_region_held3 (fun _ => True) (trivial) (first | (go_at_call 104; refine (Rune_is _ _ HR.out).mono ?_; rintro e w' ⟨rfl, rfl⟩) | (go_at_call 105; refine (Write_any _ _ HR.out).mono ?_; rintro e w3 ⟨rfl, hb3⟩))
          all_goals go_wp2
          go_roundw
          case rel => exact ⟨k + 1, by omega, by omega, by go_num, HF.out, hbel.drew.trans (hb3.mono hbel.size)⟩
          case measure => simp [intOf]; omega
    · have HZ : Hid (rd s.data.toList = (0, 0)) := by
        refine rd_zero ?_
        by_cases z : (rd s.data.toList).2 = 0
        · exact z
        · have h2 := HBD.out
          rw [size_length] at h2
          exact absurd rfl (HNO.out (rd s.data.toList).2 (by omega) (by omega))
      by_cases hk4 : k ≤ 4
      · have hks : ¬ k ≤ s.size := fun h => hk ⟨hk4, h⟩
        clear hk
        go_wp2
        go_ret2
        refine ⟨?_, hbel⟩
        rw [HZ.out]; rfl
      · clear hk
        go_wp2
        go_ret2
        refine ⟨?_, hbel⟩
        rw [HZ.out]; rfl
end Go.Proofs.YtjhjejjnkpbphaaDoor

/- The reference's Runes: the same runes, in new memory, or none. -/
namespace Go.Proofs.YtjhjejjnkpbphaaDoor
open Go.RowKit Nums
set_option maxRecDepth 100000

set_option maxHeartbeats 2000000 in
theorem RefRunes_any (s : ByteArray) (w : World) (hm : s.size ≤ 9223372036854775807) (hroom : Room s.data.toList) :
    Calls Tryd.prog 53 #[.string s] w fun e w' => ∃ v, Below w.heap.size w w' ∧
      ((rs s.data.toList = none ∧ v = .slice none 0 0 ∧ e = .returned (.tuple #[v, .bool false])) ∨
       ∃ xs, rs s.data.toList = some xs ∧ e = .returned (.tuple #[v, .bool true]) ∧ Made w.heap.size w' v xs) := by
  obtain ⟨i0, hi, hz0, hz1, hz2⟩ := info_parts infoRune
  go_enter Tryd.func53, Tryd.ntmps53
  go_wp2
  go_loopw [0, 4] (fun t v wr => ∃ (m : ByteArray) (pre : List Int), t = .string m ∧ m.size + pre.length ≤ s.size ∧ Made w.heap.size wr v pre ∧ Remains s.data.toList m.data.toList pre ∧ Below w.heap.size w wr)
    (fun t _ _ => lenOf t)
  case atStart => exact ⟨s, [], rfl, by simp, World.ownsRow_nil _ _ _ _, left_start _, Below.refl _ _⟩
  case round =>
    obtain ⟨m, pre, rfl, hms, hown, hL, hbel⟩ := hrel
    have HL : Hid (Remains s.data.toList m.data.toList pre) := hL
    clear hL
    by_cases h0 : 0 < m.size
    · have hne := ne_of_size h0
      have hbd := rd_bd hne
      rw [size_length] at hbd
      have HNE : Hid (m.data.toList ≠ []) := hne
      clear hne
      generalize hr : rd m.data.toList = q at hbd
      obtain ⟨r, n⟩ := q
      have HR : Hid (rd m.data.toList = (r, n)) := hr
      clear hr
      simp only at hbd
      by_cases hn : n = 0
      · subst hn
        have HF : Hid (rs s.data.toList = none) := left_none HL.out HNE.out (by rw [HR.out])
        go_wp2_with (go_at_call 85; refine (First_any _ _ h0 (by omega)).mono ?_; rintro e w2 ⟨rfl, hb2⟩; rw [HR.out])
        go_ret2
        exact ⟨_, hbel.trans (hb2.mono hbel.size), .inl ⟨HF.out, rfl, rfl⟩⟩
      have hrb : 0 ≤ r ∧ r < 1114112 := by
        have h2 := rd_isR (l := m.data.toList) (by rw [HR.out]; exact hn)
        rw [HR.out] at h2; exact isR_bd h2
      have hn0 : ((n : Int) == 0) = false := beq_eq_false_iff_ne.2 (by omega)
      have hrm : pre.length + 1 ≤ 35184372088832 := hroom m.data.toList pre HL.out (by rw [size_length, size_length]; exact hms) HNE.out (by rw [HR.out]; exact hn)
      go_wp2_with (first
        | (go_at_call 85; refine (First_any _ _ h0 (by omega)).mono ?_; rintro e w2 ⟨rfl, hb2⟩; rw [HR.out])
        | (at_builtin; refine wpList_append_own _ rfl _ _ 98 rfl w.heap.size 21 i0 (.int .i32 0) 1 4 Tryd.underlying98 hi hz0 hz1 hz2 rfl (by decide) _ _ _ rfl (World.ownsRow.alloc (hown.below hb2) _) ⟨w2.heap.size, 0, none⟩ 1 1 [.int .i32 r] rfl rfl ?c1 ?c2 ?c3 ?c4 ?c5 ?_))
      case c1 =>
        intro j u hj
        match j, hj with
        | 0, hj => simp at hj; subst hj; exact cell_new w2 r
      case c2 => intro u hu; simp at hu; subst hu; rfl
      case c3 => unfold maxLen; omega
      case c4 => omega
      case c5 => have := hbel.size; have := hb2.size; simp; omega
      intro v' w1 hown' hgrow _
      have hown2 : Made w.heap.size w1 v' (pre ++ [r]) := by unfold Made; simpa using hown'
      have hbw : Below w.heap.size w w2 := hbel.trans (hb2.mono hbel.size)
      have hb1 : Below w.heap.size w w1 := (hbw.alloc hbw.size _).grown hgrow (by have := hbw.size; simp; omega) (fun k hk => (World.ownsRow.lt hown k hk).1)
      clear hown' hgrow hown
      go_wp2
      go_roundw
      case rel => exact ⟨m.extract n m.size, pre ++ [r], rfl, by rw [extract_size]; simp; omega, hown2, rest_go HL.out HNE.out HR.out hn, hb1⟩
      case measure => simp only [lenOf]; rw [extract_size]; omega
    · have HN : Hid (m.data.toList = []) := nil_of_size h0
      have HF : Hid (rs s.data.toList = some pre) := left_end (by have := HL.out; rw [HN.out] at this; exact this)
      go_wp2
      go_ret2
      exact ⟨_, hbel, .inr ⟨pre, HF.out, rfl, hown⟩⟩
end Go.Proofs.YtjhjejjnkpbphaaDoor

/- The reference's Word: it tells just the words that 'wordB' tells. -/
namespace Go.Proofs.YtjhjejjnkpbphaaDoor
open Go.RowKit Nums
set_option maxRecDepth 100000

set_option maxHeartbeats 2000000 in
theorem RefWord_any (s : ByteArray) (w : World) (hm : s.size ≤ 9223372036854775807) :
    Calls Tryd.prog 25 #[.string s] w fun e w' => e = .returned (.bool (wordB s.data.toList)) ∧ Below w.heap.size w w' := by
  by_cases hs : 96 < s.size
  · have HF : Hid (wordB s.data.toList = false) := word_far (by rw [size_length]; exact hs)
    go_enter Tryd.func25, Tryd.ntmps25
    go_wp2
    go_ret
    exact ⟨by rw [HF.out]; rfl, Below.refl _ _⟩
  have HROOM : Hid (Room s.data.toList) := room_of_length (by rw [size_length]; omega)
  go_enter Tryd.func25, Tryd.ntmps25
  go_wp2_with fail
  refine (RefRunes_any s _ hm HROOM.out).mono ?_
  rintro e w1 ⟨v1, hb1, ⟨hr, rfl, rfl⟩ | ⟨xs, hr, rfl, hmade⟩⟩
  · have HF : Hid (wordB s.data.toList = false) := by show wordB _ = _; unfold wordB; rw [hr]
    clear hr
    go_wp2
    refine wp_loop_rounds 1 ?_
    rw [rounds_succ]
    go_wp2
    go_ret
    exact ⟨by rw [HF.out]; rfl, hb1⟩
  have HR : Hid (rs s.data.toList = some xs) := hr
  have hlen := (rs_len hr).2
  rw [size_length] at hlen
  clear hr
  obtain ⟨ao, cap, rfl, hc⟩ := hmade.row
  have HC : Hid (0 < xs.length → ∃ b off, ao = some ⟨b, off, none⟩ ∧ ∀ i, i < xs.length → w1.cell? ⟨b, off + i, none⟩ = some (.int .i32 (xs.getD i 0))) := hc
  clear hc hmade
  go_wp2
  go_loop [5] (fun i => ∃ k : Nat, k ≤ xs.length ∧ i = .int .i64 k ∧ (xs.take k).all vis = true) (fun i => xs.length - (intOf i).toNat)
  case atStart => exact ⟨0, Nat.zero_le _, rfl, rfl⟩
  case round =>
    obtain ⟨k, hk, rfl, hall⟩ := hrel
    have HA : Hid ((xs.take k).all vis = true) := hall
    clear hall
    by_cases hlt : k < xs.length
    · obtain ⟨b, off, rfl, hc⟩ := HC.out (by omega)
      have hck := hc k hlt
      clear hc HC
      generalize hx : xs.getD k 0 = x at *
      have HX : Hid (xs.getD k 0 = x) := hx
      clear hx
      by_cases h32 : x ≤ 32
      · have HF : Hid (wordB s.data.toList = false) := word_blind HR.out hlt (by rw [HX.out]; simp [vis]; omega)
        go_wp2
        go_ret
        exact ⟨by rw [HF.out]; rfl, hb1⟩
      by_cases h127 : x = 127
      · have HF : Hid (wordB s.data.toList = false) := word_blind HR.out hlt (by rw [HX.out]; simp [vis]; omega)
        have h127' : (x == 127) = true := beq_iff_eq.2 h127
        clear h127
        go_wp2
        go_ret
        exact ⟨by rw [HF.out]; rfl, hb1⟩
      · have h127' : (x == 127) = false := beq_eq_false_iff_ne.2 h127
        have HV : Hid (vis x = true) := by show vis x = true; simp [vis]; omega
        go_wp2
        go_round
        case rel => exact ⟨k + 1, by omega, by go_num, all_next hlt HA.out (by rw [HX.out]; exact HV.out)⟩
        case measure => simp [intOf]; omega
    · obtain rfl : k = xs.length := by omega
      have HF : Hid (wordB s.data.toList = (decide (1 ≤ xs.length) && decide (xs.length ≤ 24))) := word_of HR.out (by have := HA.out; rwa [List.take_length] at this)
      by_cases h1 : 1 ≤ xs.length
      · by_cases h24 : xs.length ≤ 24
        all_goals
          go_wp2
          go_ret
          refine ⟨?_, hb1⟩
          rw [HF.out]
          simp [h1, h24]
          omega
      · go_wp2
        go_ret
        refine ⟨?_, hb1⟩
        rw [HF.out]
        simp [h1]
end Go.Proofs.YtjhjejjnkpbphaaDoor

/- The reference's Right. -/
namespace Go.Proofs.YtjhjejjnkpbphaaDoor
open Go.RowKit Nums Pm
set_option maxRecDepth 100000

set_option maxHeartbeats 4000000 in
theorem refRight_any (w : World) (v : Value) (l : List Pr) (h : PRow w v l) (hl : l.length ≤ 9223372036854775807) (hsm : Sm l) :
    Calls Tryd.prog 9 #[v] w fun e w' => e = .returned (.bool (rightP l)) ∧ Below w.heap.size w w' := by
  obtain ⟨ad, cap, rfl⟩ := h.form
  have HR : Hid (PRow w (.slice ad l.length cap) l) := h
  obtain ⟨n, hn⟩ : ∃ n, l.length = n := ⟨_, rfl⟩
  have HN : Hid (l.length = n) := hn
  have HS : Hid (Sm l) := hsm
  rw [hn] at HR hl
  obtain ⟨F, hF⟩ : ∃ F, rightP l = F := ⟨_, rfl⟩
  have HF : Hid (rightP l = F) := hF
  clear h hsm
  rw [hn, hF]
  clear hn hF
  by_cases hbig : 4096 < n
  · have hbz : (4096 : Int) < (n : Int) := by omega
    have HE : Hid (F = false) := by show _ = _; rw [← HF.out]; exact right_long (by have := HN.out; omega)
    go_enter Tryd.func9, Tryd.ntmps9
    go_wp2
    go_ret
    exact ⟨by rw [HE.out]; rfl, Below.refl _ _⟩
  have hbz : ¬ (4096 : Int) < (n : Int) := by omega
  go_enter Tryd.func9, Tryd.ntmps9
  go_wp2
  go_loopg [3, 4] n (fun g s3 _ wr => ∃ (k : Nat), s3 = .int .i64 k ∧ k ≤ n ∧ n - k ≤ g ∧ Hid (Below w.heap.size w wr) ∧ Hid (rightFrom (prevAt l k) (l.drop k) = F))
  case atStart => exact ⟨0, rfl, Nat.zero_le _, by omega, Below.refl _ _, by show _ = _; rw [← HF.out]; exact (right_start (by have := HN.out; omega)).symm⟩
  case round =>
    obtain ⟨k, rfl, hk, hg, HB, HK⟩ := hrel
    by_cases hlt : k < n
    · have hltz : (k : Int) < (n : Int) := by omega
      obtain ⟨x, hx⟩ : ∃ x, l[k]? = some x := ⟨l[k]'(by have := HN.out; omega), List.getElem?_eq_getElem _⟩
      obtain ⟨b, off, rfl, hb, hcell⟩ := (HR.out.below HB.out).at (by omega)
      obtain ⟨c0, c1⟩ := hcell k x hx
      have HX : Hid (l[k]? = some x) := hx
      have hw := fun (W : World) => RefWord_any x.1 W (HS.out.at hx)
      by_cases hk0 : k = 0
      · have HF2 : Hid (∀ (W : World), Below wr.heap.size wr W → W.cell? ⟨b, off + k * 2, none⟩ = some (.string x.1) ∧ W.cell? ⟨b, off + k * 2 + 1, none⟩ = some (.int .i64 x.2) ∧ True ∧ Hid (Below w.heap.size w W)) := fun W e => ⟨(e.cell (p := ⟨b, off + k * 2, none⟩) hb).trans c0, (e.cell (p := ⟨b, off + k * 2 + 1, none⟩) hb).trans c1, trivial, HB.out.trans (e.mono HB.out.size)⟩
        have hgd : decide (0 < k) = false := decide_eq_false (by omega)
        have hk0z : ¬ (0 : Int) < (k : Int) := by omega
        cases hwd : wordB x.1.data.toList
        · have HE : Hid (F = false) := by show _ = _; rw [← HK.out]; exact right_bad hx (one_wordP hwd)
          rw [hwd] at hw
          clear hcell hx hwd hk0
          go_wp2_with (go_at_call 25; refine (hw _).mono ?_; rintro e w2 ⟨rfl, hq⟩; obtain ⟨q0, q1, q2, HBq⟩ := HF2.out _ hq; clear hq)
          go_ret
          exact ⟨by rw [HE.out]; rfl, HBq.out⟩
        · rw [hwd] at hw
          by_cases hlo : x.2 < 1
          · have HE : Hid (F = false) := by show _ = _; rw [← HK.out]; exact right_bad hx (one_lowP hlo)
            clear hcell hx hwd hk0
            go_wp2_with (go_at_call 25; refine (hw _).mono ?_; rintro e w2 ⟨rfl, hq⟩; obtain ⟨q0, q1, q2, HBq⟩ := HF2.out _ hq; clear hq)
            go_ret
            exact ⟨by rw [HE.out]; rfl, HBq.out⟩
          · by_cases hhi : 1048576 < x.2
            · have HE : Hid (F = false) := by show _ = _; rw [← HK.out]; exact right_bad hx (one_highP hhi)
              clear hcell hx hwd hk0
              go_wp2_with (go_at_call 25; refine (hw _).mono ?_; rintro e w2 ⟨rfl, hq⟩; obtain ⟨q0, q1, q2, HBq⟩ := HF2.out _ hq; clear hq)
              go_ret
              exact ⟨by rw [HE.out]; rfl, HBq.out⟩
            · have HK2 : Hid (rightFrom (prevAt l (k + 1)) (l.drop (k + 1)) = F) := by show _ = _; rw [← HK.out]; subst hk0; exact (right_step0 HX.out (one_okP hwd hlo hhi)).symm
              clear hcell hx hwd hk0
              go_wp2_with (go_at_call 25; refine (hw _).mono ?_; rintro e w2 ⟨rfl, hq⟩; obtain ⟨q0, q1, q2, HBq⟩ := HF2.out _ hq; clear hq)
              go_quiet (fail)
              go_wp2
              have HB2 : Hid (Below w.heap.size w _) := belowN HBq.out nq
              go_roundg (n - (k + 1))
              case measure => omega
              case rel => exact ⟨k + 1, by go_num, by omega, Nat.le_refl _, HB2, HK2⟩
      · obtain ⟨kp, hkp⟩ : ∃ kp, kp + 1 = k := ⟨k - 1, by omega⟩
        have hk0z : (0 : Int) < (k : Int) := by omega
        have hgd : decide (0 < k) = true := decide_eq_true (by omega)
        have ekp : (k : Int) - 1 = (kp : Int) := by omega
        obtain ⟨y, hy⟩ : ∃ y, l[kp]? = some y := ⟨l[kp]'(by have := HN.out; omega), List.getElem?_eq_getElem _⟩
        obtain ⟨d0, d1⟩ := hcell kp y hy
        have rkp : IntKind.i64.wrap (kp : Int) = (kp : Int) := by rw [IntKind.wrap_i64]; omega
        have pkp : (0 : Int) ≤ (kp : Int) := by omega
        have bkp : (kp : Int) < (n : Int) := by omega
        have tkp : (kp : Int).toNat = kp := by omega
        have pk : (0 : Int) ≤ (k : Int) := by omega
        have tk : (k : Int).toNat = k := by omega
        have hls := fun W => ahead_any y.1 x.1 W (HS.out.at hy) (HS.out.at hx)
        have HF2 : Hid (∀ (W : World), Below wr.heap.size wr W → W.cell? ⟨b, off + k * 2, none⟩ = some (.string x.1) ∧ W.cell? ⟨b, off + k * 2 + 1, none⟩ = some (.int .i64 x.2) ∧ W.cell? ⟨b, off + kp * 2, none⟩ = some (.string y.1) ∧ Hid (Below w.heap.size w W)) := fun W e => ⟨(e.cell (p := ⟨b, off + k * 2, none⟩) hb).trans c0, (e.cell (p := ⟨b, off + k * 2 + 1, none⟩) hb).trans c1, (e.cell (p := ⟨b, off + kp * 2, none⟩) hb).trans d0, HB.out.trans (e.mono HB.out.size)⟩
        cases hwd : wordB x.1.data.toList
        · have HE : Hid (F = false) := by show _ = _; rw [← HK.out]; exact right_bad hx (one_wordP hwd)
          rw [hwd] at hw
          clear hcell hx hwd hk0 hkp hy
          go_wp2_with (go_at_call 25; refine (hw _).mono ?_; rintro e w2 ⟨rfl, hq⟩; obtain ⟨q0, q1, q2, HBq⟩ := HF2.out _ hq; clear hq)
          go_ret
          exact ⟨by rw [HE.out]; rfl, HBq.out⟩
        · rw [hwd] at hw
          by_cases hlo : x.2 < 1
          · have HE : Hid (F = false) := by show _ = _; rw [← HK.out]; exact right_bad hx (one_lowP hlo)
            clear hcell hx hwd hk0 hkp hy
            go_wp2_with (go_at_call 25; refine (hw _).mono ?_; rintro e w2 ⟨rfl, hq⟩; obtain ⟨q0, q1, q2, HBq⟩ := HF2.out _ hq; clear hq)
            go_ret
            exact ⟨by rw [HE.out]; rfl, HBq.out⟩
          · by_cases hhi : 1048576 < x.2
            · have HE : Hid (F = false) := by show _ = _; rw [← HK.out]; exact right_bad hx (one_highP hhi)
              clear hcell hx hwd hk0 hkp hy
              go_wp2_with (go_at_call 25; refine (hw _).mono ?_; rintro e w2 ⟨rfl, hq⟩; obtain ⟨q0, q1, q2, HBq⟩ := HF2.out _ hq; clear hq)
              go_ret
              exact ⟨by rw [HE.out]; rfl, HBq.out⟩
            · have HOK : Hid (oneOk x = true) := one_okP hwd hlo hhi
              cases hyx : lessB y.1 x.1
              · have HE : Hid (F = false) := by show _ = _; rw [← HK.out, ← hkp]; exact right_low (by rw [hkp]; exact HX.out) hy hyx
                rw [hyx] at hls
                clear hcell hx hkp hy hyx hk0 hwd
                go_wp2_with (go_at_call 25; refine (hw _).mono ?_; rintro e w2 ⟨rfl, hq⟩; obtain ⟨q0, q1, q2, HBq⟩ := HF2.out _ hq; clear hq)
                go_quiet (first | (go_at_call 26; refine Calls.quiet_of (hls _)))
                go_wp2
                go_ret
                exact ⟨by rw [HE.out]; rfl, belowN HBq.out nq⟩
              · have HK2 : Hid (rightFrom (prevAt l (k + 1)) (l.drop (k + 1)) = F) := by show _ = _; rw [← HK.out, ← hkp]; exact (right_step (by rw [hkp]; exact HX.out) hy HOK.out hyx).symm
                rw [hyx] at hls
                clear hcell hx hkp hy hyx hk0 hwd
                go_wp2_with (go_at_call 25; refine (hw _).mono ?_; rintro e w2 ⟨rfl, hq⟩; obtain ⟨q0, q1, q2, HBq⟩ := HF2.out _ hq; clear hq)
                go_quiet (first | (go_at_call 26; refine Calls.quiet_of (hls _)))
                go_wp2
                have HB2 : Hid (Below w.heap.size w _) := belowN HBq.out nq
                go_roundg (n - (k + 1))
                case measure => omega
                case rel => exact ⟨k + 1, by go_num, by omega, Nat.le_refl _, HB2, HK2⟩
    · have hltz : ¬ (k : Int) < (n : Int) := by omega
      have HE : Hid (F = true) := by show _ = _; rw [← HK.out]; exact right_end (by have := HN.out; omega)
      go_wp2
      go_ret
      exact ⟨by rw [HE.out]; rfl, HB.out⟩
end Go.Proofs.YtjhjejjnkpbphaaDoor
