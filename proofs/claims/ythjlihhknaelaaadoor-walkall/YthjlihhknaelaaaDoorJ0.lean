/- Texts that were written apart, joined. -/
import Derived.WalkKit
import Derived.Test.YthjlihhknaelaaaDoorRows
import Derived.ProofKit
import Derived.OpenShut
import Derived.Test.YthjlihhknaelaaaDoorCards
import Derived.Test.YthjlihhknaelaaaDoorTie
import Derived.Deep.DeepHandedRow
import Derived.Lib.LaidTab
import Derived.Deep.QuietTactic
import Derived.BigQuiet
/- Plain numbers and bytes: what a rune's writing is, how it is read. No program is named here. -/
namespace Go.Proofs.YthjlihhknaelaaaDoor.Nums

def isR (r : Int) : Bool := decide (0 ≤ r ∧ r < 1114112 ∧ (r < 55296 ∨ 57343 < r))
def vis (r : Int) : Bool := decide (32 < r ∧ r ≠ 127)
def ldSz (b : Int) : Int := if b < 128 then 1 else if b < 192 then 0 else if b < 224 then 2 else if b < 240 then 3 else if b < 248 then 4 else 0
def sz (r : Int) : Int := if r < 128 then 1 else if r < 2048 then 2 else if r < 65536 then 3 else 4
theorem ret_int {k : IntKind} {a b : Int} (h : a = b) : Ending.returned (.int k a) = .returned (.int k b) := by rw [h]
theorem ret_bool {a b : Bool} (h : a = b) : Ending.returned (.bool a) = .returned (.bool b) := by rw [h]
theorem isR_of {r : Int} (h : 0 ≤ r ∧ r < 1114112 ∧ (r < 55296 ∨ 57343 < r)) : isR r = true := by simp only [isR, decide_eq_true_eq]; exact h
theorem isR_not {r : Int} (h : ¬ (0 ≤ r ∧ r < 1114112 ∧ (r < 55296 ∨ 57343 < r))) : isR r = false := by simp only [isR, decide_eq_false_iff_not]; exact h

/-- The byte at a place of a text, as a number; 0 behind its end. -/
def bt (l : List UInt8) (i : Nat) : Int := ((l.getD i 0).toNat : Int)
theorem bt_bd (l : List UInt8) (i : Nat) : 0 ≤ bt l i ∧ bt l i < 256 := by
  unfold bt; have := (l.getD i 0).toNat_lt; omega
theorem bt_get (s : ByteArray) (i : Nat) (h : i < s.size) : ((s[i]'h).toNat : Int) = bt s.data.toList i := by
  have h' : i < s.data.toList.length := by simpa using h
  unfold bt
  rw [List.getD_eq_getElem?_getD, List.getElem?_eq_getElem h']
  rfl
theorem size_length (s : ByteArray) : s.data.toList.length = s.size := by rw [Array.length_toList]; rfl

/-- The number that the first k bytes say, the first counted from ld. -/
def acc (ld : Int) (l : List UInt8) : Nat → Int
  | 0 => 0
  | 1 => bt l 0 - ld
  | k + 2 => acc ld l (k + 1) * 64 + (bt l (k + 1) - 128)
/-- Bytes 1 to k - 1 each go on with a writing. -/
def tails (l : List UInt8) (k : Nat) : Prop := ∀ j, 1 ≤ j → j < k → 128 ≤ bt l j ∧ bt l j < 192
theorem acc1 (ld : Int) (l : List UInt8) : acc ld l 1 = bt l 0 - ld := rfl
theorem acc2 (ld : Int) (l : List UInt8) : acc ld l 2 = (bt l 0 - ld) * 64 + (bt l 1 - 128) := rfl
theorem acc3 (ld : Int) (l : List UInt8) : acc ld l 3 = ((bt l 0 - ld) * 64 + (bt l 1 - 128)) * 64 + (bt l 2 - 128) := rfl
theorem acc4 (ld : Int) (l : List UInt8) : acc ld l 4 = (((bt l 0 - ld) * 64 + (bt l 1 - 128)) * 64 + (bt l 2 - 128)) * 64 + (bt l 3 - 128) := rfl
theorem acc_next (ld : Int) (l : List UInt8) {k : Nat} (h : 1 ≤ k) : acc ld l (k + 1) = acc ld l k * 64 + (bt l k - 128) := by
  cases k with
  | zero => omega
  | succ k => rfl
theorem acc_bd {ld : Int} {l : List UInt8} (h : 0 ≤ bt l 0 - ld ∧ bt l 0 - ld < 32) (k : Nat) (hk : k ≤ 4) (ht : tails l k) : 0 ≤ acc ld l k ∧ acc ld l k < 8388608 := by
  obtain rfl | rfl | rfl | rfl | rfl : k = 0 ∨ k = 1 ∨ k = 2 ∨ k = 3 ∨ k = 4 := by omega
  · simp [acc]
  · rw [acc1]; omega
  · have t1 := ht 1 (by omega) (by omega)
    rw [acc2]; omega
  · have t1 := ht 1 (by omega) (by omega)
    have t2 := ht 2 (by omega) (by omega)
    rw [acc3]; omega
  · have t1 := ht 1 (by omega) (by omega)
    have t2 := ht 2 (by omega) (by omega)
    have t3 := ht 3 (by omega) (by omega)
    rw [acc4]; omega
theorem acc_small {ld : Int} {l : List UInt8} (h : 0 ≤ bt l 0 - ld ∧ bt l 0 - ld < 32) (k : Nat) (hk : k < 4) (ht : tails l k) : 0 ≤ acc ld l k ∧ acc ld l k < 131072 := by
  obtain rfl | rfl | rfl | rfl : k = 0 ∨ k = 1 ∨ k = 2 ∨ k = 3 := by omega
  · simp [acc]
  · rw [acc1]; omega
  · have t1 := ht 1 (by omega) (by omega)
    rw [acc2]; omega
  · have t1 := ht 1 (by omega) (by omega)
    have t2 := ht 2 (by omega) (by omega)
    rw [acc3]; omega
def low (n : Nat) : Int := if n = 2 then 128 else if n = 3 then 2048 else 65536
def ldOf (n : Nat) : Int := if n = 2 then 192 else if n = 3 then 224 else 240
theorem ldOf_bd (n : Nat) : 192 ≤ ldOf n ∧ ldOf n ≤ 240 := by
  by_cases h2 : n = 2
  · simp [ldOf, h2]
  · by_cases h3 : n = 3
    · simp [ldOf, h3]
    · simp [ldOf, h2, h3]
theorem lead_bd {b : Int} {n : Nat} (h2 : 2 ≤ n) (h4 : n ≤ 4) (hl : ldSz b = n) : ldOf n ≤ b ∧ b - ldOf n < 32 := by
  obtain rfl | rfl | rfl : n = 2 ∨ n = 3 ∨ n = 4 := by omega
  · show (192 : Int) ≤ b ∧ b - 192 < 32
    unfold ldSz at hl; revert hl; repeat' split
    all_goals (intro hl; omega)
  · show (224 : Int) ≤ b ∧ b - 224 < 32
    unfold ldSz at hl; revert hl; repeat' split
    all_goals (intro hl; omega)
  · show (240 : Int) ≤ b ∧ b - 240 < 32
    unfold ldSz at hl; revert hl; repeat' split
    all_goals (intro hl; omega)
/-- The rune with whose writing a text begins, and how many bytes that has; 0 bytes: there is none. -/
def rd (l : List UInt8) : Int × Nat :=
  if bt l 0 < 128 then (bt l 0, 1)
  else if 192 ≤ bt l 0 ∧ bt l 0 < 224 ∧ 2 ≤ l.length ∧ (128 ≤ bt l 1 ∧ bt l 1 < 192) ∧ 128 ≤ acc 192 l 2 ∧ isR (acc 192 l 2) = true then (acc 192 l 2, 2)
  else if 224 ≤ bt l 0 ∧ bt l 0 < 240 ∧ 3 ≤ l.length ∧ (128 ≤ bt l 1 ∧ bt l 1 < 192) ∧ (128 ≤ bt l 2 ∧ bt l 2 < 192) ∧ 2048 ≤ acc 224 l 3 ∧ isR (acc 224 l 3) = true then (acc 224 l 3, 3)
  else if 240 ≤ bt l 0 ∧ bt l 0 < 248 ∧ 4 ≤ l.length ∧ (128 ≤ bt l 1 ∧ bt l 1 < 192) ∧ (128 ≤ bt l 2 ∧ bt l 2 < 192) ∧ (128 ≤ bt l 3 ∧ bt l 3 < 192) ∧ 65536 ≤ acc 240 l 4 ∧ isR (acc 240 l 4) = true then (acc 240 l 4, 4)
  else (0, 0)

theorem rd_one {l : List UInt8} (h : bt l 0 < 128) : rd l = (bt l 0, 1) := by unfold rd; rw [if_pos h]
theorem rd_none {l : List UInt8} (h : 128 ≤ bt l 0) (h2 : bt l 0 < 192 ∨ 248 ≤ bt l 0) : rd l = (0, 0) := by
  unfold rd
  rw [if_neg (by omega), if_neg (by omega), if_neg (by omega), if_neg (by omega)]
theorem rd_yes {l : List UInt8} {n : Nat} (h2 : 2 ≤ n) (h4 : n ≤ 4) (hl : ldSz (bt l 0) = n) (hn : n ≤ l.length) (ht : tails l n) (hlow : low n ≤ acc (ldOf n) l n) (hr : isR (acc (ldOf n) l n) = true) :
    rd l = (acc (ldOf n) l n, n) := by
  obtain rfl | rfl | rfl : n = 2 ∨ n = 3 ∨ n = 4 := by omega
  · have t1 := ht 1 (by omega) (by omega)
    have hb : 192 ≤ bt l 0 ∧ bt l 0 < 224 := by unfold ldSz at hl; revert hl; repeat' split
                                                all_goals (intro hl; omega)
    unfold rd
    rw [if_neg (by omega), if_pos ⟨hb.1, hb.2, hn, t1, hlow, hr⟩]
    rfl
  · have t1 := ht 1 (by omega) (by omega)
    have t2 := ht 2 (by omega) (by omega)
    have hb : 224 ≤ bt l 0 ∧ bt l 0 < 240 := by unfold ldSz at hl; revert hl; repeat' split
                                                all_goals (intro hl; omega)
    unfold rd
    rw [if_neg (by omega), if_neg (by omega), if_pos ⟨hb.1, hb.2, hn, t1, t2, hlow, hr⟩]
    rfl
  · have t1 := ht 1 (by omega) (by omega)
    have t2 := ht 2 (by omega) (by omega)
    have t3 := ht 3 (by omega) (by omega)
    have hb : 240 ≤ bt l 0 ∧ bt l 0 < 248 := by unfold ldSz at hl; revert hl; repeat' split
                                                all_goals (intro hl; omega)
    unfold rd
    rw [if_neg (by omega), if_neg (by omega), if_neg (by omega), if_pos ⟨hb.1, hb.2, hn, t1, t2, t3, hlow, hr⟩]
    rfl
theorem rd_no {l : List UInt8} {n : Nat} (h2 : 2 ≤ n) (h4 : n ≤ 4) (hl : ldSz (bt l 0) = n) (hno : ¬ (n ≤ l.length ∧ tails l n ∧ low n ≤ acc (ldOf n) l n ∧ isR (acc (ldOf n) l n) = true)) : rd l = (0, 0) := by
  obtain rfl | rfl | rfl : n = 2 ∨ n = 3 ∨ n = 4 := by omega
  · have hb : 192 ≤ bt l 0 ∧ bt l 0 < 224 := by unfold ldSz at hl; revert hl; repeat' split
                                                all_goals (intro hl; omega)
    unfold rd
    rw [if_neg (by omega), if_neg, if_neg (by omega), if_neg (by omega)]
    rintro ⟨_, _, hn, t1, hlow, hr⟩
    exact hno ⟨hn, fun j a b => by obtain rfl : j = 1 := by omega
                                   exact t1, hlow, hr⟩
  · have hb : 224 ≤ bt l 0 ∧ bt l 0 < 240 := by unfold ldSz at hl; revert hl; repeat' split
                                                all_goals (intro hl; omega)
    unfold rd
    rw [if_neg (by omega), if_neg (by omega), if_neg, if_neg (by omega)]
    rintro ⟨_, _, hn, t1, t2, hlow, hr⟩
    exact hno ⟨hn, fun j a b => by obtain rfl | rfl : j = 1 ∨ j = 2 := by omega
                                   · exact t1
                                   · exact t2, hlow, hr⟩
  · have hb : 240 ≤ bt l 0 ∧ bt l 0 < 248 := by unfold ldSz at hl; revert hl; repeat' split
                                                all_goals (intro hl; omega)
    unfold rd
    rw [if_neg (by omega), if_neg (by omega), if_neg (by omega), if_neg]
    rintro ⟨_, _, hn, t1, t2, t3, hlow, hr⟩
    exact hno ⟨hn, fun j a b => by obtain rfl | rfl | rfl : j = 1 ∨ j = 2 ∨ j = 3 := by omega
                                   · exact t1
                                   · exact t2
                                   · exact t3, hlow, hr⟩
theorem tails_succ {l : List UInt8} {k : Nat} (h : tails l k) (hk : 128 ≤ bt l k ∧ bt l k < 192) : tails l (k + 1) := by
  intro j h1 h2
  by_cases e : j = k
  · subst e; exact hk
  · exact h j h1 (by omega)
theorem tails_one (l : List UInt8) : tails l 1 := fun j h1 h2 => by omega
theorem tails_not {l : List UInt8} {k n : Nat} (h1 : 1 ≤ k) (hk : k < n) (h : bt l k < 128 ∨ 192 ≤ bt l k) : ¬ tails l n := fun t => by
  have := t k h1 hk; omega
theorem ret_two {k1 k2 : IntKind} {a b c d : Int} (h : a = c) (h' : b = d) : Ending.returned (.tuple #[.int k1 a, .int k2 b]) = .returned (.tuple #[.int k1 c, .int k2 d]) := by rw [h, h']

/-- The bytes of a rune's writing, as numbers. -/
def wrI (r : Int) : List Int :=
  if r < 128 then [r] else if r < 2048 then [192 + r / 64, 128 + r % 64]
  else if r < 65536 then [224 + r / 64 / 64, 128 + r / 64 % 64, 128 + r % 64]
  else [240 + r / 64 / 64 / 64, 128 + r / 64 / 64 % 64, 128 + r / 64 % 64, 128 + r % 64]
theorem wrI1 {r : Int} (h : r < 128) : wrI r = [r] := by unfold wrI; rw [if_pos h]
theorem wrI2 {r : Int} (h0 : 128 ≤ r) (h : r < 2048) : wrI r = [192 + r / 64, 128 + r % 64] := by unfold wrI; rw [if_neg (by omega), if_pos h]
theorem wrI3 {r : Int} (h0 : 2048 ≤ r) (h : r < 65536) : wrI r = [224 + r / 64 / 64, 128 + r / 64 % 64, 128 + r % 64] := by unfold wrI; rw [if_neg (by omega), if_neg (by omega), if_pos h]
theorem wrI4 {r : Int} (h0 : 65536 ≤ r) : wrI r = [240 + r / 64 / 64 / 64, 128 + r / 64 / 64 % 64, 128 + r / 64 % 64, 128 + r % 64] := by unfold wrI; rw [if_neg (by omega), if_neg (by omega), if_neg (by omega)]
theorem wrI_len (r : Int) : 1 ≤ (wrI r).length ∧ (wrI r).length ≤ 4 := by
  unfold wrI; repeat' split
  all_goals simp
theorem sz1 {r : Int} (_ : 0 ≤ r) (h : r < 128) : sz r = 1 := by unfold sz; rw [if_pos h]
theorem sz2 {r : Int} (h0 : 128 ≤ r) (h : r < 2048) : sz r = 2 := by unfold sz; rw [if_neg (by omega), if_pos h]
theorem sz3 {r : Int} (h0 : 2048 ≤ r) (h : r < 65536) : sz r = 3 := by unfold sz; rw [if_neg (by omega), if_neg (by omega), if_pos h]
theorem sz4 {r : Int} (h0 : 65536 ≤ r) (_ : r < 1114112) : sz r = 4 := by unfold sz; rw [if_neg (by omega), if_neg (by omega), if_neg (by omega)]
end Go.Proofs.YthjlihhknaelaaaDoor.Nums

/- The small functions of letters and of its reference: what each of them returns. -/
namespace Go.Proofs.YthjlihhknaelaaaDoor
open Go.RowKit Nums

set_option maxHeartbeats 400000 in
theorem isRune_any (r : Int) (w : World) : Calls Tryd.prog 66 #[.int .i32 r] w fun e w' => e = .returned (.bool (isR r)) ∧ w' = w := by
  by_cases h0 : 0 ≤ r
  · by_cases h1 : r < 1114112
    · by_cases h2 : r < 55296
      · go_enter Tryd.func66, Tryd.ntmps66
        go_wp2
        go_ret
        exact ⟨ret_bool (by first | (rw [isR_of (by omega)]) | (rw [isR_not (by omega)])), rfl⟩
      · by_cases h3 : 57343 < r
        all_goals
          go_enter Tryd.func66, Tryd.ntmps66
          go_wp2
          go_ret
          exact ⟨ret_bool (by first | (rw [isR_of (by omega)]) | (rw [isR_not (by omega)])), rfl⟩
    · go_enter Tryd.func66, Tryd.ntmps66
      go_wp2
      go_ret
      exact ⟨ret_bool (by first | (rw [isR_of (by omega)]) | (rw [isR_not (by omega)])), rfl⟩
  · go_enter Tryd.func66, Tryd.ntmps66
    go_wp2
    go_ret
    exact ⟨ret_bool (by first | (rw [isR_of (by omega)]) | (rw [isR_not (by omega)])), rfl⟩

theorem inWord_any (r : Int) (w : World) : Calls Tryd.prog 49 #[.int .i32 r] w fun e w' => e = .returned (.bool (vis r)) ∧ w' = w := by
  by_cases h0 : 32 < r
  all_goals
    go_enter Tryd.func49, Tryd.ntmps49
    go_wp2
    go_ret
    exact ⟨ret_bool (by rw [Bool.eq_iff_iff]; simp [vis]; try omega), rfl⟩

theorem leadSize_any (b : Int) (w : World) : Calls Tryd.prog 65 #[.int .u8 b] w fun e w' => e = .returned (.int .i64 (ldSz b)) ∧ w' = w := by
  by_cases h0 : b < 128
  · go_enter Tryd.func65, Tryd.ntmps65
    go_wp2
    go_ret
    exact ⟨ret_int (by unfold ldSz; repeat' split; all_goals omega), rfl⟩
  by_cases h1 : b < 192
  · go_enter Tryd.func65, Tryd.ntmps65
    go_wp2
    go_ret
    exact ⟨ret_int (by unfold ldSz; repeat' split; all_goals omega), rfl⟩
  by_cases h2 : b < 224
  · go_enter Tryd.func65, Tryd.ntmps65
    go_wp2
    go_ret
    exact ⟨ret_int (by unfold ldSz; repeat' split; all_goals omega), rfl⟩
  by_cases h3 : b < 240
  · go_enter Tryd.func65, Tryd.ntmps65
    go_wp2
    go_ret
    exact ⟨ret_int (by unfold ldSz; repeat' split; all_goals omega), rfl⟩
  by_cases h4 : b < 248
  · go_enter Tryd.func65, Tryd.ntmps65
    go_wp2
    go_ret
    exact ⟨ret_int (by unfold ldSz; repeat' split; all_goals omega), rfl⟩
  · go_enter Tryd.func65, Tryd.ntmps65
    go_wp2
    go_ret
    exact ⟨ret_int (by unfold ldSz; repeat' split; all_goals omega), rfl⟩

/-- The two tables lie in memory as the program's text lays them. -/
def Tabs (w : World) : Prop :=
  w.cell? ⟨0, 2, none⟩ = some (.int .u8 192) ∧ w.cell? ⟨0, 3, none⟩ = some (.int .u8 224) ∧ w.cell? ⟨0, 4, none⟩ = some (.int .u8 240) ∧
  w.cell? ⟨0, 1, none⟩ = some (.int .u8 0) ∧
  w.cell? ⟨1, 1, none⟩ = some (.int .i32 0) ∧ w.cell? ⟨1, 2, none⟩ = some (.int .i32 128) ∧ w.cell? ⟨1, 3, none⟩ = some (.int .i32 2048) ∧ w.cell? ⟨1, 4, none⟩ = some (.int .i32 65536)
end Go.Proofs.YthjlihhknaelaaaDoor

/- What every law of this seat shares: the tables out of the row's list, and a world for the witness. -/
namespace Go.Proofs.YthjlihhknaelaaaDoor
open Go.ChangeShapes Go.WideShapes Go.ChangeAt Go.RowKit

theorem own : ownKnob Tryd.prog.godebug = none := by kernel_rfl
theorem gLeast : Tryd.prog.globalNamed "abecedary/letters.least" = some 1 := by kernel_rfl
theorem gLead : Tryd.prog.globalNamed "abecedary/letters.lead" = some 0 := by kernel_rfl
theorem gLeastType : (Tryd.prog.globals[1]?).map (·.type) = some 104 := by kernel_rfl
theorem gLeadType : (Tryd.prog.globals[0]?).map (·.type) = some 103 := by kernel_rfl
theorem cellsLeast : Tryd.prog.cellsOf 104 = 5 := by kernel_rfl
theorem cellsLead : Tryd.prog.cellsOf 103 = 5 := by kernel_rfl
theorem cellsRuneF : Tryd.prog.cellsOf 21 = 1 := by kernel_rfl
theorem cellsByte : Tryd.prog.cellsOf 5 = 1 := by kernel_rfl

/-- What the rows' list is. -/
abbrev laidBoth : List (String × DataW Unit) := [("abecedary/letters.least", Rows.laid_abecedary_letters_least), ("abecedary/letters.lead", Rows.laid_abecedary_letters_lead)]

theorem tabs_of_laid {W : World} (h : laidMetH Tryd.prog laidBoth W) : Tabs W := by
  have t : Lib.TabIs Tryd.prog W "abecedary/letters.least" .i32 [0, 0, 128, 2048, 65536] :=
    Lib.tabIs_of_head (rest := [("abecedary/letters.lead", Rows.laid_abecedary_letters_lead)]) gLeast gLeastType Tryd.underlying104 Tryd.underlying21 cellsRuneF cellsLeast h
  have h2 : laidMetH Tryd.prog [("abecedary/letters.lead", Rows.laid_abecedary_letters_lead)] W := laidMetH.filter (fun x => x.1 == "abecedary/letters.lead") h
  have l : Lib.TabIs Tryd.prog W "abecedary/letters.lead" .u8 [0, 0, 192, 224, 240] :=
    Lib.tabIs_of_head (rest := []) gLead gLeadType Tryd.underlying103 Tryd.underlying5 cellsByte cellsLead h2
  exact ⟨l.cell gLead 2 (by decide), l.cell gLead 3 (by decide), l.cell gLead 4 (by decide), l.cell gLead 1 (by decide),
    t.cell gLeast 1 (by decide), t.cell gLeast 2 (by decide), t.cell gLeast 3 (by decide), t.cell gLeast 4 (by decide)⟩

def layLeast : Obj → Obj
  | .cells _ t frozen => .cells #[.int .i32 0, .int .i32 0, .int .i32 128, .int .i32 2048, .int .i32 65536] t frozen
  | o => o
def layLead : Obj → Obj
  | .cells _ t frozen => .cells #[.int .u8 0, .int .u8 0, .int .u8 192, .int .u8 224, .int .u8 240] t frozen
  | o => o
/-- A world for the witness: the settled one, the tables holding what their initialisers lay. -/
noncomputable def laidWorld (os : Os) : World :=
  { World.holding Tryd.prog os ⟨#[], #[], []⟩ with heap := ((World.holding Tryd.prog os ⟨#[], #[], []⟩).heap.modify 1 layLeast).modify 0 layLead }
end Go.Proofs.YthjlihhknaelaaaDoor

/- Machines as plain data: states, the way in which they are made. No program is named here. -/
namespace Go.Proofs.YthjlihhknaelaaaDoor.Fm

structure Arc where
  label : Int
  out : Int
  to : Nat
deriving DecidableEq
structure St where
  final : Bool
  out : Int
  arcs : List Arc
deriving DecidableEq
/-- A word as runes, with its weight. -/
abbrev En := List Int × Int

def leastF (m : Int) : List En → Int
  | [] => m
  | e :: r => leastF (if e.2 < m then e.2 else m) r
def least : List En → Int
  | [] => 0
  | e :: r => leastF e.2 (e :: r)
def hd (e : En) : Int := e.1.headD 0
def tl (e : En) : En := (e.1.tail, e.2)
/-- How many, from the first on, begin with c. -/
def lead (c : Int) : List En → Nat
  | [] => 0
  | e :: r => if hd e = c then lead c r + 1 else 0
/-- By first runes. -/
def grp : List En → List (Int × List En)
  | [] => []
  | e :: r => match grp r with
    | [] => [(hd e, [tl e])]
    | (c, G) :: gs => if hd e = c then (c, tl e :: G) :: gs else (hd e, [tl e]) :: (c, G) :: gs
def finOf : List En → Bool
  | ([], _) :: _ => true
  | _ => false
def restOf : List En → List En
  | ([], _) :: r => r
  | S => S
def outOf (S : List En) : Int := match S with
  | ([], n) :: _ => n - least S
  | _ => 0
def numSt (b : List St) (s : St) : List St × Nat := if s ∈ b then (b, b.idxOf s) else (b ++ [s], b.length)
def arF (st : List St → List En → List St × Nat) (base : Int) : List St → List (Int × List En) → List St × List Arc
  | b, [] => (b, [])
  | b, (c, G) :: r => ((arF st base (st b G).1 r).1, ⟨c, least G - base, (st b G).2⟩ :: (arF st base (st b G).1 r).2)
def stF : Nat → List St → List En → List St × Nat
  | 0, b, _ => (b, 0)
  | f + 1, b, S => numSt (arF (stF f) (least S) b (grp (restOf S))).1 ⟨finOf S, outOf S, (arF (stF f) (least S) b (grp (restOf S))).2⟩
/-- What is left behind the first k runes. -/
def cut (k : Nat) (l : List En) : List En := l.map fun e => (e.1.drop k, e.2)
/-- How much there is. -/
def bulk (l : List En) : Nat := (l.map fun e => e.1.length + 1).sum

theorem cut_zero (l : List En) : cut 0 l = l := by simp [cut]
theorem cut_cons (k : Nat) (e : En) (l : List En) : cut k (e :: l) = (e.1.drop k, e.2) :: cut k l := rfl
theorem cut_len (k : Nat) (l : List En) : (cut k l).length = l.length := by simp [cut]
theorem cut_take (k n : Nat) (l : List En) : cut k (l.take n) = (cut k l).take n := by simp [cut, List.map_take]
theorem cut_drop (k n : Nat) (l : List En) : cut k (l.drop n) = (cut k l).drop n := by simp [cut, List.map_drop]
theorem cut_tl (k : Nat) (l : List En) : cut (k + 1) l = (cut k l).map tl := by
  simp only [cut, List.map_map]
  refine List.map_congr_left fun e _ => ?_
  simp [tl, List.tail_drop]
theorem leastF_cut (k : Nat) : ∀ (l : List En) (m : Int), leastF m (cut k l) = leastF m l
  | [], _ => rfl
  | e :: r, m => by rw [cut_cons, leastF, leastF, leastF_cut k r]
theorem least_cut (k : Nat) (l : List En) : least (cut k l) = least l := by
  cases l with
  | nil => rfl
  | cons e r => rw [cut_cons, least, least, ← cut_cons, leastF_cut]
theorem lead_le (c : Int) : ∀ l : List En, lead c l ≤ l.length
  | [] => Nat.le_refl _
  | e :: r => by
    rw [lead]
    split
    · simp [lead_le c r]
    · simp
theorem grp_cons (e : En) (r : List En) : grp (e :: r) = (hd e, ((e :: r).take (lead (hd e) r + 1)).map tl) :: grp ((e :: r).drop (lead (hd e) r + 1)) := by
  induction r generalizing e with
  | nil => rfl
  | cons e' r ih =>
    rw [grp, ih e']
    simp only
    by_cases h : hd e = hd e'
    · rw [if_pos h, lead, if_pos h.symm]
      simp [h]
    · rw [if_neg h, lead, if_neg (fun e => h e.symm)]
      show _ = (hd e, [tl e]) :: grp (e' :: r)
      rw [ih e']
theorem leastF_le : ∀ (l : List En) (m : Int), leastF m l ≤ m
  | [], _ => Int.le_refl _
  | e :: r, m => by
    rw [leastF]
    have := leastF_le r (if e.2 < m then e.2 else m)
    by_cases h : e.2 < m
    · rw [if_pos h] at this ⊢; omega
    · rw [if_neg h] at this ⊢; omega
theorem leastF_mem : ∀ (l : List En) (m : Int), leastF m l = m ∨ ∃ e ∈ l, e.2 = leastF m l
  | [], _ => .inl rfl
  | e :: r, m => by
    rw [leastF]
    rcases leastF_mem r (if e.2 < m then e.2 else m) with h | ⟨x, hx, h⟩
    · split at h
      · rename_i hlt
        rw [if_pos hlt]
        exact .inr ⟨e, by simp, h.symm⟩
      · rename_i hlt
        rw [if_neg hlt]
        exact .inl h
    · exact .inr ⟨x, by simp [hx], h⟩
theorem leastF_all : ∀ (l : List En) (m : Int), ∀ e ∈ l, leastF m l ≤ e.2
  | x :: r, m, e, h => by
    rw [leastF]
    rcases List.mem_cons.1 h with rfl | h
    · have := leastF_le r (if e.2 < m then e.2 else m)
      by_cases h : e.2 < m
      · rw [if_pos h] at this ⊢; omega
      · rw [if_neg h] at this ⊢; omega
    · exact leastF_all r _ e h
theorem least_all {l : List En} {e : En} (h : e ∈ l) : least l ≤ e.2 := by
  cases l with
  | nil => cases h
  | cons x r => exact leastF_all _ _ e h
theorem least_mem {l : List En} (h : l ≠ []) : ∃ e ∈ l, e.2 = least l := by
  cases l with
  | nil => exact absurd rfl h
  | cons x r =>
    rcases leastF_mem (x :: r) x.2 with h | h
    · exact ⟨x, by simp, h.symm⟩
    · exact h
end Go.Proofs.YthjlihhknaelaaaDoor.Fm

/- letters.readRune: what it returns of any text that is not empty. -/
namespace Go.Proofs.YthjlihhknaelaaaDoor
open Go.RowKit Nums
set_option maxRecDepth 100000

theorem readRune_none (s : ByteArray) (w : World) (h0 : 0 < s.size) (h1 : ldSz ((s[0]'h0).toNat : Int) = 0) :
    Calls Tryd.prog 48 #[.string s] w fun e w' => e = .returned (.tuple #[.int .i32 0, .int .i64 0]) ∧ ∃ n, w' = w.drewN n := by
  go_enter Tryd.func48, Tryd.ntmps48
  go_wp2_with (go_at_call 65; refine (leadSize_any _ _).mono ?_; rintro e w' ⟨rfl, rfl⟩; rw [h1])
  go_ret2
  exact ⟨rfl, 0, rfl⟩

set_option maxHeartbeats 1000000 in
theorem readRune_short (s : ByteArray) (w : World) (n : Nat) (h0 : 0 < s.size) (hn2 : 2 ≤ n) (hn4 : n ≤ 4) (h1 : ldSz ((s[0]'h0).toNat : Int) = n) (hs : s.size < n) :
    Calls Tryd.prog 48 #[.string s] w fun e w' => e = .returned (.tuple #[.int .i32 0, .int .i64 0]) ∧ ∃ n, w' = w.drewN n := by
  go_enter Tryd.func48, Tryd.ntmps48
  go_wp2_with (go_at_call 65; refine (leadSize_any _ _).mono ?_; rintro e w' ⟨rfl, rfl⟩; rw [h1])
  go_ret2
  exact ⟨rfl, 0, rfl⟩

set_option maxHeartbeats 1000000 in
theorem readRune_ascii (s : ByteArray) (w : World) (ht : Tabs w) (h0 : 0 < s.size) (hm : s.size ≤ 9223372036854775807) (h1 : ((s[0]'h0).toNat : Int) < 128) :
    Calls Tryd.prog 48 #[.string s] w fun e w' => e = .returned (.tuple #[.int .i32 ((s[0]'h0).toNat : Int), .int .i64 1]) ∧ ∃ n, w' = w.drewN n := by
  obtain ⟨c2, c3, c4, c1, t1, t2, t3, t4⟩ := ht
  have hl : ldSz ((s[0]'h0).toNat : Int) = 1 := by unfold ldSz; repeat' split
                                                   all_goals omega
  go_enter Tryd.func48, Tryd.ntmps48
  go_wp2_with (go_at_call 65; refine (leadSize_any _ _).mono ?_; rintro e w' ⟨rfl, rfl⟩; rw [hl])
  go_quiet (fail)
  go_wp2
  refine wp_loop_rounds 1 ?_
  rw [rounds_succ]
  go_wp2_with (go_at_call 66; refine (isRune_any _ _).mono ?_; rintro e w' ⟨rfl, rfl⟩; rw [isR_of (by omega)])
  go_ret2
  exact ⟨rfl, _, rfl⟩

set_option maxHeartbeats 2000000 in
theorem readRune_long (s : ByteArray) (w : World) (ht : Tabs w) (n : Nat) (h0 : 0 < s.size) (hm : s.size ≤ 9223372036854775807) (hn2 : 2 ≤ n) (hn4 : n ≤ 4) (hl : ldSz ((s[0]'h0).toNat : Int) = n) (hs : n ≤ s.size) :
    Calls Tryd.prog 48 #[.string s] w fun e w' => e = .returned (.tuple #[.int .i32 (rd s.data.toList).1, .int .i64 (rd s.data.toList).2]) ∧ ∃ n, w' = w.drewN n := by
  obtain ⟨c2, c3, c4, c1, t1, t2, t3, t4⟩ := ht
  have hb0 : ldOf n ≤ ((s[0]'h0).toNat : Int) ∧ ((s[0]'h0).toNat : Int) - ldOf n < 32 := lead_bd hn2 hn4 hl
  have hcn : w.cell? ⟨0, n, none⟩ = some (.int .u8 (ldOf n)) := by
    obtain rfl | rfl | rfl : n = 2 ∨ n = 3 ∨ n = 4 := by omega
    · exact c2
    · exact c3
    · exact c4
  have htn : w.cell? ⟨1, n, none⟩ = some (.int .i32 (low n)) := by
    obtain rfl | rfl | rfl : n = 2 ∨ n = 3 ∨ n = 4 := by omega
    · exact t2
    · exact t3
    · exact t4
  have hld := ldOf_bd n
  clear c2 c3 c4 c1 t1 t2 t3 t4
  have hn0 : ((n : Int) == 0) = false := beq_eq_false_iff_ne.2 (by omega)
  have hns : decide (s.size < n) = false := by simpa using hs
  have HL : Hid (ldSz ((s[0]'h0).toNat : Int) = n) := hl
  clear hl
  have hbt : ∀ i (h : i < s.size), ((s[i]'h).toNat : Int) = bt s.data.toList i := bt_get s
  have HB : Hid (∀ i (h : i < s.size), ((s[i]'h).toNat : Int) = bt s.data.toList i) := hbt
  clear hbt
  go_enter Tryd.func48, Tryd.ntmps48
  go_wp2_with (go_at_call 65; refine (leadSize_any _ _).mono ?_; rintro e w' ⟨rfl, rfl⟩; rw [HL.out])
  go_quiet (fail)
  go_wp2
  have HA0 : 0 ≤ bt s.data.toList 0 - ldOf n ∧ bt s.data.toList 0 - ldOf n < 32 := by have := HB.out 0 h0; omega
  have HL' : Hid (ldSz (bt s.data.toList 0) = n) := by have e := HL.out; rw [HB.out 0 h0] at e; exact e
  go_loop [5, 6] (fun r i => ∃ k : Nat, 1 ≤ k ∧ k ≤ n ∧ i = .int .i64 k ∧ r = .int .i32 (acc (ldOf n) s.data.toList k) ∧ tails s.data.toList k) (fun _ i => n - (intOf i).toNat)
  case atStart => exact ⟨1, by omega, by omega, rfl, by rw [acc1, HB.out 0 h0], tails_one _⟩
  case round =>
    obtain ⟨k, hk1, hkn, rfl, rfl, htl⟩ := hrel
    have hfail : Hid (∀ k, 1 ≤ k → k < n → (bt s.data.toList k < 128 ∨ 192 ≤ bt s.data.toList k) → rd s.data.toList = (0, 0)) := fun k a b c =>
      rd_no hn2 hn4 HL'.out (fun h => tails_not a b c h.2.1)
    by_cases hlt : k < n
    · have hks : k < s.size := by omega
      have ha := acc_small HA0 k (by omega) htl
      by_cases hA : ((s[k]'hks).toNat : Int) < 128
      · go_wp2
        go_ret2
        refine ⟨?_, _, rfl⟩
        rw [hfail.out k hk1 hlt (by rw [← HB.out k hks]; omega)]
        rfl
      · by_cases hC : 192 ≤ ((s[k]'hks).toNat : Int)
        · go_wp2
          go_ret2
          refine ⟨?_, _, rfl⟩
          rw [hfail.out k hk1 hlt (by rw [← HB.out k hks]; omega)]
          rfl
        · go_wp2
          go_round
          case rel => exact ⟨k + 1, by omega, by omega, by go_num, by rw [acc_next _ _ hk1, ← HB.out k hks], tails_succ htl (by rw [← HB.out k hks]; omega)⟩
          case measure => simp [intOf]; omega
    · obtain rfl : k = n := by omega
      have ha := acc_bd HA0 k hn4 htl
      by_cases hlo : acc (ldOf k) s.data.toList k < low k
      · go_wp2
        go_ret2
        refine ⟨?_, _, rfl⟩
        rw [rd_no hn2 hn4 HL'.out (fun h => by have := h.2.2.1; omega)]
        rfl
      · by_cases hR : isR (acc (ldOf k) s.data.toList k) = true
        · have HR : Hid (isR (acc (ldOf k) s.data.toList k) = true) := hR
          clear hR
          have HF : Hid (rd s.data.toList = (acc (ldOf k) s.data.toList k, k)) := rd_yes hn2 hn4 HL'.out (by rw [size_length]; exact hs) htl (by omega) HR.out
          go_wp2_with (go_at_call 66; refine (isRune_any _ _).mono ?_; rintro e w' ⟨rfl, rfl⟩; rw [HR.out])
          go_ret2
          refine ⟨?_, _, rfl⟩
          rw [HF.out]
          rfl
        · have HR : Hid (isR (acc (ldOf k) s.data.toList k) = false) := (Bool.not_eq_true _).mp hR
          clear hR
          have HF : Hid (rd s.data.toList = (0, 0)) := rd_no hn2 hn4 HL'.out (fun h => by have := h.2.2.2; rw [HR.out] at this; cases this)
          go_wp2_with (go_at_call 66; refine (isRune_any _ _).mono ?_; rintro e w' ⟨rfl, rfl⟩; rw [HR.out])
          go_ret2
          refine ⟨?_, _, rfl⟩
          rw [HF.out]
          rfl

/-- letters.readRune returns what 'rd' tells of the text's bytes; it changes nothing. -/
theorem readRune_any (s : ByteArray) (w : World) (ht : Tabs w) (h0 : 0 < s.size) (hm : s.size ≤ 9223372036854775807) :
    Calls Tryd.prog 48 #[.string s] w fun e w' => e = .returned (.tuple #[.int .i32 (rd s.data.toList).1, .int .i64 (rd s.data.toList).2]) ∧ ∃ n, w' = w.drewN n := by
  have hb := bt_get s 0 h0
  have hbd := bt_bd s.data.toList 0
  by_cases h1 : bt s.data.toList 0 < 128
  · rw [rd_one h1, ← hb]
    exact readRune_ascii s w ht h0 hm (by omega)
  by_cases h2 : bt s.data.toList 0 < 192 ∨ 248 ≤ bt s.data.toList 0
  · rw [rd_none (by omega) h2]
    exact readRune_none s w h0 (by rw [hb]; unfold ldSz; repeat' split
                                   all_goals omega)
  obtain ⟨n, hn2, hn4, hl⟩ : ∃ n : Nat, 2 ≤ n ∧ n ≤ 4 ∧ ldSz (bt s.data.toList 0) = n := by
    by_cases a : bt s.data.toList 0 < 224
    · exact ⟨2, by omega, by omega, by unfold ldSz; repeat' split
                                       all_goals omega⟩
    by_cases b : bt s.data.toList 0 < 240
    · exact ⟨3, by omega, by omega, by unfold ldSz; repeat' split
                                       all_goals omega⟩
    · exact ⟨4, by omega, by omega, by unfold ldSz; repeat' split
                                       all_goals omega⟩
  by_cases hs : n ≤ s.size
  · exact readRune_long s w ht n h0 hm hn2 hn4 (by rw [hb]; exact hl) hs
  · rw [rd_no hn2 hn4 hl (fun h => hs (by have := h.1; rw [size_length] at this; exact this))]
    exact readRune_short s w n h0 hn2 hn4 (by rw [hb]; exact hl) (by omega)
end Go.Proofs.YthjlihhknaelaaaDoor

/- Whole texts: the runes of which a text is the writing. Plain lists; no program is named here. -/
namespace Go.Proofs.YthjlihhknaelaaaDoor.Nums

theorem rd_bd {l : List UInt8} (h : l ≠ []) : (rd l).2 ≤ l.length ∧ (rd l).2 ≤ 4 := by
  have : 1 ≤ l.length := List.length_pos_iff.2 h
  unfold rd
  by_cases c1 : bt l 0 < 128
  · rw [if_pos c1]; simp; omega
  rw [if_neg c1]
  split
  · simp; omega
  split
  · simp; omega
  split
  · simp; omega
  simp
theorem rd_isR {l : List UInt8} (h : (rd l).2 ≠ 0) : isR (rd l).1 = true := by
  revert h
  unfold rd
  by_cases c1 : bt l 0 < 128
  · rw [if_pos c1]; intro _; have := bt_bd l 0; exact isR_of (by omega)
  rw [if_neg c1]
  split
  · rename_i h; intro _; exact h.2.2.2.2.2
  split
  · rename_i h; intro _; exact h.2.2.2.2.2.2
  split
  · rename_i h; intro _; exact h.2.2.2.2.2.2.2
  intro h; exact absurd rfl h

/-- The runes of which a text is the writing, told with fuel. -/
def rsF : Nat → List UInt8 → Option (List Int)
  | 0, l => if l = [] then some [] else none
  | f + 1, l => if l = [] then some [] else if (rd l).2 = 0 then none else (rsF f (l.drop (rd l).2)).map (fun t => (rd l).1 :: t)
def rs (l : List UInt8) : Option (List Int) := rsF l.length l

theorem rsF_fuel : ∀ (f g : Nat) (l : List UInt8), l.length ≤ f → l.length ≤ g → rsF f l = rsF g l := by
  intro f
  induction f with
  | zero =>
    intro g l hf hg
    have e : l = [] := List.length_eq_zero_iff.1 (by omega)
    subst e
    cases g <;> simp [rsF]
  | succ f ih =>
    intro g l hf hg
    by_cases e : l = []
    · subst e; cases g <;> simp [rsF]
    cases g with
    | zero => exact absurd (List.length_eq_zero_iff.1 (by omega)) e
    | succ g =>
      simp only [rsF, if_neg e]
      by_cases z : (rd l).2 = 0
      · rw [if_pos z, if_pos z]
      · rw [if_neg z, if_neg z, ih g (l.drop (rd l).2) (by simp; omega) (by simp; omega)]
theorem rs_nil : rs [] = some [] := by simp [rs, rsF]
theorem rs_none {l : List UInt8} (h : l ≠ []) (z : (rd l).2 = 0) : rs l = none := by
  unfold rs
  cases e : l.length with
  | zero => exact absurd (List.length_eq_zero_iff.1 e) h
  | succ f => simp only [rsF, if_neg h, if_pos z]
theorem rs_cons {l : List UInt8} (h : l ≠ []) (z : (rd l).2 ≠ 0) : rs l = (rs (l.drop (rd l).2)).map (fun t => (rd l).1 :: t) := by
  have hl := rd_bd h
  unfold rs
  cases e : l.length with
  | zero => exact absurd (List.length_eq_zero_iff.1 e) h
  | succ f =>
    simp only [rsF, if_neg h, if_neg z]
    rw [rsF_fuel f (l.drop (rd l).2).length _ (by simp; omega) (Nat.le_refl _)]

/-- Just these texts are words. -/
def wordB (l : List UInt8) : Bool :=
  match rs l with
  | none => false
  | some xs => decide (1 ≤ xs.length) && decide (xs.length ≤ 24) && xs.all vis

/-- 'pre' has been read of l, and m is left. -/
def Remains (l m : List UInt8) (pre : List Int) : Prop := rs l = (rs m).map (fun t => pre ++ t)
theorem left_start (l : List UInt8) : Remains l l [] := by simp [Remains]
theorem left_step {l m : List UInt8} {pre : List Int} (h : Remains l m pre) (hm : m ≠ []) (z : (rd m).2 ≠ 0) : Remains l (m.drop (rd m).2) (pre ++ [(rd m).1]) := by
  unfold Remains at *
  rw [h, rs_cons hm z]
  cases rs (m.drop (rd m).2) <;> simp
theorem left_end {l : List UInt8} {pre : List Int} (h : Remains l [] pre) : rs l = some pre := by
  unfold Remains at h; rw [h, rs_nil]; simp
theorem left_none {l m : List UInt8} {pre : List Int} (h : Remains l m pre) (hm : m ≠ []) (z : (rd m).2 = 0) : rs l = none := by
  unfold Remains at h; rw [h, rs_none hm z]; rfl

theorem word_none {l m : List UInt8} {pre : List Int} (h : Remains l m pre) (hm : m ≠ []) (z : (rd m).2 = 0) : wordB l = false := by
  unfold wordB; rw [left_none h hm z]
theorem word_unseen {l m : List UInt8} {pre : List Int} (h : Remains l m pre) (hm : m ≠ []) (z : (rd m).2 ≠ 0) (hv : vis (rd m).1 = false) : wordB l = false := by
  have h2 := left_step h hm z
  unfold Remains at h2
  unfold wordB; rw [h2]
  cases rs (m.drop (rd m).2) with
  | none => rfl
  | some t => simp [hv]
theorem word_long {l m : List UInt8} {pre : List Int} (h : Remains l m pre) (hm : m ≠ []) (z : (rd m).2 ≠ 0) (hc : pre.length = 24) : wordB l = false := by
  have h2 := left_step h hm z
  unfold Remains at h2
  unfold wordB; rw [h2]
  cases rs (m.drop (rd m).2) with
  | none => rfl
  | some t => simp [hc]; omega
theorem word_end {l : List UInt8} {pre : List Int} (h : Remains l [] pre) (hc : pre.length ≤ 24) (hv : pre.all vis = true) : wordB l = decide (0 < pre.length) := by
  unfold wordB; rw [left_end h]
  simp only [hv, Bool.and_true]
  rw [decide_eq_true hc, Bool.and_true]
  exact decide_eq_decide.2 (by omega)
theorem drop_extract (s : ByteArray) (n : Nat) : (s.extract n s.size).data.toList = s.data.toList.drop n := by
  simp [ByteArray.extract, ByteArray.copySlice]
  rw [List.take_of_length_le (by rw [List.length_drop, size_length]; omega)]
/-- How long the text in a slot is. -/
def lenOf : Value → Nat | .string m => m.size | _ => 0
theorem rest_go {s : ByteArray} {l : List UInt8} {pre : List Int} {r : Int} {n : Nat} (h : Remains l s.data.toList pre) (hm : s.data.toList ≠ []) (hr : rd s.data.toList = (r, n)) (z : n ≠ 0) :
    Remains l (s.extract n s.size).data.toList (pre ++ [r]) := by
  have := left_step h hm (by rw [hr]; exact z)
  rw [hr] at this
  rw [drop_extract]; exact this
theorem extract_size (s : ByteArray) (n : Nat) : (s.extract n s.size).size = s.size - n := by
  rw [← size_length, drop_extract, List.length_drop, size_length]

/-- So many runes that a slice of them can be made. -/
def Room (l : List UInt8) : Prop := ∀ (m : List UInt8) (pre : List Int), Remains l m pre → m.length + pre.length ≤ l.length → m ≠ [] → (rd m).2 ≠ 0 → pre.length + 1 ≤ 35184372088832
theorem room_of_length {l : List UInt8} (h : l.length ≤ 35184372088832) : Room l := fun m pre _ h2 h3 _ => by
  have := List.length_pos_iff.2 h3; omega
theorem room_of_runes {l : List UInt8} {xs : List Int} (h : rs l = some xs) (hx : xs.length ≤ 35184372088832) : Room l := fun m pre hr _ hm z => by
  have h2 := left_step hr hm z
  unfold Remains at h2
  rw [h] at h2
  cases e : rs (m.drop (rd m).2) with
  | none => rw [e] at h2; cases h2
  | some t =>
    rw [e] at h2
    have h3 := Option.some.inj h2
    rw [h3] at hx
    simp at hx
    omega

theorem rsF_len : ∀ (f : Nat) (l : List UInt8) (xs : List Int), rsF f l = some xs → l.length ≤ 4 * xs.length ∧ xs.length ≤ l.length := by
  intro f
  induction f with
  | zero =>
    intro l xs h
    simp only [rsF] at h
    by_cases e : l = []
    · rw [if_pos e] at h; obtain rfl := Option.some.inj h; subst e; simp
    · rw [if_neg e] at h; cases h
  | succ f ih =>
    intro l xs h
    simp only [rsF] at h
    by_cases e : l = []
    · rw [if_pos e] at h; obtain rfl := Option.some.inj h; subst e; simp
    rw [if_neg e] at h
    by_cases z : (rd l).2 = 0
    · rw [if_pos z] at h; cases h
    rw [if_neg z] at h
    cases h2 : rsF f (l.drop (rd l).2) with
    | none => rw [h2] at h; cases h
    | some t =>
      rw [h2] at h
      obtain rfl := Option.some.inj h
      have h3 := ih _ _ h2
      have h4 := rd_bd e
      rw [List.length_drop] at h3
      rw [List.length_cons]
      omega
theorem rs_len {l : List UInt8} {xs : List Int} (h : rs l = some xs) : l.length ≤ 4 * xs.length ∧ xs.length ≤ l.length := rsF_len _ _ _ h
theorem word_far {l : List UInt8} (h : 96 < l.length) : wordB l = false := by
  unfold wordB
  cases e : rs l with
  | none => rfl
  | some xs =>
    have := (rs_len e).1
    simp
    intro _ h2
    omega
theorem word_of {l : List UInt8} {xs : List Int} (h : rs l = some xs) (hv : xs.all vis = true) : wordB l = (decide (1 ≤ xs.length) && decide (xs.length ≤ 24)) := by
  unfold wordB; rw [h]; simp only [hv, Bool.and_true]
theorem word_blind {l : List UInt8} {xs : List Int} {k : Nat} (h : rs l = some xs) (hk : k < xs.length) (hv : vis (xs.getD k 0) = false) : wordB l = false := by
  have hm : xs.getD k 0 ∈ xs := by simp [List.getD_eq_getElem?_getD, List.getElem?_eq_getElem hk]
  have : xs.all vis = false := by
    cases e : xs.all vis
    · rfl
    · have := List.all_eq_true.1 e _ hm; rw [hv] at this; cases this
  unfold wordB; rw [h]; simp only [this, Bool.and_false]
theorem all_next {xs : List Int} {k : Nat} (hk : k < xs.length) (h : (xs.take k).all vis = true) (hv : vis (xs.getD k 0) = true) : (xs.take (k + 1)).all vis = true := by
  rw [List.take_succ_eq_append_getElem hk, List.all_append, h]
  have : xs.getD k 0 = xs[k] := by simp [List.getD_eq_getElem?_getD, List.getElem?_eq_getElem hk]
  rw [this] at hv
  simp [hv]
end Go.Proofs.YthjlihhknaelaaaDoor.Nums
