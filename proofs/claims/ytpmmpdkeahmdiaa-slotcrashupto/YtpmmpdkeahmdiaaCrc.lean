/- The sum: plain mathematics. -/
import Derived.Test.YtpmmpdkeahmdiaaNums
namespace Go.Proofs.Ytpmmpdkeahmdiaa

/-- One step of the register. -/
def stp (s : Nat) : Nat := if s % 2 = 1 then (s / 2) ^^^ 2197175160 else s / 2
def stps : Nat → Nat → Nat
  | 0, s => s
  | k + 1, s => stp (stps k s)
/-- The register behind one byte more. -/
def byt (s c : Nat) : Nat := stps 8 (s ^^^ c)
def crc (xs : List Nat) (s : Nat) : Nat := xs.foldl byt s
def sumOf (xs : List Nat) : Nat := 4294967295 - crc xs 4294967295

theorem stp_lt {s : Nat} (h : s < 4294967296) : stp s < 4294967296 := by
  unfold stp
  split
  · exact Nat.xor_lt_two_pow (n := 32) (by omega) (by decide)
  · omega
theorem stps_lt (k : Nat) {s : Nat} (h : s < 4294967296) : stps k s < 4294967296 := by
  induction k with
  | zero => exact h
  | succ k ih => exact stp_lt ih
theorem xor_byte_lt {s c : Nat} (h : s < 4294967296) (hc : c < 256) : s ^^^ c < 4294967296 := Nat.xor_lt_two_pow (n := 32) (by omega) (by omega)
theorem byt_lt {s c : Nat} (h : s < 4294967296) (hc : c < 256) : byt s c < 4294967296 := stps_lt 8 (xor_byte_lt h hc)
theorem crc_lt : ∀ (xs : List Nat) (s : Nat), s < 4294967296 → (∀ x ∈ xs, x < 256) → crc xs s < 4294967296
  | [], _, h, _ => h
  | x :: r, s, h, hx => crc_lt r (byt s x) (byt_lt h (hx x (by simp))) (fun y hy => hx y (by simp [hy]))
theorem crc_take {xs : List Nat} {k : Nat} (h : k < xs.length) (s : Nat) : crc (xs.take (k + 1)) s = byt (crc (xs.take k) s) (xs.getD k 0) := by
  unfold crc
  rw [List.take_succ_eq_append_getElem h, List.foldl_append]
  simp [List.getD_eq_getElem?_getD, List.getElem?_eq_getElem h]
theorem sumOf_lt {xs : List Nat} : sumOf xs < 4294967296 := by unfold sumOf; omega
theorem turn_all {s : Nat} (h : s < 4294967296) : 4294967295 ^^^ s = 4294967295 - s := by
  have h1 : s = (4294967295 ^^^ s) ^^^ 4294967295 := by rw [Nat.xor_comm 4294967295 s, Nat.xor_assoc, Nat.xor_self, Nat.xor_zero]
  apply Nat.eq_of_testBit_eq
  intro i
  rw [Nat.testBit_xor]
  rw [show (4294967295 : Nat) - s = 2 ^ 32 - (s + 1) by omega, Nat.testBit_two_pow_sub_succ (by omega), show (4294967295 : Nat) = 2 ^ 32 - 1 by decide, Nat.testBit_two_pow_sub_one]
  by_cases hi : i < 32
  · simp [hi]
  · rw [decide_eq_false hi, Nat.testBit_lt_two_pow (Nat.lt_of_lt_of_le h (by rw [show (4294967296 : Nat) = 2 ^ 32 by decide]; exact Nat.pow_le_pow_right (by decide) (by omega)))]
    rfl
end Go.Proofs.Ytpmmpdkeahmdiaa
