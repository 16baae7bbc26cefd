/- The reference of the disk: its numbers. -/
import Derived.Test.YtpmmpdkeahmdiaaBase
import Derived.Handy
namespace Go.Proofs.Ytpmmpdkeahmdiaa
open Go.RowKit
set_option maxRecDepth 100000

/-- The numbers of the reference's disk; its sectors lie in a slice of their own. -/
structure RD where
  room : Int
  steps : Int
  left : Int
  armed : Bool
  dead : Bool
def rdV (r : RD) (l : Value) : Value := .agg #[.int .i64 r.room, .int .i64 r.steps, .int .i64 r.left, .bool r.armed, .bool r.dead, l]
def rdNew (room : Int) : RD := ⟨max room 0, 0, 0, false, false⟩
def rdDies (r : RD) : Bool := r.armed && r.left == 0
def rdStep (r : RD) : RD := if rdDies r then { r with steps := r.steps + 1, dead := true } else if r.armed then { r with steps := r.steps + 1, left := r.left - 1 } else { r with steps := r.steps + 1 }
def rdArm (r : RD) (at_ : Int) : RD := if r.dead then r else { r with armed := decide (0 ≤ at_), left := at_ }
set_option maxHeartbeats 2000000 in
theorem refNew_any (room : Int) (w : World) : Calls Try.prog 34 #[.int .i64 room] w fun e w' => e = .returned (rdV (rdNew room) (.slice none 0 0)) ∧ Below w.heap.size w w' := by
  unfold rdV rdNew
  obtain ⟨m, hm⟩ : ∃ m, max room 0 = m := ⟨_, rfl⟩
  have hi : (if room < 0 then (0 : Int) else room) = m := by rw [← hm]; split <;> omega
  simp only [hm]
  go_enter Try.func34, Try.ntmps34
  go_wp2
  go_returns
  exact ⟨rfl, (Below.refl _ w).alloc (Nat.le_refl _) _⟩
set_option maxHeartbeats 2000000 in
theorem refArm_any (r : RD) (ad : Option Addr) (n c : Nat) (at_ : Int) (w : World) : Calls Try.prog 50 #[rdV r (.slice ad n c), .int .i64 at_] w fun e w' => e = .returned (rdV (rdArm r at_) (.slice ad n c)) ∧ Below w.heap.size w w' := by
  obtain ⟨room, steps, left, armed, dead⟩ := r
  unfold rdV rdArm
  cases dead <;>
  · go_enter Try.func50, Try.ntmps50
    go_wp2
    go_returns
    exact ⟨rfl, ((Below.refl _ w).alloc (Nat.le_refl _) _).alloc (by simp) _⟩
set_option maxHeartbeats 4000000 in
theorem refStep_any (r : RD) (ad : Option Addr) (n c : Nat) (w : World) (h1 : 0 ≤ r.steps) (h2 : r.steps < 4611686018427387904) (h3 : -9223372036854775808 ≤ r.left) (h4 : r.left ≤ 9223372036854775807) (h5 : r.armed = true → 0 ≤ r.left) :
    Calls Try.prog 75 #[rdV r (.slice ad n c)] w fun e w' => e = .returned (.tuple #[rdV (rdStep r) (.slice ad n c), .bool (rdDies r)]) ∧ Below w.heap.size w w' := by
  obtain ⟨room, steps, left, armed, dead⟩ := r
  simp only at h1 h2 h3 h4 h5
  unfold rdV rdStep rdDies
  cases armed
  · go_enter Try.func75, Try.ntmps75
    go_wp2
    go_returns
    exact ⟨rfl, ((Below.refl _ w).alloc (Nat.le_refl _) _).alloc (by simp) _⟩
  · have h6 := h5 rfl
    by_cases h0 : left = 0
    · subst h0
      go_enter Try.func75, Try.ntmps75
      go_wp2
      go_returns
      exact ⟨rfl, ((Below.refl _ w).alloc (Nat.le_refl _) _).alloc (by simp) _⟩
    · have h7 : (left == 0) = false := by simp [h0]
      go_enter Try.func75, Try.ntmps75
      go_wp2
      go_returns
      exact ⟨rfl, ((Below.refl _ w).alloc (Nat.le_refl _) _).alloc (by simp) _⟩
end Go.Proofs.Ytpmmpdkeahmdiaa
