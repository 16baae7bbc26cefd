/- The library's sort at uint64: breaking patterns. -/
import Derived.Test.YtpmmpdkeahmdiaaSrtU7
import Derived.Test.YtpmmpdkeahmdiaaBits
import Derived.Sort.WalkA14
import Derived.Sort.LotD5
import Derived.Sort.Walk7a
namespace Go.Proofs.Ytpmmpdkeahmdiaa
open Go.RowKit Go.Sort
set_option maxRecDepth 100000
namespace SrtU

/-- The row, and beside it the random number in a block of its own. -/
structure Pr (blk off : Nat) (w0 w : World) (n : Nat) (d : Array Int) (sb : Nat) : Prop where
  at_ : At blk off w0 w n d
  low : blk < w0.heap.size
  own : w0.heap.size ≤ sb
  cell : ∃ v : Nat, v < 18446744073709551616 ∧ w.cell? ⟨sb, 0, none⟩ = some (.int .u64 v)
  free : w.frozen? ⟨sb, 0, none⟩ = false
theorem Pr.drewN {blk off n sb : Nat} {w0 w : World} {d : Array Int} (h : Pr blk off w0 w n d sb) (m : Nat) : Pr blk off w0 (w.drewN m) n d sb := ⟨h.at_.drewN m, h.low, h.own, h.cell, h.free⟩
theorem Pr.put {blk off n sb : Nat} {w0 w : World} {d : Array Int} (h : Pr blk off w0 w n d sb) {x : Nat} (hx : x < 18446744073709551616) : Pr blk off w0 (w.setCell ⟨sb, 0, none⟩ (.int .u64 x)) n d sb := by
  obtain ⟨v, _, hv⟩ := h.cell
  exact ⟨h.at_.store h.low h.own 0 _, h.low, h.own, ⟨x, hx, by go_simp⟩, by have := h.free; go_simp⟩
theorem xorU (x y : Nat) (hx : x < 18446744073709551616) (hy : y < 18446744073709551616) : ∃ A : Nat, A < 18446744073709551616 ∧ bits .xor .u64 (x : Int) (y : Int) = (A : Int) :=
  ⟨x ^^^ y, Nat.xor_lt_two_pow (n := 64) (by omega) (by omega), bits_xor_u64_nat x y hx hy⟩
set_option maxHeartbeats 4000000 in
theorem Next_any (blk off n sb : Nat) (d : Array Int) (w0 w : World) (hP : Pr blk off w0 w n d sb) :
    Calls Try.prog 117 #[.pointer (some ⟨sb, 0, none⟩)] w fun e w' =>
      ∃ x : Nat, x < 18446744073709551616 ∧ e = .returned (.int .u64 x) ∧ Pr blk off w0 w' n d sb := by
  obtain ⟨X, hX, hc⟩ := hP.cell
  have hf := hP.free
  have HP : Hid (Pr blk off w0 w n d sb) := hP
  clear hP
  obtain ⟨A, hA, e1⟩ : ∃ A : Nat, A < 18446744073709551616 ∧ bits .xor .u64 (X : Int) (IntKind.u64.wrap ((X : Int) * 8192)) = (A : Int) := by
    rw [IntKind.wrap_u64, show ((X : Int) * 8192 % 18446744073709551616) = ((X * 8192 % 18446744073709551616 : Nat) : Int) by omega]
    exact xorU _ _ hX (by omega)
  obtain ⟨B, hB, e2⟩ : ∃ B : Nat, B < 18446744073709551616 ∧ bits .xor .u64 (A : Int) ((A : Int) / 128) = (B : Int) := by
    rw [show ((A : Int) / 128) = ((A / 128 : Nat) : Int) by omega]
    exact xorU _ _ hA (by omega)
  obtain ⟨C, hC, e3⟩ : ∃ C : Nat, C < 18446744073709551616 ∧ bits .xor .u64 (B : Int) (IntKind.u64.wrap ((B : Int) * 131072)) = (C : Int) := by
    rw [IntKind.wrap_u64, show ((B : Int) * 131072 % 18446744073709551616) = ((B * 131072 % 18446744073709551616 : Nat) : Int) by omega]
    exact xorU _ _ hB (by omega)
  have hss : ∀ v v', (w.setCell ⟨sb, 0, none⟩ v).setCell ⟨sb, 0, none⟩ v' = w.setCell ⟨sb, 0, none⟩ v' := setCell_setCell w sb 0
  have HC : Hid (C < 18446744073709551616) := hC
  clear hA hB hC hX
  go_enter Try.func117, Try.ntmps117
  go_wp2
  go_region
  all_goals go_wp2
  all_goals go_region
  all_goals go_wp2
  all_goals go_region
  all_goals go_wp2
  go_ret
  exact ⟨C, HC.out, rfl, (HP.out.put HC.out).drewN 3⟩
theorem nextPower_any (l : Nat) (hl : 0 < l) (hl2 : l < 4611686018427387904) (w : World) :
    Calls Try.prog 116 #[.int .i64 l] w fun e w' => ∃ M : Nat, e = .returned (.int .u64 M) ∧ w' = w ∧ l < M ∧ M ≤ 2 * l := by
  have hLen : ∀ w, Calls Try.prog 90 #[.int .u64 (l : Int)] w fun e w' => e = .returned (.int .i64 (bitsLen l : Nat)) ∧ w' = w := fun w => by
    have h := bits_Len (l : Int) w (by omega) (by omega)
    rwa [Int.toNat_natCast, bitLen_eq _ (by omega)] at h
  have hk : bitsLen l ≤ 62 := (bitsLen_le_iff l 62).2 (by omega)
  have hp := wrap_two_pow (bitsLen l) hk
  have h1 := lt_two_pow_bitsLen l
  have h2 := two_pow_bitsLen_le hl
  have HH : Hid (l < 2 ^ bitsLen l ∧ 2 ^ bitsLen l ≤ 2 * l) := ⟨h1, h2⟩
  clear h1 h2
  go_enter Try.func116, Try.ntmps116
  go_wp2_with (first | (go_at_call 90; refine (hLen _).mono ?_; rintro e w' ⟨rfl, rfl⟩))
  go_ret
  exact ⟨1 <<< bitsLen l, rfl, rfl, by rw [Nat.one_shiftLeft]; exact HH.out.1, by rw [Nat.one_shiftLeft]; exact HH.out.2⟩
end SrtU
end Go.Proofs.Ytpmmpdkeahmdiaa
