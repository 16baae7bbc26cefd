/- The laws' own 'alive', and a call on a disk. -/
import Derived.Test.YtpmmpdkeahmdiaaSync
import Derived.Lib.SlBytesConst
namespace Go.Proofs.Ytpmmpdkeahmdiaa
open Go.RowKit
set_option maxRecDepth 100000

theorem pad_ab : (pad [97, 98])[1]? = some 98 := by decide
theorem cells_ab (W : World) (b : Nat) (t : TypeId) (h : W.heap[b]? = some (.cells (verC (pad [97, 98])) t (0, 0))) : W.cell? ⟨b, 1, none⟩ = some (.int .u8 98) := by
  simp only [World.cell?, h, verC]
  simp [pad]
theorem ab_row (w : World) (f : Nat × Nat) (fp : List Nat) (hf : ∀ b ∈ fp, b < w.heap.size) : RowX fp (w.alloc (.cells #[.int .u8 97, .int .u8 98] 5 f)) (.slice (some ⟨w.heap.size, 0, none⟩) 2 2) [97, 98] := by
  refine ⟨⟨_, _, rfl, by simp, fun h => (by cases h), fun _ => ⟨_, _, rfl, by simp, fun i hi => ?_⟩⟩, fun b off len cap e _ hb => ?_⟩
  · simp only [World.cell?, alloc_new]
    have hi' : i < 2 := hi
    match i, hi' with
    | 0, _ => rfl
    | 1, _ => rfl
  · simp only [Value.slice.injEq, Option.some.injEq, Addr.mk.injEq] at e
    have := hf b hb
    omega
/-- The disk of 'alive', step by step. -/
def dA : DS := wrD (newD 2) 5 3 [97, 98]
def dB : DS := if dA.dead then dA else { dA with armed := decide ((0 : Int) ≤ 0), ahead := 0 }
theorem eA : wrE (newD 2) 5 3 [97, 98] = 0 := by decide
theorem cA : curOf dA.secs 5 3 = some (pad [97, 98]) := by decide
theorem eB : stepE dB = 30 := by decide
theorem fB : (syD dB 5).dead = true := by decide
set_option maxHeartbeats 4000000 in
theorem alive_any (w : World) : Calls Try.prog 35 #[] w fun e w' => e = .returned (.bool true) ∧ Below w.heap.size w w' := by
  go_enter Try.func35, Try.ntmps35
  go_wp2_with fail
  refine (New_any 2 w (by omega) (by omega)).mono ?_
  rintro e w1 ⟨p, fp, rfl, hd1, hb1, hf1⟩
  have HD1 : Hid (DiskAt 0 w1 p (newD 2) fp) := hd1
  have HB1 : Hid (Below w.heap.size w w1) := hb1
  have HF1 : Hid (∀ b ∈ fp, w.heap.size ≤ b) := hf1
  clear hd1 hb1 hf1
  have hconv := Lib.run_convert_bytes_const (P := Try.prog) w1 36 5 #[.int .u8 97, .int .u8 98] 2 2 Try.underlying36 Try.underlying5
  go_wp2_with fail
  clear hconv
  have hbA : Below w1.heap.size w1 (w1.alloc (.cells #[.int .u8 97, .int .u8 98] 5 (2, 3))) := (Below.refl _ _).alloc (Nat.le_refl _) _
  refine (Write_any 0 p (newD 2) fp 5 3 _ [97, 98] _ (HD1.out.below hbA) (ab_row w1 (2, 3) fp HD1.out.lt) (by simp) (by omega)).mono ?_
  rintro e w2 ⟨rfl, fp2, hd2, ho2, hf2⟩
  have hs1 := HB1.out.size
  have HO2 : Hid (Below w.heap.size w w2) := (HB1.out.alloc hs1 _).trans (ho2.below (by simp; omega) HF1.out)
  have HF2 : Hid (∀ b ∈ fp2, w.heap.size ≤ b) := fun b hb => by
    rcases hf2 b hb with h | h
    · exact HF1.out b h
    · have := alloc_size w1 (.cells #[.int .u8 97, .int .u8 98] 5 (2, 3)); omega
  have HD2 : Hid (DiskAt 1 w2 p dA fp2) := hd2
  clear hd2 ho2 hf2 hbA
  rw [eA]
  go_wp2_with fail
  refine (Read_any 1 p dA fp2 5 3 w2 HD2.out (by omega)).mono ?_
  rintro e w3 ⟨hb3, ⟨h, _⟩ | ⟨v, b, hv, h64, rfl, hbs, hbc⟩⟩
  · rw [cA] at h; cases h
  rw [cA] at hv
  have hv' := Option.some.inj hv
  subst hv'
  have HC3 : Hid (w3.cell? ⟨b, 1, none⟩ = some (.int .u8 98)) := cells_ab _ _ _ hbc
  have HB3 : Hid (Below w2.heap.size w2 w3) := hb3
  have hbl : b < w3.heap.size := (Array.getElem?_eq_some_iff.1 hbc).1
  have HBN : Hid (b ∉ fp2) := fun hm => by have := HD2.out.lt b hm; omega
  clear hb3 hbc h64 hv
  go_wp2_with fail
  refine (Arm_any 1 p dA fp2 0 w3 (HD2.out.below HB3.out) (by omega) (by omega)).mono ?_
  rintro e w4 ⟨rfl, hd4, ho4⟩
  have HD4 : Hid (DiskAt 1 w4 p dB fp2) := hd4
  have hc4 : w4.cell? ⟨b, 1, none⟩ = some (.int .u8 98) := (World.cell?_of_block (w := w3) (a := ⟨b, 1, none⟩) (ho4.block b hbl HBN.out)).trans HC3.out
  have hs2 := HO2.out.size
  have HO4 : Hid (Below w.heap.size w w4) := (HO2.out.trans (HB3.out.mono hs2)).trans (ho4.below (by have := HB3.out.size; omega) HF2.out)
  clear hd4 ho4
  go_wp2_with fail
  refine (Sync_any 1 p dB fp2 5 w4 HD4.out (by omega)).mono ?_
  rintro e w5 ⟨rfl, fp5, hd5, ho5, hf5⟩
  have HO5 : Hid (Below w.heap.size w w5) := HO4.out.trans (ho5.below HO4.out.size HF2.out)
  have HD5 : Hid (DiskAt 2 w5 p (syD dB 5) fp5) := hd5
  clear hd5 ho5 hf5
  rw [eB]
  go_wp2_with fail
  refine (Dead_any 2 p (syD dB 5) fp5 w5 HD5.out).mono ?_
  rintro e w6 ⟨rfl, rfl⟩
  rw [fB]
  go_wp2_with fail
  go_ret
  exact ⟨rfl, HO5.out⟩
end Go.Proofs.Ytpmmpdkeahmdiaa
