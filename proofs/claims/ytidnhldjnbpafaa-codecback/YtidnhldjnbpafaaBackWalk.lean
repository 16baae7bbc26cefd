/- CodecBack: the law's own walk. -/
import Derived.Test.YtidnhldjnbpafaaMore
namespace Go.Proofs.Ytidnhldjnbpafaa
open Go.RowKit
set_option maxRecDepth 100000

set_option maxHeartbeats 4000000 in
theorem back_walk (n : Nat) (v : Value) (m : Nat) (w : World) (hn : n < 18446744073709551616) (xs : List Nat) (hrow : Row w.heap.size w v xs) (hl : xs.length ≤ 140737488351232) (hx : ∀ x ∈ xs, x < 256) (hm : m < 18446744073709551616) :
    Calls Try.prog 6 #[.int .u64 (n : Int), v, .int .u64 (m : Int)] w fun e w' => e = .returned (.bool true) ∧ Below w.heap.size w w' := by
  have HR : Hid (Row w.heap.size w v xs) := hrow
  have HX : Hid (∀ x ∈ xs, x < 256) := hx
  obtain ⟨ao, cap, rfl, hcap⟩ := hrow.shape
  have hun := uw_len10 hn
  have hum := uw_len10 hm
  have hux := uw_len10 (show xs.length < 18446744073709551616 by omega)
  clear hrow hx
  go_enter Try.func6, Try.ntmps6
  go_wp2_with fail
  refine (PutUint_any w.heap.size _ [] n w (Bytes.nil _ _) (Nat.le_refl _) hn (by simp)).mono ?_
  rintro e w1 ⟨v1, rfl, hown1, hb1⟩
  have hs1 := hb1.size
  go_wp2_with fail
  refine (PutBytes_any w.heap.size w.heap.size _ _ (uw n) xs w1 hown1 hs1 (HR.out.below hb1) hs1 (by omega)).mono ?_
  rintro e w2 ⟨v2, rfl, hown2, hb2⟩
  have hb02 := hb1.trans hb2
  have hs2 := hb02.size
  have HO2 : Hid (Bytes w.heap.size w2 v2 (uw n ++ (uw xs.length ++ xs))) := hown2
  clear hb2 hb1 hown1 hown2
  go_wp2_with fail
  refine (PutUint_any w.heap.size _ (uw n ++ (uw xs.length ++ xs)) m w2 HO2.out hs2 hm (by simp; omega)).mono ?_
  rintro e w3 ⟨v3, rfl, hown3, hb3⟩
  have hb03 := hb02.trans hb3
  have hs3 := hb03.size
  have HO3 : Hid (Bytes w.heap.size w3 v3 (uw n ++ (uw xs.length ++ xs) ++ uw m)) := hown3
  have HY : Hid (∀ x ∈ uw n ++ (uw xs.length ++ xs) ++ uw m, x < 256) := by
    intro x hx
    rcases List.mem_append.1 hx with h | h
    · rcases List.mem_append.1 h with h | h
      · exact uw_byte _ _ h
      · rcases List.mem_append.1 h with h | h
        · exact uw_byte _ _ h
        · exact HX.out x h
    · exact uw_byte _ _ h
  clear hb3 hb02 hown3 HO2
  go_wp2_with fail
  refine (Read_any _ _ _ _ HO3.out.row HY.out (by simp; omega)).mono ?_
  rintro e w4 ⟨rb, rfl, hrb, hrd, hb4⟩
  have hrbw : w.heap.size ≤ rb := by omega
  have hb04 := hb03.trans (hb4.mono hs3)
  have hs4 := hb04.size
  clear hb4 hb03
  have hrd : Hid (Rd w4 rb (uw n ++ (uw xs.length ++ xs) ++ uw m) 0) := hrd
  go_wp2_with fail
  refine (Uint_any rb _ 0 18446744073709551615 w4 hrd.out).mono ?_
  rw [List.append_assoc, uint_write hn (by omega)]
  rintro e w5 ⟨rfl, hrd5, hbut5⟩
  have hb05 := hb04.trans (hbut5.below hrbw hs4)
  have hs5 := hb05.size
  have HRD5 : Hid (Rd w5 rb (uw xs.length ++ xs ++ uw m) 0) := hrd5
  have hlt := HRD5.out.lt
  clear hrd hrd5 hbut5 hb04
  have hmo : xs.length ≤ mostN (xs.length : Int) := by unfold mostN; omega
  have HBW : Hid (bytesR (uw xs.length ++ xs ++ uw m) 0 (xs.length : Int) = (xs, uw m, 0)) := bytes_write (by omega) hmo _
  go_wp2_with fail
  refine (Bytes_any rb _ 0 (xs.length : Int) w5 HRD5.out (by omega) (by omega)).mono ?_
  rw [HBW.out]
  rintro e w6 ⟨v6, rfl, hown6, hrd6, hbut6⟩
  have hb06 := hb05.trans (hbut6.below hrbw hs5)
  have hs6 := hb06.size
  have HRD6 : Hid (Rd w6 rb (uw m) 0) := hrd6
  have HO6 : Hid (Bytes w5.heap.size w6 v6 xs) := hown6
  clear hrd6 hown6 HBW HRD5 hbut6 hb05
  have HUW : Hid (uintR (uw m) 0 m = (m, [], 0)) := by have := uint_write hm (Nat.le_refl m) []; rwa [List.append_nil] at this
  go_wp2_with fail
  refine (Uint_any rb _ 0 m w6 HRD6.out).mono ?_
  rw [HUW.out]
  rintro e w7 ⟨rfl, hrd7, hbut7⟩
  have hb07 := hb06.trans (hbut7.below hrbw hs6)
  have hs7 := hb07.size
  have HRD7 : Hid (Rd w7 rb [] 0) := hrd7
  have HO7 : Hid (Bytes w5.heap.size w7 v6 xs) := HO6.out.but hbut7 hlt
  clear hrd7 hbut7 hb06 HO6 HRD6 HUW
  go_wp2_with fail
  refine (alive_any w7).mono ?_
  rintro e w8 ⟨rfl, hb8⟩
  have hb08 := hb07.trans (hb8.mono hs7)
  have hc1 := (HO7.out.below hb8).row.str
  have hc2 := (HR.out.below hb08).str
  have HRD8 : Hid (Rd w8 rb [] 0) := HRD7.out.but hb8
  clear HO7 HRD7 hb8
  go_wp2_with fail
  refine (End_any rb [] 0 _ HRD8.out).mono ?_
  rintro e w9 ⟨rfl, n9, rfl⟩
  go_wp2_with fail
  go_ret
  exact ⟨rfl, below_drewN hb08 _⟩
end Go.Proofs.Ytidnhldjnbpafaa
