/- SlotApart. -/
import Derived.Test.YtpmmpdkeahmdiaaSlotA
namespace Go.Proofs.Ytpmmpdkeahmdiaa
open Go.RowKit
set_option maxRecDepth 100000

theorem row_x4 {W w : World} {fp : List Nat} {y : Value} {xs : List Nat} (h : Row W.heap.size W y xs) (hb : Below W.heap.size W w) (hf : ∀ b ∈ fp, W.heap.size ≤ b) : RowX fp w y xs := by
  obtain ⟨ao, cap, rfl, hcap, hno, hc⟩ := h
  refine ⟨⟨ao, cap, rfl, hcap, hno, fun h0 => ?_⟩, fun b off len cap2 e h0 hm => ?_⟩
  · obtain ⟨b, off, rfl, hN, hd⟩ := hc h0
    exact ⟨b, off, rfl, Nat.lt_of_lt_of_le hN hb.size, fun i hi => (hb.cell (p := ⟨b, off + i, none⟩) hN).trans (hd i hi)⟩
  · obtain ⟨b', off', rfl, hN, hd⟩ := hc h0
    simp only [Value.slice.injEq, Option.some.injEq, Addr.mk.injEq] at e
    have := hf b hm
    omega
/-- The first Save on a new disk. -/
theorem first_save (a b : Int) (xs : List Nat) (hx : ∀ x ∈ xs, x < 256) : (saveD (newD 1073741824) a 0 xs).1.dead = false ∧ ByteS (saveD (newD 1073741824) a 0 xs).1.secs ∧ (b ≠ a → openS (saveD (newD 1073741824) a 0 xs).1.secs b = (0, [])) ∧ (saveD (newD 1073741824) a 0 xs).2 = if xs.length ≤ 48 then 0 else 40 := by
  by_cases hl : xs.length ≤ 48
  · rw [save_well (d := newD 1073741824) (a := a) (n := 0) (xs := xs) rfl rfl (by show (0 : Int) < max 1073741824 0; decide) (by omega) hl, if_pos hl]
    refine ⟨by simp [newD, stepD], ?_, fun h => ?_, rfl⟩
    · exact bytes_sy (bytes_wr (fun s hs => by cases hs) (lay_byte hl hx)) a
    · show openS (sy a (wr a _ _ [])) b = _
      rw [open_other List.Pairwise.nil h]; rfl
  · have e : saveD (newD 1073741824) a 0 xs = (newD 1073741824, 40) := by unfold saveD; rw [if_pos (.inl (by omega))]
    rw [e, if_neg hl]
    exact ⟨rfl, new_bytes _, fun _ => rfl, rfl⟩
set_option maxHeartbeats 1000000 in
theorem sapart_walk (n0 n1 : Nat) (v : Value) (w : World) (_h0 : n0 < 18446744073709551616) (_h1 : n1 < 18446744073709551616) (xs : List Nat) (hrow : Row w.heap.size w v xs) (_hl : xs.length ≤ 140737488351232) (hx : ∀ x ∈ xs, x < 256) :
    Calls Try.prog 6 #[.int .u64 (n0 : Int), .int .u64 (n1 : Int), v] w fun e w' => e = .returned (.bool true) ∧ Below w.heap.size w w' := by
  have HR : Hid (Row w.heap.size w v xs) := hrow
  have HX : Hid (∀ x ∈ xs, x < 256) := hx
  obtain ⟨ao, cap, rfl, _⟩ := hrow.shape
  clear hrow hx
  go_enter Try.func6, Try.ntmps6
  go_wp2_with fail
  refine (New_any 1073741824 w (by omega) (by omega)).mono ?_
  rintro e w1 ⟨p, fp, rfl, hd1, hb1, hf1⟩
  have HD1 : Hid (DiskAt 0 w1 p (newD 1073741824) fp) := hd1
  have HB1 : Hid (Below w.heap.size w w1) := hb1
  have HF1 : Hid (∀ b ∈ fp, w.heap.size ≤ b) := hf1
  clear hd1 hb1 hf1
  go_wp2_with fail
  refine (alive4_any w1).mono ?_
  rintro e w2 ⟨rfl, hb2⟩
  have HD2 : Hid (DiskAt 0 w2 p (newD 1073741824) fp) := HD1.out.below hb2
  have HB2 : Hid (Below w.heap.size w w2) := HB1.out.trans (hb2.mono HB1.out.size)
  clear hb2
  go_wp2_with fail
  refine (Open_any 0 p (newD 1073741824) fp (n0 : Int) w2 HD2.out (by omega) (new_bytes _)).mono ?_
  rintro e w3 (⟨hdead, _⟩ | ⟨_, s, g, rfl, hsl, hs, hg, hb3⟩)
  · exact absurd hdead (by simp [newD])
  have HSL : Hid (SlotAt w3 s p (n0 : Int) 0 [] g) := hsl
  have HD3 : Hid (DiskAt 0 w3 p (newD 1073741824) fp) := HD2.out.below hb3
  have HB3 : Hid (Below w.heap.size w w3) := HB2.out.trans (hb3.mono HB2.out.size)
  have HSF : Hid (s ∉ fp ∧ g ∉ fp) := ⟨fun hm => by have := HD2.out.lt s hm; omega, fun hm => by have := HD2.out.lt g hm; omega⟩
  have HSG : Hid (∀ b ∈ s :: fp, w.heap.size ≤ b) := fun b hb => by
    rcases List.mem_cons.1 hb with rfl | hb
    · have := HB2.out.size; omega
    · exact HF1.out b hb
  clear hsl hs hg hb3
  go_wp2_with fail
  refine (Save_any 0 s p (newD 1073741824) fp (n0 : Int) 0 [] xs g _ w3 HD3.out HSL.out HSF.out.1 HSF.out.2 (row_x4 HR.out HB3.out HSG.out) HX.out (by omega) (by omega)).mono ?_
  rintro e w4 ⟨rfl, fp', g', hsa⟩
  obtain ⟨f1, f2, f3, f4⟩ := first_save (n0 : Int) (n1 : Int) xs HX.out
  rw [f4]
  obtain ⟨d4, hd4⟩ : ∃ d4, (saveD (newD 1073741824) (n0 : Int) 0 xs).1 = d4 := ⟨_, rfl⟩
  have hdk := hsa.disk
  rw [hd4] at f1 f2 f3 hdk
  have HD4 : Hid (DiskAt 2 w4 p d4 fp') := hdk
  have HB4 : Hid (Below w.heap.size w w4) := HB3.out.trans (hsa.only.below HB3.out.size HSG.out)
  have HF : Hid (d4.dead = false ∧ ByteS d4.secs ∧ ((n1 : Int) ≠ (n0 : Int) → openS d4.secs (n1 : Int) = (0, []))) := ⟨f1, f2, f3⟩
  obtain ⟨c, hc⟩ : ∃ c : Int, (if xs.length ≤ 48 then (0 : Int) else 40) = c := ⟨_, rfl⟩
  rw [hc]
  have hcq : (c == 0) = decide ((xs.length : Int) ≤ 48) := by
    rw [← hc]
    by_cases h : xs.length ≤ 48
    · rw [if_pos h, decide_eq_true (by omega)]; rfl
    · rw [if_neg h, decide_eq_false (by omega)]; rfl
  clear hsa f1 f2 f3 f4 hd4 hdk hc
  go_wp2_with fail
  refine (Open_any 2 p d4 fp' (n1 : Int) w4 HD4.out (by omega) HF.out.2.1).mono ?_
  rintro e w5 (⟨hdead, _⟩ | ⟨_, t, g2, rfl, hsl2, _, _, hb5⟩)
  · exact absurd hdead (by rw [HF.out.1]; simp)
  have HB5 : Hid (Below w.heap.size w w5) := HB4.out.trans (hb5.mono HB4.out.size)
  by_cases hab : n0 = n1
  · have hab' : ((n0 : Int) == (n1 : Int)) = true := by rw [beq_iff_eq]; omega
    clear hsl2 hb5
    go_wp2_with fail
    go_ret
    exact ⟨rfl, HB5.out⟩
  · have hab' : ((n0 : Int) == (n1 : Int)) = false := by rw [Bool.eq_false_iff]; intro h; have := beq_iff_eq.1 h; omega
    rw [HF.out.2.2 (by omega)] at hsl2
    have HSL2 : Hid (SlotAt w5 t p (n1 : Int) 0 [] g2) := hsl2
    clear hsl2 hb5
    go_wp2_with fail
    refine (Number_any w5 t p (n1 : Int) 0 [] g2 HSL2.out).mono ?_
    rintro e w6 ⟨rfl, rfl⟩
    clear hcq
    go_wp2_with fail
    refine (Value_any w6 t p (n1 : Int) 0 [] g2 HSL2.out (by decide)).mono ?_
    rintro e w7 ⟨⟨v7, rfl, hrow7⟩, hb7⟩
    obtain ⟨ao7, cap7, rfl, _⟩ := hrow7.shape
    have HB7 : Hid (Below w.heap.size w w7) := HB5.out.trans (hb7.mono HB5.out.size)
    clear hrow7 hb7
    go_wp2_with fail
    go_ret
    exact ⟨rfl, HB7.out⟩
end Go.Proofs.Ytpmmpdkeahmdiaa
