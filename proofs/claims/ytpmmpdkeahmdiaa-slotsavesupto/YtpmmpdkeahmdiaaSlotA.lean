/- The statements' alive; SlotApart. -/
import Derived.Test.YtpmmpdkeahmdiaaSlotL
import Derived.Lib.SlBytesConst
namespace Go.Proofs.Ytpmmpdkeahmdiaa
open Go.RowKit
set_option maxRecDepth 100000

theorem str_ab : strB [97, 98] = ByteArray.mk #[97, 98] := by rfl
set_option maxHeartbeats 1000000 in
theorem alive4_any (w : World) : Calls Try.prog 19 #[] w fun e w' => e = .returned (.bool true) ∧ Below w.heap.size w w' := by
  go_enter Try.func19, Try.ntmps19
  go_wp2_with fail
  refine (New_any 2 w (by omega) (by omega)).mono ?_
  rintro e w1 ⟨p, fp, rfl, hd1, hb1, hf1⟩
  have HD1 : Hid (DiskAt 0 w1 p (newD 2) fp) := hd1
  have HB1 : Hid (Below w.heap.size w w1) := hb1
  have HF1 : Hid (∀ b ∈ fp, w.heap.size ≤ b) := hf1
  clear hd1 hb1 hf1
  go_wp2_with fail
  refine (Open_any 0 p (newD 2) fp 9 w1 HD1.out (by omega) (new_bytes 2)).mono ?_
  rintro e w2 (⟨hdead, _⟩ | ⟨_, s, g, rfl, hsl, hs, hg, hb2⟩)
  · exact absurd hdead (by simp [newD])
  have HSL : Hid (SlotAt w2 s p 9 0 [] g) := hsl
  have HB2 : Hid (Below w.heap.size w w2) := HB1.out.trans (hb2.mono HB1.out.size)
  have HD2 : Hid (DiskAt 0 w2 p (newD 2) fp) := HD1.out.below hb2
  have HSF : Hid (s ∉ fp ∧ g ∉ fp) := ⟨fun hm => by have := HD1.out.lt s hm; omega, fun hm => by have := HD1.out.lt g hm; omega⟩
  have HSG : Hid (w.heap.size ≤ s) := by have := HB1.out.size; exact Nat.le_trans this hs
  clear hsl hs hg hb2
  have hcv0 := Lib.run_convert_bytes_const (P := Try.prog) w2 36 5 #[.int .u8 97, .int .u8 98] 2 2 Try.underlying36 Try.underlying5
  go_wp2_with fail
  clear hcv0
  obtain ⟨w3, hw3⟩ : ∃ w3, w2.alloc (.cells #[.int .u8 97, .int .u8 98] 5 (2, 3)) = w3 := ⟨_, rfl⟩
  rw [hw3]
  have hblk : w3.heap[w2.heap.size]? = some (.cells #[.int .u8 97, .int .u8 98] 5 (2, 3)) := hw3 ▸ alloc_new _ _
  have hb3 : Below w2.heap.size w2 w3 := hw3 ▸ (Below.refl _ w2).alloc (Nat.le_refl _) _
  have hrow : RowX (s :: fp) w3 (.slice (some ⟨w2.heap.size, 0, none⟩) 2 2) [97, 98] := by
    refine ⟨⟨some ⟨w2.heap.size, 0, none⟩, 2, rfl, Nat.le_refl _, (fun h => by cases h), fun _ => ⟨w2.heap.size, 0, rfl, (Array.getElem?_eq_some_iff.1 hblk).1, fun i hi => ?_⟩⟩, fun b off len cap e _ hm => ?_⟩
    · match i, hi with
      | 0, _ => simp [World.cell?, hblk]
      | 1, _ => simp [World.cell?, hblk]
    · simp only [Value.slice.injEq, Option.some.injEq, Addr.mk.injEq] at e
      rcases List.mem_cons.1 hm with h | h
      · have := HSL.out.lt.1; omega
      · have := HD2.out.lt b h; omega
  refine (Save_any 0 s p (newD 2) fp 9 0 [] [97, 98] g _ w3 (HD2.out.below hb3) (HSL.out.below hb3) HSF.out.1 HSF.out.2 hrow (by decide) (by omega) (by omega)).mono ?_
  have hsv := save_well (d := newD 2) (a := 9) (n := 0) (xs := [97, 98]) rfl rfl (by show (0 : Int) < max 2 0; decide) (by omega) (by decide)
  rintro e w4 ⟨rfl, fp', g', hsa⟩
  rw [hsv] at hsa
  rw [hsv]
  have HD4 : Hid (DiskAt 2 w4 p { stepD (stepD (newD 2)) with secs := sy 9 (wr 9 (((0 + 1) % 2 : Nat) : Int) (laySec (0 + 1) [97, 98]) []) } fp') := by
    have := hsa.disk
    rw [hsv] at this
    exact this
  have HB4 : Hid (Below w.heap.size w w4) := by
    have h3 : Below w.heap.size w w3 := HB2.out.trans (hb3.mono HB2.out.size)
    exact h3.trans (hsa.only.below h3.size fun x hx => by rcases List.mem_cons.1 hx with rfl | hx; exact HSG.out; exact HF1.out x hx)
  clear hsv hrow hblk hb3 hw3 hsa
  go_wp2_with fail
  have hby : ByteS (sy 9 (wr 9 (((0 + 1) % 2 : Nat) : Int) (laySec (0 + 1) [97, 98]) [])) := bytes_sy (bytes_wr (fun s hs => by cases hs) (lay_byte (by decide) (by decide))) 9
  have hos : openS (sy 9 (wr 9 (((0 + 1) % 2 : Nat) : Int) (laySec (0 + 1) [97, 98]) [])) 9 = (1, [97, 98]) := open_saved (n := 0) List.Pairwise.nil rfl (by omega) (by decide)
  refine (Open_any 2 p _ fp' 9 w4 HD4.out (by omega) hby).mono ?_
  rintro e w5 (⟨hdead, _⟩ | ⟨_, t, g2, rfl, hsl2, _, _, hb5⟩)
  · exact absurd hdead (by simp [newD, stepD])
  rw [show openS ({ stepD (stepD (newD 2)) with secs := sy 9 (wr 9 (((0 + 1) % 2 : Nat) : Int) (laySec (0 + 1) [97, 98]) []) } : DS).secs 9 = (1, [97, 98]) from hos] at hsl2
  have HSL2 : Hid (SlotAt w5 t p 9 1 [97, 98] g2) := hsl2
  have HB5 : Hid (Below w.heap.size w w5) := HB4.out.trans (hb5.mono HB4.out.size)
  clear hby hos hsl2 hb5 HD4
  go_wp2_with fail
  refine (Value_any w5 t p 9 1 [97, 98] g2 HSL2.out (by decide)).mono ?_
  rintro e w6 ⟨⟨v6, rfl, hrow6⟩, hb6⟩
  have hcv := hrow6.str
  rw [str_ab] at hcv
  have HSL6 : Hid (SlotAt w6 t p 9 1 [97, 98] g2) := HSL2.out.below hb6
  have HB6 : Hid (Below w.heap.size w w6) := HB5.out.trans (hb6.mono HB5.out.size)
  clear hrow6 hb6
  go_wp2_with fail
  refine (Number_any w6 t p 9 1 [97, 98] g2 HSL6.out).mono ?_
  rintro e w7 ⟨rfl, rfl⟩
  clear hcv
  go_wp2_with fail
  go_ret
  exact ⟨rfl, HB6.out⟩
end Go.Proofs.Ytpmmpdkeahmdiaa
