/- FuzzyNothing: the law's own walk. -/
import Derived.Test.YtncnefpkfbngaaaGreatDoorMh
namespace Go.Proofs.YtncnefpkfbngaaaGreatDoor
open Go.RowKit Go.Shelf Go.Lib Nums Fm Pk Pm Fz Ed Lv
set_option maxRecDepth 100000

set_option maxHeartbeats 4000000 in
theorem fnothing_walk {p : Prop} (v : Value) (s : ByteArray) (e : Int) (w : World) (ht : Tabs w) (l : List Pr) (h : PRow w v l) (hs : Sm l) (hl : l.length ≤ 9223372036854775807) (hz : s.size ≤ maxLen) (_ : p) :
 Calls Tryz.prog 5 #[v, .string s, .int .i64 e] w fun e w' => e = .returned (.bool true) ∧ Below w.heap.size w w' := by
 have hz : s.size ≤ 9223372036854775807 := by unfold maxLen at hz; omega
 have HAL : Hid (∀ W, Below w.heap.size w W → Calls Tryz.prog 8 #[] W fun e w' => e = .returned (.bool true) ∧ Below W.heap.size W w') := fun W hW => alive12_any W (ht.below hW)
 cases hb : onB l with
 | false =>
  have HON : Hid (Calls Tryz.prog 11 #[v] w fun e w' => e = .returned (.tuple #[.pointer none, .bool false]) ∧ Below w.heap.size w w') := on12_no w v l h hl hs hb
  obtain ⟨ad, cap, rfl⟩ := h.form
  clear h ht hs hb
  go_enter Tryz.func5, Tryz.ntmps5
  go_wp2_with (first
   | (go_at_call 11; refine HON.out.mono ?_; rintro e w1 ⟨rfl, hb1⟩; have HB1 : Hid (Below w.heap.size w w1) := hb1; clear hb1)
   | (go_at_call 8; refine (HAL.out _ HB1.out).mono ?_; rintro e w2 ⟨rfl, hb2⟩))
  go_ret
  exact ⟨rfl, HB1.out.trans (hb2.mono HB1.out.size)⟩
 | true =>
  have hC := on_ok hb
  have hfew := (built_all hC).2.2
  have HON : Hid (Calls Tryz.prog 11 #[v] w fun e w' => ∃ wb, e = .returned (.tuple #[.pointer (some ⟨wb, 0, none⟩), .bool true]) ∧ w.heap.size ≤ wb ∧ WkOn w' wb l ∧ Below w.heap.size w w') := on12_yes w ht v l h hl hs hb
  have hll := allL_len l s.data.toList e
  have hmg := Mg.mg_nothing (word := s) (e := e) hC
  obtain ⟨L, hL⟩ : ∃ L, allL l s.data.toList e = L := ⟨_, rfl⟩
  obtain ⟨C, hCC⟩ : ∃ C, allC s.data.toList e = C := ⟨_, rfl⟩
  have HALL : Hid (∀ W wb, WkOn W wb l → Calls Tryz.prog 12 #[.pointer (some ⟨wb, 0, none⟩), .string s, .int .i64 e] W fun x w' => ∃ ad cap, x = .returned (.tuple #[.slice ad L.length cap, .int .i64 C]) ∧ MRow w' (.slice ad L.length cap) L ∧ Below W.heap.size W w') := fun W wb hW => by rw [← hL, ← hCC]; exact All_told W wb l hW s e hz
  rw [hL] at hmg hll
  have HMG : Hid (∀ W a c, Below w.heap.size w W → MRow W (.slice a L.length c) L → Calls Tryz.prog 6 #[.slice a L.length c, .slice none 0 0, .string s, .int .i64 e] W fun x w' => ∃ ad cap, x = .returned (.tuple #[.slice ad L.length cap, .int .i64 C]) ∧ MRow w' (.slice ad L.length cap) L ∧ Below W.heap.size W w') := fun W a c hW hm => by
   have := Mg.Merge_told W (ht.below hW) _ _ L [] s e hm (PRow.nil W) (fun x hx => absurd hx List.not_mem_nil) hz (by omega) (by simp)
   rw [hmg, hCC] at this
   exact this
  obtain ⟨n, hn⟩ : ∃ n, L.length = n := ⟨_, rfl⟩
  have HSM : Hid (∀ W a c b d, MRow W (.slice a n c) L → MRow W (.slice b n d) L → Calls Tryz.prog 9 #[.slice a n c, .slice b n d] W fun e w' => e = .returned (.bool true) ∧ Below W.heap.size W w') := fun W a c b d g1 g2 => same12_told W _ _ L g1 g2 (by omega)
  rw [hn] at HALL HMG
  have hcc : (C == C) = true := by simp
  obtain ⟨ad, cap, rfl⟩ := h.form
  clear h ht hs hb hC hL hCC hn hll hmg
  go_enter Tryz.func5, Tryz.ntmps5
  go_wp2_with (first
   | (go_at_call 11; refine HON.out.mono ?_; rintro e w1 ⟨wb, rfl, hlo, hon, hb1⟩; have HB1 : Hid (Below w.heap.size w w1) := hb1; have HW : Hid (WkOn w1 wb l) := hon; clear hb1 hon hlo)
   | (go_at_call 12; refine (HALL.out _ _ HW.out).mono ?_; rintro x w2 ⟨a2, c2, rfl, hm2, hb2⟩; have HB2 : Hid (Below w.heap.size w w2) := HB1.out.trans (hb2.mono HB1.out.size); have HM2 : Hid (MRow w2 (.slice a2 n c2) L) := hm2; clear hb2 hm2)
   | (go_at_call 6; refine (HMG.out _ _ _ HB2.out HM2.out).mono ?_; rintro x w3 ⟨a3, c3, rfl, hm3, hb3⟩; have HB3 : Hid (Below w.heap.size w w3) := HB2.out.trans (hb3.mono HB2.out.size); have HM3 : Hid (MRow w3 (.slice a3 n c3) L) := hm3; have HM23 : Hid (MRow w3 (.slice a2 n c2) L) := HM2.out.below hb3; clear hb3 hm3)
   | (go_at_call 8; refine (HAL.out _ HB3.out).mono ?_; rintro e w4 ⟨rfl, hb4⟩; have HB4 : Hid (Below w.heap.size w w4) := HB3.out.trans (hb4.mono HB3.out.size); have HM4 : Hid (MRow w4 (.slice a3 n c3) L) := HM3.out.below hb4; have HM24 : Hid (MRow w4 (.slice a2 n c2) L) := HM23.out.below hb4; clear hb4)
   | (go_at_call 9; refine (HSM.out _ _ _ _ _ HM24.out HM4.out).mono ?_; rintro e w5 ⟨rfl, hb5⟩))
  go_ret
  exact ⟨by first | rfl | simp, HB4.out.trans (hb5.mono HB4.out.size)⟩
end Go.Proofs.YtncnefpkfbngaaaGreatDoor
