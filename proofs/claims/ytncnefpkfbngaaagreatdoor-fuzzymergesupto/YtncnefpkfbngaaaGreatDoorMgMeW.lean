/- FuzzyMerges: the law's own walk. -/
import Derived.Test.YtncnefpkfbngaaaGreatDoorMi
namespace Go.Proofs.YtncnefpkfbngaaaGreatDoor
open Go.RowKit Go.Shelf Go.Lib Nums Fm Pk Pm Fz Ed Lv
set_option maxRecDepth 100000

set_option maxHeartbeats 4000000 in
theorem fmerges_walk (v u : Value) (q : Mt) (w : World) (ht : Tabs w) (l : List Mt) (h : MRow w v l) (hs : ∀ x ∈ l, SmM x) (hl : l.length ≤ 1048576) (over : List Pr) (ho : PRow w u over) (hos : Sm over) (hol : over.length ≤ 1048576) (hob : ∀ x ∈ over, x.1.size ≤ 1048576) (hq : SmM q) :
 Calls Tryz.prog 3 #[v, u, .agg #[.string q.1, .int .i64 q.2.1, .int .i64 q.2.2]] w fun e w' => e = .returned (.bool true) ∧ Below w.heap.size w w' := by
 obtain ⟨s, e, be⟩ := q
 have hz : s.size ≤ 9223372036854775807 := hq
 simp only
 obtain ⟨W0, hW0⟩ : ∃ W0, w.alloc (.cells #[.string s, .int .i64 e, .int .i64 be] 25) = W0 := ⟨_, rfl⟩
 obtain ⟨qb, hqb⟩ : ∃ qb, w.heap.size = qb := ⟨_, rfl⟩
 have HB0 : Hid (Below w.heap.size w W0) := by show Below _ _ _; rw [← hW0]; exact (Below.refl _ w).alloc (Nat.le_refl _) _
 have HQ0 : Hid (∀ W, Below W0.heap.size W0 W → W.cell? ⟨qb, 0, none⟩ = some (.string s) ∧ W.cell? ⟨qb, 1, none⟩ = some (.int .i64 e)) := fun W hW => by
  have hlt : qb < W0.heap.size := by rw [← hW0, ← hqb]; simp
  exact ⟨(hW.cell (p := ⟨qb, 0, none⟩) hlt).trans (by rw [← hW0, ← hqb]; simp), (hW.cell (p := ⟨qb, 1, none⟩) hlt).trans (by rw [← hW0, ← hqb]; simp)⟩
 have HBW : Hid (∀ W, Below W0.heap.size W0 W → Below w.heap.size w W) := fun W hW => HB0.out.trans (hW.mono HB0.out.size)
 have HAL : Hid (∀ W, Below W0.heap.size W0 W → Calls Tryz.prog 8 #[] W fun e w' => e = .returned (.bool true) ∧ Below W.heap.size W w') := fun W hW => alive12_any W (ht.below (HBW.out W hW))
 have hll := Mg.mgL_len l over s.data.toList e
 obtain ⟨L, hL⟩ : ∃ L, Mg.mgL l over s.data.toList e = L := ⟨_, rfl⟩
 obtain ⟨C, hCC⟩ : ∃ C, allC s.data.toList e = C := ⟨_, rfl⟩
 rw [hL] at hll
 have HMG : Hid (∀ W, Below W0.heap.size W0 W → Calls Tryz.prog 6 #[v, u, .string s, .int .i64 e] W fun x w' => ∃ ad cap, x = .returned (.tuple #[.slice ad L.length cap, .int .i64 C]) ∧ MRow w' (.slice ad L.length cap) L ∧ Below W.heap.size W w') := fun W hW => by
  have := Mg.Merge_told W (ht.below (HBW.out W hW)) v u l over s e (h.below (HBW.out W hW)) (ho.below (HBW.out W hW)) hos hz (by omega) (by omega)
  rw [hL, hCC] at this
  exact this
 have HRM : Hid (∀ W, Below W0.heap.size W0 W → Calls Tryz.prog 7 #[v, u, .string s, .int .i64 e] W fun x w' => ∃ ad cap, x = .returned (.tuple #[.slice ad L.length cap, .int .i64 C]) ∧ MRow w' (.slice ad L.length cap) L ∧ Below W.heap.size W w') := fun W hW => by
  have := Mg.refMerge_told W v u l over s e (h.below (HBW.out W hW)) hs (ho.below (HBW.out W hW)) hos hob hz (by omega) (by omega)
  rw [hL, hCC] at this
  exact this
 obtain ⟨n, hn⟩ : ∃ n, L.length = n := ⟨_, rfl⟩
 have HSM : Hid (∀ W a c b d, MRow W (.slice a n c) L → MRow W (.slice b n d) L → Calls Tryz.prog 9 #[.slice a n c, .slice b n d] W fun e w' => e = .returned (.bool true) ∧ Below W.heap.size W w') := fun W a c b d g1 g2 => same12_told W _ _ L g1 g2 (by omega)
 rw [hn] at HMG HRM
 have hcc : (C == C) = true := by simp
 obtain ⟨ad, cap, rfl⟩ := h.form
 obtain ⟨bd, bap, rfl⟩ := ho.form
 have HE0 : Hid (w.alloc (.cells #[.string s, .int .i64 e, .int .i64 be] 25) = W0 ∧ w.heap.size = qb) := ⟨hW0, hqb⟩
 clear h ht hs hL hCC hn hll ho hos hob hq hW0 hqb hz
 go_enter Tryz.func3, Tryz.ntmps3
 go_upto_region 1 with fail
 rw [HE0.out.1, HE0.out.2]
 obtain ⟨c0, c1⟩ := HQ0.out W0 (Below.refl _ _)
 go_upto_region 2 with (go_at_call 6; refine (HMG.out _ (Below.refl _ _)).mono ?_; rintro x w2 ⟨a2, c2, rfl, hm2, hb2⟩; have HB2 : Hid (Below W0.heap.size W0 w2) := hb2; have HM2 : Hid (MRow w2 (.slice a2 n c2) L) := hm2; clear hb2 hm2 c0 c1)
 obtain ⟨d0, d1⟩ := HQ0.out w2 HB2.out
 go_wp2_with (first
  | (go_at_call 7; refine (HRM.out _ HB2.out).mono ?_; rintro x w3 ⟨a3, c3, rfl, hm3, hb3⟩; have HB3 : Hid (Below W0.heap.size W0 w3) := HB2.out.trans (hb3.mono HB2.out.size); have HM3 : Hid (MRow w3 (.slice a3 n c3) L) := hm3; have HM23 : Hid (MRow w3 (.slice a2 n c2) L) := HM2.out.below hb3; clear hb3 hm3 d0 d1)
  | (go_at_call 8; refine (HAL.out _ HB3.out).mono ?_; rintro e w4 ⟨rfl, hb4⟩; have HB4 : Hid (Below W0.heap.size W0 w4) := HB3.out.trans (hb4.mono HB3.out.size); have HM4 : Hid (MRow w4 (.slice a3 n c3) L) := HM3.out.below hb4; have HM24 : Hid (MRow w4 (.slice a2 n c2) L) := HM23.out.below hb4; clear hb4)
  | (go_at_call 9; refine (HSM.out _ _ _ _ _ HM24.out HM4.out).mono ?_; rintro e w5 ⟨rfl, hb5⟩))
 go_ret
 exact ⟨by first | rfl | simp, HBW.out _ (HB4.out.trans (hb5.mono HB4.out.size))⟩
end Go.Proofs.YtncnefpkfbngaaaGreatDoor
