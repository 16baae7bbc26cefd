/- pairs.Right. -/
import Derived.Test.YtjanhebckonbaaaDoorRightB
namespace Go.Proofs.YtjanhebckonbaaaDoor
open Go.RowKit Nums Pm
set_option maxRecDepth 100000

set_option maxHeartbeats 4000000 in
theorem Right_any (w : World) (v : Value) (l : List Pr) (h : PRow w v l) (hl : l.length ≤ 9223372036854775807) (hsm : Sm l) (ht : Tabs w) :
    Calls Tryd.prog 12 #[v] w fun e w' => e = .returned (.bool (rightP l)) ∧ Below w.heap.size w w' := by
  obtain ⟨ad, cap, rfl⟩ := h.form
  have HR : Hid (PRow w (.slice ad l.length cap) l) := h
  obtain ⟨n, hn⟩ : ∃ n, l.length = n := ⟨_, rfl⟩
  have HN : Hid (l.length = n) := hn
  have HS : Hid (Sm l) := hsm
  have HT : Hid (Tabs w) := ht
  rw [hn] at HR hl
  obtain ⟨F, hF⟩ : ∃ F, rightP l = F := ⟨_, rfl⟩
  have HF : Hid (rightP l = F) := hF
  clear h hsm ht
  rw [hn, hF]
  clear hn hF
  by_cases hbig : 4096 < n
  · have hbz : (4096 : Int) < (n : Int) := by omega
    have HE : Hid (F = false) := by show _ = _; rw [← HF.out]; exact right_long (by have := HN.out; omega)
    go_enter Tryd.func12, Tryd.ntmps12
    go_wp2
    go_ret
    exact ⟨by rw [HE.out]; rfl, Below.refl _ _⟩
  have hbz : ¬ (4096 : Int) < (n : Int) := by omega
  go_enter Tryd.func12, Tryd.ntmps12
  go_wp2
  go_loopg [3, 4, 10] n (fun g _ _ s10 wr => ∃ (k : Nat), s10 = .int .i64 k ∧ k ≤ n ∧ n - k ≤ g ∧ Hid (Below w.heap.size w wr) ∧ Hid (rightFrom (prevAt l k) (l.drop k) = F))
  case atStart => exact ⟨0, rfl, Nat.zero_le _, by omega, Below.refl _ _, by show _ = _; rw [← HF.out]; exact (right_start (by have := HN.out; omega)).symm⟩
  case round =>
    obtain ⟨k, rfl, hk, hg, HB, HK⟩ := hrel
    by_cases hlt : k < n
    · have hltz : (k : Int) < (n : Int) := by omega
      obtain ⟨x, hx⟩ : ∃ x, l[k]? = some x := ⟨l[k]'(by have := HN.out; omega), List.getElem?_eq_getElem _⟩
      obtain ⟨b, off, rfl, hb, hcell⟩ := (HR.out.below HB.out).at (by omega)
      obtain ⟨c0, c1⟩ := hcell k x hx
      have HX : Hid (l[k]? = some x) := hx
      obtain ⟨X, hXe⟩ : ∃ X : Obj, X = .cells #[.string x.1, .int .i64 x.2] 32 := ⟨_, rfl⟩
      have hw := fun (W : World) (ht : Tabs W) => Word_any x.1 W ht (HS.out.at hx)
      have HTA : Hid (∀ o, Tabs (wr.alloc o)) := fun o => (HT.out.below HB.out).below ((Below.refl _ wr).alloc (Nat.le_refl _) o)
      have HBA : Hid (∀ o q, Below w.heap.size w ((wr.alloc o).drewN q)) := fun o q => belowN (HB.out.alloc (by have := HB.out.size; omega) o) q
      clear hXe
      cases hwd : wordB x.1.data.toList
      · have HE : Hid (F = false) := by show _ = _; rw [← HK.out]; exact right_bad hx (one_word hwd)
        rw [hwd] at hw
        clear hcell hx hwd
        go_wp2_with (go_at_call 23; refine (hw _ (HTA.out _)).mono ?_; rintro e w2 ⟨rfl, q, rfl⟩)
        go_ret
        exact ⟨by rw [HE.out]; rfl, HBA.out _ _⟩
      · rw [hwd] at hw
        by_cases hlo : x.2 < 1
        · have HE : Hid (F = false) := by show _ = _; rw [← HK.out]; exact right_bad hx (one_low hlo)
          clear hcell hx hwd
          go_wp2_with (go_at_call 23; refine (hw _ (HTA.out _)).mono ?_; rintro e w2 ⟨rfl, q, rfl⟩)
          go_ret
          exact ⟨by rw [HE.out]; rfl, HBA.out _ _⟩
        · by_cases hhi : 1048576 < x.2
          · have HE : Hid (F = false) := by show _ = _; rw [← HK.out]; exact right_bad hx (one_high hhi)
            clear hcell hx hwd
            go_wp2_with (go_at_call 23; refine (hw _ (HTA.out _)).mono ?_; rintro e w2 ⟨rfl, q, rfl⟩)
            go_ret
            exact ⟨by rw [HE.out]; rfl, HBA.out _ _⟩
          · have HOK : Hid (oneOk x = true) := one_ok hwd hlo hhi
            clear hwd
            by_cases hk0 : k = 0
            · have HK2 : Hid (rightFrom (prevAt l (k + 1)) (l.drop (k + 1)) = F) := by show _ = _; rw [← HK.out]; subst hk0; exact (right_step0 HX.out HOK.out).symm
              have hk0z : ¬ (0 : Int) < (k : Int) := by omega
              have hgd : decide (0 < k) = false := decide_eq_false (by omega)
              have HF2 : Hid (∀ (W : World) (q : Nat), W = (wr.alloc (.cells #[.string x.1, .int .i64 x.2] 32)).drewN q → W.cell? ⟨wr.heap.size, 0, none⟩ = some (.string x.1) ∧ W.cell? ⟨wr.heap.size, 1, none⟩ = some (.int .i64 x.2) ∧ W.cell? ⟨b, off + k * 2, none⟩ = some (.string x.1) ∧ Hid (Below w.heap.size w W)) := fun W q e => by subst e; exact ⟨by simp, by simp, by have := ((Below.refl _ wr).alloc (Nat.le_refl _) (.cells #[.string x.1, .int .i64 x.2] 32)).cell (p := ⟨b, off + k * 2, none⟩) hb; exact this.trans c0, HBA.out _ _⟩
              clear hcell hx hk0
              go_wp2_with (go_at_call 23; refine (hw _ (HTA.out _)).mono ?_; rintro e w2 ⟨rfl, q, hq⟩; obtain ⟨q0, q1, q2, HBq⟩ := HF2.out _ _ hq; clear hq)
              go_quiet (fail)
              go_wp2
              have HB2 : Hid (Below w.heap.size w _) := belowN HBq.out nq
              go_roundg (n - (k + 1))
              case measure => omega
              case rel => exact ⟨k + 1, by go_num, by omega, Nat.le_refl _, HB2, HK2⟩
            · obtain ⟨kp, hkp⟩ : ∃ kp, kp + 1 = k := ⟨k - 1, by omega⟩
              have hk0z : (0 : Int) < (k : Int) := by omega
              have hgd : decide (0 < k) = true := decide_eq_true (by omega)
              have ekp : (k : Int) - 1 = (kp : Int) := by omega
              obtain ⟨y, hy⟩ : ∃ y, l[kp]? = some y := ⟨l[kp]'(by have := HN.out; omega), List.getElem?_eq_getElem _⟩
              obtain ⟨d0, d1⟩ := hcell kp y hy
              have rkp : IntKind.i64.wrap (kp : Int) = (kp : Int) := by rw [IntKind.wrap_i64]; omega
              have pkp : (0 : Int) ≤ (kp : Int) := by omega
              have bkp : (kp : Int) < (n : Int) := by omega
              have tkp : (kp : Int).toNat = kp := by omega
              have hls := fun W => pless_any y.1 x.1 W
              have HF2 : Hid (∀ (W : World) (q : Nat), W = (wr.alloc (.cells #[.string x.1, .int .i64 x.2] 32)).drewN q → W.cell? ⟨wr.heap.size, 0, none⟩ = some (.string x.1) ∧ W.cell? ⟨wr.heap.size, 1, none⟩ = some (.int .i64 x.2) ∧ W.cell? ⟨b, off + kp * 2, none⟩ = some (.string y.1) ∧ Hid (Below w.heap.size w W)) := fun W q e => by subst e; exact ⟨by simp, by simp, by have := ((Below.refl _ wr).alloc (Nat.le_refl _) (.cells #[.string x.1, .int .i64 x.2] 32)).cell (p := ⟨b, off + kp * 2, none⟩) hb; exact this.trans d0, HBA.out _ _⟩
              cases hyx : lessB y.1 x.1
              · have HE : Hid (F = false) := by show _ = _; rw [← HK.out, ← hkp]; exact right_low (by rw [hkp]; exact HX.out) hy hyx
                rw [hyx] at hls
                clear hcell hx hkp hy hyx hk0
                go_wp2_with (go_at_call 23; refine (hw _ (HTA.out _)).mono ?_; rintro e w2 ⟨rfl, q, hq⟩; obtain ⟨q0, q1, q2, HBq⟩ := HF2.out _ _ hq; clear hq)
                go_quiet (first | (go_at_call 24; refine Calls.quiet_of_same (hls _)))
                go_wp2
                go_ret
                exact ⟨by rw [HE.out]; rfl, belowN HBq.out nq⟩
              · have HK2 : Hid (rightFrom (prevAt l (k + 1)) (l.drop (k + 1)) = F) := by show _ = _; rw [← HK.out, ← hkp]; exact (right_step (by rw [hkp]; exact HX.out) hy HOK.out hyx).symm
                rw [hyx] at hls
                clear hcell hx hkp hy hyx hk0
                go_wp2_with (go_at_call 23; refine (hw _ (HTA.out _)).mono ?_; rintro e w2 ⟨rfl, q, hq⟩; obtain ⟨q0, q1, q2, HBq⟩ := HF2.out _ _ hq; clear hq)
                go_quiet (first | (go_at_call 24; refine Calls.quiet_of_same (hls _)))
                go_wp2
                have HB2 : Hid (Below w.heap.size w _) := belowN HBq.out nq
                go_roundg (n - (k + 1))
                case measure => omega
                case rel => exact ⟨k + 1, by go_num, by omega, Nat.le_refl _, HB2, HK2⟩
    · have hltz : ¬ (k : Int) < (n : Int) := by omega
      have HE : Hid (F = true) := by show _ = _; rw [← HK.out]; exact right_end (by have := HN.out; omega)
      go_wp2
      go_ret
      exact ⟨by rw [HE.out]; rfl, HB.out⟩
end Go.Proofs.YtjanhebckonbaaaDoor
