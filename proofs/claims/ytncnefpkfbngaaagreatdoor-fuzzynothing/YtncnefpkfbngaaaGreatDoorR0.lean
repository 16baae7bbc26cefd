/- Texts that were written apart, joined. -/
import Derived.Test.YtncnefpkfbngaaaGreatDoorGb
import Derived.Test.YtncnefpkfbngaaaGreatDoorJ6
/- What makes a list a dictionary: plain mathematics over rows. -/
namespace Go.Proofs.YtncnefpkfbngaaaGreatDoor
open Go.RowKit Nums Pm
set_option maxRecDepth 100000

def oneOk (x : Pr) : Bool := wordB x.1.data.toList && (decide (1 ≤ x.2) && decide (x.2 ≤ 1048576))
def rightFrom (p : Option Pr) : List Pr → Bool
 | [] => true
 | x :: r => oneOk x && (prevOk p x && rightFrom (some x) r)
/-- Is it a dictionary? -/
def rightP (l : List Pr) : Bool := decide (l.length ≤ 4096) && rightFrom none l
theorem right_long {l : List Pr} (h : ¬ l.length ≤ 4096) : rightP l = false := by simp [rightP, h]
theorem right_start {l : List Pr} (h : l.length ≤ 4096) : rightP l = rightFrom (prevAt l 0) (l.drop 0) := by simp [rightP, h, prevAt]
theorem right_bad {l : List Pr} {k : Nat} {x : Pr} (hx : l[k]? = some x) (h : oneOk x = false) : rightFrom (prevAt l k) (l.drop k) = false := by rw [drop_at l k x hx, rightFrom, h]; rfl
theorem right_low {l : List Pr} {k : Nat} {x y : Pr} (hx : l[k + 1]? = some x) (hy : l[k]? = some y) (h : lessB y.1 x.1 = false) : rightFrom (prevAt l (k + 1)) (l.drop (k + 1)) = false := by
 rw [drop_at l (k + 1) x hx, rightFrom, prevAt, hy, prevOk, h]
 simp
theorem right_step0 {l : List Pr} {x : Pr} (hx : l[0]? = some x) (h : oneOk x = true) : rightFrom (prevAt l 0) (l.drop 0) = rightFrom (prevAt l 1) (l.drop 1) := by
 rw [drop_at l 0 x hx, rightFrom, h, prevAt, prevAt, prevOk, hx]
 rfl
theorem right_step {l : List Pr} {k : Nat} {x y : Pr} (hx : l[k + 1]? = some x) (hy : l[k]? = some y) (h : oneOk x = true) (h2 : lessB y.1 x.1 = true) : rightFrom (prevAt l (k + 1)) (l.drop (k + 1)) = rightFrom (prevAt l (k + 1 + 1)) (l.drop (k + 1 + 1)) := by
 rw [drop_at l (k + 1) x hx, rightFrom, h, prevAt, prevAt, hy, prevOk, hx, h2]
 rfl
theorem right_end {l : List Pr} {k : Nat} (h : l.length ≤ k) : rightFrom (prevAt l k) (l.drop k) = true := by rw [List.drop_eq_nil_of_le h]; rfl
theorem one_wordP {x : Pr} (h : wordB x.1.data.toList = false) : oneOk x = false := by simp [oneOk, h]
theorem one_lowP {x : Pr} (h : x.2 < 1) : oneOk x = false := by simp [oneOk]; intro _ h2; omega
theorem one_highP {x : Pr} (h : 1048576 < x.2) : oneOk x = false := by simp [oneOk]; omega
theorem one_okP {x : Pr} (h : wordB x.1.data.toList = true) (h1 : ¬ x.2 < 1) (h2 : ¬ 1048576 < x.2) : oneOk x = true := by simp [oneOk, h]; omega
end Go.Proofs.YtncnefpkfbngaaaGreatDoor

/- The reference's Right. -/
namespace Go.Proofs.YtncnefpkfbngaaaGreatDoor
open Go.RowKit Nums Pm
set_option maxRecDepth 100000

set_option maxHeartbeats 4000000 in
theorem refRight_any (w : World) (v : Value) (l : List Pr) (h : PRow w v l) (hl : l.length ≤ 9223372036854775807) (hsm : Sm l) :
 Calls Tryz.prog 26 #[v] w fun e w' => e = .returned (.bool (rightP l)) ∧ Below w.heap.size w w' := by
 obtain ⟨ad, cap, rfl⟩ := h.form
 have HR : Hid (PRow w (.slice ad l.length cap) l) := h
 obtain ⟨n, hn⟩ : ∃ n, l.length = n := ⟨_, rfl⟩
 have HN : Hid (l.length = n) := hn
 have HS : Hid (Sm l) := hsm
 rw [hn] at HR hl
 obtain ⟨F, hF⟩ : ∃ F, rightP l = F := ⟨_, rfl⟩
 have HF : Hid (rightP l = F) := hF
 clear h hsm
 rw [hn, hF]
 clear hn hF
 by_cases hbig : 4096 < n
 · have hbz : (4096 : Int) < (n : Int) := by omega
   have HE : Hid (F = false) := by show _ = _; rw [← HF.out]; exact right_long (by have := HN.out; omega)
   go_enter Tryz.func26, Tryz.ntmps26
   go_wp2
   go_ret
   exact ⟨by rw [HE.out]; rfl, Below.refl _ _⟩
 have hbz : ¬ (4096 : Int) < (n : Int) := by omega
 go_enter Tryz.func26, Tryz.ntmps26
 go_wp2
 go_loopg [3, 4] n (fun g s3 _ wr => ∃ (k : Nat), s3 = .int .i64 k ∧ k ≤ n ∧ n - k ≤ g ∧ Hid (Below w.heap.size w wr) ∧ Hid (rightFrom (prevAt l k) (l.drop k) = F))
 case atStart => exact ⟨0, rfl, Nat.zero_le _, by omega, Below.refl _ _, by show _ = _; rw [← HF.out]; exact (right_start (by have := HN.out; omega)).symm⟩
 case round =>
  obtain ⟨k, rfl, hk, hg, HB, HK⟩ := hrel
  by_cases hlt : k < n
  · have hltz : (k : Int) < (n : Int) := by omega
    obtain ⟨x, hx⟩ : ∃ x, l[k]? = some x := ⟨l[k]'(by have := HN.out; omega), List.getElem?_eq_getElem _⟩
    obtain ⟨b, off, rfl, hb, hcell⟩ := (HR.out.below HB.out).at (by omega)
    obtain ⟨c0, c1⟩ := hcell k x hx
    have HX : Hid (l[k]? = some x) := hx
    have hw := fun (W : World) => RefWord_any x.1 W (HS.out.at hx)
    by_cases hk0 : k = 0
    · have HF2 : Hid (∀ (W : World), Below wr.heap.size wr W → W.cell? ⟨b, off + k * 2, none⟩ = some (.string x.1) ∧ W.cell? ⟨b, off + k * 2 + 1, none⟩ = some (.int .i64 x.2) ∧ True ∧ Hid (Below w.heap.size w W)) := fun W e => ⟨(e.cell (p := ⟨b, off + k * 2, none⟩) hb).trans c0, (e.cell (p := ⟨b, off + k * 2 + 1, none⟩) hb).trans c1, trivial, HB.out.trans (e.mono HB.out.size)⟩
      have hgd : decide (0 < k) = false := decide_eq_false (by omega)
      have hk0z : ¬ (0 : Int) < (k : Int) := by omega
      cases hwd : wordB x.1.data.toList
      · have HE : Hid (F = false) := by show _ = _; rw [← HK.out]; exact right_bad hx (one_wordP hwd)
        rw [hwd] at hw
        clear hcell hx hwd hk0
        go_wp2_with (go_at_call 25; refine (hw _).mono ?_; rintro e w2 ⟨rfl, hq⟩; obtain ⟨q0, q1, q2, HBq⟩ := HF2.out _ hq; clear hq)
        go_ret
        exact ⟨by rw [HE.out]; rfl, HBq.out⟩
      · rw [hwd] at hw
        by_cases hlo : x.2 < 1
        · have HE : Hid (F = false) := by show _ = _; rw [← HK.out]; exact right_bad hx (one_lowP hlo)
          clear hcell hx hwd hk0
          go_wp2_with (go_at_call 25; refine (hw _).mono ?_; rintro e w2 ⟨rfl, hq⟩; obtain ⟨q0, q1, q2, HBq⟩ := HF2.out _ hq; clear hq)
          go_ret
          exact ⟨by rw [HE.out]; rfl, HBq.out⟩
        · by_cases hhi : 1048576 < x.2
          · have HE : Hid (F = false) := by show _ = _; rw [← HK.out]; exact right_bad hx (one_highP hhi)
            clear hcell hx hwd hk0
            go_wp2_with (go_at_call 25; refine (hw _).mono ?_; rintro e w2 ⟨rfl, hq⟩; obtain ⟨q0, q1, q2, HBq⟩ := HF2.out _ hq; clear hq)
            go_ret
            exact ⟨by rw [HE.out]; rfl, HBq.out⟩
          · have HK2 : Hid (rightFrom (prevAt l (k + 1)) (l.drop (k + 1)) = F) := by show _ = _; rw [← HK.out]; subst hk0; exact (right_step0 HX.out (one_okP hwd hlo hhi)).symm
            clear hcell hx hwd hk0
            go_wp2_with (go_at_call 25; refine (hw _).mono ?_; rintro e w2 ⟨rfl, hq⟩; obtain ⟨q0, q1, q2, HBq⟩ := HF2.out _ hq; clear hq)
            go_quiet (fail)
            go_wp2
            have HB2 : Hid (Below w.heap.size w _) := belowN HBq.out nq
            go_roundg (n - (k + 1))
            case measure => omega
            case rel => exact ⟨k + 1, by go_num, by omega, Nat.le_refl _, HB2, HK2⟩
    · obtain ⟨kp, hkp⟩ : ∃ kp, kp + 1 = k := ⟨k - 1, by omega⟩
      have hk0z : (0 : Int) < (k : Int) := by omega
      have hgd : decide (0 < k) = true := decide_eq_true (by omega)
      have ekp : (k : Int) - 1 = (kp : Int) := by omega
      obtain ⟨y, hy⟩ : ∃ y, l[kp]? = some y := ⟨l[kp]'(by have := HN.out; omega), List.getElem?_eq_getElem _⟩
      obtain ⟨d0, d1⟩ := hcell kp y hy
      have rkp : IntKind.i64.wrap (kp : Int) = (kp : Int) := by rw [IntKind.wrap_i64]; omega
      have pkp : (0 : Int) ≤ (kp : Int) := by omega
      have bkp : (kp : Int) < (n : Int) := by omega
      have tkp : (kp : Int).toNat = kp := by omega
      have pk : (0 : Int) ≤ (k : Int) := by omega
      have tk : (k : Int).toNat = k := by omega
      have hls := fun W => ahead_any y.1 x.1 W (HS.out.at hy) (HS.out.at hx)
      have HF2 : Hid (∀ (W : World), Below wr.heap.size wr W → W.cell? ⟨b, off + k * 2, none⟩ = some (.string x.1) ∧ W.cell? ⟨b, off + k * 2 + 1, none⟩ = some (.int .i64 x.2) ∧ W.cell? ⟨b, off + kp * 2, none⟩ = some (.string y.1) ∧ Hid (Below w.heap.size w W)) := fun W e => ⟨(e.cell (p := ⟨b, off + k * 2, none⟩) hb).trans c0, (e.cell (p := ⟨b, off + k * 2 + 1, none⟩) hb).trans c1, (e.cell (p := ⟨b, off + kp * 2, none⟩) hb).trans d0, HB.out.trans (e.mono HB.out.size)⟩
      cases hwd : wordB x.1.data.toList
      · have HE : Hid (F = false) := by show _ = _; rw [← HK.out]; exact right_bad hx (one_wordP hwd)
        rw [hwd] at hw
        clear hcell hx hwd hk0 hkp hy
        go_wp2_with (go_at_call 25; refine (hw _).mono ?_; rintro e w2 ⟨rfl, hq⟩; obtain ⟨q0, q1, q2, HBq⟩ := HF2.out _ hq; clear hq)
        go_ret
        exact ⟨by rw [HE.out]; rfl, HBq.out⟩
      · rw [hwd] at hw
        by_cases hlo : x.2 < 1
        · have HE : Hid (F = false) := by show _ = _; rw [← HK.out]; exact right_bad hx (one_lowP hlo)
          clear hcell hx hwd hk0 hkp hy
          go_wp2_with (go_at_call 25; refine (hw _).mono ?_; rintro e w2 ⟨rfl, hq⟩; obtain ⟨q0, q1, q2, HBq⟩ := HF2.out _ hq; clear hq)
          go_ret
          exact ⟨by rw [HE.out]; rfl, HBq.out⟩
        · by_cases hhi : 1048576 < x.2
          · have HE : Hid (F = false) := by show _ = _; rw [← HK.out]; exact right_bad hx (one_highP hhi)
            clear hcell hx hwd hk0 hkp hy
            go_wp2_with (go_at_call 25; refine (hw _).mono ?_; rintro e w2 ⟨rfl, hq⟩; obtain ⟨q0, q1, q2, HBq⟩ := HF2.out _ hq; clear hq)
            go_ret
            exact ⟨by rw [HE.out]; rfl, HBq.out⟩
          · have HOK : Hid (oneOk x = true) := one_okP hwd hlo hhi
            cases hyx : lessB y.1 x.1
            · have HE : Hid (F = false) := by show _ = _; rw [← HK.out, ← hkp]; exact right_low (by rw [hkp]; exact HX.out) hy hyx
              rw [hyx] at hls
              clear hcell hx hkp hy hyx hk0 hwd
              go_wp2_with (go_at_call 25; refine (hw _).mono ?_; rintro e w2 ⟨rfl, hq⟩; obtain ⟨q0, q1, q2, HBq⟩ := HF2.out _ hq; clear hq)
              go_quiet (first | (go_at_call 41; refine Calls.quiet_of (hls _)))
              go_wp2
              go_ret
              exact ⟨by rw [HE.out]; rfl, belowN HBq.out nq⟩
            · have HK2 : Hid (rightFrom (prevAt l (k + 1)) (l.drop (k + 1)) = F) := by show _ = _; rw [← HK.out, ← hkp]; exact (right_step (by rw [hkp]; exact HX.out) hy HOK.out hyx).symm
              rw [hyx] at hls
              clear hcell hx hkp hy hyx hk0 hwd
              go_wp2_with (go_at_call 25; refine (hw _).mono ?_; rintro e w2 ⟨rfl, hq⟩; obtain ⟨q0, q1, q2, HBq⟩ := HF2.out _ hq; clear hq)
              go_quiet (first | (go_at_call 41; refine Calls.quiet_of (hls _)))
              go_wp2
              have HB2 : Hid (Below w.heap.size w _) := belowN HBq.out nq
              go_roundg (n - (k + 1))
              case measure => omega
              case rel => exact ⟨k + 1, by go_num, by omega, Nat.le_refl _, HB2, HK2⟩
  · have hltz : ¬ (k : Int) < (n : Int) := by omega
    have HE : Hid (F = true) := by show _ = _; rw [← HK.out]; exact right_end (by have := HN.out; omega)
    go_wp2
    go_ret
    exact ⟨by rw [HE.out]; rfl, HB.out⟩
end Go.Proofs.YtncnefpkfbngaaaGreatDoor
