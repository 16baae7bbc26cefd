/- The reference's Put and Norm. -/
import Derived.Test.YtjanhebckonbaaaDoorRightB
import Derived.Deep.Cut
namespace Go.Proofs.YtjanhebckonbaaaDoor
open Go.RowKit Nums Pm
set_option maxRecDepth 100000

/-- What Put has made of the first k pairs. -/
structure PutAt6 (l : List Pr) (p : Pr) (k : Nat) (done : Bool) (acc : List Pr) : Prop where
  len : acc.length ≤ k + (if done then 1 else 0)
  eq : acc ++ putP lessB p done (l.drop k) = putP lessB p false l
theorem PutAt6.start (l : List Pr) (p : Pr) : PutAt6 l p 0 false [] := ⟨by simp, by simp⟩
theorem PutAt6.step {l : List Pr} {p : Pr} {k : Nat} {done : Bool} {acc : List Pr} (h : PutAt6 l p k done acc) {x : Pr} (hx : l[k]? = some x) :
    PutAt6 l p (k + 1) (done || !(lessB x.1 p.1)) (acc ++ (if !done && !(lessB x.1 p.1) then [p] else []) ++ (if x.1 ≠ p.1 then [x] else [])) := by
  refine ⟨?_, by rw [← h.eq, drop_at l k x hx, putP_step]⟩
  have := h.len
  cases done <;> cases lessB x.1 p.1 <;> by_cases e : x.1 = p.1 <;> simp [e] at this ⊢ <;> omega
theorem PutAt6.fin {l : List Pr} {p : Pr} {k : Nat} {done : Bool} {acc : List Pr} (h : PutAt6 l p k done acc) (hk : l.length ≤ k) : acc ++ (if done then [] else [p]) = putP lessB p false l := by
  rw [← h.eq, List.drop_eq_nil_of_le hk]; rfl
set_option maxHeartbeats 4000000 in
theorem refPut_any (w : World) (v : Value) (l : List Pr) (p : Pr) (h : PRow w v l) (hl : l.length < 549755813888) (hsm : Sm l) (hps : p.1.size ≤ 9223372036854775807) :
    Calls Tryd.prog 28 #[v, .agg #[.string p.1, .int .i64 p.2]] w fun e w' => ∃ v', e = .returned v' ∧ POwn w.heap.size w' v' (put lessB l p) ∧ Below w.heap.size w w' := by
  obtain ⟨ad, cap, rfl⟩ := h.form
  have HR : Hid (PRow w (.slice ad l.length cap) l) := h
  obtain ⟨n, hn⟩ : ∃ n, l.length = n := ⟨_, rfl⟩
  have HN : Hid (l.length = n) := hn
  have HS : Hid (Sm l) := hsm
  have HPS : Hid (p.1.size ≤ 9223372036854775807) := hps
  rw [hn] at HR hl
  clear h hsm hps
  rw [hn]
  clear hn
  go_enter Tryd.func28, Tryd.ntmps28
  go_wp2
  obtain ⟨w1, hw1⟩ : ∃ w1, w1 = w.alloc (.cells #[.string p.1, .int .i64 p.2] 32) := ⟨_, rfl⟩
  rw [← hw1]
  have HW1 : Hid (Below w.heap.size w w1) := by show Below _ _ _; rw [hw1]; exact (Below.refl _ w).alloc (Nat.le_refl _) _
  have HTP : Hid (TwoAt w1 w.heap.size 0 p) := by show TwoAt _ _ _ _; rw [hw1]; exact TwoAt.new w p _
  have HR1 : Hid (PRow w1 (.slice ad n cap) l) := HR.out.below HW1.out
  have hbp : w.heap.size < w1.heap.size := by rw [hw1]; simp
  have HFR : Hid (∀ W v' m, POwn w1.heap.size W v' m → Below w1.heap.size w1 W → POwn w.heap.size W v' m ∧ Below w.heap.size w W) := fun W v' m h1 h2 => ⟨h1.mono (by omega), HW1.out.trans (h2.mono (by omega))⟩
  clear hw1 HR HW1
  generalize hbe : w.heap.size = bp at hbp HTP HFR
  have HBE : Hid (w.heap.size = bp) := hbe
  clear hbe
  go_loopg [5, 6, 7] n (fun g s5 s6 s7 wr => ∃ (k : Nat) (done : Bool) (acc : List Pr), s6 = .bool done ∧ s7 = .int .i64 k ∧ k ≤ n ∧ n - k ≤ g ∧ Hid (PutAt6 l p k done acc) ∧ Hid (POwn w1.heap.size wr s5 acc) ∧ Hid (Below w1.heap.size w1 wr))
  case atStart => exact ⟨0, false, [], rfl, rfl, Nat.zero_le _, by omega, PutAt6.start l p, POwn.nil _ _, Below.refl _ _⟩
  case round =>
    obtain ⟨k, done, acc, rfl, rfl, hk, hg, HP, HO, HB⟩ := hrel
    by_cases hlt : k < n
    · have hltz : (k : Int) < (n : Int) := by omega
      obtain ⟨x, hx⟩ : ∃ x, l[k]? = some x := ⟨l[k]'(by have := HN.out; omega), List.getElem?_eq_getElem _⟩
      obtain ⟨b, off, rfl, hb, hcell⟩ := HR1.out.at (by omega)
      have HX : Hid (l[k]? = some x) := hx
      have HT : Hid (∀ W, Below w1.heap.size w1 W → TwoAt W b (off + k * 2) x ∧ TwoAt W bp 0 p) := fun W hW => ⟨(hcell k x hx).below hb hW, HTP.out.below hbp hW⟩
      have hls := fun W => ahead_any x.1 p.1 W (HS.out.at hx) HPS.out
      obtain ⟨⟨c0, c1⟩, ⟨d0, d1⟩⟩ := HT.out wr HB.out
      rw [Nat.zero_add] at d1
      have HLZ0 : Hid (acc.length ≤ k + 1) := by have := HP.out.len; show _ ≤ _; cases done <;> simp at this <;> omega
      clear hcell hx
      cases done
      · cases hlx : lessB x.1 p.1
        · have HSTEP : Hid (∀ tail, (if x.1 ≠ p.1 then [x] else []) = tail → PutAt6 l p (k + 1) true (acc ++ [p] ++ tail)) := by
            show ∀ tail, _
            intro tail ht
            have h := HP.out.step HX.out
            rw [hlx, ht] at h
            exact h
          rw [hlx] at hls
          clear hlx
          go_wp2_with fail
          go_quiet (first | (go_at_call 26; refine Calls.quiet_of (hls _)))
          have HOq : Hid (POwn w1.heap.size (wr.drewN nq) u5 acc) := HO.out.below (belowN (Below.refl _ wr) nq)
          have hWn : (wr.drewN nq).heap.size = wr.heap.size := rfl
          have HBq : Hid (Below w1.heap.size w1 (wr.drewN nq)) := belowN HB.out nq
          go_wp2_with (at_builtin; refine append_x (by rfl) _ _ p _ rfl w1.heap.size _ _ _ acc rfl HOq.out rfl hWn.symm (by have := HLZ0.out; omega) HBq.out.size ?_)
          intro uz wz hr2 hb2
          obtain ⟨accz, hac⟩ : ∃ accz, accz = acc ++ [p] := ⟨_, rfl⟩
          have HOz : Hid (POwn w1.heap.size wz uz accz) := by show POwn _ _ _ _; rw [hac]; exact hr2
          have HBz : Hid (Below w1.heap.size w1 wz) := HBq.out.trans hb2
          have HLZ : Hid (accz.length ≤ k + 2) := by have := HLZ0.out; show _ ≤ _; rw [hac]; simp; omega
          rw [← hac] at HSTEP
          obtain ⟨⟨z0, z1⟩, ⟨y0, y1⟩⟩ := HT.out wz HBz.out
          rw [Nat.zero_add] at y1
          obtain ⟨dz, hdz⟩ : ∃ dz, dz = true := ⟨_, rfl⟩
          rw [← hdz] at HSTEP
          have HDZ : Hid (dz = true) := hdz
          clear hr2 hb2 hac HOq HBq hWn c0 c1 d0 d1 hdz
          go_upto_region 9 with fail
          by_cases hxp : x.1 = p.1
          · have hs : (x.1.toList == p.1.toList) = true := by rw [strEq]; exact decide_eq_true hxp
            have HST : Hid (PutAt6 l p (k + 1) dz accz) := by
              have h := HSTEP.out [] (if_neg (fun e => e hxp))
              rw [List.append_nil] at h
              exact h
            clear hxp
            go_wp2_with fail
            go_quiet (fail)
            have HOy : Hid (POwn w1.heap.size (wz.drewN nq) uz accz) := HOz.out.below (belowN (Below.refl _ wz) nq)
            have HBy : Hid (Below w1.heap.size w1 (wz.drewN nq)) := belowN HBz.out nq
            go_wp2_with fail
            go_roundg (n - (k + 1))
            case measure => omega
            case rel =>
              have HST2 := HST.out
              rw [HDZ.out] at HST2
              exact ⟨k + 1, _, _, rfl, by go_num, by omega, Nat.le_refl _, HST2, HOy, HBy⟩
          · have hs : (x.1.toList == p.1.toList) = false := by rw [strEq]; exact decide_eq_false hxp
            have HST : Hid (PutAt6 l p (k + 1) dz (accz ++ [x])) := HSTEP.out [x] (if_pos hxp)
            clear hxp
            go_wp2_with fail
            go_quiet (fail)
            have HOq : Hid (POwn w1.heap.size (wz.drewN nq) uz accz) := HOz.out.below (belowN (Below.refl _ wz) nq)
            have hWn : (wz.drewN nq).heap.size = wz.heap.size := rfl
            have HBq : Hid (Below w1.heap.size w1 (wz.drewN nq)) := belowN HBz.out nq
            go_wp2_with (at_builtin; refine append_x (by rfl) _ _ x _ rfl w1.heap.size _ _ _ accz rfl HOq.out rfl hWn.symm (by have := HLZ.out; omega) HBq.out.size ?_)
            intro v4 w4 hr4 hb4
            have HOy : Hid (POwn w1.heap.size w4 v4 (accz ++ [x])) := hr4
            have HBy : Hid (Below w1.heap.size w1 w4) := HBq.out.trans hb4
            clear hr4 hb4
            go_wp2_with fail
            go_roundg (n - (k + 1))
            case measure => omega
            case rel =>
              have HST2 := HST.out
              rw [HDZ.out] at HST2
              exact ⟨k + 1, _, _, rfl, by go_num, by omega, Nat.le_refl _, HST2, HOy, HBy⟩
        · have HSTEP : Hid (∀ tail, (if x.1 ≠ p.1 then [x] else []) = tail → PutAt6 l p (k + 1) false (acc ++ tail)) := by
            show ∀ tail, _
            intro tail ht
            have h := HP.out.step HX.out
            rw [hlx, ht] at h
            simpa using h
          rw [hlx] at hls
          clear hlx
          go_wp2_with fail
          go_quiet (first | (go_at_call 26; refine Calls.quiet_of (hls _)))
          obtain ⟨accz, hac⟩ : ∃ accz, accz = acc := ⟨_, rfl⟩
          obtain ⟨uz, huz⟩ : ∃ uz, uz = u5 := ⟨_, rfl⟩
          obtain ⟨dz, hdz⟩ : ∃ dz, dz = false := ⟨_, rfl⟩
          rw [← hac, ← hdz] at HSTEP
          rw [← hac, ← huz] at HO
          rw [← huz]
          have HDZ : Hid (dz = false) := hdz
          have HLZ : Hid (accz.length ≤ k + 2) := by have := HLZ0.out; show _ ≤ _; rw [hac]; omega
          clear hac hdz huz
          obtain ⟨wz, hwz⟩ : ∃ wz, wz = wr.drewN nq := ⟨_, rfl⟩
          rw [← hwz]
          have HOz : Hid (POwn w1.heap.size wz uz accz) := by show POwn _ _ _ _; rw [hwz]; exact HO.out.below (belowN (Below.refl _ wr) nq)
          have HBz : Hid (Below w1.heap.size w1 wz) := by show Below _ _ _; rw [hwz]; exact belowN HB.out nq
          obtain ⟨⟨z0, z1⟩, ⟨y0, y1⟩⟩ := HT.out wz HBz.out
          rw [Nat.zero_add] at y1
          clear hwz c0 c1 d0 d1
          go_upto_region 9 with fail
          by_cases hxp : x.1 = p.1
          · have hs : (x.1.toList == p.1.toList) = true := by rw [strEq]; exact decide_eq_true hxp
            have HST : Hid (PutAt6 l p (k + 1) dz accz) := by
              have h := HSTEP.out [] (if_neg (fun e => e hxp))
              rw [List.append_nil] at h
              exact h
            clear hxp
            go_wp2_with fail
            go_quiet (fail)
            have HOy : Hid (POwn w1.heap.size (wz.drewN nq) uz accz) := HOz.out.below (belowN (Below.refl _ wz) nq)
            have HBy : Hid (Below w1.heap.size w1 (wz.drewN nq)) := belowN HBz.out nq
            go_wp2_with fail
            go_roundg (n - (k + 1))
            case measure => omega
            case rel =>
              have HST2 := HST.out
              rw [HDZ.out] at HST2
              exact ⟨k + 1, _, _, rfl, by go_num, by omega, Nat.le_refl _, HST2, HOy, HBy⟩
          · have hs : (x.1.toList == p.1.toList) = false := by rw [strEq]; exact decide_eq_false hxp
            have HST : Hid (PutAt6 l p (k + 1) dz (accz ++ [x])) := HSTEP.out [x] (if_pos hxp)
            clear hxp
            go_wp2_with fail
            go_quiet (fail)
            have HOq : Hid (POwn w1.heap.size (wz.drewN nq) uz accz) := HOz.out.below (belowN (Below.refl _ wz) nq)
            have hWn : (wz.drewN nq).heap.size = wz.heap.size := rfl
            have HBq : Hid (Below w1.heap.size w1 (wz.drewN nq)) := belowN HBz.out nq
            go_wp2_with (at_builtin; refine append_x (by rfl) _ _ x _ rfl w1.heap.size _ _ _ accz rfl HOq.out rfl hWn.symm (by have := HLZ.out; omega) HBq.out.size ?_)
            intro v4 w4 hr4 hb4
            have HOy : Hid (POwn w1.heap.size w4 v4 (accz ++ [x])) := hr4
            have HBy : Hid (Below w1.heap.size w1 w4) := HBq.out.trans hb4
            clear hr4 hb4
            go_wp2_with fail
            go_roundg (n - (k + 1))
            case measure => omega
            case rel =>
              have HST2 := HST.out
              rw [HDZ.out] at HST2
              exact ⟨k + 1, _, _, rfl, by go_num, by omega, Nat.le_refl _, HST2, HOy, HBy⟩
      · have HSTEP : Hid (∀ tail, (if x.1 ≠ p.1 then [x] else []) = tail → PutAt6 l p (k + 1) true (acc ++ tail)) := by
          show ∀ tail, _
          intro tail ht
          have h := HP.out.step HX.out
          rw [ht] at h
          simpa using h
        go_wp2_with fail
        go_quiet (fail)
        obtain ⟨accz, hac⟩ : ∃ accz, accz = acc := ⟨_, rfl⟩
        obtain ⟨uz, huz⟩ : ∃ uz, uz = u5 := ⟨_, rfl⟩
        obtain ⟨dz, hdz⟩ : ∃ dz, dz = true := ⟨_, rfl⟩
        rw [← hac, ← hdz] at HSTEP
        rw [← hac, ← huz] at HO
        rw [← huz]
        have HDZ : Hid (dz = true) := hdz
        have HLZ : Hid (accz.length ≤ k + 2) := by have := HLZ0.out; show _ ≤ _; rw [hac]; omega
        clear hac hdz huz
        obtain ⟨wz, hwz⟩ : ∃ wz, wz = wr.drewN nq := ⟨_, rfl⟩
        rw [← hwz]
        have HOz : Hid (POwn w1.heap.size wz uz accz) := by show POwn _ _ _ _; rw [hwz]; exact HO.out.below (belowN (Below.refl _ wr) nq)
        have HBz : Hid (Below w1.heap.size w1 wz) := by show Below _ _ _; rw [hwz]; exact belowN HB.out nq
        obtain ⟨⟨z0, z1⟩, ⟨y0, y1⟩⟩ := HT.out wz HBz.out
        rw [Nat.zero_add] at y1
        clear hwz c0 c1 d0 d1
        go_upto_region 9 with fail
        by_cases hxp : x.1 = p.1
        · have hs : (x.1.toList == p.1.toList) = true := by rw [strEq]; exact decide_eq_true hxp
          have HST : Hid (PutAt6 l p (k + 1) dz accz) := by
            have h := HSTEP.out [] (if_neg (fun e => e hxp))
            rw [List.append_nil] at h
            exact h
          clear hxp
          go_wp2_with fail
          go_quiet (fail)
          have HOy : Hid (POwn w1.heap.size (wz.drewN nq) uz accz) := HOz.out.below (belowN (Below.refl _ wz) nq)
          have HBy : Hid (Below w1.heap.size w1 (wz.drewN nq)) := belowN HBz.out nq
          go_wp2_with fail
          go_roundg (n - (k + 1))
          case measure => omega
          case rel =>
            have HST2 := HST.out
            rw [HDZ.out] at HST2
            exact ⟨k + 1, _, _, rfl, by go_num, by omega, Nat.le_refl _, HST2, HOy, HBy⟩
        · have hs : (x.1.toList == p.1.toList) = false := by rw [strEq]; exact decide_eq_false hxp
          have HST : Hid (PutAt6 l p (k + 1) dz (accz ++ [x])) := HSTEP.out [x] (if_pos hxp)
          clear hxp
          go_wp2_with fail
          go_quiet (fail)
          have HOq : Hid (POwn w1.heap.size (wz.drewN nq) uz accz) := HOz.out.below (belowN (Below.refl _ wz) nq)
          have hWn : (wz.drewN nq).heap.size = wz.heap.size := rfl
          have HBq : Hid (Below w1.heap.size w1 (wz.drewN nq)) := belowN HBz.out nq
          go_wp2_with (at_builtin; refine append_x (by rfl) _ _ x _ rfl w1.heap.size _ _ _ accz rfl HOq.out rfl hWn.symm (by have := HLZ.out; omega) HBq.out.size ?_)
          intro v4 w4 hr4 hb4
          have HOy : Hid (POwn w1.heap.size w4 v4 (accz ++ [x])) := hr4
          have HBy : Hid (Below w1.heap.size w1 w4) := HBq.out.trans hb4
          clear hr4 hb4
          go_wp2_with fail
          go_roundg (n - (k + 1))
          case measure => omega
          case rel =>
            have HST2 := HST.out
            rw [HDZ.out] at HST2
            exact ⟨k + 1, _, _, rfl, by go_num, by omega, Nat.le_refl _, HST2, HOy, HBy⟩
    · have hltz : ¬ (k : Int) < (n : Int) := by omega
      cases done
      · have HF : Hid (acc ++ [p] = putP lessB p false l) := by show _ = _; have := HP.out.fin (by have := HN.out; omega); simpa using this
        obtain ⟨d0, d1⟩ := HTP.out.below hbp HB.out
        rw [Nat.zero_add] at d1
        have HL0 : Hid (acc.length ≤ k) := by have := HP.out.len; show _ ≤ _; simpa using this
        go_wp2_with (at_builtin; refine append_x (by rfl) _ _ p _ rfl w1.heap.size _ _ _ acc rfl HO.out rfl rfl (by have := HL0.out; omega) HB.out.size ?_)
        intro v2 w2 hr2 hb2
        go_wp2_with fail
        go_ret
        obtain ⟨r1, r2⟩ := HFR.out _ _ _ hr2 (HB.out.trans hb2)
        rw [HBE.out]
        refine ⟨_, rfl, ?_, r2⟩
        show POwn _ _ _ (putP lessB p false l)
        rw [← HF.out]
        exact r1
      · have HF : Hid (acc = putP lessB p false l) := by show _ = _; have := HP.out.fin (by have := HN.out; omega); simpa using this
        go_wp2
        go_ret
        obtain ⟨r1, r2⟩ := HFR.out _ _ _ HO.out HB.out
        rw [HBE.out]
        refine ⟨_, rfl, ?_, r2⟩
        show POwn _ _ _ (putP lessB p false l)
        rw [← HF.out]
        exact r1
end Go.Proofs.YtjanhebckonbaaaDoor
