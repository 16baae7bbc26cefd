/- The keeper's Add. -/
import Derived.Test.YtmpfcdffpjocnaaBtKeeper
import Derived.Calls
namespace Go.Proofs.Ytmpfcdffpjocnaa
open Go.RowKit Go.Lib Nums Pm
set_option maxRecDepth 100000
namespace Bt
/-- Is the match kept? -/
def wantB (k : Nat) (out : List Mt) (m : Mt) : Bool := decide (out.length < k) || (decide (0 < k) && btr m (el out (k - 1)))
/-- What Add comes to. -/
structure AddSays (B : Nat) (w w' : World) (p : Nat) (room : Int) (v : Value) (out : List Mt) (m : Mt) : Prop where
  ex : ∃ v' h', KAt B w' p room v' h' ∧ Kp room.toNat (stp room.toNat out m) h' ∧ Nxt w v v'
  up : Upd (KF p v) w w'
/-- What the last region looks at. -/
def SAdd (mb : Nat) (m : Mt) (W : World) : Prop := W.heap[mb]? = some (.cells (cellsM m).toArray 23)
theorem SAdd.facts {mb : Nat} {m : Mt} {W : World} (h : SAdd mb m W) : W.cell? ⟨mb, 0, none⟩ = some (.string m.1) ∧ W.cell? ⟨mb, 1, none⟩ = some (.int .i64 m.2.1) ∧ W.cell? ⟨mb, 2, none⟩ = some (.int .i64 m.2.2) := own_cells h
theorem add_push {B : Nat} {w wz : World} {p : Nat} {room : Int} {v v1 : Value} {h1 out : List Mt} {m : Mt} {mb : Nat} (K1 : KAt B wz p room v1 h1) (H1 : Hp h1.length h1) (hl : h1.length < 549755813888) (hx : v1.ownBlock = v.ownBlock) (hu : Upd (KF p v) w wz) (hS : SAdd mb m wz) (hmk : ∀ k, KF p v k → k < mb) (hKp : ∀ h', h'.Perm (h1 ++ [m]) → Hp h'.length h' → Kp room.toNat (stp room.toNat out m) h') :
    Calls Try.prog 24 #[pileI p, .iface 23 (valM m)] wz.drew fun e w' => e = .returned (.tuple #[]) ∧ SAdd mb m w' ∧ AddSays B w w' p room v out m := by
  have hb : Below wz.heap.size wz wz.drew := (Below.refl _ wz).drew
  have e : KF p v1 = KF p v := by funext k; unfold KF; rw [hx]
  refine (Push_any B wz.drew p room v1 h1 m (K1.below hb) H1 hl).mono ?_
  rintro e' w' ⟨rfl, v', h', hK, hu', hx', hp, hh⟩
  rw [e] at hu'
  refine ⟨rfl, ?_, ⟨v', h', hK, hKp h' hp hh, ?_⟩, (hu.trans (G := fun _ => False) (upd_of_below hb) (fun _ _ f => f.elim)).trans hu' (fun _ _ f => f)⟩
  · unfold SAdd at hS ⊢
    rw [hu'.block mb (Array.getElem?_eq_some_iff.1 hS).1 (fun f => by have := hmk mb f; omega)]
    exact hS
  · rcases hx' with e2 | ⟨g, e2, hg⟩
    · exact .inl (e2.trans hx)
    · exact .inr ⟨g, e2, Nat.le_trans hu.size hg⟩
theorem wantB_room {k : Nat} {out : List Mt} (m : Mt) (h : out.length < k) : wantB k out m = true := by unfold wantB; rw [decide_eq_true h]; rfl
theorem el_last (ini : List Mt) (z : Mt) : el (ini ++ [z]) ini.length = z := by unfold el; simp
theorem wantB_full {k : Nat} {ini : List Mt} {z : Mt} (m : Mt) (hk : k = ini.length + 1) : wantB k (ini ++ [z]) m = btr m z := by
  unfold wantB
  rw [decide_eq_false (by simp; omega), decide_eq_true (show 0 < k by omega), show k - 1 = ini.length by omega, el_last]
  simp
theorem wantB_zero {k : Nat} (m : Mt) (hk : k = 0) : wantB k [] m = false := by subst hk; rfl
theorem after_worst {B : Nat} {w wz w2 : World} {p : Nat} {room : Int} {v : Value} {h : List Mt} {m : Mt} {mb : Nat} (K : KAt B wz p room v h) (hS : SAdd mb m wz) (hu : Upd (KF p v) w wz) (hb2 : Below wz.heap.size wz w2) (x : Mt) :
    ∃ W3, storeM Try.prog (.pointer (some ⟨w2.heap.size, 0, none⟩)) (valM x) (w2.alloc (.cells #[.string ⟨#[]⟩, .int .i64 0, .int .i64 0] 23)) = .ok () W3 ∧ Hid (KAt B W3 p room v h ∧ SAdd mb m W3 ∧ Upd (KF p v) w W3) ∧ loadM Try.prog (.pointer (some ⟨mb, 0, none⟩)) W3 = .ok (valM m) W3 ∧ loadM Try.prog (.pointer (some ⟨w2.heap.size, 0, none⟩)) W3 = .ok (valM x) W3 := by
  obtain ⟨V3, hV3⟩ : ∃ V3, w2.alloc (.cells #[.string ⟨#[]⟩, .int .i64 0, .int .i64 0] 23) = V3 := ⟨_, rfl⟩
  have hb3 : Below w2.heap.size w2 V3 := by rw [← hV3]; exact (Below.refl _ w2).alloc (Nat.le_refl _) _
  have hn3 : V3.heap[w2.heap.size]? = some (.cells #[.string ⟨#[]⟩, .int .i64 0, .int .i64 0] 23) := by rw [← hV3]; exact alloc_newM _ _
  obtain ⟨W3, hst, hu3, hc3⟩ := own_store V3 w2.heap.size _ _ _ hn3 x
  have hbz3 : Below wz.heap.size wz V3 := hb2.trans (hb3.mono hb2.size)
  have hb33 : Below wz.heap.size wz W3 := hbz3.trans (hu3.below (B := wz.heap.size) (fun k e => by have : k = w2.heap.size := e; have := hb2.size; omega) hbz3.size)
  have HS3 : SAdd mb m W3 := by
    unfold SAdd
    rw [hb33.block mb (Array.getElem?_eq_some_iff.1 hS).1]
    exact hS
  rw [hV3]
  exact ⟨W3, hst, ⟨K.below hb33, HS3, hu.trans (G := fun _ => False) (upd_of_below hb33) (fun _ _ f => f.elim)⟩, own_load HS3, own_load hc3⟩
attribute [local go_sem ↓] exec_load_M exec_store_M
set_option maxHeartbeats 2000000 in
theorem Add_any (B : Nat) (w : World) (p : Nat) (room : Int) (v : Value) (h out : List Mt) (m : Mt) (K : KAt B w p room v h) (KP : Kp room.toNat out h) (hr : room ≤ 64) :
    Calls Try.prog 17 #[.pointer (some ⟨p, 0, none⟩), valM m] w fun e w' => e = .returned (.bool (wantB room.toNat out m)) ∧ AddSays B w w' p room v out m := by
  obtain ⟨V1, hV1⟩ : ∃ V1, w.alloc (.cells #[.string m.1, .int .i64 m.2.1, .int .i64 m.2.2] 23) = V1 := ⟨_, rfl⟩
  obtain ⟨mb, hmb⟩ : ∃ mb, w.heap.size = mb := ⟨_, rfl⟩
  have hb1 : Below w.heap.size w V1 := by rw [← hV1]; exact (Below.refl _ w).alloc (Nat.le_refl _) _
  have HN1 : Hid (SAdd mb m V1) := by show SAdd mb m V1; unfold SAdd; rw [← hV1, ← hmb]; exact alloc_newM _ _
  have HK1 : Hid (KAt B V1 p room v h) := K.below hb1
  have HB1 : Hid (Below w.heap.size w V1) := hb1
  have HMK : Hid (∀ k, KF p v k → k < mb) := fun k hk => by
    rcases hk with rfl | hk
    · have := K.lt; omega
    · have := K.row.lt hk; omega
  have HKP : Hid (Kp room.toNat out h) := KP
  have HMB : Hid (w.heap.size = mb) := hmb
  have HLO := KP.same_len
  have c0 := HK1.out.c0
  have HL : ∀ q, Calls Try.prog 18 #[.pointer (some ⟨p, 0, none⟩)] (V1.drewN q) fun e w' => e = .returned (.int .i64 h.length) ∧ w' = V1.drewN q := fun q => Klen_any B (V1.drewN q) p room v h (HK1.out.below (belowN (Below.refl _ _) q))
  obtain ⟨n, hn⟩ : ∃ n, h.length = n := ⟨_, rfl⟩
  have HN : Hid (h.length = n) := hn
  rw [hn] at HL
  unfold valM
  clear K KP hb1
  by_cases c : (n : Int) ≥ room
  · have hcb : decide ((n : Int) ≥ room) = true := decide_eq_true c
    have hc2 : room ≤ (n : Int) := c
    by_cases hn0 : n = 0
    · subst hn0
      have HH : Hid (h = []) := List.length_eq_zero_iff.1 HN.out
      have HO : Hid (out = []) := List.length_eq_zero_iff.1 (by have := HLO; have := HN.out; omega)
      have HWB : Hid (wantB room.toNat out m = false) := by show _ = _; rw [HO.out]; exact wantB_zero m (by omega)
      have HT : Hid (room.toNat = 0) := by show room.toNat = 0; omega
      have HWO : Hid (∀ W, KAt B W p room v h → Calls Try.prog 19 #[.pointer (some ⟨p, 0, none⟩)] W fun e w' => e = .returned (.tuple #[valM (el h 0), .bool false]) ∧ Below W.heap.size W w') := fun W hW => by
        have := Worst_any B W p room v h hW
        rw [HN.out] at this
        exact this
      have hc3 : decide (room ≤ 0) = true := decide_eq_true (by omega)
      have hc4 : room ≤ 0 := by omega
      clear HLO hn
      go_enter Try.func17, Try.ntmps17
      go_wp2_with fail
      go_quiet ((go_at_call 18; exact Calls.quiet_of_same (HL _)))
      obtain ⟨wz, hwz⟩ : ∃ wz, wz = V1.drewN nq := ⟨_, rfl⟩
      have HBZ : Hid (Below V1.heap.size V1 wz) := by show Below _ _ _; rw [hwz]; exact belowN (Below.refl _ _) nq
      have HKZ : Hid (KAt B wz p room v h) := HK1.out.below HBZ.out
      have HSZ : Hid (SAdd mb m wz) := by show SAdd mb m wz; rw [hwz]; exact HN1.out
      have HUZ : Hid (Upd (KF p v) w wz) := (upd_of_below HB1.out).trans (G := fun _ => False) (upd_of_below HBZ.out) (fun _ _ f => f.elim)
      rw [← hwz]
      clear hwz HL c0
      clear hV1 hmb
      go_upto_region 2 with fail
      go_wp2_with (go_at_call 19; refine (HWO.out wz HKZ.out).mono ?_; rintro e w2 ⟨rfl, hb2⟩; obtain ⟨W3, hst, H3, lm, lx⟩ := after_worst HKZ.out HSZ.out HUZ.out hb2 (el h 0); clear hb2)
      go_ret
      exact ⟨by rw [HWB.out]; rfl, ⟨v, h, H3.out.1, by rw [HT.out, stp_zero, HH.out]; exact Kp.nil 0, .inl rfl⟩, H3.out.2.2⟩
    · have HWO : Hid (∀ W, KAt B W p room v h → Calls Try.prog 19 #[.pointer (some ⟨p, 0, none⟩)] W fun e w' => e = .returned (.tuple #[valM (el h 0), .bool true]) ∧ Below W.heap.size W w') := fun W hW => by
        have := Worst_any B W p room v h hW
        rw [decide_eq_true (by have := HN.out; omega)] at this
        exact this
      have HBE : Hid (∀ W, Calls Try.prog 11 #[valM m, valM (el h 0)] W fun e w' => e = .returned (.bool (btr m (el h 0))) ∧ Below W.heap.size W w') := fun W => Better_any m (el h 0) W
      obtain ⟨ini, hini⟩ := HKP.out.worst (by have := HN.out; omega)
      have HIN : Hid (out = ini ++ [el h 0]) := hini
      have HRT : Hid (room.toNat = ini.length + 1 ∧ n = ini.length + 1) := by
        have h1 := HKP.out.len
        rw [hini, List.length_append, List.length_singleton] at h1
        rw [hini, List.length_append, List.length_singleton] at HLO
        have := HN.out
        exact ⟨by omega, by omega⟩
      obtain ⟨bt, hbt⟩ : ∃ b, btr m (el h 0) = b := ⟨_, rfl⟩
      have HBT : Hid (btr m (el h 0) = bt) := hbt
      have HWB : Hid (wantB room.toNat out m = bt) := by show _ = _; rw [HIN.out, wantB_full m HRT.out.1]; exact hbt
      rw [hbt] at HBE
      clear HLO hn hini hbt
      cases bt
      · have HST : Hid (stp room.toNat out m = out) := by
          show _ = _
          have := HKP.out.srt
          rw [HIN.out] at this ⊢
          exact stp_no m this HRT.out.1 HBT.out
        go_enter Try.func17, Try.ntmps17
        go_wp2_with fail
        go_quiet ((go_at_call 18; exact Calls.quiet_of_same (HL _)))
        obtain ⟨wz, hwz⟩ : ∃ wz, wz = V1.drewN nq := ⟨_, rfl⟩
        have HBZ : Hid (Below V1.heap.size V1 wz) := by show Below _ _ _; rw [hwz]; exact belowN (Below.refl _ _) nq
        have HKZ : Hid (KAt B wz p room v h) := HK1.out.below HBZ.out
        have HSZ : Hid (SAdd mb m wz) := by show SAdd mb m wz; rw [hwz]; exact HN1.out
        have HUZ : Hid (Upd (KF p v) w wz) := (upd_of_below HB1.out).trans (G := fun _ => False) (upd_of_below HBZ.out) (fun _ _ f => f.elim)
        rw [← hwz]
        clear hwz HL c0
        clear hV1 hmb
        go_wp2_with (first
          | (go_at_call 19; refine (HWO.out wz HKZ.out).mono ?_; rintro e w2 ⟨rfl, hb2⟩; obtain ⟨W3, hst, H3, lm, lx⟩ := after_worst HKZ.out HSZ.out HUZ.out hb2 (el h 0); clear hb2)
          | (go_at_call 11; refine (HBE.out W3).mono ?_; rintro e w4 ⟨rfl, hb4⟩; have HB4 : Hid (Below W3.heap.size W3 w4) := hb4; clear hb4))
        go_ret
        exact ⟨by rw [HWB.out]; rfl, ⟨v, h, H3.out.1.below HB4.out, by rw [HST.out]; exact HKP.out, .inl rfl⟩, H3.out.2.2.trans (G := fun _ => False) (upd_of_below HB4.out) (fun _ _ f => f.elim)⟩
      · have HST : Hid (stp room.toNat out m = ins m ini) := by
          show _ = _
          rw [HIN.out]
          exact stp_yes m HRT.out.1 HBT.out
        go_enter Try.func17, Try.ntmps17
        go_wp2_with fail
        go_quiet ((go_at_call 18; exact Calls.quiet_of_same (HL _)))
        obtain ⟨wz, hwz⟩ : ∃ wz, wz = V1.drewN nq := ⟨_, rfl⟩
        have HBZ : Hid (Below V1.heap.size V1 wz) := by show Below _ _ _; rw [hwz]; exact belowN (Below.refl _ _) nq
        have HKZ : Hid (KAt B wz p room v h) := HK1.out.below HBZ.out
        have HSZ : Hid (SAdd mb m wz) := by show SAdd mb m wz; rw [hwz]; exact HN1.out
        have HUZ : Hid (Upd (KF p v) w wz) := (upd_of_below HB1.out).trans (G := fun _ => False) (upd_of_below HBZ.out) (fun _ _ f => f.elim)
        rw [← hwz]
        clear hwz HL c0
        clear hV1 hmb
        go_upto_region 6 with (first
          | (go_at_call 19; refine (HWO.out wz HKZ.out).mono ?_; rintro e w2 ⟨rfl, hb2⟩; obtain ⟨W3, hst, H3, lm, lx⟩ := after_worst HKZ.out HSZ.out HUZ.out hb2 (el h 0); clear hb2)
          | (go_at_call 11; refine (HBE.out W3).mono ?_; rintro e w4 ⟨rfl, hb4⟩; have HB4 : Hid (Below W3.heap.size W3 w4) := hb4; clear hb4)
          | (go_at_call 23; refine (takeWorst_any B w4 p room v h (n - 1) (H3.out.1.below HB4.out) HKP.out.hp (by have := HN.out; omega) (by have := HN.out; have := HRT.out; omega)).mono ?_; rintro e w5 ⟨rfl, v5, h5, hK5, hu5, hx5, hp5, hh5, hl5⟩))
        have HPU : Hid (Calls Try.prog 24 #[pileI p, .iface 23 (valM m)] w5.drew fun e w' => e = .returned (.tuple #[]) ∧ SAdd mb m w' ∧ AddSays B w w' p room v out m) := by
          have hu4 := H3.out.2.2.trans (G := fun _ => False) (upd_of_below HB4.out) (fun _ _ f => f.elim)
          refine add_push hK5 hh5 (by have := HRT.out; omega) hx5 (hu4.trans hu5 (fun _ _ f => f)) ?_ HMK.out (fun h' hp' hh' => ?_)
          · have h4 : SAdd mb m w4 := by
              unfold SAdd
              rw [HB4.out.block mb (Array.getElem?_eq_some_iff.1 H3.out.2.1).1]
              exact H3.out.2.1
            unfold SAdd
            rw [hu5.block mb (Array.getElem?_eq_some_iff.1 h4).1 (fun f => by have := HMK.out mb f; omega)]
            exact h4
          · have K1 := HKP.out
            rw [HIN.out] at K1
            have K2 : Kp room.toNat ini h5 := K1.less hh5 hp5
            rw [HST.out]
            exact K2.add m (by have := HRT.out; omega) hh' hp'
        have HSZ2 : Hid (SAdd mb m w5) := by
          have h4 : SAdd mb m w4 := by
            unfold SAdd
            rw [HB4.out.block mb (Array.getElem?_eq_some_iff.1 H3.out.2.1).1]
            exact H3.out.2.1
          show SAdd mb m w5
          unfold SAdd
          rw [hu5.block mb (Array.getElem?_eq_some_iff.1 h4).1 (fun f => by have := HMK.out mb f; omega)]
          exact h4
        clear HSZ HUZ HKZ HBZ hK5 hu5 hx5 hp5 hh5 hl5 lm lx hst
        refine region_at (S := SAdd mb m) 7 rfl mixedB (show SAdd mb m w5.drew from HSZ2.out) (fun _ => ?_)
        refine take_at (i := 0) 29 rfl rfl (by kernel_rfl) (by kernel_rfl) (by kernel_rfl) (fun _ _ _ h => h) (by rfl) (fun w hSw => by (have hSw2 := SAdd.facts hSw; clear hSw; go_simp; first | done | exact rfl)) (by assumption) ?_
        simp only [List.setIfInBounds_toArray, List.set_cons_zero, List.set_cons_succ]
        refine take_at (i := 1) 30 rfl rfl (by kernel_rfl) (by kernel_rfl) (by kernel_rfl) (fun _ _ _ h => h) (by rfl) (fun w hSw => by (have hSw2 := SAdd.facts hSw; clear hSw; go_simp; first | done | exact rfl)) (by assumption) ?_
        simp only [List.setIfInBounds_toArray, List.set_cons_zero, List.set_cons_succ]
        refine take_at (i := 2) 31 rfl rfl (by kernel_rfl) (by kernel_rfl) (by kernel_rfl) (fun _ _ _ h => h) (by rfl) (fun w hSw => by (have hSw2 := SAdd.facts hSw; clear hSw; go_simp; first | done | exact rfl)) (by assumption) ?_
        simp only [List.setIfInBounds_toArray, List.set_cons_zero, List.set_cons_succ]
        refine take_at (i := 3) 32 rfl rfl (by kernel_rfl) (by kernel_rfl) (by kernel_rfl) (fun _ _ _ h => h) (by rfl) (fun w hSw => by (have hSw2 := SAdd.facts hSw; clear hSw; go_simp; first | done | exact rfl)) (by assumption) ?_
        simp only [List.setIfInBounds_toArray, List.set_cons_zero, List.set_cons_succ]
        refine take_at (i := 4) 33 rfl rfl (by kernel_rfl) (by kernel_rfl) (by kernel_rfl) (fun _ _ _ h => h) (by rfl) (fun w hSw => by (have hSw2 := SAdd.facts hSw; clear hSw; go_simp; first | done | exact rfl)) (by assumption) ?_
        simp only [List.setIfInBounds_toArray, List.set_cons_zero, List.set_cons_succ]
        refine take_at (i := 5) 34 rfl rfl (by kernel_rfl) (by kernel_rfl) (by kernel_rfl) (fun _ _ _ h => h) (by rfl) (fun w hSw => by (have hSw2 := SAdd.facts hSw; clear hSw; go_simp; first | done | exact rfl)) (by assumption) ?_
        simp only [List.setIfInBounds_toArray, List.set_cons_zero, List.set_cons_succ]
        refine one_call (i := 6) (w0 := w5.drew) 35 24 #[pileI p, .iface 23 (valM m)] (by kernel_rfl) rfl rfl (by rfl) (by kernel_rfl) (HPU.out.mono ?_)
        rintro e wy ⟨rfl, hSy, hA⟩
        refine ⟨_, rfl, hSy, fun _ => ?_⟩
        simp only [List.setIfInBounds_toArray, List.set_cons_zero, List.set_cons_succ]
        refine wpAnyH_done (by kernel_rfl) ?_ _
        go_wp2
        go_ret
        exact ⟨by rw [HWB.out]; rfl, hA⟩
  · have hcb : decide ((n : Int) ≥ room) = false := decide_eq_false c
    have hc2 : ¬ room ≤ (n : Int) := c
    have HWB : Hid (wantB room.toNat out m = true) := wantB_room m (by have := HN.out; omega)
    have HLT : Hid (out.length < room.toNat) := by have := HN.out; show out.length < room.toNat; omega
    clear HLO hn
    go_enter Try.func17, Try.ntmps17
    go_wp2_with fail
    go_quiet ((go_at_call 18; exact Calls.quiet_of_same (HL _)))
    obtain ⟨wz, hwz⟩ : ∃ wz, wz = V1.drewN nq := ⟨_, rfl⟩
    have HBZ : Hid (Below V1.heap.size V1 wz) := by show Below _ _ _; rw [hwz]; exact belowN (Below.refl _ _) nq
    have HKZ : Hid (KAt B wz p room v h) := HK1.out.below HBZ.out
    have HSZ : Hid (SAdd mb m wz) := by show SAdd mb m wz; rw [hwz]; exact HN1.out
    have HUZ : Hid (Upd (KF p v) w wz) := (upd_of_below HB1.out).trans (G := fun _ => False) (upd_of_below HBZ.out) (fun _ _ f => f.elim)
    rw [← hwz]
    clear hwz HL c0
    go_upto_region 6 with fail
    have HPU : Hid (Calls Try.prog 24 #[pileI p, .iface 23 (valM m)] wz.drew fun e w' => e = .returned (.tuple #[]) ∧ SAdd mb m w' ∧ AddSays B w w' p room v out m) :=
      add_push HKZ.out HKP.out.hp (by have := HN.out; omega) rfl HUZ.out HSZ.out HMK.out (fun h' hp' hh' => by rw [stp_room m HLT.out]; exact HKP.out.add m HLT.out hh' hp')
    refine region_at (S := SAdd mb m) 7 rfl mixedB (show SAdd mb m wz.drew from HSZ.out) (fun _ => ?_)
    refine take_at (i := 0) 29 rfl rfl (by kernel_rfl) (by kernel_rfl) (by kernel_rfl) (fun _ _ _ h => h) (by rfl) (fun w hSw => by (have hSw2 := SAdd.facts hSw; clear hSw; go_simp; first | done | exact rfl)) (by assumption) ?_
    simp only [List.setIfInBounds_toArray, List.set_cons_zero, List.set_cons_succ]
    refine take_at (i := 1) 30 rfl rfl (by kernel_rfl) (by kernel_rfl) (by kernel_rfl) (fun _ _ _ h => h) (by rfl) (fun w hSw => by (have hSw2 := SAdd.facts hSw; clear hSw; go_simp; first | done | exact rfl)) (by assumption) ?_
    simp only [List.setIfInBounds_toArray, List.set_cons_zero, List.set_cons_succ]
    refine take_at (i := 2) 31 rfl rfl (by kernel_rfl) (by kernel_rfl) (by kernel_rfl) (fun _ _ _ h => h) (by rfl) (fun w hSw => by (have hSw2 := SAdd.facts hSw; clear hSw; go_simp; first | done | exact rfl)) (by assumption) ?_
    simp only [List.setIfInBounds_toArray, List.set_cons_zero, List.set_cons_succ]
    refine take_at (i := 3) 32 rfl rfl (by kernel_rfl) (by kernel_rfl) (by kernel_rfl) (fun _ _ _ h => h) (by rfl) (fun w hSw => by (have hSw2 := SAdd.facts hSw; clear hSw; go_simp; first | done | exact rfl)) (by assumption) ?_
    simp only [List.setIfInBounds_toArray, List.set_cons_zero, List.set_cons_succ]
    refine take_at (i := 4) 33 rfl rfl (by kernel_rfl) (by kernel_rfl) (by kernel_rfl) (fun _ _ _ h => h) (by rfl) (fun w hSw => by (have hSw2 := SAdd.facts hSw; clear hSw; go_simp; first | done | exact rfl)) (by assumption) ?_
    simp only [List.setIfInBounds_toArray, List.set_cons_zero, List.set_cons_succ]
    refine take_at (i := 5) 34 rfl rfl (by kernel_rfl) (by kernel_rfl) (by kernel_rfl) (fun _ _ _ h => h) (by rfl) (fun w hSw => by (have hSw2 := SAdd.facts hSw; clear hSw; go_simp; first | done | exact rfl)) (by assumption) ?_
    simp only [List.setIfInBounds_toArray, List.set_cons_zero, List.set_cons_succ]
    refine one_call (i := 6) (w0 := wz.drew) 35 24 #[pileI p, .iface 23 (valM m)] (by kernel_rfl) rfl rfl (by rfl) (by kernel_rfl) (HPU.out.mono ?_)
    rintro e wy ⟨rfl, hSy, hA⟩
    refine ⟨_, rfl, hSy, fun _ => ?_⟩
    simp only [List.setIfInBounds_toArray, List.set_cons_zero, List.set_cons_succ]
    refine wpAnyH_done (by kernel_rfl) ?_ _
    go_wp2
    go_ret
    exact ⟨by rw [HWB.out]; rfl, hA⟩
end Bt
end Go.Proofs.Ytmpfcdffpjocnaa
