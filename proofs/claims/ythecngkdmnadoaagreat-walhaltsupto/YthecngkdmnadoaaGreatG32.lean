/- Texts that were written apart, joined. -/
import Derived.Test.YthecngkdmnadoaaGreatG31
import Derived.Test.YthecngkdmnadoaaGreatDrawnE
/- The log's end cut off: cut. -/
namespace Go.Proofs.YthecngkdmnadoaaGreat
open Go.RowKit
set_option maxRecDepth 100000

set_option maxHeartbeats 1000000 in
theorem deleteS_nil (w : World) : Calls Tryz.prog 60 #[.slice none 0 0, .int .i64 0, .int .i64 0] w fun e w' => e = .returned (.slice none 0 0) ∧ w' = w := by
  go_enter Tryz.func60, Tryz.ntmps60
  go_wp2_with fail
  go_ret
  exact ⟨rfl, rfl⟩
/-- slices.Delete of whatever row of slices. -/
theorem deleteS_all (B : Nat) (w : World) (ad : Option Addr) (n c i j : Nat) (l : List Sv) (h : SOwn B w (.slice ad n c) l) (hij : i ≤ j) (hj : j ≤ n) (hn : n < 1099511627776) :
    Calls Tryz.prog 60 #[.slice ad n c, .int .i64 i, .int .i64 j] w fun e w' => e = .returned (.slice ad (n - (j - i)) c) ∧ SOwn B w' (.slice ad (n - (j - i)) c) (l.take i ++ l.drop j) ∧ Only (ownB ad) w w' := by
  have h' := h
  obtain ⟨hl, ⟨e, h0⟩ | ⟨g, cap, cur, e, hb, hh, h3, h4, h5, h6⟩⟩ := h'
  · simp only [Value.slice.injEq] at e
    obtain ⟨rfl, rfl, rfl⟩ := e
    obtain rfl : j = 0 := by omega
    obtain rfl : i = 0 := by omega
    obtain rfl := List.eq_nil_of_length_eq_zero h0
    refine (deleteS_nil w).mono ?_
    rintro e w' ⟨rfl, rfl⟩
    exact ⟨rfl, h, Only.refl _ _⟩
  · simp only [Value.slice.injEq] at e
    obtain ⟨rfl, -, rfl⟩ := e
    refine (deleteS_any B w g c n i j l h hij hj hn).mono ?_
    rintro e w' ⟨rfl, h1, h2⟩
    exact ⟨rfl, h1, ⟨h2.os, h2.tape, h2.output, h2.size, fun k hk hx => h2.block k hk fun e => hx (by simp [ownB, e])⟩⟩
theorem SOwn.only {B : Nat} {w w' : World} {ad : Option Addr} {n c : Nat} {l : List Sv} {fp : List Nat} (h : SOwn B w (.slice ad n c) l) (hb : Only fp w w') (hf : ∀ x ∈ ownB ad, x ∉ fp) : SOwn B w' (.slice ad n c) l :=
  h.same fun g o n' c' e hg => hb.block g hg (hf g (by simp only [Value.slice.injEq] at e; rw [e.1]; simp [ownB]))
theorem WalAt.records {w : World} {b : Nat} {n : WN} {v : WV} (h : WalAt w b n v) (m : Nat) : WalAt (w.setCell ⟨b, 2, none⟩ (.slice v.ra m v.rc)) b { n with many := m } v := by
  unfold WalAt
  rw [set_cell h 2 _]
  rfl
def S4 (b f : Nat) (r : Value) (W : World) : Prop := W.cell? ⟨b, 1, none⟩ = some (.int .u64 (f : Int)) ∧ W.cell? ⟨b, 2, none⟩ = some r
theorem S4.facts {b f : Nat} {r : Value} {W : World} (h : S4 b f r W) : W.cell? ⟨b, 1, none⟩ = some (.int .u64 (f : Int)) ∧ W.cell? ⟨b, 2, none⟩ = some r := h
set_option maxHeartbeats 2000000 in
theorem cut_any (B b i : Nat) (n : WN) (v : WV) (l : List Sv) (w : World) (hw : WalAt w b n v) (hs : SOwn B w (.slice v.ra n.many v.rc) l) (hi : n.first ≤ i) (hi2 : i ≤ n.first + n.many) (hn : n.many < 1099511627776) (hgb : b ∉ ownB v.ra) :
    Calls Tryz.prog 67 #[.pointer (some ⟨b, 0, none⟩), .int .u64 i] w fun e w' => e = .returned (.tuple #[]) ∧ WalAt w' b { n with many := i - n.first } v ∧ SOwn B w' (.slice v.ra (i - n.first) v.rc) (l.take (i - n.first)) ∧ Only (b :: ownB v.ra) w w' := by
  have hlen : n.many = l.length := by
    obtain ⟨ad, cap, e⟩ := hs.shape
    simp only [Value.slice.injEq] at e
    exact e.2.1
  obtain ⟨k, hk⟩ : ∃ k, i - n.first = k := ⟨_, rfl⟩
  have hkz : (i : Int) - (n.first : Int) = (k : Int) := by omega
  have hww : IntKind.u64.wrap (k : Int) = (k : Int) := by simp [IntKind.wrap, IntKind.bits, IntKind.signed]; omega
  have hwi : IntKind.i64.wrap (k : Int) = (k : Int) := by simp [IntKind.wrap, IntKind.bits, IntKind.signed]; omega
  have HDEL : Hid (Calls Tryz.prog 60 #[.slice v.ra n.many v.rc, .int .i64 k, .int .i64 n.many] w.drew fun e w' => e = .returned (.slice v.ra k v.rc) ∧ SOwn B w' (.slice v.ra k v.rc) (l.take k) ∧ Only (ownB v.ra) w.drew w') := by
    have := deleteS_all B w.drew v.ra n.many v.rc k n.many l (hs.same fun _ _ _ _ _ _ => rfl) (by omega) (Nat.le_refl _) hn
    have e1 : n.many - (n.many - k) = k := by omega
    have e2 : l.drop n.many = [] := List.drop_eq_nil_of_le (by omega)
    rw [e1, e2, List.append_nil] at this
    exact this
  have HW : Hid (WalAt w b n v) := hw
  have hb0 := hw.lt
  obtain ⟨c0, c1, c2, c3, c4, c5, c6, c7, c8, c9, hz⟩ := hw.cells
  have hS0 : S4 b n.first (.slice v.ra n.many v.rc) w.drew := ⟨c1, c2⟩
  rw [hk]
  clear c0 c3 c4 c5 c6 c7 c8 c9 hw hs hlen hk
  go_enter Tryz.func67, Tryz.ntmps67
  go_upto_region 0 with fail
  refine region_atE (S := S4 b n.first (.slice v.ra n.many v.rc)) 21 20 rfl (by kernel_rfl) ?_
  refine take_atE (i := 0) 4 rfl rfl (by kernel_rfl) (by kernel_rfl) (by kernel_rfl) (by kernel_rfl) (fun _ _ _ h => h) (by rfl) (fun w hSw => by (have hSw2 := S4.facts hSw; clear hSw; go_simp; first | done | exact rfl)) (by assumption) ?_
  simp only [List.setIfInBounds_toArray, List.set_cons_zero, List.set_cons_succ]
  refine take_atE (i := 1) 5 rfl rfl (by kernel_rfl) (by kernel_rfl) (by kernel_rfl) (by kernel_rfl) (fun _ _ _ h => h) (by rfl) (fun w hSw => by (have hSw2 := S4.facts hSw; clear hSw; go_simp; first | done | exact rfl)) (by assumption) ?_
  simp only [List.setIfInBounds_toArray, List.set_cons_zero, List.set_cons_succ]
  refine take_atE (i := 2) 6 rfl rfl (by kernel_rfl) (by kernel_rfl) (by kernel_rfl) (by kernel_rfl) (fun _ _ _ h => h) (by rfl) (fun w hSw => by (have hSw2 := S4.facts hSw; clear hSw; go_simp; first | done | exact rfl)) (by assumption) ?_
  simp only [List.setIfInBounds_toArray, List.set_cons_zero, List.set_cons_succ]
  refine take_atE (i := 3) 7 rfl rfl (by kernel_rfl) (by kernel_rfl) (by kernel_rfl) (by kernel_rfl) (fun _ _ _ h => h) (by rfl) (fun w hSw => by (have hSw2 := S4.facts hSw; clear hSw; go_simp; first | done | exact rfl)) (by assumption) ?_
  simp only [List.setIfInBounds_toArray, List.set_cons_zero, List.set_cons_succ]
  refine take_atE (i := 4) 8 rfl rfl (by kernel_rfl) (by kernel_rfl) (by kernel_rfl) (by kernel_rfl) (fun _ _ _ h => h) (by rfl) (fun w hSw => by (have hSw2 := S4.facts hSw; clear hSw; go_simp; first | done | exact rfl)) (by assumption) ?_
  simp only [List.setIfInBounds_toArray, List.set_cons_zero, List.set_cons_succ]
  refine take_atE (i := 5) 9 rfl rfl (by kernel_rfl) (by kernel_rfl) (by kernel_rfl) (by kernel_rfl) (fun _ _ _ h => h) (by rfl) (fun w hSw => by (have hSw2 := S4.facts hSw; clear hSw; go_simp; first | done | exact rfl)) (by assumption) ?_
  simp only [List.setIfInBounds_toArray, List.set_cons_zero, List.set_cons_succ]
  refine take_atE (i := 6) 10 rfl rfl (by kernel_rfl) (by kernel_rfl) (by kernel_rfl) (by kernel_rfl) (fun _ _ _ h => h) (by rfl) (fun w hSw => by (have hSw2 := S4.facts hSw; clear hSw; go_simp; first | done | exact rfl)) (by assumption) ?_
  simp only [List.setIfInBounds_toArray, List.set_cons_zero, List.set_cons_succ]
  refine take_atE (i := 7) 11 rfl rfl (by kernel_rfl) (by kernel_rfl) (by kernel_rfl) (by kernel_rfl) (fun _ _ _ h => h) (by rfl) (fun w hSw => by (have hSw2 := S4.facts hSw; clear hSw; go_simp; first | done | exact rfl)) (by assumption) ?_
  simp only [List.setIfInBounds_toArray, List.set_cons_zero, List.set_cons_succ]
  refine take_atE (i := 8) 12 rfl rfl (by kernel_rfl) (by kernel_rfl) (by kernel_rfl) (by kernel_rfl) (fun _ _ _ h => h) (by rfl) (fun w hSw => by (have hSw2 := S4.facts hSw; clear hSw; go_simp; first | done | exact rfl)) (by assumption) ?_
  simp only [List.setIfInBounds_toArray, List.set_cons_zero, List.set_cons_succ]
  refine take_atE (i := 9) 13 rfl rfl (by kernel_rfl) (by kernel_rfl) (by kernel_rfl) (by kernel_rfl) (fun _ _ _ h => h) (by rfl) (fun w hSw => by (have hSw2 := S4.facts hSw; clear hSw; go_simp; first | done | exact rfl)) (by assumption) ?_
  simp only [List.setIfInBounds_toArray, List.set_cons_zero, List.set_cons_succ]
  refine take_atE (i := 10) 14 rfl rfl (by kernel_rfl) (by kernel_rfl) (by kernel_rfl) (by kernel_rfl) (fun _ _ _ h => h) (by rfl) (fun w hSw => by (have hSw2 := S4.facts hSw; clear hSw; go_simp; first | done | exact rfl)) (by assumption) ?_
  simp only [List.setIfInBounds_toArray, List.set_cons_zero, List.set_cons_succ]
  refine take_atE (i := 11) 15 rfl rfl (by kernel_rfl) (by kernel_rfl) (by kernel_rfl) (by kernel_rfl) (fun _ _ _ h => h) (by rfl) (fun w hSw => by (have hSw2 := S4.facts hSw; clear hSw; go_simp; first | done | exact rfl)) (by assumption) ?_
  simp only [List.setIfInBounds_toArray, List.set_cons_zero, List.set_cons_succ]
  refine take_atE (i := 12) 16 rfl rfl (by kernel_rfl) (by kernel_rfl) (by kernel_rfl) (by kernel_rfl) (fun _ _ _ h => h) (by rfl) (fun w hSw => by (have hSw2 := S4.facts hSw; clear hSw; go_simp; first | done | exact rfl)) (by assumption) ?_
  simp only [List.setIfInBounds_toArray, List.set_cons_zero, List.set_cons_succ]
  refine take_atE (i := 13) 17 rfl rfl (by kernel_rfl) (by kernel_rfl) (by kernel_rfl) (by kernel_rfl) (fun _ _ _ h => h) (by rfl) (fun w hSw => by (have hSw2 := S4.facts hSw; clear hSw; go_simp; first | done | exact rfl)) (by assumption) ?_
  simp only [List.setIfInBounds_toArray, List.set_cons_zero, List.set_cons_succ]
  refine take_atE (i := 14) 18 rfl rfl (by kernel_rfl) (by kernel_rfl) (by kernel_rfl) (by kernel_rfl) (fun _ _ _ h => h) (by rfl) (fun w hSw => by (have hSw2 := S4.facts hSw; clear hSw; go_simp; first | done | exact rfl)) (by assumption) ?_
  simp only [List.setIfInBounds_toArray, List.set_cons_zero, List.set_cons_succ]
  refine take_atE (i := 15) 19 rfl rfl (by kernel_rfl) (by kernel_rfl) (by kernel_rfl) (by kernel_rfl) (fun _ _ _ h => h) (by rfl) (fun w hSw => by (have hSw2 := S4.facts hSw; clear hSw; go_simp; first | done | exact rfl)) (by assumption) ?_
  simp only [List.setIfInBounds_toArray, List.set_cons_zero, List.set_cons_succ]
  refine take_atE (i := 16) 20 rfl rfl (by kernel_rfl) (by kernel_rfl) (by kernel_rfl) (by kernel_rfl) (fun _ _ _ h => h) (by rfl) (fun w hSw => by (have hSw2 := S4.facts hSw; clear hSw; go_simp; first | done | exact rfl)) (by assumption) ?_
  simp only [List.setIfInBounds_toArray, List.set_cons_zero, List.set_cons_succ]
  refine one_callE (i := 17) (w0 := w.drew) 21 60 #[.slice v.ra n.many v.rc, .int .i64 k, .int .i64 n.many] (by kernel_rfl) rfl rfl (by rfl) (by kernel_rfl) ?_
  refine HDEL.out.mono ?_
  rintro e w1 ⟨rfl, hs1, hO1⟩
  have hW1 : WalAt w1 b n v := (hO1.block b hb0 hgb).trans HW.out
  obtain ⟨d0, d1, d2, d3, d4, d5, d6, d7, d8, d9, dz⟩ := hW1.cells
  have hS1 : S4 b n.first (.slice v.ra n.many v.rc) w1 := ⟨d1, d2⟩
  refine ⟨_, rfl, hS1, ?_⟩
  simp only [List.setIfInBounds_toArray, List.set_cons_zero, List.set_cons_succ]
  refine one_valueE (i := 18) (v := .pointer (some ⟨b, 0, none⟩)) (w' := w1) 22 (by kernel_rfl) rfl rfl (by rfl) (by kernel_rfl) hS1 ?_
  simp only [List.setIfInBounds_toArray, List.set_cons_zero, List.set_cons_succ]
  refine one_valueE (i := 19) (v := .pointer (some ⟨b, 2, none⟩)) (w' := w1) 23 (by kernel_rfl) rfl rfl (by rfl) (by kernel_rfl) hS1 ?_
  simp only [List.setIfInBounds_toArray, List.set_cons_zero, List.set_cons_succ]
  clear d0 d1 d3 d4 d5 d6 d7 d8 d9
  refine last_skipE (w' := w1.setCell ⟨b, 2, none⟩ (.slice v.ra k v.rc)) (by kernel_rfl) rfl rfl (by rfl) (by go_simp; first | done | exact rfl) (by kernel_rfl) ?_
  go_end0
  have hOb : Only [b] w1 (w1.setCell ⟨b, 2, none⟩ (.slice v.ra k v.rc)) := (Only.refl _ _).setCell (by simp) _ _
  have hO0 : Only (b :: ownB v.ra) w w1 := ⟨hO1.os, hO1.tape, hO1.output, hO1.size, fun j hj hx => hO1.block j hj fun hy => hx (by simp [hy])⟩
  refine ⟨rfl, hW1.records k, hs1.only hOb (fun x hx hx' => ?_), hO0.then hOb (fun y hy => by rw [List.mem_singleton] at hy; simp [hy])⟩
  rw [List.mem_singleton] at hx'
  exact hgb (hx' ▸ hx)
end Go.Proofs.YthecngkdmnadoaaGreat

/- The log begun anew: Reset. -/
namespace Go.Proofs.YthecngkdmnadoaaGreat
open Go.RowKit
set_option maxRecDepth 100000

theorem frsR_e : ∀ (l : List Pl) (d : DS), (frsR d l).1 = 0 ∨ (frsR d l).1 = 30
  | [], _ => .inl rfl
  | x :: r, d => by
    rw [frsR]
    split
    · exact frsR_e r _
    · rename_i h
      have : stepE d = 0 ∨ stepE d = 30 := by
        unfold stepE
        split
        · exact .inr rfl
        · split
          · exact .inr rfl
          · exact .inl rfl
      rcases this with k | k
      · exact absurd k h
      · exact .inr k
def resetN (n : WN) (f : Nat) : WN := { first := f, many := 0, next := n.next, area := 4 * n.next + 1, sector := 0, tail := 0, adrift := true, fault := 0 }
def resetV (v : WV) : WV := { v with ra := none, rc := 0, pn := 0, ta := none, tc := 0 }
theorem WalAt.reset {w : World} {b : Nat} {n : WN} {v : WV} (h : WalAt w b { n with fault := 0 } { v with pn := 0 }) (f : Nat) :
    WalAt ((((((w.setCell ⟨b, 1, none⟩ (.int .u64 (f : Int))).setCell ⟨b, 2, none⟩ (.slice none 0 0)).setCell ⟨b, 5, none⟩ (.int .u64 (4 * (n.next : Int) + 1))).setCell ⟨b, 6, none⟩ (.int .i64 0)).setCell ⟨b, 7, none⟩ (.slice none 0 0)).setCell ⟨b, 8, none⟩ (.bool true)) b (resetN n f) (resetV v) := by
  have h1 := set_cell h 1 (.int .u64 (f : Int))
  have h2 := set_cell h1 2 (.slice none 0 0)
  have h3 := set_cell h2 5 (.int .u64 (4 * (n.next : Int) + 1))
  have h4 := set_cell h3 6 (.int .i64 0)
  have h5 := set_cell h4 7 (.slice none 0 0)
  have h6 := set_cell h5 8 (.bool true)
  refine h6.trans ?_
  have e : ((4 * n.next + 1 : Nat) : Int) = 4 * (n.next : Int) + 1 := by omega
  simp [walC, resetN, resetV]
set_option maxHeartbeats 1000000 in
theorem Reset_fault (b f : Nat) (n : WN) (v : WV) (w : World) (hw : WalAt w b n v) (hf : ¬ n.fault = 0) : Calls Tryz.prog 33 #[.pointer (some ⟨b, 0, none⟩), .int .u64 f] w fun e w' => e = .returned (.int .i64 n.fault) ∧ w' = w := by
  obtain ⟨c0, c1, c2, c3, c4, c5, c6, c7, c8, c9, hz⟩ := hw.cells
  have h1 : (n.fault == 0) = false := by simpa using hf
  have h2 : (n.fault != 0) = true := by simpa using hf
  clear c0 c1 c2 c3 c4 c5 c6 c7 c8 hw
  go_enter Tryz.func33, Tryz.ntmps33
  go_wp2_with fail
  go_ret
  exact ⟨rfl, rfl⟩
set_option maxHeartbeats 1000000 in
theorem Reset_range (b f : Nat) (n : WN) (v : WV) (w : World) (hw : WalAt w b n v) (hf : n.fault = 0) (hr : 4611686018427387904 < f) : Calls Tryz.prog 33 #[.pointer (some ⟨b, 0, none⟩), .int .u64 f] w fun e w' => e = .returned (.int .i64 51) ∧ w' = w := by
  obtain ⟨c0, c1, c2, c3, c4, c5, c6, c7, c8, c9, hz⟩ := hw.cells
  rw [hf] at c9
  have h1 : (4611686018427387904 : Int) < (f : Int) := by omega
  clear c0 c1 c2 c3 c4 c5 c6 c7 c8 hw
  go_enter Tryz.func33, Tryz.ntmps33
  go_wp2_with fail
  go_ret
  exact ⟨rfl, rfl⟩
/-- What the log is behind a Reset. -/
def ResetSays (B N b f : Nat) (R : Int × DS) (fp : List Nat) (n : WN) (v : WV) (l : List Pl) (w : World) (e : Ending) (w' : World) : Prop :=
  e = .returned (.int .i64 R.1) ∧ (∃ fp', DiskAt N w' v.p R.2 fp' ∧ ∀ x ∈ fp', x ∈ fp) ∧ Only (b :: (ownB v.pa ++ fp)) w w' ∧
    ((R.1 = 0 ∧ WalAt w' b (resetN n f) (resetV v) ∧ QOwn B w' (.slice v.pa 0 v.pc) []) ∨ (R.1 ≠ 0 ∧ WalAt w' b { n with fault := R.1 } v ∧ QOwn B w' (.slice v.pa v.pn v.pc) l))
set_option maxHeartbeats 2000000 in
theorem Reset_any (B N b f : Nat) (d : DS) (fp : List Nat) (n : WN) (v : WV) (l : List Pl) (w : World) (h : DiskAt N w v.p d fp) (hw : WalAt w b n v) (hN : N < 549755813888) (hq : QOwn B w (.slice v.pa v.pn v.pc) l) (hkn : v.pn < 549755813888)
    (hbf : b ∉ fp) (hgf : ∀ x ∈ ownB v.pa, x ∉ fp ∧ x ≠ b) (hl : ∀ x ∈ l, x.1 ≤ 1152921504606846976) (hf : n.fault = 0) (hfe : f ≤ 4611686018427387904) (hnx : n.next ≤ 1152921504606846976) :
    Calls Tryz.prog 33 #[.pointer (some ⟨b, 0, none⟩), .int .u64 f] w (ResetSays B (N + v.pn) b f (frsR d l) fp n v l w) := by
  have HFF : Hid (∀ w0, Only [] w w0 → Calls Tryz.prog 65 #[.pointer (some ⟨b, 0, none⟩), .int .i64 v.pn] w0 fun e w' => e = .returned (.int .i64 (frsR d l).1) ∧ (∃ fp', DiskAt (N + v.pn) w' v.p (frsR d l).2 fp' ∧ ∀ x ∈ fp', x ∈ fp) ∧ Only (b :: (ownB v.pa ++ fp)) w0 w' ∧
      (((frsR d l).1 = 0 ∧ WalAt w' b n { v with pn := 0 } ∧ QOwn B w' (.slice v.pa 0 v.pc) []) ∨ ((frsR d l).1 ≠ 0 ∧ WalAt w' b n v ∧ QOwn B w' (.slice v.pa v.pn v.pc) l))) := by
    intro w0 h0
    have hlen : v.pn = l.length := by
      obtain ⟨ad, cap, e⟩ := hq.shape
      simp only [Value.slice.injEq] at e
      exact e.2.1
    have := freeFront_any B N b v.pn d fp n v l w0 (h.apart h0 (by simp)) ((h0.block b hw.lt (by simp)).trans hw) hN (hq.only h0 (by simp)) (Nat.le_refl _) hkn hbf hgf hl
    have e1 : l.take v.pn = l := List.take_of_length_le (by omega)
    have e2 : l.drop v.pn = [] := List.drop_eq_nil_of_le (by omega)
    rw [e1, e2, Nat.sub_self] at this
    exact this
  have HW : Hid (WalAt w b n v) := hw
  obtain ⟨c0, c1, c2, c3, c4, c5, c6, c7, c8, c9, hz⟩ := hw.cells
  rw [hf] at c9
  have hfz : ¬ ((4611686018427387904 : Int) < (f : Int)) := by omega
  clear c0 c1 c2 c5 c6 c7 c8 h hw hq
  obtain ⟨r, hr⟩ : ∃ r, (frsR d l).1 = r := ⟨_, rfl⟩
  rw [hr] at HFF
  rcases frsR_e l d with h0 | h0
  · rw [hr] at h0
    subst h0
    go_enter Tryz.func33, Tryz.ntmps33
    go_wp2_with (first
      | (go_at_call 65; refine (HFF.out _ (Only.refl _ _)).mono ?_; rintro e w1 ⟨rfl, hd1, hO1, ⟨-, hW1, hq1⟩ | ⟨hx, -⟩⟩; rotate_left; (exact absurd rfl hx))
      | (go_at_call 48; refine (keep_any _ b n { v with pn := 0 } 0 hW1).mono ?_; rintro e w2 ⟨rfl, hw2⟩; rw [if_neg (by decide)] at hw2; have hW2 := (show WalAt w2 b { n with fault := 0 } { v with pn := 0 } from hw2 ▸ hW1.fault 0); have HW2E := (show Hid (w2 = w1.setCell ⟨b, 9, none⟩ (.int .i64 0)) from hw2); clear hw2; obtain ⟨d0, d1, d2, d3, d4, d5, d6, d7, d8, d9, dz⟩ := hW2.cells)
      | (go_at_call 38; refine (areaOf_any n.next _ hnx).mono ?_; rintro e w3 ⟨rfl, hw3⟩; subst w3))
    go_ret
    have e2 := HW2E.out
    obtain ⟨fp', hD1, hs1⟩ := hd1
    obtain ⟨w5, hw5⟩ : ∃ w5, (((((w2.setCell ⟨b, 1, none⟩ (.int .u64 (f : Int))).setCell ⟨b, 2, none⟩ (.slice none 0 0)).setCell ⟨b, 5, none⟩ (.int .u64 (4 * (n.next : Int) + 1))).setCell ⟨b, 6, none⟩ (.int .i64 0)).setCell ⟨b, 7, none⟩ (.slice none 0 0)).setCell ⟨b, 8, none⟩ (.bool true) = w5 := ⟨_, rfl⟩
    have hOb : Only [b] w1 w5 := by
      rw [← hw5, e2]
      exact (((((((Only.refl [b] w1).setCell (by simp) _ _).setCell (by simp) _ _).setCell (by simp) _ _).setCell (by simp) _ _).setCell (by simp) _ _).setCell (by simp) _ _).setCell (by simp) _ _
    have hW5 : WalAt w5 b (resetN n f) (resetV v) := hw5 ▸ hW2.reset f
    rw [hw5]
    refine ⟨by rw [hr]; rfl, ⟨fp', hD1.apart hOb fun x hx hx' => ?_, hs1⟩, hO1.then hOb (fun y hy => by rw [List.mem_singleton] at hy; simp [hy]), .inl ⟨hr, hW5, ?_⟩⟩
    · rw [List.mem_singleton] at hx'
      exact hbf (hs1 b (hx' ▸ hx))
    · exact hq1.only hOb (fun ad n c e x hx hx' => by
        simp only [Value.slice.injEq] at e
        rw [← e.1] at hx
        rw [List.mem_singleton] at hx'
        exact (hgf x hx).2 hx')
  · rw [hr] at h0
    subst h0
    go_enter Tryz.func33, Tryz.ntmps33
    go_wp2_with (first
      | (go_at_call 65; refine (HFF.out _ (Only.refl _ _)).mono ?_; rintro e w1 ⟨rfl, hd1, hO1, ⟨hx, -⟩ | ⟨-, hW1, hq1⟩⟩; (exact absurd hx (by decide)))
      | (go_at_call 48; refine (keep_any _ b n v 30 hW1).mono ?_; rintro e w2 ⟨rfl, hw2⟩; rw [if_neg (by decide)] at hw2; have HW2E := (show Hid (w2 = w1.setCell ⟨b, 9, none⟩ (.int .i64 30)) from hw2); clear hw2))
    go_ret
    have e2 := HW2E.out
    obtain ⟨fp', hD1, hs1⟩ := hd1
    have hOb : Only [b] w1 w2 := by
      rw [e2]
      exact (Only.refl [b] w1).setCell (by simp) _ _
    refine ⟨by rw [hr]; rfl, ⟨fp', hD1.apart hOb fun x hx hx' => ?_, hs1⟩, hO1.then hOb (fun y hy => by rw [List.mem_singleton] at hy; simp [hy]), .inr ⟨by rw [hr]; decide, ?_, ?_⟩⟩
    · rw [List.mem_singleton] at hx'
      exact hbf (hs1 b (hx' ▸ hx))
    · rw [hr, e2]
      exact hW1.fault 30
    · exact hq1.only hOb (fun ad n c e x hx hx' => by
        simp only [Value.slice.injEq] at e
        rw [← e.1] at hx
        rw [List.mem_singleton] at hx'
        exact (hgf x hx).2 hx')
end Go.Proofs.YthecngkdmnadoaaGreat
