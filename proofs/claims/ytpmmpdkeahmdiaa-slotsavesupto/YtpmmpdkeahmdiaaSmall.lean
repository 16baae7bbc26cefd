/- The disk's small calls: New, Dead, Steps, Room, Arm, and a step. -/
import Derived.Test.YtpmmpdkeahmdiaaDisk
import Derived.RegionTactic
import Derived.BigQuiet
import Derived.Deep.QuietTactic
namespace Go.Proofs.Ytpmmpdkeahmdiaa
open Go.RowKit
set_option maxRecDepth 100000

/-- The eight cells of a disk. -/
def dC (r t s : Int) (d a : Bool) (h : Int) (lb fb : Nat) : Obj := .cells #[.int .i64 r, .int .i64 t, .int .i64 s, .bool d, .bool a, .int .i64 h, .map (some lb), .map (some fb)] 78 (0, 0)
theorem disk_cells {w : World} {p : Nat} {r t s h : Int} {d a : Bool} {lb fb : Nat} (hb : w.heap[p]? = some (dC r t s d a h lb fb)) :
    w.cell? ⟨p, 0, none⟩ = some (.int .i64 r) ∧ w.cell? ⟨p, 1, none⟩ = some (.int .i64 t) ∧ w.cell? ⟨p, 2, none⟩ = some (.int .i64 s) ∧ w.cell? ⟨p, 3, none⟩ = some (.bool d) ∧ w.cell? ⟨p, 4, none⟩ = some (.bool a) ∧ w.cell? ⟨p, 5, none⟩ = some (.int .i64 h) ∧
    w.cell? ⟨p, 6, none⟩ = some (.map (some lb)) ∧ w.cell? ⟨p, 7, none⟩ = some (.map (some fb)) ∧ (∀ o, w.frozen? ⟨p, o, none⟩ = false) := by
  refine ⟨?_, ?_, ?_, ?_, ?_, ?_, ?_, ?_, fun o => ?_⟩ <;> simp [World.cell?, World.frozen?, hb, dC]
theorem set_cell {w : World} {p : Nat} {C : Array Value} {t : TypeId} {f : Nat × Nat} (h : w.heap[p]? = some (.cells C t f)) (o : Nat) (v : Value) : (w.setCell ⟨p, o, none⟩ v).heap[p]? = some (.cells (C.setIfInBounds o v) t f) := by
  simp [World.setCell, Array.getElem?_modify, h]
theorem one_setCell (w : World) (p o : Nat) (v : Value) : One p w (w.setCell ⟨p, o, none⟩ v) := ⟨rfl, rfl, rfl, rfl, by simp [World.setCell], fun k hk => Below.heap_setCell _ _ _ _ hk⟩
theorem One.trans {p : Nat} {a b c : World} (h : One p a b) (k : One p b c) : One p a c := ⟨k.os.trans h.os, k.tape.trans h.tape, k.output.trans h.output, k.drawn.trans h.drawn, k.size.trans h.size, fun i hi => (k.block i hi).trans (h.block i hi)⟩

set_option maxHeartbeats 1000000 in
theorem Dead_any (N : Nat) (p : Nat) (d : DS) (fp : List Nat) (w : World) (h : DiskAt N w p d fp) :
    Calls Try.prog 27 #[.pointer (some ⟨p, 0, none⟩)] w fun x w' => x = .returned (.bool d.dead) ∧ w' = w := by
  obtain ⟨sh, h1, _⟩ := h
  obtain ⟨c0, c1, c2, c3, c4, c5, c6, c7, hz⟩ := disk_cells h1
  clear h1
  go_enter Try.func27, Try.ntmps27
  go_wp2
  go_ret
  exact ⟨rfl, rfl⟩
set_option maxHeartbeats 1000000 in
theorem Steps_any (N : Nat) (p : Nat) (d : DS) (fp : List Nat) (w : World) (h : DiskAt N w p d fp) :
    Calls Try.prog 33 #[.pointer (some ⟨p, 0, none⟩)] w fun x w' => x = .returned (.int .i64 d.steps) ∧ w' = w := by
  obtain ⟨sh, h1, _⟩ := h
  obtain ⟨c0, c1, c2, c3, c4, c5, c6, c7, hz⟩ := disk_cells h1
  clear h1
  go_enter Try.func33, Try.ntmps33
  go_wp2
  go_ret
  exact ⟨rfl, rfl⟩
set_option maxHeartbeats 1000000 in
theorem Room_any (N : Nat) (p : Nat) (d : DS) (fp : List Nat) (w : World) (h : DiskAt N w p d fp) :
    Calls Try.prog 42 #[.pointer (some ⟨p, 0, none⟩)] w fun x w' => x = .returned (.int .i64 (d.room - d.secs.length)) ∧ ∃ n, w' = w.drewN n := by
  obtain ⟨sh, h1, _, _, _, _, k1, k2, _, _, _, k3, _⟩ := h
  obtain ⟨c0, c1, c2, c3, c4, c5, c6, c7, hz⟩ := disk_cells h1
  clear h1
  generalize d.room = r at *
  have k4 : (0 : Int) ≤ (d.secs.length : Int) := by omega
  generalize (d.secs.length : Int) = t at *
  go_enter Try.func42, Try.ntmps42
  go_wp2
  go_quiet (fail)
  go_wp2
  go_ret
  exact ⟨rfl, _, rfl⟩
theorem DiskAt.cells {N : Nat} {w : World} {p : Nat} {d : DS} {fp : List Nat} (h : DiskAt N w p d fp) : ∃ lb fb, w.heap[p]? = some (dC d.room (d.secs.length : Int) d.steps d.dead d.armed d.ahead lb fb) := by
  obtain ⟨sh, hb, _⟩ := h; exact ⟨_, _, hb⟩
theorem DiskAt.bounds {N : Nat} {w : World} {p : Nat} {d : DS} {fp : List Nat} (h : DiskAt N w p d fp) : 0 ≤ d.room ∧ d.room ≤ 9223372036854775807 ∧ 0 ≤ d.steps ∧ d.steps ≤ N ∧ d.secs.length ≤ N ∧ (d.secs.length : Int) ≤ d.room ∧ (∀ s ∈ d.secs, s.fresh.length ≤ N) ∧
    -9223372036854775808 ≤ d.ahead ∧ d.ahead ≤ 9223372036854775807 ∧ (d.armed = true → 0 ≤ d.ahead) := by
  obtain ⟨sh, _, _, _, _, _, r⟩ := h; exact r
/-- The disk's own cells have changed, and nothing else of it. -/
theorem DiskAt.turn {N M : Nat} {w w' : World} {p : Nat} {d d' : DS} {fp : List Nat} {lb fb : Nat} (h : DiskAt N w p d fp) (hb : w.heap[p]? = some (dC d.room (d.secs.length : Int) d.steps d.dead d.armed d.ahead lb fb)) (ho : One p w w')
    (hb' : w'.heap[p]? = some (dC d'.room (d'.secs.length : Int) d'.steps d'.dead d'.armed d'.ahead lb fb)) (hs : d'.secs = d.secs) (hr : d'.room = d.room) (hN : N ≤ M) (h0 : 0 ≤ d'.steps) (h1 : d'.steps ≤ M) (h2 : -9223372036854775808 ≤ d'.ahead) (h3 : d'.ahead ≤ 9223372036854775807) (h4 : d'.armed = true → 0 ≤ d'.ahead) : DiskAt M w' p d' fp := by
  obtain ⟨sh, k1, k2, k3, rfl, k5, k6, k7, k8, k9, k10, k11, k12, k13⟩ := h
  rw [k1] at hb
  simp only [dC, Option.some.injEq, Obj.cells.injEq, Array.mk.injEq, List.cons.injEq, Value.map.injEq, and_true, true_and] at hb
  obtain ⟨rfl, rfl⟩ := hb
  have hn := List.nodup_cons.1 k5
  exact ⟨sh, hb', k2.same fun b hb => ho.block b fun e => hn.1 (e ▸ hb), hs ▸ k3, rfl, k5, hr ▸ k6, hr ▸ k7, h0, h1, by rw [hs]; omega, by rw [hs, hr]; exact k11, by rw [hs]; exact fun s hs => Nat.le_trans (k12 s hs) hN, h2, h3, h4⟩
set_option maxHeartbeats 1000000 in
theorem Arm_any (N : Nat) (p : Nat) (d : DS) (fp : List Nat) (at_ : Int) (w : World) (h : DiskAt N w p d fp) (h1 : -9223372036854775808 ≤ at_) (h2 : at_ ≤ 9223372036854775807) :
    Calls Try.prog 26 #[.pointer (some ⟨p, 0, none⟩), .int .i64 at_] w fun x w' => x = .returned (.tuple #[]) ∧ DiskAt N w' p (if d.dead then d else { d with armed := decide (0 ≤ at_), ahead := at_ }) fp ∧ Only fp w w' := by
  have HD : Hid (DiskAt N w p d fp) := h
  obtain ⟨lb, fb, hb⟩ := h.cells
  obtain ⟨c0, c1, c2, c3, c4, c5, c6, c7, hz⟩ := disk_cells hb
  have HB : Hid (w.heap[p]? = some (dC d.room (d.secs.length : Int) d.steps d.dead d.armed d.ahead lb fb)) := hb
  clear hb h
  cases hd : d.dead with
  | true =>
    rw [hd] at c3
    go_enter Try.func26, Try.ntmps26
    go_wp2
    (try simp only [Exit.inBlock, Exit.then]); refine bodyPost_ret (results_none rfl _ _ _) rfl ?_
    exact ⟨rfl, by simpa using HD.out, Only.refl _ _⟩
  | false =>
    rw [hd] at c3
    have HX : Hid (d.dead = false) := hd
    clear hd
    go_enter Try.func26, Try.ntmps26
    go_wp2
    go_end0
    have ho : One p w ((w.setCell ⟨p, 4, none⟩ (.bool (decide (0 ≤ at_)))).setCell ⟨p, 5, none⟩ (.int .i64 at_)) := (one_setCell _ _ _ _).trans (one_setCell _ _ _ _)
    obtain ⟨k1, k2, k3, k4, k5, k6, k7, k8, k9, k10⟩ := HD.out.bounds
    refine ⟨rfl, ?_, Only.of_one ho HD.out.mem⟩
    refine HD.out.turn HB.out ho ?_ rfl rfl (Nat.le_refl _) k3 k4 h1 h2 (fun h => by simpa using h)
    rw [set_cell (set_cell HB.out 4 _) 5 _, HX.out]
    rfl
/-- What a step answers, and the disk behind it. -/
def stepE (d : DS) : Int := if d.dead then 30 else if d.armed && d.ahead == 0 then 30 else 0
def stepD (d : DS) : DS := if d.dead then d else if !d.armed then { d with steps := d.steps + 1 } else if d.ahead = 0 then { d with steps := d.steps + 1, dead := true } else { d with steps := d.steps + 1, ahead := d.ahead - 1 }
theorem stepD_secs (d : DS) : (stepD d).secs = d.secs ∧ (stepD d).room = d.room := by unfold stepD; split <;> (try split) <;> (try split) <;> exact ⟨rfl, rfl⟩
set_option maxHeartbeats 1000000 in
theorem step_any (N : Nat) (p : Nat) (d : DS) (fp : List Nat) (w : World) (h : DiskAt N w p d fp) (hN : N < 1152921504606846976) :
    Calls Try.prog 59 #[.pointer (some ⟨p, 0, none⟩)] w fun x w' => x = .returned (.int .i64 (stepE d)) ∧ DiskAt (N + 1) w' p (stepD d) fp ∧ One p w w' := by
  have HD : Hid (DiskAt N w p d fp) := h
  obtain ⟨k1, k2, k3, k4, k5, k6, k7, k8, k9, k10⟩ := h.bounds
  obtain ⟨lb, fb, hb⟩ := h.cells
  obtain ⟨c0, c1, c2, c3, c4, c5, c6, c7, hz⟩ := disk_cells hb
  have HB : Hid (w.heap[p]? = some (dC d.room (d.secs.length : Int) d.steps d.dead d.armed d.ahead lb fb)) := hb
  have HK : Hid (d.armed = true → 0 ≤ d.ahead) := k10
  clear hb h k7 k10
  cases hd : d.dead with
  | true =>
    rw [hd] at c3
    have HX : Hid (d.dead = true) := hd
    clear hd
    go_enter Try.func59, Try.ntmps59
    go_wp2
    go_ret
    exact ⟨by rw [stepE, if_pos HX.out]; rfl, by rw [stepD, if_pos HX.out]; exact HD.out.mono (by omega), ⟨rfl, rfl, rfl, rfl, rfl, fun _ _ => rfl⟩⟩
  | false =>
    rw [hd] at c3
    have HX : Hid (d.dead = false) := hd
    clear hd
    cases ha : d.armed with
    | false =>
      rw [ha] at c4
      have HA : Hid (d.armed = false) := ha
      clear ha
      go_enter Try.func59, Try.ntmps59
      go_wp2
      go_ret
      have e : stepD d = { d with steps := d.steps + 1 } := by rw [stepD, if_neg (by rw [HX.out]; simp), if_pos (by rw [HA.out]; rfl)]
      refine ⟨by rw [stepE, if_neg (by rw [HX.out]; simp), HA.out]; rfl, ?_, one_setCell _ _ _ _⟩
      rw [e]
      refine HD.out.turn HB.out (one_setCell _ _ _ _) ?_ rfl rfl (by omega) (show 0 ≤ d.steps + 1 by omega) (show d.steps + 1 ≤ _ by omega) k8 k9 HK.out
      rw [set_cell HB.out 2 _]
      rfl
    | true =>
      rw [ha] at c4
      have HA : Hid (d.armed = true) := ha
      have ka := HK.out ha
      clear ha
      by_cases hah : d.ahead = 0
      · rw [hah] at c5
        have HH : Hid (d.ahead = 0) := hah
        clear hah
        go_enter Try.func59, Try.ntmps59
        go_wp2
        go_ret
        have e : stepD d = { d with steps := d.steps + 1, dead := true } := by rw [stepD, if_neg (by rw [HX.out]; simp), if_neg (by rw [HA.out]; simp), if_pos HH.out]
        have ho : One p w ((w.setCell ⟨p, 2, none⟩ (.int .i64 (d.steps + 1))).setCell ⟨p, 3, none⟩ (.bool true)) := (one_setCell _ _ _ _).trans (one_setCell _ _ _ _)
        refine ⟨by rw [stepE, if_neg (by rw [HX.out]; simp), HA.out, HH.out]; rfl, ?_, ho⟩
        rw [e]
        refine HD.out.turn HB.out ho ?_ rfl rfl (by omega) (show 0 ≤ d.steps + 1 by omega) (show d.steps + 1 ≤ _ by omega) k8 k9 HK.out
        rw [set_cell (set_cell HB.out 2 _) 3 _]
        rfl
      · have hb : (d.ahead == 0) = false := by simpa using hah
        have HH : Hid (d.ahead ≠ 0) := hah
        clear hah
        go_enter Try.func59, Try.ntmps59
        go_wp2
        go_ret
        have hne := HH.out
        have e : stepD d = { d with steps := d.steps + 1, ahead := d.ahead - 1 } := by rw [stepD, if_neg (by rw [HX.out]; simp), if_neg (by rw [HA.out]; simp), if_neg HH.out]
        have ho : One p w ((w.setCell ⟨p, 2, none⟩ (.int .i64 (d.steps + 1))).setCell ⟨p, 5, none⟩ (.int .i64 (d.ahead - 1))) := (one_setCell _ _ _ _).trans (one_setCell _ _ _ _)
        refine ⟨by rw [stepE, if_neg (by rw [HX.out]; simp), HA.out, hb]; rfl, ?_, ho⟩
        rw [e]
        refine HD.out.turn HB.out ho ?_ rfl rfl (by omega) (show 0 ≤ d.steps + 1 by omega) (show d.steps + 1 ≤ _ by omega) (show _ ≤ d.ahead - 1 by omega) (show d.ahead - 1 ≤ _ by omega) (fun _ => show 0 ≤ d.ahead - 1 by omega)
        rw [set_cell (set_cell HB.out 2 _) 5 _]
        rfl
end Go.Proofs.Ytpmmpdkeahmdiaa
