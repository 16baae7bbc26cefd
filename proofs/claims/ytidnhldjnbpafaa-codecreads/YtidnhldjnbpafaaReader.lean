/- codec's readers: what each call tells, and how it leaves the reader. -/
import Derived.Test.YtidnhldjnbpafaaFront
namespace Go.Proofs.Ytidnhldjnbpafaa
open Go.RowKit
set_option maxRecDepth 100000

/-- A reader in block rb: the bytes that are not read, and with what it has failed. -/
def Rd (w : World) (rb : Nat) (xs : List Nat) (e : Int) : Prop :=
  ∃ v, w.heap[rb]? = some (.cells #[v, .int .i64 e] 60 (0, 0)) ∧ Row rb w v xs ∧ (∀ x ∈ xs, x < 256) ∧ xs.length ≤ 140737488355328

theorem Rd.but {w w' : World} {rb : Nat} {xs : List Nat} {e : Int} (h : Rd w rb xs e) (hb : Below w.heap.size w w') : Rd w' rb xs e := by
  obtain ⟨v, h1, h2, h3⟩ := h
  have hlt := (Array.getElem?_eq_some_iff.1 h1).1
  exact ⟨v, (hb.block rb hlt).trans h1, h2.below (hb.mono (Nat.le_of_lt hlt)), h3⟩
theorem rd_cells {w : World} {rb : Nat} {v : Value} {e : Int} (h : w.heap[rb]? = some (.cells #[v, .int .i64 e] 60 (0, 0))) :
    w.cell? ⟨rb, 0, none⟩ = some v ∧ w.cell? ⟨rb, 1, none⟩ = some (.int .i64 e) ∧ w.frozen? ⟨rb, 0, none⟩ = false ∧ w.frozen? ⟨rb, 1, none⟩ = false := by
  refine ⟨?_, ?_, ?_, ?_⟩ <;> simp [World.cell?, World.frozen?, h]
theorem rd_set0 {w : World} {rb : Nat} {v v' : Value} {e : Int} (h : w.heap[rb]? = some (.cells #[v, .int .i64 e] 60 (0, 0))) :
    (w.setCell ⟨rb, 0, none⟩ v').heap[rb]? = some (.cells #[v', .int .i64 e] 60 (0, 0)) := by
  simp [World.setCell, Array.getElem?_modify, h]
theorem rd_set1 {w : World} {rb : Nat} {v : Value} {e e' : Int} (h : w.heap[rb]? = some (.cells #[v, .int .i64 e] 60 (0, 0))) :
    (w.setCell ⟨rb, 1, none⟩ (.int .i64 e')).heap[rb]? = some (.cells #[v, .int .i64 e'] 60 (0, 0)) := by
  simp [World.setCell, Array.getElem?_modify, h]
theorem row_set {N : Nat} {w : World} {rb o : Nat} {u v : Value} {xs : List Nat} (h : Row N w v xs) (hN : N ≤ rb) : Row N (w.setCell ⟨rb, o, none⟩ u) v xs :=
  h.below ((Below.refl N w).setCell (p := ⟨rb, o, none⟩) hN u)
/-- A row from its k-th byte on. -/
theorem row_drop {N : Nat} {w : World} {b off cap k : Nat} {xs : List Nat} (h : Row N w (.slice (some ⟨b, off, none⟩) xs.length cap) xs) (hk : k ≤ xs.length) :
    Row N w (.slice (if cap = k then some ⟨b, off, none⟩ else some ⟨b, off + k, none⟩) (xs.length - k) (cap - k)) (xs.drop k) := by
  obtain ⟨ao, cap', e, hcap, hno, hc⟩ := h
  simp only [Value.slice.injEq] at e
  obtain ⟨rfl, _, rfl⟩ := e
  refine ⟨_, cap - k, by rw [List.length_drop], by rw [List.length_drop]; omega, (fun h => by split at h <;> cases h), fun h0 => ?_⟩
  rw [List.length_drop] at h0
  obtain ⟨b', off', e, hN, hd⟩ := hc (by omega)
  simp only [Option.some.injEq, Addr.mk.injEq, and_true] at e
  obtain ⟨rfl, rfl⟩ := e
  refine ⟨b, off + k, by rw [if_neg (by omega)], hN, fun i hi => ?_⟩
  rw [List.length_drop] at hi
  rw [Nat.add_assoc, hd (k + i) (by omega)]
  simp [List.getD_eq_getElem?_getD]

theorem row_drop_eq {N : Nat} {w : World} {b off cap k : Nat} {xs : List Nat} (h : Row N w (.slice (some ⟨b, off, none⟩) xs.length cap) xs) (hk : k ≤ xs.length) (e : cap = k) :
    Row N w (.slice (some ⟨b, off, none⟩) (xs.length - k) 0) (xs.drop k) := by
  have := row_drop h hk; rw [if_pos e, show cap - k = 0 by omega] at this; exact this
theorem row_drop_ne {N : Nat} {w : World} {b off cap k : Nat} {xs : List Nat} (h : Row N w (.slice (some ⟨b, off, none⟩) xs.length cap) xs) (hk : k ≤ xs.length) (e : cap ≠ k) :
    Row N w (.slice (some ⟨b, off + k, none⟩) (xs.length - k) (cap - k)) (xs.drop k) := by
  have := row_drop h hk; rw [if_neg e] at this; exact this

set_option maxHeartbeats 1000000 in
theorem Err_any (rb : Nat) (xs : List Nat) (e : Int) (w : World) (h : Rd w rb xs e) :
    Calls Try.prog 22 #[.pointer (some ⟨rb, 0, none⟩)] w fun x w' => x = .returned (.int .i64 e) ∧ w' = w := by
  obtain ⟨v, h1, h2, h3, h4⟩ := h
  obtain ⟨c0, c1, f0, f1⟩ := rd_cells h1
  clear h1 h2 h3
  go_enter Try.func22, Try.ntmps22
  go_wp2
  go_ret
  exact ⟨rfl, rfl⟩
set_option maxHeartbeats 1000000 in
theorem Left_any (rb : Nat) (xs : List Nat) (e : Int) (w : World) (h : Rd w rb xs e) :
    Calls Try.prog 23 #[.pointer (some ⟨rb, 0, none⟩)] w fun x w' => x = .returned (.int .i64 (xs.length : Int)) ∧ w' = w := by
  obtain ⟨v, h1, h2, h3, h4⟩ := h
  obtain ⟨c0, c1, f0, f1⟩ := rd_cells h1
  obtain ⟨ao, cap, rfl, hcap⟩ := h2.shape
  clear h1 h2 h3
  go_enter Try.func23, Try.ntmps23
  go_wp2
  go_ret
  exact ⟨rfl, rfl⟩
def endE (n : Nat) (e : Int) : Int := if e = 0 ∧ 0 < n then 23 else e
set_option maxHeartbeats 1000000 in
theorem End_any (rb : Nat) (xs : List Nat) (e : Int) (w : World) (h : Rd w rb xs e) :
    Calls Try.prog 24 #[.pointer (some ⟨rb, 0, none⟩)] w fun x w' => x = .returned (.int .i64 (endE xs.length e)) ∧ ∃ n, w' = w.drewN n := by
  obtain ⟨v, h1, h2, h3, h4⟩ := h
  obtain ⟨c0, c1, f0, f1⟩ := rd_cells h1
  obtain ⟨ao, cap, rfl, hcap⟩ := h2.shape
  clear h1 h2 h3
  by_cases he : e = 0
  · subst he
    by_cases hx : 0 < xs.length
    · have HF : Hid (endE xs.length 0 = 23) := by show _ = _; rw [endE, if_pos ⟨rfl, hx⟩]
      go_enter Try.func24, Try.ntmps24
      go_wp2
      go_ret
      exact ⟨by rw [HF.out]; rfl, 0, rfl⟩
    · have HF : Hid (endE xs.length 0 = 0) := by show _ = _; rw [endE, if_neg (fun h => hx h.2)]
      have hx0 : (xs.length : Int) = 0 := by omega
      go_enter Try.func24, Try.ntmps24
      go_wp2
      go_ret
      exact ⟨by rw [HF.out]; rfl, 0, rfl⟩
  · have HF : Hid (endE xs.length e = e) := by show _ = _; rw [endE, if_neg (fun h => he h.1)]
    have hb : (e == 0) = false := by simpa using he
    go_enter Try.func24, Try.ntmps24
    go_wp2
    go_ret
    exact ⟨by rw [HF.out]; rfl, 0, rfl⟩
def failE (e f : Int) : Int := if e = 0 then f else e
set_option maxHeartbeats 1000000 in
theorem Fail_any (rb : Nat) (xs : List Nat) (e f : Int) (w : World) (h : Rd w rb xs e) :
    Calls Try.prog 21 #[.pointer (some ⟨rb, 0, none⟩), .int .i64 f] w fun x w' => x = .returned (.tuple #[]) ∧ Rd w' rb xs (failE e f) ∧ But rb w w' := by
  obtain ⟨v, h1, h2, h3, h4⟩ := h
  obtain ⟨c0, c1, f0, f1⟩ := rd_cells h1
  have HD : Hid (w.heap[rb]? = some (.cells #[v, .int .i64 e] 60 (0, 0)) ∧ Row rb w v xs ∧ (∀ x ∈ xs, x < 256)) := ⟨h1, h2, h3⟩
  clear h1 h2 h3
  by_cases he : e = 0
  · subst he
    go_enter Try.func21, Try.ntmps21
    go_wp2
    go_end0
    exact ⟨rfl, ⟨v, rd_set1 HD.out.1, row_set HD.out.2.1 (Nat.le_refl _), HD.out.2.2, h4⟩, (But.refl _ _).setCell 1 _⟩
  · have hb : (e == 0) = false := by simpa using he
    go_enter Try.func21, Try.ntmps21
    go_wp2
    go_end0
    refine ⟨rfl, ?_, But.refl _ _⟩
    rw [failE, if_neg he]; exact ⟨v, HD.out.1, HD.out.2.1, HD.out.2.2, h4⟩
end Go.Proofs.Ytidnhldjnbpafaa
