/- Texts that were written apart, joined. -/
import Derived.Test.YtllmdfkiogmofaaGreatDoorG5
import Derived.Test.YtllmdfkiogmofaaGreatDoorGd
import Derived.Test.YtllmdfkiogmofaaGreatDoorG8
import Derived.Test.YtllmdfkiogmofaaGreatDoorDrawn8
import Derived.Laws.AppendOwnNone
import Derived.Test.YtllmdfkiogmofaaGreatDoorG2
import Derived.Test.YtllmdfkiogmofaaGreatDoorG7
import Derived.Deep.QuietTactic
import Derived.BigQuiet
import Derived.Test.YtllmdfkiogmofaaGreatDoorG0
/- codec.placeFault, codec.frontUint: the number with whose writing bytes begin. -/
namespace Go.Proofs.YtllmdfkiogmofaaGreatDoor.Cd
open Go.RowKit
set_option maxRecDepth 100000

def fault (p c : Nat) : Nat := if p = 9 ∧ 1 < c then 21 else if 0 < p ∧ c = 0 then 21 else 0

theorem byte_at {xs : List Nat} (hx : ∀ x ∈ xs, x < 256) (k : Nat) : xs.getD k 0 < 256 := by
  rw [List.getD_eq_getElem?_getD]
  cases h : xs[k]? with
  | none => simp
  | some y => exact hx y (List.mem_of_getElem? h)
theorem placeFault_any (p c : Nat) (w : World) (hp : p ≤ 140737488355328) (hc : c < 256) : Calls Tryz.prog 96 #[.int .i64 (p : Int), bv c] w fun e w' => e = .returned (.int .i64 (fault p c : Int)) ∧ w' = w := by
  by_cases h1 : p = 9
  · subst h1
    by_cases h2 : 1 < c
    · have HF : Hid (fault 9 c = 21) := by show fault 9 c = 21; rw [fault, if_pos ⟨rfl, h2⟩]
      go_enter Tryz.func96, Tryz.ntmps96
      go_wp2
      go_ret
      exact ⟨by rw [HF.out]; rfl, rfl⟩
    · by_cases h3 : c = 0
      · subst h3
        go_enter Tryz.func96, Tryz.ntmps96
        go_wp2
        go_ret
        exact ⟨rfl, rfl⟩
      · obtain rfl : c = 1 := by omega
        go_enter Tryz.func96, Tryz.ntmps96
        go_wp2
        go_ret
        exact ⟨rfl, rfl⟩
  · have hb : ((p : Int) == 9) = false := by simp; omega
    by_cases h2 : 0 < p
    · by_cases h3 : c = 0
      · subst h3
        have HF : Hid (fault p 0 = 21) := by show fault p 0 = 21; rw [fault, if_neg (by omega), if_pos ⟨h2, rfl⟩]
        go_enter Tryz.func96, Tryz.ntmps96
        go_wp2
        go_ret
        exact ⟨by rw [HF.out]; rfl, rfl⟩
      · have HF : Hid (fault p c = 0) := by show fault p c = 0; rw [fault, if_neg (by omega), if_neg (by omega)]
        have hc0 : ((c : Int) == 0) = false := by simp; omega
        go_enter Tryz.func96, Tryz.ntmps96
        go_wp2
        go_ret
        exact ⟨by rw [HF.out]; rfl, rfl⟩
    · obtain rfl : p = 0 := by omega
      have HF : Hid (fault 0 c = 0) := by show fault 0 c = 0; rw [fault, if_neg (by omega), if_neg (by omega)]
      go_enter Tryz.func96, Tryz.ntmps96
      go_wp2
      go_ret
      exact ⟨by rw [HF.out]; rfl, rfl⟩

theorem num_fault {c : Nat} {r : List Nat} {i n : Nat} (h : fault i c ≠ 0) : num (c :: r) i n = (0, 0, 21) ∧ fault i c = 21 := by
  unfold fault at *
  by_cases h1 : i = 9 ∧ 1 < c
  · rw [if_pos h1] at *; exact ⟨by rw [num, if_pos h1], rfl⟩
  · rw [if_neg h1] at *
    by_cases h2 : 0 < i ∧ c = 0
    · rw [if_pos h2] at *; exact ⟨by rw [num, if_neg h1, if_pos h2], rfl⟩
    · rw [if_neg h2] at h; exact absurd rfl h
theorem num_well {c : Nat} {r : List Nat} {i n : Nat} (h : fault i c = 0) : num (c :: r) i n = if c < 128 then (n + c * 128 ^ i, i + 1, 0) else num r (i + 1) (n + (c - 128) * 128 ^ i) := by
  unfold fault at h
  by_cases h1 : i = 9 ∧ 1 < c
  · rw [if_pos h1] at h; omega
  · rw [if_neg h1] at h
    by_cases h2 : 0 < i ∧ c = 0
    · rw [if_pos h2] at h; omega
    · rw [num, if_neg h1, if_neg h2]
theorem wrapU {x : Int} (h0 : 0 ≤ x) (h1 : x < 18446744073709551616) : IntKind.u64.wrap x = x := by
  simp [IntKind.wrap, IntKind.bits, IntKind.signed]; omega
/-- The number one byte on stays within its bits. -/
theorem num_next {i n c : Nat} (hi : i ≤ 9) (hn : n < 128 ^ i) (h9 : i = 9 → c ≤ 1) : n + c % 128 * 128 ^ i < 18446744073709551616 ∧ (i < 9 → n + c % 128 * 128 ^ i < 128 ^ (i + 1)) ∧ c % 128 * 128 ^ i < 18446744073709551616 := by
  by_cases e9 : i = 9
  · subst e9
    have hc := h9 rfl
    have : c % 128 * 128 ^ 9 ≤ 1 * 128 ^ 9 := Nat.mul_le_mul_right _ (by omega)
    have e : (128 : Nat) ^ 9 = 9223372036854775808 := by decide
    omega
  · have : (c % 128 + 1) * 128 ^ i ≤ 128 * 128 ^ i := Nat.mul_le_mul_right _ (by omega)
    rw [Nat.add_mul] at this
    have e : 128 * 128 ^ i = 128 ^ (i + 1) := by rw [Nat.pow_succ, Nat.mul_comm]
    have e2 : (128 : Nat) ^ (i + 1) ≤ 128 ^ 9 := Nat.pow_le_pow_right (by decide) (by omega)
    have e3 : (128 : Nat) ^ 9 = 9223372036854775808 := by decide
    omega
theorem pow7 (i : Nat) : (2 : Nat) ^ (7 * i) = 128 ^ i := by rw [Nat.pow_mul]
theorem or_next {i n c : Nat} (hi : i ≤ 9) (hn : n < 128 ^ i) (h9 : i = 9 → c ≤ 1) :
    bits .or .u64 (n : Int) (IntKind.u64.wrap (((c : Int) % 128) * 2 ^ (7 * i))) = ((n + c % 128 * 128 ^ i : Nat) : Int) := by
  obtain ⟨h1, _, h3⟩ := num_next hi hn h9
  have e : ((c : Int) % 128) * 2 ^ (7 * i) = ((c % 128 * 128 ^ i : Nat) : Int) := by rw [← pow7]; push_cast; rfl
  rw [e, wrapU (by omega) (by omega), u64_or_nat _ _ (by omega) h3]
  congr 1
  rw [← pow7] at *
  rw [Nat.or_comm, Nat.mul_comm, ← Nat.two_pow_add_eq_or_of_lt hn]
  omega

set_option maxHeartbeats 4000000 in
theorem frontUint_any (N : Nat) (v : Value) (xs : List Nat) (most : Nat) (w : World) (hrow : Row N w v xs) (hx : ∀ x ∈ xs, x < 256) (hl : xs.length ≤ 140737488355328) :
    Calls Tryz.prog 74 #[v, .int .u64 (most : Int)] w fun e w' => e = .returned (.tuple #[.int .u64 ((front xs most).1 : Int), .int .i64 ((front xs most).2.1 : Int), .int .i64 ((front xs most).2.2 : Int)]) ∧ w' = w := by
  obtain ⟨ao, cap, rfl, hcap, hno, hcells⟩ := hrow
  have HC : Hid (0 < xs.length → ∃ b off, ao = some ⟨b, off, none⟩ ∧ b < N ∧ ∀ i, i < xs.length → w.cell? ⟨b, off + i, none⟩ = some (bv (xs.getD i 0))) := hcells
  have HX : Hid (∀ x ∈ xs, x < 256) := hx
  clear hcells hno hx
  go_enter Tryz.func74, Tryz.ntmps74
  go_wp2
  go_loop [7, 13] (fun vn vk => ∃ k n : Nat, k ≤ xs.length ∧ k ≤ 9 ∧ vk = .int .i64 (k : Int) ∧ vn = .int .u64 (n : Int) ∧ n < 128 ^ k ∧ num xs 0 0 = num (xs.drop k) k n)
    (fun _ vk => xs.length - (intOf vk).toNat)
  case atStart => exact ⟨0, 0, Nat.zero_le _, by decide, rfl, rfl, by decide, rfl⟩
  case round =>
    obtain ⟨k, n, hk, hk9, rfl, rfl, hn, heq⟩ := hrel
    have HE : Hid (num xs 0 0 = num (xs.drop k) k n) := heq
    have HN : Hid (n < 128 ^ k) := hn
    clear heq
    by_cases hlt : k < xs.length
    · obtain ⟨b, off, rfl, _, hc⟩ := HC.out (by omega)
      have hck := hc k hlt
      have hb := byte_at HX.out k
      have HD : Hid (xs.drop k = xs.getD k 0 :: xs.drop (k + 1)) := by show _ = _; rw [List.drop_eq_getElem_cons hlt]; simp [List.getD_eq_getElem?_getD, List.getElem?_eq_getElem hlt]
      clear hc
      generalize xs.getD k 0 = c at hck hb HD
      by_cases hf : fault k c = 0
      · have HF : Hid (fault k c = 0) := hf
        have h9 : k = 9 → c ≤ 1 := by
          intro e; subst e
          rcases Nat.lt_or_ge 1 c with h | h
          · rw [fault, if_pos ⟨rfl, h⟩] at hf; omega
          · exact h
        have hor := or_next hk9 hn h9
        have hnx := num_next hk9 hn h9
        have hW := num_well (r := xs.drop (k + 1)) (n := n) hf
        rw [← HD.out] at hW
        have HW : Hid (num (xs.drop k) k n = if c < 128 then (n + c * 128 ^ k, k + 1, 0) else num (xs.drop (k + 1)) (k + 1) (n + (c - 128) * 128 ^ k)) := hW
        clear hW hf
        by_cases h128 : c < 128
        · have hV := HW.out
          rw [if_pos h128, ← HE.out] at hV
          rw [show c % 128 = c by omega] at hor hnx
          have hor2 := hor
          rw [show (c : Int) % 128 = (c : Int) by omega] at hor2
          generalize hq : n + c * 128 ^ k = q at *
          have HV : Hid (num xs 0 0 = (q, k + 1, 0)) := hV
          have hq64 := hnx.1
          clear hV hnx hn hq HW
          by_cases hmost : most < q
          · have HFR : Hid (front xs most = (0, 0, 22)) := by show front xs most = _; unfold front; rw [HV.out, if_pos ⟨rfl, hmost⟩]
            go_wp2_with (go_at_call 96; refine (placeFault_any k c _ (by omega) hb).mono ?_; rintro e w' ⟨rfl, rfl⟩; rw [HF.out])
            go_ret3
            exact ⟨by rw [HFR.out]; rfl, rfl⟩
          · have HFR : Hid (front xs most = (q, k + 1, 0)) := by show front xs most = _; unfold front; rw [HV.out, if_neg (fun h => hmost h.2)]
            go_wp2_with (go_at_call 96; refine (placeFault_any k c _ (by omega) hb).mono ?_; rintro e w' ⟨rfl, rfl⟩; rw [HF.out])
            go_ret3
            exact ⟨by rw [HFR.out]; rfl, rfl⟩
        · have hV := HW.out
          rw [if_neg h128, ← HE.out] at hV
          have hk8 : k < 9 := by
            rcases Nat.lt_or_ge k 9 with h | h
            · exact h
            · have := h9 (by omega); omega
          rw [show c % 128 = c - 128 by omega] at hor hnx
          have hlt2 := hnx.2.1 hk8
          generalize hq : n + (c - 128) * 128 ^ k = q at *
          have HV : Hid (num xs 0 0 = num (xs.drop (k + 1)) (k + 1) q) := hV
          have HL : Hid (q < 128 ^ (k + 1)) := hlt2
          clear hV hnx hn hq HW hlt2
          go_wp2_with (go_at_call 96; refine (placeFault_any k c _ (by omega) hb).mono ?_; rintro e w' ⟨rfl, rfl⟩; rw [HF.out])
          go_round
          case rel => exact ⟨k + 1, q, by omega, by omega, by go_num, by go_num, HL.out, HV.out⟩
          case measure => simp [intOf]; omega
      · obtain ⟨e1, e2⟩ := num_fault (r := xs.drop (k + 1)) (n := n) hf
        rw [← HD.out, ← HE.out] at e1
        have HFR : Hid (front xs most = (0, 0, 21)) := by show front xs most = _; unfold front; rw [e1, if_neg (fun h => by simp at h)]
        have HF : Hid (fault k c = 21) := e2
        clear e1 e2 hf
        go_wp2_with (go_at_call 96; refine (placeFault_any k c _ (by omega) hb).mono ?_; rintro e w' ⟨rfl, rfl⟩; rw [HF.out])
        go_ret3
        exact ⟨by rw [HFR.out]; rfl, rfl⟩
    · obtain rfl : k = xs.length := by omega
      have e1 := HE.out
      rw [List.drop_length, num] at e1
      have HFR : Hid (front xs most = (0, 0, 20)) := by show front xs most = _; unfold front; rw [e1, if_neg (fun h => by simp at h)]
      clear e1
      go_wp2
      go_ret3
      exact ⟨by rw [HFR.out]; rfl, rfl⟩
end Go.Proofs.YtllmdfkiogmofaaGreatDoor.Cd

/- codec's readers: what each call tells, and how it leaves the reader. -/
namespace Go.Proofs.YtllmdfkiogmofaaGreatDoor.Cd
open Go.RowKit
set_option maxRecDepth 100000

/-- A reader in block rb: the bytes that are not read, and with what it has failed. -/
def Rd (w : World) (rb : Nat) (xs : List Nat) (e : Int) : Prop :=
  ∃ v, w.heap[rb]? = some (.cells #[v, .int .i64 e] 98 (0, 0)) ∧ Row rb w v xs ∧ (∀ x ∈ xs, x < 256) ∧ xs.length ≤ 140737488355328

theorem Rd.but {w w' : World} {rb : Nat} {xs : List Nat} {e : Int} (h : Rd w rb xs e) (hb : Below w.heap.size w w') : Rd w' rb xs e := by
  obtain ⟨v, h1, h2, h3⟩ := h
  have hlt := (Array.getElem?_eq_some_iff.1 h1).1
  exact ⟨v, (hb.block rb hlt).trans h1, h2.below (hb.mono (Nat.le_of_lt hlt)), h3⟩
theorem rd_cells {w : World} {rb : Nat} {v : Value} {e : Int} (h : w.heap[rb]? = some (.cells #[v, .int .i64 e] 98 (0, 0))) :
    w.cell? ⟨rb, 0, none⟩ = some v ∧ w.cell? ⟨rb, 1, none⟩ = some (.int .i64 e) ∧ w.frozen? ⟨rb, 0, none⟩ = false ∧ w.frozen? ⟨rb, 1, none⟩ = false := by
  refine ⟨?_, ?_, ?_, ?_⟩ <;> simp [World.cell?, World.frozen?, h]
theorem rd_set0 {w : World} {rb : Nat} {v v' : Value} {e : Int} (h : w.heap[rb]? = some (.cells #[v, .int .i64 e] 98 (0, 0))) :
    (w.setCell ⟨rb, 0, none⟩ v').heap[rb]? = some (.cells #[v', .int .i64 e] 98 (0, 0)) := by
  simp [World.setCell, Array.getElem?_modify, h]
theorem rd_set1 {w : World} {rb : Nat} {v : Value} {e e' : Int} (h : w.heap[rb]? = some (.cells #[v, .int .i64 e] 98 (0, 0))) :
    (w.setCell ⟨rb, 1, none⟩ (.int .i64 e')).heap[rb]? = some (.cells #[v, .int .i64 e'] 98 (0, 0)) := by
  simp [World.setCell, Array.getElem?_modify, h]
theorem row_set {N : Nat} {w : World} {rb o : Nat} {u v : Value} {xs : List Nat} (h : Row N w v xs) (hN : N ≤ rb) : Row N (w.setCell ⟨rb, o, none⟩ u) v xs :=
  h.below ((Below.refl N w).setCell (p := ⟨rb, o, none⟩) hN u)
/-- A row from its k-th byte on. -/
theorem row_drop {N : Nat} {w : World} {b off cap k : Nat} {xs : List Nat} (h : Row N w (.slice (some ⟨b, off, none⟩) xs.length cap) xs) (hk : k ≤ xs.length) :
    Row N w (.slice (if cap = k then some ⟨b, off, none⟩ else some ⟨b, off + k, none⟩) (xs.length - k) (cap - k)) (xs.drop k) := by
  obtain ⟨ao, cap', e, hcap, hno, hc⟩ := h
  simp only [Value.slice.injEq] at e
  obtain ⟨rfl, _, rfl⟩ := e
  refine ⟨_, cap - k, by rw [List.length_drop], by rw [List.length_drop]; omega, (fun h => by split at h <;> cases h), fun h0 => ?_⟩
  rw [List.length_drop] at h0
  obtain ⟨b', off', e, hN, hd⟩ := hc (by omega)
  simp only [Option.some.injEq, Addr.mk.injEq, and_true] at e
  obtain ⟨rfl, rfl⟩ := e
  refine ⟨b, off + k, by rw [if_neg (by omega)], hN, fun i hi => ?_⟩
  rw [List.length_drop] at hi
  rw [Nat.add_assoc, hd (k + i) (by omega)]
  simp [List.getD_eq_getElem?_getD]

theorem row_drop_eq {N : Nat} {w : World} {b off cap k : Nat} {xs : List Nat} (h : Row N w (.slice (some ⟨b, off, none⟩) xs.length cap) xs) (hk : k ≤ xs.length) (e : cap = k) :
    Row N w (.slice (some ⟨b, off, none⟩) (xs.length - k) 0) (xs.drop k) := by
  have := row_drop h hk; rw [if_pos e, show cap - k = 0 by omega] at this; exact this
theorem row_drop_ne {N : Nat} {w : World} {b off cap k : Nat} {xs : List Nat} (h : Row N w (.slice (some ⟨b, off, none⟩) xs.length cap) xs) (hk : k ≤ xs.length) (e : cap ≠ k) :
    Row N w (.slice (some ⟨b, off + k, none⟩) (xs.length - k) (cap - k)) (xs.drop k) := by
  have := row_drop h hk; rw [if_neg e] at this; exact this

set_option maxHeartbeats 1000000 in
theorem Err_any (rb : Nat) (xs : List Nat) (e : Int) (w : World) (h : Rd w rb xs e) :
    Calls Tryz.prog 46 #[.pointer (some ⟨rb, 0, none⟩)] w fun x w' => x = .returned (.int .i64 e) ∧ w' = w := by
  obtain ⟨v, h1, h2, h3, h4⟩ := h
  obtain ⟨c0, c1, f0, f1⟩ := rd_cells h1
  clear h1 h2 h3
  go_enter Tryz.func46, Tryz.ntmps46
  go_wp2
  go_ret
  exact ⟨rfl, rfl⟩
def endE (n : Nat) (e : Int) : Int := if e = 0 ∧ 0 < n then 23 else e
def failE (e f : Int) : Int := if e = 0 then f else e
set_option maxHeartbeats 1000000 in
theorem Fail_any (rb : Nat) (xs : List Nat) (e f : Int) (w : World) (h : Rd w rb xs e) :
    Calls Tryz.prog 75 #[.pointer (some ⟨rb, 0, none⟩), .int .i64 f] w fun x w' => x = .returned (.tuple #[]) ∧ Rd w' rb xs (failE e f) ∧ But rb w w' := by
  obtain ⟨v, h1, h2, h3, h4⟩ := h
  obtain ⟨c0, c1, f0, f1⟩ := rd_cells h1
  have HD : Hid (w.heap[rb]? = some (.cells #[v, .int .i64 e] 98 (0, 0)) ∧ Row rb w v xs ∧ (∀ x ∈ xs, x < 256)) := ⟨h1, h2, h3⟩
  clear h1 h2 h3
  by_cases he : e = 0
  · subst he
    go_enter Tryz.func75, Tryz.ntmps75
    go_wp2
    go_end0
    exact ⟨rfl, ⟨v, rd_set1 HD.out.1, row_set HD.out.2.1 (Nat.le_refl _), HD.out.2.2, h4⟩, (But.refl _ _).setCell 1 _⟩
  · have hb : (e == 0) = false := by simpa using he
    go_enter Tryz.func75, Tryz.ntmps75
    go_wp2
    go_end0
    refine ⟨rfl, ?_, But.refl _ _⟩
    rw [failE, if_neg he]; exact ⟨v, HD.out.1, HD.out.2.1, HD.out.2.2, h4⟩
end Go.Proofs.YtllmdfkiogmofaaGreatDoor.Cd

/- codec's readers: Byte, Uint, Bytes. -/
namespace Go.Proofs.YtllmdfkiogmofaaGreatDoor.Cd
open Go.RowKit
set_option maxRecDepth 100000

def uintR (xs : List Nat) (e : Int) (most : Nat) : Nat × List Nat × Int :=
  if e ≠ 0 then (0, xs, e) else if (front xs most).2.2 ≠ 0 then (0, xs, ((front xs most).2.2 : Int)) else ((front xs most).1, xs.drop (front xs most).2.1, 0)

set_option maxHeartbeats 2000000 in
theorem Uint_any (rb : Nat) (xs : List Nat) (e : Int) (most : Nat) (w : World) (h : Rd w rb xs e) :
    Calls Tryz.prog 45 #[.pointer (some ⟨rb, 0, none⟩), .int .u64 (most : Int)] w fun x w' => x = .returned (.int .u64 ((uintR xs e most).1 : Int)) ∧ Rd w' rb (uintR xs e most).2.1 (uintR xs e most).2.2 ∧ But rb w w' := by
  have HR : Hid (Rd w rb xs e) := h
  obtain ⟨v, h1, h2, h3, h4⟩ := h
  obtain ⟨c0, c1, f0, f1⟩ := rd_cells h1
  have HD : Hid (w.heap[rb]? = some (.cells #[v, .int .i64 e] 98 (0, 0)) ∧ Row rb w v xs ∧ (∀ x ∈ xs, x < 256)) := ⟨h1, h2, h3⟩
  have hff := front_facts xs most h3
  have hcall := frontUint_any rb v xs most w h2 h3 h4
  clear h1 h3
  by_cases he : e = 0
  · subst he
    by_cases hz : (front xs most).2.2 = 0
    · have HU : Hid (uintR xs 0 most = ((front xs most).1, xs.drop (front xs most).2.1, 0)) := by show _ = _; rw [uintR, if_neg (by simp), if_neg (by simp [hz])]
      obtain ⟨g1, g2, g3, g4, g5, _⟩ := hff.1 hz
      rw [hz] at hcall
      generalize hf1 : (front xs most).1 = n at hcall HU g4 g5
      generalize hf2 : (front xs most).2.1 = k at hcall HU g1 g2 g3
      have HC : Hid (Calls Tryz.prog 74 #[v, .int .u64 (most : Int)] w fun e w' => e = .returned (.tuple #[.int .u64 (n : Int), .int .i64 (k : Int), .int .i64 0]) ∧ w' = w) := hcall
      clear hff hcall hf1 hf2 hz
      obtain ⟨ao, cap, rfl, hcap, hno, hc⟩ := h2
      obtain ⟨b, off, rfl, hN, hd⟩ := hc (by omega)
      have HWA : Hid (cap = k → Row rb w (.slice (some ⟨b, off, none⟩) (xs.length - k) 0) (xs.drop k)) := row_drop_eq HD.out.2.1 g2
      have HWB : Hid (cap ≠ k → Row rb w (.slice (some ⟨b, off + k, none⟩) (xs.length - k) (cap - k)) (xs.drop k)) := row_drop_ne HD.out.2.1 g2
      have hkc : k ≤ cap := by omega
      clear hc hd hno
      go_enter Tryz.func45, Tryz.ntmps45
      go_wp2_with (go_at_call 74; refine HC.out.mono ?_; rintro x w' ⟨rfl, rfl⟩)
      all_goals
        go_ret
        rw [HU.out]
        exact ⟨rfl, ⟨_, rd_set0 HD.out.1, row_set (by first | exact HWA.out (by omega) | exact HWB.out (by omega)) (Nat.le_refl _), fun x hx => HD.out.2.2 x (List.mem_of_mem_drop (show x ∈ xs.drop k from hx)), by show (xs.drop k).length ≤ _; rw [List.length_drop]; omega⟩, (But.refl _ _).setCell 0 _⟩
    · have HU : Hid (uintR xs 0 most = (0, xs, ((front xs most).2.2 : Int))) := by show _ = _; rw [uintR, if_neg (by simp), if_pos hz]
      obtain ⟨g1, g2, g3⟩ := hff.2 hz
      rw [g1, g2] at hcall
      generalize hf3 : (front xs most).2.2 = f at hcall HU hz g3
      have HC : Hid (Calls Tryz.prog 74 #[v, .int .u64 (most : Int)] w fun e w' => e = .returned (.tuple #[.int .u64 0, .int .i64 0, .int .i64 (f : Int)]) ∧ w' = w) := hcall
      have hb : ((f : Int) == 0) = false := by simpa using hz
      clear hff hcall hf3 hz g1 g2
      go_enter Tryz.func45, Tryz.ntmps45
      go_wp2_with (first
        | (go_at_call 74; refine HC.out.mono ?_; rintro x w' ⟨rfl, rfl⟩)
        | (go_at_call 75; refine (Fail_any rb xs 0 (f : Int) _ HR.out).mono ?_; rintro x w' ⟨rfl, hrd, hbut⟩))
      go_ret
      rw [HU.out]
      exact ⟨rfl, hrd, hbut⟩
  · have hb : (e == 0) = false := by simpa using he
    have HB : Hid (uintR xs e most = (0, xs, e)) := by show _ = _; rw [uintR, if_pos he]
    clear hff hcall
    go_enter Tryz.func45, Tryz.ntmps45
    go_wp2
    go_ret
    rw [HB.out]
    exact ⟨rfl, HR.out, But.refl _ _⟩
end Go.Proofs.YtllmdfkiogmofaaGreatDoor.Cd

/- Machines out of bytes. No program is named here. -/
namespace Go.Proofs.YtllmdfkiogmofaaGreatDoor.Pk
open Go.Proofs.YtllmdfkiogmofaaGreatDoor.Cd (uw uintR front num)

abbrev Rs := List Nat × Int
def rU (st : Rs) (most : Nat) : Nat × Rs := ((uintR st.1 st.2 most).1, ((uintR st.1 st.2 most).2.1, (uintR st.1 st.2 most).2.2))
def rdA (n : Nat) : Nat → Int → List RArc → Rs → List RArc × Rs
  | 0, _, acc, st => (acc, st)
  | c + 1, p, acc, st => if st.2 ≠ 0 then (acc, st) else
      rdA n c (p + (rU st (1114111 - p).toNat).1) (acc ++ [⟨p + (rU st (1114111 - p).toNat).1, (rU (rU st (1114111 - p).toNat).2 1048576).1, n - (rU (rU (rU st (1114111 - p).toNat).2 1048576).2 n).1⟩]) (rU (rU (rU st (1114111 - p).toNat).2 1048576).2 n).2
def rdO (h : Nat) (st : Rs) : Nat × Rs := if h % 2 = 1 then rU st 1048576 else (0, st)
def rdS (n : Nat) (st : Rs) : RSt × Rs :=
  (⟨decide ((rU st 8193).1 % 2 = 1), (rdO (rU st 8193).1 (rU st 8193).2).1, (rdA n ((rU st 8193).1 / 2) 0 [] (rdO (rU st 8193).1 (rU st 8193).2).2).1⟩, (rdA n ((rU st 8193).1 / 2) 0 [] (rdO (rU st 8193).1 (rU st 8193).2).2).2)
def rdM : Nat → Nat → List RSt → Rs → List RSt × Rs
  | 0, _, acc, st => (acc, st)
  | c + 1, i, acc, st => if st.2 ≠ 0 then (acc, st) else rdM c (i + 1) (acc ++ [(rdS i st).1]) (rdS i st).2
/-- What is read: Base, states, what is left. -/
def rdAll (xs : List Nat) : Nat × List RSt × Rs := ((rU (xs, 0) 1048576).1, rdM (rU (rU (xs, 0) 1048576).2 98305).1 0 [] (rU (rU (xs, 0) 1048576).2 98305).2)
theorem rU_put {m most : Nat} (h : m ≤ most) (h2 : m < 18446744073709551616) (r : List Nat) : rU (uw m ++ r, 0) most = (m, (r, 0)) := by
  have hn := Cd.num_write h2 r
  have hf : front (uw m ++ r) most = (m, (uw m).length, 0) := by
    unfold front
    rw [hn, if_neg (by simp only; omega)]
  unfold rU uintR
  simp only [hf]
  simp
def Byt (st : Rs) : Prop := ∀ x ∈ st.1, x < 256
theorem rU_byt {st : Rs} {most : Nat} (h : Byt st) : Byt (rU st most).2 := by
  unfold rU uintR
  by_cases h1 : st.2 ≠ 0
  · simp only [if_pos h1]; exact h
  · simp only [if_neg h1]
    split
    · exact h
    · exact fun x hx => h x (List.mem_of_mem_drop hx)
theorem rU_back {st : Rs} {most : Nat} (hb : Byt st) (h : (rU st most).2.2 = 0) : st.2 = 0 ∧ uw (rU st most).1 ++ (rU st most).2.1 = st.1 ∧ (rU st most).1 ≤ most := by
  unfold rU uintR at *
  by_cases h1 : st.2 ≠ 0
  · simp only [if_pos h1] at h
    exact absurd h h1
  · have h0 : st.2 = 0 := Decidable.byContradiction h1
    simp only [if_neg h1] at h ⊢
    by_cases h2 : (front st.1 most).2.2 ≠ 0
    · simp only [if_pos h2] at h
      exact absurd h (by omega)
    · simp only [if_neg h2]
      have h2' : (front st.1 most).2.2 = 0 := Decidable.byContradiction h2
      obtain ⟨_, f2, _, _, f5, f6⟩ := (Cd.front_facts st.1 most hb).1 h2'
      refine ⟨h0, ?_, f5⟩
      rw [f6] at h2' ⊢
      rw [Cd.num_again hb h2', List.take_append_drop]
theorem rU_le {st : Rs} {most : Nat} (hb : Byt st) : (rU st most).1 ≤ most := by
  by_cases h : (rU st most).2.2 = 0
  · exact (rU_back hb h).2.2
  · unfold rU uintR at *
    by_cases h1 : st.2 ≠ 0
    · simp only [if_pos h1]; omega
    · simp only [if_neg h1] at h ⊢
      split
      · simp
      · rename_i h2
        rw [if_neg h2] at h
        exact absurd rfl h
/-- Arcs that can be written. -/
def OkA (n : Nat) : Int → List RArc → Prop
  | _, [] => True
  | p, a :: r => p ≤ a.label ∧ a.label ≤ 1114111 ∧ 0 ≤ a.out ∧ a.out ≤ 1048576 ∧ 0 ≤ a.to ∧ a.to ≤ n ∧ OkA n a.label r
theorem rdA_put {n : Nat} (hn : n ≤ 1048576) : ∀ (l : List RArc) (p : Int) (acc : List RArc) (r : List Nat), 0 ≤ p → OkA n p l → rdA n l.length p acc (putA n p l ++ r, 0) = (acc ++ l, (r, 0))
  | [], p, acc, r, _, _ => by simp [rdA, putA]
  | a :: l, p, acc, r, hp, h => by
    obtain ⟨h1, h2, h3, h4, h5, h6, h7⟩ := h
    have e1 := rU_put (m := (a.label - p).toNat) (most := (1114111 - p).toNat) (by omega) (by omega) (uw a.out.toNat ++ (uw ((n : Int) - a.to).toNat ++ (putA n a.label l ++ r)))
    have e2 := rU_put (m := a.out.toNat) (most := 1048576) (by omega) (by omega) (uw ((n : Int) - a.to).toNat ++ (putA n a.label l ++ r))
    have e3 := rU_put (m := ((n : Int) - a.to).toNat) (most := n) (by omega) (by omega) (putA n a.label l ++ r)
    have ei : putA n p (a :: l) ++ r = uw (a.label - p).toNat ++ (uw a.out.toNat ++ (uw ((n : Int) - a.to).toNat ++ (putA n a.label l ++ r))) := by simp [putA]
    rw [ei, List.length_cons, rdA, if_neg (by simp), e1, e2, e3]
    have g1 : p + ((a.label - p).toNat : Int) = a.label := by omega
    have g2 : (a.out.toNat : Int) = a.out := by omega
    have g3 : (n : Int) - ((((n : Int) - a.to).toNat : Nat) : Int) = a.to := by omega
    simp only [g1, g2, g3]
    rw [rdA_put hn l a.label (acc ++ [a]) r (by omega) h7]
    simp
theorem rdA_back {n : Nat} : ∀ (c : Nat) (p : Int) (acc : List RArc) (st : Rs), 0 ≤ p → p ≤ 1114111 → Byt st → (rdA n c p acc st).2.2 = 0 → st.2 = 0 ∧ Byt (rdA n c p acc st).2 ∧ ∃ l, (rdA n c p acc st).1 = acc ++ l ∧ l.length = c ∧ putA n p l ++ (rdA n c p acc st).2.1 = st.1
  | 0, p, acc, st, _, _, hb, h => ⟨h, hb, [], by simp [rdA], rfl, by simp [rdA, putA]⟩
  | c + 1, p, acc, st, hp, hp2, hb, h => by
    rw [rdA] at h ⊢
    by_cases h0 : st.2 ≠ 0
    · rw [if_pos h0] at h
      exact absurd h h0
    · rw [if_neg h0] at h ⊢
      have b1 := rU_byt (most := (1114111 - p).toNat) hb
      have b2 := rU_byt (most := 1048576) b1
      have b3 := rU_byt (most := n) b2
      have l1 := rU_le (most := (1114111 - p).toNat) hb
      obtain ⟨k1, k2, l, k3, k4, k5⟩ := rdA_back c _ _ _ (by omega) (by omega) b3 h
      obtain ⟨a1, a2, a3⟩ := rU_back b2 k1
      obtain ⟨c1, c2, c3⟩ := rU_back b1 a1
      obtain ⟨d1, d2, d3⟩ := rU_back hb c1
      refine ⟨d1, k2, _, by rw [k3, List.append_assoc], by simp [k4], ?_⟩
      rw [← d2, ← c2, ← a2, ← k5]
      have g1 : (p + ((rU st (1114111 - p).toNat).1 : Int) - p).toNat = (rU st (1114111 - p).toNat).1 := by omega
      have g3 : ((n : Int) - ((n : Int) - ((rU (rU (rU st (1114111 - p).toNat).2 1048576).2 n).1 : Int))).toNat = (rU (rU (rU st (1114111 - p).toNat).2 1048576).2 n).1 := by omega
      simp [putA, g1, g3]
/-- States that can be written. -/
def OkS (n : Nat) (s : RSt) : Prop := s.arcs.length ≤ 4096 ∧ (s.final = false → s.out = 0) ∧ 0 ≤ s.out ∧ s.out ≤ 1048576 ∧ OkA n 0 s.arcs
theorem rdS_put {n : Nat} (hn : n ≤ 1048576) {s : RSt} (h : OkS n s) (r : List Nat) : rdS n (putS s n ++ r, 0) = (s, (r, 0)) := by
  obtain ⟨h1, h2, h3, h4, h5⟩ := h
  have hh : (headS s).toNat = 2 * s.arcs.length + (if s.final then 1 else 0) := by unfold headS; split <;> omega
  have e1 := rU_put (m := (headS s).toNat) (most := 8193) (by rw [hh]; split <;> omega) (by rw [hh]; split <;> omega) ((if s.final then uw s.out.toNat else []) ++ (putA n 0 s.arcs ++ r))
  have ei : putS s n ++ r = uw (headS s).toNat ++ ((if s.final then uw s.out.toNat else []) ++ (putA n 0 s.arcs ++ r)) := by simp [putS]
  have hdiv : (headS s).toNat / 2 = s.arcs.length := by rw [hh]; split <;> omega
  have hmod : (headS s).toNat % 2 = 1 ↔ s.final = true := by
    rw [hh]
    cases s.final <;> simp <;> omega
  have ho : rdO (headS s).toNat ((if s.final then uw s.out.toNat else []) ++ (putA n 0 s.arcs ++ r), 0) = (s.out.toNat, (putA n 0 s.arcs ++ r, 0)) := by
    unfold rdO
    cases hf : s.final with
    | true =>
      rw [if_pos (hmod.2 hf), if_pos rfl]
      exact rU_put (by omega) (by omega) _
    | false =>
      rw [if_neg (fun e => by rw [hmod.1 e] at hf; cases hf), h2 hf]
      simp
  unfold rdS
  rw [ei, e1]
  simp only
  rw [ho]
  simp only
  rw [hdiv, rdA_put hn s.arcs 0 [] r (Int.le_refl _) h5]
  have hfin : decide ((headS s).toNat % 2 = 1) = s.final := by
    cases hf : s.final with
    | true => exact decide_eq_true (hmod.2 hf)
    | false => exact decide_eq_false (fun e => by rw [hmod.1 e] at hf; cases hf)
  have ho2 : ((s.out.toNat : Nat) : Int) = s.out := by omega
  rw [hfin, ho2]
  simp
theorem rdS_back {n : Nat} {st : Rs} (hb : Byt st) (h : (rdS n st).2.2 = 0) : st.2 = 0 ∧ Byt (rdS n st).2 ∧ putS (rdS n st).1 n ++ (rdS n st).2.1 = st.1 := by
  unfold rdS at h ⊢
  simp only at h ⊢
  have b1 := rU_byt (most := 8193) hb
  have b2 : Byt (rdO (rU st 8193).1 (rU st 8193).2).2 := by
    unfold rdO
    split
    · exact rU_byt b1
    · exact b1
  obtain ⟨k1, k2, l, k3, k4, k5⟩ := rdA_back _ 0 [] _ (by omega) (by omega) b2 h
  have hO : (rU st 8193).2.2 = 0 ∧ (if (rU st 8193).1 % 2 = 1 then uw (rdO (rU st 8193).1 (rU st 8193).2).1 else []) ++ (rdO (rU st 8193).1 (rU st 8193).2).2.1 = (rU st 8193).2.1 := by
    unfold rdO at k1 ⊢
    by_cases hm : (rU st 8193).1 % 2 = 1
    · rw [if_pos hm] at k1
      simp only [if_pos hm]
      obtain ⟨a1, a2, _⟩ := rU_back b1 k1
      exact ⟨a1, a2⟩
    · rw [if_neg hm] at k1
      simp only [if_neg hm]
      exact ⟨k1, rfl⟩
  obtain ⟨d1, d2, d3⟩ := rU_back hb hO.1
  refine ⟨d1, k2, ?_⟩
  rw [List.nil_append] at k3
  unfold putS
  simp only [k3]
  have hh : (headS ⟨decide ((rU st 8193).1 % 2 = 1), ((rdO (rU st 8193).1 (rU st 8193).2).1 : Int), l⟩).toNat = (rU st 8193).1 := by
    unfold headS
    simp only [k4, decide_eq_true_eq]
    split <;> omega
  rw [hh, ← d2, ← hO.2, ← k5]
  simp only [decide_eq_true_eq, Int.toNat_natCast, List.append_assoc]
theorem rdM_put : ∀ (m : List RSt) (i : Nat) (acc : List RSt) (r : List Nat), i + m.length ≤ 1048576 → (∀ (j : Nat) (s : RSt), m[j]? = some s → OkS (i + j) s) → rdM m.length i acc (putM i m ++ r, 0) = (acc ++ m, (r, 0))
  | [], i, acc, r, _, _ => by simp [rdM, putM]
  | s :: m, i, acc, r, hl, h => by
    have hs := rdS_put (n := i) (by simp at hl; omega) (h 0 s rfl) (putM (i + 1) m ++ r)
    have ei : putM i (s :: m) ++ r = putS s i ++ (putM (i + 1) m ++ r) := by simp [putM]
    rw [ei, List.length_cons, rdM, if_neg (by simp), hs]
    simp only
    rw [rdM_put m (i + 1) (acc ++ [s]) r (by simp at hl; omega) (fun j t hj => by have := h (j + 1) t (by simpa using hj); rwa [show i + (j + 1) = i + 1 + j by omega] at this)]
    simp
theorem rdM_back : ∀ (c i : Nat) (acc : List RSt) (st : Rs), Byt st → (rdM c i acc st).2.2 = 0 → st.2 = 0 ∧ Byt (rdM c i acc st).2 ∧ ∃ m, (rdM c i acc st).1 = acc ++ m ∧ m.length = c ∧ putM i m ++ (rdM c i acc st).2.1 = st.1
  | 0, i, acc, st, hb, h => ⟨h, hb, [], by simp [rdM], rfl, by simp [rdM, putM]⟩
  | c + 1, i, acc, st, hb, h => by
    rw [rdM] at h ⊢
    by_cases h0 : st.2 ≠ 0
    · rw [if_pos h0] at h
      exact absurd h h0
    · rw [if_neg h0] at h ⊢
      have hb2 : Byt (rdS i st).2 := by
        by_cases hz : (rdS i st).2.2 = 0
        · exact (rdS_back hb hz).2.1
        · have := rdM_err c (i + 1) (acc ++ [(rdS i st).1]) _ hz
          exact absurd h this
      obtain ⟨k1, k2, m, k3, k4, k5⟩ := rdM_back c (i + 1) _ _ hb2 h
      obtain ⟨d1, _, d3⟩ := rdS_back hb k1
      refine ⟨d1, k2, (rdS i st).1 :: m, by rw [k3, List.append_assoc]; rfl, by simp [k4], ?_⟩
      rw [← d3, ← k5]
      simp [putM]
where
  rdM_err : ∀ (c i : Nat) (acc : List RSt) (st : Rs), st.2 ≠ 0 → (rdM c i acc st).2.2 ≠ 0
  | 0, _, _, _, h => h
  | c + 1, _, _, st, h => by rw [rdM, if_pos h]; exact h
theorem rdAll_put {base : Int} {m : List RSt} (h0 : 0 ≤ base) (h1 : base ≤ 1048576) (hl : m.length ≤ 98305) (h : ∀ (j : Nat) (s : RSt), m[j]? = some s → OkS j s) (r : List Nat) : rdAll (packB base m ++ r) = (base.toNat, m, (r, 0)) := by
  have e1 := rU_put (m := base.toNat) (most := 1048576) (by omega) (by omega) (uw m.length ++ (putM 0 m ++ r))
  have e2 := rU_put (m := m.length) (most := 98305) hl (by omega) (putM 0 m ++ r)
  have ei : packB base m ++ r = uw base.toNat ++ (uw m.length ++ (putM 0 m ++ r)) := by simp [packB]
  unfold rdAll
  rw [ei, e1, e2]
  simp only
  rw [rdM_put m 0 [] r (by omega) (fun j s hj => by rw [Nat.zero_add]; exact h j s hj)]
  simp
theorem rdAll_back {xs : List Nat} (hb : ∀ x ∈ xs, x < 256) (h : (rdAll xs).2.2.2 = 0) : packB ((rdAll xs).1 : Int) (rdAll xs).2.1 ++ (rdAll xs).2.2.1 = xs ∧ (rdAll xs).2.1.length ≤ 98305 := by
  unfold rdAll at *
  simp only at *
  have b0 : Byt (xs, 0) := hb
  have b1 := rU_byt (most := 1048576) b0
  have b2 := rU_byt (most := 98305) b1
  obtain ⟨k1, _, m, k3, k4, k5⟩ := rdM_back _ 0 [] _ b2 h
  obtain ⟨a1, a2, a3⟩ := rU_back b1 k1
  obtain ⟨d1, d2, _⟩ := rU_back b0 a1
  rw [List.nil_append] at k3
  refine ⟨?_, by rw [k3, k4]; exact a3⟩
  rw [k3]
  unfold packB
  rw [Int.toNat_natCast, k4, List.append_assoc, List.append_assoc, k5, a2]
  exact d2
end Go.Proofs.YtllmdfkiogmofaaGreatDoor.Pk

/- Machines of dictionaries are read as they were written. No program is named here. -/
namespace Go.Proofs.YtllmdfkiogmofaaGreatDoor.Pk
open Go.Proofs.YtllmdfkiogmofaaGreatDoor.Nums Go.Proofs.YtllmdfkiogmofaaGreatDoor.Fm Go.Proofs.YtllmdfkiogmofaaGreatDoor

theorem len_of_sub {α : Type} [DecidableEq α] : ∀ (l m : List α), l.Nodup → (∀ x ∈ l, x ∈ m) → l.length ≤ m.length
  | [], _, _, _ => Nat.zero_le _
  | x :: r, m, hn, h => by
    obtain ⟨h1, h2⟩ := List.nodup_cons.1 hn
    have hx := h x (by simp)
    have := len_of_sub r (m.erase x) h2 (fun y hy => (List.mem_erase_of_ne (fun e : y = x => h1 (by rw [← e]; exact hy))).2 (h y (by simp [hy])))
    rw [List.length_erase_of_mem hx] at this
    have hp := List.length_pos_of_mem hx
    rw [List.length_cons]
    omega
theorem flat_lens (S : List En) (f : En → Nat → List En) : (S.flatMap fun e => (List.range e.1.length).map (f e)).length = (S.map fun e => e.1.length).sum := by
  induction S with
  | nil => rfl
  | cons e r ih => simp [ih]
theorem sum_lens : ∀ (S : List En), (∀ e ∈ S, e.1.length ≤ 24) → (S.map fun e => e.1.length).sum ≤ S.length * 24
  | [], _ => by simp
  | e :: r, h => by
    have := sum_lens r fun x hx => h x (by simp [hx])
    have := h e (by simp)
    simp only [List.map_cons, List.sum_cons, List.length_cons]
    omega
/-- How many states there are. -/
theorem mach_most {l : List Pr} (h : buildE l = 0) : (machOf l).2.length ≤ 98305 := by
  by_cases hl : l = []
  · subst hl
    simp [machOf]
  have hG := dict_good h hl
  have hD := dict_ok h
  have hM : machOf l = (least (ents l), (stF 25 [] (ents l)).1) := by rw [machOf, if_pos ⟨h, hl⟩]
  obtain ⟨D, M⟩ := stF_spec 25 [] [] (ents l) Inv.nil hG
  rw [hM]
  simp only
  rw [← M.inv.len]
  have h1 := len_of_sub D (level (ents l) :: (ents l).flatMap fun e => (List.range e.1.length).map fun k => level (behind (e.1.take (k + 1)) (ents l))) M.inv.nd (fun R hR => by
    have hs := (M.sub R hR).resolve_left (fun h => by cases h)
    obtain ⟨xs, n, hx, k, hk, rfl⟩ := sub_word hs hD.rise (ents_ne hl)
    cases k with
    | zero => exact List.mem_cons.2 (.inl rfl)
    | succ k => exact List.mem_cons.2 (.inr (List.mem_flatMap.2 ⟨(xs, n), hx, List.mem_map.2 ⟨k, List.mem_range.2 (by simp only; omega), rfl⟩⟩)))
  rw [List.length_cons, flat_lens] at h1
  have h2 := sum_lens (ents l) hD.en.ln
  have h3 : (ents l).length = l.length := by simp [ents]
  have h4 := hD.len
  omega
theorem flat_many {D : List (List En)} (hD : ∀ R ∈ D, R ≠ []) : ∀ (l : List Arc), (∀ a ∈ l, a.to < D.length) → l.length ≤ (flat (outs D l)).length
  | [], _ => Nat.zero_le _
  | a :: l, h => by
    have ht := h a (by simp)
    have ih := flat_many hD l fun x hx => h x (by simp [hx])
    have hp := List.length_pos_iff.2 (hD _ (List.getElem_mem ht))
    simp only [outs, flat, List.map_cons, List.flatMap_cons, List.length_append, List.length_map, List.getElem?_eq_getElem ht, Option.getD_some, shift, List.length_cons] at ih ⊢
    omega
theorem okA_of : ∀ (l : List Arc) (n : Nat) (p : Int), l.Pairwise (fun a b => a.label < b.label) → (∀ a ∈ l, (0 ≤ a.label ∧ a.label < 1114112) ∧ (0 ≤ a.out ∧ a.out ≤ 1048576) ∧ a.to < n) → (∀ a ∈ l, p ≤ a.label) → OkA n p (l.map ofArc)
  | [], _, _, _, _, _ => trivial
  | a :: r, n, p, hp, h, hq => by
    obtain ⟨h1, h2⟩ := List.pairwise_cons.1 hp
    obtain ⟨⟨g1, g2⟩, ⟨g3, g4⟩, g5⟩ := h a (by simp)
    have := hq a (by simp)
    refine ⟨this, by simp only [ofArc]; omega, g3, g4, by simp only [ofArc]; omega, by simp only [ofArc]; omega, ?_⟩
    exact okA_of r n a.label h2 (fun x hx => h x (by simp [hx])) (fun x hx => by have := h1 x hx; omega)
theorem built_okS {l : List Pr} (h : buildE l = 0) : ∀ (j : Nat) (s : RSt), ((machOf l).2.map ofSt)[j]? = some s → OkS j s := by
  intro j s hj
  rw [List.getElem?_map] at hj
  obtain ⟨t, ht, rfl⟩ := Option.map_eq_some_iff.1 hj
  have hf := built_facts h j t ht
  by_cases hl : l = []
  · subst hl
    simp [machOf] at ht
  have hM : machOf l = (least (ents l), (stF 25 [] (ents l)).1) := by rw [machOf, if_pos ⟨h, hl⟩]
  rw [hM] at ht
  obtain ⟨D, hI, hR⟩ := dict_rests h hl
  simp only at ht
  obtain ⟨e1, e2, e3⟩ := hI.row j t ht
  refine ⟨?_, fun hn => e3.fin hn, hf.1.1, hf.1.2, okA_of t.arcs j 0 e3.lab hf.2 (fun a ha => (hf.2 a ha).1.1)⟩
  have h1 := flat_many hR.ne t.arcs e3.to
  have h2 := hR.few _ (List.mem_of_getElem? e1)
  unfold exp at h2
  rw [List.length_append] at h2
  simp only [ofSt, List.length_map]
  omega
theorem built_base {l : List Pr} (h : buildE l = 0) : 0 ≤ (machOf l).1 ∧ (machOf l).1 ≤ 1048576 := by
  by_cases hl : l = []
  · subst hl
    simp [machOf]
  have hM : machOf l = (least (ents l), (stF 25 [] (ents l)).1) := by rw [machOf, if_pos ⟨h, hl⟩]
  obtain ⟨D, hI, hR⟩ := dict_rests h hl
  rw [hM]
  have := hR.lo
  have := hR.hi
  simp only
  omega
/-- Read as it was written. -/
theorem rd_built {l : List Pr} (h : buildE l = 0) (r : List Nat) : rdAll (packB (machOf l).1 ((machOf l).2.map ofSt) ++ r) = ((machOf l).1.toNat, (machOf l).2.map ofSt, (r, 0)) := by
  have hb := built_base h
  exact rdAll_put hb.1 hb.2 (by rw [List.length_map]; exact mach_most h) (built_okS h) r
end Go.Proofs.YtllmdfkiogmofaaGreatDoor.Pk

/- The reference's Words. -/
namespace Go.Proofs.YtllmdfkiogmofaaGreatDoor
open Go.RowKit Nums Fm Pk
set_option maxRecDepth 100000

/-- What region 12 looks at. -/
structure SW (mb sb g o : Nat) (bs : Int) (vs va : Value) (lb ot : Int) (tn : Nat) (W : World) : Prop where
  m0 : W.cell? ⟨mb, 0, none⟩ = some (.int .i64 bs)
  m1 : W.cell? ⟨mb, 1, none⟩ = some vs
  s2 : W.cell? ⟨sb, 2, none⟩ = some va
  a0 : W.cell? ⟨g, o, none⟩ = some (.int .i32 lb)
  a1 : W.cell? ⟨g, o + 1, none⟩ = some (.int .i64 ot)
  a2 : W.cell? ⟨g, o + 2, none⟩ = some (.int .i64 (tn : Int))
theorem SW.facts {mb sb g o : Nat} {bs : Int} {vs va : Value} {lb ot : Int} {tn : Nat} {W : World} (h : SW mb sb g o bs vs va lb ot tn W) : W.cell? ⟨mb, 0, none⟩ = some (.int .i64 bs) ∧ W.cell? ⟨mb, 1, none⟩ = some vs ∧ W.cell? ⟨sb, 2, none⟩ = some va ∧ W.cell? ⟨g, o, none⟩ = some (.int .i32 lb) ∧ W.cell? ⟨g, o + 1, none⟩ = some (.int .i64 ot) ∧ W.cell? ⟨g, o + 2, none⟩ = some (.int .i64 (tn : Int)) := ⟨h.m0, h.m1, h.s2, h.a0, h.a1, h.a2⟩
theorem SW.below {mb sb g o : Nat} {bs : Int} {vs va : Value} {lb ot : Int} {tn : Nat} {W W' : World} (h : SW mb sb g o bs vs va lb ot tn W) (hb : Below W.heap.size W W') : SW mb sb g o bs vs va lb ot tn W' := by
  have k : ∀ {g o : Nat} {v : Value}, W.cell? ⟨g, o, none⟩ = some v → W'.cell? ⟨g, o, none⟩ = some v := fun {g o v} h => (hb.cell (p := ⟨g, o, none⟩) (lt_of_cell h)).trans h
  exact ⟨k h.m0, k h.m1, k h.s2, k h.a0, k h.a1, k h.a2⟩
set_option maxHeartbeats 8000000 in
theorem words_any (E B : Nat) (hEB : E ≤ B) (bs : Int) (m : List RSt) (hm : ∀ (i : Nat) (s : RSt), m[i]? = some s → (0 ≤ s.out ∧ s.out ≤ 1048576) ∧ ∀ a ∈ s.arcs, 0 ≤ a.to ∧ a.to < i ∧ 0 ≤ a.out ∧ a.out ≤ 1048576) : ∀ (f n : Nat) (w : World) (head : List Int) (sum : Int) (found : List En) (vh vf vs : Value), n < f → n < m.length → StsAt E w vs m → B ≤ w.heap.size → Made B w vh head → head.length ≤ 25 → RstsAt B w vf found → 0 ≤ sum → sum ≤ 1048576 * (1 + head.length) →
    Calls Tryz.prog 34 #[.agg #[.int .i64 bs, vs], .int .i64 n, vh, .int .i64 sum, vf] w fun e w' => ∃ v', e = .returned v' ∧ RstsAt B w' v' (wdF m f n head sum found) ∧ WF B w w' := by
  intro f
  induction f with
  | zero => intro n w head sum found vh vf vs hn; omega
  | succ f ih =>
    intro n w head sum found vh vf vs hnf hnm hS hBw hH hhl hF hs0 hs1
    have HIH : Hid _ := ih
    obtain ⟨sd, sc, rfl⟩ := hS.shape
    obtain ⟨ns, hns⟩ : ∃ ns, m.length = ns := ⟨_, rfl⟩
    rw [hns] at hS hnm ⊢
    obtain ⟨ha, hc, rfl⟩ := hH.shape
    obtain ⟨nh, hnh⟩ : ∃ nh, head.length = nh := ⟨_, rfl⟩
    rw [hnh] at hH hhl hs1 ⊢
    have HNH : Hid (head.length = nh) := hnh
    obtain ⟨fa, fc, rfl⟩ := hF.shape
    obtain ⟨nf, hnf2⟩ : ∃ nf, found.length = nf := ⟨_, rfl⟩
    rw [hnf2] at hF ⊢
    have HNF : Hid (found.length = nf) := hnf2
    obtain ⟨s, hs⟩ : ∃ s, m[n]? = some s := ⟨m[n]'(by omega), List.getElem?_eq_getElem _⟩
    obtain ⟨hso, hsa⟩ := hm n s hs
    have HSA : Hid (∀ a ∈ s.arcs, 0 ≤ a.to ∧ a.to < n ∧ 0 ≤ a.out ∧ a.out ≤ 1048576) := hsa
    obtain ⟨gs, go, va, rfl, hgs, k0, k1, k2, hARC⟩ := hS.at hs
    obtain ⟨va0, vac, rfl⟩ := hARC.shape
    obtain ⟨na, hna⟩ : ∃ na, s.arcs.length = na := ⟨_, rfl⟩
    have hna63 : na ≤ 9223372036854775807 := by have := hARC.len; omega
    rw [hna] at hARC k2
    have HNA : Hid (s.arcs.length = na) := hna
    have HSTS : Hid (StsAt E w (.slice (some ⟨gs, go, none⟩) ns sc) m) := hS
    have HNS : Hid (m.length = ns ∧ n < ns) := ⟨hns, hnm⟩
    have HARC : Hid (ArcsAt E w (.slice va0 na vac) s.arcs) := hARC
    have HHD : Hid (Made B w (.slice ha nh hc) head) := hH
    have HFD : Hid (RstsAt B w (.slice fa nf fc) found) := hF
    have HGET : Hid (m.getD n ⟨false, 0, []⟩ = s) := by show _ = _; rw [List.getD_eq_getElem?_getD, hs]; rfl
    have HK : Hid (w.cell? ⟨gs, go + n * 3, none⟩ = some (.bool s.final) ∧ w.cell? ⟨gs, go + n * 3 + 1, none⟩ = some (.int .i64 s.out) ∧ w.cell? ⟨gs, go + n * 3 + 2, none⟩ = some (.slice va0 na vac)) := ⟨k0, k1, k2⟩
    have hsm : found.length ≤ 9223372036854775807 := by
      obtain ⟨xss, ho, hl, _⟩ := hF.ex
      have := GOwn.small ho
      rw [hl] at this
      simp only [maxLen] at this
      omega
    rw [hnf2] at hsm
    have hws : IntKind.i64.wrap (sum + s.out) = sum + s.out := by rw [IntKind.wrap_i64]; omega
    obtain ⟨W0, hW0⟩ : ∃ W0, W0 = w.alloc (.cells #[.int .i64 bs, .slice (some ⟨gs, go, none⟩) ns sc] 26) := ⟨_, rfl⟩
    obtain ⟨mb, hmb⟩ : ∃ mb, mb = w.heap.size := ⟨_, rfl⟩
    have hb0 : Below w.heap.size w W0 := by rw [hW0]; exact (Below.refl _ w).alloc (Nat.le_refl _) _
    have hm0 : W0.heap[mb]? = some (.cells #[.int .i64 bs, .slice (some ⟨gs, go, none⟩) ns sc] 26) := by rw [hW0, hmb]; exact alloc_newP _ _
    have z1 : W0.cell? ⟨mb, 1, none⟩ = some (.slice (some ⟨gs, go, none⟩) ns sc) := by simp [World.cell?, hm0]
    have y0 : W0.cell? ⟨gs, go + n * 3, none⟩ = some (.bool s.final) := (hb0.cell (p := ⟨gs, go + n * 3, none⟩) (lt_of_cell k0)).trans k0
    have y1 : W0.cell? ⟨gs, go + n * 3 + 1, none⟩ = some (.int .i64 s.out) := (hb0.cell (p := ⟨gs, go + n * 3 + 1, none⟩) (lt_of_cell k1)).trans k1
    have y2 : W0.cell? ⟨gs, go + n * 3 + 2, none⟩ = some (.slice va0 na vac) := (hb0.cell (p := ⟨gs, go + n * 3 + 2, none⟩) (lt_of_cell k2)).trans k2
    have HB0 : Hid (Below w.heap.size w W0) := hb0
    have HM0 : Hid (W0.heap[mb]? = some (.cells #[.int .i64 bs, .slice (some ⟨gs, go, none⟩) ns sc] 26)) := hm0
    have hnz : (n : Int) < (ns : Int) := by omega
    clear k0 k1 k2 hARC hH hF hS hs hsa hna hnh hnf2 hns ih hb0 hm0
    go_enter Tryz.func34, Tryz.ntmps34
    go_upto_region 1 with fail
    rw [← hW0, ← hmb]
    clear hW0 hmb
    by_cases hbig : 4096 < nf
    · have hbz : (4096 : Int) < (nf : Int) := by omega
      have HE : Hid (wdF m (f + 1) n head sum found = found) := by show _ = _; rw [wdF, if_pos (by have := HNF.out; omega)]
      go_wp2
      go_ret
      exact ⟨_, rfl, by rw [HE.out]; exact HFD.out.below HB0.out, WF.of_below HB0.out hBw⟩
    have hbz : ¬ (4096 : Int) < (nf : Int) := by omega
    go_upto_region 4 with fail
    obtain ⟨W1, hW1⟩ : ∃ W1, W1 = W0.alloc (.cells #[.bool s.final, .int .i64 s.out, .slice va0 na vac] 61) := ⟨_, rfl⟩
    obtain ⟨sb, hsb⟩ : ∃ sb, sb = W0.heap.size := ⟨_, rfl⟩
    have hb1 : Below W0.heap.size W0 W1 := by rw [hW1]; exact (Below.refl _ W0).alloc (Nat.le_refl _) _
    have hs1' : W1.heap[sb]? = some (.cells #[.bool s.final, .int .i64 s.out, .slice va0 na vac] 61) := by rw [hW1, hsb]; exact alloc_newP _ _
    have HB1 : Hid (Below w.heap.size w W1) := HB0.out.trans (hb1.mono HB0.out.size)
    have HM1 : Hid (W1.heap[mb]? = some (.cells #[.int .i64 bs, .slice (some ⟨gs, go, none⟩) ns sc] 26)) := (hb1.block mb (Array.getElem?_eq_some_iff.1 HM0.out).1).trans HM0.out
    have HS1 : Hid (W1.heap[sb]? = some (.cells #[.bool s.final, .int .i64 s.out, .slice va0 na vac] 61)) := hs1'
    have x0 : W1.cell? ⟨sb, 0, none⟩ = some (.bool s.final) := by simp [World.cell?, hs1']
    have x1 : W1.cell? ⟨sb, 1, none⟩ = some (.int .i64 s.out) := by simp [World.cell?, hs1']
    have HF1 : Hid (RstsAt B W1 (.slice fa nf fc) found) := HFD.out.below HB1.out
    have HH1 : Hid (Made B W1 (.slice ha nh hc) head) := HHD.out.below HB1.out
    have HBS : Hid (B ≤ W1.heap.size) := by show _ ≤ _; have := HB1.out.size; omega
    have HWF1 : Hid (WF B w W1) := WF.of_below HB1.out hBw
    rw [← hW1, ← hsb]
    clear hW1 hsb hb1 hs1' y0 y1 y2 z1
    obtain ⟨fin, hfin⟩ : ∃ fin, s.final = fin := ⟨_, rfl⟩
    have HFIN : Hid (s.final = fin) := hfin
    rw [hfin] at x0 HS1
    clear hfin
    obtain ⟨xss, ho, hxl, hxe⟩ := HF1.out.ex
    have HO : Hid (GOwn 83 2 B W1 (.slice fa nf fc) xss) := ho
    have HXL : Hid (xss.length < 1099511627776) := by show _ < _; rw [hxl, HNF.out]; omega
    have HXX : Hid (xss.length = found.length ∧ ∀ (i : Nat) (e : En), found[i]? = some e → ∃ u, xss[i]? = some [u, .int .i64 e.2] ∧ Made B W1 u e.1) := ⟨hxl, hxe⟩
    clear ho hxl hxe
    by_cases hh : 24 < nh
    · have hhz : (24 : Int) < (nh : Int) := by omega
      have HE : Hid (wdF m (f + 1) n head sum found = found ++ [(head, sum + s.out)]) := by show _ = _; rw [wdF, if_neg (by have := HNF.out; omega), if_pos (by have := HNH.out; omega), HGET.out]
      cases fin with
      | true =>
        go_wp2_with (at_builtin; refine append_g rtyR (by rfl) _ _ [.slice ha nh hc, .int .i64 (sum + s.out)] _ rfl B _ _ _ _ rfl HO.out rfl rfl ⟨rfl, by simp [Value.oneCell']⟩ HXL.out HBS.out ?_)
        intro v7 w7 ho7 hb7 hg7
        have HP : Hid (RstsAt B w7 v7 (found ++ [(head, sum + s.out)]) ∧ WF B W1 w7) := rsts_push HO.out HXX.out.1 HXX.out.2 HH1.out HBS.out ho7 hg7
        clear ho7 hb7 hg7
        go_wp2
        go_ret
        exact ⟨_, rfl, by rw [HE.out]; exact HP.out.1, HWF1.out.trans HP.out.2⟩
      | false =>
        go_wp2_with (at_builtin; refine append_g rtyR (by rfl) _ _ [.slice ha nh hc, .int .i64 (sum + s.out)] _ rfl B _ _ _ _ rfl HO.out rfl rfl ⟨rfl, by simp [Value.oneCell']⟩ HXL.out HBS.out ?_)
        intro v7 w7 ho7 hb7 hg7
        have HP : Hid (RstsAt B w7 v7 (found ++ [(head, sum + s.out)]) ∧ WF B W1 w7) := rsts_push HO.out HXX.out.1 HXX.out.2 HH1.out HBS.out ho7 hg7
        clear ho7 hb7 hg7
        go_wp2
        go_ret
        exact ⟨_, rfl, by rw [HE.out]; exact HP.out.1, HWF1.out.trans HP.out.2⟩
    have hhz : ¬ (24 : Int) < (nh : Int) := by omega
    cases fin with
    | true =>
      go_wp2_with (at_builtin; refine append_g rtyR (by rfl) _ _ [.slice ha nh hc, .int .i64 (sum + s.out)] _ rfl B _ _ _ _ rfl HO.out rfl rfl ⟨rfl, by simp [Value.oneCell']⟩ HXL.out HBS.out ?_)
      intro v7 w7 ho7 hb7 hg7
      have HP : Hid (RstsAt B w7 v7 (found ++ [(head, sum + s.out)]) ∧ WF B W1 w7) := rsts_push HO.out HXX.out.1 HXX.out.2 HH1.out HBS.out ho7 hg7
      clear ho7 hb7 hg7
      obtain ⟨fd, hfd⟩ : ∃ fd, fd = found ++ [(head, sum + s.out)] := ⟨_, rfl⟩
      have HWD : Hid (wdF m (f + 1) n head sum found = wdK m f head sum s.arcs fd) := by show _ = _; rw [wdF, if_neg (by have := HNF.out; omega), if_neg (by have := HNH.out; omega), HGET.out, HFIN.out, hfd]; rfl
      obtain ⟨W2, hW2⟩ : ∃ W2, W2 = w7 := ⟨_, rfl⟩
      subst hW2
      have HF2 : Hid (RstsAt B W2 v7 (wdK m f head sum (s.arcs.take 0) fd)) := by show RstsAt _ _ _ _; rw [hfd]; exact HP.out.1
      have HSB : Hid (W2.heap[sb]? = some (.cells #[.bool true, .int .i64 s.out, .slice va0 na vac] 61)) := (HP.out.2.keep sb _ _ HS1.out (by decide)).trans HS1.out
      have HMB : Hid (W2.heap[mb]? = some (.cells #[.int .i64 bs, .slice (some ⟨gs, go, none⟩) ns sc] 26)) := (HP.out.2.keep mb _ _ HM1.out (by decide)).trans HM1.out
      have HBW2 : Hid (WF B w W2) := HWF1.out.trans HP.out.2
      clear hfd x0 x1 HP
      go_wp2
      go_loopg [4, 12, 13] na (fun gm s4 s12 _ wr => ∃ (k : Nat), s12 = .int .i64 k ∧ k ≤ na ∧ na - k ≤ gm ∧ Hid (RstsAt B wr s4 (wdK m f head sum (s.arcs.take k) fd)) ∧ Hid (WF B W2 wr))
      case atStart => exact ⟨0, rfl, Nat.zero_le _, by omega, HF2, WF.refl _ _⟩
      case round =>
        obtain ⟨k, rfl, hk, hgm, HFK, HWr⟩ := hrel
        have hsbk := (HWr.out.keep sb _ _ HSB.out (by decide)).trans HSB.out
        have hmbk := (HWr.out.keep mb _ _ HMB.out (by decide)).trans HMB.out
        have HBw : Hid (Below B w wr) := HBW2.out.below.trans HWr.out.below
        have HSZ : Hid (B ≤ wr.heap.size) := by show _ ≤ _; have := HBw.out.size; omega
        have b2 : wr.cell? ⟨sb, 2, none⟩ = some (.slice va0 na vac) := by simp [World.cell?, hsbk]
        have HC : Hid (wr.cell? ⟨mb, 0, none⟩ = some (.int .i64 bs) ∧ wr.cell? ⟨mb, 1, none⟩ = some (.slice (some ⟨gs, go, none⟩) ns sc) ∧ wr.cell? ⟨sb, 2, none⟩ = some (.slice va0 na vac)) := ⟨by simp [World.cell?, hmbk], by simp [World.cell?, hmbk], b2⟩
        obtain ⟨fa, fc, hu4⟩ := HFK.out.shape
        obtain ⟨fl, hfl⟩ : ∃ fl, (wdK m f head sum (s.arcs.take k) fd).length = fl := ⟨_, rfl⟩
        rw [hfl] at hu4
        subst hu4
        have HSBK : Hid (wr.heap[sb]? = some (.cells #[.bool true, .int .i64 s.out, .slice va0 na vac] 61)) := hsbk
        have HMBK : Hid (wr.heap[mb]? = some (.cells #[.int .i64 bs, .slice (some ⟨gs, go, none⟩) ns sc] 26)) := hmbk
        clear hsbk hmbk hfl
        by_cases hlt : k < na
        · have hltz : (k : Int) < (na : Int) := by omega
          obtain ⟨x, hx⟩ : ∃ x, s.arcs[k]? = some x := ⟨s.arcs[k]'(by have := HNA.out; omega), List.getElem?_eq_getElem _⟩
          obtain ⟨g, off, rfl, hg, c0, c1, c2⟩ := (HARC.out.below (HBw.out.mono hEB)).at hx
          have HCX : Hid (wr.cell? ⟨g, off + k * 3, none⟩ = some (.int .i32 x.label) ∧ wr.cell? ⟨g, off + k * 3 + 1, none⟩ = some (.int .i64 x.out) ∧ wr.cell? ⟨g, off + k * 3 + 2, none⟩ = some (.int .i64 x.to)) := ⟨c0, c1, c2⟩
          have HX : Hid (s.arcs[k]? = some x) := hx
          have HHR : Hid (Made B wr (.slice ha nh hc) head) := (HHD.out.wf HBW2.out).wf HWr.out
          clear hx c0 c1 c2
          obtain ⟨hto0, hto1, hox0, hox1⟩ := HSA.out x (List.mem_of_getElem? HX.out)
          obtain ⟨lb, hlb⟩ : ∃ lb, x.label = lb := ⟨_, rfl⟩
          obtain ⟨ot, hot⟩ : ∃ ot, x.out = ot := ⟨_, rfl⟩
          obtain ⟨tn, htn⟩ : ∃ tn : Nat, x.to = (tn : Int) := ⟨x.to.toNat, by omega⟩
          have HXE : Hid (x = ⟨lb, ot, (tn : Int)⟩) := by show _ = _; rw [← hlb, ← hot, ← htn]
          rw [hlb, hot, htn] at HCX
          rw [hot] at hox0 hox1
          have HTN : Hid (tn < n) := by show _ < _; omega
          clear hlb hot htn hto0 hto1
          have hwx : IntKind.i64.wrap (sum + ot) = sum + ot := by rw [IntKind.wrap_i64]; omega
          have HB1 : Hid (Below wr.heap.size wr (wr.alloc (Obj.cells #[] 21))) := (Below.refl _ _).alloc (Nat.le_refl _) _
          have HHA : Hid (Made B (wr.alloc (Obj.cells #[] 21)) (.slice ha nh hc) head) := HHR.out.below HB1.out
          go_upto_region 11 with fail
          go_upto_region 12 with (at_builtin; refine append_ints (by rfl) _ _ rfl wr.heap.size B _ _ [] head rfl (made_none _ _ (Nat.le_refl _)) rfl HHA.out (by have := HNH.out; simp; omega) (by simp) ?_; intro v11 w11 hm11 hb11; have HM11 : Hid (Made wr.heap.size w11 v11 head) := hm11; have HB11 : Hid (Below wr.heap.size wr w11) := HB1.out.trans hb11; clear hm11 hb11)
          obtain ⟨na1, nc1, hv11⟩ := HM11.out.shape
          obtain ⟨nl1, hnl1⟩ : ∃ nl1, head.length = nl1 := ⟨_, rfl⟩
          rw [hnl1] at hv11
          subst hv11
          clear b2 hnl1
          have HSW : Hid (SW mb sb g (off + k * 3) bs (.slice (some ⟨gs, go, none⟩) ns sc) (.slice (some ⟨g, off, none⟩) na vac) lb ot tn wr) := ⟨HC.out.1, HC.out.2.1, HC.out.2.2, HCX.out.1, HCX.out.2.1, HCX.out.2.2⟩
          have HSD : Hid (SW mb sb g (off + k * 3) bs (.slice (some ⟨gs, go, none⟩) ns sc) (.slice (some ⟨g, off, none⟩) na vac) lb ot tn w11.drew) := (HSW.out.below HB11.out).below (Below.refl _ w11).drew
          have hS0 := HSD.out
          obtain ⟨V, hV⟩ : ∃ V, V = w11.drew := ⟨_, rfl⟩
          have HVB : Hid (Below wr.heap.size wr V) := by show Below _ _ _; rw [hV]; exact HB11.out.drew
          have HMV : Hid (Made wr.heap.size V (.slice na1 nl1 nc1) head) := by show Made _ _ _ _; rw [hV]; exact HM11.out.below (Below.refl _ w11).drew
          refine region_at (S := SW mb sb g (off + k * 3) bs (.slice (some ⟨gs, go, none⟩) ns sc) (.slice (some ⟨g, off, none⟩) na vac) lb ot tn) 27 rfl mixedP hS0 (fun _ => ?_)
          rw [← hV] at hS0 ⊢
          refine tk (i := 0) 53 rfl rfl (by kernel_rfl) (fun _ _ _ h => h) (by rfl) (fun _ s => by (have h := SW.facts s; clear s; go_simp; first | done | exact rfl)) (by assumption) ?_
          simp only [sZa, sZb, sZc]
          refine tk (i := 1) 54 rfl rfl (by kernel_rfl) (fun _ _ _ h => h) (by rfl) (fun _ s => by (have h := SW.facts s; clear s; go_simp; first | done | exact rfl)) (by assumption) ?_
          simp only [sZa, sZb, sZc]
          refine tk (i := 2) 55 rfl rfl (by kernel_rfl) (fun _ _ _ h => h) (by rfl) (fun _ s => by (have h := SW.facts s; clear s; go_simp; first | done | exact rfl)) (by assumption) ?_
          simp only [sZa, sZb, sZc]
          refine tk (i := 3) 56 rfl rfl (by kernel_rfl) (fun _ _ _ h => h) (by rfl) (fun _ s => by (have h := SW.facts s; clear s; go_simp; first | done | exact rfl)) (by assumption) ?_
          simp only [sZa, sZb, sZc]
          refine tk (i := 4) 57 rfl rfl (by kernel_rfl) (fun _ _ _ h => h) (by rfl) (fun _ s => by (have h := SW.facts s; clear s; go_simp; first | done | exact rfl)) (by assumption) ?_
          simp only [sZa, sZb, sZc]
          refine tk (i := 5) 58 rfl rfl (by kernel_rfl) (fun _ _ _ h => h) (by rfl) (fun _ s => by (have h := SW.facts s; clear s; go_simp; first | done | exact rfl)) (by assumption) ?_
          simp only [sZa, sZb, sZc]
          refine tk (i := 6) 59 rfl rfl (by kernel_rfl) (fun _ _ _ h => h) (by rfl) (fun _ s => by (have h := SW.facts s; clear s; go_simp; first | done | exact rfl)) (by assumption) ?_
          simp only [sZa, sZb, sZc]
          refine tk (i := 7) 60 rfl rfl (by kernel_rfl) (fun _ _ _ h => h) (by rfl) (fun _ s => by (have h := SW.facts s; clear s; go_simp; first | done | exact rfl)) (by assumption) ?_
          simp only [sZa, sZb, sZc]
          refine tk (i := 8) 61 rfl rfl (by kernel_rfl) (fun _ _ _ h => h) (by rfl) (fun _ s => by (have h := SW.facts s; clear s; go_simp; first | done | exact rfl)) (by assumption) ?_
          simp only [sZa, sZb, sZc]
          refine tk (i := 9) 62 rfl rfl (by kernel_rfl) (fun _ _ _ h => h) (by rfl) (fun _ s => by (have h := SW.facts s; clear s; go_simp; first | done | exact rfl)) (by assumption) ?_
          simp only [sZa, sZb, sZc]
          refine tk (i := 10) 63 rfl rfl (by kernel_rfl) (fun _ _ _ h => h) (by rfl) (fun _ s => by (have h := SW.facts s; clear s; go_simp; first | done | exact rfl)) (by assumption) ?_
          simp only [sZa, sZb, sZc]
          refine tk (i := 11) 64 rfl rfl (by kernel_rfl) (fun _ _ _ h => h) (by rfl) (fun _ s => by (have h := SW.facts s; clear s; go_simp; first | done | exact rfl)) (by assumption) ?_
          simp only [sZa, sZb, sZc]
          refine tk (i := 12) 65 rfl rfl (by kernel_rfl) (fun _ _ _ h => h) (by rfl) (fun _ s => by (have h := SW.facts s; clear s; go_simp; first | done | exact rfl)) (by assumption) ?_
          simp only [sZa, sZb, sZc]
          refine tk (i := 13) 66 rfl rfl (by kernel_rfl) (fun _ _ _ h => h) (by rfl) (fun _ s => by (have h := SW.facts s; clear s; go_simp; first | done | exact rfl)) (by assumption) ?_
          simp only [sZa, sZb, sZc]
          refine tk (i := 16) 69 rfl rfl (by kernel_rfl) (fun _ _ _ h => h) (by rfl) (fun _ s => by (have h := SW.facts s; clear s; go_simp; first | done | exact rfl)) (by assumption) ?_
          simp only [sZa, sZb, sZc]
          refine tk (i := 17) 70 rfl rfl (by kernel_rfl) (fun _ _ _ h => h) (by rfl) (fun _ s => by (have h := SW.facts s; clear s; go_simp; first | done | exact rfl)) (by assumption) ?_
          simp only [sZa, sZb, sZc]
          refine tk (i := 18) 71 rfl rfl (by kernel_rfl) (fun _ _ _ h => h) (by rfl) (fun _ s => by (have h := SW.facts s; clear s; go_simp; first | done | exact rfl)) (by assumption) ?_
          simp only [sZa, sZb, sZc]
          refine tk (i := 19) 72 rfl rfl (by kernel_rfl) (fun _ _ _ h => h) (by rfl) (fun _ s => by (have h := SW.facts s; clear s; go_simp; first | done | exact rfl)) (by assumption) ?_
          simp only [sZa, sZb, sZc]
          refine tk (i := 20) 73 rfl rfl (by kernel_rfl) (fun _ _ _ h => h) (by rfl) (fun _ s => by (have h := SW.facts s; clear s; go_simp; first | done | exact rfl)) (by assumption) ?_
          simp only [sZa, sZb, sZc]
          refine tk (i := 21) 74 rfl rfl (by kernel_rfl) (fun _ _ _ h => h) (by rfl) (fun _ s => by (have h := SW.facts s; clear s; go_simp; first | done | exact rfl)) (by assumption) ?_
          simp only [sZa, sZb, sZc]
          refine tk (i := 22) 75 rfl rfl (by kernel_rfl) (fun _ _ _ h => h) (by rfl) (fun _ s => by (have h := SW.facts s; clear s; go_simp; first | done | exact rfl)) (by assumption) ?_
          simp only [sZa, sZb, sZc]
          refine tk (i := 23) (v := .int .i64 (sum + ot)) 76 rfl rfl (by kernel_rfl) (fun _ _ _ h => h) (by rfl) (fun _ s => by (have h := SW.facts s; clear s; go_simp; first | done | exact rfl | simp_all | (simp; omega))) (by assumption) ?_
          simp only [sZa, sZb, sZc]
          refine tk (i := 24) 77 rfl rfl (by kernel_rfl) (fun _ _ _ h => h) (by rfl) (fun _ s => by (have h := SW.facts s; clear s; go_simp; first | done | exact rfl)) (by assumption) ?_
          simp only [sZa, sZb, sZc]
          obtain ⟨v12, w12, hap, hm12, hb12⟩ := made_run (c := lb) HMV.out HVB.out.size (by have := HNH.out; omega) 81
          obtain ⟨V4, hV4⟩ : ∃ V4, V4 = V.alloc (.cells #[.int .i32 lb] 21) := ⟨_, rfl⟩
          have hS4 : SW mb sb g (off + k * 3) bs (.slice (some ⟨gs, go, none⟩) ns sc) (.slice (some ⟨g, off, none⟩) na vac) lb ot tn V4 := by rw [hV4]; exact hS0.below ((Below.refl _ V).alloc (Nat.le_refl _) _)
          have HB12 : Hid (Below wr.heap.size wr w12) := HVB.out.trans hb12
          have hS12 : SW mb sb g (off + k * 3) bs (.slice (some ⟨gs, go, none⟩) ns sc) (.slice (some ⟨g, off, none⟩) na vac) lb ot tn w12 := HSW.out.below HB12.out
          rw [← hV4] at hap
          refine one_value (i := 14) (v := .slice (some ⟨V.heap.size, 0, none⟩) 1 1) (w' := V4) 67 (by kernel_rfl) rfl rfl (by rfl) (by rw [hV4]; go_simp; first | done | exact rfl) hS4 (fun _ => ?_)
          simp only [sZa, sZb, sZc]
          refine one_value (i := 15) (v := v12) (w' := w12) 68 (by kernel_rfl) rfl rfl (by rfl) (exec_app hap) hS12 (fun _ => ?_)
          simp only [sZa, sZb, sZc]
          have HWF12 : Hid (WF B wr w12) := WF.of_below HB12.out HSZ.out
          have HST12 : Hid (StsAt E w12 (.slice (some ⟨gs, go, none⟩) ns sc) m) := HSTS.out.below ((HBw.out.trans HWF12.out.below).mono hEB)
          have HCALL := HIH.out tn w12 (head ++ [lb]) (sum + ot) (wdK m f head sum (s.arcs.take k) fd) v12 (.slice fa fl fc) (.slice (some ⟨gs, go, none⟩) ns sc) (by have := HTN.out; omega) (by have := HTN.out; have := HNS.out; omega) HST12.out (Nat.le_trans HSZ.out HB12.out.size) (hm12.mono HSZ.out) (by have := HNH.out; simp; omega) (HFK.out.below HB12.out) (by omega) (by have := HNH.out; simp; omega)
          refine one_call (i := 25) (w0 := w12) 78 34 #[.agg #[.int .i64 bs, .slice (some ⟨gs, go, none⟩) ns sc], .int .i64 (tn : Int), v12, .int .i64 (sum + ot), .slice fa fl fc] (by kernel_rfl) rfl rfl (by rfl) (by kernel_rfl) ?_
          refine HCALL.mono ?_
          rintro e w14 ⟨v14, rfl, hr14, hf14⟩
          have HF14 : Hid (WF B wr w14) := HWF12.out.trans hf14
          have hS14 : SW mb sb g (off + k * 3) bs (.slice (some ⟨gs, go, none⟩) ns sc) (.slice (some ⟨g, off, none⟩) na vac) lb ot tn w14 := by
            have hsb14 := (HF14.out.keep sb _ _ HSBK.out (by decide)).trans HSBK.out
            have hmb14 := (HF14.out.keep mb _ _ HMBK.out (by decide)).trans HMBK.out
            have hgB : g < B := by omega
            have c : ∀ {o : Nat} {v : Value}, wr.cell? ⟨g, o, none⟩ = some v → w14.cell? ⟨g, o, none⟩ = some v := fun {o v} h => (HF14.out.below.cell (p := ⟨g, o, none⟩) hgB).trans h
            exact ⟨by simp [World.cell?, hmb14], by simp [World.cell?, hmb14], by simp [World.cell?, hsb14], c HCX.out.1, c HCX.out.2.1, c HCX.out.2.2⟩
          have HR14 : Hid (RstsAt B w14 v14 (wdK m f head sum (s.arcs.take (k + 1)) fd)) := by
            show RstsAt _ _ _ _
            rw [wdK_snoc m f head sum fd HX.out, HXE.out]
            exact hr14
          refine ⟨_, rfl, hS14, fun _ => ?_⟩
          simp only [sZa, sZb, sZc]
          refine one_value (i := 26) (v := v14) (w' := w14) 4 (by kernel_rfl) rfl rfl (by rfl) (by kernel_rfl) hS14 (fun _ => ?_)
          refine wpAnyH_done (by kernel_rfl) ?_ _
          simp only [sZa, sZb, sZc]
          clear hS0 hS4 hS12 hS14 hap hm12 hb12 hV hV4 HCALL hr14 hf14 HSW HSD
          go_wp2
          go_roundg (na - (k + 1))
          case measure => omega
          case rel => exact ⟨k + 1, by go_num, by omega, Nat.le_refl _, HR14, HWr.out.trans HF14.out⟩
        · have hltz : ¬ (k : Int) < (na : Int) := by omega
          have HE : Hid (wdF m (f + 1) n head sum found = wdK m f head sum (s.arcs.take k) fd) := by
            show _ = _
            rw [HWD.out, List.take_of_length_le (by have := HNA.out; omega)]
          go_wp2
          go_ret
          exact ⟨_, rfl, by rw [HE.out]; exact HFK.out, HBW2.out.trans HWr.out⟩
    | false =>
      obtain ⟨fd, hfd⟩ : ∃ fd, fd = found := ⟨_, rfl⟩
      have HWD : Hid (wdF m (f + 1) n head sum found = wdK m f head sum s.arcs fd) := by show _ = _; rw [wdF, if_neg (by have := HNF.out; omega), if_neg (by have := HNH.out; omega), HGET.out, HFIN.out, hfd]; rfl
      obtain ⟨W2, hW2⟩ : ∃ W2, W2 = W1 := ⟨_, rfl⟩
      subst hW2
      have HF2 : Hid (RstsAt B W2 (.slice fa nf fc) (wdK m f head sum (s.arcs.take 0) fd)) := by show RstsAt _ _ _ _; rw [hfd]; exact HF1.out
      have HSB : Hid (W2.heap[sb]? = some (.cells #[.bool false, .int .i64 s.out, .slice va0 na vac] 61)) := HS1.out
      have HMB : Hid (W2.heap[mb]? = some (.cells #[.int .i64 bs, .slice (some ⟨gs, go, none⟩) ns sc] 26)) := HM1.out
      have HBW2 : Hid (WF B w W2) := HWF1.out
      clear hfd x1
      go_wp2
      go_loopg [4, 12, 13] na (fun gm s4 s12 _ wr => ∃ (k : Nat), s12 = .int .i64 k ∧ k ≤ na ∧ na - k ≤ gm ∧ Hid (RstsAt B wr s4 (wdK m f head sum (s.arcs.take k) fd)) ∧ Hid (WF B W2 wr))
      case atStart => exact ⟨0, rfl, Nat.zero_le _, by omega, HF2, WF.refl _ _⟩
      case round =>
        obtain ⟨k, rfl, hk, hgm, HFK, HWr⟩ := hrel
        have hsbk := (HWr.out.keep sb _ _ HSB.out (by decide)).trans HSB.out
        have hmbk := (HWr.out.keep mb _ _ HMB.out (by decide)).trans HMB.out
        have HBw : Hid (Below B w wr) := HBW2.out.below.trans HWr.out.below
        have HSZ : Hid (B ≤ wr.heap.size) := by show _ ≤ _; have := HBw.out.size; omega
        have b2 : wr.cell? ⟨sb, 2, none⟩ = some (.slice va0 na vac) := by simp [World.cell?, hsbk]
        have HC : Hid (wr.cell? ⟨mb, 0, none⟩ = some (.int .i64 bs) ∧ wr.cell? ⟨mb, 1, none⟩ = some (.slice (some ⟨gs, go, none⟩) ns sc) ∧ wr.cell? ⟨sb, 2, none⟩ = some (.slice va0 na vac)) := ⟨by simp [World.cell?, hmbk], by simp [World.cell?, hmbk], b2⟩
        obtain ⟨fa, fc, hu4⟩ := HFK.out.shape
        obtain ⟨fl, hfl⟩ : ∃ fl, (wdK m f head sum (s.arcs.take k) fd).length = fl := ⟨_, rfl⟩
        rw [hfl] at hu4
        subst hu4
        have HSBK : Hid (wr.heap[sb]? = some (.cells #[.bool false, .int .i64 s.out, .slice va0 na vac] 61)) := hsbk
        have HMBK : Hid (wr.heap[mb]? = some (.cells #[.int .i64 bs, .slice (some ⟨gs, go, none⟩) ns sc] 26)) := hmbk
        clear hsbk hmbk hfl
        by_cases hlt : k < na
        · have hltz : (k : Int) < (na : Int) := by omega
          obtain ⟨x, hx⟩ : ∃ x, s.arcs[k]? = some x := ⟨s.arcs[k]'(by have := HNA.out; omega), List.getElem?_eq_getElem _⟩
          obtain ⟨g, off, rfl, hg, c0, c1, c2⟩ := (HARC.out.below (HBw.out.mono hEB)).at hx
          have HCX : Hid (wr.cell? ⟨g, off + k * 3, none⟩ = some (.int .i32 x.label) ∧ wr.cell? ⟨g, off + k * 3 + 1, none⟩ = some (.int .i64 x.out) ∧ wr.cell? ⟨g, off + k * 3 + 2, none⟩ = some (.int .i64 x.to)) := ⟨c0, c1, c2⟩
          have HX : Hid (s.arcs[k]? = some x) := hx
          have HHR : Hid (Made B wr (.slice ha nh hc) head) := (HHD.out.wf HBW2.out).wf HWr.out
          clear hx c0 c1 c2
          obtain ⟨hto0, hto1, hox0, hox1⟩ := HSA.out x (List.mem_of_getElem? HX.out)
          obtain ⟨lb, hlb⟩ : ∃ lb, x.label = lb := ⟨_, rfl⟩
          obtain ⟨ot, hot⟩ : ∃ ot, x.out = ot := ⟨_, rfl⟩
          obtain ⟨tn, htn⟩ : ∃ tn : Nat, x.to = (tn : Int) := ⟨x.to.toNat, by omega⟩
          have HXE : Hid (x = ⟨lb, ot, (tn : Int)⟩) := by show _ = _; rw [← hlb, ← hot, ← htn]
          rw [hlb, hot, htn] at HCX
          rw [hot] at hox0 hox1
          have HTN : Hid (tn < n) := by show _ < _; omega
          clear hlb hot htn hto0 hto1
          have hwx : IntKind.i64.wrap (sum + ot) = sum + ot := by rw [IntKind.wrap_i64]; omega
          have HB1 : Hid (Below wr.heap.size wr (wr.alloc (Obj.cells #[] 21))) := (Below.refl _ _).alloc (Nat.le_refl _) _
          have HHA : Hid (Made B (wr.alloc (Obj.cells #[] 21)) (.slice ha nh hc) head) := HHR.out.below HB1.out
          go_upto_region 11 with fail
          go_upto_region 12 with (at_builtin; refine append_ints (by rfl) _ _ rfl wr.heap.size B _ _ [] head rfl (made_none _ _ (Nat.le_refl _)) rfl HHA.out (by have := HNH.out; simp; omega) (by simp) ?_; intro v11 w11 hm11 hb11; have HM11 : Hid (Made wr.heap.size w11 v11 head) := hm11; have HB11 : Hid (Below wr.heap.size wr w11) := HB1.out.trans hb11; clear hm11 hb11)
          obtain ⟨na1, nc1, hv11⟩ := HM11.out.shape
          obtain ⟨nl1, hnl1⟩ : ∃ nl1, head.length = nl1 := ⟨_, rfl⟩
          rw [hnl1] at hv11
          subst hv11
          clear b2 hnl1
          have HSW : Hid (SW mb sb g (off + k * 3) bs (.slice (some ⟨gs, go, none⟩) ns sc) (.slice (some ⟨g, off, none⟩) na vac) lb ot tn wr) := ⟨HC.out.1, HC.out.2.1, HC.out.2.2, HCX.out.1, HCX.out.2.1, HCX.out.2.2⟩
          have HSD : Hid (SW mb sb g (off + k * 3) bs (.slice (some ⟨gs, go, none⟩) ns sc) (.slice (some ⟨g, off, none⟩) na vac) lb ot tn w11.drew) := (HSW.out.below HB11.out).below (Below.refl _ w11).drew
          have hS0 := HSD.out
          obtain ⟨V, hV⟩ : ∃ V, V = w11.drew := ⟨_, rfl⟩
          have HVB : Hid (Below wr.heap.size wr V) := by show Below _ _ _; rw [hV]; exact HB11.out.drew
          have HMV : Hid (Made wr.heap.size V (.slice na1 nl1 nc1) head) := by show Made _ _ _ _; rw [hV]; exact HM11.out.below (Below.refl _ w11).drew
          refine region_at (S := SW mb sb g (off + k * 3) bs (.slice (some ⟨gs, go, none⟩) ns sc) (.slice (some ⟨g, off, none⟩) na vac) lb ot tn) 27 rfl mixedP hS0 (fun _ => ?_)
          rw [← hV] at hS0 ⊢
          refine tk (i := 0) 53 rfl rfl (by kernel_rfl) (fun _ _ _ h => h) (by rfl) (fun _ s => by (have h := SW.facts s; clear s; go_simp; first | done | exact rfl)) (by assumption) ?_
          simp only [sZa, sZb, sZc]
          refine tk (i := 1) 54 rfl rfl (by kernel_rfl) (fun _ _ _ h => h) (by rfl) (fun _ s => by (have h := SW.facts s; clear s; go_simp; first | done | exact rfl)) (by assumption) ?_
          simp only [sZa, sZb, sZc]
          refine tk (i := 2) 55 rfl rfl (by kernel_rfl) (fun _ _ _ h => h) (by rfl) (fun _ s => by (have h := SW.facts s; clear s; go_simp; first | done | exact rfl)) (by assumption) ?_
          simp only [sZa, sZb, sZc]
          refine tk (i := 3) 56 rfl rfl (by kernel_rfl) (fun _ _ _ h => h) (by rfl) (fun _ s => by (have h := SW.facts s; clear s; go_simp; first | done | exact rfl)) (by assumption) ?_
          simp only [sZa, sZb, sZc]
          refine tk (i := 4) 57 rfl rfl (by kernel_rfl) (fun _ _ _ h => h) (by rfl) (fun _ s => by (have h := SW.facts s; clear s; go_simp; first | done | exact rfl)) (by assumption) ?_
          simp only [sZa, sZb, sZc]
          refine tk (i := 5) 58 rfl rfl (by kernel_rfl) (fun _ _ _ h => h) (by rfl) (fun _ s => by (have h := SW.facts s; clear s; go_simp; first | done | exact rfl)) (by assumption) ?_
          simp only [sZa, sZb, sZc]
          refine tk (i := 6) 59 rfl rfl (by kernel_rfl) (fun _ _ _ h => h) (by rfl) (fun _ s => by (have h := SW.facts s; clear s; go_simp; first | done | exact rfl)) (by assumption) ?_
          simp only [sZa, sZb, sZc]
          refine tk (i := 7) 60 rfl rfl (by kernel_rfl) (fun _ _ _ h => h) (by rfl) (fun _ s => by (have h := SW.facts s; clear s; go_simp; first | done | exact rfl)) (by assumption) ?_
          simp only [sZa, sZb, sZc]
          refine tk (i := 8) 61 rfl rfl (by kernel_rfl) (fun _ _ _ h => h) (by rfl) (fun _ s => by (have h := SW.facts s; clear s; go_simp; first | done | exact rfl)) (by assumption) ?_
          simp only [sZa, sZb, sZc]
          refine tk (i := 9) 62 rfl rfl (by kernel_rfl) (fun _ _ _ h => h) (by rfl) (fun _ s => by (have h := SW.facts s; clear s; go_simp; first | done | exact rfl)) (by assumption) ?_
          simp only [sZa, sZb, sZc]
          refine tk (i := 10) 63 rfl rfl (by kernel_rfl) (fun _ _ _ h => h) (by rfl) (fun _ s => by (have h := SW.facts s; clear s; go_simp; first | done | exact rfl)) (by assumption) ?_
          simp only [sZa, sZb, sZc]
          refine tk (i := 11) 64 rfl rfl (by kernel_rfl) (fun _ _ _ h => h) (by rfl) (fun _ s => by (have h := SW.facts s; clear s; go_simp; first | done | exact rfl)) (by assumption) ?_
          simp only [sZa, sZb, sZc]
          refine tk (i := 12) 65 rfl rfl (by kernel_rfl) (fun _ _ _ h => h) (by rfl) (fun _ s => by (have h := SW.facts s; clear s; go_simp; first | done | exact rfl)) (by assumption) ?_
          simp only [sZa, sZb, sZc]
          refine tk (i := 13) 66 rfl rfl (by kernel_rfl) (fun _ _ _ h => h) (by rfl) (fun _ s => by (have h := SW.facts s; clear s; go_simp; first | done | exact rfl)) (by assumption) ?_
          simp only [sZa, sZb, sZc]
          refine tk (i := 16) 69 rfl rfl (by kernel_rfl) (fun _ _ _ h => h) (by rfl) (fun _ s => by (have h := SW.facts s; clear s; go_simp; first | done | exact rfl)) (by assumption) ?_
          simp only [sZa, sZb, sZc]
          refine tk (i := 17) 70 rfl rfl (by kernel_rfl) (fun _ _ _ h => h) (by rfl) (fun _ s => by (have h := SW.facts s; clear s; go_simp; first | done | exact rfl)) (by assumption) ?_
          simp only [sZa, sZb, sZc]
          refine tk (i := 18) 71 rfl rfl (by kernel_rfl) (fun _ _ _ h => h) (by rfl) (fun _ s => by (have h := SW.facts s; clear s; go_simp; first | done | exact rfl)) (by assumption) ?_
          simp only [sZa, sZb, sZc]
          refine tk (i := 19) 72 rfl rfl (by kernel_rfl) (fun _ _ _ h => h) (by rfl) (fun _ s => by (have h := SW.facts s; clear s; go_simp; first | done | exact rfl)) (by assumption) ?_
          simp only [sZa, sZb, sZc]
          refine tk (i := 20) 73 rfl rfl (by kernel_rfl) (fun _ _ _ h => h) (by rfl) (fun _ s => by (have h := SW.facts s; clear s; go_simp; first | done | exact rfl)) (by assumption) ?_
          simp only [sZa, sZb, sZc]
          refine tk (i := 21) 74 rfl rfl (by kernel_rfl) (fun _ _ _ h => h) (by rfl) (fun _ s => by (have h := SW.facts s; clear s; go_simp; first | done | exact rfl)) (by assumption) ?_
          simp only [sZa, sZb, sZc]
          refine tk (i := 22) 75 rfl rfl (by kernel_rfl) (fun _ _ _ h => h) (by rfl) (fun _ s => by (have h := SW.facts s; clear s; go_simp; first | done | exact rfl)) (by assumption) ?_
          simp only [sZa, sZb, sZc]
          refine tk (i := 23) (v := .int .i64 (sum + ot)) 76 rfl rfl (by kernel_rfl) (fun _ _ _ h => h) (by rfl) (fun _ s => by (have h := SW.facts s; clear s; go_simp; first | done | exact rfl | simp_all | (simp; omega))) (by assumption) ?_
          simp only [sZa, sZb, sZc]
          refine tk (i := 24) 77 rfl rfl (by kernel_rfl) (fun _ _ _ h => h) (by rfl) (fun _ s => by (have h := SW.facts s; clear s; go_simp; first | done | exact rfl)) (by assumption) ?_
          simp only [sZa, sZb, sZc]
          obtain ⟨v12, w12, hap, hm12, hb12⟩ := made_run (c := lb) HMV.out HVB.out.size (by have := HNH.out; omega) 81
          obtain ⟨V4, hV4⟩ : ∃ V4, V4 = V.alloc (.cells #[.int .i32 lb] 21) := ⟨_, rfl⟩
          have hS4 : SW mb sb g (off + k * 3) bs (.slice (some ⟨gs, go, none⟩) ns sc) (.slice (some ⟨g, off, none⟩) na vac) lb ot tn V4 := by rw [hV4]; exact hS0.below ((Below.refl _ V).alloc (Nat.le_refl _) _)
          have HB12 : Hid (Below wr.heap.size wr w12) := HVB.out.trans hb12
          have hS12 : SW mb sb g (off + k * 3) bs (.slice (some ⟨gs, go, none⟩) ns sc) (.slice (some ⟨g, off, none⟩) na vac) lb ot tn w12 := HSW.out.below HB12.out
          rw [← hV4] at hap
          refine one_value (i := 14) (v := .slice (some ⟨V.heap.size, 0, none⟩) 1 1) (w' := V4) 67 (by kernel_rfl) rfl rfl (by rfl) (by rw [hV4]; go_simp; first | done | exact rfl) hS4 (fun _ => ?_)
          simp only [sZa, sZb, sZc]
          refine one_value (i := 15) (v := v12) (w' := w12) 68 (by kernel_rfl) rfl rfl (by rfl) (exec_app hap) hS12 (fun _ => ?_)
          simp only [sZa, sZb, sZc]
          have HWF12 : Hid (WF B wr w12) := WF.of_below HB12.out HSZ.out
          have HST12 : Hid (StsAt E w12 (.slice (some ⟨gs, go, none⟩) ns sc) m) := HSTS.out.below ((HBw.out.trans HWF12.out.below).mono hEB)
          have HCALL := HIH.out tn w12 (head ++ [lb]) (sum + ot) (wdK m f head sum (s.arcs.take k) fd) v12 (.slice fa fl fc) (.slice (some ⟨gs, go, none⟩) ns sc) (by have := HTN.out; omega) (by have := HTN.out; have := HNS.out; omega) HST12.out (Nat.le_trans HSZ.out HB12.out.size) (hm12.mono HSZ.out) (by have := HNH.out; simp; omega) (HFK.out.below HB12.out) (by omega) (by have := HNH.out; simp; omega)
          refine one_call (i := 25) (w0 := w12) 78 34 #[.agg #[.int .i64 bs, .slice (some ⟨gs, go, none⟩) ns sc], .int .i64 (tn : Int), v12, .int .i64 (sum + ot), .slice fa fl fc] (by kernel_rfl) rfl rfl (by rfl) (by kernel_rfl) ?_
          refine HCALL.mono ?_
          rintro e w14 ⟨v14, rfl, hr14, hf14⟩
          have HF14 : Hid (WF B wr w14) := HWF12.out.trans hf14
          have hS14 : SW mb sb g (off + k * 3) bs (.slice (some ⟨gs, go, none⟩) ns sc) (.slice (some ⟨g, off, none⟩) na vac) lb ot tn w14 := by
            have hsb14 := (HF14.out.keep sb _ _ HSBK.out (by decide)).trans HSBK.out
            have hmb14 := (HF14.out.keep mb _ _ HMBK.out (by decide)).trans HMBK.out
            have hgB : g < B := by omega
            have c : ∀ {o : Nat} {v : Value}, wr.cell? ⟨g, o, none⟩ = some v → w14.cell? ⟨g, o, none⟩ = some v := fun {o v} h => (HF14.out.below.cell (p := ⟨g, o, none⟩) hgB).trans h
            exact ⟨by simp [World.cell?, hmb14], by simp [World.cell?, hmb14], by simp [World.cell?, hsb14], c HCX.out.1, c HCX.out.2.1, c HCX.out.2.2⟩
          have HR14 : Hid (RstsAt B w14 v14 (wdK m f head sum (s.arcs.take (k + 1)) fd)) := by
            show RstsAt _ _ _ _
            rw [wdK_snoc m f head sum fd HX.out, HXE.out]
            exact hr14
          refine ⟨_, rfl, hS14, fun _ => ?_⟩
          simp only [sZa, sZb, sZc]
          refine one_value (i := 26) (v := v14) (w' := w14) 4 (by kernel_rfl) rfl rfl (by rfl) (by kernel_rfl) hS14 (fun _ => ?_)
          refine wpAnyH_done (by kernel_rfl) ?_ _
          simp only [sZa, sZb, sZc]
          clear hS0 hS4 hS12 hS14 hap hm12 hb12 hV hV4 HCALL hr14 hf14 HSW HSD
          go_wp2
          go_roundg (na - (k + 1))
          case measure => omega
          case rel => exact ⟨k + 1, by go_num, by omega, Nat.le_refl _, HR14, HWr.out.trans HF14.out⟩
        · have hltz : ¬ (k : Int) < (na : Int) := by omega
          have HE : Hid (wdF m (f + 1) n head sum found = wdK m f head sum (s.arcs.take k) fd) := by
            show _ = _
            rw [HWD.out, List.take_of_length_le (by have := HNA.out; omega)]
          go_wp2
          go_ret
          exact ⟨_, rfl, by rw [HE.out]; exact HFK.out, HBW2.out.trans HWr.out⟩
end Go.Proofs.YtllmdfkiogmofaaGreatDoor

/- The reference's formed. -/
namespace Go.Proofs.YtllmdfkiogmofaaGreatDoor
open Go.RowKit Nums Fm Pk
set_option maxRecDepth 100000

namespace Pk
def rfOne (n : Nat) (p : Option Int) (a : RArc) : Bool := decide (0 ≤ a.to ∧ a.to < n ∧ 0 ≤ a.out ∧ a.out ≤ 1048576) && !(p.any fun q => decide (a.label ≤ q))
def rfA (n : Nat) : Option Int → List RArc → Bool
  | _, [] => true
  | p, a :: r => rfOne n p a && rfA n (some a.label) r
def rfS (s : RSt) (n : Nat) : Bool := decide (0 ≤ s.out ∧ s.out ≤ 1048576) && (s.final || decide (s.arcs.length ≠ 0)) && rfA n none s.arcs
theorem rf_at {l : List RArc} {k : Nat} {a : RArc} (h : l[k]? = some a) (n : Nat) : rfA n (prevL l k) (l.drop k) = (rfOne n (prevL l k) a && rfA n (prevL l (k + 1)) (l.drop (k + 1))) := by
  obtain ⟨hk, rfl⟩ := List.getElem?_eq_some_iff.1 h
  rw [List.drop_eq_getElem_cons hk, rfA, prevL, List.getElem?_eq_getElem hk]
  rfl
theorem rf_end {l : List RArc} {k : Nat} (h : l.length ≤ k) (n : Nat) (p : Option Int) : rfA n p (l.drop k) = true := by rw [List.drop_eq_nil_of_le h]; rfl
end Pk
set_option maxHeartbeats 8000000 in
theorem refFormed_any (E : Nat) (w : World) (s : RSt) (va : Value) (nn : Nat) (h : ArcsAt E w va s.arcs) (hE : E ≤ w.heap.size) :
    Calls Tryz.prog 33 #[.agg #[.bool s.final, .int .i64 s.out, va], .int .i64 nn] w fun e w' => e = .returned (.bool (rfS s nn)) ∧ Below w.heap.size w w' := by
  obtain ⟨ad, cap, rfl⟩ := h.shape
  obtain ⟨m, hm⟩ : ∃ m, s.arcs.length = m := ⟨_, rfl⟩
  have HN : Hid (s.arcs.length = m) := hm
  have HR : Hid (ArcsAt E w (.slice ad s.arcs.length cap) s.arcs) := h
  have hl := h.len
  rw [hm] at HR hl ⊢
  obtain ⟨F, hF⟩ : ∃ F, rfS s nn = F := ⟨_, rfl⟩
  have HFF : Hid (rfS s nn = F) := hF
  obtain ⟨fin, hfin⟩ : ∃ fin, s.final = fin := ⟨_, rfl⟩
  obtain ⟨out, hout⟩ : ∃ out, s.out = out := ⟨_, rfl⟩
  have HFO : Hid (s.final = fin ∧ s.out = out) := ⟨hfin, hout⟩
  rw [hF, hfin, hout]
  clear h hm hF hfin hout
  have HBA : Hid (∀ o, Below w.heap.size w (w.alloc o)) := fun o => (Below.refl _ w).alloc (Nat.le_refl _) o
  by_cases h1 : out < 0
  · have HE : Hid (F = false) := by
      show _ = _
      rw [← HFF.out]; unfold rfS
      rw [decide_eq_false (by have := HFO.out.2; omega)]; rfl
    go_enter Tryz.func33, Tryz.ntmps33
    go_wp2
    go_ret
    exact ⟨by rw [HE.out]; rfl, HBA.out _⟩
  by_cases h2 : 1048576 < out
  · have HE : Hid (F = false) := by
      show _ = _
      rw [← HFF.out]; unfold rfS
      rw [decide_eq_false (by have := HFO.out.2; omega)]; rfl
    go_enter Tryz.func33, Tryz.ntmps33
    go_wp2
    go_ret
    exact ⟨by rw [HE.out]; rfl, HBA.out _⟩
  cases fin with
  | true =>
    have HF0 : Hid (F = rfA nn (prevL s.arcs 0) (s.arcs.drop 0)) := by
      show _ = _
      rw [← HFF.out]; unfold rfS
      rw [decide_eq_true (by have := HFO.out.2; omega), HFO.out.1]
      rfl
    go_enter Tryz.func33, Tryz.ntmps33
    go_upto_region 3 with fail
    obtain ⟨W, hW⟩ : ∃ W, W = w.alloc (.cells #[.bool true, .int .i64 out, .slice ad m cap] 61) := ⟨_, rfl⟩
    obtain ⟨sb, hsb⟩ : ∃ sb, sb = w.heap.size := ⟨_, rfl⟩
    have HBK : Hid (W.heap[sb]? = some (.cells #[.bool true, .int .i64 out, .slice ad m cap] 61)) := by rw [hW, hsb]; exact alloc_newP _ _
    have HW : Hid (Below w.heap.size w W) := by show Below _ _ _; rw [hW]; exact (Below.refl _ w).alloc (Nat.le_refl _) _
    rw [← hW, ← hsb]
    clear hW hsb
    go_wp2
    go_loopg [5, 6] m (fun gm s5 _ wr => ∃ (k : Nat), s5 = .int .i64 k ∧ k ≤ m ∧ m - k ≤ gm ∧ Hid (F = rfA nn (prevL s.arcs k) (s.arcs.drop k)) ∧ Hid (Below W.heap.size W wr))
    case atStart => exact ⟨0, rfl, Nat.zero_le _, by omega, HF0, Below.refl _ _⟩
    case round =>
      obtain ⟨k, rfl, hk, hgm, HF, HBr⟩ := hrel
      have hblk : wr.heap[sb]? = some (.cells #[.bool true, .int .i64 out, .slice ad m cap] 61) := (HBr.out.block sb (Array.getElem?_eq_some_iff.1 HBK.out).1).trans HBK.out
      have b2 : wr.cell? ⟨sb, 2, none⟩ = some (.slice ad m cap) := by simp [World.cell?, hblk]
      have HBLK : Hid (wr.heap[sb]? = some (.cells #[.bool true, .int .i64 out, .slice ad m cap] 61)) := hblk
      have HBW : Hid (Below w.heap.size w wr) := HW.out.trans (HBr.out.mono HW.out.size)
      clear hblk
      by_cases hlt : k < m
      · have hltz : (k : Int) < (m : Int) := by omega
        obtain ⟨x, hx⟩ : ∃ x, s.arcs[k]? = some x := ⟨s.arcs[k]'(by have := HN.out; omega), List.getElem?_eq_getElem _⟩
        obtain ⟨g, off, rfl, hg, c0, c1, c2⟩ := (HR.out.below (HBW.out.mono hE)).at hx
        have HX : Hid (s.arcs[k]? = some x) := hx
        have HPREV : Hid (∀ kp, k = kp + 1 → ∃ y, s.arcs[kp]? = some y ∧ wr.cell? ⟨g, off + kp * 3, none⟩ = some (.int .i32 y.label)) := fun kp hkp => by
          have hlt2 : kp < s.arcs.length := by have := HN.out; omega
          obtain ⟨g', off', e, _, d0, _⟩ := (HR.out.below (HBW.out.mono hE)).at (List.getElem?_eq_getElem hlt2)
          simp only [Option.some.injEq, Addr.mk.injEq] at e
          obtain ⟨rfl, rfl, _⟩ := e
          exact ⟨_, List.getElem?_eq_getElem hlt2, d0⟩
        clear hx
        go_upto_region 7 with fail
        obtain ⟨W1, hW1⟩ : ∃ W1, W1 = wr.alloc (.cells #[.int .i32 x.label, .int .i64 x.out, .int .i64 x.to] 63) := ⟨_, rfl⟩
        obtain ⟨ab, hab⟩ : ∃ ab, ab = wr.heap.size := ⟨_, rfl⟩
        have hab1 : W1.heap[ab]? = some (.cells #[.int .i32 x.label, .int .i64 x.out, .int .i64 x.to] 63) := by rw [hW1, hab]; exact alloc_newP _ _
        have hb1 : Below wr.heap.size wr W1 := by rw [hW1]; exact (Below.refl _ wr).alloc (Nat.le_refl _) _
        have HB1r : Hid (Below W.heap.size W W1) := HBr.out.trans (hb1.mono HBr.out.size)
        have HB1 : Hid (Below w.heap.size w W1) := HBW.out.trans (hb1.mono HBW.out.size)
        have e2 : W1.cell? ⟨sb, 2, none⟩ = some (.slice (some ⟨g, off, none⟩) m cap) := (hb1.cell (p := ⟨sb, 2, none⟩) (lt_of_cell b2)).trans b2
        have a0 : W1.cell? ⟨ab, 0, none⟩ = some (.int .i32 x.label) := by simp [World.cell?, hab1]
        have a1 : W1.cell? ⟨ab, 1, none⟩ = some (.int .i64 x.out) := by simp [World.cell?, hab1]
        have a2 : W1.cell? ⟨ab, 2, none⟩ = some (.int .i64 x.to) := by simp [World.cell?, hab1]
        have HPREV1 : Hid (∀ kp, k = kp + 1 → ∃ y, s.arcs[kp]? = some y ∧ W1.cell? ⟨g, off + kp * 3, none⟩ = some (.int .i32 y.label)) := fun kp hkp => by
          obtain ⟨y, hy, hc⟩ := HPREV.out kp hkp
          exact ⟨y, hy, (hb1.cell (p := ⟨g, off + kp * 3, none⟩) (lt_of_cell hc)).trans hc⟩
        rw [← hW1, ← hab]
        clear hW1 hab hab1 hb1 c0 c1 c2 b2 HPREV
        by_cases h1 : x.to < 0
        ·
          have HE : Hid (F = false) := by
            show _ = _
            rw [HF.out, rf_at HX.out]
            have hz : rfOne nn (prevL s.arcs k) x = false := by unfold rfOne; rw [decide_eq_false (by omega)]; rfl
            rw [hz]; rfl
          go_wp2
          go_ret
          exact ⟨by rw [HE.out]; rfl, HB1.out⟩
        by_cases h2 : (nn : Int) ≤ x.to
        ·
          have HE : Hid (F = false) := by
            show _ = _
            rw [HF.out, rf_at HX.out]
            have hz : rfOne nn (prevL s.arcs k) x = false := by unfold rfOne; rw [decide_eq_false (by omega)]; rfl
            rw [hz]; rfl
          go_wp2
          go_ret
          exact ⟨by rw [HE.out]; rfl, HB1.out⟩
        by_cases h3 : x.out < 0
        ·
          have HE : Hid (F = false) := by
            show _ = _
            rw [HF.out, rf_at HX.out]
            have hz : rfOne nn (prevL s.arcs k) x = false := by unfold rfOne; rw [decide_eq_false (by omega)]; rfl
            rw [hz]; rfl
          go_wp2
          go_ret
          exact ⟨by rw [HE.out]; rfl, HB1.out⟩
        by_cases h4 : 1048576 < x.out
        ·
          have HE : Hid (F = false) := by
            show _ = _
            rw [HF.out, rf_at HX.out]
            have hz : rfOne nn (prevL s.arcs k) x = false := by unfold rfOne; rw [decide_eq_false (by omega)]; rfl
            rw [hz]; rfl
          go_wp2
          go_ret
          exact ⟨by rw [HE.out]; rfl, HB1.out⟩
        have HOK : Hid (0 ≤ x.to ∧ x.to < nn ∧ 0 ≤ x.out ∧ x.out ≤ 1048576) := by show _ ∧ _; omega
        go_upto_region 9 with fail
        cases k with
        | zero =>
          have HONE : Hid (rfOne nn (prevL s.arcs 0) x = true) := by show _ = _; unfold rfOne; rw [decide_eq_true HOK.out]; rfl
          have HF2 : Hid (F = rfA nn (prevL s.arcs (0 + 1)) (s.arcs.drop (0 + 1))) := by
            show _ = _
            rw [HF.out, rf_at HX.out, HONE.out, Bool.true_and]
          go_quiet (fail)
          go_wp2_with fail
          go_roundg (m - (0 + 1))
          case measure => omega
          case rel => exact ⟨0 + 1, by go_num, by omega, Nat.le_refl _, HF2, belowN HB1r.out _⟩
        | succ kp =>
          obtain ⟨y, hy, d0⟩ := HPREV1.out kp rfl
          have HP : Hid (prevL s.arcs (kp + 1) = some y.label) := by show _ = _; rw [prevL, hy]; rfl
          clear hy
          have hsub : ((kp + 1 : Nat) : Int) - 1 = (kp : Int) := by omega
          by_cases h5 : x.label ≤ y.label
          · have HE : Hid (F = false) := by
              show _ = _
              rw [HF.out, rf_at HX.out]
              have hz : rfOne nn (prevL s.arcs (kp + 1)) x = false := by
                unfold rfOne
                rw [HP.out]
                simp [h5]
              rw [hz]; rfl
            go_quiet (fail)
            go_wp2_with fail
            go_ret
            exact ⟨by rw [HE.out]; rfl, belowN HB1.out _⟩
          · have HONE : Hid (rfOne nn (prevL s.arcs (kp + 1)) x = true) := by
              show _ = _
              unfold rfOne
              rw [decide_eq_true HOK.out, HP.out]
              simp [h5]
            have HF2 : Hid (F = rfA nn (prevL s.arcs (kp + 1 + 1)) (s.arcs.drop (kp + 1 + 1))) := by
              show _ = _
              rw [HF.out, rf_at HX.out, HONE.out, Bool.true_and]
            go_quiet (fail)
            go_wp2_with fail
            go_roundg (m - (kp + 1 + 1))
            case measure => omega
            case rel => exact ⟨kp + 1 + 1, by go_num, by omega, Nat.le_refl _, HF2, belowN HB1r.out _⟩
      · have hltz : ¬ (k : Int) < (m : Int) := by omega
        have HE : Hid (F = true) := by
          show _ = _
          rw [HF.out]
          exact rf_end (by have := HN.out; omega) _ _
        go_wp2
        go_ret
        exact ⟨by rw [HE.out]; rfl, HBW.out⟩
  | false =>
    by_cases h3 : m = 0
    · subst h3
      have HE : Hid (F = false) := by
        show _ = _
        rw [← HFF.out]; unfold rfS
        rw [HFO.out.1, show decide (s.arcs.length ≠ 0) = false from decide_eq_false (fun h => h HN.out)]; simp
      go_enter Tryz.func33, Tryz.ntmps33
      go_wp2
      go_ret
      exact ⟨by rw [HE.out]; rfl, HBA.out _⟩
    · have hm0 : ((m : Int) == 0) = false := beq_eq_false_iff_ne.2 (by omega)
      have HF0 : Hid (F = rfA nn (prevL s.arcs 0) (s.arcs.drop 0)) := by
        show _ = _
        rw [← HFF.out]; unfold rfS
        rw [decide_eq_true (by have := HFO.out.2; omega), HFO.out.1, decide_eq_true (by have := HN.out; omega)]
        rfl
      go_enter Tryz.func33, Tryz.ntmps33
      go_upto_region 3 with fail
      obtain ⟨W, hW⟩ : ∃ W, W = w.alloc (.cells #[.bool false, .int .i64 out, .slice ad m cap] 61) := ⟨_, rfl⟩
      obtain ⟨sb, hsb⟩ : ∃ sb, sb = w.heap.size := ⟨_, rfl⟩
      have HBK : Hid (W.heap[sb]? = some (.cells #[.bool false, .int .i64 out, .slice ad m cap] 61)) := by rw [hW, hsb]; exact alloc_newP _ _
      have HW : Hid (Below w.heap.size w W) := by show Below _ _ _; rw [hW]; exact (Below.refl _ w).alloc (Nat.le_refl _) _
      rw [← hW, ← hsb]
      clear hW hsb
      go_wp2
      go_loopg [5, 6] m (fun gm s5 _ wr => ∃ (k : Nat), s5 = .int .i64 k ∧ k ≤ m ∧ m - k ≤ gm ∧ Hid (F = rfA nn (prevL s.arcs k) (s.arcs.drop k)) ∧ Hid (Below W.heap.size W wr))
      case atStart => exact ⟨0, rfl, Nat.zero_le _, by omega, HF0, Below.refl _ _⟩
      case round =>
        obtain ⟨k, rfl, hk, hgm, HF, HBr⟩ := hrel
        have hblk : wr.heap[sb]? = some (.cells #[.bool false, .int .i64 out, .slice ad m cap] 61) := (HBr.out.block sb (Array.getElem?_eq_some_iff.1 HBK.out).1).trans HBK.out
        have b2 : wr.cell? ⟨sb, 2, none⟩ = some (.slice ad m cap) := by simp [World.cell?, hblk]
        have HBLK : Hid (wr.heap[sb]? = some (.cells #[.bool false, .int .i64 out, .slice ad m cap] 61)) := hblk
        have HBW : Hid (Below w.heap.size w wr) := HW.out.trans (HBr.out.mono HW.out.size)
        clear hblk
        by_cases hlt : k < m
        · have hltz : (k : Int) < (m : Int) := by omega
          obtain ⟨x, hx⟩ : ∃ x, s.arcs[k]? = some x := ⟨s.arcs[k]'(by have := HN.out; omega), List.getElem?_eq_getElem _⟩
          obtain ⟨g, off, rfl, hg, c0, c1, c2⟩ := (HR.out.below (HBW.out.mono hE)).at hx
          have HX : Hid (s.arcs[k]? = some x) := hx
          have HPREV : Hid (∀ kp, k = kp + 1 → ∃ y, s.arcs[kp]? = some y ∧ wr.cell? ⟨g, off + kp * 3, none⟩ = some (.int .i32 y.label)) := fun kp hkp => by
            have hlt2 : kp < s.arcs.length := by have := HN.out; omega
            obtain ⟨g', off', e, _, d0, _⟩ := (HR.out.below (HBW.out.mono hE)).at (List.getElem?_eq_getElem hlt2)
            simp only [Option.some.injEq, Addr.mk.injEq] at e
            obtain ⟨rfl, rfl, _⟩ := e
            exact ⟨_, List.getElem?_eq_getElem hlt2, d0⟩
          clear hx
          go_upto_region 7 with fail
          obtain ⟨W1, hW1⟩ : ∃ W1, W1 = wr.alloc (.cells #[.int .i32 x.label, .int .i64 x.out, .int .i64 x.to] 63) := ⟨_, rfl⟩
          obtain ⟨ab, hab⟩ : ∃ ab, ab = wr.heap.size := ⟨_, rfl⟩
          have hab1 : W1.heap[ab]? = some (.cells #[.int .i32 x.label, .int .i64 x.out, .int .i64 x.to] 63) := by rw [hW1, hab]; exact alloc_newP _ _
          have hb1 : Below wr.heap.size wr W1 := by rw [hW1]; exact (Below.refl _ wr).alloc (Nat.le_refl _) _
          have HB1r : Hid (Below W.heap.size W W1) := HBr.out.trans (hb1.mono HBr.out.size)
          have HB1 : Hid (Below w.heap.size w W1) := HBW.out.trans (hb1.mono HBW.out.size)
          have e2 : W1.cell? ⟨sb, 2, none⟩ = some (.slice (some ⟨g, off, none⟩) m cap) := (hb1.cell (p := ⟨sb, 2, none⟩) (lt_of_cell b2)).trans b2
          have a0 : W1.cell? ⟨ab, 0, none⟩ = some (.int .i32 x.label) := by simp [World.cell?, hab1]
          have a1 : W1.cell? ⟨ab, 1, none⟩ = some (.int .i64 x.out) := by simp [World.cell?, hab1]
          have a2 : W1.cell? ⟨ab, 2, none⟩ = some (.int .i64 x.to) := by simp [World.cell?, hab1]
          have HPREV1 : Hid (∀ kp, k = kp + 1 → ∃ y, s.arcs[kp]? = some y ∧ W1.cell? ⟨g, off + kp * 3, none⟩ = some (.int .i32 y.label)) := fun kp hkp => by
            obtain ⟨y, hy, hc⟩ := HPREV.out kp hkp
            exact ⟨y, hy, (hb1.cell (p := ⟨g, off + kp * 3, none⟩) (lt_of_cell hc)).trans hc⟩
          rw [← hW1, ← hab]
          clear hW1 hab hab1 hb1 c0 c1 c2 b2 HPREV
          by_cases h1 : x.to < 0
          ·
            have HE : Hid (F = false) := by
              show _ = _
              rw [HF.out, rf_at HX.out]
              have hz : rfOne nn (prevL s.arcs k) x = false := by unfold rfOne; rw [decide_eq_false (by omega)]; rfl
              rw [hz]; rfl
            go_wp2
            go_ret
            exact ⟨by rw [HE.out]; rfl, HB1.out⟩
          by_cases h2 : (nn : Int) ≤ x.to
          ·
            have HE : Hid (F = false) := by
              show _ = _
              rw [HF.out, rf_at HX.out]
              have hz : rfOne nn (prevL s.arcs k) x = false := by unfold rfOne; rw [decide_eq_false (by omega)]; rfl
              rw [hz]; rfl
            go_wp2
            go_ret
            exact ⟨by rw [HE.out]; rfl, HB1.out⟩
          by_cases h3 : x.out < 0
          ·
            have HE : Hid (F = false) := by
              show _ = _
              rw [HF.out, rf_at HX.out]
              have hz : rfOne nn (prevL s.arcs k) x = false := by unfold rfOne; rw [decide_eq_false (by omega)]; rfl
              rw [hz]; rfl
            go_wp2
            go_ret
            exact ⟨by rw [HE.out]; rfl, HB1.out⟩
          by_cases h4 : 1048576 < x.out
          ·
            have HE : Hid (F = false) := by
              show _ = _
              rw [HF.out, rf_at HX.out]
              have hz : rfOne nn (prevL s.arcs k) x = false := by unfold rfOne; rw [decide_eq_false (by omega)]; rfl
              rw [hz]; rfl
            go_wp2
            go_ret
            exact ⟨by rw [HE.out]; rfl, HB1.out⟩
          have HOK : Hid (0 ≤ x.to ∧ x.to < nn ∧ 0 ≤ x.out ∧ x.out ≤ 1048576) := by show _ ∧ _; omega
          go_upto_region 9 with fail
          cases k with
          | zero =>
            have HONE : Hid (rfOne nn (prevL s.arcs 0) x = true) := by show _ = _; unfold rfOne; rw [decide_eq_true HOK.out]; rfl
            have HF2 : Hid (F = rfA nn (prevL s.arcs (0 + 1)) (s.arcs.drop (0 + 1))) := by
              show _ = _
              rw [HF.out, rf_at HX.out, HONE.out, Bool.true_and]
            go_quiet (fail)
            go_wp2_with fail
            go_roundg (m - (0 + 1))
            case measure => omega
            case rel => exact ⟨0 + 1, by go_num, by omega, Nat.le_refl _, HF2, belowN HB1r.out _⟩
          | succ kp =>
            obtain ⟨y, hy, d0⟩ := HPREV1.out kp rfl
            have HP : Hid (prevL s.arcs (kp + 1) = some y.label) := by show _ = _; rw [prevL, hy]; rfl
            clear hy
            have hsub : ((kp + 1 : Nat) : Int) - 1 = (kp : Int) := by omega
            by_cases h5 : x.label ≤ y.label
            · have HE : Hid (F = false) := by
                show _ = _
                rw [HF.out, rf_at HX.out]
                have hz : rfOne nn (prevL s.arcs (kp + 1)) x = false := by
                  unfold rfOne
                  rw [HP.out]
                  simp [h5]
                rw [hz]; rfl
              go_quiet (fail)
              go_wp2_with fail
              go_ret
              exact ⟨by rw [HE.out]; rfl, belowN HB1.out _⟩
            · have HONE : Hid (rfOne nn (prevL s.arcs (kp + 1)) x = true) := by
                show _ = _
                unfold rfOne
                rw [decide_eq_true HOK.out, HP.out]
                simp [h5]
              have HF2 : Hid (F = rfA nn (prevL s.arcs (kp + 1 + 1)) (s.arcs.drop (kp + 1 + 1))) := by
                show _ = _
                rw [HF.out, rf_at HX.out, HONE.out, Bool.true_and]
              go_quiet (fail)
              go_wp2_with fail
              go_roundg (m - (kp + 1 + 1))
              case measure => omega
              case rel => exact ⟨kp + 1 + 1, by go_num, by omega, Nat.le_refl _, HF2, belowN HB1r.out _⟩
        · have hltz : ¬ (k : Int) < (m : Int) := by omega
          have HE : Hid (F = true) := by
            show _ = _
            rw [HF.out]
            exact rf_end (by have := HN.out; omega) _ _
          go_wp2
          go_ret
          exact ⟨by rw [HE.out]; rfl, HBW.out⟩
end Go.Proofs.YtllmdfkiogmofaaGreatDoor

/- What the reference's Pairs finds. -/
namespace Go.Proofs.YtllmdfkiogmofaaGreatDoor.Pk
open Go.Proofs.YtllmdfkiogmofaaGreatDoor.Nums Go.Proofs.YtllmdfkiogmofaaGreatDoor.Fm Go.Proofs.YtllmdfkiogmofaaGreatDoor

theorem wd_runes {m : List RSt} {P : Int → Prop} (hm : ∀ s ∈ m, ∀ a ∈ s.arcs, P a.label) : ∀ (f n : Nat) (head : List Int) (sum : Int) (found : List En), (∀ c ∈ head, P c) → (∀ e ∈ found, ∀ c ∈ e.1, P c) → ∀ e ∈ wdF m f n head sum found, ∀ c ∈ e.1, P c
  | 0, _, _, _, _, _, h => h
  | f + 1, n, head, sum, found, hh, h => by
    have hst : ∀ a ∈ (m.getD n ⟨false, 0, []⟩).arcs, P a.label := by
      rw [List.getD_eq_getElem?_getD]
      cases hx : m[n]? with
      | none => exact fun a ha => by simp at ha
      | some s => exact hm s (List.mem_of_getElem? hx)
    have hadd : ∀ e ∈ found ++ [(head, sum + (m.getD n ⟨false, 0, []⟩).out)], ∀ c ∈ e.1, P c := fun e he => by
      rcases List.mem_append.1 he with he | he
      · exact h e he
      · rw [List.mem_singleton.1 he]; exact hh
    rw [wdF]
    split
    · exact h
    · split
      · exact hadd
      · refine fold_keep (P := fun (l : List En) => ∀ e ∈ l, ∀ c ∈ e.1, P c) _ _ _ ?_ (fun x a ha hx => ?_)
        · split
          · exact hadd
          · exact h
        · refine wd_runes hm f _ _ _ _ (fun c hc => ?_) hx
          rcases List.mem_append.1 hc with hc | hc
          · exact hh c hc
          · rw [List.mem_singleton.1 hc]; exact hst a ha
/-- All states are formed. -/
def rfM (m : List RSt) : Prop := ∀ (i : Nat) (s : RSt), m[i]? = some s → rfS s i = true
theorem rfA_facts : ∀ (l : List RArc) (n : Nat) (p : Option Int), rfA n p l = true → ∀ a ∈ l, 0 ≤ a.to ∧ a.to < n ∧ 0 ≤ a.out ∧ a.out ≤ 1048576
  | [], _, _, _, a, ha => by cases ha
  | x :: r, n, p, h, a, ha => by
    rw [rfA, Bool.and_eq_true] at h
    rcases List.mem_cons.1 ha with rfl | ha
    · have h1 := h.1
      unfold rfOne at h1
      rw [Bool.and_eq_true] at h1
      exact of_decide_eq_true h1.1
    · exact rfA_facts r n _ h.2 a ha
theorem rfS_facts {s : RSt} {n : Nat} (h : rfS s n = true) : (0 ≤ s.out ∧ s.out ≤ 1048576) ∧ ∀ a ∈ s.arcs, 0 ≤ a.to ∧ a.to < n ∧ 0 ≤ a.out ∧ a.out ≤ 1048576 := by
  unfold rfS at h
  simp only [Bool.and_eq_true] at h
  exact ⟨of_decide_eq_true h.1.1, rfA_facts _ _ _ h.2⟩
theorem rfA_of : ∀ (l : List RArc) (n : Nat) (p : Option Int), ordB n p l = true → (∀ a ∈ l, 0 ≤ a.out ∧ a.out ≤ 1048576) → rfA n p l = true
  | [], _, _, _, _ => rfl
  | x :: r, n, p, h, ho => by
    rw [ordB] at h
    simp only [Bool.and_eq_true, Bool.not_eq_true', decide_eq_true_eq] at h
    obtain ⟨⟨⟨h1, _⟩, h3⟩, h4⟩ := h
    have hx := ho x (by simp)
    rw [rfA, rfA_of r n _ h4 (fun a ha => ho a (by simp [ha])), Bool.and_true]
    unfold rfOne
    rw [decide_eq_true ⟨h3.1, h3.2, hx.1, hx.2⟩, h1]
    rfl
/-- A machine that is right passes. -/
theorem right_formed {base : Int} {m : List RSt} (h : rightB base m = true) (hne : m ≠ []) : m.length ≤ 98305 ∧ (1 ≤ base ∧ base ≤ 1048576) ∧ rfM m := by
  obtain ⟨l, hl, hM, hof⟩ := right_built h
  have hmost := mach_most hl
  have hfacts := built_facts hl
  rw [hM] at hmost hfacts
  simp only [List.length_map] at hmost
  have hr := h
  unfold rightB at hr
  rw [if_neg hne] at hr
  simp only [Bool.and_eq_true] at hr
  obtain ⟨⟨⟨⟨⟨hb, _⟩, hf⟩, _⟩, _⟩, _⟩ := hr
  refine ⟨hmost, of_decide_eq_true hb, fun i s hi => ?_⟩
  have hF := form_get m 0 i s hf hi
  rw [Nat.zero_add] at hF
  obtain ⟨f1, f2⟩ := hfacts i (toSt s) (by simp only; rw [List.getElem?_map, hi]; rfl)
  unfold formS at hF
  simp only [Bool.and_eq_true] at hF
  obtain ⟨⟨_, h2⟩, h3⟩ := hF
  have h2 := of_decide_eq_true h2
  have ho : ∀ a ∈ s.arcs, 0 ≤ a.out ∧ a.out ≤ 1048576 := fun a ha => (f2 (toArc a) (List.mem_map.2 ⟨a, ha, rfl⟩)).2.1
  unfold rfS
  rw [decide_eq_true (show 0 ≤ s.out ∧ s.out ≤ 1048576 from f1), rfA_of _ _ _ h3 ho, Bool.true_and, Bool.and_true]
  cases hfin : s.final with
  | true => rfl
  | false =>
    rw [Bool.false_or]
    refine decide_eq_true fun h0 => ?_
    have : s.arcs = [] := List.length_eq_zero_iff.1 h0
    unfold leastS at h2
    rw [hfin, this] at h2
    simp [minF] at h2
/-- Pairs of what was found. -/
def prsOf (es : List En) : List Pr := es.map fun e => (textS e.1, e.2)
theorem text_ent {x : Pr} (hx : ∃ xs, rs x.1.data.toList = some xs) : allR (entOf x).1 = true ∧ textS (entOf x).1 = x.1 := by
  obtain ⟨xs, hx⟩ := hx
  obtain ⟨h1, h2⟩ := rs_write hx
  have e : (entOf x).1 = xs := by rw [entOf, hx]; rfl
  rw [e]
  refine ⟨h1, ?_⟩
  have h1' : allR xs = true := h1
  unfold textS
  rw [if_pos h1']
  have h3 : (xs.flatMap wrI).map (fun n => UInt8.ofNat n.toNat) = x.1.data.toList := by
    rw [← h2, List.map_flatMap]
    rfl
  unfold strOfNums
  rw [h3]
theorem prs_ents {l : List Pr} (h : Wd l) : prsOf (ents l) = l ∧ ∀ e ∈ ents l, allR e.1 = true := by
  refine ⟨?_, fun e he => ?_⟩
  · unfold prsOf ents
    rw [List.map_map]
    conv => rhs; rw [← List.map_id l]
    refine List.map_congr_left fun x hx => ?_
    obtain ⟨xs, h1, _⟩ := h x hx
    simp only [Function.comp, id]
    exact Prod.ext (text_ent ⟨xs, h1⟩).2 rfl
  · obtain ⟨x, hx, rfl⟩ := List.mem_map.1 he
    obtain ⟨xs, h1, _⟩ := h x hx
    exact (text_ent ⟨xs, h1⟩).1
theorem pairs_right {base : Int} {m : List RSt} (h : rightB base m = true) (hne : m ≠ []) : buildE (prsOf (wdF m m.length (m.length - 1) [] base [])) = 0 ∧ machOf (prsOf (wdF m m.length (m.length - 1) [] base [])) = (base, m.map toSt) ∧ (m.map toSt).map ofSt = m ∧ ∀ e ∈ wdF m m.length (m.length - 1) [] base [], allR e.1 = true := by
  obtain ⟨l, h1, _, h3, h4, h5⟩ := words_right h hne
  obtain ⟨_, _, _, hof⟩ := right_built h
  obtain ⟨p1, p2⟩ := prs_ents (dict_ok h1).wd
  rw [h5, p1]
  refine ⟨h1, ?_, hof, p2⟩
  refine Prod.ext h3 ?_
  have : (machOf l).2.map ofSt = (m.map toSt).map ofSt := by rw [h4, hof]
  exact ofSts_inj' _ _ this
where
  ofSts_inj' : ∀ (l m : List St), l.map ofSt = m.map ofSt → l = m
  | [], [], _ => rfl
  | [], _ :: _, h => by simp at h
  | _ :: _, [], h => by simp at h
  | x :: l, y :: m, h => by
    simp only [List.map_cons, List.cons.injEq] at h
    rw [ofSt_inj h.1, ofSts_inj' l m h.2]
end Go.Proofs.YtllmdfkiogmofaaGreatDoor.Pk

/- The reference's Text: the same writing, or none. -/
namespace Go.Proofs.YtllmdfkiogmofaaGreatDoor
open Go.RowKit Nums
set_option maxRecDepth 100000

theorem nums_add (xs ys : List Int) : strOfNums xs ++ strOfNums ys = strOfNums (xs ++ ys) := by
  have h : (strOfNums xs ++ strOfNums ys).data.toList = (strOfNums (xs ++ ys)).data.toList := by
    simp [strOfNums_data]
  generalize strOfNums xs ++ strOfNums ys = a at *
  generalize strOfNums (xs ++ ys) = b at *
  cases a; cases b; congr; exact Array.toList_inj.1 h

set_option maxHeartbeats 2000000 in
theorem RefText_any (v : Value) (xs : List Int) (w : World) (hrow : Row w v xs) (hl : xs.length * 4 ≤ 140737488355328) (hw : ∀ x ∈ xs, -2147483648 ≤ x ∧ x < 2147483648) :
    Calls Tryz.prog 35 #[v] w fun e w' => e = .returned (.tuple #[.string (textS xs), .bool (allR xs)]) ∧ Below w.heap.size w w' := by
  obtain ⟨ao, cap, rfl, hcells⟩ := hrow
  have HC : Hid (0 < xs.length → ∃ b off, ao = some ⟨b, off, none⟩ ∧ ∀ i, i < xs.length → w.cell? ⟨b, off + i, none⟩ = some (.int .i32 (xs.getD i 0))) := hcells
  have HW : Hid (∀ x ∈ xs, -2147483648 ≤ x ∧ x < 2147483648) := hw
  clear hcells hw
  go_enter Tryz.func35, Tryz.ntmps35
  go_wp2
  go_loopw [4, 5] (fun t i wr => ∃ k : Nat, k ≤ xs.length ∧ i = .int .i64 k ∧ t = .string (strOfNums ((xs.take k).flatMap wrI)) ∧ allR (xs.take k) = true ∧ Below w.heap.size w wr)
    (fun _ i _ => xs.length - (intOf i).toNat)
  case atStart => exact ⟨0, Nat.zero_le _, rfl, rfl, rfl, Below.refl _ _⟩
  case round =>
    obtain ⟨k, hk, rfl, rfl, hall, hbel⟩ := hrel
    have HA : Hid (allR (xs.take k) = true) := hall
    clear hall
    by_cases hlt : k < xs.length
    · obtain ⟨b, off, rfl, hc⟩ := HC.out (by omega)
      have hcl := lt_of_cell (hc k hlt)
      have hck : wr.cell? ⟨b, off + k, none⟩ = some (.int .i32 (xs.getD k 0)) := by
        rw [hbel.cell (p := ⟨b, off + k, none⟩) hcl]; exact hc k hlt
      clear hc HC
      have hwk := HW.out (xs.getD k 0) (by simp [List.getD_eq_getElem?_getD, List.getElem?_eq_getElem hlt])
      have hnx := take_next xs k hlt
      generalize hx : xs.getD k 0 = x at *
      have HX : Hid (xs.getD k 0 = x) := hx
      have HN : Hid (xs.take (k + 1) = xs.take k ++ [x]) := hnx
      clear hnx hx HW
      cases hr : isR x
      · have HR : Hid (isR x = false) := hr
        clear hr
        have HF : Hid (allR xs = false) := text_no hlt (by rw [HX.out]; exact HR.out)
        go_wp2_with (go_at_call 67; refine (Rune_any _ _).mono ?_; rintro e w' ⟨rfl, rfl⟩; rw [HR.out])
        go_ret2
        refine ⟨?_, hbel⟩
        rw [HF.out, show textS xs = ByteArray.empty by unfold textS; rw [HF.out]; rfl]
        rfl
      · have HR : Hid (isR x = true) := hr
        clear hr
        have hbd := isR_bd HR.out
        have hfl := flat_len (xs.take k)
        rw [List.length_take] at hfl
        have hsum : (strOfNums ((xs.take k).flatMap wrI)).size + (strOfNums (wrI x)).size ≤ 9223372036854775807 := by
          rw [strOfNums_size, strOfNums_size]; have := wrI_len x; omega
        have HS : Hid (strOfNums ((xs.take k).flatMap wrI) ++ strOfNums (wrI x) = strOfNums ((xs.take (k + 1)).flatMap wrI)) := by
          show _ ++ _ = _
          rw [nums_add, HN.out, List.flatMap_append]; simp
        generalize strOfNums ((xs.take k).flatMap wrI) = sk at *
        go_wp2_with (first
          | (go_at_call 67; refine (Rune_any _ _).mono ?_; rintro e w' ⟨rfl, rfl⟩; rw [HR.out])
          | (go_at_call 68; refine (Write_any _ _ HR.out).mono ?_; rintro e w2 ⟨rfl, hb2⟩))
        go_roundw
        case rel =>
          refine ⟨k + 1, by omega, by go_num, congrArg Value.string HS.out, ?_, hbel.trans (hb2.mono hbel.size)⟩
          rw [HN.out]; have := HA.out; unfold allR at *; rw [List.all_append, this]; simp [HR.out]
        case measure => simp [intOf]; omega
    · obtain rfl : k = xs.length := by omega
      have HF : Hid (allR xs = true) := by have := HA.out; rw [List.take_length] at this; exact this
      have HT : Hid (strOfNums ((xs.take xs.length).flatMap wrI) = textS xs) := by
        show _ = _
        rw [List.take_length]; unfold textS; rw [HF.out]; rfl
      go_wp2
      go_ret2
      refine ⟨?_, hbel⟩
      rw [HF.out, ← HT.out]
      rfl
end Go.Proofs.YtllmdfkiogmofaaGreatDoor

/- The reference's SameState and Same, over machines that are read. -/
namespace Go.Proofs.YtllmdfkiogmofaaGreatDoor
open Go.RowKit Nums Fm Pk
set_option maxRecDepth 100000
set_option maxHeartbeats 4000000 in
theorem sameStateR_any (E : Nat) (w : World) (s t : RSt) (va vb : Value) (ha : ArcsAt E w va s.arcs) (hb : ArcsAt E w vb t.arcs) (hE : E ≤ w.heap.size) :
    Calls Tryz.prog 26 #[.agg #[.bool s.final, .int .i64 s.out, va], .agg #[.bool t.final, .int .i64 t.out, vb]] w fun e w' => e = .returned (.bool (decide (s = t))) ∧ Below w.heap.size w w' := by
  obtain ⟨ad1, cap1, rfl⟩ := ha.shape
  obtain ⟨ad2, cap2, rfl⟩ := hb.shape
  obtain ⟨n1, hn1⟩ : ∃ n, s.arcs.length = n := ⟨_, rfl⟩
  obtain ⟨n2, hn2⟩ : ∃ n, t.arcs.length = n := ⟨_, rfl⟩
  have HN : Hid (s.arcs.length = n1 ∧ t.arcs.length = n2) := ⟨hn1, hn2⟩
  have hm1 : n1 ≤ 9223372036854775807 := by have := ha.len; omega
  have hm2 : n2 ≤ 9223372036854775807 := by have := hb.len; omega
  rw [hn1] at ha ⊢
  rw [hn2] at hb ⊢
  have HR1 : Hid (ArcsAt E w (.slice ad1 n1 cap1) s.arcs) := ha
  have HR2 : Hid (ArcsAt E w (.slice ad2 n2 cap2) t.arcs) := hb
  obtain ⟨F, hF⟩ : ∃ F, decide (s = t) = F := ⟨_, rfl⟩
  have HF : Hid (decide (s = t) = F) := hF
  rw [hF]
  have HBB0 : Hid (∀ o1 o2, Below w.heap.size w ((w.alloc o1).alloc o2)) := fun o1 o2 => ((Below.refl _ w).alloc (Nat.le_refl _) o1).alloc (by simp) o2
  clear ha hb hn1 hn2 hF
  by_cases hf : ¬ s.final = t.final
  · have HE : Hid (F = false) := by
      show _ = _
      rw [← HF.out]
      exact decide_eq_false fun e => hf (by rw [e])
    generalize s.final = f1 at *
    generalize t.final = f2 at *
    have hfb : (f1 == f2) = false := beq_eq_false_iff_ne.2 hf
    go_enter Tryz.func26, Tryz.ntmps26
    go_wp2
    go_ret
    exact ⟨by rw [HE.out]; rfl, HBB0.out _ _⟩
  have hf' : s.final = t.final := Classical.not_not.1 hf
  by_cases ho : ¬ s.out = t.out
  · have HE : Hid (F = false) := by
      show _ = _
      rw [← HF.out]
      exact decide_eq_false fun e => ho (by rw [e])
    have hob : (s.out == t.out) = false := beq_eq_false_iff_ne.2 ho
    rw [hf']
    go_enter Tryz.func26, Tryz.ntmps26
    go_wp2
    go_ret
    exact ⟨by rw [HE.out]; rfl, HBB0.out _ _⟩
  have ho' : s.out = t.out := Classical.not_not.1 ho
  by_cases hne : ¬ n1 = n2
  · have HE : Hid (F = false) := by
      show _ = _
      rw [← HF.out]
      exact decide_eq_false fun e => hne (by rw [← HN.out.1, ← HN.out.2, e])
    have hneb : ((n1 : Int) == (n2 : Int)) = false := beq_eq_false_iff_ne.2 (by omega)
    rw [hf', ho']
    go_enter Tryz.func26, Tryz.ntmps26
    go_wp2
    go_ret
    exact ⟨by rw [HE.out]; rfl, HBB0.out _ _⟩
  have hne' : n1 = n2 := Classical.not_not.1 hne
  subst hne'
  have HFO : Hid (s.final = t.final ∧ s.out = t.out) := ⟨hf', ho'⟩
  rw [hf', ho']
  clear hf hf' ho ho' hne
  go_enter Tryz.func26, Tryz.ntmps26
  go_upto_region 3 with fail
  obtain ⟨W, hW⟩ : ∃ W, W = (w.alloc (.cells #[.bool t.final, .int .i64 t.out, .slice ad1 n1 cap1] 61)).alloc (.cells #[.bool t.final, .int .i64 t.out, .slice ad2 n1 cap2] 61) := ⟨_, rfl⟩
  rw [← hW]
  have HW : Hid (Below w.heap.size w W) := by show Below _ _ _; rw [hW]; exact HBB0.out _ _
  have b1 : ∀ q, (W.drewN q).cell? ⟨w.heap.size, 2, none⟩ = some (.slice ad1 n1 cap1) := fun q => by rw [hW]; simp
  have b2 : ∀ q, (W.drewN q).cell? ⟨w.heap.size + 1, 2, none⟩ = some (.slice ad2 n1 cap2) := fun q => by rw [hW]; simp
  have HBB : Hid (∀ q, Below w.heap.size w (W.drewN q)) := fun q => belowN HW.out q
  clear hW
  go_wp2
  go_loopg [5] n1 (fun g s5 wr => ∃ (k q : Nat), s5 = .int .i64 k ∧ k ≤ n1 ∧ n1 - k ≤ g ∧ wr = W.drewN q ∧ Hid (s.arcs.take k = t.arcs.take k))
  case atStart => exact ⟨0, 0, rfl, Nat.zero_le _, by omega, rfl, by show _ = _; simp⟩
  case round =>
    obtain ⟨k, q, rfl, hk, hg, rfl, HK⟩ := hrel
    have c1' := b1 q
    have c2' := b2 q
    by_cases hlt : k < n1
    · have hltz : (k : Int) < (n1 : Int) := by omega
      obtain ⟨x, hx⟩ : ∃ x, s.arcs[k]? = some x := ⟨s.arcs[k]'(by have := HN.out; omega), List.getElem?_eq_getElem _⟩
      obtain ⟨y, hy⟩ : ∃ y, t.arcs[k]? = some y := ⟨t.arcs[k]'(by have := HN.out; omega), List.getElem?_eq_getElem _⟩
      have r1 : ArcsAt E W (.slice ad1 n1 cap1) s.arcs := HR1.out.below (HW.out.mono hE)
      have r2 : ArcsAt E W (.slice ad2 n1 cap2) t.arcs := HR2.out.below (HW.out.mono hE)
      obtain ⟨g1, o1, rfl, hg1, p0, p1, p2⟩ := r1.at hx
      obtain ⟨g2, o2, rfl, hg2, q0, q1, q2⟩ := r2.at hy
      have HX : Hid (s.arcs[k]? = some x ∧ t.arcs[k]? = some y) := ⟨hx, hy⟩
      have HNX : Hid (x = y → s.arcs.take (k + 1) = t.arcs.take (k + 1)) := fun e => take_alike HK.out hx hy e
      have HNE : Hid (x ≠ y → F = false) := fun e => by
        rw [← HF.out]
        refine decide_eq_false fun e2 => e ?_
        have h1 := HX.out.1
        rw [show s.arcs = t.arcs from by rw [e2], HX.out.2] at h1
        exact (Option.some.inj h1).symm
      clear hx hy r1 r2
      by_cases e1 : x.label = y.label
      · have s1 : (x.label == y.label) = true := beq_iff_eq.2 e1
        by_cases e2 : x.out = y.out
        · have s2 : (x.out == y.out) = true := beq_iff_eq.2 e2
          by_cases e3 : x.to = y.to
          · have s3 : (x.to == y.to) = true := beq_iff_eq.2 e3
            have HK2 : Hid (s.arcs.take (k + 1) = t.arcs.take (k + 1)) := HNX.out (by cases x; cases y; simp only at e1 e2 e3; rw [e1, e2, e3])
            clear e1 e2 e3
            go_upto_region 6 with fail
            go_quiet (fail)
            go_wp2_with fail
            go_roundg (n1 - (k + 1))
            case measure => omega
            case rel => exact ⟨k + 1, q + nq, by go_num, by omega, Nat.le_refl _, rfl, HK2⟩
          · have s3 : (x.to == y.to) = false := beq_eq_false_iff_ne.2 e3
            have HE : Hid (F = false) := HNE.out (fun e => e3 (by rw [e]))
            clear e1 e2 e3
            go_upto_region 6 with fail
            go_quiet (fail)
            go_wp2_with fail
            go_ret
            exact ⟨by rw [HE.out]; rfl, by first | exact HBB.out _ | exact belowN (HBB.out _) _⟩
        · have s2 : (x.out == y.out) = false := beq_eq_false_iff_ne.2 e2
          have HE : Hid (F = false) := HNE.out (fun e => e2 (by rw [e]))
          clear e1 e2
          go_upto_region 6 with fail
          go_quiet (fail)
          go_wp2_with fail
          go_ret
          exact ⟨by rw [HE.out]; rfl, by first | exact HBB.out _ | exact belowN (HBB.out _) _⟩
      · have s1 : (x.label == y.label) = false := beq_eq_false_iff_ne.2 e1
        have HE : Hid (F = false) := HNE.out (fun e => e1 (by rw [e]))
        clear e1
        go_upto_region 6 with fail
        go_quiet (fail)
        go_wp2_with fail
        go_ret
        exact ⟨by rw [HE.out]; rfl, by first | exact HBB.out _ | exact belowN (HBB.out _) _⟩
    · have hltz : ¬ (k : Int) < (n1 : Int) := by omega
      have HE : Hid (F = true) := by
        show _ = _
        rw [← HF.out]
        refine decide_eq_true ?_
        have h := HK.out
        rw [List.take_of_length_le (by have := HN.out; omega), List.take_of_length_le (by have := HN.out; omega)] at h
        have h2 := HFO.out
        cases s; cases t
        simp only at h h2
        rw [h, h2.1, h2.2]
      go_wp2
      go_ret
      exact ⟨by rw [HE.out]; rfl, by first | exact HBB.out _ | exact belowN (HBB.out _) _⟩
/-- What Same looks at in a round. -/
structure SMR (ba bb ga gb oa ob i : Nat) (va vb : Value) (s t : RSt) (ua ub : Value) (w : World) : Prop where
  a : w.cell? ⟨ba, 1, none⟩ = some va
  b : w.cell? ⟨bb, 1, none⟩ = some vb
  a0 : w.cell? ⟨ga, oa + i * 3, none⟩ = some (.bool s.final)
  a1 : w.cell? ⟨ga, oa + i * 3 + 1, none⟩ = some (.int .i64 s.out)
  a2 : w.cell? ⟨ga, oa + i * 3 + 2, none⟩ = some ua
  b0 : w.cell? ⟨gb, ob + i * 3, none⟩ = some (.bool t.final)
  b1 : w.cell? ⟨gb, ob + i * 3 + 1, none⟩ = some (.int .i64 t.out)
  b2 : w.cell? ⟨gb, ob + i * 3 + 2, none⟩ = some ub
theorem SMR.facts {ba bb ga gb oa ob i : Nat} {va vb : Value} {s t : RSt} {ua ub : Value} {w : World} (h : SMR ba bb ga gb oa ob i va vb s t ua ub w) : w.cell? ⟨ba, 1, none⟩ = some va ∧ w.cell? ⟨bb, 1, none⟩ = some vb ∧ w.cell? ⟨ga, oa + i * 3, none⟩ = some (.bool s.final) ∧ w.cell? ⟨ga, oa + i * 3 + 1, none⟩ = some (.int .i64 s.out) ∧ w.cell? ⟨ga, oa + i * 3 + 2, none⟩ = some ua ∧ w.cell? ⟨gb, ob + i * 3, none⟩ = some (.bool t.final) ∧ w.cell? ⟨gb, ob + i * 3 + 1, none⟩ = some (.int .i64 t.out) ∧ w.cell? ⟨gb, ob + i * 3 + 2, none⟩ = some ub := ⟨h.a, h.b, h.a0, h.a1, h.a2, h.b0, h.b1, h.b2⟩
theorem SMR.below {ba bb ga gb oa ob i : Nat} {va vb : Value} {s t : RSt} {ua ub : Value} {w w' : World} (h : SMR ba bb ga gb oa ob i va vb s t ua ub w) (hb : Below w.heap.size w w') : SMR ba bb ga gb oa ob i va vb s t ua ub w' := by
  have k : ∀ {g o : Nat} {v : Value}, w.cell? ⟨g, o, none⟩ = some v → w'.cell? ⟨g, o, none⟩ = some v := fun {g o v} h => (hb.cell (p := ⟨g, o, none⟩) (lt_of_cell h)).trans h
  exact ⟨k h.a, k h.b, k h.a0, k h.a1, k h.a2, k h.b0, k h.b1, k h.b2⟩
set_option maxHeartbeats 4000000 in
theorem sameR_any (E : Nat) (w : World) (p q : Int) (va vb : Value) (b c : List RSt) (hb : StsAt E w va b) (hc : StsAt E w vb c) (hE : E ≤ w.heap.size) :
    Calls Tryz.prog 8 #[.agg #[.int .i64 p, va], .agg #[.int .i64 q, vb]] w fun e w' => e = .returned (.bool (decide (p = q ∧ b = c))) ∧ Below w.heap.size w w' := by
  obtain ⟨ad1, cap1, rfl⟩ := hb.shape
  obtain ⟨ad2, cap2, rfl⟩ := hc.shape
  have hm1 := hb.len
  have hm2 := hc.len
  obtain ⟨n1, hn1⟩ : ∃ n, b.length = n := ⟨_, rfl⟩
  obtain ⟨n2, hn2⟩ : ∃ n, c.length = n := ⟨_, rfl⟩
  have HN : Hid (b.length = n1 ∧ c.length = n2) := ⟨hn1, hn2⟩
  rw [hn1] at hb hm1 ⊢
  rw [hn2] at hc hm2 ⊢
  have HR1 : Hid (StsAt E w (.slice ad1 n1 cap1) b) := hb
  have HR2 : Hid (StsAt E w (.slice ad2 n2 cap2) c) := hc
  obtain ⟨F, hF⟩ : ∃ F, decide (p = q ∧ b = c) = F := ⟨_, rfl⟩
  have HF : Hid (decide (p = q ∧ b = c) = F) := hF
  rw [hF]
  have HBB0 : Hid (∀ o1 o2, Below w.heap.size w ((w.alloc o1).alloc o2)) := fun o1 o2 => ((Below.refl _ w).alloc (Nat.le_refl _) o1).alloc (by simp) o2
  clear hb hc hn1 hn2 hF
  by_cases hpq : ¬ p = q
  · have HE : Hid (F = false) := by
      show _ = _
      rw [← HF.out]
      exact decide_eq_false fun e => hpq e.1
    have hfb : (p == q) = false := beq_eq_false_iff_ne.2 hpq
    go_enter Tryz.func8, Tryz.ntmps8
    go_wp2
    go_ret
    exact ⟨by rw [HE.out]; rfl, HBB0.out _ _⟩
  have hpq' : p = q := Classical.not_not.1 hpq
  subst hpq'
  by_cases hne : ¬ n1 = n2
  · have HE : Hid (F = false) := by
      show _ = _
      rw [← HF.out]
      exact decide_eq_false fun e => hne (by rw [← HN.out.1, ← HN.out.2, e.2])
    have hneb : ((n1 : Int) == (n2 : Int)) = false := beq_eq_false_iff_ne.2 (by omega)
    go_enter Tryz.func8, Tryz.ntmps8
    go_wp2
    go_ret
    exact ⟨by rw [HE.out]; rfl, HBB0.out _ _⟩
  have hne' : n1 = n2 := Classical.not_not.1 hne
  subst hne'
  clear hpq hne
  go_enter Tryz.func8, Tryz.ntmps8
  go_upto_region 3 with fail
  obtain ⟨W, hW⟩ : ∃ W, W = (w.alloc (.cells #[.int .i64 p, .slice ad1 n1 cap1] 26)).alloc (.cells #[.int .i64 p, .slice ad2 n1 cap2] 26) := ⟨_, rfl⟩
  rw [← hW]
  obtain ⟨ba, hba⟩ : ∃ ba, ba = w.heap.size := ⟨_, rfl⟩
  have HW : Hid (Below w.heap.size w W) := by show Below _ _ _; rw [hW]; exact HBB0.out _ _
  have HB12 : Hid (W.cell? ⟨ba, 1, none⟩ = some (.slice ad1 n1 cap1) ∧ W.cell? ⟨ba + 1, 1, none⟩ = some (.slice ad2 n1 cap2)) := by rw [hba, hW]; exact ⟨by simp, by simp⟩
  rw [← hba]
  clear hW hba
  go_wp2
  go_loopg [5, 6] n1 (fun g s5 _ wr => ∃ (k : Nat), s5 = .int .i64 k ∧ k ≤ n1 ∧ n1 - k ≤ g ∧ Hid (Below W.heap.size W wr) ∧ Hid (b.take k = c.take k))
  case atStart => exact ⟨0, rfl, Nat.zero_le _, by omega, Below.refl _ _, by show _ = _; simp⟩
  case round =>
    obtain ⟨k, rfl, hk, hg, HBr, HK⟩ := hrel
    have c1' : wr.cell? ⟨ba, 1, none⟩ = some (.slice ad1 n1 cap1) := (HBr.out.cell (p := ⟨ba, 1, none⟩) (lt_of_cell HB12.out.1)).trans HB12.out.1
    have c2' : wr.cell? ⟨ba + 1, 1, none⟩ = some (.slice ad2 n1 cap2) := (HBr.out.cell (p := ⟨ba + 1, 1, none⟩) (lt_of_cell HB12.out.2)).trans HB12.out.2
    have hbw : Below w.heap.size w wr := HW.out.trans (HBr.out.mono HW.out.size)
    have HBW : Hid (Below w.heap.size w wr) := hbw
    clear hbw
    by_cases hlt : k < n1
    · have hltz : (k : Int) < (n1 : Int) := by omega
      obtain ⟨x, hx⟩ : ∃ x, b[k]? = some x := ⟨b[k]'(by have := HN.out; omega), List.getElem?_eq_getElem _⟩
      obtain ⟨y, hy⟩ : ∃ y, c[k]? = some y := ⟨c[k]'(by have := HN.out; omega), List.getElem?_eq_getElem _⟩
      obtain ⟨ga, oa, ua, rfl, hg1, p0, p1, p2, hua⟩ := (HR1.out.below (HBW.out.mono hE)).at hx
      obtain ⟨gb, ob, ub, rfl, hg2, q0, q1, q2, hub⟩ := (HR2.out.below (HBW.out.mono hE)).at hy
      have hS : SMR ba (ba + 1) ga gb oa ob k (.slice (some ⟨ga, oa, none⟩) n1 cap1) (.slice (some ⟨gb, ob, none⟩) n1 cap2) x y ua ub wr := ⟨c1', c2', p0, p1, p2, q0, q1, q2⟩
      obtain ⟨xd, xc, hxv⟩ := hua.shape
      obtain ⟨yd, yc, hyv⟩ := hub.shape
      obtain ⟨xn, hxn⟩ : ∃ xn, x.arcs.length = xn := ⟨_, rfl⟩
      obtain ⟨yn, hyn⟩ : ∃ yn, y.arcs.length = yn := ⟨_, rfl⟩
      rw [hxn] at hxv
      rw [hyn] at hyv
      subst hxv
      subst hyv
      have HSM : Hid _ := hS
      have HUA : Hid (ArcsAt E wr (.slice xd xn xc) x.arcs) := hua
      have HUB : Hid (ArcsAt E wr (.slice yd yn yc) y.arcs) := hub
      have HNX : Hid (x = y → b.take (k + 1) = c.take (k + 1)) := fun e => take_alike HK.out hx hy e
      have HNE : Hid (x ≠ y → F = false) := fun e => by
        rw [← HF.out]
        refine decide_eq_false fun e2 => e ?_
        have h1 := hx
        rw [e2.2, hy] at h1
        exact (Option.some.inj h1).symm
      clear hx hy hua hub hS p0 p1 p2 q0 q1 q2 hxn hyn
      go_upto_region 6 with fail
      clear c1' c2'
      have hS0 : SMR ba (ba + 1) ga gb oa ob k (.slice (some ⟨ga, oa, none⟩) n1 cap1) (.slice (some ⟨gb, ob, none⟩) n1 cap2) x y (.slice xd xn xc) (.slice yd yn yc) wr.drew := HSM.out.below (Below.refl _ wr).drew
      have HCALL := sameStateR_any E wr.drew x y _ _ (HUA.out.below (Below.refl _ wr).drew) (HUB.out.below (Below.refl _ wr).drew) (Nat.le_trans hE HBW.out.size)
      refine region_at (S := SMR ba (ba + 1) ga gb oa ob k (.slice (some ⟨ga, oa, none⟩) n1 cap1) (.slice (some ⟨gb, ob, none⟩) n1 cap2) x y (.slice xd xn xc) (.slice yd yn yc)) 12 rfl mixedP hS0 (fun _ => ?_)
      refine tk (i := 0) 28 rfl rfl (by kernel_rfl) (fun _ _ _ h => h) (by rfl) (fun _ s => by (have h := SMR.facts s; clear s; go_simp; first | done | exact rfl)) (by assumption) ?_
      simp only [sZa, sZb, sZc]
      refine tk (i := 1) 29 rfl rfl (by kernel_rfl) (fun _ _ _ h => h) (by rfl) (fun _ s => by (have h := SMR.facts s; clear s; go_simp; first | done | exact rfl)) (by assumption) ?_
      simp only [sZa, sZb, sZc]
      refine tk (i := 2) 30 rfl rfl (by kernel_rfl) (fun _ _ _ h => h) (by rfl) (fun _ s => by (have h := SMR.facts s; clear s; go_simp; first | done | exact rfl)) (by assumption) ?_
      simp only [sZa, sZb, sZc]
      refine tk (i := 3) 31 rfl rfl (by kernel_rfl) (fun _ _ _ h => h) (by rfl) (fun _ s => by (have h := SMR.facts s; clear s; go_simp; first | done | exact rfl)) (by assumption) ?_
      simp only [sZa, sZb, sZc]
      refine tk (i := 4) 32 rfl rfl (by kernel_rfl) (fun _ _ _ h => h) (by rfl) (fun _ s => by (have h := SMR.facts s; clear s; go_simp; first | done | exact rfl)) (by assumption) ?_
      simp only [sZa, sZb, sZc]
      refine tk (i := 5) 33 rfl rfl (by kernel_rfl) (fun _ _ _ h => h) (by rfl) (fun _ s => by (have h := SMR.facts s; clear s; go_simp; first | done | exact rfl)) (by assumption) ?_
      simp only [sZa, sZb, sZc]
      refine tk (i := 6) 34 rfl rfl (by kernel_rfl) (fun _ _ _ h => h) (by rfl) (fun _ s => by (have h := SMR.facts s; clear s; go_simp; first | done | exact rfl)) (by assumption) ?_
      simp only [sZa, sZb, sZc]
      refine tk (i := 7) 35 rfl rfl (by kernel_rfl) (fun _ _ _ h => h) (by rfl) (fun _ s => by (have h := SMR.facts s; clear s; go_simp; first | done | exact rfl)) (by assumption) ?_
      simp only [sZa, sZb, sZc]
      refine tk (i := 8) 36 rfl rfl (by kernel_rfl) (fun _ _ _ h => h) (by rfl) (fun _ s => by (have h := SMR.facts s; clear s; go_simp; first | done | exact rfl)) (by assumption) ?_
      simp only [sZa, sZb, sZc]
      refine tk (i := 9) 37 rfl rfl (by kernel_rfl) (fun _ _ _ h => h) (by rfl) (fun _ s => by (have h := SMR.facts s; clear s; go_simp; first | done | exact rfl)) (by assumption) ?_
      simp only [sZa, sZb, sZc]
      refine one_call (i := 10) (w0 := wr.drew) 38 26 #[.agg #[.bool x.final, .int .i64 x.out, .slice xd xn xc], .agg #[.bool y.final, .int .i64 y.out, .slice yd yn yc]] (by kernel_rfl) rfl rfl (by rfl) (by kernel_rfl) ?_
      refine HCALL.mono ?_
      rintro e w3 ⟨rfl, hb3⟩
      have hb3r : Below wr.heap.size wr w3 := (Below.refl _ wr).drew.trans hb3
      have hS3 := HSM.out.below hb3r
      refine ⟨_, rfl, hS3, fun _ => ?_⟩
      simp only [sZa, sZb, sZc]
      refine one_value (i := 11) (v := .bool (decide (x = y))) (w' := w3) 6 (by kernel_rfl) rfl rfl (by rfl) (by kernel_rfl) hS3 (fun _ => ?_)
      refine wpAnyH_done (by kernel_rfl) ?_ _
      have HB3 : Hid (Below W.heap.size W w3) := HBr.out.trans (hb3r.mono HBr.out.size)
      have HB3w : Hid (Below w.heap.size w w3) := HBW.out.trans (hb3r.mono HBW.out.size)
      clear hb3 hb3r hS3 hS0 HCALL
      by_cases hxy : x = y
      · have HK2 : Hid (b.take (k + 1) = c.take (k + 1)) := HNX.out hxy
        rw [decide_eq_true hxy]
        clear hxy
        simp only [sZa, sZb, sZc]
        go_wp2
        go_roundg (n1 - (k + 1))
        case measure => omega
        case rel => exact ⟨k + 1, by go_num, by omega, Nat.le_refl _, HB3, HK2⟩
      · have HE : Hid (F = false) := HNE.out hxy
        rw [decide_eq_false hxy]
        clear hxy
        simp only [sZa, sZb, sZc]
        go_wp2
        go_ret
        exact ⟨by rw [HE.out]; rfl, HB3w.out⟩
    · have hltz : ¬ (k : Int) < (n1 : Int) := by omega
      have HE : Hid (F = true) := by
        show _ = _
        rw [← HF.out]
        refine decide_eq_true ⟨by trivial, ?_⟩
        have h := HK.out
        rw [List.take_of_length_le (by have := HN.out; omega), List.take_of_length_le (by have := HN.out; omega)] at h
        exact h
      go_wp2
      go_ret
      exact ⟨by rw [HE.out]; rfl, HBW.out⟩
end Go.Proofs.YtllmdfkiogmofaaGreatDoor
