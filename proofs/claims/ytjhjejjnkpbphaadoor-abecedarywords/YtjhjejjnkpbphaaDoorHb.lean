/- Texts that were written apart, joined. -/
import Derived.Test.YtjhjejjnkpbphaaDoorG5
import Derived.Test.YtjhjejjnkpbphaaDoorGd
/- codec.placeFault, codec.frontUint: the number with whose writing bytes begin. -/
namespace Go.Proofs.YtjhjejjnkpbphaaDoor.Cd
open Go.RowKit
set_option maxRecDepth 100000

def fault (p c : Nat) : Nat := if p = 9 ∧ 1 < c then 21 else if 0 < p ∧ c = 0 then 21 else 0

theorem byte_at {xs : List Nat} (hx : ∀ x ∈ xs, x < 256) (k : Nat) : xs.getD k 0 < 256 := by
  rw [List.getD_eq_getElem?_getD]
  cases h : xs[k]? with
  | none => simp
  | some y => exact hx y (List.mem_of_getElem? h)
theorem placeFault_any (p c : Nat) (w : World) (hp : p ≤ 140737488355328) (hc : c < 256) : Calls Tryd.prog 112 #[.int .i64 (p : Int), bv c] w fun e w' => e = .returned (.int .i64 (fault p c : Int)) ∧ w' = w := by
  by_cases h1 : p = 9
  · subst h1
    by_cases h2 : 1 < c
    · have HF : Hid (fault 9 c = 21) := by show fault 9 c = 21; rw [fault, if_pos ⟨rfl, h2⟩]
      go_enter Tryd.func112, Tryd.ntmps112
      go_wp2
      go_ret
      exact ⟨by rw [HF.out]; rfl, rfl⟩
    · by_cases h3 : c = 0
      · subst h3
        go_enter Tryd.func112, Tryd.ntmps112
        go_wp2
        go_ret
        exact ⟨rfl, rfl⟩
      · obtain rfl : c = 1 := by omega
        go_enter Tryd.func112, Tryd.ntmps112
        go_wp2
        go_ret
        exact ⟨rfl, rfl⟩
  · have hb : ((p : Int) == 9) = false := by simp; omega
    by_cases h2 : 0 < p
    · by_cases h3 : c = 0
      · subst h3
        have HF : Hid (fault p 0 = 21) := by show fault p 0 = 21; rw [fault, if_neg (by omega), if_pos ⟨h2, rfl⟩]
        go_enter Tryd.func112, Tryd.ntmps112
        go_wp2
        go_ret
        exact ⟨by rw [HF.out]; rfl, rfl⟩
      · have HF : Hid (fault p c = 0) := by show fault p c = 0; rw [fault, if_neg (by omega), if_neg (by omega)]
        have hc0 : ((c : Int) == 0) = false := by simp; omega
        go_enter Tryd.func112, Tryd.ntmps112
        go_wp2
        go_ret
        exact ⟨by rw [HF.out]; rfl, rfl⟩
    · obtain rfl : p = 0 := by omega
      have HF : Hid (fault 0 c = 0) := by show fault 0 c = 0; rw [fault, if_neg (by omega), if_neg (by omega)]
      go_enter Tryd.func112, Tryd.ntmps112
      go_wp2
      go_ret
      exact ⟨by rw [HF.out]; rfl, rfl⟩

theorem num_fault {c : Nat} {r : List Nat} {i n : Nat} (h : fault i c ≠ 0) : num (c :: r) i n = (0, 0, 21) ∧ fault i c = 21 := by
  unfold fault at *
  by_cases h1 : i = 9 ∧ 1 < c
  · rw [if_pos h1] at *; exact ⟨by rw [num, if_pos h1], rfl⟩
  · rw [if_neg h1] at *
    by_cases h2 : 0 < i ∧ c = 0
    · rw [if_pos h2] at *; exact ⟨by rw [num, if_neg h1, if_pos h2], rfl⟩
    · rw [if_neg h2] at h; exact absurd rfl h
theorem num_well {c : Nat} {r : List Nat} {i n : Nat} (h : fault i c = 0) : num (c :: r) i n = if c < 128 then (n + c * 128 ^ i, i + 1, 0) else num r (i + 1) (n + (c - 128) * 128 ^ i) := by
  unfold fault at h
  by_cases h1 : i = 9 ∧ 1 < c
  · rw [if_pos h1] at h; omega
  · rw [if_neg h1] at h
    by_cases h2 : 0 < i ∧ c = 0
    · rw [if_pos h2] at h; omega
    · rw [num, if_neg h1, if_neg h2]
theorem wrapU {x : Int} (h0 : 0 ≤ x) (h1 : x < 18446744073709551616) : IntKind.u64.wrap x = x := by
  simp [IntKind.wrap, IntKind.bits, IntKind.signed]; omega
/-- The number one byte on stays within its bits. -/
theorem num_next {i n c : Nat} (hi : i ≤ 9) (hn : n < 128 ^ i) (h9 : i = 9 → c ≤ 1) : n + c % 128 * 128 ^ i < 18446744073709551616 ∧ (i < 9 → n + c % 128 * 128 ^ i < 128 ^ (i + 1)) ∧ c % 128 * 128 ^ i < 18446744073709551616 := by
  by_cases e9 : i = 9
  · subst e9
    have hc := h9 rfl
    have : c % 128 * 128 ^ 9 ≤ 1 * 128 ^ 9 := Nat.mul_le_mul_right _ (by omega)
    have e : (128 : Nat) ^ 9 = 9223372036854775808 := by decide
    omega
  · have : (c % 128 + 1) * 128 ^ i ≤ 128 * 128 ^ i := Nat.mul_le_mul_right _ (by omega)
    rw [Nat.add_mul] at this
    have e : 128 * 128 ^ i = 128 ^ (i + 1) := by rw [Nat.pow_succ, Nat.mul_comm]
    have e2 : (128 : Nat) ^ (i + 1) ≤ 128 ^ 9 := Nat.pow_le_pow_right (by decide) (by omega)
    have e3 : (128 : Nat) ^ 9 = 9223372036854775808 := by decide
    omega
theorem pow7 (i : Nat) : (2 : Nat) ^ (7 * i) = 128 ^ i := by rw [Nat.pow_mul]
theorem or_next {i n c : Nat} (hi : i ≤ 9) (hn : n < 128 ^ i) (h9 : i = 9 → c ≤ 1) :
    bits .or .u64 (n : Int) (IntKind.u64.wrap (((c : Int) % 128) * 2 ^ (7 * i))) = ((n + c % 128 * 128 ^ i : Nat) : Int) := by
  obtain ⟨h1, _, h3⟩ := num_next hi hn h9
  have e : ((c : Int) % 128) * 2 ^ (7 * i) = ((c % 128 * 128 ^ i : Nat) : Int) := by rw [← pow7]; push_cast; rfl
  rw [e, wrapU (by omega) (by omega), u64_or_nat _ _ (by omega) h3]
  congr 1
  rw [← pow7] at *
  rw [Nat.or_comm, Nat.mul_comm, ← Nat.two_pow_add_eq_or_of_lt hn]
  omega

set_option maxHeartbeats 4000000 in
theorem frontUint_any (N : Nat) (v : Value) (xs : List Nat) (most : Nat) (w : World) (hrow : Row N w v xs) (hx : ∀ x ∈ xs, x < 256) (hl : xs.length ≤ 140737488355328) :
    Calls Tryd.prog 94 #[v, .int .u64 (most : Int)] w fun e w' => e = .returned (.tuple #[.int .u64 ((front xs most).1 : Int), .int .i64 ((front xs most).2.1 : Int), .int .i64 ((front xs most).2.2 : Int)]) ∧ w' = w := by
  obtain ⟨ao, cap, rfl, hcap, hno, hcells⟩ := hrow
  have HC : Hid (0 < xs.length → ∃ b off, ao = some ⟨b, off, none⟩ ∧ b < N ∧ ∀ i, i < xs.length → w.cell? ⟨b, off + i, none⟩ = some (bv (xs.getD i 0))) := hcells
  have HX : Hid (∀ x ∈ xs, x < 256) := hx
  clear hcells hno hx
  go_enter Tryd.func94, Tryd.ntmps94
  go_wp2
  go_loop [7, 13] (fun vn vk => ∃ k n : Nat, k ≤ xs.length ∧ k ≤ 9 ∧ vk = .int .i64 (k : Int) ∧ vn = .int .u64 (n : Int) ∧ n < 128 ^ k ∧ num xs 0 0 = num (xs.drop k) k n)
    (fun _ vk => xs.length - (intOf vk).toNat)
  case atStart => exact ⟨0, 0, Nat.zero_le _, by decide, rfl, rfl, by decide, rfl⟩
  case round =>
    obtain ⟨k, n, hk, hk9, rfl, rfl, hn, heq⟩ := hrel
    have HE : Hid (num xs 0 0 = num (xs.drop k) k n) := heq
    have HN : Hid (n < 128 ^ k) := hn
    clear heq
    by_cases hlt : k < xs.length
    · obtain ⟨b, off, rfl, _, hc⟩ := HC.out (by omega)
      have hck := hc k hlt
      have hb := byte_at HX.out k
      have HD : Hid (xs.drop k = xs.getD k 0 :: xs.drop (k + 1)) := by show _ = _; rw [List.drop_eq_getElem_cons hlt]; simp [List.getD_eq_getElem?_getD, List.getElem?_eq_getElem hlt]
      clear hc
      generalize xs.getD k 0 = c at hck hb HD
      by_cases hf : fault k c = 0
      · have HF : Hid (fault k c = 0) := hf
        have h9 : k = 9 → c ≤ 1 := by
          intro e; subst e
          rcases Nat.lt_or_ge 1 c with h | h
          · rw [fault, if_pos ⟨rfl, h⟩] at hf; omega
          · exact h
        have hor := or_next hk9 hn h9
        have hnx := num_next hk9 hn h9
        have hW := num_well (r := xs.drop (k + 1)) (n := n) hf
        rw [← HD.out] at hW
        have HW : Hid (num (xs.drop k) k n = if c < 128 then (n + c * 128 ^ k, k + 1, 0) else num (xs.drop (k + 1)) (k + 1) (n + (c - 128) * 128 ^ k)) := hW
        clear hW hf
        by_cases h128 : c < 128
        · have hV := HW.out
          rw [if_pos h128, ← HE.out] at hV
          rw [show c % 128 = c by omega] at hor hnx
          have hor2 := hor
          rw [show (c : Int) % 128 = (c : Int) by omega] at hor2
          generalize hq : n + c * 128 ^ k = q at *
          have HV : Hid (num xs 0 0 = (q, k + 1, 0)) := hV
          have hq64 := hnx.1
          clear hV hnx hn hq HW
          by_cases hmost : most < q
          · have HFR : Hid (front xs most = (0, 0, 22)) := by show front xs most = _; unfold front; rw [HV.out, if_pos ⟨rfl, hmost⟩]
            go_wp2_with (go_at_call 112; refine (placeFault_any k c _ (by omega) hb).mono ?_; rintro e w' ⟨rfl, rfl⟩; rw [HF.out])
            go_ret3
            exact ⟨by rw [HFR.out]; rfl, rfl⟩
          · have HFR : Hid (front xs most = (q, k + 1, 0)) := by show front xs most = _; unfold front; rw [HV.out, if_neg (fun h => hmost h.2)]
            go_wp2_with (go_at_call 112; refine (placeFault_any k c _ (by omega) hb).mono ?_; rintro e w' ⟨rfl, rfl⟩; rw [HF.out])
            go_ret3
            exact ⟨by rw [HFR.out]; rfl, rfl⟩
        · have hV := HW.out
          rw [if_neg h128, ← HE.out] at hV
          have hk8 : k < 9 := by
            rcases Nat.lt_or_ge k 9 with h | h
            · exact h
            · have := h9 (by omega); omega
          rw [show c % 128 = c - 128 by omega] at hor hnx
          have hlt2 := hnx.2.1 hk8
          generalize hq : n + (c - 128) * 128 ^ k = q at *
          have HV : Hid (num xs 0 0 = num (xs.drop (k + 1)) (k + 1) q) := hV
          have HL : Hid (q < 128 ^ (k + 1)) := hlt2
          clear hV hnx hn hq HW hlt2
          go_wp2_with (go_at_call 112; refine (placeFault_any k c _ (by omega) hb).mono ?_; rintro e w' ⟨rfl, rfl⟩; rw [HF.out])
          go_round
          case rel => exact ⟨k + 1, q, by omega, by omega, by go_num, by go_num, HL.out, HV.out⟩
          case measure => simp [intOf]; omega
      · obtain ⟨e1, e2⟩ := num_fault (r := xs.drop (k + 1)) (n := n) hf
        rw [← HD.out, ← HE.out] at e1
        have HFR : Hid (front xs most = (0, 0, 21)) := by show front xs most = _; unfold front; rw [e1, if_neg (fun h => by simp at h)]
        have HF : Hid (fault k c = 21) := e2
        clear e1 e2 hf
        go_wp2_with (go_at_call 112; refine (placeFault_any k c _ (by omega) hb).mono ?_; rintro e w' ⟨rfl, rfl⟩; rw [HF.out])
        go_ret3
        exact ⟨by rw [HFR.out]; rfl, rfl⟩
    · obtain rfl : k = xs.length := by omega
      have e1 := HE.out
      rw [List.drop_length, num] at e1
      have HFR : Hid (front xs most = (0, 0, 20)) := by show front xs most = _; unfold front; rw [e1, if_neg (fun h => by simp at h)]
      clear e1
      go_wp2
      go_ret3
      exact ⟨by rw [HFR.out]; rfl, rfl⟩
end Go.Proofs.YtjhjejjnkpbphaaDoor.Cd

/- codec's readers: what each call tells, and how it leaves the reader. -/
namespace Go.Proofs.YtjhjejjnkpbphaaDoor.Cd
open Go.RowKit
set_option maxRecDepth 100000

/-- A reader in block rb: the bytes that are not read, and with what it has failed. -/
def Rd (w : World) (rb : Nat) (xs : List Nat) (e : Int) : Prop :=
  ∃ v, w.heap[rb]? = some (.cells #[v, .int .i64 e] 122 (0, 0)) ∧ Row rb w v xs ∧ (∀ x ∈ xs, x < 256) ∧ xs.length ≤ 140737488355328

theorem Rd.but {w w' : World} {rb : Nat} {xs : List Nat} {e : Int} (h : Rd w rb xs e) (hb : Below w.heap.size w w') : Rd w' rb xs e := by
  obtain ⟨v, h1, h2, h3⟩ := h
  have hlt := (Array.getElem?_eq_some_iff.1 h1).1
  exact ⟨v, (hb.block rb hlt).trans h1, h2.below (hb.mono (Nat.le_of_lt hlt)), h3⟩
theorem rd_cells {w : World} {rb : Nat} {v : Value} {e : Int} (h : w.heap[rb]? = some (.cells #[v, .int .i64 e] 122 (0, 0))) :
    w.cell? ⟨rb, 0, none⟩ = some v ∧ w.cell? ⟨rb, 1, none⟩ = some (.int .i64 e) ∧ w.frozen? ⟨rb, 0, none⟩ = false ∧ w.frozen? ⟨rb, 1, none⟩ = false := by
  refine ⟨?_, ?_, ?_, ?_⟩ <;> simp [World.cell?, World.frozen?, h]
theorem rd_set0 {w : World} {rb : Nat} {v v' : Value} {e : Int} (h : w.heap[rb]? = some (.cells #[v, .int .i64 e] 122 (0, 0))) :
    (w.setCell ⟨rb, 0, none⟩ v').heap[rb]? = some (.cells #[v', .int .i64 e] 122 (0, 0)) := by
  simp [World.setCell, Array.getElem?_modify, h]
theorem rd_set1 {w : World} {rb : Nat} {v : Value} {e e' : Int} (h : w.heap[rb]? = some (.cells #[v, .int .i64 e] 122 (0, 0))) :
    (w.setCell ⟨rb, 1, none⟩ (.int .i64 e')).heap[rb]? = some (.cells #[v, .int .i64 e'] 122 (0, 0)) := by
  simp [World.setCell, Array.getElem?_modify, h]
theorem row_set {N : Nat} {w : World} {rb o : Nat} {u v : Value} {xs : List Nat} (h : Row N w v xs) (hN : N ≤ rb) : Row N (w.setCell ⟨rb, o, none⟩ u) v xs :=
  h.below ((Below.refl N w).setCell (p := ⟨rb, o, none⟩) hN u)
/-- A row from its k-th byte on. -/
theorem row_drop {N : Nat} {w : World} {b off cap k : Nat} {xs : List Nat} (h : Row N w (.slice (some ⟨b, off, none⟩) xs.length cap) xs) (hk : k ≤ xs.length) :
    Row N w (.slice (if cap = k then some ⟨b, off, none⟩ else some ⟨b, off + k, none⟩) (xs.length - k) (cap - k)) (xs.drop k) := by
  obtain ⟨ao, cap', e, hcap, hno, hc⟩ := h
  simp only [Value.slice.injEq] at e
  obtain ⟨rfl, _, rfl⟩ := e
  refine ⟨_, cap - k, by rw [List.length_drop], by rw [List.length_drop]; omega, (fun h => by split at h <;> cases h), fun h0 => ?_⟩
  rw [List.length_drop] at h0
  obtain ⟨b', off', e, hN, hd⟩ := hc (by omega)
  simp only [Option.some.injEq, Addr.mk.injEq, and_true] at e
  obtain ⟨rfl, rfl⟩ := e
  refine ⟨b, off + k, by rw [if_neg (by omega)], hN, fun i hi => ?_⟩
  rw [List.length_drop] at hi
  rw [Nat.add_assoc, hd (k + i) (by omega)]
  simp [List.getD_eq_getElem?_getD]

theorem row_drop_eq {N : Nat} {w : World} {b off cap k : Nat} {xs : List Nat} (h : Row N w (.slice (some ⟨b, off, none⟩) xs.length cap) xs) (hk : k ≤ xs.length) (e : cap = k) :
    Row N w (.slice (some ⟨b, off, none⟩) (xs.length - k) 0) (xs.drop k) := by
  have := row_drop h hk; rw [if_pos e, show cap - k = 0 by omega] at this; exact this
theorem row_drop_ne {N : Nat} {w : World} {b off cap k : Nat} {xs : List Nat} (h : Row N w (.slice (some ⟨b, off, none⟩) xs.length cap) xs) (hk : k ≤ xs.length) (e : cap ≠ k) :
    Row N w (.slice (some ⟨b, off + k, none⟩) (xs.length - k) (cap - k)) (xs.drop k) := by
  have := row_drop h hk; rw [if_neg e] at this; exact this

set_option maxHeartbeats 1000000 in
theorem Err_any (rb : Nat) (xs : List Nat) (e : Int) (w : World) (h : Rd w rb xs e) :
    Calls Tryd.prog 71 #[.pointer (some ⟨rb, 0, none⟩)] w fun x w' => x = .returned (.int .i64 e) ∧ w' = w := by
  obtain ⟨v, h1, h2, h3, h4⟩ := h
  obtain ⟨c0, c1, f0, f1⟩ := rd_cells h1
  clear h1 h2 h3
  go_enter Tryd.func71, Tryd.ntmps71
  go_wp2
  go_ret
  exact ⟨rfl, rfl⟩
def endE (n : Nat) (e : Int) : Int := if e = 0 ∧ 0 < n then 23 else e
def failE (e f : Int) : Int := if e = 0 then f else e
set_option maxHeartbeats 1000000 in
theorem Fail_any (rb : Nat) (xs : List Nat) (e f : Int) (w : World) (h : Rd w rb xs e) :
    Calls Tryd.prog 95 #[.pointer (some ⟨rb, 0, none⟩), .int .i64 f] w fun x w' => x = .returned (.tuple #[]) ∧ Rd w' rb xs (failE e f) ∧ But rb w w' := by
  obtain ⟨v, h1, h2, h3, h4⟩ := h
  obtain ⟨c0, c1, f0, f1⟩ := rd_cells h1
  have HD : Hid (w.heap[rb]? = some (.cells #[v, .int .i64 e] 122 (0, 0)) ∧ Row rb w v xs ∧ (∀ x ∈ xs, x < 256)) := ⟨h1, h2, h3⟩
  clear h1 h2 h3
  by_cases he : e = 0
  · subst he
    go_enter Tryd.func95, Tryd.ntmps95
    go_wp2
    go_end0
    exact ⟨rfl, ⟨v, rd_set1 HD.out.1, row_set HD.out.2.1 (Nat.le_refl _), HD.out.2.2, h4⟩, (But.refl _ _).setCell 1 _⟩
  · have hb : (e == 0) = false := by simpa using he
    go_enter Tryd.func95, Tryd.ntmps95
    go_wp2
    go_end0
    refine ⟨rfl, ?_, But.refl _ _⟩
    rw [failE, if_neg he]; exact ⟨v, HD.out.1, HD.out.2.1, HD.out.2.2, h4⟩
end Go.Proofs.YtjhjejjnkpbphaaDoor.Cd

/- codec's readers: Byte, Uint, Bytes. -/
namespace Go.Proofs.YtjhjejjnkpbphaaDoor.Cd
open Go.RowKit
set_option maxRecDepth 100000

def byteR (xs : List Nat) (e : Int) : Nat × List Nat × Int := if e ≠ 0 then (0, xs, e) else (xs.headD 0, xs.tail, if xs.length = 0 then 20 else 0)

def uintR (xs : List Nat) (e : Int) (most : Nat) : Nat × List Nat × Int :=
  if e ≠ 0 then (0, xs, e) else if (front xs most).2.2 ≠ 0 then (0, xs, ((front xs most).2.2 : Int)) else ((front xs most).1, xs.drop (front xs most).2.1, 0)

set_option maxHeartbeats 2000000 in
theorem Uint_any (rb : Nat) (xs : List Nat) (e : Int) (most : Nat) (w : World) (h : Rd w rb xs e) :
    Calls Tryd.prog 70 #[.pointer (some ⟨rb, 0, none⟩), .int .u64 (most : Int)] w fun x w' => x = .returned (.int .u64 ((uintR xs e most).1 : Int)) ∧ Rd w' rb (uintR xs e most).2.1 (uintR xs e most).2.2 ∧ But rb w w' := by
  have HR : Hid (Rd w rb xs e) := h
  obtain ⟨v, h1, h2, h3, h4⟩ := h
  obtain ⟨c0, c1, f0, f1⟩ := rd_cells h1
  have HD : Hid (w.heap[rb]? = some (.cells #[v, .int .i64 e] 122 (0, 0)) ∧ Row rb w v xs ∧ (∀ x ∈ xs, x < 256)) := ⟨h1, h2, h3⟩
  have hff := front_facts xs most h3
  have hcall := frontUint_any rb v xs most w h2 h3 h4
  clear h1 h3
  by_cases he : e = 0
  · subst he
    by_cases hz : (front xs most).2.2 = 0
    · have HU : Hid (uintR xs 0 most = ((front xs most).1, xs.drop (front xs most).2.1, 0)) := by show _ = _; rw [uintR, if_neg (by simp), if_neg (by simp [hz])]
      obtain ⟨g1, g2, g3, g4, g5, _⟩ := hff.1 hz
      rw [hz] at hcall
      generalize hf1 : (front xs most).1 = n at hcall HU g4 g5
      generalize hf2 : (front xs most).2.1 = k at hcall HU g1 g2 g3
      have HC : Hid (Calls Tryd.prog 94 #[v, .int .u64 (most : Int)] w fun e w' => e = .returned (.tuple #[.int .u64 (n : Int), .int .i64 (k : Int), .int .i64 0]) ∧ w' = w) := hcall
      clear hff hcall hf1 hf2 hz
      obtain ⟨ao, cap, rfl, hcap, hno, hc⟩ := h2
      obtain ⟨b, off, rfl, hN, hd⟩ := hc (by omega)
      have HWA : Hid (cap = k → Row rb w (.slice (some ⟨b, off, none⟩) (xs.length - k) 0) (xs.drop k)) := row_drop_eq HD.out.2.1 g2
      have HWB : Hid (cap ≠ k → Row rb w (.slice (some ⟨b, off + k, none⟩) (xs.length - k) (cap - k)) (xs.drop k)) := row_drop_ne HD.out.2.1 g2
      have hkc : k ≤ cap := by omega
      clear hc hd hno
      go_enter Tryd.func70, Tryd.ntmps70
      go_wp2_with (go_at_call 94; refine HC.out.mono ?_; rintro x w' ⟨rfl, rfl⟩)
      all_goals
        go_ret
        rw [HU.out]
        exact ⟨rfl, ⟨_, rd_set0 HD.out.1, row_set (by first | exact HWA.out (by omega) | exact HWB.out (by omega)) (Nat.le_refl _), fun x hx => HD.out.2.2 x (List.mem_of_mem_drop (show x ∈ xs.drop k from hx)), by show (xs.drop k).length ≤ _; rw [List.length_drop]; omega⟩, (But.refl _ _).setCell 0 _⟩
    · have HU : Hid (uintR xs 0 most = (0, xs, ((front xs most).2.2 : Int))) := by show _ = _; rw [uintR, if_neg (by simp), if_pos hz]
      obtain ⟨g1, g2, g3⟩ := hff.2 hz
      rw [g1, g2] at hcall
      generalize hf3 : (front xs most).2.2 = f at hcall HU hz g3
      have HC : Hid (Calls Tryd.prog 94 #[v, .int .u64 (most : Int)] w fun e w' => e = .returned (.tuple #[.int .u64 0, .int .i64 0, .int .i64 (f : Int)]) ∧ w' = w) := hcall
      have hb : ((f : Int) == 0) = false := by simpa using hz
      clear hff hcall hf3 hz g1 g2
      go_enter Tryd.func70, Tryd.ntmps70
      go_wp2_with (first
        | (go_at_call 94; refine HC.out.mono ?_; rintro x w' ⟨rfl, rfl⟩)
        | (go_at_call 95; refine (Fail_any rb xs 0 (f : Int) _ HR.out).mono ?_; rintro x w' ⟨rfl, hrd, hbut⟩))
      go_ret
      rw [HU.out]
      exact ⟨rfl, hrd, hbut⟩
  · have hb : (e == 0) = false := by simpa using he
    have HB : Hid (uintR xs e most = (0, xs, e)) := by show _ = _; rw [uintR, if_pos he]
    clear hff hcall
    go_enter Tryd.func70, Tryd.ntmps70
    go_wp2
    go_ret
    rw [HB.out]
    exact ⟨rfl, HR.out, But.refl _ _⟩
end Go.Proofs.YtjhjejjnkpbphaaDoor.Cd

/- Machines out of bytes. No program is named here. -/
namespace Go.Proofs.YtjhjejjnkpbphaaDoor.Pk
open Go.Proofs.YtjhjejjnkpbphaaDoor.Cd (uw uintR front num)

abbrev Rs := List Nat × Int
def rU (st : Rs) (most : Nat) : Nat × Rs := ((uintR st.1 st.2 most).1, ((uintR st.1 st.2 most).2.1, (uintR st.1 st.2 most).2.2))
def rdA (n : Nat) : Nat → Int → List RArc → Rs → List RArc × Rs
  | 0, _, acc, st => (acc, st)
  | c + 1, p, acc, st => if st.2 ≠ 0 then (acc, st) else
      rdA n c (p + (rU st (1114111 - p).toNat).1) (acc ++ [⟨p + (rU st (1114111 - p).toNat).1, (rU (rU st (1114111 - p).toNat).2 1048576).1, n - (rU (rU (rU st (1114111 - p).toNat).2 1048576).2 n).1⟩]) (rU (rU (rU st (1114111 - p).toNat).2 1048576).2 n).2
def rdO (h : Nat) (st : Rs) : Nat × Rs := if h % 2 = 1 then rU st 1048576 else (0, st)
def rdS (n : Nat) (st : Rs) : RSt × Rs :=
  (⟨decide ((rU st 8193).1 % 2 = 1), (rdO (rU st 8193).1 (rU st 8193).2).1, (rdA n ((rU st 8193).1 / 2) 0 [] (rdO (rU st 8193).1 (rU st 8193).2).2).1⟩, (rdA n ((rU st 8193).1 / 2) 0 [] (rdO (rU st 8193).1 (rU st 8193).2).2).2)
def rdM : Nat → Nat → List RSt → Rs → List RSt × Rs
  | 0, _, acc, st => (acc, st)
  | c + 1, i, acc, st => if st.2 ≠ 0 then (acc, st) else rdM c (i + 1) (acc ++ [(rdS i st).1]) (rdS i st).2
/-- What is read: Base, states, what is left. -/
def rdAll (xs : List Nat) : Nat × List RSt × Rs := ((rU (xs, 0) 1048576).1, rdM (rU (rU (xs, 0) 1048576).2 98305).1 0 [] (rU (rU (xs, 0) 1048576).2 98305).2)
theorem rU_put {m most : Nat} (h : m ≤ most) (h2 : m < 18446744073709551616) (r : List Nat) : rU (uw m ++ r, 0) most = (m, (r, 0)) := by
  have hn := Cd.num_write h2 r
  have hf : front (uw m ++ r) most = (m, (uw m).length, 0) := by
    unfold front
    rw [hn, if_neg (by simp only; omega)]
  unfold rU uintR
  simp only [hf]
  simp
def Byt (st : Rs) : Prop := ∀ x ∈ st.1, x < 256
theorem rU_byt {st : Rs} {most : Nat} (h : Byt st) : Byt (rU st most).2 := by
  unfold rU uintR
  by_cases h1 : st.2 ≠ 0
  · simp only [if_pos h1]; exact h
  · simp only [if_neg h1]
    split
    · exact h
    · exact fun x hx => h x (List.mem_of_mem_drop hx)
theorem rU_back {st : Rs} {most : Nat} (hb : Byt st) (h : (rU st most).2.2 = 0) : st.2 = 0 ∧ uw (rU st most).1 ++ (rU st most).2.1 = st.1 ∧ (rU st most).1 ≤ most := by
  unfold rU uintR at *
  by_cases h1 : st.2 ≠ 0
  · simp only [if_pos h1] at h
    exact absurd h h1
  · have h0 : st.2 = 0 := Decidable.byContradiction h1
    simp only [if_neg h1] at h ⊢
    by_cases h2 : (front st.1 most).2.2 ≠ 0
    · simp only [if_pos h2] at h
      exact absurd h (by omega)
    · simp only [if_neg h2]
      have h2' : (front st.1 most).2.2 = 0 := Decidable.byContradiction h2
      obtain ⟨_, f2, _, _, f5, f6⟩ := (Cd.front_facts st.1 most hb).1 h2'
      refine ⟨h0, ?_, f5⟩
      rw [f6] at h2' ⊢
      rw [Cd.num_again hb h2', List.take_append_drop]
theorem rU_stick {st : Rs} {most : Nat} (h : st.2 ≠ 0) : rU st most = (0, st) := by unfold rU uintR; simp only [if_pos h]
theorem rU_le {st : Rs} {most : Nat} (hb : Byt st) : (rU st most).1 ≤ most := by
  by_cases h : (rU st most).2.2 = 0
  · exact (rU_back hb h).2.2
  · unfold rU uintR at *
    by_cases h1 : st.2 ≠ 0
    · simp only [if_pos h1]; omega
    · simp only [if_neg h1] at h ⊢
      split
      · simp
      · rename_i h2
        rw [if_neg h2] at h
        exact absurd rfl h
/-- Arcs that can be written. -/
def OkA (n : Nat) : Int → List RArc → Prop
  | _, [] => True
  | p, a :: r => p ≤ a.label ∧ a.label ≤ 1114111 ∧ 0 ≤ a.out ∧ a.out ≤ 1048576 ∧ 0 ≤ a.to ∧ a.to ≤ n ∧ OkA n a.label r
theorem rdA_put {n : Nat} (hn : n ≤ 1048576) : ∀ (l : List RArc) (p : Int) (acc : List RArc) (r : List Nat), 0 ≤ p → OkA n p l → rdA n l.length p acc (putA n p l ++ r, 0) = (acc ++ l, (r, 0))
  | [], p, acc, r, _, _ => by simp [rdA, putA]
  | a :: l, p, acc, r, hp, h => by
    obtain ⟨h1, h2, h3, h4, h5, h6, h7⟩ := h
    have e1 := rU_put (m := (a.label - p).toNat) (most := (1114111 - p).toNat) (by omega) (by omega) (uw a.out.toNat ++ (uw ((n : Int) - a.to).toNat ++ (putA n a.label l ++ r)))
    have e2 := rU_put (m := a.out.toNat) (most := 1048576) (by omega) (by omega) (uw ((n : Int) - a.to).toNat ++ (putA n a.label l ++ r))
    have e3 := rU_put (m := ((n : Int) - a.to).toNat) (most := n) (by omega) (by omega) (putA n a.label l ++ r)
    have ei : putA n p (a :: l) ++ r = uw (a.label - p).toNat ++ (uw a.out.toNat ++ (uw ((n : Int) - a.to).toNat ++ (putA n a.label l ++ r))) := by simp [putA]
    rw [ei, List.length_cons, rdA, if_neg (by simp), e1, e2, e3]
    have g1 : p + ((a.label - p).toNat : Int) = a.label := by omega
    have g2 : (a.out.toNat : Int) = a.out := by omega
    have g3 : (n : Int) - ((((n : Int) - a.to).toNat : Nat) : Int) = a.to := by omega
    simp only [g1, g2, g3]
    rw [rdA_put hn l a.label (acc ++ [a]) r (by omega) h7]
    simp
theorem rdA_back {n : Nat} : ∀ (c : Nat) (p : Int) (acc : List RArc) (st : Rs), 0 ≤ p → p ≤ 1114111 → Byt st → (rdA n c p acc st).2.2 = 0 → st.2 = 0 ∧ Byt (rdA n c p acc st).2 ∧ ∃ l, (rdA n c p acc st).1 = acc ++ l ∧ l.length = c ∧ putA n p l ++ (rdA n c p acc st).2.1 = st.1
  | 0, p, acc, st, _, _, hb, h => ⟨h, hb, [], by simp [rdA], rfl, by simp [rdA, putA]⟩
  | c + 1, p, acc, st, hp, hp2, hb, h => by
    rw [rdA] at h ⊢
    by_cases h0 : st.2 ≠ 0
    · rw [if_pos h0] at h
      exact absurd h h0
    · rw [if_neg h0] at h ⊢
      have b1 := rU_byt (most := (1114111 - p).toNat) hb
      have b2 := rU_byt (most := 1048576) b1
      have b3 := rU_byt (most := n) b2
      have l1 := rU_le (most := (1114111 - p).toNat) hb
      obtain ⟨k1, k2, l, k3, k4, k5⟩ := rdA_back c _ _ _ (by omega) (by omega) b3 h
      obtain ⟨a1, a2, a3⟩ := rU_back b2 k1
      obtain ⟨c1, c2, c3⟩ := rU_back b1 a1
      obtain ⟨d1, d2, d3⟩ := rU_back hb c1
      refine ⟨d1, k2, _, by rw [k3, List.append_assoc], by simp [k4], ?_⟩
      rw [← d2, ← c2, ← a2, ← k5]
      have g1 : (p + ((rU st (1114111 - p).toNat).1 : Int) - p).toNat = (rU st (1114111 - p).toNat).1 := by omega
      have g3 : ((n : Int) - ((n : Int) - ((rU (rU (rU st (1114111 - p).toNat).2 1048576).2 n).1 : Int))).toNat = (rU (rU (rU st (1114111 - p).toNat).2 1048576).2 n).1 := by omega
      simp [putA, g1, g3]
/-- States that can be written. -/
def OkS (n : Nat) (s : RSt) : Prop := s.arcs.length ≤ 4096 ∧ (s.final = false → s.out = 0) ∧ 0 ≤ s.out ∧ s.out ≤ 1048576 ∧ OkA n 0 s.arcs
theorem rdS_put {n : Nat} (hn : n ≤ 1048576) {s : RSt} (h : OkS n s) (r : List Nat) : rdS n (putS s n ++ r, 0) = (s, (r, 0)) := by
  obtain ⟨h1, h2, h3, h4, h5⟩ := h
  have hh : (headS s).toNat = 2 * s.arcs.length + (if s.final then 1 else 0) := by unfold headS; split <;> omega
  have e1 := rU_put (m := (headS s).toNat) (most := 8193) (by rw [hh]; split <;> omega) (by rw [hh]; split <;> omega) ((if s.final then uw s.out.toNat else []) ++ (putA n 0 s.arcs ++ r))
  have ei : putS s n ++ r = uw (headS s).toNat ++ ((if s.final then uw s.out.toNat else []) ++ (putA n 0 s.arcs ++ r)) := by simp [putS]
  have hdiv : (headS s).toNat / 2 = s.arcs.length := by rw [hh]; split <;> omega
  have hmod : (headS s).toNat % 2 = 1 ↔ s.final = true := by
    rw [hh]
    cases s.final <;> simp <;> omega
  have ho : rdO (headS s).toNat ((if s.final then uw s.out.toNat else []) ++ (putA n 0 s.arcs ++ r), 0) = (s.out.toNat, (putA n 0 s.arcs ++ r, 0)) := by
    unfold rdO
    cases hf : s.final with
    | true =>
      rw [if_pos (hmod.2 hf), if_pos rfl]
      exact rU_put (by omega) (by omega) _
    | false =>
      rw [if_neg (fun e => by rw [hmod.1 e] at hf; cases hf), h2 hf]
      simp
  unfold rdS
  rw [ei, e1]
  simp only
  rw [ho]
  simp only
  rw [hdiv, rdA_put hn s.arcs 0 [] r (Int.le_refl _) h5]
  have hfin : decide ((headS s).toNat % 2 = 1) = s.final := by
    cases hf : s.final with
    | true => exact decide_eq_true (hmod.2 hf)
    | false => exact decide_eq_false (fun e => by rw [hmod.1 e] at hf; cases hf)
  have ho2 : ((s.out.toNat : Nat) : Int) = s.out := by omega
  rw [hfin, ho2]
  simp
theorem rdS_back {n : Nat} {st : Rs} (hb : Byt st) (h : (rdS n st).2.2 = 0) : st.2 = 0 ∧ Byt (rdS n st).2 ∧ putS (rdS n st).1 n ++ (rdS n st).2.1 = st.1 := by
  unfold rdS at h ⊢
  simp only at h ⊢
  have b1 := rU_byt (most := 8193) hb
  have b2 : Byt (rdO (rU st 8193).1 (rU st 8193).2).2 := by
    unfold rdO
    split
    · exact rU_byt b1
    · exact b1
  obtain ⟨k1, k2, l, k3, k4, k5⟩ := rdA_back _ 0 [] _ (by omega) (by omega) b2 h
  have hO : (rU st 8193).2.2 = 0 ∧ (if (rU st 8193).1 % 2 = 1 then uw (rdO (rU st 8193).1 (rU st 8193).2).1 else []) ++ (rdO (rU st 8193).1 (rU st 8193).2).2.1 = (rU st 8193).2.1 := by
    unfold rdO at k1 ⊢
    by_cases hm : (rU st 8193).1 % 2 = 1
    · rw [if_pos hm] at k1
      simp only [if_pos hm]
      obtain ⟨a1, a2, _⟩ := rU_back b1 k1
      exact ⟨a1, a2⟩
    · rw [if_neg hm] at k1
      simp only [if_neg hm]
      exact ⟨k1, rfl⟩
  obtain ⟨d1, d2, d3⟩ := rU_back hb hO.1
  refine ⟨d1, k2, ?_⟩
  rw [List.nil_append] at k3
  unfold putS
  simp only [k3]
  have hh : (headS ⟨decide ((rU st 8193).1 % 2 = 1), ((rdO (rU st 8193).1 (rU st 8193).2).1 : Int), l⟩).toNat = (rU st 8193).1 := by
    unfold headS
    simp only [k4, decide_eq_true_eq]
    split <;> omega
  rw [hh, ← d2, ← hO.2, ← k5]
  simp only [decide_eq_true_eq, Int.toNat_natCast, List.append_assoc]
theorem rdM_put : ∀ (m : List RSt) (i : Nat) (acc : List RSt) (r : List Nat), i + m.length ≤ 1048576 → (∀ (j : Nat) (s : RSt), m[j]? = some s → OkS (i + j) s) → rdM m.length i acc (putM i m ++ r, 0) = (acc ++ m, (r, 0))
  | [], i, acc, r, _, _ => by simp [rdM, putM]
  | s :: m, i, acc, r, hl, h => by
    have hs := rdS_put (n := i) (by simp at hl; omega) (h 0 s rfl) (putM (i + 1) m ++ r)
    have ei : putM i (s :: m) ++ r = putS s i ++ (putM (i + 1) m ++ r) := by simp [putM]
    rw [ei, List.length_cons, rdM, if_neg (by simp), hs]
    simp only
    rw [rdM_put m (i + 1) (acc ++ [s]) r (by simp at hl; omega) (fun j t hj => by have := h (j + 1) t (by simpa using hj); rwa [show i + (j + 1) = i + 1 + j by omega] at this)]
    simp
theorem rdM_back : ∀ (c i : Nat) (acc : List RSt) (st : Rs), Byt st → (rdM c i acc st).2.2 = 0 → st.2 = 0 ∧ Byt (rdM c i acc st).2 ∧ ∃ m, (rdM c i acc st).1 = acc ++ m ∧ m.length = c ∧ putM i m ++ (rdM c i acc st).2.1 = st.1
  | 0, i, acc, st, hb, h => ⟨h, hb, [], by simp [rdM], rfl, by simp [rdM, putM]⟩
  | c + 1, i, acc, st, hb, h => by
    rw [rdM] at h ⊢
    by_cases h0 : st.2 ≠ 0
    · rw [if_pos h0] at h
      exact absurd h h0
    · rw [if_neg h0] at h ⊢
      have hb2 : Byt (rdS i st).2 := by
        by_cases hz : (rdS i st).2.2 = 0
        · exact (rdS_back hb hz).2.1
        · have := rdM_err c (i + 1) (acc ++ [(rdS i st).1]) _ hz
          exact absurd h this
      obtain ⟨k1, k2, m, k3, k4, k5⟩ := rdM_back c (i + 1) _ _ hb2 h
      obtain ⟨d1, _, d3⟩ := rdS_back hb k1
      refine ⟨d1, k2, (rdS i st).1 :: m, by rw [k3, List.append_assoc]; rfl, by simp [k4], ?_⟩
      rw [← d3, ← k5]
      simp [putM]
where
  rdM_err : ∀ (c i : Nat) (acc : List RSt) (st : Rs), st.2 ≠ 0 → (rdM c i acc st).2.2 ≠ 0
  | 0, _, _, _, h => h
  | c + 1, _, _, st, h => by rw [rdM, if_pos h]; exact h
theorem rdAll_put {base : Int} {m : List RSt} (h0 : 0 ≤ base) (h1 : base ≤ 1048576) (hl : m.length ≤ 98305) (h : ∀ (j : Nat) (s : RSt), m[j]? = some s → OkS j s) (r : List Nat) : rdAll (packB base m ++ r) = (base.toNat, m, (r, 0)) := by
  have e1 := rU_put (m := base.toNat) (most := 1048576) (by omega) (by omega) (uw m.length ++ (putM 0 m ++ r))
  have e2 := rU_put (m := m.length) (most := 98305) hl (by omega) (putM 0 m ++ r)
  have ei : packB base m ++ r = uw base.toNat ++ (uw m.length ++ (putM 0 m ++ r)) := by simp [packB]
  unfold rdAll
  rw [ei, e1, e2]
  simp only
  rw [rdM_put m 0 [] r (by omega) (fun j s hj => by rw [Nat.zero_add]; exact h j s hj)]
  simp
theorem rdAll_back {xs : List Nat} (hb : ∀ x ∈ xs, x < 256) (h : (rdAll xs).2.2.2 = 0) : packB ((rdAll xs).1 : Int) (rdAll xs).2.1 ++ (rdAll xs).2.2.1 = xs ∧ (rdAll xs).2.1.length ≤ 98305 := by
  unfold rdAll at *
  simp only at *
  have b0 : Byt (xs, 0) := hb
  have b1 := rU_byt (most := 1048576) b0
  have b2 := rU_byt (most := 98305) b1
  obtain ⟨k1, _, m, k3, k4, k5⟩ := rdM_back _ 0 [] _ b2 h
  obtain ⟨a1, a2, a3⟩ := rU_back b1 k1
  obtain ⟨d1, d2, _⟩ := rU_back b0 a1
  rw [List.nil_append] at k3
  refine ⟨?_, by rw [k3, k4]; exact a3⟩
  rw [k3]
  unfold packB
  rw [Int.toNat_natCast, k4, List.append_assoc, List.append_assoc, k5, a2]
  exact d2
end Go.Proofs.YtjhjejjnkpbphaaDoor.Pk

/- Machines of dictionaries are read as they were written. No program is named here. -/
namespace Go.Proofs.YtjhjejjnkpbphaaDoor.Pk
open Go.Proofs.YtjhjejjnkpbphaaDoor.Nums Go.Proofs.YtjhjejjnkpbphaaDoor.Fm Go.Proofs.YtjhjejjnkpbphaaDoor

theorem len_of_sub {α : Type} [DecidableEq α] : ∀ (l m : List α), l.Nodup → (∀ x ∈ l, x ∈ m) → l.length ≤ m.length
  | [], _, _, _ => Nat.zero_le _
  | x :: r, m, hn, h => by
    obtain ⟨h1, h2⟩ := List.nodup_cons.1 hn
    have hx := h x (by simp)
    have := len_of_sub r (m.erase x) h2 (fun y hy => (List.mem_erase_of_ne (fun e : y = x => h1 (by rw [← e]; exact hy))).2 (h y (by simp [hy])))
    rw [List.length_erase_of_mem hx] at this
    have hp := List.length_pos_of_mem hx
    rw [List.length_cons]
    omega
theorem flat_lens (S : List En) (f : En → Nat → List En) : (S.flatMap fun e => (List.range e.1.length).map (f e)).length = (S.map fun e => e.1.length).sum := by
  induction S with
  | nil => rfl
  | cons e r ih => simp [ih]
theorem sum_lens : ∀ (S : List En), (∀ e ∈ S, e.1.length ≤ 24) → (S.map fun e => e.1.length).sum ≤ S.length * 24
  | [], _ => by simp
  | e :: r, h => by
    have := sum_lens r fun x hx => h x (by simp [hx])
    have := h e (by simp)
    simp only [List.map_cons, List.sum_cons, List.length_cons]
    omega
/-- How many states there are. -/
theorem mach_most {l : List Pr} (h : buildE l = 0) : (machOf l).2.length ≤ 98305 := by
  by_cases hl : l = []
  · subst hl
    simp [machOf]
  have hG := dict_good h hl
  have hD := dict_ok h
  have hM : machOf l = (least (ents l), (stF 25 [] (ents l)).1) := by rw [machOf, if_pos ⟨h, hl⟩]
  obtain ⟨D, M⟩ := stF_spec 25 [] [] (ents l) Inv.nil hG
  rw [hM]
  simp only
  rw [← M.inv.len]
  have h1 := len_of_sub D (level (ents l) :: (ents l).flatMap fun e => (List.range e.1.length).map fun k => level (behind (e.1.take (k + 1)) (ents l))) M.inv.nd (fun R hR => by
    have hs := (M.sub R hR).resolve_left (fun h => by cases h)
    obtain ⟨xs, n, hx, k, hk, rfl⟩ := sub_word hs hD.rise (ents_ne hl)
    cases k with
    | zero => exact List.mem_cons.2 (.inl rfl)
    | succ k => exact List.mem_cons.2 (.inr (List.mem_flatMap.2 ⟨(xs, n), hx, List.mem_map.2 ⟨k, List.mem_range.2 (by simp only; omega), rfl⟩⟩)))
  rw [List.length_cons, flat_lens] at h1
  have h2 := sum_lens (ents l) hD.en.ln
  have h3 : (ents l).length = l.length := by simp [ents]
  have h4 := hD.len
  omega
theorem flat_many {D : List (List En)} (hD : ∀ R ∈ D, R ≠ []) : ∀ (l : List Arc), (∀ a ∈ l, a.to < D.length) → l.length ≤ (flat (outs D l)).length
  | [], _ => Nat.zero_le _
  | a :: l, h => by
    have ht := h a (by simp)
    have ih := flat_many hD l fun x hx => h x (by simp [hx])
    have hp := List.length_pos_iff.2 (hD _ (List.getElem_mem ht))
    simp only [outs, flat, List.map_cons, List.flatMap_cons, List.length_append, List.length_map, List.getElem?_eq_getElem ht, Option.getD_some, shift, List.length_cons] at ih ⊢
    omega
theorem okA_of : ∀ (l : List Arc) (n : Nat) (p : Int), l.Pairwise (fun a b => a.label < b.label) → (∀ a ∈ l, (0 ≤ a.label ∧ a.label < 1114112) ∧ (0 ≤ a.out ∧ a.out ≤ 1048576) ∧ a.to < n) → (∀ a ∈ l, p ≤ a.label) → OkA n p (l.map ofArc)
  | [], _, _, _, _, _ => trivial
  | a :: r, n, p, hp, h, hq => by
    obtain ⟨h1, h2⟩ := List.pairwise_cons.1 hp
    obtain ⟨⟨g1, g2⟩, ⟨g3, g4⟩, g5⟩ := h a (by simp)
    have := hq a (by simp)
    refine ⟨this, by simp only [ofArc]; omega, g3, g4, by simp only [ofArc]; omega, by simp only [ofArc]; omega, ?_⟩
    exact okA_of r n a.label h2 (fun x hx => h x (by simp [hx])) (fun x hx => by have := h1 x hx; omega)
theorem built_okS {l : List Pr} (h : buildE l = 0) : ∀ (j : Nat) (s : RSt), ((machOf l).2.map ofSt)[j]? = some s → OkS j s := by
  intro j s hj
  rw [List.getElem?_map] at hj
  obtain ⟨t, ht, rfl⟩ := Option.map_eq_some_iff.1 hj
  have hf := built_facts h j t ht
  by_cases hl : l = []
  · subst hl
    simp [machOf] at ht
  have hM : machOf l = (least (ents l), (stF 25 [] (ents l)).1) := by rw [machOf, if_pos ⟨h, hl⟩]
  rw [hM] at ht
  obtain ⟨D, hI, hR⟩ := dict_rests h hl
  simp only at ht
  obtain ⟨e1, e2, e3⟩ := hI.row j t ht
  refine ⟨?_, fun hn => e3.fin hn, hf.1.1, hf.1.2, okA_of t.arcs j 0 e3.lab hf.2 (fun a ha => (hf.2 a ha).1.1)⟩
  have h1 := flat_many hR.ne t.arcs e3.to
  have h2 := hR.few _ (List.mem_of_getElem? e1)
  unfold exp at h2
  rw [List.length_append] at h2
  simp only [ofSt, List.length_map]
  omega
theorem built_base {l : List Pr} (h : buildE l = 0) : 0 ≤ (machOf l).1 ∧ (machOf l).1 ≤ 1048576 := by
  by_cases hl : l = []
  · subst hl
    simp [machOf]
  have hM : machOf l = (least (ents l), (stF 25 [] (ents l)).1) := by rw [machOf, if_pos ⟨h, hl⟩]
  obtain ⟨D, hI, hR⟩ := dict_rests h hl
  rw [hM]
  have := hR.lo
  have := hR.hi
  simp only
  omega
/-- Read as it was written. -/
theorem rd_built {l : List Pr} (h : buildE l = 0) (r : List Nat) : rdAll (packB (machOf l).1 ((machOf l).2.map ofSt) ++ r) = ((machOf l).1.toNat, (machOf l).2.map ofSt, (r, 0)) := by
  have hb := built_base h
  exact rdAll_put hb.1 hb.2 (by rw [List.length_map]; exact mach_most h) (built_okS h) r
end Go.Proofs.YtjhjejjnkpbphaaDoor.Pk

/- codec.Read, and the end. -/
namespace Go.Proofs.YtjhjejjnkpbphaaDoor.Cd
open Go.RowKit
set_option maxRecDepth 100000

set_option maxHeartbeats 2000000 in
theorem codecRead_any (N : Nat) (v : Value) (xs : List Nat) (w : World) (hrow : Row N w v xs) (hx : ∀ x ∈ xs, x < 256) (hl : xs.length ≤ 140737488355328) :
    Calls Tryd.prog 40 #[v] w fun x w' => ∃ rb, x = .returned (.pointer (some ⟨rb, 0, none⟩)) ∧ w.heap.size ≤ rb ∧ Rd w' rb xs 0 ∧ Below w.heap.size w w' := by
  have HR : Hid (Row N w v xs) := hrow
  obtain ⟨ao, cap, rfl, hcap⟩ := hrow.shape
  clear hrow
  go_enter Tryd.func40, Tryd.ntmps40
  go_wp2_with (at_builtin; refine append_row (by rfl) _ _ rfl w.heap.size N _ _ [] xs rfl (Bytes.nil _ _) rfl HR.out (by simpa using hl) (Nat.le_refl _) ?_)
  intro v1 w1 hown1 hb1 _
  have hs1 := hb1.size
  have HO : Hid (Bytes w.heap.size w1 v1 xs) := hown1
  obtain ⟨ao1, cap1, rfl, hcap1⟩ := hown1.row.shape
  clear hown1
  go_wp2_with fail
  go_ret
  refine ⟨w1.heap.size, rfl, hs1, ⟨_, heap_alloc_new w1 _, HO.out.row.below ((Below.refl _ _).alloc (Nat.le_refl _) _), hx, hl⟩, hb1.alloc hs1 _⟩
set_option maxHeartbeats 1000000 in
theorem End_any (rb : Nat) (xs : List Nat) (e : Int) (w : World) (h : Rd w rb xs e) :
    Calls Tryd.prog 42 #[.pointer (some ⟨rb, 0, none⟩)] w fun x w' => x = .returned (.int .i64 (endE xs.length e)) ∧ ∃ n, w' = w.drewN n := by
  obtain ⟨v, h1, h2, h3, h4⟩ := h
  obtain ⟨c0, c1, f0, f1⟩ := rd_cells h1
  obtain ⟨ao, cap, rfl, hcap⟩ := h2.shape
  clear h1 h2 h3
  by_cases he : e = 0
  · subst he
    by_cases hx : 0 < xs.length
    · have HF : Hid (endE xs.length 0 = 23) := by show _ = _; rw [endE, if_pos ⟨rfl, hx⟩]
      go_enter Tryd.func42, Tryd.ntmps42
      go_wp2
      go_ret
      exact ⟨by rw [HF.out]; rfl, 0, rfl⟩
    · have HF : Hid (endE xs.length 0 = 0) := by show _ = _; rw [endE, if_neg (fun h => hx h.2)]
      have hx0 : (xs.length : Int) = 0 := by omega
      go_enter Tryd.func42, Tryd.ntmps42
      go_wp2
      go_ret
      exact ⟨by rw [HF.out]; rfl, 0, rfl⟩
  · have HF : Hid (endE xs.length e = e) := by show _ = _; rw [endE, if_neg (fun h => he h.1)]
    have hb : (e == 0) = false := by simpa using he
    go_enter Tryd.func42, Tryd.ntmps42
    go_wp2
    go_ret
    exact ⟨by rw [HF.out]; rfl, 0, rfl⟩
end Go.Proofs.YtjhjejjnkpbphaaDoor.Cd
