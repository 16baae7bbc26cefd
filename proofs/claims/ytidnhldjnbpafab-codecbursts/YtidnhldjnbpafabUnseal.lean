/- codec's sum of a reader, and Unseal. -/
import Derived.Test.YtidnhldjnbpafabMore
namespace Go.Proofs.Ytidnhldjnbpafab
open Go.RowKit
set_option maxRecDepth 100000

def sumS (xs : List Nat) (e : Int) : Nat → Nat × List Nat × Int
  | 0 => (0, xs, e)
  | k + 1 => ((sumS xs e k).1 + (byteR (sumS xs e k).2.1 (sumS xs e k).2.2).1 * 256 ^ k, (byteR (sumS xs e k).2.1 (sumS xs e k).2.2).2.1, (byteR (sumS xs e k).2.1 (sumS xs e k).2.2).2.2)
def val4 (xs : List Nat) : Nat := xs.getD 0 0 + xs.getD 1 0 * 256 + xs.getD 2 0 * 65536 + xs.getD 3 0 * 16777216

theorem byteR_fail {xs : List Nat} {e : Int} (h : e ≠ 0) : byteR xs e = (0, xs, e) := by rw [byteR, if_pos h]
theorem byteR_nil : byteR [] 0 = (0, [], 20) := by rw [byteR, if_neg (by simp)]; rfl
theorem byteR_cons (x : Nat) (r : List Nat) : byteR (x :: r) 0 = (x, r, 0) := by rw [byteR, if_neg (by simp)]; rfl
theorem sumS_fail {xs : List Nat} {e : Int} (h : e ≠ 0) : ∀ k, sumS xs e k = (0, xs, e)
  | 0 => rfl
  | k + 1 => by rw [sumS, sumS_fail h k, byteR_fail h]; simp
theorem sumS_long (a b c d : Nat) (r : List Nat) : sumS (a :: b :: c :: d :: r) 0 4 = (val4 (a :: b :: c :: d :: r), r, 0) := by
  have h1 : sumS (a :: b :: c :: d :: r) 0 1 = (a, b :: c :: d :: r, 0) := by rw [sumS, sumS, byteR_cons]; simp
  have h2 : sumS (a :: b :: c :: d :: r) 0 2 = (a + b * 256, c :: d :: r, 0) := by rw [sumS, h1, byteR_cons]
  have h3 : sumS (a :: b :: c :: d :: r) 0 3 = (a + b * 256 + c * 65536, d :: r, 0) := by rw [sumS, h2, byteR_cons]
  rw [sumS, h3, byteR_cons]; rfl
theorem sumS_short {xs : List Nat} (h : xs.length < 4) : (sumS xs 0 4).2.2 = 20 := by
  match xs, h with
  | [], _ =>
    have h1 : (sumS [] 0 1).2 = ([], 20) := by rw [sumS, sumS, byteR_nil]
    have h2 : (sumS [] 0 2).2 = ([], 20) := by rw [sumS, h1, byteR_fail (by decide)]
    have h3 : (sumS [] 0 3).2 = ([], 20) := by rw [sumS, h2, byteR_fail (by decide)]
    rw [sumS, h3, byteR_fail (by decide)]
  | [a], _ =>
    have h1 : (sumS [a] 0 1).2 = ([], 0) := by rw [sumS, sumS, byteR_cons]
    have h2 : (sumS [a] 0 2).2 = ([], 20) := by rw [sumS, h1, byteR_nil]
    have h3 : (sumS [a] 0 3).2 = ([], 20) := by rw [sumS, h2, byteR_fail (by decide)]
    rw [sumS, h3, byteR_fail (by decide)]
  | [a, b], _ =>
    have h1 : (sumS [a, b] 0 1).2 = ([b], 0) := by rw [sumS, sumS, byteR_cons]
    have h2 : (sumS [a, b] 0 2).2 = ([], 0) := by rw [sumS, h1, byteR_cons]
    have h3 : (sumS [a, b] 0 3).2 = ([], 20) := by rw [sumS, h2, byteR_nil]
    rw [sumS, h3, byteR_fail (by decide)]
  | [a, b, c], _ =>
    have h1 : (sumS [a, b, c] 0 1).2 = ([b, c], 0) := by rw [sumS, sumS, byteR_cons]
    have h2 : (sumS [a, b, c] 0 2).2 = ([c], 0) := by rw [sumS, h1, byteR_cons]
    have h3 : (sumS [a, b, c] 0 3).2 = ([], 0) := by rw [sumS, h2, byteR_cons]
    rw [sumS, h3, byteR_nil]
theorem sumS_all {xs : List Nat} (h : 4 ≤ xs.length) : sumS xs 0 4 = (val4 xs, xs.drop 4, 0) := by
  match xs, h with
  | a :: b :: c :: d :: r, _ => exact sumS_long a b c d r

theorem byteR_byte {xs : List Nat} {e : Int} (hx : ∀ x ∈ xs, x < 256) : (byteR xs e).1 < 256 := by
  unfold byteR
  split
  · simp
  · cases xs with
    | nil => simp
    | cons a r => exact hx a (by simp)
theorem Rd.bytes {w : World} {rb : Nat} {xs : List Nat} {e : Int} (h : Rd w rb xs e) : ∀ x ∈ xs, x < 256 := by
  obtain ⟨v, _, _, h3, _⟩ := h; exact h3
theorem or_byte {k n c : Nat} (hk : k < 4) (hn : n < 256 ^ k) (hc : c < 256) :
    n + c * 256 ^ k < 256 ^ (k + 1) ∧ bits .or .u32 (n : Int) ((c : Int) * 2 ^ (8 * k) % 4294967296) = ((n + c * 256 ^ k : Nat) : Int) := by
  have h1 : (c + 1) * 256 ^ k ≤ 256 * 256 ^ k := Nat.mul_le_mul_right _ (by omega)
  rw [Nat.add_mul] at h1
  have e1 : 256 * 256 ^ k = 256 ^ (k + 1) := by rw [Nat.pow_succ, Nat.mul_comm]
  have e2 : (256 : Nat) ^ (k + 1) ≤ 256 ^ 4 := Nat.pow_le_pow_right (by decide) (by omega)
  have e3 : (256 : Nat) ^ 4 = 4294967296 := by decide
  refine ⟨by omega, ?_⟩
  have p8 : (2 : Nat) ^ (8 * k) = 256 ^ k := by rw [Nat.pow_mul]
  have e : (c : Int) * 2 ^ (8 * k) = ((c * 256 ^ k : Nat) : Int) := by rw [← p8]; push_cast; rfl
  rw [e, Int.emod_eq_of_lt (by omega) (by omega), u32_or_nat _ _ (by omega) (by omega)]
  congr 1
  rw [← p8] at hn ⊢
  rw [Nat.or_comm, Nat.mul_comm, ← Nat.two_pow_add_eq_or_of_lt hn]
  omega

set_option maxHeartbeats 2000000 in
theorem sum_any (rb : Nat) (xs : List Nat) (e : Int) (w : World) (h : Rd w rb xs e) :
    Calls Try.prog 21 #[.pointer (some ⟨rb, 0, none⟩)] w fun x w' => x = .returned (.int .u32 ((sumS xs e 4).1 : Int)) ∧ Rd w' rb (sumS xs e 4).2.1 (sumS xs e 4).2.2 ∧ But rb w w' := by
  have HR : Hid (Rd w rb xs e) := h
  clear h
  go_enter Try.func21, Try.ntmps21
  go_wp2
  go_loopw [3, 5] (fun vs vk wr => ∃ k : Nat, k ≤ 4 ∧ vk = .int .i64 (k : Int) ∧ vs = .int .u32 ((sumS xs e k).1 : Int) ∧ (sumS xs e k).1 < 256 ^ k ∧ Rd wr rb (sumS xs e k).2.1 (sumS xs e k).2.2 ∧ But rb w wr)
    (fun _ vk _ => 4 - (intOf vk).toNat)
  case atStart => exact ⟨0, Nat.zero_le _, rfl, rfl, by show 0 < 1; decide, HR.out, But.refl _ _⟩
  case round =>
    obtain ⟨k, hk, rfl, rfl, hlt, hrd, hbut⟩ := hrel
    by_cases hk4 : k < 4
    · have hS : sumS xs e (k + 1) = ((sumS xs e k).1 + (byteR (sumS xs e k).2.1 (sumS xs e k).2.2).1 * 256 ^ k, (byteR (sumS xs e k).2.1 (sumS xs e k).2.2).2.1, (byteR (sumS xs e k).2.1 (sumS xs e k).2.2).2.2) := rfl
      have HS : Hid (sumS xs e (k + 1) = _) := hS
      have hc := byteR_byte (e := (sumS xs e k).2.2) hrd.bytes
      have HB := Byte_any rb _ _ wr hrd
      obtain ⟨o1, o2⟩ := or_byte hk4 hlt hc
      generalize (byteR (sumS xs e k).2.1 (sumS xs e k).2.2) = r at HS HB hc o1 o2
      generalize (sumS xs e k).1 = s at *
      have HB : Hid (Calls Try.prog 29 #[.pointer (some ⟨rb, 0, none⟩)] wr fun x w' => x = .returned (bv r.1) ∧ Rd w' rb r.2.1 r.2.2 ∧ But rb wr w') := HB
      have HO : Hid (s + r.1 * 256 ^ k < 256 ^ (k + 1)) := o1
      clear hrd hS o1 hlt
      generalize hc1 : r.1 = c at *
      generalize hc2 : s + c * 256 ^ k = q at *
      clear hc1 hc2
      go_wp2_with (go_at_call 29; refine HB.out.mono ?_; rintro x w2 ⟨rfl, hrd2, hbut2⟩)
      go_roundw
      case rel =>
        refine ⟨k + 1, by omega, by go_num, ?_, ?_, ?_, hbut.trans hbut2⟩
        · rw [HS.out]
        · rw [HS.out]; exact HO.out
        · rw [HS.out]; exact hrd2
      case measure => simp [intOf]; omega
    · obtain rfl : k = 4 := by omega
      have HRD := hrd
      clear hlt
      go_wp2
      go_ret
      exact ⟨rfl, HRD, hbut⟩
end Go.Proofs.Ytidnhldjnbpafab
