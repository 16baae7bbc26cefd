/- codec.PutUint and the reference's Uint: a number's bytes. -/
import Derived.Test.YtidnhldjnbpafaaNums
namespace Go.Proofs.Ytidnhldjnbpafaa
open Go.RowKit
set_option maxRecDepth 100000

theorem row_one (w : World) (z : Int) (n : Nat) (hz : z = n) : Row (w.heap.size + 1) (w.alloc (Obj.cells #[.int .u8 z] 5)) (.slice (some ⟨w.heap.size, 0, none⟩) 1 1) [n] := by
  subst hz
  exact ⟨_, _, rfl, by simp, fun h => by (cases h), fun _ => ⟨_, _, rfl, by omega, fun i hi => by
    obtain rfl : i = 0 := by simpa using hi
    simp⟩⟩
theorem Bytes.alloc {B : Nat} {w : World} {v : Value} {xs : List Nat} (h : Bytes B w v xs) (o : Obj) : Bytes B (w.alloc o) v xs := h.below ((Below.refl _ _).alloc (Nat.le_refl _) o)

set_option maxHeartbeats 2000000 in
theorem PutUint_any (B : Nat) (v : Value) (xs : List Nat) (n : Nat) (w : World) (hown : Bytes B w v xs) (hB : B ≤ w.heap.size) (hn : n < 18446744073709551616) (hl : xs.length + 10 ≤ 140737488355328) :
    Calls Try.prog 11 #[v, .int .u64 (n : Int)] w fun e w' => ∃ v', e = .returned v' ∧ Bytes B w' v' (xs ++ uw n) ∧ Below B w w' := by
  have hul := uw_len10 hn
  go_enter Try.func11, Try.ntmps11
  go_wp2
  go_loopw [0, 1] (fun vb vn wr => ∃ (k : Nat) (ys : List Nat), vn = .int .u64 (k : Int) ∧ k < 18446744073709551616 ∧ Bytes B wr vb ys ∧ ys ++ uw k = xs ++ uw n ∧ Below B w wr)
    (fun _ vn _ => (intOf vn).toNat)
  case atStart => exact ⟨n, xs, rfl, hn, hown, rfl, Below.refl _ _⟩
  case round =>
    obtain ⟨k, ys, rfl, hk, hown1, heq, hbel⟩ := hrel
    have hlen : ys.length + (uw k).length = xs.length + (uw n).length := by rw [← List.length_append, heq, List.length_append]
    have hkl := (uw_len10 hk).1
    have HE : Hid (ys ++ uw k = xs ++ uw n) := heq
    have hsz := hbel.size
    clear heq
    by_cases h : 128 ≤ k
    · have HU : Hid (uw k = (k % 128 + 128) :: uw (k / 128)) := uw_ge h
      go_wp2_with (at_builtin; refine append_row (by rfl) _ _ rfl B (wr.heap.size + 1) _ _ ys [k % 128 + 128] rfl (hown1.alloc _) rfl (row_one _ _ _ (by omega)) (by simp; omega) (by simp; omega) ?_)
      intro v1 w1 hown2 hb2 _
      have hb3 : Below B w w1 := (hbel.alloc (by omega) _).trans hb2
      go_wp2
      go_roundw
      case rel =>
        refine ⟨k / 128, ys ++ [k % 128 + 128], by go_num, by omega, hown2, ?_, hb3⟩
        rw [← HE.out, HU.out]; simp
      case measure => simp [intOf]; omega
    · have HU : Hid (uw k = [k]) := uw_lt (by omega)
      go_wp2_with (at_builtin; refine append_row (by rfl) _ _ rfl B (wr.heap.size + 1) _ _ ys [k] rfl (hown1.alloc _) rfl (row_one _ _ _ (by omega)) (by simp; omega) (by simp; omega) ?_)
      intro v1 w1 hown2 hb2 _
      have hb3 : Below B w w1 := (hbel.alloc (by omega) _).trans hb2
      go_wp2
      go_ret
      refine ⟨_, rfl, ?_, hb3⟩
      rw [← HE.out, HU.out]; exact hown2

theorem bytes_one (B : Nat) (w : World) (z : Int) (n : Nat) (hz : z = n) (hB : B ≤ w.heap.size) : Bytes B (w.alloc (Obj.cells #[.int .u8 z] 5)) (.slice (some ⟨w.heap.size, 0, none⟩) 1 1) [n] := by
  subst hz
  exact World.ownsRow_lit w #[bv n] 1 hB (by decide) rfl

set_option maxHeartbeats 2000000 in
theorem refUint_any (k : Nat) : ∀ (n : Nat) (w : World), n < 128 ^ k → 0 < k → k ≤ 10 → n < 18446744073709551616 →
    Calls Try.prog 9 #[.int .u64 (n : Int)] w fun e w' => ∃ v', e = .returned v' ∧ Bytes w.heap.size w' v' (uw n) ∧ Below w.heap.size w w' := by
  induction k with
  | zero => intro n w _ h; omega
  | succ k ih =>
    intro n w hn _ hk hn64
    by_cases h : n < 128
    · have HU : Hid (uw n = [n]) := uw_lt h
      go_enter Try.func9, Try.ntmps9
      go_wp2_with fail
      go_ret
      refine ⟨_, rfl, ?_, (Below.refl _ _).alloc (Nat.le_refl _) _⟩
      rw [HU.out]; exact bytes_one _ _ _ _ (by omega) (Nat.le_refl _)
    · have HU : Hid (uw n = (n % 128 + 128) :: uw (n / 128)) := uw_ge (by omega)
      have hk0 : 0 < k := by
        rcases Nat.eq_zero_or_pos k with rfl | h0
        · simp at hn; omega
        · exact h0
      have hd : n / 128 < 128 ^ k := by rw [Nat.div_lt_iff_lt_mul (by decide)]; rw [Nat.pow_succ] at hn; exact hn
      have HC : Hid (∀ w, Calls Try.prog 9 #[.int .u64 ((n : Int) / 128)] w fun e w' => ∃ v', e = .returned v' ∧ Bytes w.heap.size w' v' (uw (n / 128)) ∧ Below w.heap.size w w') := by
        intro w
        have := ih (n / 128) w hd hk0 (by omega) (by omega)
        rwa [Int.natCast_ediv] at this
      have hul := uw_len10 (show n / 128 < 18446744073709551616 by omega)
      go_enter Try.func9, Try.ntmps9
      go_wp2_with fail
      refine (HC.out _).mono ?_
      rintro e w1 ⟨v1, rfl, hown1, hb1⟩
      have hb2 : Below w.heap.size w w1 := ((Below.refl _ _).alloc (Nat.le_refl _) _).trans (hb1.mono (by simp))
      have ho : Bytes w.heap.size w1 (.slice (some ⟨w.heap.size, 0, none⟩) 1 1) [n % 128 + 128] := (bytes_one w.heap.size w _ _ (by omega) (Nat.le_refl _)).below hb1
      have hsz := hb2.size
      go_wp2_with (at_builtin; refine append_row (by rfl) _ _ rfl w.heap.size w1.heap.size _ _ [n % 128 + 128] (uw (n / 128)) rfl ho rfl hown1.row (by simp; omega) hsz ?_)
      intro v2 w2 hown2 hb3 _
      go_wp2_with fail
      go_ret
      refine ⟨_, rfl, ?_, hb2.trans hb3⟩
      rw [HU.out]; exact hown2
theorem refUint_all (n : Nat) (w : World) (h : n < 18446744073709551616) :
    Calls Try.prog 9 #[.int .u64 (n : Int)] w fun e w' => ∃ v', e = .returned v' ∧ Bytes w.heap.size w' v' (uw n) ∧ Below w.heap.size w w' :=
  refUint_any 10 n w (Nat.lt_of_lt_of_le h (by decide)) (by decide) (by decide) h

set_option maxHeartbeats 2000000 in
theorem PutBytes_any (B N : Nat) (v v2 : Value) (xs ys : List Nat) (w : World) (hown : Bytes B w v xs) (hB : B ≤ w.heap.size) (hrow : Row N w v2 ys) (hN : N ≤ w.heap.size) (hl : xs.length + ys.length + 10 ≤ 140737488355328) :
    Calls Try.prog 13 #[v, v2] w fun e w' => ∃ v', e = .returned v' ∧ Bytes B w' v' (xs ++ (uw ys.length ++ ys)) ∧ Below B w w' := by
  have hul := uw_len10 (show ys.length < 18446744073709551616 by omega)
  have HR : Hid (Row N w v2 ys) := hrow
  obtain ⟨ao, cap, rfl, hcap⟩ := hrow.shape
  clear hrow
  go_enter Try.func13, Try.ntmps13
  go_wp2_with fail
  refine (PutUint_any w.heap.size _ [] ys.length w (Bytes.nil _ _) (Nat.le_refl _) (by omega) (by simp)).mono ?_
  rintro e w1 ⟨v1, rfl, hown1, hb1⟩
  have hs1 := hb1.size
  go_wp2_with (at_builtin; refine append_row (by rfl) _ _ rfl w.heap.size N _ _ (uw ys.length) ys rfl hown1 rfl (HR.out.below (hb1.mono hN)) (by omega) (by omega) ?_)
  intro v3 w3 hown3 hb3 _
  have hb13 := hb1.trans hb3
  have hs3 := hb13.size
  have ho : Bytes B w3 v xs := hown.below hb13
  clear hown1 hb1 hb3
  go_wp2_with (at_builtin; refine append_row (by rfl) _ _ rfl B w3.heap.size _ _ xs (uw ys.length ++ ys) rfl ho rfl hown3.row (by simp; omega) (by omega) ?_)
  intro v4 w4 hown4 hb4 _
  go_wp2_with fail
  go_ret
  exact ⟨_, rfl, hown4, (hb13.mono hB).trans hb4⟩

set_option maxHeartbeats 2000000 in
theorem refPut_any (N : Nat) (v2 : Value) (ys : List Nat) (w : World) (hrow : Row N w v2 ys) (hN : N ≤ w.heap.size) (hl : ys.length + 10 ≤ 140737488355328) :
    Calls Try.prog 12 #[v2] w fun e w' => ∃ v', e = .returned v' ∧ Bytes w.heap.size w' v' (uw ys.length ++ ys) ∧ Below w.heap.size w w' := by
  have hul := uw_len10 (show ys.length < 18446744073709551616 by omega)
  have HR : Hid (Row N w v2 ys) := hrow
  obtain ⟨ao, cap, rfl, hcap⟩ := hrow.shape
  clear hrow
  go_enter Try.func12, Try.ntmps12
  go_wp2_with fail
  refine (refUint_all ys.length w (by omega)).mono ?_
  rintro e w1 ⟨v1, rfl, hown1, hb1⟩
  have hs1 := hb1.size
  go_wp2_with (at_builtin; refine append_row (by rfl) _ _ rfl w.heap.size N _ _ (uw ys.length) ys rfl hown1 rfl (HR.out.below (hb1.mono hN)) (by omega) (by omega) ?_)
  intro v3 w3 hown3 hb3 _
  go_wp2_with fail
  go_ret
  exact ⟨_, rfl, hown3, hb1.trans hb3⟩
end Go.Proofs.Ytidnhldjnbpafaa
