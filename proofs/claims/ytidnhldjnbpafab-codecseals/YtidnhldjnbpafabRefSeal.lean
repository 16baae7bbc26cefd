/- The reference's Seal. -/
import Derived.Test.YtidnhldjnbpafabSeal
import Derived.Test.YtidnhldjnbpafabRefSum
namespace Go.Proofs.Ytidnhldjnbpafab
open Go.RowKit
set_option maxRecDepth 100000

set_option maxHeartbeats 4000000 in
theorem refSeal_any (N : Nat) (v : Value) (xs : List Nat) (w : World) (hrow : Row N w v xs) (hN : N ≤ w.heap.size) (hx : ∀ x ∈ xs, x < 256) (hl : xs.length ≤ 140737488355328) :
    Calls Try.prog 9 #[v] w fun e w' => Below w.heap.size w w' ∧ ((2097152 < xs.length ∧ e = .returned (.tuple #[.slice none 0 0, .int .i64 22])) ∨
      (xs.length ≤ 2097152 ∧ ∃ v', e = .returned (.tuple #[v', .int .i64 0]) ∧ Bytes w.heap.size w' v' (sealOf xs))) := by
  have HR : Hid (Row N w v xs) := hrow
  have HX : Hid (∀ x ∈ xs, x < 256) := hx
  obtain ⟨ao, cap, rfl, hcap⟩ := hrow.shape
  clear hrow hx
  by_cases hlong : 2097152 < xs.length
  · go_enter Try.func9, Try.ntmps9
    go_wp2_with fail
    go_ret2
    exact ⟨Below.refl _ _, .inl ⟨hlong, rfl⟩⟩
  · have hul := uw_len10 (show xs.length < 18446744073709551616 by omega)
    go_enter Try.func9, Try.ntmps9
    go_wp2_with fail
    refine (refSum_any N _ xs w HR.out HX.out hl).mono ?_
    rintro e w0 ⟨rfl, rfl⟩
    go_wp2_with fail
    refine (refPut_any N _ xs _ HR.out hN (by omega)).mono ?_
    rintro e w1' ⟨v1, rfl, hown1, hb1⟩
    have hs1 := hb1.size
    have hsl := sumOf_lt (xs := xs)
    have HS : Hid (sealOf xs = (uw xs.length ++ xs) ++ [sumOf xs % 256, sumOf xs / 256 % 256, sumOf xs / 256 / 256 % 256, sumOf xs / 256 / 256 / 256 % 256]) := rfl
    have hlen : (uw xs.length ++ xs).length ≤ 2097162 := by rw [List.length_append]; omega
    generalize sumOf xs = s at hsl HS
    generalize uw xs.length ++ xs = ys at hown1 HS hlen
    go_wp2_with fail
    refine wp_loop_rounds 5 ?_
    rw [rounds_succ]
    go_wp2_with (at_builtin; refine append_row (by rfl) _ _ rfl w0.heap.size (w1'.heap.size + 1) _ _ ys [s % 256] rfl (Bytes.alloc hown1 _) rfl (row_one _ _ _ (by omega)) (by simp; omega) (by simp; omega) ?_)
    intro v2 w2 hown2 hb2 _
    have hb2' : Below w0.heap.size w0 w2 := (hb1.alloc hs1 _).trans hb2
    have hs2 := hb2'.size
    have HO2 : Hid (Bytes w0.heap.size w2 v2 (ys ++ [s % 256])) := hown2
    clear hb2 hown2 hown1
    go_wp2_with fail
    rw [rounds_succ]
    go_wp2_with (at_builtin; refine append_row (by rfl) _ _ rfl w0.heap.size (w2.heap.size + 1) _ _ (ys ++ [s % 256]) [s / 256 % 256] rfl (Bytes.alloc HO2.out _) rfl (row_one _ _ _ (by omega)) (by simp; omega) (by simp; omega) ?_)
    intro v3 w3 hown3 hb3 _
    have hb3' : Below w0.heap.size w0 w3 := (hb2'.alloc hs2 _).trans hb3
    have hs3 := hb3'.size
    have HO3 : Hid (Bytes w0.heap.size w3 v3 (ys ++ [s % 256, s / 256 % 256])) := hown3
    clear hb3 hown3
    go_wp2_with fail
    rw [rounds_succ]
    go_wp2_with (at_builtin; refine append_row (by rfl) _ _ rfl w0.heap.size (w3.heap.size + 1) _ _ (ys ++ [s % 256, s / 256 % 256]) [s / 256 / 256 % 256] rfl (Bytes.alloc HO3.out _) rfl (row_one _ _ _ (by omega)) (by simp; omega) (by simp; omega) ?_)
    intro v4 w4 hown4 hb4 _
    have hb4' : Below w0.heap.size w0 w4 := (hb3'.alloc hs3 _).trans hb4
    have hs4 := hb4'.size
    have HO4 : Hid (Bytes w0.heap.size w4 v4 (ys ++ [s % 256, s / 256 % 256, s / 256 / 256 % 256])) := hown4
    clear hb4 hown4
    go_wp2_with fail
    rw [rounds_succ]
    go_wp2_with (at_builtin; refine append_row (by rfl) _ _ rfl w0.heap.size (w4.heap.size + 1) _ _ (ys ++ [s % 256, s / 256 % 256, s / 256 / 256 % 256]) [s / 256 / 256 / 256 % 256] rfl (Bytes.alloc HO4.out _) rfl (row_one _ _ _ (by omega)) (by simp; omega) (by simp; omega) ?_)
    intro v5 w5 hown5 hb5 _
    have hb5' : Below w0.heap.size w0 w5 := (hb4'.alloc hs4 _).trans hb5
    go_wp2_with fail
    rw [rounds_succ]
    go_wp2_with fail
    go_ret2
    exact ⟨hb5', .inr ⟨by omega, _, rfl, by rw [HS.out]; exact hown5⟩⟩

end Go.Proofs.Ytidnhldjnbpafab
