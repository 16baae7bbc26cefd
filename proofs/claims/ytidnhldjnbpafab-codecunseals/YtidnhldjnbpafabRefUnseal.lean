/- The reference's Unseal. -/
import Derived.Test.YtidnhldjnbpafabRefReader3
import Derived.Test.YtidnhldjnbpafabRefSum
import Derived.Test.YtidnhldjnbpafabUnseal2
import Derived.Deep.QuietTactic
import Derived.BigQuiet
namespace Go.Proofs.Ytidnhldjnbpafab
open Go.RowKit
set_option maxRecDepth 100000

theorem drop_getD (xs : List Nat) (n j : Nat) : (xs.drop n).getD j 0 = xs.getD (n + j) 0 := by simp [List.getD_eq_getElem?_getD]

set_option maxHeartbeats 4000000 in
theorem refUnseal_any (N : Nat) (v : Value) (xs : List Nat) (w : World) (hrow : Row N w v xs) (hN : N ≤ w.heap.size) (hx : ∀ x ∈ xs, x < 256) (hl : xs.length ≤ 140737488351232) :
    Calls Try.prog 12 #[v] w fun x w' => ∃ v', x = .returned (.tuple #[v', .int .i64 ((unsealR xs).2.1 : Int), .int .i64 (unsealR xs).2.2]) ∧ Bytes w.heap.size w' v' (unsealR xs).1 ∧ Below w.heap.size w w' := by
  have HR : Hid (Row N w v xs) := hrow
  have HX : Hid (∀ x ∈ xs, x < 256) := hx
  obtain ⟨ao, cap, rfl, hcap⟩ := hrow.shape
  have hsub := bytesR_sub (e := 0) (m := 2097152) hx
  have HU : Hid (unsealR xs = if (bytesR xs 0 2097152).2.2 ≠ 0 then ([], 0, (bytesR xs 0 2097152).2.2) else if (bytesR xs 0 2097152).2.1.length < 4 then ([], 0, 20)
    else if val4 (bytesR xs 0 2097152).2.1 ≠ sumOf (bytesR xs 0 2097152).1 then ([], 0, 24) else ((bytesR xs 0 2097152).1, xs.length - ((bytesR xs 0 2097152).2.1.length - 4), 0)) := rfl
  have HC := refGetBytes_any N _ xs 0 0 2097152 w HR.out hN (Nat.zero_le _) HX.out (by omega) (by omega) (by omega)
  rw [List.drop_zero] at HC
  clear hrow hx
  generalize hR : bytesR xs 0 2097152 = R at hsub HU HC
  clear hR
  obtain ⟨ys, rs, e⟩ := R
  simp only at hsub HU HC
  obtain ⟨hy, hyl, hrl, _⟩ := hsub
  have HC : Hid (Calls Try.prog 25 #[rv (.slice ao xs.length cap) 0 0, .int .i64 2097152] w fun x w' => ∃ n' v', x = .returned (.tuple #[rv (.slice ao xs.length cap) n' e, v']) ∧ xs.drop n' = rs ∧ 0 ≤ n' ∧ n' ≤ xs.length ∧ Bytes w.heap.size w' v' ys ∧ Below w.heap.size w w') := HC
  have HY : Hid (∀ x ∈ ys, x < 256) := hy
  clear hy
  by_cases he : e = 0
  · subst he
    rw [if_neg (by simp)] at HU
    by_cases h4 : rs.length < 4
    · rw [if_pos h4] at HU
      go_enter Try.func12, Try.ntmps12
      go_wp2_with fail
      refine HC.out.mono ?_
      rintro x w1 ⟨n', v1, rfl, hdrop, _, hn', hown1, hb1⟩
      have hrl2 : rs.length = xs.length - n' := by rw [← hdrop, List.length_drop]
      have hlt4 : (xs.length : Int) - (n' : Int) < 4 := by omega
      have hs1 := hb1.size
      clear hdrop hown1 HC
      go_wp2_with fail
      go_ret3
      rw [HU.out]
      exact ⟨_, rfl, Bytes.nil _ _, hb1.alloc hs1 _⟩
    · rw [if_neg h4] at HU
      obtain ⟨b, off, rfl⟩ : ∃ b off, ao = some ⟨b, off, none⟩ := by
        obtain ⟨ao', cap', e, _, _, hc⟩ := HR.out
        simp only [Value.slice.injEq] at e
        obtain ⟨rfl, _, rfl⟩ := e
        obtain ⟨b, off, e, _⟩ := hc (by omega)
        exact ⟨b, off, e⟩
      go_enter Try.func12, Try.ntmps12
      go_wp2_with fail
      refine HC.out.mono ?_
      rintro x w1 ⟨n', v1, rfl, hdrop, _, hn', hown1, hb1⟩
      have hrl2 : rs.length = xs.length - n' := by rw [← hdrop, List.length_drop]
      have hlt4 : (4 : Int) ≤ (xs.length : Int) - (n' : Int) := by omega
      have hs1 := hb1.size
      have HO1 : Hid (Bytes w.heap.size w1 v1 ys) := hown1
      obtain ⟨_, _, e1, _, _, hc⟩ := HR.out.below (hb1.mono hN)
      simp only [Value.slice.injEq] at e1
      obtain ⟨rfl, _, rfl⟩ := e1
      obtain ⟨b', off', e1, hbN, hd⟩ := hc (by omega)
      simp only [Option.some.injEq, Addr.mk.injEq, and_true] at e1
      obtain ⟨rfl, rfl⟩ := e1
      have hbl : b < w1.heap.size := lt_of_cell (hd 0 (by omega))
      have k0 := hd n' (by omega)
      have k1 := hd (n' + 1) (by omega)
      have k2 := hd (n' + 2) (by omega)
      have k3 := hd (n' + 3) (by omega)
      have hv : val4 rs = xs.getD n' 0 + xs.getD (n' + 1) 0 * 256 + xs.getD (n' + 2) 0 * 65536 + xs.getD (n' + 3) 0 * 16777216 := by
        rw [← hdrop]; unfold val4; simp only [drop_getD]; rfl
      have l0 := byte_at HX.out n'
      have l1 := byte_at HX.out (n' + 1)
      have l2 := byte_at HX.out (n' + 2)
      have l3 := byte_at HX.out (n' + 3)
      rw [hv] at HU
      generalize xs.getD n' 0 = c0 at k0 l0 HU
      generalize xs.getD (n' + 1) 0 = c1 at k1 l1 HU
      generalize xs.getD (n' + 2) 0 = c2 at k2 l2 HU
      generalize xs.getD (n' + 3) 0 = c3 at k3 l3 HU
      clear hd hc hown1 HC hdrop hv
      go_wp2_with fail
      refine wp_loop_rounds 5 ?_
      rw [rounds_succ]
      go_wp2_with fail
      rw [rounds_succ]
      go_wp2_with fail
      rw [rounds_succ]
      go_wp2_with fail
      rw [rounds_succ]
      go_wp2_with fail
      rw [rounds_succ]
      go_wp2_with fail
      have hbA : Below w1.heap.size w1 (w1.alloc (Obj.cells #[.slice (some ⟨b, off, none⟩) xs.length cap, .int .i64 (n' : Int), .int .i64 0] 50)) := (Below.refl _ _).alloc (Nat.le_refl _) _
      have HO2 : Hid (Bytes w.heap.size (w1.alloc (Obj.cells #[.slice (some ⟨b, off, none⟩) xs.length cap, .int .i64 (n' : Int), .int .i64 0] 50)) v1 ys) := HO1.out.below hbA
      have HB2 : Hid (Below w.heap.size w (w1.alloc (Obj.cells #[.slice (some ⟨b, off, none⟩) xs.length cap, .int .i64 (n' : Int), .int .i64 0] 50))) := hb1.alloc hs1 _
      clear hbA
      refine (refSum_any _ _ ys _ HO2.out.row HY.out (by omega)).mono ?_
      rintro x w2 ⟨rfl, rfl⟩
      generalize sumOf ys = z at HU
      by_cases hq : c0 + c1 * 256 + c2 * 65536 + c3 * 16777216 = z
      · rw [if_neg (by simpa using hq)] at HU
        have heq : ((((c3 : Int) * 256 + c2) * 256 + c1) * 256 + c0) = (z : Int) := by omega
        have hk : (xs.length - (rs.length - 4) : Nat) = n' + 4 := by omega
        rw [hk] at HU
        have hwr : IntKind.i64.wrap ((n' : Int) + 4) = (n' : Int) + 4 := by simp [IntKind.wrap, IntKind.bits, IntKind.signed]; omega
        clear hq hk
        go_wp2_with fail
        go_quiet (fail)
        go_wp2
        go_ret3
        rw [HU.out]
        exact ⟨_, rfl, HO2.out, by first | exact below_drewN HB2.out _ | exact HB2.out.drew | exact HB2.out⟩
      · rw [if_pos (by simpa using hq)] at HU
        have heq : (((((c3 : Int) * 256 + c2) * 256 + c1) * 256 + c0) == (z : Int)) = false := by simp; omega
        clear hq
        go_wp2_with fail
        go_ret3
        rw [HU.out]
        exact ⟨_, rfl, Bytes.nil _ _, HB2.out⟩
  · rw [if_pos he] at HU
    have hb : (e == 0) = false := by simpa using he
    go_enter Try.func12, Try.ntmps12
    go_wp2_with fail
    refine HC.out.mono ?_
    rintro x w1 ⟨n', v1, rfl, hdrop, _, hn', hown1, hb1⟩
    have hs1 := hb1.size
    clear hdrop hown1 HC
    go_wp2_with fail
    go_quiet (fail)
    go_wp2
    go_ret3
    rw [HU.out]
    exact ⟨_, rfl, Bytes.nil _ _, by first | exact below_drewN (hb1.alloc hs1 _) _ | exact (hb1.alloc hs1 _).drew | exact hb1.alloc hs1 _⟩
end Go.Proofs.Ytidnhldjnbpafab
