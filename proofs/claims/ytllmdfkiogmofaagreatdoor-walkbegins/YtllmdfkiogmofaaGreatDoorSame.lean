/- The reference's Same: are two rows of runes the same? -/
import Derived.Test.YtllmdfkiogmofaaGreatDoorJ16
import Derived.Deep.QuietTactic
import Derived.BigQuiet
namespace Go.Proofs.YtllmdfkiogmofaaGreatDoor
open Go.RowKit Nums
set_option maxRecDepth 100000

theorem same_of_all {xs ys : List Int} (hl : xs.length = ys.length) (h : ∀ j, j < xs.length → xs.getD j 0 = ys.getD j 0) : xs = ys := by
  refine List.ext_getElem hl (fun i h1 h2 => ?_)
  have := h i h1
  simpa [List.getD_eq_getElem?_getD, List.getElem?_eq_getElem h1, List.getElem?_eq_getElem h2] using this

set_option maxHeartbeats 2000000 in
theorem Same_any (va vb : Value) (xs ys : List Int) (w : World) (h1 : Row w va xs) (h2 : Row w vb ys) (hx : xs.length ≤ 9223372036854775807) (hy : ys.length ≤ 9223372036854775807) :
    Calls Tryz.prog 124 #[va, vb] w fun e w' => e = .returned (.bool (decide (xs = ys))) ∧ ∃ n, w' = w.drewN n := by
  obtain ⟨ao1, cap1, rfl, hc1⟩ := h1
  obtain ⟨ao2, cap2, rfl, hc2⟩ := h2
  by_cases hl : xs.length = ys.length
  · have hlb : ((xs.length : Int) != (ys.length : Int)) = false := by simp [hl]
    have HL : Hid (xs.length = ys.length) := hl
    have HC1 : Hid (0 < xs.length → ∃ b off, ao1 = some ⟨b, off, none⟩ ∧ ∀ i, i < xs.length → w.cell? ⟨b, off + i, none⟩ = some (.int .i32 (xs.getD i 0))) := hc1
    have HC2 : Hid (0 < ys.length → ∃ b off, ao2 = some ⟨b, off, none⟩ ∧ ∀ i, i < ys.length → w.cell? ⟨b, off + i, none⟩ = some (.int .i32 (ys.getD i 0))) := hc2
    clear hc1 hc2 hl
    go_enter Tryz.func124, Tryz.ntmps124
    go_wp2
    go_loopw [5] (fun i wr => ∃ k : Nat, k ≤ xs.length ∧ i = .int .i64 k ∧ (∀ j, j < k → xs.getD j 0 = ys.getD j 0) ∧ ∃ n, wr = w.drewN n) (fun i _ => xs.length - (intOf i).toNat)
    case atStart => exact ⟨0, Nat.zero_le _, rfl, fun j h => by omega, 0, rfl⟩
    case round =>
      obtain ⟨k, hk, rfl, hall, nw, rfl⟩ := hrel
      have HA : Hid (∀ j, j < k → xs.getD j 0 = ys.getD j 0) := hall
      clear hall
      by_cases hlt : k < xs.length
      · have hlt2 : k < ys.length := by have := HL.out; omega
        obtain ⟨g1, off1, rfl, hc1⟩ := HC1.out (by omega)
        obtain ⟨g2, off2, rfl, hc2⟩ := HC2.out (by omega)
        have hck1 := hc1 k hlt
        have hck2 := hc2 k hlt2
        clear hc1 hc2
        generalize hx' : xs.getD k 0 = x at *
        generalize hy' : ys.getD k 0 = y at *
        have HX : Hid (xs.getD k 0 = x) := hx'
        have HY : Hid (ys.getD k 0 = y) := hy'
        clear hx' hy'
        by_cases hxy : x = y
        · subst hxy
          have HB : Hid (∀ j, j < k + 1 → xs.getD j 0 = ys.getD j 0) := fun j h => by
            by_cases e : j = k
            · subst e; rw [HX.out, HY.out]
            · exact HA.out j (by omega)
          go_wp2
          go_quiet (fail)
          go_wp2
          go_roundw
          case rel => exact ⟨k + 1, by omega, by go_num, HB.out, _, rfl⟩
          case measure => simp [intOf]; omega
        · have hb : (x != y) = true := by simpa using hxy
          have HF : Hid (decide (xs = ys) = false) := decide_eq_false (fun e => hxy (by rw [← HX.out, ← HY.out, e]))
          clear hxy
          go_wp2
          go_quiet (fail)
          go_wp2
          go_ret
          exact ⟨by rw [HF.out]; rfl, _, by first | rfl | rw [World.drewN_drewN]⟩
      · have HF : Hid (decide (xs = ys) = true) := decide_eq_true (same_of_all HL.out (fun j hj => HA.out j (by omega)))
        go_wp2
        go_ret
        exact ⟨by rw [HF.out]; rfl, _, by first | rfl | rw [World.drewN_drewN]⟩
  · have hlb : ((xs.length : Int) != (ys.length : Int)) = true := by simpa using fun e => hl (by omega)
    have HF : Hid (decide (xs = ys) = false) := decide_eq_false (fun e => hl (by rw [e]))
    clear hc1 hc2 hl
    go_enter Tryz.func124, Tryz.ntmps124
    go_wp2
    go_ret
    exact ⟨by rw [HF.out]; rfl, 0, rfl⟩
end Go.Proofs.YtllmdfkiogmofaaGreatDoor
