/- The reference of the disk: where a sector stands. -/
import Derived.Test.YtpmmpdkeahmdiaaRef
namespace Go.Proofs.Ytpmmpdkeahmdiaa
open Go.RowKit
set_option maxRecDepth 100000

/-- Where the first sector with that area and number stands. -/
def AtSays (A B : Nat → Int) (a m : Int) (n : Nat) (r : Int) : Prop := (∃ i : Nat, i < n ∧ r = i ∧ A i = a ∧ B i = m ∧ ∀ j, j < i → ¬ (A j = a ∧ B j = m)) ∨ (r = -1 ∧ ∀ j, j < n → ¬ (A j = a ∧ B j = m))
set_option maxHeartbeats 4000000 in
theorem refAt_any (r : RD) (g n c : Nat) (A B : Nat → Int) (a m : Int) (w : World) (hg : g < w.heap.size) (hn : n < 1152921504606846976)
    (hA : ∀ i, i < n → w.cell? ⟨g, i * 4, none⟩ = some (.int .u64 (A i))) (hB : ∀ i, i < n → w.cell? ⟨g, i * 4 + 1, none⟩ = some (.int .i64 (B i))) :
    Calls Try.prog 63 #[rdV r (.slice (some ⟨g, 0, none⟩) n c), .int .u64 a, .int .i64 m] w fun e w' => (∃ k, e = .returned (.int .i64 k) ∧ AtSays A B a m n k) ∧ Below w.heap.size w w' := by
  obtain ⟨room, steps, left, armed, dead⟩ := r
  unfold rdV
  obtain ⟨w1, hw1⟩ : ∃ w1, w.alloc (.cells #[.int .i64 room, .int .i64 steps, .int .i64 left, .bool armed, .bool dead, .slice (some ⟨g, 0, none⟩) n c] 27) = w1 := ⟨_, rfl⟩
  have hb : Below w.heap.size w w1 := by rw [← hw1]; exact (Below.refl _ w).alloc (Nat.le_refl _) _
  have hA1 : ∀ i, i < n → w1.cell? ⟨g, i * 4, none⟩ = some (.int .u64 (A i)) := fun i hi => (hb.cell (p := ⟨g, i * 4, none⟩) hg).trans (hA i hi)
  have hB1 : ∀ i, i < n → w1.cell? ⟨g, i * 4 + 1, none⟩ = some (.int .i64 (B i)) := fun i hi => (hb.cell (p := ⟨g, i * 4 + 1, none⟩) hg).trans (hB i hi)
  have hL : w1.cell? ⟨w.heap.size, 5, none⟩ = some (.slice (some ⟨g, 0, none⟩) n c) := by subst hw1; go_simp
  have HB : Hid (Below w.heap.size w w1) := hb
  clear hA hB hb
  go_enter Try.func63, Try.ntmps63
  go_wp2
  try rw [hw1]
  clear hw1
  go_loopw [7] (fun v wr => ∃ i : Nat, v = .int .i64 i ∧ i ≤ n ∧ wr = w1 ∧ ∀ j, j < i → ¬ (A j = a ∧ B j = m)) (fun v _ => n - (intOf v).toNat)
  case atStart => exact ⟨0, rfl, Nat.zero_le _, rfl, fun j hj => by omega⟩
  case round =>
    obtain ⟨i, rfl, hi, rfl, hall⟩ := hrel
    have HAll : Hid (∀ j, j < i → ¬ (A j = a ∧ B j = m)) := hall
    clear hall
    by_cases hin : i < n
    · by_cases h1 : A i = a
      · by_cases h2 : B i = m
        · have e1 : (A i == a) = true := by simp [h1]
          have e2 : (B i == m) = true := by simp [h2]
          go_wp2
          go_ret
          exact ⟨⟨i, by simp, .inl ⟨i, hin, rfl, h1, h2, HAll.out⟩⟩, HB.out⟩
        · have e1 : (A i == a) = true := by simp [h1]
          have e2 : (B i == m) = false := by simp [h2]
          go_wp2
          go_roundw
          case rel => exact ⟨i + 1, by go_num, by omega, (by first | trivial | exact rfl), fun j hj => by
            by_cases e : j = i
            · subst e; exact fun h => h2 h.2
            · exact HAll.out j (by omega)⟩
          case measure => simp [intOf]; omega
      · have e1 : (A i == a) = false := by simp [h1]
        go_wp2
        go_roundw
        case rel => exact ⟨i + 1, by go_num, by omega, (by first | trivial | exact rfl), fun j hj => by
          by_cases e : j = i
          · subst e; exact fun h => h1 h.1
          · exact HAll.out j (by omega)⟩
        case measure => simp [intOf]; omega
    · go_wp2
      go_ret
      exact ⟨⟨-1, by simp, .inr ⟨rfl, fun j hj => HAll.out j (by omega)⟩⟩, HB.out⟩
end Go.Proofs.Ytpmmpdkeahmdiaa
