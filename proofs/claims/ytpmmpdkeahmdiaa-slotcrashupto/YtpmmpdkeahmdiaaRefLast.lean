/- The reference of the disk: what is read of a sector. -/
import Derived.Test.YtpmmpdkeahmdiaaRefAt
namespace Go.Proofs.Ytpmmpdkeahmdiaa
open Go.RowKit
set_option maxRecDepth 100000

def rsV (a m : Int) (l : Value) (sy : Bool) : Value := .agg #[.int .u64 a, .int .i64 m, l, .bool sy]
set_option maxHeartbeats 2000000 in
theorem refLast_any (a m : Int) (h n c : Nat) (sy : Bool) (v : Value) (w : World) (hh : h < w.heap.size) (hn : 0 < n) (hn2 : n < 1152921504606846976) (hs : ∃ s, v = .string s) (hc : w.cell? ⟨h, n - 1, none⟩ = some v) :
    Calls Try.prog 45 #[rsV a m (.slice (some ⟨h, 0, none⟩) n c) sy] w fun e w' => e = .returned v ∧ Below w.heap.size w w' := by
  unfold rsV
  obtain ⟨s, rfl⟩ := hs
  obtain ⟨k, hk⟩ : ∃ k, n - 1 = k := ⟨_, rfl⟩
  have hki : (n : Int) - 1 = (k : Int) := by omega
  have hkn : k < n := by omega
  rw [hk] at hc
  clear hk
  have hc1 : ∀ o, (w.alloc o).cell? ⟨h, k, none⟩ = some (.string s) := fun o => (((Below.refl w.heap.size w).alloc (Nat.le_refl _) o).cell (p := ⟨h, k, none⟩) hh).trans hc
  go_enter Try.func45, Try.ntmps45
  go_wp2
  go_ret
  exact ⟨by simp, (Below.refl _ w).alloc (Nat.le_refl _) _⟩
end Go.Proofs.Ytpmmpdkeahmdiaa
