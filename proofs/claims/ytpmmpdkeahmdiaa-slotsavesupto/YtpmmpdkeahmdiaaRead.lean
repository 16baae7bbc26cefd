/- Read. -/
import Derived.Test.YtpmmpdkeahmdiaaWrite2
namespace Go.Proofs.Ytpmmpdkeahmdiaa
open Go.RowKit
set_option maxRecDepth 100000

attribute [local go_sem ↓] exec_alloc_ver exec_box_ver exec_load_ver exec_store_ver exec_copy_ver
attribute [local go_sem] verV_cells
set_option maxHeartbeats 4000000 in
theorem Read_any (N : Nat) (p : Nat) (d : DS) (fp : List Nat) (a n : Int) (w : World) (h : DiskAt N w p d fp) (hN : N < 1152921504606846976) :
    Calls Try.prog 24 #[.pointer (some ⟨p, 0, none⟩), .int .u64 a, .int .i64 n] w fun e w' => Below w.heap.size w w' ∧
      ((curOf d.secs a n = none ∧ e = .returned (.tuple #[.slice none 0 0, .bool false])) ∨ ∃ v b, curOf d.secs a n = some v ∧ v.length = 64 ∧ e = .returned (.tuple #[.slice (some ⟨b, 0, none⟩) 64 64, .bool true]) ∧ w.heap.size ≤ b ∧ w'.heap[b]? = some (.cells (verC v) 87 (0, 0))) := by
  have HD : Hid (DiskAt N w p d fp) := h
  have hc64 := h.cur_len a n
  clear h
  cases hc : curOf d.secs a n with
  | none =>
    have HC : Hid (curOf d.secs a n = none) := hc
    rw [hc] at hc64
    clear hc
    go_enter Try.func24, Try.ntmps24
    go_wp2_with fail
    refine (last_is N p d fp a n w HD.out (by omega) false zver (by rw [HC.out]; rfl) (by rw [HC.out]; rfl)).mono ?_
    rintro e w1 ⟨rfl, hb1⟩
    have hst := storeV_new w1 zver zver_len
    have HB1 : Hid (Below w.heap.size w w1) := hb1
    clear hb1
    go_wp2_with fail
    go_ret2
    exact ⟨HB1.out.alloc HB1.out.size _, .inl ⟨trivial, rfl⟩⟩
  | some v =>
    have HC : Hid (curOf d.secs a n = some v) := hc
    rw [hc] at hc64
    have hv : v.length = 64 := hc64
    clear hc hc64
    go_enter Try.func24, Try.ntmps24
    go_wp2_with fail
    refine (last_is N p d fp a n w HD.out (by omega) true v (by rw [HC.out]; rfl) (by rw [HC.out]; rfl)).mono ?_
    rintro e w1 ⟨rfl, hb1⟩
    have hst := storeV_new w1 v hv
    have HB1 : Hid (Below w.heap.size w w1) := hb1
    clear hb1
    go_wp2_with fail
    go_ret2
    exact ⟨HB1.out.alloc HB1.out.size _, .inr ⟨v, w1.heap.size, rfl, hv, rfl, HB1.out.size, alloc_new _ _⟩⟩
end Go.Proofs.Ytpmmpdkeahmdiaa
