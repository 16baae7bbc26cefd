/- The keys of map[uint64]map[int]disk.version, rising. -/
import Derived.Test.YtpmmpdkeahmdiaaItrLKeys
import Derived.Test.YtpmmpdkeahmdiaaSrtUItr2
import Derived.Lib.SlKeysI
namespace Go.Proofs.Ytpmmpdkeahmdiaa
open Go.RowKit Go.Shelf
set_option maxRecDepth 100000
namespace IterL

set_option maxHeartbeats 4000000 in
theorem rising_any {α : Type} {f : α → Value} {m : List (Int × α)} {bo : Option Nat} (w : World) (hm : (keys m).Nodup) (hl : m.length < 1099511627776)
    (hr : ∀ W, Below w.heap.size w W → ∃ ob, (Instr.range 75 (.map bo)).run Try.prog W = .ok (.pointer (some ⟨W.heap.size, 0, none⟩)) (W.alloc ob) ∧ Ranges .u64 f (W.alloc ob) bo W.heap.size m []) :
    Calls Try.prog 70 #[.map bo] w fun e w' => ∃ v, e = .returned v ∧ w'.ownsRow w.heap.size 35 1 v m.length ((SrtU.sorted (keys m)).map (Value.int .u64)) ∧ (v = .slice none 0 0 ↔ m = []) ∧ Below w.heap.size w w' := by
  have hB : Below w.heap.size w (w.alloc (.cells #[.map bo] 75)) := (Below.refl _ w).alloc (Nat.le_refl _) _
  have hst := keys1_stops (f := f) (m := m) (bo := bo) Fence.wide 2 trivial rfl (by omega) w.heap.size (w.alloc (.cells #[.map bo] 75)) (by simp) (by go_simp) hm (fun W hW => hr W (hB.trans (hW.mono hB.size)))
  have HC : Hid (Calls Try.prog 65 #[.func (.func 94) #[] #[.pointer (some ⟨w.heap.size, 0, none⟩)]] (w.alloc (.cells #[.map bo] 75)) fun e w' => ∃ v xs, e = .returned v ∧ xs.Perm (keys m) ∧ w'.ownsRow (w.alloc (.cells #[.map bo] 75)).heap.size 35 1 v xs.length ((SrtU.sorted xs).map (Value.int .u64)) ∧ (v = .slice none 0 0 ↔ xs = []) ∧ Below (w.alloc (.cells #[.map bo] 75)).heap.size (w.alloc (.cells #[.map bo] 75)) w') :=
    SrtU.Sorted_any 94 _ (enters_of Try.func94 (by kernel_rfl) rfl) _ hst hl (fun xs h => by rw [h.length_eq]; simp [keys])
  clear hr hst
  have HB : Hid (Below w.heap.size w (w.alloc (.cells #[.map bo] 75))) := hB
  clear hB
  go_enter Try.func70, Try.ntmps70
  go_wp2_with (first | (go_at_call 88; refine (Keys_any bo _).mono ?_; rintro e w1 ⟨rfl, rfl⟩) | (go_at_call 65; refine HC.out.mono ?_; rintro e w2 ⟨v, xs, rfl, h1, h2, h3, h4⟩))
  go_ret
  have hlen : xs.length = m.length := by rw [h1.length_eq]; simp [keys]
  have hso : SrtU.sorted xs = SrtU.sorted (keys m) := mergeSort_of_perm_i h1
  rw [hlen, hso] at h2
  refine ⟨v, rfl, ?_, ?_, HB.out.trans (h4.mono HB.out.size)⟩
  · obtain ⟨g1, g2⟩ := h2
    refine ⟨g1, g2.imp id ?_⟩
    rintro ⟨g, cap, cur, k1, k2, k3⟩
    exact ⟨g, cap, cur, k1, Nat.le_trans HB.out.size k2, k3⟩
  · rw [h3]
    constructor
    · intro hx
      subst hx
      exact List.eq_nil_of_length_eq_zero hlen.symm
    · intro hx
      subst hx
      exact List.eq_nil_of_length_eq_zero hlen
end IterL
end Go.Proofs.Ytpmmpdkeahmdiaa
