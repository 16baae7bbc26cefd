/- The slot's sectors: number, value. -/
import Derived.Test.YtpmmpdkeahmdiaaSecT
namespace Go.Proofs.Ytpmmpdkeahmdiaa
open Go.RowKit
set_option maxRecDepth 100000

/-- The number that bytes are, the lowest first. -/
def leV : List Nat → Nat
  | [] => 0
  | c :: r => c + 256 * leV r
theorem leV_snoc (c : Nat) : ∀ l : List Nat, leV (l ++ [c]) = leV l + c * 256 ^ l.length
  | [] => by simp [leV]
  | x :: r => by
    have ih := leV_snoc c r
    simp only [List.cons_append, leV, ih, List.length_cons, Nat.pow_succ, Nat.mul_add]
    rw [Nat.add_assoc]
    congr 2
    rw [Nat.mul_comm 256, Nat.mul_assoc]
theorem leV_lt : ∀ l : List Nat, (∀ x ∈ l, x < 256) → leV l < 256 ^ l.length
  | [], _ => by simp [leV]
  | x :: r, h => by
    have ih := leV_lt r fun y hy => h y (.tail _ hy)
    have hx := h x (.head _)
    simp only [leV, List.length_cons, Nat.pow_succ]
    omega
theorem leV_take {bs : List Nat} {k : Nat} (hk : k < bs.length) : leV (bs.take (k + 1)) = leV (bs.take k) + bs.getD k 0 * 256 ^ k := by
  rw [List.take_add_one, List.getElem?_eq_getElem hk, Option.toList_some, leV_snoc, List.length_take, Nat.min_eq_left (by omega)]
  simp [List.getD_eq_getElem?_getD, List.getElem?_eq_getElem hk]
theorem or_byte {m c k : Nat} (hm : m < 256 ^ k) (hc : c < 256) (hk : k < 8) : bits .or .u64 (m : Int) (IntKind.u64.wrap ((c : Int) * 2 ^ (8 * k))) = ((m + c * 256 ^ k : Nat) : Int) := by
  have h8 : 256 ^ k * 256 ≤ 18446744073709551616 := by
    have : 256 ^ (k + 1) ≤ 256 ^ 8 := Nat.pow_le_pow_right (by decide) (by omega)
    rw [Nat.pow_succ] at this
    exact this
  have hb : c * 256 ^ k < 18446744073709551616 := by
    have : c * 256 ^ k < 256 * 256 ^ k := (Nat.mul_lt_mul_right (Nat.pos_of_ne_zero (by have := Nat.pow_pos (n := k) (show 0 < 256 by decide); omega))).2 hc
    rw [Nat.mul_comm 256] at this
    omega
  have h256 : 256 ^ k = 2 ^ (8 * k) := by rw [Nat.pow_mul]
  have hpos := Nat.pow_pos (n := k) (show 0 < 256 by decide)
  have hm64 : m < 18446744073709551616 := by omega
  have hw : IntKind.u64.wrap ((c : Int) * 2 ^ (8 * k)) = ((c * 256 ^ k : Nat) : Int) := by
    rw [two_pow8, ← Int.natCast_mul]
    generalize c * 256 ^ k = z at *
    simp [IntKind.wrap, IntKind.bits, IntKind.signed]
    omega
  rw [hw, u64_or_nat m _ hm64 hb]
  congr 1
  rw [h256, Nat.mul_comm c, Nat.add_comm, Nat.two_pow_add_eq_or_of_lt (by rw [← h256]; exact hm), Nat.or_comm]
attribute [local go_sem ↓] exec_alloc_S exec_box_S exec_load_S exec_store_S
attribute [local go_sem] verV_cells
set_option maxHeartbeats 1000000 in
theorem number_any (bs : List Nat) (w : World) (hl : bs.length = 64) (hx : ∀ x ∈ bs, x < 256) :
    Calls Try.prog 54 #[verV bs] w fun e w' => e = .returned (.int .u64 (leV (bs.take 8) : Int)) ∧ Below w.heap.size w w' := by
  obtain ⟨w2, hw2⟩ : ∃ w2, w.alloc (.cells (verC bs) 104) = w2 := ⟨_, rfl⟩
  have A2 : Hid (ArrAt 104 w2 w.heap.size bs) := hw2 ▸ ArrAt.new _ w _
  have B2 : Hid (Below w.heap.size w w2) := hw2 ▸ (Below.refl _ w).alloc (Nat.le_refl _) _
  have HW : Hid (w.alloc (.cells (verC bs) 104) = w2) := hw2
  have HX : Hid (∀ x ∈ bs, x < 256) := hx
  have HL : Hid (bs.length = 64) := hl
  clear hw2 hx hl
  go_enter Try.func54, Try.ntmps54
  go_wp2_with fail
  rw [HW.out]
  clear HW
  go_loopw [3, 8] (fun v3 v8 wr => ∃ k : Nat, v8 = .int .i64 k ∧ k ≤ 8 ∧ v3 = .int .u64 (leV (bs.take k) : Int) ∧ wr = w2) (fun _ v8 _ => 8 - (intOf v8).toNat)
  case atStart => exact ⟨0, rfl, by omega, rfl, rfl⟩
  case round =>
    obtain ⟨k, rfl, hk, rfl, rfl⟩ := hrel
    by_cases hk8 : k < 8
    · have hcell := A2.out.cell (i := k) (by have := HL.out; omega)
      obtain ⟨c, hc⟩ : ∃ c, bs.getD k 0 = c := ⟨_, rfl⟩
      have hc2 : c < 256 := by
        rw [← hc, List.getD_eq_getElem?_getD, List.getElem?_eq_getElem (by have := HL.out; omega)]
        exact HX.out _ (List.getElem_mem _)
      rw [hc] at hcell
      have hlt := A2.out.lt
      obtain ⟨m, hm⟩ : ∃ m, leV (bs.take k) = m := ⟨_, rfl⟩
      rw [hm]
      go_wp2_with fail
      have hml : m < 256 ^ k := by
        have := leV_lt (bs.take k) fun x hx => HX.out x (List.mem_of_mem_take hx)
        rw [List.length_take, Nat.min_eq_left (by have := HL.out; omega), hm] at this
        exact this
      rw [or_byte hml hc2 hk8]
      go_roundw
      case rel => exact ⟨k + 1, by go_num, by omega, by rw [leV_take (by have := HL.out; omega), hm, hc], (by first | trivial | exact rfl)⟩
      case measure => simp [intOf]; omega
    · have hk' : k = 8 := by omega
      subst hk'
      go_wp2_with fail
      go_ret
      exact ⟨rfl, B2.out⟩
set_option maxHeartbeats 1000000 in
theorem value_any (bs : List Nat) (w : World) (hl : bs.length = 64) (m : Nat) (hm : bs.getD 8 0 = m) (hm2 : m ≤ 48) :
    Calls Try.prog 55 #[verV bs] w fun e w' => e = .returned (.slice (some ⟨w.heap.size, 9, none⟩) m 55) ∧ w' = w.alloc (.cells (verC bs) 104) := by
  have A2 := ArrAt.new 104 w bs
  have hcell := A2.cell (i := 8) (by omega)
  rw [hm] at hcell
  have hlt := A2.lt
  have hin : (m : Int) < 256 := by omega
  have h9 : (9 : Int) ≤ 9 + (m : Int) := by omega
  have h64 : 9 + (m : Int) ≤ 64 := by omega
  have hal : Try.prog.arrayLen 104 = 64 := by kernel_rfl
  have h64' : 9 + (m : Int) ≤ (Try.prog.arrayLen 104 : Int) := by rw [hal]; omega
  clear hl hm A2 hal
  go_enter Try.func55, Try.ntmps55
  go_wp2_with fail
  rw [show 9 + m - 9 = m by omega]
  go_ret
  exact ⟨rfl, rfl⟩
end Go.Proofs.Ytpmmpdkeahmdiaa
