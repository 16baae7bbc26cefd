/- Texts that were written apart, joined. -/
import Derived.Test.YtpmmpdkeahmdiaaLkAll
import Derived.Handy
import Derived.Test.YtpmmpdkeahmdiaaBase
import Derived.Deep.RegionHeld3
/- The slot's arrays: loads and stores, kept whole in the walk; lowestFirst. -/
namespace Go.Proofs.Ytpmmpdkeahmdiaa
open Go.RowKit
set_option maxRecDepth 100000

theorem sect : ArrT 104 64 := ⟨by kernel_rfl, _, Try.underlying104⟩
theorem arr8 : ArrT 134 8 := ⟨by kernel_rfl, _, Try.underlying134⟩
def loadS (P : Program) (x : Value) (w : World) : Result Value := (Instr.loadAt 104 x).run P w
def storeS (P : Program) (x y : Value) (w : World) : Result Unit := (Instr.storeAt 104 x y).run P w
def load8 (P : Program) (x : Value) (w : World) : Result Value := (Instr.loadAt 134 x).run P w
def store8 (P : Program) (x y : Value) (w : World) : Result Unit := (Instr.storeAt 134 x y).run P w
section
variable (ρ : Operand → Value) (x y : Operand) (dst : Option Tmp) (ty : TypeId) (pos : String) (af : Array Edge) (g : Option (Nat × Bool)) (w : World)
theorem exec_alloc_S : (execOp ρ ⟨dst, .alloc 104, ty, pos, af, g⟩).run Try.prog w = .ok (.value (.pointer (some ⟨w.heap.size, 0, none⟩))) (w.alloc (.cells (verC (zeros 64)) 104)) := by
  simp only [execOp, Sem.run_bind, run_alloc_arr sect, Sem.run_pure, Result.andThen]
theorem exec_box_S : (execOp ρ ⟨dst, .box 104 x, ty, pos, af, g⟩).run Try.prog w = .ok (.value (.pointer (some ⟨w.heap.size, 0, none⟩))) (w.alloc (.cells (cellsOf (ρ x)) 104)) := by
  simp only [execOp, Sem.run_bind, Instr.box, newVar, newRow]
  rfl
theorem exec_load_S : (execOp ρ ⟨dst, .load 104 x, ty, pos, af, g⟩).run Try.prog w = (loadS Try.prog (ρ x) w).andThen (fun v w' => .ok (.value v) w') := by
  simp only [execOp, Sem.run_bind, loadS, Sem.run_pure]
theorem exec_store_S : (execOp ρ ⟨dst, .store 104 x y, ty, pos, af, g⟩).run Try.prog w = (storeS Try.prog (ρ x) (ρ y) w).andThen (fun _ w' => .ok .skip w') := by
  simp only [execOp, Sem.run_bind, storeS, Sem.run_pure]
theorem exec_alloc_8 : (execOp ρ ⟨dst, .alloc 134, ty, pos, af, g⟩).run Try.prog w = .ok (.value (.pointer (some ⟨w.heap.size, 0, none⟩))) (w.alloc (.cells (verC (zeros 8)) 134)) := by
  simp only [execOp, Sem.run_bind, run_alloc_arr arr8, Sem.run_pure, Result.andThen]
theorem exec_load_8 : (execOp ρ ⟨dst, .load 134 x, ty, pos, af, g⟩).run Try.prog w = (load8 Try.prog (ρ x) w).andThen (fun v w' => .ok (.value v) w') := by
  simp only [execOp, Sem.run_bind, load8, Sem.run_pure]
theorem exec_store_8 : (execOp ρ ⟨dst, .store 134 x y, ty, pos, af, g⟩).run Try.prog w = (store8 Try.prog (ρ x) (ρ y) w).andThen (fun _ w' => .ok .skip w') := by
  simp only [execOp, Sem.run_bind, store8, Sem.run_pure]
end
theorem loadS_at {w : World} {b : Nat} {bs : List Nat} (h : ArrAt 104 w b bs) (hl : bs.length = 64) : loadS Try.prog (.pointer (some ⟨b, 0, none⟩)) w = .ok (verV bs) w := run_load_arr sect hl h
theorem storeS_at {w : World} {b : Nat} {bs vs : List Nat} (h : ArrAt 104 w b bs) (hl : bs.length = 64) (hv : vs.length = 64) : storeS Try.prog (.pointer (some ⟨b, 0, none⟩)) (verV vs) w = .ok () (setA w b 0 vs) := run_store_arr sect hl hv h
theorem load8_at {w : World} {b : Nat} {bs : List Nat} (h : ArrAt 134 w b bs) (hl : bs.length = 8) : load8 Try.prog (.pointer (some ⟨b, 0, none⟩)) w = .ok (verV bs) w := run_load_arr arr8 hl h
theorem store8_at {w : World} {b : Nat} {bs vs : List Nat} (h : ArrAt 134 w b bs) (hl : bs.length = 8) (hv : vs.length = 8) : store8 Try.prog (.pointer (some ⟨b, 0, none⟩)) (verV vs) w = .ok () (setA w b 0 vs) := run_store_arr arr8 hl hv h
/-- A result that lies in a block. -/
theorem ret_arr {t : TypeId} {n : Nat} (ht : ArrT t n) {fn : Func} {R : Ending → World → Prop} {a : Act} {w : World} {b s : Nat} {bs : List Nat} (hf : fn.results = #[.cell s t]) (hs : a.tmps[s]? = some (.pointer (some ⟨b, 0, none⟩))) (hl : bs.length = n) (h : ArrAt t w b bs) (hd : a.defers = []) (hR : R (.returned (verV bs)) w) : bodyPost Try.prog fn R .ret a w := by
  refine bodyPost_ret ?_ hd hR
  obtain ⟨i, hi, hz, hz1, hb⟩ := info_parts ht.1
  obtain ⟨e, he⟩ := ht.2
  have h2 := run_loadVar_mid (P := Try.prog) w b 0 t (bs.map bv) _ h.range he rfl (by rw [hi]; simp [hz1, hl])
  simp [results, hf, hs, asAddr]
  exact h2
theorem two_pow8 (k : Nat) : (2 : Int) ^ (8 * k) = ((256 ^ k : Nat) : Int) := by
  rw [Int.pow_mul, Int.natCast_pow]
  rfl
theorem errB_snoc : ∀ (k n : Nat), errB n (k + 1) = errB n k ++ [n / 256 ^ k % 256]
  | 0, n => by simp [errB]
  | k + 1, n => by
    have ih := errB_snoc k (n / 256)
    show n % 256 :: errB (n / 256) (k + 1) = n % 256 :: errB (n / 256) k ++ _
    rw [ih, Nat.div_div_eq_div_mul, Nat.pow_succ, Nat.mul_comm 256]
    rfl
theorem set_arr {t : TypeId} {w : World} {b k x : Nat} {bs : List Nat} (h : ArrAt t w b bs) : ArrAt t (w.setCell ⟨b, k, none⟩ (bv x)) b (bs.set k x) := by
  have := set_cell h k (bv x)
  have e : (verC bs).setIfInBounds k (bv x) = verC (bs.set k x) := by simp [verC, List.map_set]
  rw [e] at this
  exact this
attribute [local go_sem ↓] exec_alloc_8 exec_load_8 exec_store_8
set_option maxHeartbeats 1000000 in
theorem lowestFirst_any (n : Nat) (w : World) :
    Calls Try.prog 78 #[.int .u64 (n : Int)] w fun e w' => e = .returned (verV (errB n 8)) ∧ Below w.heap.size w w' := by
  obtain ⟨w2, hw2⟩ : ∃ w2, (w.alloc (.cells (verC (zeros 8)) 134)).alloc (.cells (verC (zeros 8)) 134) = w2 := ⟨_, rfl⟩
  have A2 : Hid (ArrAt 134 w2 w.heap.size (zeros 8)) := hw2 ▸ (ArrAt.new _ w _).old _
  have C2 : Hid (ArrAt 134 w2 (w.heap.size + 1) (zeros 8)) := by
    have := ArrAt.new 134 (w.alloc (.cells (verC (zeros 8)) 134)) (zeros 8)
    rw [alloc_size] at this
    exact hw2 ▸ this
  have B2 : Hid (Below w.heap.size w w2) := hw2 ▸ ((Below.refl _ w).alloc (Nat.le_refl _) _).alloc (by simp) _
  have HW : Hid ((w.alloc (.cells (verC (zeros 8)) 134)).alloc (.cells (verC (zeros 8)) 134) = w2) := hw2
  clear hw2
  go_enter Try.func78, Try.ntmps78
  go_wp2_with fail
  rw [HW.out]
  clear HW
  go_loopw [5] (fun v wr => ∃ k : Nat, v = .int .i64 k ∧ k ≤ 8 ∧ ArrAt 134 wr w.heap.size (zeros 8) ∧ ArrAt 134 wr (w.heap.size + 1) (errB n k ++ zeros (8 - k)) ∧ Below w.heap.size w wr) (fun v _ => 8 - (intOf v).toNat)
  case atStart => exact ⟨0, rfl, by omega, A2.out, C2.out, B2.out⟩
  case round =>
    clear A2 C2 B2
    obtain ⟨k, rfl, hk, hA, hC, hB⟩ := hrel
    have HA : Hid (ArrAt 134 wr w.heap.size (zeros 8)) := hA
    have HC : Hid (ArrAt 134 wr (w.heap.size + 1) (errB n k ++ zeros (8 - k))) := hC
    have HB : Hid (Below w.heap.size w wr) := hB
    have hlen : (errB n k ++ zeros (8 - k)).length = 8 := by simp [errB_len, zeros]; omega
    have hwr : w.heap.size + 1 < wr.heap.size := hC.lt
    by_cases hk8 : k < 8
    · have hcell := hC.cell (i := k) (by omega)
      have hfz := hC.frozen k
      clear hA hC hB hlen
      go_wp2_with fail
      obtain ⟨x, hx⟩ : ∃ x : Nat, n / 256 ^ k % 256 = x := ⟨_, rfl⟩
      have hX : ((n : Int) / 2 ^ (8 * k) % 256) = (x : Int) := by
        rw [← hx, two_pow8]
        rfl
      rw [hX]
      go_roundw
      case rel =>
        refine ⟨k + 1, by go_num, by omega, ?_, ?_, HB.out.setCell (by show w.heap.size ≤ w.heap.size + 1; omega) _⟩
        · exact (Below.heap_setCell _ _ _ _ (by show w.heap.size ≠ w.heap.size + 1; omega)).trans HA.out
        · have := set_arr (k := k) (x := x) HC.out
          have e : (errB n k ++ zeros (8 - k)).set k x = errB n (k + 1) ++ zeros (8 - (k + 1)) := by
            rw [errB_snoc, hx, List.set_append_right _ _ (by rw [errB_len]; exact Nat.le_refl _), errB_len, Nat.sub_self]
            obtain ⟨m, hm⟩ : ∃ m, 8 - k = m + 1 := ⟨7 - k, by omega⟩
            rw [hm, show 8 - (k + 1) = m by omega]
            simp [zeros, List.replicate_succ]
          rw [e] at this
          exact this
      case measure => simp [intOf]; omega
    · have hk' : k = 8 := by omega
      subst hk'
      simp only [Nat.sub_self, zeros, List.replicate_zero, List.append_nil] at hC
      have hld := load8_at hC (errB_len n 8)
      have hst := store8_at (vs := errB n 8) hA (by simp [zeros]) (errB_len n 8)
      have HST : Hid (ArrAt 134 (setA wr w.heap.size 0 (errB n 8)) w.heap.size (errB n 8)) := by
        have := hA.set 0 (errB n 8) (by simp [errB_len, zeros])
        rwa [over_all (by simp [errB_len, zeros])] at this
      have HBS : Hid (Below w.heap.size w (setA wr w.heap.size 0 (errB n 8))) := setA_below hB hA (Nat.le_refl _) _ _
      obtain ⟨w5, hw5⟩ : ∃ w5, setA wr w.heap.size 0 (errB n 8) = w5 := ⟨_, rfl⟩
      rw [hw5] at hst HST HBS
      clear hA hC hB hlen hw5
      go_wp2_with fail
      exact ret_arr arr8 rfl rfl (errB_len n 8) HST.out rfl ⟨rfl, HBS.out⟩
end Go.Proofs.Ytpmmpdkeahmdiaa

/- The slot's sectors: number, value. -/
namespace Go.Proofs.Ytpmmpdkeahmdiaa
open Go.RowKit
set_option maxRecDepth 100000

/-- The number that bytes are, the lowest first. -/
def leV : List Nat → Nat
  | [] => 0
  | c :: r => c + 256 * leV r
theorem leV_snoc (c : Nat) : ∀ l : List Nat, leV (l ++ [c]) = leV l + c * 256 ^ l.length
  | [] => by simp [leV]
  | x :: r => by
    have ih := leV_snoc c r
    simp only [List.cons_append, leV, ih, List.length_cons, Nat.pow_succ, Nat.mul_add]
    rw [Nat.add_assoc]
    congr 2
    rw [Nat.mul_comm 256, Nat.mul_assoc]
theorem leV_lt : ∀ l : List Nat, (∀ x ∈ l, x < 256) → leV l < 256 ^ l.length
  | [], _ => by simp [leV]
  | x :: r, h => by
    have ih := leV_lt r fun y hy => h y (.tail _ hy)
    have hx := h x (.head _)
    simp only [leV, List.length_cons, Nat.pow_succ]
    omega
theorem leV_take {bs : List Nat} {k : Nat} (hk : k < bs.length) : leV (bs.take (k + 1)) = leV (bs.take k) + bs.getD k 0 * 256 ^ k := by
  rw [List.take_add_one, List.getElem?_eq_getElem hk, Option.toList_some, leV_snoc, List.length_take, Nat.min_eq_left (by omega)]
  simp [List.getD_eq_getElem?_getD, List.getElem?_eq_getElem hk]
theorem or_byte {m c k : Nat} (hm : m < 256 ^ k) (hc : c < 256) (hk : k < 8) : bits .or .u64 (m : Int) (IntKind.u64.wrap ((c : Int) * 2 ^ (8 * k))) = ((m + c * 256 ^ k : Nat) : Int) := by
  have h8 : 256 ^ k * 256 ≤ 18446744073709551616 := by
    have : 256 ^ (k + 1) ≤ 256 ^ 8 := Nat.pow_le_pow_right (by decide) (by omega)
    rw [Nat.pow_succ] at this
    exact this
  have hb : c * 256 ^ k < 18446744073709551616 := by
    have : c * 256 ^ k < 256 * 256 ^ k := (Nat.mul_lt_mul_right (Nat.pos_of_ne_zero (by have := Nat.pow_pos (n := k) (show 0 < 256 by decide); omega))).2 hc
    rw [Nat.mul_comm 256] at this
    omega
  have h256 : 256 ^ k = 2 ^ (8 * k) := by rw [Nat.pow_mul]
  have hpos := Nat.pow_pos (n := k) (show 0 < 256 by decide)
  have hm64 : m < 18446744073709551616 := by omega
  have hw : IntKind.u64.wrap ((c : Int) * 2 ^ (8 * k)) = ((c * 256 ^ k : Nat) : Int) := by
    rw [two_pow8, ← Int.natCast_mul]
    generalize c * 256 ^ k = z at *
    simp [IntKind.wrap, IntKind.bits, IntKind.signed]
    omega
  rw [hw, u64_or_nat m _ hm64 hb]
  congr 1
  rw [h256, Nat.mul_comm c, Nat.add_comm, Nat.two_pow_add_eq_or_of_lt (by rw [← h256]; exact hm), Nat.or_comm]
attribute [local go_sem ↓] exec_alloc_S exec_box_S exec_load_S exec_store_S
attribute [local go_sem] verV_cells
set_option maxHeartbeats 1000000 in
theorem number_any (bs : List Nat) (w : World) (hl : bs.length = 64) (hx : ∀ x ∈ bs, x < 256) :
    Calls Try.prog 54 #[verV bs] w fun e w' => e = .returned (.int .u64 (leV (bs.take 8) : Int)) ∧ Below w.heap.size w w' := by
  obtain ⟨w2, hw2⟩ : ∃ w2, w.alloc (.cells (verC bs) 104) = w2 := ⟨_, rfl⟩
  have A2 : Hid (ArrAt 104 w2 w.heap.size bs) := hw2 ▸ ArrAt.new _ w _
  have B2 : Hid (Below w.heap.size w w2) := hw2 ▸ (Below.refl _ w).alloc (Nat.le_refl _) _
  have HW : Hid (w.alloc (.cells (verC bs) 104) = w2) := hw2
  have HX : Hid (∀ x ∈ bs, x < 256) := hx
  have HL : Hid (bs.length = 64) := hl
  clear hw2 hx hl
  go_enter Try.func54, Try.ntmps54
  go_wp2_with fail
  rw [HW.out]
  clear HW
  go_loopw [3, 8] (fun v3 v8 wr => ∃ k : Nat, v8 = .int .i64 k ∧ k ≤ 8 ∧ v3 = .int .u64 (leV (bs.take k) : Int) ∧ wr = w2) (fun _ v8 _ => 8 - (intOf v8).toNat)
  case atStart => exact ⟨0, rfl, by omega, rfl, rfl⟩
  case round =>
    obtain ⟨k, rfl, hk, rfl, rfl⟩ := hrel
    by_cases hk8 : k < 8
    · have hcell := A2.out.cell (i := k) (by have := HL.out; omega)
      obtain ⟨c, hc⟩ : ∃ c, bs.getD k 0 = c := ⟨_, rfl⟩
      have hc2 : c < 256 := by
        rw [← hc, List.getD_eq_getElem?_getD, List.getElem?_eq_getElem (by have := HL.out; omega)]
        exact HX.out _ (List.getElem_mem _)
      rw [hc] at hcell
      have hlt := A2.out.lt
      obtain ⟨m, hm⟩ : ∃ m, leV (bs.take k) = m := ⟨_, rfl⟩
      rw [hm]
      go_wp2_with fail
      have hml : m < 256 ^ k := by
        have := leV_lt (bs.take k) fun x hx => HX.out x (List.mem_of_mem_take hx)
        rw [List.length_take, Nat.min_eq_left (by have := HL.out; omega), hm] at this
        exact this
      rw [or_byte hml hc2 hk8]
      go_roundw
      case rel => exact ⟨k + 1, by go_num, by omega, by rw [leV_take (by have := HL.out; omega), hm, hc], (by first | trivial | exact rfl)⟩
      case measure => simp [intOf]; omega
    · have hk' : k = 8 := by omega
      subst hk'
      go_wp2_with fail
      go_ret
      exact ⟨rfl, B2.out⟩
set_option maxHeartbeats 1000000 in
theorem value_any (bs : List Nat) (w : World) (hl : bs.length = 64) (m : Nat) (hm : bs.getD 8 0 = m) (hm2 : m ≤ 48) :
    Calls Try.prog 55 #[verV bs] w fun e w' => e = .returned (.slice (some ⟨w.heap.size, 9, none⟩) m 55) ∧ w' = w.alloc (.cells (verC bs) 104) := by
  have A2 := ArrAt.new 104 w bs
  have hcell := A2.cell (i := 8) (by omega)
  rw [hm] at hcell
  have hlt := A2.lt
  have hin : (m : Int) < 256 := by omega
  have h9 : (9 : Int) ≤ 9 + (m : Int) := by omega
  have h64 : 9 + (m : Int) ≤ 64 := by omega
  have hal : Try.prog.arrayLen 104 = 64 := by kernel_rfl
  have h64' : 9 + (m : Int) ≤ (Try.prog.arrayLen 104 : Int) := by rw [hal]; omega
  clear hl hm A2 hal
  go_enter Try.func55, Try.ntmps55
  go_wp2_with fail
  rw [show 9 + m - 9 = m by omega]
  go_ret
  exact ⟨rfl, rfl⟩
end Go.Proofs.Ytpmmpdkeahmdiaa

/- codec.Sum and the reference's. -/
namespace Go.Proofs.Ytpmmpdkeahmdiaa
open Go.RowKit
set_option maxRecDepth 100000

theorem byte_at {xs : List Nat} (hx : ∀ x ∈ xs, x < 256) (k : Nat) : xs.getD k 0 < 256 := by
  rw [List.getD_eq_getElem?_getD]
  cases h : xs[k]? with
  | none => simp
  | some y => exact hx y (List.mem_of_getElem? h)
theorem shr1 (s : Nat) : (s : Int) / 2 = ((s / 2 : Nat) : Int) := by omega
theorem and1 {s : Nat} (h : s < 4294967296) : bits .and .u32 (s : Int) 1 = ((s % 2 : Nat) : Int) := by
  have := u32_and_nat s 1 h (by decide)
  rw [Nat.and_one_is_mod] at this
  exact this
theorem xorP {s : Nat} (h : s < 4294967296) : bits .xor .u32 (s : Int) 2197175160 = ((s ^^^ 2197175160 : Nat) : Int) := u32_xor_nat s 2197175160 h (by decide)
theorem notS {s : Nat} (h : s < 4294967296) : bits .xor .u32 4294967295 (s : Int) = ((4294967295 - s : Nat) : Int) := by
  have := u32_xor_nat 4294967295 s (by decide) h
  rw [turn_all h] at this
  exact this

set_option maxHeartbeats 2000000 in
theorem Sum_any (N : Nat) (v : Value) (xs : List Nat) (w : World) (hrow : Row N w v xs) (hx : ∀ x ∈ xs, x < 256) (hl : xs.length ≤ 140737488355328) :
    Calls Try.prog 79 #[v] w fun e w' => e = .returned (.int .u32 (sumOf xs : Int)) ∧ w' = w := by
  obtain ⟨ao, cap, rfl, hcap, hno, hcells⟩ := hrow
  have HC : Hid (0 < xs.length → ∃ b off, ao = some ⟨b, off, none⟩ ∧ b < N ∧ ∀ i, i < xs.length → w.cell? ⟨b, off + i, none⟩ = some (bv (xs.getD i 0))) := hcells
  have HX : Hid (∀ x ∈ xs, x < 256) := hx
  clear hcells hno hx
  go_enter Try.func79, Try.ntmps79
  go_wp2
  go_loop [3, 9] (fun vs vk => ∃ k s : Nat, k ≤ xs.length ∧ vk = .int .i64 (k : Int) ∧ vs = .int .u32 (s : Int) ∧ s < 4294967296 ∧ s = crc (xs.take k) 4294967295)
    (fun _ vk => xs.length - (intOf vk).toNat)
  case atStart => exact ⟨0, 4294967295, Nat.zero_le _, rfl, rfl, by decide, rfl⟩
  case round =>
    obtain ⟨k, s, hk, rfl, rfl, hs, heq⟩ := hrel
    have HE : Hid (s = crc (xs.take k) 4294967295) := heq
    clear heq
    by_cases hlt : k < xs.length
    · obtain ⟨b, off, rfl, _, hc⟩ := HC.out (by omega)
      have hck := hc k hlt
      have hb := byte_at HX.out k
      have HN : Hid (crc (xs.take (k + 1)) 4294967295 = byt (crc (xs.take k) 4294967295) (xs.getD k 0)) := crc_take hlt _
      clear hc
      generalize xs.getD k 0 = c at hck hb HN
      have hxor := u32_xor_nat s c hs (by omega)
      have hsc := xor_byte_lt hs hb
      have HT : Hid (byt s c = stps 8 (s ^^^ c)) := rfl
      generalize s ^^^ c = t at hxor hsc HT
      go_wp2
      go_loop [3, 17] (fun vs vj => ∃ j u : Nat, j ≤ 8 ∧ vj = .int .i64 (j : Int) ∧ vs = .int .u32 (u : Int) ∧ u < 4294967296 ∧ u = stps j t)
        (fun _ vj => 8 - (intOf vj).toNat)
      case atStart => exact ⟨0, t, Nat.zero_le _, rfl, rfl, hsc, rfl⟩
      case round =>
        obtain ⟨j, u, hj, rfl, rfl, hu, heu⟩ := hrel
        have HU : Hid (u = stps j t) := heu
        clear heu hxor
        by_cases hj8 : j < 8
        · have hand := and1 hu
          have hshr := shr1 u
          have hu2 : u / 2 < 4294967296 := by omega
          have HS : Hid (stps (j + 1) t = stp u) := by show stp (stps j t) = stp u; rw [← HU.out]
          by_cases hodd : u % 2 = 1
          · have hx2 := xorP hu2
            rw [hodd] at hand
            have HP : Hid (stp u = (u / 2) ^^^ 2197175160) := by show stp u = _; rw [stp, if_pos hodd]
            have hlt2 : (u / 2) ^^^ 2197175160 < 4294967296 := Nat.xor_lt_two_pow (n := 32) (by omega) (by decide)
            generalize hq : (u / 2) ^^^ 2197175160 = q at hx2 HP hlt2
            clear hq
            generalize hp : u / 2 = p at hshr hx2 hu2
            clear hp
            go_wp2
            go_round
            case rel => exact ⟨j + 1, q, by omega, by go_num, by go_num, hlt2, by rw [HS.out, HP.out]⟩
            case measure => simp [intOf]; omega
          · have h0 : u % 2 = 0 := by omega
            rw [h0] at hand
            have HP : Hid (stp u = u / 2) := by show stp u = _; rw [stp, if_neg hodd]
            generalize hp : u / 2 = p at hshr hu2 HP
            clear hp
            have hne : ((0 : Int) == 1) = false := rfl
            go_wp2
            go_round
            case rel => exact ⟨j + 1, p, by omega, by go_num, by go_num, by omega, by rw [HS.out, HP.out]⟩
            case measure => simp [intOf]; omega
        · obtain rfl : j = 8 := by omega
          go_wp2
          go_round
          case rel => exact ⟨k + 1, u, by omega, by go_num, rfl, hu, by rw [HN.out, ← HE.out, HT.out, HU.out]⟩
          case measure => simp [intOf]; omega
    · obtain rfl : k = xs.length := by omega
      have hnot := notS hs
      have HF : Hid ((4294967295 - s : Nat) = sumOf xs) := by have := HE.out; rw [List.take_length] at this; unfold sumOf; rw [← this]; rfl
      generalize hq : (4294967295 - s : Nat) = q at hnot HF
      clear hq
      go_wp2
      go_ret
      exact ⟨by rw [← HF.out]; simp only [← hnot]; rfl, rfl⟩
end Go.Proofs.Ytpmmpdkeahmdiaa

/- Regions that draw their order, operation by operation. -/
namespace Go.Proofs.Ytpmmpdkeahmdiaa
open Go.RowKit
set_option maxRecDepth 100000
variable {P : Program} {md : Region.Mode} {ops : Array Oper} {Q : Exit → Act → World → Prop} {S : World → Prop}

theorem region_at {id : Nat} {a : Act} {w : World} (k : Nat) (hk : ops.size = k) (hm : P.follows .mixedOrders = true) (hS : S w.drew) (h : S w.drew → wpAnyH P .any ops Q S k (Array.replicate k false) a w.drew) : (Code.region id ops true).wp P Q a w := by
  subst hk; exact wp_region_held_drew hm hS h
theorem take_at {i : Nat} {oi : Oper} {v : Value} {fuel : Nat} {listed : Array Bool} {tmps : Array Value} {df : List Deferred} {w : World} (t : Tmp) (hi : ops[i]? = some oi) (hd : oi.dst = some t)
    (hs : Region.noSelect ops = true) (hf : Region.free md ops listed i = true) (hr : (Region.ready md ops listed).contains i = true)
    (hQ : ∀ c a w, Q (.panic c) (a.put oi.dst v) w → Q (.panic c) a w) (hw : Region.wanted oi (yielded ops tmps) = true) (hy : ∀ w, S w → (execOp (Act.eval { tmps := tmps, defers := df }) oi).run P w = .ok (.value v) w) (hS : S w)
    (h : wpAnyH P md ops Q S fuel (listed.setIfInBounds i true) { tmps := tmps.setIfInBounds t v, defers := df } w) : wpAnyH P md ops Q S (fuel + 1) listed { tmps := tmps, defers := df } w := by
  refine wpAnyH_take hi hs hf hr hQ (.inl ⟨hw, hy⟩) hS ?_
  rw [hd]; exact h
/-- One operation that may come up alone, and gives a value. -/
theorem one_value {i : Nat} {o : Oper} {fuel : Nat} {listed : Array Bool} {tmps : Array Value} {df : List Deferred} {w w' : World} {v : Value} (t : Tmp) (hr : Region.ready md ops listed = [i]) (ho : ops[i]? = some o) (hd : o.dst = some t) (hw : Region.wanted o (yielded ops tmps) = true)
    (hrun : (execOp (Act.eval { tmps := tmps, defers := df }) o).run P w = .ok (.value v) w') (hS : S w') (h : S w' → wpAnyH P md ops Q S fuel (listed.setIfInBounds i true) { tmps := tmps.setIfInBounds t v, defers := df } w') : wpAnyH P md ops Q S (fuel + 1) listed { tmps := tmps, defers := df } w := by
  refine wpAnyH_ready hr (by simp) (AllReadyH.cons ho (fun K hK => ?_) AllReadyH.nil)
  rw [if_pos hw]
  unfold Oper.wp
  rw [hrun, Oper.upon_value, hd]
  exact hK.out _ _ hS h
/-- One of two, each of which gives a value. -/
theorem two_value {i j : Nat} {o o' : Oper} {fuel : Nat} {listed : Array Bool} {tmps : Array Value} {df : List Deferred} {w w1 w2 : World} {v v' : Value} (t t' : Tmp) (hr : Region.ready md ops listed = [i, j]) (ho : ops[i]? = some o) (ho' : ops[j]? = some o') (hd : o.dst = some t) (hd' : o'.dst = some t') (hw : Region.wanted o (yielded ops tmps) = true) (hw' : Region.wanted o' (yielded ops tmps) = true)
    (hrun : (execOp (Act.eval { tmps := tmps, defers := df }) o).run P w = .ok (.value v) w1) (hS : S w1) (h : S w1 → wpAnyH P md ops Q S fuel (listed.setIfInBounds i true) { tmps := tmps.setIfInBounds t v, defers := df } w1)
    (hrun' : (execOp (Act.eval { tmps := tmps, defers := df }) o').run P w = .ok (.value v') w2) (hS' : S w2) (h' : S w2 → wpAnyH P md ops Q S fuel (listed.setIfInBounds j true) { tmps := tmps.setIfInBounds t' v', defers := df } w2) : wpAnyH P md ops Q S (fuel + 1) listed { tmps := tmps, defers := df } w := by
  refine wpAnyH_ready hr (by simp) (AllReadyH.cons ho (fun K hK => ?_) (AllReadyH.cons ho' (fun K hK => ?_) AllReadyH.nil))
  · rw [if_pos hw]
    unfold Oper.wp
    rw [hrun, Oper.upon_value, hd]
    exact hK.out _ _ hS h
  · rw [if_pos hw']
    unfold Oper.wp
    rw [hrun', Oper.upon_value, hd']
    exact hK.out _ _ hS' h'
/-- One operation that may come up alone, whatever it does. -/
theorem one_at {i : Nat} {o : Oper} {fuel : Nat} {listed : Array Bool} {tmps : Array Value} {df : List Deferred} {w : World} (t : Tmp) (hr : Region.ready md ops listed = [i]) (ho : ops[i]? = some o) (hd : o.dst = some t) (hw : Region.wanted o (yielded ops tmps) = true)
    (h : ∀ K : Act → World → Prop, (∀ v w', S w' → (S w' → wpAnyH P md ops Q S fuel (listed.setIfInBounds i true) { tmps := tmps.setIfInBounds t v, defers := df } w') → K (Act.put { tmps := tmps, defers := df } o.dst v) w') → o.wp P { tmps := tmps, defers := df } w K Q) : wpAnyH P md ops Q S (fuel + 1) listed { tmps := tmps, defers := df } w := by
  refine wpAnyH_ready hr (by simp) (AllReadyH.cons ho (fun K hK => ?_) AllReadyH.nil)
  rw [if_pos hw]
  refine h K fun v w' hS h => ?_
  rw [hd]
  exact hK.out _ _ hS h
theorem triv_facts {w : World} (_ : (fun _ : World => True) w) : True := trivial
/-- One of two, whatever they do. -/
theorem two_at {i j : Nat} {o o' : Oper} {fuel : Nat} {listed : Array Bool} {tmps : Array Value} {df : List Deferred} {w : World} (t t' : Tmp) (hr : Region.ready md ops listed = [i, j]) (ho : ops[i]? = some o) (ho' : ops[j]? = some o') (hd : o.dst = some t) (hd' : o'.dst = some t') (hw : Region.wanted o (yielded ops tmps) = true) (hw' : Region.wanted o' (yielded ops tmps) = true)
    (h : ∀ K : Act → World → Prop, (∀ v w', S w' → (S w' → wpAnyH P md ops Q S fuel (listed.setIfInBounds i true) { tmps := tmps.setIfInBounds t v, defers := df } w') → K (Act.put { tmps := tmps, defers := df } o.dst v) w') → o.wp P { tmps := tmps, defers := df } w K Q)
    (h' : ∀ K : Act → World → Prop, (∀ v w', S w' → (S w' → wpAnyH P md ops Q S fuel (listed.setIfInBounds j true) { tmps := tmps.setIfInBounds t' v, defers := df } w') → K (Act.put { tmps := tmps, defers := df } o'.dst v) w') → o'.wp P { tmps := tmps, defers := df } w K Q) : wpAnyH P md ops Q S (fuel + 1) listed { tmps := tmps, defers := df } w := by
  refine wpAnyH_ready hr (by simp) (AllReadyH.cons ho (fun K hK => ?_) (AllReadyH.cons ho' (fun K hK => ?_) AllReadyH.nil))
  · rw [if_pos hw]
    refine h K fun v w' hS h => ?_
    rw [hd]
    exact hK.out _ _ hS h
  · rw [if_pos hw']
    refine h' K fun v w' hS h => ?_
    rw [hd']
    exact hK.out _ _ hS h
/-- One operation without a value. -/
theorem one_skip {i : Nat} {o : Oper} {fuel : Nat} {listed : Array Bool} {tmps : Array Value} {df : List Deferred} {w w' : World} (hr : Region.ready md ops listed = [i]) (ho : ops[i]? = some o) (hd : o.dst = none) (hw : Region.wanted o (yielded ops tmps) = true)
    (hrun : (execOp (Act.eval { tmps := tmps, defers := df }) o).run P w = .ok .skip w') (hS : S w') (h : S w' → wpAnyH P md ops Q S fuel (listed.setIfInBounds i true) { tmps := tmps, defers := df } w') : wpAnyH P md ops Q S (fuel + 1) listed { tmps := tmps, defers := df } w := by
  refine wpAnyH_ready hr (by simp) (AllReadyH.cons ho (fun K hK => ?_) AllReadyH.nil)
  rw [if_pos hw]
  unfold Oper.wp
  rw [hrun, Oper.upon_skip, hd]
  exact hK.out _ _ hS h
theorem wp_val {o : Oper} {a : Act} {w w' : World} {v : Value} {K : Act → World → Prop} (hrun : (execOp a.eval o).run P w = .ok (.value v) w') (h : K (a.put o.dst v) w') : o.wp P a w K Q := by
  unfold Oper.wp
  rw [hrun]
  exact h
theorem wp_enter {o : Oper} {a : Act} {w w0 : World} {K : Act → World → Prop} (f : FuncId) (args : Array Value) (hrun : (execOp a.eval o).run P w = .ok (.enter f args) w0) (h : Calls P f args w0 fun e w' => ∃ v, e = .returned v ∧ K (a.put o.dst v) w') : o.wp P a w K Q := by
  unfold Oper.wp
  rw [hrun, Oper.upon_enter]
  refine h.mono ?_
  rintro e w' ⟨v, rfl, h2⟩
  exact h2
/-- One call of a function. -/
theorem one_call {i : Nat} {o : Oper} {fuel : Nat} {listed : Array Bool} {tmps : Array Value} {df : List Deferred} {w w0 : World} (t : Tmp) (f : FuncId) (args : Array Value) (hr : Region.ready md ops listed = [i]) (ho : ops[i]? = some o) (hd : o.dst = some t) (hw : Region.wanted o (yielded ops tmps) = true)
    (hrun : (execOp (Act.eval { tmps := tmps, defers := df }) o).run P w = .ok (.enter f args) w0)
    (h : Calls P f args w0 fun e w' => ∃ v, e = .returned v ∧ S w' ∧ (S w' → wpAnyH P md ops Q S fuel (listed.setIfInBounds i true) { tmps := tmps.setIfInBounds t v, defers := df } w')) : wpAnyH P md ops Q S (fuel + 1) listed { tmps := tmps, defers := df } w := by
  refine one_at t hr ho hd hw fun K hK => ?_
  unfold Oper.wp
  rw [hrun, Oper.upon_enter]
  refine h.mono ?_
  rintro e w' ⟨v, rfl, hS, h2⟩
  exact hK v w' hS h2
theorem exec_lookup (ρ : Operand → Value) (x y : Operand) (c : Bool) (t : TypeId) (dst : Option Tmp) (ty : TypeId) (pos : String) (af : Array Edge) (g : Option (Nat × Bool)) (w : World) :
    (execOp ρ ⟨dst, .lookup t x y c, ty, pos, af, g⟩).run P w = ((Instr.lookup t (ρ x) (ρ y) c).run P w).andThen (fun v w' => .ok (.value v) w') := by
  simp only [execOp, Sem.run_bind, Sem.run_pure]
end Go.Proofs.Ytpmmpdkeahmdiaa

/- The slot's sectors: lay. -/
namespace Go.Proofs.Ytpmmpdkeahmdiaa
open Go.RowKit
set_option maxRecDepth 100000

/-- A sector ahead of its sum. -/
def front60 (n : Nat) (xs : List Nat) : List Nat := errB n 8 ++ (xs.length :: (xs ++ zeros (51 - xs.length)))
/-- A sector. -/
def laySec (n : Nat) (xs : List Nat) : List Nat := front60 n xs ++ errB (sumOf (front60 n xs)) 4
theorem front_len {n : Nat} {xs : List Nat} (h : xs.length ≤ 48) : (front60 n xs).length = 60 := by simp [front60, errB_len, zeros]; omega
theorem lay_len {n : Nat} {xs : List Nat} (h : xs.length ≤ 48) : (laySec n xs).length = 64 := by rw [laySec, List.length_append, front_len h, errB_len]
theorem errB_byte (m : Nat) : ∀ n, ∀ x ∈ errB n m, x < 256 := by
  induction m with
  | zero => intro n x hx; cases hx
  | succ m ih =>
    intro n x hx
    rcases List.mem_cons.1 hx with rfl | hx
    · exact Nat.mod_lt _ (by decide)
    · exact ih _ x hx
theorem zeros_byte (m : Nat) : ∀ x ∈ zeros m, x < 256 := fun x hx => by rw [(List.mem_replicate.1 hx).2]; decide
theorem front_byte {n : Nat} {xs : List Nat} (h : xs.length ≤ 48) (hx : ∀ x ∈ xs, x < 256) : ∀ x ∈ front60 n xs, x < 256 := by
  intro x hm
  rcases List.mem_append.1 hm with hm | hm
  · exact errB_byte 8 n x hm
  · rcases List.mem_cons.1 hm with rfl | hm
    · omega
    · rcases List.mem_append.1 hm with hm | hm
      · exact hx x hm
      · exact zeros_byte _ x hm
theorem lay_byte {n : Nat} {xs : List Nat} (h : xs.length ≤ 48) (hx : ∀ x ∈ xs, x < 256) : ∀ x ∈ laySec n xs, x < 256 := by
  intro x hm
  rcases List.mem_append.1 hm with hm | hm
  · exact front_byte h hx x hm
  · exact errB_byte 4 _ x hm
theorem lay1 {E : List Nat} (h : E.length = 8) : over (zeros 64) 0 E = E ++ zeros 56 := by
  simp [over, zeros, h]
theorem lay2 {E : List Nat} (h : E.length = 8) (m : Nat) : (E ++ zeros 56).set 8 m = E ++ (m :: zeros 55) := by
  rw [List.set_append_right _ _ (by omega), h, Nat.sub_self]
  rfl
theorem lay3 {E xs : List Nat} (h : E.length = 8) (m : Nat) (hx : xs.length ≤ 48) : over (E ++ (m :: zeros 55)) 9 xs = E ++ (m :: (xs ++ zeros (51 - xs.length))) ++ zeros 4 := by
  have e1 : E ++ (m :: zeros 55) = (E ++ [m]) ++ zeros 55 := by simp
  have h9 : (E ++ [m]).length = 9 := by simp [h]
  unfold over
  rw [e1, List.take_left' h9, show 9 + xs.length = (E ++ [m]).length + xs.length by rw [h9], List.drop_append]
  have e2 : (zeros 55).drop xs.length = zeros (51 - xs.length) ++ zeros 4 := by
    rw [zeros, List.drop_replicate, show 55 - xs.length = (51 - xs.length) + 4 by omega, ← List.replicate_append_replicate]
    rfl
  rw [List.drop_eq_nil_of_le (by omega), Nat.add_sub_cancel_left, e2]
  simp
theorem lay4 {A S : List Nat} (h : A.length = 60) (hs : S.length = 4) : over (A ++ zeros 4) 60 S = A ++ S := by
  unfold over
  rw [List.take_left' h, hs, List.drop_eq_nil_of_le (by simp [h, zeros]), List.append_nil]
theorem errB_take (s : Nat) : (errB s 8).take 4 = errB s 4 := by simp [errB]
theorem triv_in (h : True) : True := h
attribute [local go_sem ↓] exec_alloc_S exec_box_S exec_load_S exec_store_S exec_alloc_8 exec_load_8 exec_store_8 exec_copy_ver
attribute [local go_sem] verV_cells
set_option maxHeartbeats 1000000 in
theorem lay_any (N : Nat) (n : Nat) (v : Value) (xs : List Nat) (w : World) (hr : Row N w v xs) (hN : N ≤ w.heap.size) (hx : ∀ x ∈ xs, x < 256) (hl : xs.length ≤ 48) :
    Calls Try.prog 56 #[.int .u64 (n : Int), v] w fun e w' => e = .returned (verV (laySec n xs)) ∧ Below w.heap.size w w' := by
  obtain ⟨ao, cap, rfl, hcap⟩ := hr.shape
  have HR : Hid (Row N w (.slice ao xs.length cap) xs) := hr
  have HX : Hid (∀ x ∈ xs, x < 256) := hx
  obtain ⟨w2, hw2⟩ : ∃ w2, (w.alloc (.cells (verC (zeros 64)) 104)).alloc (.cells (verC (zeros 64)) 104) = w2 := ⟨_, rfl⟩
  have A2 : Hid (ArrAt 104 w2 w.heap.size (zeros 64)) := hw2 ▸ (ArrAt.new _ w _).old _
  have C2 : Hid (ArrAt 104 w2 (w.heap.size + 1) (zeros 64)) := by
    have := ArrAt.new 104 (w.alloc (.cells (verC (zeros 64)) 104)) (zeros 64)
    rw [alloc_size] at this
    exact hw2 ▸ this
  have B2 : Hid (Below w.heap.size w w2) := hw2 ▸ ((Below.refl _ w).alloc (Nat.le_refl _) _).alloc (by simp) _
  have HW : Hid ((w.alloc (.cells (verC (zeros 64)) 104)).alloc (.cells (verC (zeros 64)) 104) = w2) := hw2
  have hs2 := C2.out.lt
  clear hw2 hr hx
  go_enter Try.func56, Try.ntmps56
  go_wp2_with fail
  rw [HW.out]
  clear HW
  refine (lowestFirst_any n w2).mono ?_
  rintro e w3 ⟨rfl, hb3⟩
  obtain ⟨E, hE⟩ : ∃ E, errB n 8 = E := ⟨_, rfl⟩
  have hEl : E.length = 8 := by rw [← hE, errB_len]
  have HE : Hid (errB n 8 = E) := hE
  rw [hE]
  have A3 := A2.out.below A2.out.lt hb3
  have C3 := C2.out.below C2.out.lt hb3
  have F3 := ArrAt.new 134 w3 (zeros 8)
  have hst := store8_at (vs := E) F3 (by simp [zeros]) hEl
  obtain ⟨w4, hw4⟩ : ∃ w4, setA (w3.alloc (.cells (verC (zeros 8)) 134)) w3.heap.size 0 E = w4 := ⟨_, rfl⟩
  rw [hw4] at hst
  have o4 := setA_one F3 0 E
  rw [hw4] at o4
  have hs3 := hb3.size
  have F4 : Hid (ArrAt 134 w4 w3.heap.size E) := by
    have := F3.set 0 E (by simp [zeros, hEl])
    rw [over_all (by simp [zeros, hEl]), hw4] at this
    exact this
  have A4 : Hid (ArrAt 104 w4 w.heap.size (zeros 64)) := (o4.block _ (by omega)).trans (A3.old _)
  have C4 : Hid (ArrAt 104 w4 (w.heap.size + 1) (zeros 64)) := (o4.block _ (by omega)).trans (C3.old _)
  have B4 : Hid (Below w.heap.size w w4) := by
    rw [← hw4]
    exact setA_below ((B2.out.trans (hb3.mono B2.out.size)).alloc (by omega) _) F3 (by omega) _ _
  have hs4 : w4.heap.size = w3.heap.size + 1 := by rw [o4.size]; simp
  clear hb3 hE A3 C3 F3 hw4 o4 A2 C2 B2
  go_wp2_with fail
  clear hst
  -- the first copy
  have hw5 : ∀ ty, copyV Try.prog (.slice (some ⟨w.heap.size + 1, 0, none⟩) 8 64) (.slice (some ⟨w3.heap.size, 0, none⟩) 8 8) ty w4.drew = .ok (.int .i64 (E.length : Int)) (setA w4.drew (w.heap.size + 1) 0 E) := fun ty => by
    have := copyV_at (N := w4.heap.size) (cap := 64) (n := 8) (k := 0) ty (show ArrAt 104 w4.drew (w.heap.size + 1) (zeros 64) from C4.out) (show Row w4.heap.size w4.drew (.slice (some ⟨w3.heap.size, 0, none⟩) 8 8) E from by
      have h := (show ArrAt 134 w4.drew w3.heap.size E from F4.out).row 0 8 8 (by omega) (by omega) (N := w4.heap.size) (by omega)
      rwa [List.drop_zero, List.take_of_length_le (by omega)] at h) (by simp [zeros])
    rwa [List.take_of_length_le (by omega)] at this
  refine region_at (S := fun _ => True) 3 rfl (by kernel_rfl) trivial (fun hHeld => ?_)
  refine take_at (i := 0) 10 rfl rfl (by kernel_rfl) (by kernel_rfl) (by kernel_rfl) (fun _ _ _ h => h) (by rfl) (fun w hSw => by (have hSw2 := triv_in hSw; clear hSw; go_simp; first | done | exact rfl)) (by assumption) ?_
  simp only [List.setIfInBounds_toArray, List.set_cons_zero, List.set_cons_succ]
  refine take_at (i := 1) 11 rfl rfl (by kernel_rfl) (by kernel_rfl) (by kernel_rfl) (fun _ _ _ h => h) (by rfl) (fun w hSw => by (have hSw2 := triv_in hSw; clear hSw; go_simp; first | done | exact rfl)) (by assumption) ?_
  simp only [List.setIfInBounds_toArray, List.set_cons_zero, List.set_cons_succ]
  refine one_value (i := 2) (v := .int .i64 (E.length : Int)) (w' := setA w4.drew (w.heap.size + 1) 0 E) 12 (by kernel_rfl) rfl rfl (by rfl) ?_ trivial (fun _ => ?_)
  · refine (exec_copy_ver _ (.tmp 10) (.tmp 11) _ _ _ _ _ _).trans ?_
    show Result.andThen (copyV Try.prog (.slice (some ⟨w.heap.size + 1, 0, none⟩) 8 64) (.slice (some ⟨w3.heap.size, 0, none⟩) 8 8) _ w4.drew) _ = _
    rw [hw5]
    rfl
  simp only [List.setIfInBounds_toArray, List.set_cons_zero, List.set_cons_succ]
  refine wpAnyH_done (by kernel_rfl) ?_ _
  have C4d : ArrAt 104 w4.drew (w.heap.size + 1) (zeros 64) := C4.out
  have o5 := setA_one C4d 0 E
  have C5 := C4d.set 0 E (by simp [zeros, hEl])
  rw [lay1 hEl] at C5
  obtain ⟨w5, hw5e⟩ : ∃ w5, setA w4.drew (w.heap.size + 1) 0 E = w5 := ⟨_, rfl⟩
  have B5 : Hid (Below w.heap.size w w5) := hw5e ▸ setA_below B4.out.drew C4d (by omega) _ _
  rw [hw5e] at o5 C5
  rw [hw5e]
  have A5 : Hid (ArrAt 104 w5 w.heap.size (zeros 64)) := (o5.block _ (by omega)).trans A4.out
  -- the size
  have C6 := set_arr (k := 8) (x := xs.length) C5
  rw [lay2 hEl] at C6
  have R6 : Row N (w5.setCell ⟨w.heap.size + 1, 8, none⟩ (bv xs.length)) (.slice ao xs.length cap) xs := HR.out.below ((B5.out.mono hN).setCell (by show N ≤ w.heap.size + 1; omega) _)
  have c8 := C5.cell (i := 8) (by simp [hEl, zeros])
  have z8 := C5.frozen 8
  have hsz5 : w.heap.size + 1 < w5.heap.size := C5.lt
  have hcp : ∀ ty, copyV Try.prog (.slice (some ⟨w.heap.size + 1, 9, none⟩) 51 55) (.slice ao xs.length cap) ty (w5.setCell ⟨w.heap.size + 1, 8, none⟩ (bv xs.length)) = .ok (.int .i64 (xs.length : Int)) (setA (w5.setCell ⟨w.heap.size + 1, 8, none⟩ (bv xs.length)) (w.heap.size + 1) 9 xs) := fun ty => by
    have := copyV_at (cap := 55) (n := 51) (k := 9) ty C6 R6 (by simp [hEl, zeros])
    rwa [List.take_of_length_le (by omega)] at this
  have C7 := C6.set 9 xs (by simp [hEl, zeros]; omega)
  rw [lay3 hEl _ hl] at C7
  have o7 := setA_one C6 9 xs
  have B6 : Below w.heap.size w (w5.setCell ⟨w.heap.size + 1, 8, none⟩ (bv xs.length)) := B5.out.setCell (by show w.heap.size ≤ w.heap.size + 1; omega) _
  obtain ⟨w7, hw7⟩ : ∃ w7, setA (w5.setCell ⟨w.heap.size + 1, 8, none⟩ (bv xs.length)) (w.heap.size + 1) 9 xs = w7 := ⟨_, rfl⟩
  have B7 : Hid (Below w.heap.size w w7) := hw7 ▸ setA_below B6 C6 (by omega) _ _
  rw [hw7] at o7 C7
  simp only [hw7] at hcp
  have A7 : Hid (ArrAt 104 w7 w.heap.size (zeros 64)) := (o7.block _ (by omega)).trans ((Below.heap_setCell _ _ _ _ (by show w.heap.size ≠ w.heap.size + 1; omega)).trans A5.out)
  have hF : E ++ (xs.length :: (xs ++ zeros (51 - xs.length))) = front60 n xs := by rw [← HE.out]; rfl
  rw [hF] at C7
  obtain ⟨FR, hFR⟩ : ∃ FR, front60 n xs = FR := ⟨_, rfl⟩
  have hFRl : FR.length = 60 := by rw [← hFR]; exact front_len hl
  have HFR : Hid (front60 n xs = FR) := hFR
  have HFB : Hid (∀ x ∈ FR, x < 256) := by rw [← hFR]; exact front_byte hl HX.out
  rw [hFR] at C7
  have C7H : Hid (ArrAt 104 w7 (w.heap.size + 1) (FR ++ zeros 4)) := C7
  have hxl : (xs.length : Int) < 256 := by omega
  clear hw5 C4d o5 C5 hw5e C6 R6 C7 o7 B6 hw7 hF hFR A4 C4 B4 F4 hs4 hs3 hs2 hHeld
  go_wp2_with fail
  have hrow7 : Row w7.heap.size w7 (.slice (some ⟨w.heap.size + 1, 0, none⟩) 60 64) FR := by
    have h := C7H.out.row 0 60 64 (by simp [hFRl, zeros]) (by omega) C7H.out.lt
    rwa [List.drop_zero, List.take_left' hFRl] at h
  refine (Sum_any w7.heap.size _ FR w7 hrow7 HFB.out (by omega)).mono ?_
  rintro e w7' ⟨rfl, rfl⟩
  obtain ⟨sm, hsm⟩ : ∃ sm, sumOf FR = sm := ⟨_, rfl⟩
  have hsml : (sm : Int) < 4294967296 := by have := sumOf_lt (xs := FR); omega
  have HSM : Hid (sumOf FR = sm) := hsm
  rw [hsm]
  have hs7 := C7H.out.lt
  clear hrow7 hsm hcp c8 z8
  go_wp2_with fail
  refine (lowestFirst_any sm w7').mono ?_
  rintro e w8 ⟨rfl, hb8⟩
  obtain ⟨G, hG⟩ : ∃ G, errB sm 8 = G := ⟨_, rfl⟩
  have hGl : G.length = 8 := by rw [← hG, errB_len]
  have HG : Hid (G.take 4 = errB sm 4) := by show _ = _; rw [← hG]; exact errB_take sm
  rw [hG]
  have A8 := A7.out.below A7.out.lt hb8
  have C8 := C7H.out.below C7H.out.lt hb8
  have F8 := ArrAt.new 134 w8 (zeros 8)
  have hst := store8_at (vs := G) F8 (by simp [zeros]) hGl
  obtain ⟨w9, hw9⟩ : ∃ w9, setA (w8.alloc (.cells (verC (zeros 8)) 134)) w8.heap.size 0 G = w9 := ⟨_, rfl⟩
  rw [hw9] at hst
  have o9 := setA_one F8 0 G
  rw [hw9] at o9
  have hs8 := hb8.size
  have F9 : Hid (ArrAt 134 w9 w8.heap.size G) := by
    have := F8.set 0 G (by simp [zeros, hGl])
    rw [over_all (by simp [zeros, hGl]), hw9] at this
    exact this
  have A9 : Hid (ArrAt 104 w9 w.heap.size (zeros 64)) := (o9.block _ (by omega)).trans (A8.old _)
  have C9 : Hid (ArrAt 104 w9 (w.heap.size + 1) (FR ++ zeros 4)) := (o9.block _ (by omega)).trans (C8.old _)
  have B9 : Hid (Below w.heap.size w w9) := by
    rw [← hw9]
    exact setA_below ((B7.out.trans (hb8.mono B7.out.size)).alloc (by omega) _) F8 (by omega) _ _
  have hs9 : w9.heap.size = w8.heap.size + 1 := by rw [o9.size]; simp
  clear hb8 hG A8 C8 F8 hw9 o9 A7 C7H B7 A5 B5
  go_wp2_with fail
  clear hst
  have hw10 : ∀ ty, copyV Try.prog (.slice (some ⟨w.heap.size + 1, 60, none⟩) 4 4) (.slice (some ⟨w8.heap.size, 0, none⟩) 8 8) ty w9.drew = .ok (.int .i64 4) (setA w9.drew (w.heap.size + 1) 60 (G.take 4)) := fun ty => by
    have := copyV_at (N := w9.heap.size) (cap := 4) (n := 4) (k := 60) ty (show ArrAt 104 w9.drew (w.heap.size + 1) (FR ++ zeros 4) from C9.out) (show Row w9.heap.size w9.drew (.slice (some ⟨w8.heap.size, 0, none⟩) 8 8) G from by
      have h := (show ArrAt 134 w9.drew w8.heap.size G from F9.out).row 0 8 8 (by omega) (by omega) (N := w9.heap.size) (by omega)
      rwa [List.drop_zero, List.take_of_length_le (by omega)] at h) (by simp [zeros, hFRl])
    rwa [show ((G.take 4).length : Int) = 4 by simp [hGl]] at this
  refine region_at (S := fun _ => True) 3 rfl (by kernel_rfl) trivial (fun hHeld => ?_)
  refine take_at (i := 0) 24 rfl rfl (by kernel_rfl) (by kernel_rfl) (by kernel_rfl) (fun _ _ _ h => h) (by rfl) (fun w hSw => by (have hSw2 := triv_in hSw; clear hSw; go_simp; first | done | exact rfl)) (by assumption) ?_
  simp only [List.setIfInBounds_toArray, List.set_cons_zero, List.set_cons_succ]
  refine take_at (i := 1) 25 rfl rfl (by kernel_rfl) (by kernel_rfl) (by kernel_rfl) (fun _ _ _ h => h) (by rfl) (fun w hSw => by (have hSw2 := triv_in hSw; clear hSw; go_simp; first | done | exact rfl)) (by assumption) ?_
  simp only [List.setIfInBounds_toArray, List.set_cons_zero, List.set_cons_succ]
  refine one_value (i := 2) (v := .int .i64 4) (w' := setA w9.drew (w.heap.size + 1) 60 (G.take 4)) 26 (by kernel_rfl) rfl rfl (by rfl) ?_ trivial (fun _ => ?_)
  · refine (exec_copy_ver _ (.tmp 24) (.tmp 25) _ _ _ _ _ _).trans ?_
    show Result.andThen (copyV Try.prog (.slice (some ⟨w.heap.size + 1, 60, none⟩) 4 4) (.slice (some ⟨w8.heap.size, 0, none⟩) 8 8) _ w9.drew) _ = _
    rw [hw10]
    rfl
  simp only [List.setIfInBounds_toArray, List.set_cons_zero, List.set_cons_succ]
  refine wpAnyH_done (by kernel_rfl) ?_ _
  have C9d : ArrAt 104 w9.drew (w.heap.size + 1) (FR ++ zeros 4) := C9.out
  have oq := setA_one C9d 60 (G.take 4)
  have Cq := C9d.set 60 (G.take 4) (by simp [zeros, hGl, hFRl])
  have hres : FR ++ errB sm 4 = laySec n xs := by rw [laySec, HFR.out, HSM.out]
  obtain ⟨wq, hwq⟩ : ∃ wq, setA w9.drew (w.heap.size + 1) 60 (G.take 4) = wq := ⟨_, rfl⟩
  have Bq : Below w.heap.size w wq := hwq ▸ setA_below B9.out.drew C9d (by omega) _ _
  rw [hwq] at oq Cq
  rw [lay4 hFRl (by simp [hGl]), HG.out, hres] at Cq
  rw [hwq]
  have Aq : ArrAt 104 wq w.heap.size (zeros 64) := (oq.block _ (by omega)).trans A9.out
  have hll := lay_len (n := n) hl
  have hld := loadS_at Cq hll
  have hst := storeS_at (vs := laySec n xs) Aq (by simp [zeros]) hll
  have HST : Hid (ArrAt 104 (setA wq w.heap.size 0 (laySec n xs)) w.heap.size (laySec n xs)) := by
    have := Aq.set 0 (laySec n xs) (by simp [zeros, hll])
    rwa [over_all (by simp [zeros, hll])] at this
  have HBS : Hid (Below w.heap.size w (setA wq w.heap.size 0 (laySec n xs))) := setA_below Bq Aq (Nat.le_refl _) _ _
  obtain ⟨wz, hwz⟩ : ∃ wz, setA wq w.heap.size 0 (laySec n xs) = wz := ⟨_, rfl⟩
  rw [hwz] at hst HST HBS
  have HLL : Hid ((laySec n xs).length = 64) := hll
  clear C9d oq Cq hwq Bq Aq hll hwz hHeld hw10 hres
  go_wp2_with fail
  exact ret_arr sect rfl rfl HLL.out HST.out rfl ⟨rfl, HBS.out⟩
end Go.Proofs.Ytpmmpdkeahmdiaa
