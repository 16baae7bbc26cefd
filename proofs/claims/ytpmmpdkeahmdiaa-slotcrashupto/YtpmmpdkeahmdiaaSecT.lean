/- The slot's arrays: loads and stores, kept whole in the walk; lowestFirst. -/
import Derived.Test.YtpmmpdkeahmdiaaArr
import Derived.Handy
namespace Go.Proofs.Ytpmmpdkeahmdiaa
open Go.RowKit
set_option maxRecDepth 100000

theorem sect : ArrT 104 64 := ⟨by kernel_rfl, _, Try.underlying104⟩
theorem arr8 : ArrT 134 8 := ⟨by kernel_rfl, _, Try.underlying134⟩
def loadS (P : Program) (x : Value) (w : World) : Result Value := (Instr.loadAt 104 x).run P w
def storeS (P : Program) (x y : Value) (w : World) : Result Unit := (Instr.storeAt 104 x y).run P w
def load8 (P : Program) (x : Value) (w : World) : Result Value := (Instr.loadAt 134 x).run P w
def store8 (P : Program) (x y : Value) (w : World) : Result Unit := (Instr.storeAt 134 x y).run P w
section
variable (ρ : Operand → Value) (x y : Operand) (dst : Option Tmp) (ty : TypeId) (pos : String) (af : Array Edge) (g : Option (Nat × Bool)) (w : World)
theorem exec_alloc_S : (execOp ρ ⟨dst, .alloc 104, ty, pos, af, g⟩).run Try.prog w = .ok (.value (.pointer (some ⟨w.heap.size, 0, none⟩))) (w.alloc (.cells (verC (zeros 64)) 104)) := by
  simp only [execOp, Sem.run_bind, run_alloc_arr sect, Sem.run_pure, Result.andThen]
theorem exec_box_S : (execOp ρ ⟨dst, .box 104 x, ty, pos, af, g⟩).run Try.prog w = .ok (.value (.pointer (some ⟨w.heap.size, 0, none⟩))) (w.alloc (.cells (cellsOf (ρ x)) 104)) := by
  simp only [execOp, Sem.run_bind, Instr.box, newVar, newRow]
  rfl
theorem exec_load_S : (execOp ρ ⟨dst, .load 104 x, ty, pos, af, g⟩).run Try.prog w = (loadS Try.prog (ρ x) w).andThen (fun v w' => .ok (.value v) w') := by
  simp only [execOp, Sem.run_bind, loadS, Sem.run_pure]
theorem exec_store_S : (execOp ρ ⟨dst, .store 104 x y, ty, pos, af, g⟩).run Try.prog w = (storeS Try.prog (ρ x) (ρ y) w).andThen (fun _ w' => .ok .skip w') := by
  simp only [execOp, Sem.run_bind, storeS, Sem.run_pure]
theorem exec_alloc_8 : (execOp ρ ⟨dst, .alloc 134, ty, pos, af, g⟩).run Try.prog w = .ok (.value (.pointer (some ⟨w.heap.size, 0, none⟩))) (w.alloc (.cells (verC (zeros 8)) 134)) := by
  simp only [execOp, Sem.run_bind, run_alloc_arr arr8, Sem.run_pure, Result.andThen]
theorem exec_load_8 : (execOp ρ ⟨dst, .load 134 x, ty, pos, af, g⟩).run Try.prog w = (load8 Try.prog (ρ x) w).andThen (fun v w' => .ok (.value v) w') := by
  simp only [execOp, Sem.run_bind, load8, Sem.run_pure]
theorem exec_store_8 : (execOp ρ ⟨dst, .store 134 x y, ty, pos, af, g⟩).run Try.prog w = (store8 Try.prog (ρ x) (ρ y) w).andThen (fun _ w' => .ok .skip w') := by
  simp only [execOp, Sem.run_bind, store8, Sem.run_pure]
end
theorem loadS_at {w : World} {b : Nat} {bs : List Nat} (h : ArrAt 104 w b bs) (hl : bs.length = 64) : loadS Try.prog (.pointer (some ⟨b, 0, none⟩)) w = .ok (verV bs) w := run_load_arr sect hl h
theorem storeS_at {w : World} {b : Nat} {bs vs : List Nat} (h : ArrAt 104 w b bs) (hl : bs.length = 64) (hv : vs.length = 64) : storeS Try.prog (.pointer (some ⟨b, 0, none⟩)) (verV vs) w = .ok () (setA w b 0 vs) := run_store_arr sect hl hv h
theorem load8_at {w : World} {b : Nat} {bs : List Nat} (h : ArrAt 134 w b bs) (hl : bs.length = 8) : load8 Try.prog (.pointer (some ⟨b, 0, none⟩)) w = .ok (verV bs) w := run_load_arr arr8 hl h
theorem store8_at {w : World} {b : Nat} {bs vs : List Nat} (h : ArrAt 134 w b bs) (hl : bs.length = 8) (hv : vs.length = 8) : store8 Try.prog (.pointer (some ⟨b, 0, none⟩)) (verV vs) w = .ok () (setA w b 0 vs) := run_store_arr arr8 hl hv h
/-- A result that lies in a block. -/
theorem ret_arr {t : TypeId} {n : Nat} (ht : ArrT t n) {fn : Func} {R : Ending → World → Prop} {a : Act} {w : World} {b s : Nat} {bs : List Nat} (hf : fn.results = #[.cell s t]) (hs : a.tmps[s]? = some (.pointer (some ⟨b, 0, none⟩))) (hl : bs.length = n) (h : ArrAt t w b bs) (hd : a.defers = []) (hR : R (.returned (verV bs)) w) : bodyPost Try.prog fn R .ret a w := by
  refine bodyPost_ret ?_ hd hR
  obtain ⟨i, hi, hz, hz1, hb⟩ := info_parts ht.1
  obtain ⟨e, he⟩ := ht.2
  have h2 := run_loadVar_mid (P := Try.prog) w b 0 t (bs.map bv) _ h.range he rfl (by rw [hi]; simp [hz1, hl])
  simp [results, hf, hs, asAddr]
  exact h2
theorem two_pow8 (k : Nat) : (2 : Int) ^ (8 * k) = ((256 ^ k : Nat) : Int) := by
  rw [Int.pow_mul, Int.natCast_pow]
  rfl
theorem errB_snoc : ∀ (k n : Nat), errB n (k + 1) = errB n k ++ [n / 256 ^ k % 256]
  | 0, n => by simp [errB]
  | k + 1, n => by
    have ih := errB_snoc k (n / 256)
    show n % 256 :: errB (n / 256) (k + 1) = n % 256 :: errB (n / 256) k ++ _
    rw [ih, Nat.div_div_eq_div_mul, Nat.pow_succ, Nat.mul_comm 256]
    rfl
theorem set_arr {t : TypeId} {w : World} {b k x : Nat} {bs : List Nat} (h : ArrAt t w b bs) : ArrAt t (w.setCell ⟨b, k, none⟩ (bv x)) b (bs.set k x) := by
  have := set_cell h k (bv x)
  have e : (verC bs).setIfInBounds k (bv x) = verC (bs.set k x) := by simp [verC, List.map_set]
  rw [e] at this
  exact this
attribute [local go_sem ↓] exec_alloc_8 exec_load_8 exec_store_8
set_option maxHeartbeats 1000000 in
theorem lowestFirst_any (n : Nat) (w : World) :
    Calls Try.prog 78 #[.int .u64 (n : Int)] w fun e w' => e = .returned (verV (errB n 8)) ∧ Below w.heap.size w w' := by
  obtain ⟨w2, hw2⟩ : ∃ w2, (w.alloc (.cells (verC (zeros 8)) 134)).alloc (.cells (verC (zeros 8)) 134) = w2 := ⟨_, rfl⟩
  have A2 : Hid (ArrAt 134 w2 w.heap.size (zeros 8)) := hw2 ▸ (ArrAt.new _ w _).old _
  have C2 : Hid (ArrAt 134 w2 (w.heap.size + 1) (zeros 8)) := by
    have := ArrAt.new 134 (w.alloc (.cells (verC (zeros 8)) 134)) (zeros 8)
    rw [alloc_size] at this
    exact hw2 ▸ this
  have B2 : Hid (Below w.heap.size w w2) := hw2 ▸ ((Below.refl _ w).alloc (Nat.le_refl _) _).alloc (by simp) _
  have HW : Hid ((w.alloc (.cells (verC (zeros 8)) 134)).alloc (.cells (verC (zeros 8)) 134) = w2) := hw2
  clear hw2
  go_enter Try.func78, Try.ntmps78
  go_wp2_with fail
  rw [HW.out]
  clear HW
  go_loopw [5] (fun v wr => ∃ k : Nat, v = .int .i64 k ∧ k ≤ 8 ∧ ArrAt 134 wr w.heap.size (zeros 8) ∧ ArrAt 134 wr (w.heap.size + 1) (errB n k ++ zeros (8 - k)) ∧ Below w.heap.size w wr) (fun v _ => 8 - (intOf v).toNat)
  case atStart => exact ⟨0, rfl, by omega, A2.out, C2.out, B2.out⟩
  case round =>
    clear A2 C2 B2
    obtain ⟨k, rfl, hk, hA, hC, hB⟩ := hrel
    have HA : Hid (ArrAt 134 wr w.heap.size (zeros 8)) := hA
    have HC : Hid (ArrAt 134 wr (w.heap.size + 1) (errB n k ++ zeros (8 - k))) := hC
    have HB : Hid (Below w.heap.size w wr) := hB
    have hlen : (errB n k ++ zeros (8 - k)).length = 8 := by simp [errB_len, zeros]; omega
    have hwr : w.heap.size + 1 < wr.heap.size := hC.lt
    by_cases hk8 : k < 8
    · have hcell := hC.cell (i := k) (by omega)
      have hfz := hC.frozen k
      clear hA hC hB hlen
      go_wp2_with fail
      obtain ⟨x, hx⟩ : ∃ x : Nat, n / 256 ^ k % 256 = x := ⟨_, rfl⟩
      have hX : ((n : Int) / 2 ^ (8 * k) % 256) = (x : Int) := by
        rw [← hx, two_pow8]
        rfl
      rw [hX]
      go_roundw
      case rel =>
        refine ⟨k + 1, by go_num, by omega, ?_, ?_, HB.out.setCell (by show w.heap.size ≤ w.heap.size + 1; omega) _⟩
        · exact (Below.heap_setCell _ _ _ _ (by show w.heap.size ≠ w.heap.size + 1; omega)).trans HA.out
        · have := set_arr (k := k) (x := x) HC.out
          have e : (errB n k ++ zeros (8 - k)).set k x = errB n (k + 1) ++ zeros (8 - (k + 1)) := by
            rw [errB_snoc, hx, List.set_append_right _ _ (by rw [errB_len]; exact Nat.le_refl _), errB_len, Nat.sub_self]
            obtain ⟨m, hm⟩ : ∃ m, 8 - k = m + 1 := ⟨7 - k, by omega⟩
            rw [hm, show 8 - (k + 1) = m by omega]
            simp [zeros, List.replicate_succ]
          rw [e] at this
          exact this
      case measure => simp [intOf]; omega
    · have hk' : k = 8 := by omega
      subst hk'
      simp only [Nat.sub_self, zeros, List.replicate_zero, List.append_nil] at hC
      have hld := load8_at hC (errB_len n 8)
      have hst := store8_at (vs := errB n 8) hA (by simp [zeros]) (errB_len n 8)
      have HST : Hid (ArrAt 134 (setA wr w.heap.size 0 (errB n 8)) w.heap.size (errB n 8)) := by
        have := hA.set 0 (errB n 8) (by simp [errB_len, zeros])
        rwa [over_all (by simp [errB_len, zeros])] at this
      have HBS : Hid (Below w.heap.size w (setA wr w.heap.size 0 (errB n 8))) := setA_below hB hA (Nat.le_refl _) _ _
      obtain ⟨w5, hw5⟩ : ∃ w5, setA wr w.heap.size 0 (errB n 8) = w5 := ⟨_, rfl⟩
      rw [hw5] at hst HST HBS
      clear hA hC hB hlen hw5
      go_wp2_with fail
      exact ret_arr arr8 rfl rfl (errB_len n 8) HST.out rfl ⟨rfl, HBS.out⟩
end Go.Proofs.Ytpmmpdkeahmdiaa
