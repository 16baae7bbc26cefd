/- The reference's slots, loaded and stored whole. -/
import Derived.Test.YtpmmpdkeahmdiaaRSaid
namespace Go.Proofs.Ytpmmpdkeahmdiaa
open Go.RowKit
set_option maxRecDepth 100000

/-- A slot of the reference. -/
structure RT where
  area : Int
  num : Nat
  val : ByteArray
def rtV (r : RT) : Value := .agg #[.int .u64 r.area, .int .u64 (r.num : Int), .string r.val]
def rtC (r : RT) : Array Value := #[.int .u64 r.area, .int .u64 (r.num : Int), .string r.val]
def rt0 : RT := ⟨0, 0, ByteArray.mk #[]⟩
def SltAt (w : World) (b : Nat) (r : RT) : Prop := w.heap[b]? = some (.cells (rtC r) 63 (0, 0))
def loadT (P : Program) (x : Value) (w : World) : Result Value := (Instr.loadAt 63 x).run P w
def storeT (P : Program) (x y : Value) (w : World) : Result Unit := (Instr.storeAt 63 x y).run P w
def setT (w : World) (b : Nat) (r : RT) : World := ((w.setCell ⟨b, 0, none⟩ (.int .u64 r.area)).setCell ⟨b, 1, none⟩ (.int .u64 (r.num : Int))).setCell ⟨b, 2, none⟩ (.string r.val)
def tCells (v : Value) : Array Value := v.cells
theorem rtV_cells (r : RT) : tCells (rtV r) = rtC r := rfl
section
variable (ρ : Operand → Value) (x y : Operand) (dst : Option Tmp) (ty : TypeId) (pos : String) (af : Array Edge) (g : Option (Nat × Bool)) (w : World)
theorem exec_alloc_T : (execOp ρ ⟨dst, .alloc 63, ty, pos, af, g⟩).run Try.prog w = .ok (.value (.pointer (some ⟨w.heap.size, 0, none⟩))) (w.alloc (.cells (rtC rt0) 63)) := by
  simp [execOp, go_sem, rtC, rt0]
  try rfl
theorem exec_box_T : (execOp ρ ⟨dst, .box 63 x, ty, pos, af, g⟩).run Try.prog w = .ok (.value (.pointer (some ⟨w.heap.size, 0, none⟩))) (w.alloc (.cells (tCells (ρ x)) 63)) := by
  simp only [execOp, Sem.run_bind, Instr.box, newVar, newRow]
  rfl
theorem exec_load_T : (execOp ρ ⟨dst, .load 63 x, ty, pos, af, g⟩).run Try.prog w = (loadT Try.prog (ρ x) w).andThen (fun v w' => .ok (.value v) w') := by
  simp only [execOp, Sem.run_bind, loadT, Sem.run_pure]
theorem exec_store_T : (execOp ρ ⟨dst, .store 63 x y, ty, pos, af, g⟩).run Try.prog w = (storeT Try.prog (ρ x) (ρ y) w).andThen (fun _ w' => .ok .skip w') := by
  simp only [execOp, Sem.run_bind, storeT, Sem.run_pure]
theorem exec_build_T0 : (execOp ρ ⟨dst, .build 63 #[], ty, pos, af, g⟩).run Try.prog w = .ok (.value (rtV rt0)) w := by
  simp [execOp, go_sem, rtV, rt0]
  try rfl
end
theorem three_cells {w : World} {b : Nat} {v0 v1 v2 : Value} {t : TypeId} (h : w.heap[b]? = some (.cells #[v0, v1, v2] t (0, 0))) :
    w.cell? ⟨b, 0, none⟩ = some v0 ∧ w.cell? ⟨b, 1, none⟩ = some v1 ∧ w.cell? ⟨b, 2, none⟩ = some v2 ∧ (∀ o, w.frozen? ⟨b, o, none⟩ = false) := by
  refine ⟨?_, ?_, ?_, fun o => ?_⟩ <;> simp [World.cell?, World.frozen?, h]
theorem SltAt.cells {w : World} {b : Nat} {r : RT} (h : SltAt w b r) : w.cell? ⟨b, 0, none⟩ = some (.int .u64 r.area) ∧ w.cell? ⟨b, 1, none⟩ = some (.int .u64 (r.num : Int)) ∧ w.cell? ⟨b, 2, none⟩ = some (.string r.val) ∧ (∀ o, w.frozen? ⟨b, o, none⟩ = false) := three_cells h
theorem SltAt.lt {w : World} {b : Nat} {r : RT} (h : SltAt w b r) : b < w.heap.size := (Array.getElem?_eq_some_iff.1 h).1
theorem SltAt.below {w w' : World} {b : Nat} {r : RT} (h : SltAt w b r) {B : Nat} (hB : b < B) (hb : Below B w w') : SltAt w' b r := (hb.block b hB).trans h
theorem SltAt.new (w : World) (r : RT) : SltAt (w.alloc (.cells (rtC r) 63)) w.heap.size r := alloc_new _ _
theorem SltAt.old {w : World} {b : Nat} {r : RT} (h : SltAt w b r) (o : Obj) : SltAt (w.alloc o) b r := (alloc_old w o h.lt).trans h
theorem setT_far (w : World) (b k : Nat) (r : RT) (h : k ≠ b) : (setT w b r).heap[k]? = w.heap[k]? := by
  unfold setT
  rw [Below.heap_setCell _ _ _ _ h, Below.heap_setCell _ _ _ _ h, Below.heap_setCell _ _ _ _ h]
theorem setT_size (w : World) (b : Nat) (r : RT) : (setT w b r).heap.size = w.heap.size := by simp [setT]
theorem setT_below {B : Nat} {a w : World} (h : Below B a w) {b : Nat} (hb : B ≤ b) (r : RT) : Below B a (setT w b r) := ((h.setCell (p := ⟨b, 0, none⟩) hb _).setCell (p := ⟨b, 1, none⟩) hb _).setCell (p := ⟨b, 2, none⟩) hb _
theorem SltAt.set {w : World} {b : Nat} {r r' : RT} (h : SltAt w b r) : SltAt (setT w b r') b r' := by
  unfold SltAt setT
  rw [set_cell (set_cell (set_cell h 0 _) 1 _) 2 _]
  rfl
theorem loadT_at {w : World} {b : Nat} {r : RT} (h : SltAt w b r) : loadT Try.prog (.pointer (some ⟨b, 0, none⟩)) w = .ok (rtV r) w := by
  obtain ⟨c0, c1, c2, _⟩ := h.cells
  unfold loadT rtV
  simp [go_sem, c0, c1, c2]
  try rfl
theorem storeT_at {w : World} {b : Nat} {r0 r : RT} (h : SltAt w b r0) : storeT Try.prog (.pointer (some ⟨b, 0, none⟩)) (rtV r) w = .ok () (setT w b r) := by
  obtain ⟨c0, c1, c2, cz⟩ := h.cells
  unfold storeT rtV setT
  simp [go_sem, c0, c1, c2, cz]
  try rfl
theorem storeT_agg {w : World} {b : Nat} {r0 : RT} (h : SltAt w b r0) (a : Int) (n : Nat) (s : ByteArray) : storeT Try.prog (.pointer (some ⟨b, 0, none⟩)) (.agg #[.int .u64 a, .int .u64 (n : Int), .string s]) w = .ok () (setT w b ⟨a, n, s⟩) := storeT_at (r := ⟨a, n, s⟩) h
theorem retT {fn : Func} {R : Ending → World → Prop} {a : Act} {w : World} {b t u : Nat} {r : RT} {x : Value} (hf : fn.results = #[.cell t 63, .tmp u]) (ht : a.tmps[t]? = some (.pointer (some ⟨b, 0, none⟩))) (hu : a.tmps[u]? = some x)
    (hb : SltAt w b r) (hd : a.defers = []) (hR : R (.returned (.tuple #[rtV r, x])) w) : bodyPost Try.prog fn R .ret a w := by
  obtain ⟨c0, c1, c2, cz⟩ := hb.cells
  refine bodyPost_ret ?_ hd hR
  unfold rtV
  simp [results, hf, ht, hu, go_sem, c0, c1, c2]
  try rfl
/-! What Open has, by the reference. -/
theorem saidC_some (i : Nat) (bs : List Nat) : saidC i (some bs) = if bs.getD 8 0 ≤ 48 ∧ secN bs % 2 = i ∧ bs = laySec (secN bs) (secV bs) then (secN bs, secV bs) else (0, []) := rfl
theorem numC_some (i : Nat) (bs : List Nat) : numC i (some bs) = if RightS bs i then secN bs else 0 := rfl
theorem said_num (i : Nat) (o : Option (List Nat)) : (saidC i o).1 = numC i o := by
  cases o with
  | none => rfl
  | some bs =>
    rw [saidC_some, numC_some]
    by_cases h : bs.getD 8 0 ≤ 48 ∧ secN bs % 2 = i ∧ bs = laySec (secN bs) (secV bs)
    · rw [if_pos h]
      by_cases h0 : secN bs = 0
      · rw [if_neg (fun hr => hr.1 h0)]; exact h0
      · rw [if_pos ⟨h0, h.2.1, h.1, h.2.2⟩]
    · rw [if_neg h, if_neg (fun h2 => h ⟨h2.2.2.1, h2.2.1, h2.2.2.2⟩)]
theorem said_pos {i : Nat} {o : Option (List Nat)} (h : 0 < numC i o) : ∃ bs, o = some bs ∧ RightS bs i ∧ saidC i o = (secN bs, secV bs) := by
  cases o with
  | none => simp [numC] at h
  | some bs =>
    rw [numC_some] at h
    by_cases hr : RightS bs i
    · refine ⟨bs, rfl, hr, ?_⟩
      rw [saidC_some, if_pos ⟨hr.2.2.1, hr.2.1, hr.2.2.2⟩]
    · rw [if_neg hr] at h; omega
theorem said_one {o : Option (List Nat)} (h : numC 1 o = 0) : saidC 1 o = (0, []) := by
  cases o with
  | none => rfl
  | some bs =>
    rw [saidC_some, if_neg]
    rintro ⟨h1, h2, h3⟩
    have hr : RightS bs 1 := ⟨by omega, h2, h1, h3⟩
    rw [numC_some, if_pos hr] at h
    exact hr.1 h
theorem step_take {st : Nat × List Nat} {i : Nat} {bs : List Nat} (hr : RightS bs i) (h : st.1 < secN bs) : openStep st i (some bs) = (secN bs, secV bs) := by
  show (if RightS bs i ∧ st.1 < secN bs then (secN bs, secV bs) else st) = _
  rw [if_pos ⟨hr, h⟩]
theorem open_said (c0 c1 : Option (List Nat)) : openC c0 c1 = if numC 1 c1 < numC 0 c0 then saidC 0 c0 else saidC 1 c1 := by
  unfold openC
  by_cases h : numC 1 c1 < numC 0 c0
  · rw [if_pos h]
    obtain ⟨bs, rfl, hr, hs⟩ := said_pos (i := 0) (o := c0) (by omega)
    have hn : numC 0 (some bs) = secN bs := by rw [numC_some, if_pos hr]
    have h1 : openStep (0, []) 0 (some bs) = (secN bs, secV bs) := step_take hr (Nat.pos_of_ne_zero hr.1)
    rw [h1, hs]
    exact step_same (by rw [hn] at h; exact Nat.le_of_lt h)
  · rw [if_neg h]
    by_cases h0 : numC 1 c1 = 0
    · rw [said_one h0, step_same (st := (0, [])) (i := 0) (o := c0) (by show numC 0 c0 ≤ 0; omega)]
      exact step_same (by show numC 1 c1 ≤ 0; omega)
    · obtain ⟨bs, rfl, hr, hs⟩ := said_pos (i := 1) (o := c1) (by omega)
      have hn : numC 1 (some bs) = secN bs := by rw [numC_some, if_pos hr]
      have hst := step_num (0, []) 0 c0
      have hlt : (openStep (0, []) 0 c0).1 < secN bs := by
        rw [hst]
        show max 0 (numC 0 c0) < secN bs
        rw [hn] at h
        have hne : numC 0 c0 ≠ secN bs := fun he => by
          obtain ⟨b2, rfl, hr2, _⟩ := said_pos (i := 0) (o := c0) (by rw [he]; have := hr.1; omega)
          have hn2 : numC 0 (some b2) = secN b2 := by rw [numC_some, if_pos hr2]
          have := hr2.2.1
          have := hr.2.1
          omega
        have := hr.1
        omega
      rw [hs]
      exact step_take hr hlt
end Go.Proofs.Ytpmmpdkeahmdiaa
