/- The reference's disks, loaded and stored whole. -/
import Derived.Test.YtpmmpdkeahmdiaaRefRet
namespace Go.Proofs.Ytpmmpdkeahmdiaa
open Go.RowKit
set_option maxRecDepth 100000

def rdC (r : RD) (l : Value) : Array Value := #[.int .i64 r.room, .int .i64 r.steps, .int .i64 r.left, .bool r.armed, .bool r.dead, l]
def rd0 : RD := ⟨0, 0, 0, false, false⟩
/-- A disk of the reference in a block of its own. -/
def DskAt (w : World) (b : Nat) (r : RD) (l : Value) : Prop := w.heap[b]? = some (.cells (rdC r l) 27 (0, 0))
def loadD (P : Program) (x : Value) (w : World) : Result Value := (Instr.loadAt 27 x).run P w
def storeD (P : Program) (x y : Value) (w : World) : Result Unit := (Instr.storeAt 27 x y).run P w
def setD (w : World) (b : Nat) (r : RD) (l : Value) : World := six w b (.int .i64 r.room) (.int .i64 r.steps) (.int .i64 r.left) (.bool r.armed) (.bool r.dead) l
def dCells (v : Value) : Array Value := v.cells
theorem rdV_cells (r : RD) (l : Value) : dCells (rdV r l) = rdC r l := rfl
theorem rdC_0 (r : RD) (l : Value) : (rdC r l)[0]? = some (.int .i64 r.room) := rfl
theorem rdC_1 (r : RD) (l : Value) : (rdC r l)[1]? = some (.int .i64 r.steps) := rfl
theorem rdC_2 (r : RD) (l : Value) : (rdC r l)[2]? = some (.int .i64 r.left) := rfl
theorem rdC_3 (r : RD) (l : Value) : (rdC r l)[3]? = some (.bool r.armed) := rfl
theorem rdC_4 (r : RD) (l : Value) : (rdC r l)[4]? = some (.bool r.dead) := rfl
theorem rdC_5 (r : RD) (l : Value) : (rdC r l)[5]? = some l := rfl
theorem exec_alloc_D (ρ : Operand → Value) (dst : Option Tmp) (ty : TypeId) (pos : String) (af : Array Edge) (g : Option (Nat × Bool)) (w : World) :
    (execOp ρ ⟨dst, .alloc 27, ty, pos, af, g⟩).run Try.prog w = .ok (.value (.pointer (some ⟨w.heap.size, 0, none⟩))) (w.alloc (.cells (rdC rd0 (.slice none 0 0)) 27)) := by
  simp [execOp, go_sem, rdC, rd0]
  try rfl
theorem exec_box_D (ρ : Operand → Value) (x : Operand) (dst : Option Tmp) (ty : TypeId) (pos : String) (af : Array Edge) (g : Option (Nat × Bool)) (w : World) :
    (execOp ρ ⟨dst, .box 27 x, ty, pos, af, g⟩).run Try.prog w = .ok (.value (.pointer (some ⟨w.heap.size, 0, none⟩))) (w.alloc (.cells (dCells (ρ x)) 27)) := by
  simp only [execOp, Sem.run_bind, Instr.box, newVar, newRow]
  rfl
theorem exec_load_D (ρ : Operand → Value) (x : Operand) (dst : Option Tmp) (ty : TypeId) (pos : String) (af : Array Edge) (g : Option (Nat × Bool)) (w : World) :
    (execOp ρ ⟨dst, .load 27 x, ty, pos, af, g⟩).run Try.prog w = (loadD Try.prog (ρ x) w).andThen (fun v w' => .ok (.value v) w') := by
  simp only [execOp, Sem.run_bind, loadD, Sem.run_pure]
theorem exec_store_D (ρ : Operand → Value) (x y : Operand) (dst : Option Tmp) (ty : TypeId) (pos : String) (af : Array Edge) (g : Option (Nat × Bool)) (w : World) :
    (execOp ρ ⟨dst, .store 27 x y, ty, pos, af, g⟩).run Try.prog w = (storeD Try.prog (ρ x) (ρ y) w).andThen (fun _ w' => .ok .skip w') := by
  simp only [execOp, Sem.run_bind, storeD, Sem.run_pure]
theorem DskAt.cells {w : World} {b : Nat} {r : RD} {l : Value} (h : DskAt w b r l) :
    w.cell? ⟨b, 0, none⟩ = some (.int .i64 r.room) ∧ w.cell? ⟨b, 1, none⟩ = some (.int .i64 r.steps) ∧ w.cell? ⟨b, 2, none⟩ = some (.int .i64 r.left) ∧ w.cell? ⟨b, 3, none⟩ = some (.bool r.armed) ∧ w.cell? ⟨b, 4, none⟩ = some (.bool r.dead) ∧ w.cell? ⟨b, 5, none⟩ = some l ∧ (∀ o, w.frozen? ⟨b, o, none⟩ = false) := six_cells h
theorem DskAt.lt {w : World} {b : Nat} {r : RD} {l : Value} (h : DskAt w b r l) : b < w.heap.size := (Array.getElem?_eq_some_iff.1 h).1
theorem DskAt.below {w w' : World} {b : Nat} {r : RD} {l : Value} (h : DskAt w b r l) {B : Nat} (hB : b < B) (hb : Below B w w') : DskAt w' b r l := (hb.block b hB).trans h
theorem DskAt.new (w : World) (r : RD) (l : Value) : DskAt (w.alloc (.cells (rdC r l) 27)) w.heap.size r l := alloc_new _ _
theorem DskAt.old {w : World} {b : Nat} {r : RD} {l : Value} (h : DskAt w b r l) (o : Obj) : DskAt (w.alloc o) b r l := (alloc_old w o h.lt).trans h
theorem DskAt.far {w : World} {b b' : Nat} {r r' : RD} {l l' : Value} (h : DskAt w b r l) (hne : b ≠ b') : DskAt (setD w b' r' l') b r l := (six_far w b' b hne _ _ _ _ _ _).trans h
theorem DskAt.set {w : World} {b : Nat} {r r' : RD} {l l' : Value} (h : DskAt w b r l) : DskAt (setD w b r' l') b r' l' := six_set h _ _ _ _ _ _
theorem setD_far (w : World) (b k : Nat) (r : RD) (l : Value) (hne : k ≠ b) : (setD w b r l).heap[k]? = w.heap[k]? := six_far w b k hne _ _ _ _ _ _
theorem setD_size (w : World) (b : Nat) (r : RD) (l : Value) : (setD w b r l).heap.size = w.heap.size := by simp [setD, six]
theorem setD_below {B : Nat} {a w : World} (h : Below B a w) {b : Nat} (hb : B ≤ b) (r : RD) (l : Value) : Below B a (setD w b r l) := six_below h hb _ _ _ _ _ _
theorem loadD_at {w : World} {b : Nat} {r : RD} {ad : Option Addr} {n c : Nat} (h : DskAt w b r (.slice ad n c)) : loadD Try.prog (.pointer (some ⟨b, 0, none⟩)) w = .ok (rdV r (.slice ad n c)) w := by
  obtain ⟨c0, c1, c2, c3, c4, c5, _⟩ := h.cells
  unfold loadD rdV
  simp [go_sem, c0, c1, c2, c3, c4, c5]
  try rfl
theorem storeD_at {w : World} {b : Nat} {r0 r : RD} {l0 : Value} {ad : Option Addr} {n c : Nat} (h : DskAt w b r0 l0) : storeD Try.prog (.pointer (some ⟨b, 0, none⟩)) (rdV r (.slice ad n c)) w = .ok () (setD w b r (.slice ad n c)) := by
  obtain ⟨c0, c1, c2, c3, c4, c5, cz⟩ := h.cells
  unfold storeD rdV setD six
  simp [go_sem, c0, c1, c2, c3, c4, c5, cz]
  try rfl
theorem retD {fn : Func} {R : Ending → World → Prop} {a : Act} {w : World} {b t : Nat} {r : RD} {ad : Option Addr} {n c : Nat} (hf : fn.results = #[.cell t 27]) (ht : a.tmps[t]? = some (.pointer (some ⟨b, 0, none⟩)))
    (hb : DskAt w b r (.slice ad n c)) (hd : a.defers = []) (hR : R (.returned (rdV r (.slice ad n c))) w) : bodyPost Try.prog fn R .ret a w := ret_disk hf ht hb hd hR
theorem retD2 {fn : Func} {R : Ending → World → Prop} {a : Act} {w : World} {b t u : Nat} {r : RD} {ad : Option Addr} {n c : Nat} {x : Value} (hf : fn.results = #[.cell t 27, .tmp u]) (ht : a.tmps[t]? = some (.pointer (some ⟨b, 0, none⟩))) (hu : a.tmps[u]? = some x)
    (hb : DskAt w b r (.slice ad n c)) (hd : a.defers = []) (hR : R (.returned (.tuple #[rdV r (.slice ad n c), x])) w) : bodyPost Try.prog fn R .ret a w := ret_disk2 hf ht hu hb hd hR
end Go.Proofs.Ytpmmpdkeahmdiaa
