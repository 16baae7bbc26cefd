/- Structs as values and as cells; loaded and stored whole. (gen_struct.py) -/
import Derived.Test.YtoiikmfdoadkpaaSeRows
import Derived.Laws.StructEq
namespace Go.Proofs.Ytoiikmfdoadkpaa
open Go.RowKit Go.Lib
set_option maxRecDepth 100000
namespace Se
/-- An answer: code, session, weight. -/
abbrev An := Int × Int × Int
/-- A row: the number, the answer. -/
abbrev Rw := Int × An
/-- What was kept: session, number, answer. -/
abbrev Kp := Int × Int × An
/-- A call: kind, session, number, answer. -/
abbrev Oo := Int × Int × Int × An
/-- The document's table: how many, the list. -/
abbrev Tb := Int × Option Addr × Nat × Nat
/-- These cells lie there. -/
def CAt (w : World) (b o : Nat) (cs : List Value) : Prop := ∀ j u, cs[j]? = some u → w.cell? ⟨b, o + j, none⟩ = some u
theorem CAt.below {w w' : World} {b o : Nat} {cs : List Value} (h : CAt w b o cs) (hb : b < w.heap.size) (H : Below w.heap.size w w') : CAt w' b o cs := fun j u hj => (H.cell (p := ⟨b, o + j, none⟩) hb).trans (h j u hj)
theorem CAt.same {w w' : World} {b o : Nat} {cs : List Value} (h : CAt w b o cs) (H : w'.heap[b]? = w.heap[b]?) : CAt w' b o cs := fun j u hj => (World.cell?_of_block (w := w) (a := ⟨b, o + j, none⟩) H).trans (h j u hj)
theorem cat_new {w : World} {b : Nat} {cs : List Value} {T : TypeId} {fz : Nat × Nat} (h : w.heap[b]? = some (.cells cs.toArray T fz)) : CAt w b 0 cs := fun j u hj => by simpa [World.cell?, h] using hj
def cellsA (x : An) : List Value := [.int .i64 x.1, .int .u64 x.2.1, .int .i64 x.2.2]
def valA (x : An) : Value := .agg #[.int .i64 x.1, .int .u64 x.2.1, .int .i64 x.2.2]
def zA : Obj := .cells #[.int .i64 0, .int .u64 0, .int .i64 0] 32
def loadA (P : Program) (x : Value) (w : World) : Result Value := (Instr.loadAt 32 x).run P w
def storeA (P : Program) (x y : Value) (w : World) : Result Unit := (Instr.storeAt 32 x y).run P w
section
variable (ρ : Operand → Value) (x y : Operand) (dst : Option Tmp) (ty : TypeId) (pos : String) (af : Array Edge) (g : Option (Nat × Bool)) (w : World)
theorem exec_load_A : (execOp ρ ⟨dst, .load 32 x, ty, pos, af, g⟩).run Try.prog w = (loadA Try.prog (ρ x) w).andThen (fun v w' => .ok (.value v) w') := by
  simp only [execOp, Sem.run_bind, loadA, Sem.run_pure]
theorem exec_store_A : (execOp ρ ⟨dst, .store 32 x y, ty, pos, af, g⟩).run Try.prog w = (storeA Try.prog (ρ x) (ρ y) w).andThen (fun _ w' => .ok .skip w') := by
  simp only [execOp, Sem.run_bind, storeA, Sem.run_pure]
end
theorem loadA_at {w : World} {b o : Nat} {x : An} (h : CAt w b o (cellsA x)) : loadA Try.prog (.pointer (some ⟨b, o, none⟩)) w = .ok (valA x) w := by
  have h0 := h 0 _ rfl
  have h1 := h 1 _ rfl
  have h2 := h 2 _ rfl
  simp only [Nat.add_zero] at h0
  unfold loadA valA
  simp [go_sem, h0, h1, h2]
  try rfl
theorem storeA_at {w : World} {b o : Nat} {x : An} {ys : List Value} (hy : ys.length = 3) (h : CAt w b o ys) (f : ∀ j, w.frozen? ⟨b, j, none⟩ = false) : storeA Try.prog (.pointer (some ⟨b, o, none⟩)) (valA x) w = .ok () (w.setCells b o (cellsA x)) := by
  obtain ⟨y0, y1, y2, rfl⟩ : ∃ y0 y1 y2, ys = [y0, y1, y2] := by
    match ys, hy with
    | [y0, y1, y2], _ => exact ⟨y0, y1, y2, rfl⟩
  have h0 := h 0 _ rfl
  have h1 := h 1 _ rfl
  have h2 := h 2 _ rfl
  simp only [Nat.add_zero] at h0
  unfold storeA valA
  simp [go_sem, h0, h1, h2, f, cellsA, World.setCells]
  try rfl
/-- Stored in a block of its own. -/
theorem own_storeA {w1 : World} {mb : Nat} {ys : List Value} (hy : ys.length = 3) (hb : w1.heap[mb]? = some (.cells ys.toArray 32)) (x : An) :
    ∃ W, storeA Try.prog (.pointer (some ⟨mb, 0, none⟩)) (valA x) w1 = .ok () W ∧ Upd (fun k => k = mb) w1 W ∧ W.heap[mb]? = some (.cells (cellsA x).toArray 32) := by
  refine ⟨w1.setCells mb 0 (cellsA x), storeA_at hy (cat_new hb) (fun j => by simp [World.frozen?, hb]), Upd.setCells (F := fun k => k = mb) rfl _ _ (Upd.refl _ _), ?_⟩
  match ys, hy with
  | [y0, y1, y2], _ => simp [cellsA, World.setCells, World.setCell, Array.getElem?_modify, hb]
theorem own_loadA {W : World} {mb : Nat} {x : An} (h : W.heap[mb]? = some (.cells (cellsA x).toArray 32)) : loadA Try.prog (.pointer (some ⟨mb, 0, none⟩)) W = .ok (valA x) W := loadA_at (cat_new h)
/-- Stored in a new block. -/
theorem new_storeA (w2 : World) (x : An) :
    ∃ W3, storeA Try.prog (.pointer (some ⟨w2.heap.size, 0, none⟩)) (valA x) (w2.alloc zA) = .ok () W3 ∧ Below w2.heap.size w2 W3 ∧ W3.heap[w2.heap.size]? = some (.cells (cellsA x).toArray 32) := by
  obtain ⟨V3, hV3⟩ : ∃ V3, w2.alloc zA = V3 := ⟨_, rfl⟩
  have hb3 : Below w2.heap.size w2 V3 := by rw [← hV3]; exact (Below.refl _ w2).alloc (Nat.le_refl _) _
  have hn3 : V3.heap[w2.heap.size]? = some zA := by rw [← hV3]; exact alloc_newM _ _
  obtain ⟨W3, hst, hu3, hc3⟩ := own_storeA (ys := [.int .i64 0, .int .u64 0, .int .i64 0]) rfl hn3 x
  rw [hV3]
  exact ⟨W3, hst, hb3.trans (hu3.below (B := w2.heap.size) (fun k e => by have : k = w2.heap.size := e; omega) hb3.size), hc3⟩
def cellsR (x : Rw) : List Value := [.int .u64 x.1, .int .i64 x.2.1, .int .u64 x.2.2.1, .int .i64 x.2.2.2]
def valR (x : Rw) : Value := .agg #[.int .u64 x.1, .int .i64 x.2.1, .int .u64 x.2.2.1, .int .i64 x.2.2.2]
def zR : Obj := .cells #[.int .u64 0, .int .i64 0, .int .u64 0, .int .i64 0] 43
def loadR (P : Program) (x : Value) (w : World) : Result Value := (Instr.loadAt 43 x).run P w
def storeR (P : Program) (x y : Value) (w : World) : Result Unit := (Instr.storeAt 43 x y).run P w
section
variable (ρ : Operand → Value) (x y : Operand) (dst : Option Tmp) (ty : TypeId) (pos : String) (af : Array Edge) (g : Option (Nat × Bool)) (w : World)
theorem exec_load_R : (execOp ρ ⟨dst, .load 43 x, ty, pos, af, g⟩).run Try.prog w = (loadR Try.prog (ρ x) w).andThen (fun v w' => .ok (.value v) w') := by
  simp only [execOp, Sem.run_bind, loadR, Sem.run_pure]
theorem exec_store_R : (execOp ρ ⟨dst, .store 43 x y, ty, pos, af, g⟩).run Try.prog w = (storeR Try.prog (ρ x) (ρ y) w).andThen (fun _ w' => .ok .skip w') := by
  simp only [execOp, Sem.run_bind, storeR, Sem.run_pure]
end
theorem loadR_at {w : World} {b o : Nat} {x : Rw} (h : CAt w b o (cellsR x)) : loadR Try.prog (.pointer (some ⟨b, o, none⟩)) w = .ok (valR x) w := by
  have h0 := h 0 _ rfl
  have h1 := h 1 _ rfl
  have h2 := h 2 _ rfl
  have h3 := h 3 _ rfl
  simp only [Nat.add_zero] at h0
  unfold loadR valR
  simp [go_sem, h0, h1, h2, h3]
  try rfl
theorem storeR_at {w : World} {b o : Nat} {x : Rw} {ys : List Value} (hy : ys.length = 4) (h : CAt w b o ys) (f : ∀ j, w.frozen? ⟨b, j, none⟩ = false) : storeR Try.prog (.pointer (some ⟨b, o, none⟩)) (valR x) w = .ok () (w.setCells b o (cellsR x)) := by
  obtain ⟨y0, y1, y2, y3, rfl⟩ : ∃ y0 y1 y2 y3, ys = [y0, y1, y2, y3] := by
    match ys, hy with
    | [y0, y1, y2, y3], _ => exact ⟨y0, y1, y2, y3, rfl⟩
  have h0 := h 0 _ rfl
  have h1 := h 1 _ rfl
  have h2 := h 2 _ rfl
  have h3 := h 3 _ rfl
  simp only [Nat.add_zero] at h0
  unfold storeR valR
  simp [go_sem, h0, h1, h2, h3, f, cellsR, World.setCells]
  try rfl
/-- Stored in a block of its own. -/
theorem own_storeR {w1 : World} {mb : Nat} {ys : List Value} (hy : ys.length = 4) (hb : w1.heap[mb]? = some (.cells ys.toArray 43)) (x : Rw) :
    ∃ W, storeR Try.prog (.pointer (some ⟨mb, 0, none⟩)) (valR x) w1 = .ok () W ∧ Upd (fun k => k = mb) w1 W ∧ W.heap[mb]? = some (.cells (cellsR x).toArray 43) := by
  refine ⟨w1.setCells mb 0 (cellsR x), storeR_at hy (cat_new hb) (fun j => by simp [World.frozen?, hb]), Upd.setCells (F := fun k => k = mb) rfl _ _ (Upd.refl _ _), ?_⟩
  match ys, hy with
  | [y0, y1, y2, y3], _ => simp [cellsR, World.setCells, World.setCell, Array.getElem?_modify, hb]
theorem own_loadR {W : World} {mb : Nat} {x : Rw} (h : W.heap[mb]? = some (.cells (cellsR x).toArray 43)) : loadR Try.prog (.pointer (some ⟨mb, 0, none⟩)) W = .ok (valR x) W := loadR_at (cat_new h)
/-- Stored in a new block. -/
theorem new_storeR (w2 : World) (x : Rw) :
    ∃ W3, storeR Try.prog (.pointer (some ⟨w2.heap.size, 0, none⟩)) (valR x) (w2.alloc zR) = .ok () W3 ∧ Below w2.heap.size w2 W3 ∧ W3.heap[w2.heap.size]? = some (.cells (cellsR x).toArray 43) := by
  obtain ⟨V3, hV3⟩ : ∃ V3, w2.alloc zR = V3 := ⟨_, rfl⟩
  have hb3 : Below w2.heap.size w2 V3 := by rw [← hV3]; exact (Below.refl _ w2).alloc (Nat.le_refl _) _
  have hn3 : V3.heap[w2.heap.size]? = some zR := by rw [← hV3]; exact alloc_newM _ _
  obtain ⟨W3, hst, hu3, hc3⟩ := own_storeR (ys := [.int .u64 0, .int .i64 0, .int .u64 0, .int .i64 0]) rfl hn3 x
  rw [hV3]
  exact ⟨W3, hst, hb3.trans (hu3.below (B := w2.heap.size) (fun k e => by have : k = w2.heap.size := e; omega) hb3.size), hc3⟩
def cellsK (x : Kp) : List Value := [.int .u64 x.1, .int .u64 x.2.1, .int .i64 x.2.2.1, .int .u64 x.2.2.2.1, .int .i64 x.2.2.2.2]
def valK (x : Kp) : Value := .agg #[.int .u64 x.1, .int .u64 x.2.1, .int .i64 x.2.2.1, .int .u64 x.2.2.2.1, .int .i64 x.2.2.2.2]
def zK : Obj := .cells #[.int .u64 0, .int .u64 0, .int .i64 0, .int .u64 0, .int .i64 0] 62
def loadK (P : Program) (x : Value) (w : World) : Result Value := (Instr.loadAt 62 x).run P w
def storeK (P : Program) (x y : Value) (w : World) : Result Unit := (Instr.storeAt 62 x y).run P w
section
variable (ρ : Operand → Value) (x y : Operand) (dst : Option Tmp) (ty : TypeId) (pos : String) (af : Array Edge) (g : Option (Nat × Bool)) (w : World)
theorem exec_load_K : (execOp ρ ⟨dst, .load 62 x, ty, pos, af, g⟩).run Try.prog w = (loadK Try.prog (ρ x) w).andThen (fun v w' => .ok (.value v) w') := by
  simp only [execOp, Sem.run_bind, loadK, Sem.run_pure]
theorem exec_store_K : (execOp ρ ⟨dst, .store 62 x y, ty, pos, af, g⟩).run Try.prog w = (storeK Try.prog (ρ x) (ρ y) w).andThen (fun _ w' => .ok .skip w') := by
  simp only [execOp, Sem.run_bind, storeK, Sem.run_pure]
end
theorem loadK_at {w : World} {b o : Nat} {x : Kp} (h : CAt w b o (cellsK x)) : loadK Try.prog (.pointer (some ⟨b, o, none⟩)) w = .ok (valK x) w := by
  have h0 := h 0 _ rfl
  have h1 := h 1 _ rfl
  have h2 := h 2 _ rfl
  have h3 := h 3 _ rfl
  have h4 := h 4 _ rfl
  simp only [Nat.add_zero] at h0
  unfold loadK valK
  simp [go_sem, h0, h1, h2, h3, h4]
  try rfl
theorem storeK_at {w : World} {b o : Nat} {x : Kp} {ys : List Value} (hy : ys.length = 5) (h : CAt w b o ys) (f : ∀ j, w.frozen? ⟨b, j, none⟩ = false) : storeK Try.prog (.pointer (some ⟨b, o, none⟩)) (valK x) w = .ok () (w.setCells b o (cellsK x)) := by
  obtain ⟨y0, y1, y2, y3, y4, rfl⟩ : ∃ y0 y1 y2 y3 y4, ys = [y0, y1, y2, y3, y4] := by
    match ys, hy with
    | [y0, y1, y2, y3, y4], _ => exact ⟨y0, y1, y2, y3, y4, rfl⟩
  have h0 := h 0 _ rfl
  have h1 := h 1 _ rfl
  have h2 := h 2 _ rfl
  have h3 := h 3 _ rfl
  have h4 := h 4 _ rfl
  simp only [Nat.add_zero] at h0
  unfold storeK valK
  simp [go_sem, h0, h1, h2, h3, h4, f, cellsK, World.setCells]
  try rfl
/-- Stored in a block of its own. -/
theorem own_storeK {w1 : World} {mb : Nat} {ys : List Value} (hy : ys.length = 5) (hb : w1.heap[mb]? = some (.cells ys.toArray 62)) (x : Kp) :
    ∃ W, storeK Try.prog (.pointer (some ⟨mb, 0, none⟩)) (valK x) w1 = .ok () W ∧ Upd (fun k => k = mb) w1 W ∧ W.heap[mb]? = some (.cells (cellsK x).toArray 62) := by
  refine ⟨w1.setCells mb 0 (cellsK x), storeK_at hy (cat_new hb) (fun j => by simp [World.frozen?, hb]), Upd.setCells (F := fun k => k = mb) rfl _ _ (Upd.refl _ _), ?_⟩
  match ys, hy with
  | [y0, y1, y2, y3, y4], _ => simp [cellsK, World.setCells, World.setCell, Array.getElem?_modify, hb]
theorem own_loadK {W : World} {mb : Nat} {x : Kp} (h : W.heap[mb]? = some (.cells (cellsK x).toArray 62)) : loadK Try.prog (.pointer (some ⟨mb, 0, none⟩)) W = .ok (valK x) W := loadK_at (cat_new h)
/-- Stored in a new block. -/
theorem new_storeK (w2 : World) (x : Kp) :
    ∃ W3, storeK Try.prog (.pointer (some ⟨w2.heap.size, 0, none⟩)) (valK x) (w2.alloc zK) = .ok () W3 ∧ Below w2.heap.size w2 W3 ∧ W3.heap[w2.heap.size]? = some (.cells (cellsK x).toArray 62) := by
  obtain ⟨V3, hV3⟩ : ∃ V3, w2.alloc zK = V3 := ⟨_, rfl⟩
  have hb3 : Below w2.heap.size w2 V3 := by rw [← hV3]; exact (Below.refl _ w2).alloc (Nat.le_refl _) _
  have hn3 : V3.heap[w2.heap.size]? = some zK := by rw [← hV3]; exact alloc_newM _ _
  obtain ⟨W3, hst, hu3, hc3⟩ := own_storeK (ys := [.int .u64 0, .int .u64 0, .int .i64 0, .int .u64 0, .int .i64 0]) rfl hn3 x
  rw [hV3]
  exact ⟨W3, hst, hb3.trans (hu3.below (B := w2.heap.size) (fun k e => by have : k = w2.heap.size := e; omega) hb3.size), hc3⟩
def cellsO (x : Oo) : List Value := [.int .i64 x.1, .int .u64 x.2.1, .int .u64 x.2.2.1, .int .i64 x.2.2.2.1, .int .u64 x.2.2.2.2.1, .int .i64 x.2.2.2.2.2]
def valO (x : Oo) : Value := .agg #[.int .i64 x.1, .int .u64 x.2.1, .int .u64 x.2.2.1, .int .i64 x.2.2.2.1, .int .u64 x.2.2.2.2.1, .int .i64 x.2.2.2.2.2]
def zO : Obj := .cells #[.int .i64 0, .int .u64 0, .int .u64 0, .int .i64 0, .int .u64 0, .int .i64 0] 34
def loadO (P : Program) (x : Value) (w : World) : Result Value := (Instr.loadAt 34 x).run P w
def storeO (P : Program) (x y : Value) (w : World) : Result Unit := (Instr.storeAt 34 x y).run P w
section
variable (ρ : Operand → Value) (x y : Operand) (dst : Option Tmp) (ty : TypeId) (pos : String) (af : Array Edge) (g : Option (Nat × Bool)) (w : World)
theorem exec_load_O : (execOp ρ ⟨dst, .load 34 x, ty, pos, af, g⟩).run Try.prog w = (loadO Try.prog (ρ x) w).andThen (fun v w' => .ok (.value v) w') := by
  simp only [execOp, Sem.run_bind, loadO, Sem.run_pure]
theorem exec_store_O : (execOp ρ ⟨dst, .store 34 x y, ty, pos, af, g⟩).run Try.prog w = (storeO Try.prog (ρ x) (ρ y) w).andThen (fun _ w' => .ok .skip w') := by
  simp only [execOp, Sem.run_bind, storeO, Sem.run_pure]
end
theorem loadO_at {w : World} {b o : Nat} {x : Oo} (h : CAt w b o (cellsO x)) : loadO Try.prog (.pointer (some ⟨b, o, none⟩)) w = .ok (valO x) w := by
  have h0 := h 0 _ rfl
  have h1 := h 1 _ rfl
  have h2 := h 2 _ rfl
  have h3 := h 3 _ rfl
  have h4 := h 4 _ rfl
  have h5 := h 5 _ rfl
  simp only [Nat.add_zero] at h0
  unfold loadO valO
  simp [go_sem, h0, h1, h2, h3, h4, h5]
  try rfl
theorem storeO_at {w : World} {b o : Nat} {x : Oo} {ys : List Value} (hy : ys.length = 6) (h : CAt w b o ys) (f : ∀ j, w.frozen? ⟨b, j, none⟩ = false) : storeO Try.prog (.pointer (some ⟨b, o, none⟩)) (valO x) w = .ok () (w.setCells b o (cellsO x)) := by
  obtain ⟨y0, y1, y2, y3, y4, y5, rfl⟩ : ∃ y0 y1 y2 y3 y4 y5, ys = [y0, y1, y2, y3, y4, y5] := by
    match ys, hy with
    | [y0, y1, y2, y3, y4, y5], _ => exact ⟨y0, y1, y2, y3, y4, y5, rfl⟩
  have h0 := h 0 _ rfl
  have h1 := h 1 _ rfl
  have h2 := h 2 _ rfl
  have h3 := h 3 _ rfl
  have h4 := h 4 _ rfl
  have h5 := h 5 _ rfl
  simp only [Nat.add_zero] at h0
  unfold storeO valO
  simp [go_sem, h0, h1, h2, h3, h4, h5, f, cellsO, World.setCells]
  try rfl
/-- Stored in a block of its own. -/
theorem own_storeO {w1 : World} {mb : Nat} {ys : List Value} (hy : ys.length = 6) (hb : w1.heap[mb]? = some (.cells ys.toArray 34)) (x : Oo) :
    ∃ W, storeO Try.prog (.pointer (some ⟨mb, 0, none⟩)) (valO x) w1 = .ok () W ∧ Upd (fun k => k = mb) w1 W ∧ W.heap[mb]? = some (.cells (cellsO x).toArray 34) := by
  refine ⟨w1.setCells mb 0 (cellsO x), storeO_at hy (cat_new hb) (fun j => by simp [World.frozen?, hb]), Upd.setCells (F := fun k => k = mb) rfl _ _ (Upd.refl _ _), ?_⟩
  match ys, hy with
  | [y0, y1, y2, y3, y4, y5], _ => simp [cellsO, World.setCells, World.setCell, Array.getElem?_modify, hb]
theorem own_loadO {W : World} {mb : Nat} {x : Oo} (h : W.heap[mb]? = some (.cells (cellsO x).toArray 34)) : loadO Try.prog (.pointer (some ⟨mb, 0, none⟩)) W = .ok (valO x) W := loadO_at (cat_new h)
/-- Stored in a new block. -/
theorem new_storeO (w2 : World) (x : Oo) :
    ∃ W3, storeO Try.prog (.pointer (some ⟨w2.heap.size, 0, none⟩)) (valO x) (w2.alloc zO) = .ok () W3 ∧ Below w2.heap.size w2 W3 ∧ W3.heap[w2.heap.size]? = some (.cells (cellsO x).toArray 34) := by
  obtain ⟨V3, hV3⟩ : ∃ V3, w2.alloc zO = V3 := ⟨_, rfl⟩
  have hb3 : Below w2.heap.size w2 V3 := by rw [← hV3]; exact (Below.refl _ w2).alloc (Nat.le_refl _) _
  have hn3 : V3.heap[w2.heap.size]? = some zO := by rw [← hV3]; exact alloc_newM _ _
  obtain ⟨W3, hst, hu3, hc3⟩ := own_storeO (ys := [.int .i64 0, .int .u64 0, .int .u64 0, .int .i64 0, .int .u64 0, .int .i64 0]) rfl hn3 x
  rw [hV3]
  exact ⟨W3, hst, hb3.trans (hu3.below (B := w2.heap.size) (fun k e => by have : k = w2.heap.size := e; omega) hb3.size), hc3⟩
def cellsT (x : Tb) : List Value := [.int .u64 x.1, .slice x.2.1 x.2.2.1 x.2.2.2]
def valT (x : Tb) : Value := .agg #[.int .u64 x.1, .slice x.2.1 x.2.2.1 x.2.2.2]
def zT : Obj := .cells #[.int .u64 0, .slice none 0 0] 29
def loadT (P : Program) (x : Value) (w : World) : Result Value := (Instr.loadAt 29 x).run P w
def storeT (P : Program) (x y : Value) (w : World) : Result Unit := (Instr.storeAt 29 x y).run P w
section
variable (ρ : Operand → Value) (x y : Operand) (dst : Option Tmp) (ty : TypeId) (pos : String) (af : Array Edge) (g : Option (Nat × Bool)) (w : World)
theorem exec_load_T : (execOp ρ ⟨dst, .load 29 x, ty, pos, af, g⟩).run Try.prog w = (loadT Try.prog (ρ x) w).andThen (fun v w' => .ok (.value v) w') := by
  simp only [execOp, Sem.run_bind, loadT, Sem.run_pure]
theorem exec_store_T : (execOp ρ ⟨dst, .store 29 x y, ty, pos, af, g⟩).run Try.prog w = (storeT Try.prog (ρ x) (ρ y) w).andThen (fun _ w' => .ok .skip w') := by
  simp only [execOp, Sem.run_bind, storeT, Sem.run_pure]
end
theorem loadT_at {w : World} {b o : Nat} {x : Tb} (h : CAt w b o (cellsT x)) : loadT Try.prog (.pointer (some ⟨b, o, none⟩)) w = .ok (valT x) w := by
  have h0 := h 0 _ rfl
  have h1 := h 1 _ rfl
  simp only [Nat.add_zero] at h0
  unfold loadT valT
  simp [go_sem, h0, h1]
  try rfl
theorem storeT_at {w : World} {b o : Nat} {x : Tb} {ys : List Value} (hy : ys.length = 2) (h : CAt w b o ys) (f : ∀ j, w.frozen? ⟨b, j, none⟩ = false) : storeT Try.prog (.pointer (some ⟨b, o, none⟩)) (valT x) w = .ok () (w.setCells b o (cellsT x)) := by
  obtain ⟨y0, y1, rfl⟩ : ∃ y0 y1, ys = [y0, y1] := by
    match ys, hy with
    | [y0, y1], _ => exact ⟨y0, y1, rfl⟩
  have h0 := h 0 _ rfl
  have h1 := h 1 _ rfl
  simp only [Nat.add_zero] at h0
  unfold storeT valT
  simp [go_sem, h0, h1, f, cellsT, World.setCells]
  try rfl
/-- Stored in a block of its own. -/
theorem own_storeT {w1 : World} {mb : Nat} {ys : List Value} (hy : ys.length = 2) (hb : w1.heap[mb]? = some (.cells ys.toArray 29)) (x : Tb) :
    ∃ W, storeT Try.prog (.pointer (some ⟨mb, 0, none⟩)) (valT x) w1 = .ok () W ∧ Upd (fun k => k = mb) w1 W ∧ W.heap[mb]? = some (.cells (cellsT x).toArray 29) := by
  refine ⟨w1.setCells mb 0 (cellsT x), storeT_at hy (cat_new hb) (fun j => by simp [World.frozen?, hb]), Upd.setCells (F := fun k => k = mb) rfl _ _ (Upd.refl _ _), ?_⟩
  match ys, hy with
  | [y0, y1], _ => simp [cellsT, World.setCells, World.setCell, Array.getElem?_modify, hb]
theorem own_loadT {W : World} {mb : Nat} {x : Tb} (h : W.heap[mb]? = some (.cells (cellsT x).toArray 29)) : loadT Try.prog (.pointer (some ⟨mb, 0, none⟩)) W = .ok (valT x) W := loadT_at (cat_new h)
/-- Stored in a new block. -/
theorem new_storeT (w2 : World) (x : Tb) :
    ∃ W3, storeT Try.prog (.pointer (some ⟨w2.heap.size, 0, none⟩)) (valT x) (w2.alloc zT) = .ok () W3 ∧ Below w2.heap.size w2 W3 ∧ W3.heap[w2.heap.size]? = some (.cells (cellsT x).toArray 29) := by
  obtain ⟨V3, hV3⟩ : ∃ V3, w2.alloc zT = V3 := ⟨_, rfl⟩
  have hb3 : Below w2.heap.size w2 V3 := by rw [← hV3]; exact (Below.refl _ w2).alloc (Nat.le_refl _) _
  have hn3 : V3.heap[w2.heap.size]? = some zT := by rw [← hV3]; exact alloc_newM _ _
  obtain ⟨W3, hst, hu3, hc3⟩ := own_storeT (ys := [.int .u64 0, .slice none 0 0]) rfl hn3 x
  rw [hV3]
  exact ⟨W3, hst, hb3.trans (hu3.below (B := w2.heap.size) (fun k e => by have : k = w2.heap.size := e; omega) hb3.size), hc3⟩
end Se
end Go.Proofs.Ytoiikmfdoadkpaa
