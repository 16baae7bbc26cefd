/- Rows as values and in memory: arrays of 25 bytes in blocks of their own. -/
import Derived.Test.YtfhmamalanloaaaDoorLvMath
import Derived.Test.YtfhmamalanloaaaDoorBoundsW
import Derived.Deep.MidRow
import Derived.Stop.BytesEq
import Derived.Handy
namespace Go.Proofs.YtfhmamalanloaaaDoor
open Go.RowKit Nums Ed Lv
set_option maxRecDepth 100000

abbrev bv (n : Nat) : Value := .int .u8 (n : Int)
def rC (v : List Nat) : Array Value := (v.map bv).toArray
def rV (v : List Nat) : Value := .agg (rC v)
theorem rC_size (v : List Nat) : (rC v).size = v.length := by simp [rC]
theorem rC_one (v : List Nat) : (rC v).all (·.oneCell') = true := by
  refine all_oneCell_toArray fun x hx => ?_
  obtain ⟨y, _, rfl⟩ := List.mem_map.1 hx
  rfl
def celV (v : Value) : Array Value := v.cells
theorem rV_cells (v : List Nat) : celV (rV v) = rC v := rfl
def zeros : List Nat := List.replicate 25 0
theorem zeros_mk : zeros = mk fun _ => 0 := by simp [zeros, mk, List.map_const']
theorem zeros_len : zeros.length = 25 := by simp [zeros]
theorem rC_zeros : rC zeros = Array.replicate 25 (.int .u8 0) := by
  rw [rC, zeros, List.map_replicate, List.toArray_replicate]; rfl
theorem alloc_newR (w : World) (o : Obj) : (w.alloc o).heap[w.heap.size]? = some o := (MapKept.heap_alloc w o).1
theorem alloc_oldR (w : World) (o : Obj) {k : Nat} (h : k < w.heap.size) : (w.alloc o).heap[k]? = w.heap[k]? := (MapKept.heap_alloc w o).2 k h
theorem alloc_sizeR (w : World) (o : Obj) : (w.alloc o).heap.size = w.heap.size + 1 := by simp
/-- A row in a block of its own. -/
def RAt (w : World) (b : Nat) (bs : List Nat) : Prop := w.heap[b]? = some (.cells (rC bs) 32 (0, 0))
theorem RAt.lt {w : World} {b : Nat} {bs : List Nat} (h : RAt w b bs) : b < w.heap.size := (Array.getElem?_eq_some_iff.1 h).1
theorem RAt.same {w w' : World} {b : Nat} {bs : List Nat} (h : RAt w b bs) (e : w'.heap[b]? = w.heap[b]?) : RAt w' b bs := e.trans h
theorem RAt.below {w w' : World} {b B : Nat} {bs : List Nat} (h : RAt w b bs) (hB : b < B) (hb : Below B w w') : RAt w' b bs := (hb.block b hB).trans h
theorem RAt.new (w : World) (bs : List Nat) : RAt (w.alloc (.cells (rC bs) 32)) w.heap.size bs := alloc_newR _ _
theorem RAt.old {w : World} {b : Nat} {bs : List Nat} (h : RAt w b bs) (o : Obj) : RAt (w.alloc o) b bs := (alloc_oldR w o h.lt).trans h
theorem range_rC {w : World} {b : Nat} {v : List Nat} {t : TypeId} {f : Nat × Nat} (h : w.heap[b]? = some (.cells (rC v) t f)) : w.rangeAt b 0 (v.map bv) := by
  intro j u hj
  simp only [World.cell?, h, Nat.zero_add, rC]
  simpa using hj
theorem RAt.range {w : World} {b : Nat} {bs : List Nat} (h : RAt w b bs) : w.rangeAt b 0 (bs.map bv) := range_rC h
theorem RAt.cell {w : World} {b : Nat} {bs : List Nat} (h : RAt w b bs) {i : Nat} (hi : i < bs.length) : w.cell? ⟨b, i, none⟩ = some (bv (bs.getD i 0)) := by
  have := h.range i (bv (bs.getD i 0)) (by rw [List.getElem?_map, List.getElem?_eq_getElem hi]; simp [List.getD_eq_getElem?_getD, List.getElem?_eq_getElem hi])
  simpa using this
theorem RAt.frozen {w : World} {b : Nat} {bs : List Nat} (h : RAt w b bs) (o : Nat) : w.frozen? ⟨b, o, none⟩ = false := by
  unfold RAt at h
  simp [World.frozen?, h]
theorem RAt.there {w : World} {b : Nat} {bs : List Nat} (h : RAt w b bs) (n : Nat) (hn : n ≤ bs.length) : w.there b 0 n := fun j hj => ⟨by rw [Nat.zero_add, h.cell (by omega)]; rfl, h.frozen _⟩
theorem RAt.set {w : World} {b k x : Nat} {bs : List Nat} (h : RAt w b bs) : RAt (w.setCell ⟨b, k, none⟩ (bv x)) b (bs.set k x) := by
  unfold RAt at h ⊢
  simp only [World.setCell, Array.getElem?_modify, h]
  simp [rC, List.map_set]
theorem RAt.off {w : World} {b c k : Nat} {bs : List Nat} {v : Value} (h : RAt w b bs) (hne : b ≠ c) : RAt (w.setCell ⟨c, k, none⟩ v) b bs := (Below.heap_setCell _ _ _ _ hne).trans h
/-- Values laid over a block's cells. -/
def spl (C : Array Value) : Nat → List Value → Array Value
  | _, [] => C
  | o, v :: r => spl (C.setIfInBounds o v) (o + 1) r
theorem spl_size (vs : List Value) : ∀ (C : Array Value) (o : Nat), (spl C o vs).size = C.size := by
  induction vs with
  | nil => intro C o; rfl
  | cons v r ih => intro C o; rw [spl, ih]; simp
theorem spl_get (vs : List Value) : ∀ (C : Array Value) (o i : Nat), i < C.size → (spl C o vs)[i]? = if o ≤ i ∧ i < o + vs.length then vs[i - o]? else C[i]? := by
  induction vs with
  | nil => intro C o i hi; rw [spl, if_neg]; simp
  | cons v r ih =>
    intro C o i hi
    rw [spl, ih _ _ _ (by simpa using hi)]
    by_cases h1 : o + 1 ≤ i ∧ i < o + 1 + r.length
    · rw [if_pos h1, if_pos (by simp; omega)]
      have e : i - o = (i - (o + 1)) + 1 := by omega
      rw [e, List.getElem?_cons_succ]
    · rw [if_neg h1]
      by_cases h2 : i = o
      · subst h2
        rw [if_pos (by simp)]
        simp [hi]
      · rw [if_neg (by simp; omega), Array.getElem?_setIfInBounds_ne (by omega)]
theorem spl_full (C : Array Value) (vs : List Value) (h : vs.length = C.size) : spl C 0 vs = vs.toArray := by
  apply Array.ext_getElem?
  intro i
  by_cases hi : i < C.size
  · rw [spl_get _ _ _ _ hi, if_pos (by omega)]; simp
  · rw [Array.getElem?_eq_none (by rw [spl_size]; omega), Array.getElem?_eq_none (by simp; omega)]
/-- All blocks but b are as they were, and there are as many. -/
structure One (b : Nat) (w w' : World) : Prop where
  os : w'.os = w.os
  tape : w'.tape = w.tape
  output : w'.output = w.output
  size : w'.heap.size = w.heap.size
  block : ∀ k, k ≠ b → w'.heap[k]? = w.heap[k]?
theorem one_set (w : World) (p o : Nat) (v : Value) : One p w (w.setCell ⟨p, o, none⟩ v) := ⟨rfl, rfl, rfl, by simp [World.setCell], fun k hk => Below.heap_setCell _ _ _ _ hk⟩
theorem One.trans {p : Nat} {a b c : World} (h : One p a b) (k : One p b c) : One p a c := ⟨k.os.trans h.os, k.tape.trans h.tape, k.output.trans h.output, k.size.trans h.size, fun i hi => (k.block i hi).trans (h.block i hi)⟩
theorem One.below {B p : Nat} {a b c : World} (k : Below B a b) (h : One p b c) (hB : B ≤ p) : Below B a c :=
  k.trans ⟨h.os, h.tape, h.output, Nat.le_of_eq h.size.symm, fun j hj => h.block j (by omega)⟩
theorem setCells_at {b : Nat} {t : TypeId} {f : Nat × Nat} (vs : List Value) : ∀ (w : World) (C : Array Value) (o : Nat), w.heap[b]? = some (.cells C t f) → (w.setCells b o vs).heap[b]? = some (.cells (spl C o vs) t f) ∧ One b w (w.setCells b o vs) := by
  induction vs with
  | nil => intro w C o h; exact ⟨h, ⟨rfl, rfl, rfl, rfl, fun _ _ => rfl⟩⟩
  | cons v r ih =>
    intro w C o h
    have hs : (w.setCell ⟨b, o, none⟩ v).heap[b]? = some (.cells (C.setIfInBounds o v) t f) := by simp [World.setCell, Array.getElem?_modify, h]
    obtain ⟨h1, h2⟩ := ih (w.setCell ⟨b, o, none⟩ v) (C.setIfInBounds o v) (o + 1) hs
    exact ⟨h1, (one_set w b o v).trans h2⟩
/-- A row stored whole. -/
def setR (w : World) (b : Nat) (ys : List Nat) : World := w.setCells b 0 (ys.map bv)
theorem RAt.put {w : World} {b : Nat} {bs ys : List Nat} (h : RAt w b bs) (hl : ys.length = bs.length) : RAt (setR w b ys) b ys ∧ One b w (setR w b ys) := by
  obtain ⟨h1, h2⟩ := setCells_at (ys.map bv) w (rC bs) 0 h
  rw [spl_full _ _ (by rw [List.length_map, rC_size, hl])] at h1
  exact ⟨h1, h2⟩
theorem info_Row : (Tryd.prog.info? 32).map (fun i => (i.zero, i.size, i.bytes)) = some (some (.agg (Array.replicate 25 (.int .u8 0))), 25, 25) := by kernel_rfl
theorem zero_Row (w : World) : (zeroValue 32).run Tryd.prog w = .ok (rV zeros) w := by
  obtain ⟨i, hi, hz, hs, hb⟩ := info_parts info_Row
  rw [rV, rC_zeros]
  simp [zeroValue, typeInfo, hi, hz, Result.andThen]
def loadR (P : Program) (x : Value) (w : World) : Result Value := (Instr.loadAt 32 x).run P w
def storeR (P : Program) (x y : Value) (w : World) : Result Unit := (Instr.storeAt 32 x y).run P w
section
variable (ρ : Operand → Value) (x y : Operand) (dst : Option Tmp) (ty : TypeId) (pos : String) (af : Array Edge) (g : Option (Nat × Bool)) (w : World)
theorem exec_alloc_R : (execOp ρ ⟨dst, .alloc 32, ty, pos, af, g⟩).run Tryd.prog w = .ok (.value (.pointer (some ⟨w.heap.size, 0, none⟩))) (w.alloc (.cells (rC zeros) 32)) := by
  simp only [execOp, Sem.run_bind, Instr.alloc, zero_Row, Result.andThen, newVar, newRow]
  rfl
theorem exec_box_R : (execOp ρ ⟨dst, .box 32 x, ty, pos, af, g⟩).run Tryd.prog w = .ok (.value (.pointer (some ⟨w.heap.size, 0, none⟩))) (w.alloc (.cells (celV (ρ x)) 32)) := by
  simp only [execOp, Sem.run_bind, Instr.box, newVar, newRow]
  rfl
theorem exec_load_R : (execOp ρ ⟨dst, .load 32 x, ty, pos, af, g⟩).run Tryd.prog w = (loadR Tryd.prog (ρ x) w).andThen (fun v w' => .ok (.value v) w') := by
  simp only [execOp, Sem.run_bind, loadR, Sem.run_pure]
theorem exec_store_R : (execOp ρ ⟨dst, .store 32 x y, ty, pos, af, g⟩).run Tryd.prog w = (storeR Tryd.prog (ρ x) (ρ y) w).andThen (fun _ w' => .ok .skip w') := by
  simp only [execOp, Sem.run_bind, storeR, Sem.run_pure]
end
theorem loadR_at {w : World} {b o : Nat} {bs : List Nat} (h : w.rangeAt b o (bs.map bv)) (hl : bs.length = 25) : loadR Tryd.prog (.pointer (some ⟨b, o, none⟩)) w = .ok (rV bs) w := by
  obtain ⟨i, hi, hz, hs, hb⟩ := info_parts info_Row
  have := run_loadVar_mid (P := Tryd.prog) w b o 32 (bs.map bv) _ h Tryd.underlying32 rfl (by rw [hi]; simp [hs, hl])
  simp only [loadR, Instr.loadAt, Instr.sureAddr, Sem.run_bind, Sem.run_pure, Result.andThen_ok, this]
  rfl
theorem storeR_at {w : World} {b : Nat} {bs vs : List Nat} (h : RAt w b bs) (hl : bs.length = 25) (hv : vs.length = 25) : storeR Tryd.prog (.pointer (some ⟨b, 0, none⟩)) (rV vs) w = .ok () (setR w b vs) := by
  obtain ⟨i, hi, hz, hs, hb⟩ := info_parts info_Row
  rw [storeR, rV, run_storeAt_mid _ _ _ _ (rC vs) (by rw [rC_size]; exact h.there _ (by omega)) (by rw [hi, rC_size]; simp [hs, hv]) (rC_one vs)]
  simp [setR, rC]
/-- A row that a function returns. -/
theorem ret_row {fn : Func} {R : Ending → World → Prop} {a : Act} {w : World} {b s : Nat} {bs : List Nat} (hf : fn.results = #[.cell s 32]) (hs : a.tmps[s]? = some (.pointer (some ⟨b, 0, none⟩))) (hl : bs.length = 25) (h : RAt w b bs) (hd : a.defers = []) (hR : R (.returned (rV bs)) w) : bodyPost Tryd.prog fn R .ret a w := by
  refine bodyPost_ret ?_ hd hR
  obtain ⟨i, hi, hz, hz1, hb⟩ := info_parts info_Row
  have h2 := run_loadVar_mid (P := Tryd.prog) w b 0 32 (bs.map bv) _ h.range Tryd.underlying32 rfl (by rw [hi]; simp [hz1, hl])
  simp [results, hf, hs, asAddr]
  exact h2
theorem rC_cell {l : List Nat} (h : ∀ x ∈ l, x < 256) : rC l = ((l.map UInt8.ofNat).map Extern.Stop.cell).toArray := by
  unfold rC
  congr 1
  rw [List.map_map]
  refine List.map_congr_left fun x hx => ?_
  have hx2 := h x hx
  simp [Extern.Stop.cell, Nat.mod_eq_of_lt hx2]
theorem ofNat_inj : ∀ {l m : List Nat}, (∀ x ∈ l, x < 256) → (∀ x ∈ m, x < 256) → l.map UInt8.ofNat = m.map UInt8.ofNat → l = m
  | [], [], _, _, _ => rfl
  | [], _ :: _, _, _, h => by simp at h
  | _ :: _, [], _, _, h => by simp at h
  | x :: l, y :: m, h1, h2, h => by
    simp only [List.map_cons, List.cons.injEq] at h
    have hx := h1 x (.head _)
    have hy := h2 y (.head _)
    have h3 := congrArg UInt8.toNat h.1
    simp [Nat.mod_eq_of_lt hx, Nat.mod_eq_of_lt hy] at h3
    rw [h3, ofNat_inj (fun z hz => h1 z (.tail _ hz)) (fun z hz => h2 z (.tail _ hz)) h.2]
theorem infoB : (Tryd.prog.info? 5).map (fun i => (i.zero, i.size, i.bytes)) = some (some (.int .u8 0), 1, 1) := by kernel_rfl
theorem eql_row {bs cs : List Nat} (hb : bs.length = 25) (hc : cs.length = 25) (h1 : ∀ x ∈ bs, x < 256) (h2 : ∀ x ∈ cs, x < 256) (w : World) :
    (binOp .eql 32 (rV bs) (rV cs)).run Tryd.prog w = .ok (.bool (decide (bs = cs))) w := by
  obtain ⟨i0, hi, hz0, hz1, hz2⟩ := info_parts infoB
  have hsz : ∀ w, (sizeOf 5).run Tryd.prog w = .ok 1 w := fun w => by simp [sizeOf, typeInfo, hi, hz1, Result.andThen]
  unfold rV
  rw [rC_cell h1, rC_cell h2, run_eql_bytes w 32 5 25 Tryd.underlying32 Tryd.underlying5 hsz _ _ (by simpa using hb) (by simpa using hc)]
  congr 2
  rw [Bool.eq_iff_iff, beq_iff_eq, decide_eq_true_iff]
  exact ⟨ofNat_inj h1 h2, fun h => by rw [h]⟩
theorem neq_row {bs cs : List Nat} (hb : bs.length = 25) (hc : cs.length = 25) (h1 : ∀ x ∈ bs, x < 256) (h2 : ∀ x ∈ cs, x < 256) (w : World) :
    (binOp .neq 32 (rV bs) (rV cs)).run Tryd.prog w = .ok (.bool (!decide (bs = cs))) w := by
  have h := eql_row hb hc h1 h2 w
  unfold rV at h ⊢
  rw [run_eql_struct] at h
  rw [run_neq_struct]
  generalize (Op.equalIn 10000 32 (.agg (rC bs)) (.agg (rC cs))).run Tryd.prog w = o at h ⊢
  cases o with
  | ok b w1 =>
    simp only [Result.andThen_ok, Result.ok.injEq, Value.bool.injEq] at h
    obtain ⟨rfl, rfl⟩ := h
    rfl
  | _ => simp [Result.andThen] at h
theorem guard_row (op : BinOp) (x y : Operand) (bs cs : List Nat) (W : World) : (eqGuard op 32 x y (rV bs) (rV cs)).run Tryd.prog W = .ok () W := run_eqGuard_agg W _ _ x y _ _ (by kernel_rfl)
end Go.Proofs.YtfhmamalanloaaaDoor
