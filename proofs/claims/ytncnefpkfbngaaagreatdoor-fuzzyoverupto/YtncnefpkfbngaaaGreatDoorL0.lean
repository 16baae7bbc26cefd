/- Texts that were written apart, joined. -/
import Derived.Test.YtncnefpkfbngaaaGreatDoorE0
import Derived.Test.YtncnefpkfbngaaaGreatDoorE3
import Derived.Deep.MidRow
import Derived.Stop.BytesEq
import Derived.Handy
import Derived.Test.YtncnefpkfbngaaaGreatDoorGb
/- Rows as values and in memory: arrays of 25 bytes in blocks of their own. -/
namespace Go.Proofs.YtncnefpkfbngaaaGreatDoor
open Go.RowKit Nums Ed Lv
set_option maxRecDepth 100000

abbrev bv (n : Nat) : Value := .int .u8 (n : Int)
def rC (v : List Nat) : Array Value := (v.map bv).toArray
def rV (v : List Nat) : Value := .agg (rC v)
theorem rC_size (v : List Nat) : (rC v).size = v.length := by simp [rC]
theorem rC_one (v : List Nat) : (rC v).all (·.oneCell') = true := by
 refine all_oneCell_toArray fun x hx => ?_
 obtain ⟨y, _, rfl⟩ := List.mem_map.1 hx
 rfl
def celV (v : Value) : Array Value := v.cells
theorem rV_cells (v : List Nat) : celV (rV v) = rC v := rfl
def zeros : List Nat := List.replicate 25 0
theorem zeros_mk : zeros = mk fun _ => 0 := by simp [zeros, mk, List.map_const']
theorem zeros_len : zeros.length = 25 := by simp [zeros]
theorem rC_zeros : rC zeros = Array.replicate 25 (.int .u8 0) := by
 rw [rC, zeros, List.map_replicate, List.toArray_replicate]; rfl
theorem alloc_newR (w : World) (o : Obj) : (w.alloc o).heap[w.heap.size]? = some o := (MapKept.heap_alloc w o).1
theorem alloc_oldR (w : World) (o : Obj) {k : Nat} (h : k < w.heap.size) : (w.alloc o).heap[k]? = w.heap[k]? := (MapKept.heap_alloc w o).2 k h
theorem alloc_sizeR (w : World) (o : Obj) : (w.alloc o).heap.size = w.heap.size + 1 := by simp
/-- A row in a block of its own. -/
def RAt (w : World) (b : Nat) (bs : List Nat) : Prop := w.heap[b]? = some (.cells (rC bs) 71 (0, 0))
theorem RAt.lt {w : World} {b : Nat} {bs : List Nat} (h : RAt w b bs) : b < w.heap.size := (Array.getElem?_eq_some_iff.1 h).1
theorem RAt.same {w w' : World} {b : Nat} {bs : List Nat} (h : RAt w b bs) (e : w'.heap[b]? = w.heap[b]?) : RAt w' b bs := e.trans h
theorem RAt.below {w w' : World} {b B : Nat} {bs : List Nat} (h : RAt w b bs) (hB : b < B) (hb : Below B w w') : RAt w' b bs := (hb.block b hB).trans h
theorem RAt.new (w : World) (bs : List Nat) : RAt (w.alloc (.cells (rC bs) 71)) w.heap.size bs := alloc_newR _ _
theorem RAt.old {w : World} {b : Nat} {bs : List Nat} (h : RAt w b bs) (o : Obj) : RAt (w.alloc o) b bs := (alloc_oldR w o h.lt).trans h
theorem range_rC {w : World} {b : Nat} {v : List Nat} {t : TypeId} {f : Nat × Nat} (h : w.heap[b]? = some (.cells (rC v) t f)) : w.rangeAt b 0 (v.map bv) := by
 intro j u hj
 simp only [World.cell?, h, Nat.zero_add, rC]
 simpa using hj
theorem RAt.range {w : World} {b : Nat} {bs : List Nat} (h : RAt w b bs) : w.rangeAt b 0 (bs.map bv) := range_rC h
theorem RAt.cell {w : World} {b : Nat} {bs : List Nat} (h : RAt w b bs) {i : Nat} (hi : i < bs.length) : w.cell? ⟨b, i, none⟩ = some (bv (bs.getD i 0)) := by
 have := h.range i (bv (bs.getD i 0)) (by rw [List.getElem?_map, List.getElem?_eq_getElem hi]; simp [List.getD_eq_getElem?_getD, List.getElem?_eq_getElem hi])
 simpa using this
theorem RAt.frozen {w : World} {b : Nat} {bs : List Nat} (h : RAt w b bs) (o : Nat) : w.frozen? ⟨b, o, none⟩ = false := by
 unfold RAt at h
 simp [World.frozen?, h]
theorem RAt.there {w : World} {b : Nat} {bs : List Nat} (h : RAt w b bs) (n : Nat) (hn : n ≤ bs.length) : w.there b 0 n := fun j hj => ⟨by rw [Nat.zero_add, h.cell (by omega)]; rfl, h.frozen _⟩
theorem RAt.set {w : World} {b k x : Nat} {bs : List Nat} (h : RAt w b bs) : RAt (w.setCell ⟨b, k, none⟩ (bv x)) b (bs.set k x) := by
 unfold RAt at h ⊢
 simp only [World.setCell, Array.getElem?_modify, h]
 simp [rC, List.map_set]
theorem RAt.off {w : World} {b c k : Nat} {bs : List Nat} {v : Value} (h : RAt w b bs) (hne : b ≠ c) : RAt (w.setCell ⟨c, k, none⟩ v) b bs := (Below.heap_setCell _ _ _ _ hne).trans h
/-- Values laid over a block's cells. -/
def spl (C : Array Value) : Nat → List Value → Array Value
 | _, [] => C
 | o, v :: r => spl (C.setIfInBounds o v) (o + 1) r
theorem spl_size (vs : List Value) : ∀ (C : Array Value) (o : Nat), (spl C o vs).size = C.size := by
 induction vs with
 | nil => intro C o; rfl
 | cons v r ih => intro C o; rw [spl, ih]; simp
theorem spl_get (vs : List Value) : ∀ (C : Array Value) (o i : Nat), i < C.size → (spl C o vs)[i]? = if o ≤ i ∧ i < o + vs.length then vs[i - o]? else C[i]? := by
 induction vs with
 | nil => intro C o i hi; rw [spl, if_neg]; simp
 | cons v r ih =>
  intro C o i hi
  rw [spl, ih _ _ _ (by simpa using hi)]
  by_cases h1 : o + 1 ≤ i ∧ i < o + 1 + r.length
  · rw [if_pos h1, if_pos (by simp; omega)]
    have e : i - o = (i - (o + 1)) + 1 := by omega
    rw [e, List.getElem?_cons_succ]
  · rw [if_neg h1]
    by_cases h2 : i = o
    · subst h2
      rw [if_pos (by simp)]
      simp [hi]
    · rw [if_neg (by simp; omega), Array.getElem?_setIfInBounds_ne (by omega)]
theorem spl_full (C : Array Value) (vs : List Value) (h : vs.length = C.size) : spl C 0 vs = vs.toArray := by
 apply Array.ext_getElem?
 intro i
 by_cases hi : i < C.size
 · rw [spl_get _ _ _ _ hi, if_pos (by omega)]; simp
 · rw [Array.getElem?_eq_none (by rw [spl_size]; omega), Array.getElem?_eq_none (by simp; omega)]
/-- All blocks but b are as they were, and there are as many. -/
structure One (b : Nat) (w w' : World) : Prop where
 os : w'.os = w.os
 tape : w'.tape = w.tape
 output : w'.output = w.output
 size : w'.heap.size = w.heap.size
 block : ∀ k, k ≠ b → w'.heap[k]? = w.heap[k]?
theorem one_set (w : World) (p o : Nat) (v : Value) : One p w (w.setCell ⟨p, o, none⟩ v) := ⟨rfl, rfl, rfl, by simp [World.setCell], fun k hk => Below.heap_setCell _ _ _ _ hk⟩
theorem One.trans {p : Nat} {a b c : World} (h : One p a b) (k : One p b c) : One p a c := ⟨k.os.trans h.os, k.tape.trans h.tape, k.output.trans h.output, k.size.trans h.size, fun i hi => (k.block i hi).trans (h.block i hi)⟩
theorem One.below {B p : Nat} {a b c : World} (k : Below B a b) (h : One p b c) (hB : B ≤ p) : Below B a c :=
 k.trans ⟨h.os, h.tape, h.output, Nat.le_of_eq h.size.symm, fun j hj => h.block j (by omega)⟩
theorem setCells_at {b : Nat} {t : TypeId} {f : Nat × Nat} (vs : List Value) : ∀ (w : World) (C : Array Value) (o : Nat), w.heap[b]? = some (.cells C t f) → (w.setCells b o vs).heap[b]? = some (.cells (spl C o vs) t f) ∧ One b w (w.setCells b o vs) := by
 induction vs with
 | nil => intro w C o h; exact ⟨h, ⟨rfl, rfl, rfl, rfl, fun _ _ => rfl⟩⟩
 | cons v r ih =>
  intro w C o h
  have hs : (w.setCell ⟨b, o, none⟩ v).heap[b]? = some (.cells (C.setIfInBounds o v) t f) := by simp [World.setCell, Array.getElem?_modify, h]
  obtain ⟨h1, h2⟩ := ih (w.setCell ⟨b, o, none⟩ v) (C.setIfInBounds o v) (o + 1) hs
  exact ⟨h1, (one_set w b o v).trans h2⟩
/-- A row stored whole. -/
def setR (w : World) (b : Nat) (ys : List Nat) : World := w.setCells b 0 (ys.map bv)
theorem RAt.put {w : World} {b : Nat} {bs ys : List Nat} (h : RAt w b bs) (hl : ys.length = bs.length) : RAt (setR w b ys) b ys ∧ One b w (setR w b ys) := by
 obtain ⟨h1, h2⟩ := setCells_at (ys.map bv) w (rC bs) 0 h
 rw [spl_full _ _ (by rw [List.length_map, rC_size, hl])] at h1
 exact ⟨h1, h2⟩
theorem info_Row : (Tryz.prog.info? 71).map (fun i => (i.zero, i.size, i.bytes)) = some (some (.agg (Array.replicate 25 (.int .u8 0))), 25, 25) := by kernel_rfl
theorem zero_Row (w : World) : (zeroValue 71).run Tryz.prog w = .ok (rV zeros) w := by
 obtain ⟨i, hi, hz, hs, hb⟩ := info_parts info_Row
 rw [rV, rC_zeros]
 simp [zeroValue, typeInfo, hi, hz, Result.andThen]
def loadR (P : Program) (x : Value) (w : World) : Result Value := (Instr.loadAt 71 x).run P w
def storeR (P : Program) (x y : Value) (w : World) : Result Unit := (Instr.storeAt 71 x y).run P w
section
variable (ρ : Operand → Value) (x y : Operand) (dst : Option Tmp) (ty : TypeId) (pos : String) (af : Array Edge) (g : Option (Nat × Bool)) (w : World)
theorem exec_alloc_R : (execOp ρ ⟨dst, .alloc 71, ty, pos, af, g⟩).run Tryz.prog w = .ok (.value (.pointer (some ⟨w.heap.size, 0, none⟩))) (w.alloc (.cells (rC zeros) 71)) := by
 simp only [execOp, Sem.run_bind, Instr.alloc, zero_Row, Result.andThen, newVar, newRow]
 rfl
theorem exec_box_R : (execOp ρ ⟨dst, .box 71 x, ty, pos, af, g⟩).run Tryz.prog w = .ok (.value (.pointer (some ⟨w.heap.size, 0, none⟩))) (w.alloc (.cells (celV (ρ x)) 71)) := by
 simp only [execOp, Sem.run_bind, Instr.box, newVar, newRow]
 rfl
theorem exec_load_R : (execOp ρ ⟨dst, .load 71 x, ty, pos, af, g⟩).run Tryz.prog w = (loadR Tryz.prog (ρ x) w).andThen (fun v w' => .ok (.value v) w') := by
 simp only [execOp, Sem.run_bind, loadR, Sem.run_pure]
theorem exec_store_R : (execOp ρ ⟨dst, .store 71 x y, ty, pos, af, g⟩).run Tryz.prog w = (storeR Tryz.prog (ρ x) (ρ y) w).andThen (fun _ w' => .ok .skip w') := by
 simp only [execOp, Sem.run_bind, storeR, Sem.run_pure]
end
theorem loadR_at {w : World} {b o : Nat} {bs : List Nat} (h : w.rangeAt b o (bs.map bv)) (hl : bs.length = 25) : loadR Tryz.prog (.pointer (some ⟨b, o, none⟩)) w = .ok (rV bs) w := by
 obtain ⟨i, hi, hz, hs, hb⟩ := info_parts info_Row
 have := run_loadVar_mid (P := Tryz.prog) w b o 71 (bs.map bv) _ h Tryz.underlying71 rfl (by rw [hi]; simp [hs, hl])
 simp only [loadR, Instr.loadAt, Instr.sureAddr, Sem.run_bind, Sem.run_pure, Result.andThen_ok, this]
 rfl
theorem storeR_at {w : World} {b : Nat} {bs vs : List Nat} (h : RAt w b bs) (hl : bs.length = 25) (hv : vs.length = 25) : storeR Tryz.prog (.pointer (some ⟨b, 0, none⟩)) (rV vs) w = .ok () (setR w b vs) := by
 obtain ⟨i, hi, hz, hs, hb⟩ := info_parts info_Row
 rw [storeR, rV, run_storeAt_mid _ _ _ _ (rC vs) (by rw [rC_size]; exact h.there _ (by omega)) (by rw [hi, rC_size]; simp [hs, hv]) (rC_one vs)]
 simp [setR, rC]
/-- A row that a function returns. -/
theorem ret_row {fn : Func} {R : Ending → World → Prop} {a : Act} {w : World} {b s : Nat} {bs : List Nat} (hf : fn.results = #[.cell s 71]) (hs : a.tmps[s]? = some (.pointer (some ⟨b, 0, none⟩))) (hl : bs.length = 25) (h : RAt w b bs) (hd : a.defers = []) (hR : R (.returned (rV bs)) w) : bodyPost Tryz.prog fn R .ret a w := by
 refine bodyPost_ret ?_ hd hR
 obtain ⟨i, hi, hz, hz1, hb⟩ := info_parts info_Row
 have h2 := run_loadVar_mid (P := Tryz.prog) w b 0 71 (bs.map bv) _ h.range Tryz.underlying71 rfl (by rw [hi]; simp [hz1, hl])
 simp [results, hf, hs, asAddr]
 exact h2
theorem rC_cell {l : List Nat} (h : ∀ x ∈ l, x < 256) : rC l = ((l.map UInt8.ofNat).map Extern.Stop.cell).toArray := by
 unfold rC
 congr 1
 rw [List.map_map]
 refine List.map_congr_left fun x hx => ?_
 have hx2 := h x hx
 simp [Extern.Stop.cell, Nat.mod_eq_of_lt hx2]
theorem ofNat_inj : ∀ {l m : List Nat}, (∀ x ∈ l, x < 256) → (∀ x ∈ m, x < 256) → l.map UInt8.ofNat = m.map UInt8.ofNat → l = m
 | [], [], _, _, _ => rfl
 | [], _ :: _, _, _, h => by simp at h
 | _ :: _, [], _, _, h => by simp at h
 | x :: l, y :: m, h1, h2, h => by
  simp only [List.map_cons, List.cons.injEq] at h
  have hx := h1 x (.head _)
  have hy := h2 y (.head _)
  have h3 := congrArg UInt8.toNat h.1
  simp [Nat.mod_eq_of_lt hx, Nat.mod_eq_of_lt hy] at h3
  rw [h3, ofNat_inj (fun z hz => h1 z (.tail _ hz)) (fun z hz => h2 z (.tail _ hz)) h.2]
theorem infoB : (Tryz.prog.info? 5).map (fun i => (i.zero, i.size, i.bytes)) = some (some (.int .u8 0), 1, 1) := by kernel_rfl
theorem eql_row {bs cs : List Nat} (hb : bs.length = 25) (hc : cs.length = 25) (h1 : ∀ x ∈ bs, x < 256) (h2 : ∀ x ∈ cs, x < 256) (w : World) :
 (binOp .eql 71 (rV bs) (rV cs)).run Tryz.prog w = .ok (.bool (decide (bs = cs))) w := by
 obtain ⟨i0, hi, hz0, hz1, hz2⟩ := info_parts infoB
 have hsz : ∀ w, (sizeOf 5).run Tryz.prog w = .ok 1 w := fun w => by simp [sizeOf, typeInfo, hi, hz1, Result.andThen]
 unfold rV
 rw [rC_cell h1, rC_cell h2, run_eql_bytes w 71 5 25 Tryz.underlying71 Tryz.underlying5 hsz _ _ (by simpa using hb) (by simpa using hc)]
 congr 2
 rw [Bool.eq_iff_iff, beq_iff_eq, decide_eq_true_iff]
 exact ⟨ofNat_inj h1 h2, fun h => by rw [h]⟩
theorem neq_row {bs cs : List Nat} (hb : bs.length = 25) (hc : cs.length = 25) (h1 : ∀ x ∈ bs, x < 256) (h2 : ∀ x ∈ cs, x < 256) (w : World) :
 (binOp .neq 71 (rV bs) (rV cs)).run Tryz.prog w = .ok (.bool (!decide (bs = cs))) w := by
 have h := eql_row hb hc h1 h2 w
 unfold rV at h ⊢
 rw [run_eql_struct] at h
 rw [run_neq_struct]
 generalize (Op.equalIn 10000 71 (.agg (rC bs)) (.agg (rC cs))).run Tryz.prog w = o at h ⊢
 cases o with
 | ok b w1 =>
  simp only [Result.andThen_ok, Result.ok.injEq, Value.bool.injEq] at h
  obtain ⟨rfl, rfl⟩ := h
  rfl
 | _ => simp [Result.andThen] at h
theorem guard_row (op : BinOp) (x y : Operand) (bs cs : List Nat) (W : World) : (eqGuard op 71 x y (rV bs) (rV cs)).run Tryz.prog W = .ok () W := run_eqGuard_agg W _ _ x y _ _ (by kernel_rfl)
end Go.Proofs.YtncnefpkfbngaaaGreatDoor

/- lev.Lev in memory; cut. -/
namespace Go.Proofs.YtncnefpkfbngaaaGreatDoor
open Go.RowKit Nums Ed Lv
set_option maxRecDepth 100000

/-- The cells of an automaton. -/
def levC (v : Value) (bs : List Nat) : Array Value := (v :: bs.map bv).toArray
/-- The automaton at block p reads the word xs with d edits. -/
structure LevAt (w : World) (p : Nat) (xs : List Int) (d : Nat) : Prop where
 len : xs.length ≤ 24
 few : d ≤ 3
 ex : ∃ ad cap, w.heap[p]? = some (.cells (levC (.slice ad xs.length cap) (deadL xs.length d)) 77 (0, 0)) ∧ RunesAt w.heap.size w (.slice ad xs.length cap) xs
theorem LevAt.below {w w' : World} {p : Nat} {xs : List Int} {d : Nat} (h : LevAt w p xs d) (hb : Below w.heap.size w w') : LevAt w' p xs d := by
 obtain ⟨h1, h2, ad, cap, hp, hr⟩ := h
 exact ⟨h1, h2, ad, cap, (hb.block p (Array.getElem?_eq_some_iff.1 hp).1).trans hp, (hr.below hb).mono hb.size⟩
theorem LevAt.lt {w : World} {p : Nat} {xs : List Int} {d : Nat} (h : LevAt w p xs d) : p < w.heap.size := by
 obtain ⟨_, _, ad, cap, hp, _⟩ := h
 exact (Array.getElem?_eq_some_iff.1 hp).1
theorem lev_range {w : World} {p : Nat} {v : Value} {bs : List Nat} {t : TypeId} {f : Nat × Nat} (h : w.heap[p]? = some (.cells (levC v bs) t f)) : w.rangeAt p 1 (bs.map bv) := by
 intro j u hj
 simp only [World.cell?, h, levC]
 simpa [Nat.add_comm] using hj
theorem lev_word {w : World} {p : Nat} {v : Value} {bs : List Nat} {t : TypeId} {f : Nat × Nat} (h : w.heap[p]? = some (.cells (levC v bs) t f)) : w.cell? ⟨p, 0, none⟩ = some v := by
 simp [World.cell?, h, levC]
theorem deadL_len (n d : Nat) : (deadL n d).length = 25 := mk_len _
theorem deadL_get (n d : Nat) {j : Nat} (h : j < 25) : (deadL n d).getD j 0 = dd n d j := mk_getD _ h
theorem lev_dead {w : World} {p : Nat} {v : Value} {n d : Nat} {t : TypeId} {f : Nat × Nat} (h : w.heap[p]? = some (.cells (levC v (deadL n d)) t f)) {j : Nat} (hj : j < 25) : w.cell? ⟨p, 1 + j, none⟩ = some (bv (dd n d j)) := by
 have := lev_range h j (bv (dd n d j)) (by rw [List.getElem?_map, deadL, mk_get _ hj]; rfl)
 simpa using this
/-- What an array's number is. -/
theorem index_row (bs : List Nat) (j : Nat) (hj : j < bs.length) (hl : bs.length = 25) (w : World) : (Instr.index 71 (rV bs) (.int .i64 (j : Int))).run Tryz.prog w = .ok (bv (bs.getD j 0)) w := by
 obtain ⟨i0, hi, hz0, hz1, hz2⟩ := info_parts infoB
 have hsz : (sizeOf 5).run Tryz.prog w = .ok 1 w := by simp [sizeOf, typeInfo, hi, hz1, Result.andThen]
 have hc : (rC bs)[j]? = some (bv (bs.getD j 0)) := by
  simp [rC, List.getD_eq_getElem?_getD, List.getElem?_eq_getElem hj]
 simp [Instr.index, rV, run_underlying Tryz.underlying71, asIntOf, part, hsz, hc, go_sem]
 omega
def min2 (a b : Int) : Int := if b < a then b else a
theorem run_min2 (ts : Array TypeId) (ty : TypeId) (k : IntKind) (a b : Int) (w : World) : (Builtin.min_ ts ty #[.int k a, .int k b]).run Tryz.prog w = .ok (.int k (min2 a b)) w := by
 simp [Builtin.min_, Builtin.min2, min2, Sem.run_pure]
attribute [local go_sem ↓] exec_alloc_R exec_box_R exec_load_R exec_store_R run_min2
attribute [local go_sem] rV_cells
set_option maxHeartbeats 1000000 in
theorem cut_any (p : Nat) (xs : List Int) (d : Nat) (s : List Nat) (w : World) (h : LevAt w p xs d) (hs : s.length = 25) :
 Calls Tryz.prog 58 #[.pointer (some ⟨p, 0, none⟩), rV s] w fun e w' => e = .returned (rV (cutL xs.length d s)) ∧ Below w.heap.size w w' := by
 obtain ⟨hn, hd, ad, cap, hp, hr⟩ := h
 have hpl : p < w.heap.size := (Array.getElem?_eq_some_iff.1 hp).1
 obtain ⟨w2, hw2⟩ : ∃ w2, (w.alloc (.cells (rC s) 71)).alloc (.cells (rC zeros) 71) = w2 := ⟨_, rfl⟩
 have A2 : Hid (RAt w2 w.heap.size s) := hw2 ▸ (RAt.new w _).old _
 have C2 : Hid (RAt w2 (w.heap.size + 1) zeros) := by
  have := RAt.new (w.alloc (.cells (rC s) 71)) zeros
  rw [alloc_sizeR] at this
  exact hw2 ▸ this
 have B2 : Hid (Below w.heap.size w w2) := hw2 ▸ ((Below.refl _ w).alloc (Nat.le_refl _) _).alloc (by simp) _
 have HW : Hid ((w.alloc (.cells (rC s) 71)).alloc (.cells (rC zeros) 71) = w2) := hw2
 have hld := loadR_at (lev_range ((B2.out.block p hpl).trans hp)) (deadL_len xs.length d)
 clear hw2 hr hp
 go_enter Tryz.func58, Tryz.ntmps58
 go_wp2_with fail
 rw [HW.out, hld]
 clear HW hld
 go_wp2_with fail
 go_loopw [11] (fun v wr => ∃ k : Nat, v = .int .i64 k ∧ k ≤ 25 ∧ RAt wr w.heap.size (cutK xs.length d s k) ∧ RAt wr (w.heap.size + 1) zeros ∧ Below w.heap.size w wr) (fun v _ => 25 - (intOf v).toNat)
 case atStart => exact ⟨0, rfl, by omega, by rw [cutK_zero hs]; exact A2.out, C2.out, B2.out⟩
 case round =>
  clear A2 C2 B2
  obtain ⟨k, rfl, hk, hA, hC, hB⟩ := hrel
  have HA : Hid (RAt wr w.heap.size (cutK xs.length d s k)) := hA
  have HC : Hid (RAt wr (w.heap.size + 1) zeros) := hC
  have HB : Hid (Below w.heap.size w wr) := hB
  have hwr : w.heap.size + 1 < wr.heap.size := hC.lt
  by_cases hk8 : k < 25
  · have hcell := hA.cell (i := k) (by rw [cutK_len]; exact hk8)
    rw [cutK_get _ _ _ hk8] at hcell
    have hfz := hA.frozen k
    have hix := fun w => index_row (deadL xs.length d) k (by rw [deadL_len]; exact hk8) (deadL_len _ _) w
    rw [deadL_get _ _ hk8] at hix
    obtain ⟨x, hx⟩ : ∃ x, s.getD k 0 = x := ⟨_, rfl⟩
    obtain ⟨y, hy⟩ : ∃ y, dd xs.length d k = y := ⟨_, rfl⟩
    have HM : Hid (min2 (x : Int) (y : Int) = (cutF xs.length d s k : Int)) := by
     unfold Hid min2 cutF; rw [hx, hy]; split <;> omega
    rw [hx] at hcell
    rw [hy] at hix
    clear hA hC hB hx hy
    go_wp2_with fail
    rw [HM.out]
    go_roundw
    case rel =>
     refine ⟨k + 1, by go_num, by omega, ?_, HC.out.off (by omega), HB.out.setCell (Nat.le_refl _) _⟩
     rw [← cutK_next _ _ _ hk8]
     exact HA.out.set
    case measure => simp [intOf]; omega
  · obtain rfl : k = 25 := by omega
    rw [cutK_end] at hA
    have hld := loadR_at hA.range (cutL_len xs.length d s)
    have hst := storeR_at hC zeros_len (cutL_len xs.length d s)
    obtain ⟨HP, HO⟩ := hC.put (ys := cutL xs.length d s) (by rw [cutL_len, zeros_len])
    have HBS : Hid (Below w.heap.size w (setR wr (w.heap.size + 1) (cutL xs.length d s))) := HO.below hB (by omega)
    obtain ⟨w5, hw5⟩ : ∃ w5, setR wr (w.heap.size + 1) (cutL xs.length d s) = w5 := ⟨_, rfl⟩
    rw [hw5] at hst HP HBS
    have HST : Hid (RAt w5 (w.heap.size + 1) (cutL xs.length d s)) := HP
    clear hA hC hB HA HC HB hw5 HO HP
    go_wp2_with fail
    exact ret_row Tryz.results58 rfl (cutL_len _ _ _) HST.out rfl ⟨rfl, HBS.out⟩
set_option maxHeartbeats 1000000 in
theorem Start_any (p : Nat) (xs : List Int) (d : Nat) (w : World) (h : LevAt w p xs d) :
 Calls Tryz.prog 32 #[.pointer (some ⟨p, 0, none⟩)] w fun e w' => e = .returned (rV (startL xs.length d)) ∧ Below w.heap.size w w' := by
 have HL : Hid (LevAt w p xs d) := h
 obtain ⟨w2, hw2⟩ : ∃ w2, (w.alloc (.cells (rC zeros) 71)).alloc (.cells (rC zeros) 71) = w2 := ⟨_, rfl⟩
 have A2 : Hid (RAt w2 w.heap.size zeros) := hw2 ▸ (RAt.new w _).old _
 have C2 : Hid (RAt w2 (w.heap.size + 1) zeros) := by
  have := RAt.new (w.alloc (.cells (rC zeros) 71)) zeros
  rw [alloc_sizeR] at this
  exact hw2 ▸ this
 have B2 : Hid (Below w.heap.size w w2) := hw2 ▸ ((Below.refl _ w).alloc (Nat.le_refl _) _).alloc (by simp) _
 have HW : Hid ((w.alloc (.cells (rC zeros) 71)).alloc (.cells (rC zeros) 71) = w2) := hw2
 clear hw2 h
 go_enter Tryz.func32, Tryz.ntmps32
 go_wp2_with fail
 rw [HW.out]
 clear HW
 go_loopw [5] (fun v wr => ∃ k : Nat, v = .int .i64 k ∧ k ≤ 25 ∧ RAt wr w.heap.size zeros ∧ RAt wr (w.heap.size + 1) (risK k) ∧ Below w.heap.size w wr) (fun v _ => 25 - (intOf v).toNat)
 case atStart => exact ⟨0, rfl, by omega, A2.out, by rw [risK_zero, ← zeros_mk]; exact C2.out, B2.out⟩
 case round =>
  clear A2 C2 B2
  obtain ⟨k, rfl, hk, hA, hC, hB⟩ := hrel
  have HA : Hid (RAt wr w.heap.size zeros) := hA
  have HC : Hid (RAt wr (w.heap.size + 1) (risK k)) := hC
  have HB : Hid (Below w.heap.size w wr) := hB
  have hwr : w.heap.size + 1 < wr.heap.size := hC.lt
  by_cases hk8 : k < 25
  · have hcell := hC.cell (i := k) (by rw [risK, mk_len]; exact hk8)
    have hfz := hC.frozen k
    have hwk : (k : Int) % 256 = (k : Int) := by omega
    clear hA hC hB
    go_wp2_with fail
    go_roundw
    case rel =>
     refine ⟨k + 1, by go_num, by omega, HA.out.off (by omega), ?_, HB.out.setCell (by show w.heap.size ≤ w.heap.size + 1; omega) _⟩
     rw [← risK_next hk8]
     exact HC.out.set
    case measure => simp [intOf]; omega
  · obtain rfl : k = 25 := by omega
    rw [risK_end] at hC
    have hld := loadR_at hC.range (mk_len _)
    have HL2 : Hid (LevAt wr p xs d) := HL.out.below hB
    have HA2 : Hid (RAt wr w.heap.size zeros) := hA
    have hB2 : Hid (Below w.heap.size w wr) := hB
    clear hA hC hB HA HC HB
    go_wp2_with (go_at_call 58; refine (cut_any p xs d _ _ HL2.out (mk_len _)).mono ?_; rintro e w4 ⟨rfl, hb4⟩)
    have hC4 : RAt w4 w.heap.size zeros := HA2.out.below (by omega) hb4
    have hst := storeR_at hC4 zeros_len (startL_len xs.length d)
    obtain ⟨HP, HO⟩ := hC4.put (ys := startL xs.length d) (by rw [startL_len, zeros_len])
    have HBS : Hid (Below w.heap.size w (setR w4 w.heap.size (startL xs.length d))) := HO.below (hB2.out.trans (hb4.mono (by omega))) (Nat.le_refl _)
    obtain ⟨w5, hw5⟩ : ∃ w5, setR w4 w.heap.size (startL xs.length d) = w5 := ⟨_, rfl⟩
    rw [hw5] at hst HP HBS
    have HST : Hid (RAt w5 w.heap.size (startL xs.length d)) := HP
    clear hC4 hw5 HO HP
    rw [show cutL xs.length d (mk fun j => j) = startL xs.length d from rfl]
    rw [hst]
    go_wp2_with fail
    exact ret_row Tryz.results32 rfl (startL_len _ _) HST.out rfl ⟨rfl, HBS.out⟩
end Go.Proofs.YtncnefpkfbngaaaGreatDoor

/- New; Dist, Alive. -/
namespace Go.Proofs.YtncnefpkfbngaaaGreatDoor
open Go.RowKit Nums Ed Lv
set_option maxRecDepth 100000

def bldL (P : Program) (v : Value) (w : World) : Result Value := (Instr.build 77 #[(0, v)]).run P w
theorem exec_build_L (ρ : Operand → Value) (x : Operand) (dst : Option Tmp) (ty : TypeId) (pos : String) (af : Array Edge) (g : Option (Nat × Bool)) (w : World) : (execOp ρ ⟨dst, .build 77 #[(0, x)], ty, pos, af, g⟩).run Tryz.prog w = (bldL Tryz.prog (ρ x) w).andThen (fun v w' => .ok (.value v) w') := by
 simp only [execOp, Sem.run_bind, bldL, Sem.run_pure, List.map_toArray, List.map_cons, List.map_nil]
def levV (v : Value) (bs : List Nat) : Value := .agg (levC v bs)
theorem bldL_at (ad : Option Addr) (n c : Nat) (w : World) : bldL Tryz.prog (.slice ad n c) w = .ok (levV (.slice ad n c) zeros) w := by kernel_rfl
theorem exec_box_L (ρ : Operand → Value) (x : Operand) (dst : Option Tmp) (ty : TypeId) (pos : String) (af : Array Edge) (g : Option (Nat × Bool)) (w : World) : (execOp ρ ⟨dst, .box 77 x, ty, pos, af, g⟩).run Tryz.prog w = .ok (.value (.pointer (some ⟨w.heap.size, 0, none⟩))) (w.alloc (.cells (celV (ρ x)) 77)) := by
 simp only [execOp, Sem.run_bind, Instr.box, newVar, newRow]
 rfl
theorem levV_cells (v : Value) (bs : List Nat) : celV (levV v bs) = levC v bs := rfl
/-- What may be asked. -/
def rightB (l : List UInt8) (e : Int) : Bool := wordB l && decide (0 ≤ e) && decide (e ≤ 3)
theorem word_runesL {l : List UInt8} (h : wordB l = true) : ∃ xs, rs l = some xs ∧ 1 ≤ xs.length ∧ xs.length ≤ 24 := by
 unfold wordB at h
 cases e : rs l with
 | none => rw [e] at h; cases h
 | some xs => rw [e] at h; simp at h; exact ⟨xs, rfl, by omega, by omega⟩
/-- dead, so far. -/
def deadK (d k : Nat) : List Nat := mk fun j => if j < k then d + 1 else 0
theorem deadK_zero (d : Nat) : deadK d 0 = zeros := by rw [zeros_mk]; exact mk_congr fun j _ => by simp
theorem deadK_end (n d : Nat) : deadK d (n + 1) = deadL n d := mk_congr fun j _ => by
 unfold dd
 by_cases h : j ≤ n
 · rw [if_pos h, if_pos (by omega)]
 · rw [if_neg h, if_neg (by omega)]
theorem deadK_next (d : Nat) {k : Nat} (h : k < 25) : (deadK d k).set k (d + 1) = deadK d (k + 1) := by
 rw [deadK, mk_set _ _ h]
 refine mk_congr fun j _ => ?_
 by_cases h1 : j = k
 · subst h1; simp
 · rw [if_neg h1]
   by_cases h2 : j < k
   · rw [if_pos h2, if_pos (by omega)]
   · rw [if_neg h2, if_neg (by omega)]
theorem lev_set {w : World} {p k x : Nat} {v : Value} {bs : List Nat} {t : TypeId} {f : Nat × Nat} (h : w.heap[p]? = some (.cells (levC v bs) t f)) : (w.setCell ⟨p, 1 + k, none⟩ (bv x)).heap[p]? = some (.cells (levC v (bs.set k x)) t f) := by
 simp only [World.setCell, Array.getElem?_modify, h]
 simp [levC, List.map_set, Nat.add_comm 1 k]
/-- What New has told. -/
def NewSays (w w' : World) (l : List UInt8) (e : Int) (v : Value) (c : Int) : Prop :=
 Below w.heap.size w w' ∧ ((rightB l e = false ∧ v = .pointer none ∧ c = 110) ∨ (rightB l e = true ∧ c = 0 ∧ ∃ p xs d, v = .pointer (some ⟨p, 0, none⟩) ∧ w.heap.size ≤ p ∧ rs l = some xs ∧ e = (d : Nat) ∧ LevAt w' p xs d))
theorem Runes_yes (s : ByteArray) (xs : List Int) (w : World) (ht : Tabs w) (hm : s.size ≤ 9223372036854775807) (hroom : Room s.data.toList) (hx : rs s.data.toList = some xs) :
 Calls Tryz.prog 34 #[.string s] w fun e w' => ∃ v, e = .returned (.tuple #[v, .bool true]) ∧ Below w.heap.size w w' ∧ Made w.heap.size w' v xs := by
 refine (Runes_any s w ht hm hroom).mono ?_
 rintro e w' ⟨v, hb, ⟨hno, _, _⟩ | ⟨ys, hys, rfl, hmade⟩⟩
 · rw [hno] at hx; cases hx
 · obtain rfl : ys = xs := Option.some.inj (hys.symm.trans hx)
   exact ⟨v, rfl, hb, hmade⟩
attribute [local go_sem ↓] exec_build_L exec_box_L
attribute [local go_sem] levV_cells
set_option maxHeartbeats 1000000 in
theorem New_any (s : ByteArray) (e : Int) (w : World) (ht : Tabs w) (hm : s.size ≤ 9223372036854775807) :
 Calls Tryz.prog 13 #[.string s, .int .i64 e] w fun x w' => ∃ v c, x = .returned (.tuple #[v, .int .i64 c]) ∧ NewSays w w' s.data.toList e v c := by
 by_cases hr : rightB s.data.toList e = true
 · have HR : Hid (rightB s.data.toList e = true) := hr
   have hh := hr
   simp only [rightB, Bool.and_eq_true, decide_eq_true_eq] at hh
   obtain ⟨⟨hw, h0⟩, h3⟩ := hh
   have HWD : Hid (wordB s.data.toList = true) := hw
   obtain ⟨xs, hxs, hx1, hx24⟩ := word_runesL hw
   have HXS : Hid (rs s.data.toList = some xs) := hxs
   have HROOM : Hid (Room s.data.toList) := room_of_runes hxs (by omega)
   obtain ⟨d, rfl⟩ : ∃ d : Nat, e = (d : Int) := ⟨e.toNat, by omega⟩
   clear hr hw hxs
   go_enter Tryz.func13, Tryz.ntmps13
   go_upto_region 3 with (go_at_call 33; refine (Word_any s _ ht hm).mono ?_; rintro e w1 ⟨rfl, hw1⟩; rw [HWD.out])
   have hb1 : Below w.heap.size w w1 := by obtain ⟨n, rfl⟩ := hw1; exact below_drewN (Below.refl _ _) n
   have ht1 : Tabs w1 := ht.below hb1
   clear hw1
   go_upto_region 4 with (go_at_call 34; refine (Runes_yes s xs _ ht1 hm HROOM.out HXS.out).mono ?_; rintro e w2 ⟨v, rfl, hb2, hmade⟩)
   have hb12 : Below w.heap.size w w2 := hb1.trans (hb2.mono hb1.size)
   have HX2 : Hid (RunesAt w2.heap.size w2 v xs) := hmade.runesE
   obtain ⟨ad, cap, rfl⟩ := HX2.out.form
   have hbl := bldL_at ad xs.length cap w2
   have HP3 : Hid ((w2.alloc (.cells (levC (.slice ad xs.length cap) zeros) 77)).heap[w2.heap.size]? = some (.cells (levC (.slice ad xs.length cap) zeros) 77 (0, 0))) := alloc_newR _ _
   have HB3 : Hid (Below w.heap.size w (w2.alloc (.cells (levC (.slice ad xs.length cap) zeros) 77))) := hb12.alloc hb12.size _
   have HBB : Hid (Below w2.heap.size w2 (w2.alloc (.cells (levC (.slice ad xs.length cap) zeros) 77))) := (Below.refl _ _).alloc (Nat.le_refl _) _
   have HX3 : Hid (RunesAt w2.heap.size (w2.alloc (.cells (levC (.slice ad xs.length cap) zeros) 77)) (.slice ad xs.length cap) xs) := HX2.out.below HBB.out
   have HBS : Hid (w.heap.size ≤ w2.heap.size) := hb12.size
   clear hmade hb1 ht1 hb2 hb12 HX2 HBB
   obtain ⟨N, hN⟩ : ∃ N, N = xs.length + 1 := ⟨_, rfl⟩
   have HN : Hid (N = xs.length + 1) := hN
   have hwN : IntKind.i64.wrap ((xs.length : Int) + 1) = (N : Int) := by rw [IntKind.wrap_i64]; omega
   have hwd : IntKind.u8.wrap (d : Int) = (d : Int) := by rw [IntKind.wrap_u8]; omega
   have hwd1 : IntKind.u8.wrap ((d : Int) + 1) = (d : Int) + 1 := by rw [IntKind.wrap_u8]; omega
   clear hN
   go_wp2_with fail
   go_loopw [32] (fun v wr => ∃ k : Nat, v = .int .i64 k ∧ k ≤ N ∧ wr.heap[w2.heap.size]? = some (.cells (levC (.slice ad xs.length cap) (deadK d k)) 77 (0, 0)) ∧ RunesAt w2.heap.size wr (.slice ad xs.length cap) xs ∧ Below w.heap.size w wr) (fun v _ => N - (intOf v).toNat)
   case atStart => exact ⟨0, rfl, Nat.zero_le _, by rw [deadK_zero]; exact HP3.out, HX3.out, HB3.out⟩
   case round =>
    clear HP3 HX3 HB3
    obtain ⟨k, rfl, hk, hP, hX, hB⟩ := hrel
    have HP : Hid (wr.heap[w2.heap.size]? = some (.cells (levC (.slice ad xs.length cap) (deadK d k)) 77 (0, 0))) := hP
    have HX : Hid (RunesAt w2.heap.size wr (.slice ad xs.length cap) xs) := hX
    have HB : Hid (Below w.heap.size w wr) := hB
    have hwr : w2.heap.size < wr.heap.size := (Array.getElem?_eq_some_iff.1 hP).1
    by_cases hk8 : k < N
    · have hk25 : k < 25 := by have := HN.out; omega
      have hcell : wr.cell? ⟨w2.heap.size, 1 + k, none⟩ = some (bv ((deadK d k).getD k 0)) := by
       have := lev_range hP k (bv ((deadK d k).getD k 0)) (by rw [List.getElem?_map, deadK, mk_get _ hk25, mk_getD _ hk25]; rfl)
       simpa using this
      have hfz : wr.frozen? ⟨w2.heap.size, 1 + k, none⟩ = false := by simp [World.frozen?, hP]
      obtain ⟨y, hy⟩ : ∃ y, (deadK d k).getD k 0 = y := ⟨_, rfl⟩
      rw [hy] at hcell
      clear hP hX hB hy hbl
      go_wp2_with fail
      go_roundw
      case rel =>
       refine ⟨k + 1, by go_num, by omega, ?_, HX.out.below ((Below.refl w2.heap.size wr).setCell (p := ⟨w2.heap.size, 1 + k, none⟩) (Nat.le_refl _) _), HB.out.setCell HBS.out _⟩
       rw [← deadK_next _ hk25]
       exact lev_set HP.out
      case measure => simp [intOf]; omega
    · obtain rfl : k = N := by omega
      have HL : Hid (LevAt wr w2.heap.size xs d) := by
       refine ⟨hx24, by omega, ad, cap, ?_, hX.mono (by omega)⟩
       rw [HN.out, deadK_end] at hP
       exact hP
      clear hP hX hB HP HX
      go_wp2_with fail
      go_ret2
      exact ⟨_, _, rfl, HB.out, .inr ⟨HR.out, rfl, _, xs, d, rfl, HBS.out, HXS.out, rfl, HL.out⟩⟩
 · have HR : Hid (rightB s.data.toList e = false) := by unfold Hid; simpa using hr
   clear hr
   by_cases hw : wordB s.data.toList = true
   · have HWD : Hid (wordB s.data.toList = true) := hw
     have hne : ¬ (0 ≤ e ∧ e ≤ 3) := by
      intro hh
      have := HR.out
      simp [rightB, hw, hh] at this
     clear hw
     by_cases h0 : e < 0
     · go_enter Tryz.func13, Tryz.ntmps13
       go_wp2_with (go_at_call 33; refine (Word_any s _ ht hm).mono ?_; rintro e w1 ⟨rfl, hw1⟩; rw [HWD.out])
       go_ret2
       exact ⟨_, _, rfl, by obtain ⟨n, rfl⟩ := hw1; exact below_drewN (Below.refl _ _) n, .inl ⟨HR.out, rfl, rfl⟩⟩
     · have h3 : 3 < e := by omega
       go_enter Tryz.func13, Tryz.ntmps13
       go_wp2_with (go_at_call 33; refine (Word_any s _ ht hm).mono ?_; rintro e w1 ⟨rfl, hw1⟩; rw [HWD.out])
       go_ret2
       exact ⟨_, _, rfl, by obtain ⟨n, rfl⟩ := hw1; exact below_drewN (Below.refl _ _) n, .inl ⟨HR.out, rfl, rfl⟩⟩
   · have HWD : Hid (wordB s.data.toList = false) := by unfold Hid; simpa using hw
     clear hw
     go_enter Tryz.func13, Tryz.ntmps13
     go_wp2_with (go_at_call 33; refine (Word_any s _ ht hm).mono ?_; rintro e w1 ⟨rfl, hw1⟩; rw [HWD.out])
     go_ret2
     exact ⟨_, _, rfl, by obtain ⟨n, rfl⟩ := hw1; exact below_drewN (Below.refl _ _) n, .inl ⟨HR.out, rfl, rfl⟩⟩
attribute [local go_sem ↓] exec_alloc_R exec_box_R exec_load_R exec_store_R
attribute [local go_sem] rV_cells
set_option maxHeartbeats 1000000 in
theorem Dist_any (p : Nat) (xs : List Int) (d : Nat) (s : List Nat) (w : World) (h : LevAt w p xs d) (hs : s.length = 25) :
 Calls Tryz.prog 52 #[.pointer (some ⟨p, 0, none⟩), rV s] w fun e w' => e = .returned (.tuple #[.int .i64 (distN xs.length d s : Int), .bool (distB xs.length d s)]) ∧ Below w.heap.size w w' := by
 obtain ⟨hn, hd, ad, cap, hp, hr⟩ := h
 have hpl : p < w.heap.size := (Array.getElem?_eq_some_iff.1 hp).1
 obtain ⟨w2, hw2⟩ : ∃ w2, w.alloc (.cells (rC s) 71) = w2 := ⟨_, rfl⟩
 have A2 : RAt w2 w.heap.size s := hw2 ▸ RAt.new w _
 have B2 : Below w.heap.size w w2 := hw2 ▸ (Below.refl _ w).alloc (Nat.le_refl _) _
 have HW : Hid (w.alloc (.cells (rC s) 71) = w2) := hw2
 have hp2 := (B2.block p hpl).trans hp
 have hc1 := lev_word hp2
 have hc2 := lev_dead hp2 (j := xs.length) (by omega)
 rw [dd, if_pos (Nat.le_refl _)] at hc2
 have hc3 := A2.cell (i := xs.length) (by omega)
 obtain ⟨y, hy⟩ : ∃ y, s.getD xs.length 0 = y := ⟨_, rfl⟩
 rw [hy] at hc3
 have HB2 : Hid (Below w.heap.size w w2) := B2
 have HDN : Hid (distN xs.length d s = if y ≤ d then y else 0) := by unfold Hid distN; rw [hy]
 have HDB : Hid (distB xs.length d s = decide (y ≤ d)) := by unfold Hid distB; rw [hy]
 have hx25 : (xs.length : Int) < 25 := by omega
 have hcast : ((d + 1 : Nat) : Int) = (d : Int) + 1 := by omega
 unfold bv at hc2 hc3
 rw [hcast] at hc2
 clear hw2 A2 B2 hp hr hp2 hy hcast
 by_cases hyd : y ≤ d
 · have hcmp : ¬ ((d : Int) + 1 ≤ (y : Int)) := by omega
   go_enter Tryz.func52, Tryz.ntmps52
   go_upto_region 1 with fail
   rw [HW.out]
   go_upto_region 2 with fail
   go_quiet (fail)
   go_wp2_with fail
   go_ret2
   exact ⟨by rw [HDN.out, HDB.out, if_pos hyd, decide_eq_true hyd]; rfl, below_drewN HB2.out _⟩
 · have hcmp : (d : Int) + 1 ≤ (y : Int) := by omega
   go_enter Tryz.func52, Tryz.ntmps52
   go_upto_region 1 with fail
   rw [HW.out]
   go_upto_region 2 with fail
   go_quiet (fail)
   go_wp2_with fail
   go_ret2
   exact ⟨by rw [HDN.out, HDB.out, if_neg hyd, decide_eq_false hyd]; rfl, below_drewN HB2.out _⟩
set_option maxHeartbeats 1000000 in
theorem Alive_any (p : Nat) (xs : List Int) (d : Nat) (s : List Nat) (w : World) (h : LevAt w p xs d) (hs : s.length = 25) :
 Calls Tryz.prog 55 #[.pointer (some ⟨p, 0, none⟩), rV s] w fun e w' => e = .returned (.bool (aliveB xs.length d s)) ∧ Below w.heap.size w w' := by
 have HL : Hid (LevAt w p xs d) := h
 obtain ⟨hn, hd, ad, cap, hp, hr⟩ := h
 have hpl : p < w.heap.size := (Array.getElem?_eq_some_iff.1 hp).1
 obtain ⟨w2, hw2⟩ : ∃ w2, w.alloc (.cells (rC s) 71) = w2 := ⟨_, rfl⟩
 have A2 : Hid (RAt w2 w.heap.size s) := hw2 ▸ RAt.new w _
 have B2 : Hid (Below w.heap.size w w2) := hw2 ▸ (Below.refl _ w).alloc (Nat.le_refl _) _
 have HW : Hid (w.alloc (.cells (rC s) 71) = w2) := hw2
 have L2 : Hid (LevAt w2 p xs d) := HL.out.below B2.out
 have hsz : w.heap.size < w2.heap.size := A2.out.lt
 have HPW : Hid (∀ W, Below w.heap.size w W → loadR Tryz.prog (.pointer (some ⟨p, 1, none⟩)) W = .ok (rV (deadL xs.length d)) W) := fun W hW => loadR_at (lev_range ((hW.block p hpl).trans hp)) (deadL_len xs.length d)
 clear hw2 hp hr
 go_enter Tryz.func55, Tryz.ntmps55
 go_upto_region 1 with fail
 rw [HW.out]
 have hS0 : loadR Tryz.prog (.pointer (some ⟨p, 1, none⟩)) w2.drew = .ok (rV (deadL xs.length d)) w2.drew ∧ loadR Tryz.prog (.pointer (some ⟨w.heap.size, 0, none⟩)) w2.drew = .ok (rV s) w2.drew := ⟨HPW.out _ B2.out.drew, loadR_at (RAt.range (w := w2.drew) A2.out) hs⟩
 refine region_at (S := fun W' => loadR Tryz.prog (.pointer (some ⟨p, 1, none⟩)) W' = .ok (rV (deadL xs.length d)) W' ∧ loadR Tryz.prog (.pointer (some ⟨w.heap.size, 0, none⟩)) W' = .ok (rV s) W') 9 rfl mixedP hS0 (fun _ => ?_)
 refine tk (i := 0) 5 rfl rfl (by kernel_rfl) (fun _ s => by (have h := id s; clear s; go_simp; first | done | exact rfl)) ?_
 simp only [sZa, sZb, sZc]
 refine tk (i := 1) (v := rV s) 6 rfl rfl (by kernel_rfl) (fun w hSw => by (have h2 := hSw.2; exact (exec_load_R _ (.tmp 3) _ _ _ _ _ _).trans (congrArg (fun z => Result.andThen z (fun v w' => Result.ok (Next.value v) w')) h2))) ?_
 simp only [sZa, sZb, sZc]
 refine tk (i := 3) 8 rfl rfl (by kernel_rfl) (fun _ s => by (have h := id s; clear s; go_simp; first | done | exact rfl)) ?_
 simp only [sZa, sZb, sZc]
 refine tk (i := 4) 9 rfl rfl (by kernel_rfl) (fun _ s => by (have h := id s; clear s; go_simp; first | done | exact rfl)) ?_
 simp only [sZa, sZb, sZc]
 refine tk (i := 5) 10 rfl rfl (by kernel_rfl) (fun _ s => by (have h := id s; clear s; go_simp; first | done | exact rfl)) ?_
 simp only [sZa, sZb, sZc]
 refine tk (i := 6) (v := rV (deadL xs.length d)) 11 rfl rfl (by kernel_rfl) (fun w hSw => by (have h2 := hSw.1; exact (exec_load_R _ (.tmp 10) _ _ _ _ _ _).trans (congrArg (fun z => Result.andThen z (fun v w' => Result.ok (Next.value v) w')) h2))) ?_
 simp only [sZa, sZb, sZc]
 refine one_call (i := 2) (w0 := w2.drew) 7 58 #[.pointer (some ⟨p, 0, none⟩), rV s] (by kernel_rfl) rfl rfl (by rfl) (by kernel_rfl) ?_
 refine (cut_any p xs d s w2.drew (L2.out.below (Below.refl _ w2).drew) hs).mono ?_
 rintro e w3 ⟨rfl, hb3⟩
 have B3 : Below w.heap.size w w3 := B2.out.drew.trans (hb3.mono (by show w.heap.size ≤ w2.heap.size; omega))
 have hS3 : loadR Tryz.prog (.pointer (some ⟨p, 1, none⟩)) w3 = .ok (rV (deadL xs.length d)) w3 ∧ loadR Tryz.prog (.pointer (some ⟨w.heap.size, 0, none⟩)) w3 = .ok (rV s) w3 := ⟨HPW.out _ B3, loadR_at (RAt.range (RAt.below (w := w2.drew) (w' := w3) (B := w2.heap.size) A2.out (by omega) hb3)) hs⟩
 refine ⟨_, rfl, hS3, fun _ => ?_⟩
 simp only [sZa, sZb, sZc]
 refine one_value (i := 7) (v := .bool (aliveB xs.length d s)) (w' := w3) 12 (by kernel_rfl) rfl rfl (by rfl) ?_ hS3 (fun _ => ?_)
 · have hb1 : ∀ x ∈ cutL xs.length d s, x < 256 := mk_byte fun j _ => by have := cutF_le xs.length d s j; omega
   have hb2 : ∀ x ∈ deadL xs.length d, x < 256 := mk_byte fun j _ => by have := dd_le xs.length d j; omega
   have hq := neq_row (cutL_len xs.length d s) (deadL_len xs.length d) hb1 hb2 w3
   have hg := guard_row .neq (.tmp 7) (.tmp 11) (cutL xs.length d s) (deadL xs.length d) w3
   go_simp
   rw [aliveB, Bool.not_not]
 simp only [sZa, sZb, sZc]
 refine one_value (i := 8) (v := .bool (aliveB xs.length d s)) (w' := w3) 4 (by kernel_rfl) rfl rfl (by rfl) (by kernel_rfl) hS3 (fun _ => ?_)
 simp only [sZa, sZb, sZc]
 refine wpAnyH_done (by kernel_rfl) ?_ _
 clear hS0 hS3
 go_wp2_with fail
 go_ret
 exact ⟨rfl, B3⟩
end Go.Proofs.YtncnefpkfbngaaaGreatDoor

/- Step. -/
namespace Go.Proofs.YtncnefpkfbngaaaGreatDoor
open Go.RowKit Nums Ed Lv
set_option maxRecDepth 100000

def bldR (P : Program) (v : Value) (w : World) : Result Value := (Instr.build 71 #[(0, v)]).run P w
theorem exec_build_R (ρ : Operand → Value) (x : Operand) (dst : Option Tmp) (ty : TypeId) (pos : String) (af : Array Edge) (g : Option (Nat × Bool)) (w : World) : (execOp ρ ⟨dst, .build 71 #[(0, x)], ty, pos, af, g⟩).run Tryz.prog w = (bldR Tryz.prog (ρ x) w).andThen (fun v w' => .ok (.value v) w') := by
 simp only [execOp, Sem.run_bind, bldR, Sem.run_pure, List.map_toArray, List.map_cons, List.map_nil]
theorem bldR_at (n : Nat) (w : World) : bldR Tryz.prog (bv n) w = .ok (rV (zeros.set 0 n)) w := by kernel_rfl
theorem zeros_nx (xs : List Int) (r : Int) (c : List Nat) : zeros.set 0 (nx xs r c 0) = nxK xs r c 0 := by
 rw [zeros_mk, mk_set _ _ (by decide), nxK]
 refine mk_congr fun j _ => ?_
 by_cases h : j = 0
 · subst h; simp
 · rw [if_neg h, if_neg (by omega)]
attribute [local go_sem ↓] exec_alloc_R exec_box_R exec_load_R exec_store_R exec_build_R run_min3
attribute [local go_sem] rV_cells
set_option maxHeartbeats 2000000 in
theorem Step_any (p : Nat) (xs : List Int) (d : Nat) (s : List Nat) (r : Int) (w : World) (h : LevAt w p xs d) (hs : s.length = 25) :
 Calls Tryz.prog 54 #[.pointer (some ⟨p, 0, none⟩), rV s, .int .i32 r] w fun e w' => e = .returned (rV (stepL xs d s r)) ∧ Below w.heap.size w w' := by
 have hn := h.len
 have hd := h.few
 obtain ⟨w2, hw2⟩ : ∃ w2, (w.alloc (.cells (rC s) 71)).alloc (.cells (rC zeros) 71) = w2 := ⟨_, rfl⟩
 have A2 : Hid (RAt w2 w.heap.size s) := hw2 ▸ (RAt.new w _).old _
 have C2 : Hid (RAt w2 (w.heap.size + 1) zeros) := by
  have := RAt.new (w.alloc (.cells (rC s) 71)) zeros
  rw [alloc_sizeR] at this
  exact hw2 ▸ this
 have B2 : Hid (Below w.heap.size w w2) := hw2 ▸ ((Below.refl _ w).alloc (Nat.le_refl _) _).alloc (by simp) _
 have HW : Hid ((w.alloc (.cells (rC s) 71)).alloc (.cells (rC zeros) 71) = w2) := hw2
 have L2 : Hid (LevAt w2 p xs d) := h.below B2.out
 have HL : Hid (LevAt w p xs d) := h
 have hld := loadR_at A2.out.range hs
 have hs2 : w.heap.size + 1 < w2.heap.size := C2.out.lt
 clear hw2 h
 go_enter Tryz.func54, Tryz.ntmps54
 go_wp2_with fail
 rw [HW.out, hld]
 clear HW hld
 go_wp2_with (go_at_call 58; refine (cut_any p xs d _ _ L2.out hs).mono ?_; rintro e w3 ⟨rfl, hb3⟩)
 obtain ⟨c, hc⟩ : ∃ c, cutL xs.length d s = c := ⟨_, rfl⟩
 have hcl : c.length = 25 := by rw [← hc, cutL_len]
 have HC : Hid (cutL xs.length d s = c) := hc
 have HCB : Hid (∀ j, c.getD j 0 ≤ d + 1) := by unfold Hid; rw [← hc]; exact getD_cut_le _ _ _
 rw [hc]
 have A3 : RAt w3 w.heap.size s := A2.out.below (by omega) hb3
 have hst := storeR_at A3 hs hcl
 obtain ⟨P4, O4⟩ := A3.put (ys := c) (by rw [hcl, hs])
 obtain ⟨w4, hw4⟩ : ∃ w4, setR w3 w.heap.size c = w4 := ⟨_, rfl⟩
 rw [hw4] at hst P4 O4
 have hs3 := hb3.size
 have hs4 := O4.size
 have B4 : Hid (Below w.heap.size w w4) := O4.below (B2.out.trans (hb3.mono (by omega))) (Nat.le_refl _)
 have R4 : Hid (RAt w4 (w.heap.size + 1) zeros) := (C2.out.below (by omega) hb3).same (O4.block _ (by omega))
 have HP4 : Hid (RAt w4 w.heap.size c) := P4
 have c0 := P4.cell (i := 0) (by omega)
 have L4 := HL.out.below B4.out
 obtain ⟨_, _, ad, cap, hp, hr⟩ := L4
 have hlw := lev_word hp
 have HRN : Hid (RunesAt w4.heap.size w4 (.slice ad xs.length cap) xs) := hr
 obtain ⟨x0, hx0⟩ : ∃ x0, c.getD 0 0 = x0 := ⟨_, rfl⟩
 obtain ⟨n0, hn0⟩ : ∃ n0, nx xs r c 0 = n0 := ⟨_, rfl⟩
 have hx1 : x0 ≤ 4 := by have := HCB.out 0; omega
 have hw0 : (n0 : Int) = (x0 : Int) + 1 := by rw [← hn0, nx, hx0]; omega
 rw [hx0] at c0
 have hbl := bldR_at n0 w4
 unfold bv at hbl
 rw [hw0] at hbl
 have HZ : Hid (zeros.set 0 n0 = nxK xs r c 0) := by unfold Hid; rw [← hn0]; exact zeros_nx _ _ _
 rw [HZ.out] at hbl
 have N5 : Hid (RAt (w4.alloc (.cells (rC zeros) 71)) w4.heap.size zeros) := RAt.new _ _
 have hst5 := storeR_at N5.out zeros_len (nxK_len xs r c 0)
 obtain ⟨P6, O6⟩ := N5.out.put (ys := nxK xs r c 0) (by rw [nxK_len, zeros_len])
 obtain ⟨w6, hw6⟩ : ∃ w6, setR (w4.alloc (.cells (rC zeros) 71)) w4.heap.size (nxK xs r c 0) = w6 := ⟨_, rfl⟩
 rw [hw6] at hst5 P6 O6
 obtain ⟨nb, hnb⟩ : ∃ nb, w4.heap.size = nb := ⟨_, rfl⟩
 have hs6 : w6.heap.size = nb + 1 := by rw [O6.size, ← hnb]; simp
 rw [hnb] at hst5 P6 O6
 have HB6 : Hid (Below w.heap.size w w6) := O6.below (B4.out.alloc (by omega) _) (by omega)
 have HB46 : Hid (Below nb w4 w6) := O6.below ((Below.refl nb w4).alloc (by omega) _) (Nat.le_refl _)
 have HA6 : Hid (RAt w6 w.heap.size c) := HP4.out.below (by omega) HB46.out
 have HR6 : Hid (RAt w6 (w.heap.size + 1) zeros) := R4.out.below (by omega) HB46.out
 have HN6 : Hid (RAt w6 nb (nxK xs r c 0)) := P6
 have hlw6 : w6.cell? ⟨p, 0, none⟩ = some (.slice ad xs.length cap) := (HB46.out.cell (p := ⟨p, 0, none⟩) (by have := HL.out.lt; show p < nb; omega)).trans hlw
 have HX6 : Hid (RunesAt nb w6 (.slice ad xs.length cap) xs) := (hnb ▸ HRN.out : RunesAt nb w4 _ xs).below HB46.out
 have hnbw : w.heap.size + 1 < nb := by omega
 have HNB : Hid (w4.heap.size = nb) := hnb
 clear hs2 hs3 hs4 hs6 hw0 hc A3 P4 O4 hw4 A2 C2 B2 L2 hb3 hx0 hn0 hp hr hlw HRN HZ N5 P6 O6 hw6 hnb HP4 R4 HB46
 rw [hst]
 clear hst
 go_wp2_with fail
 rw [HNB.out, hst5]
 clear hbl hst5 c0
 go_wp2_with fail
 go_loopw [23] (fun v wr => ∃ k : Nat, v = .int .i64 k ∧ k ≤ xs.length ∧ RAt wr w.heap.size c ∧ RAt wr nb (nxK xs r c k) ∧ RAt wr (w.heap.size + 1) zeros ∧ RunesAt nb wr (.slice ad xs.length cap) xs ∧ Below w.heap.size w wr) (fun v _ => xs.length - (intOf v).toNat)
 case atStart => exact ⟨0, rfl, Nat.zero_le _, HA6.out, HN6.out, HR6.out, HX6.out, HB6.out⟩
 case round =>
  clear HA6 HN6 HR6 HX6 HB6 hlw6
  obtain ⟨k, rfl, hk, hA, hN, hR, hX, hB⟩ := hrel
  have HA : Hid (RAt wr w.heap.size c) := hA
  have HN : Hid (RAt wr nb (nxK xs r c k)) := hN
  have HR : Hid (RAt wr (w.heap.size + 1) zeros) := hR
  have HX : Hid (RunesAt nb wr (.slice ad xs.length cap) xs) := hX
  have HB : Hid (Below w.heap.size w wr) := hB
  have hwr : nb < wr.heap.size := hN.lt
  by_cases hk8 : k < xs.length
  · obtain ⟨y, hy⟩ : ∃ y, xs[k]? = some y := ⟨_, List.getElem?_eq_getElem hk8⟩
    obtain ⟨gx, offx, rfl, hgx, hcx⟩ := HX.out.at hy
    have hyD : xs.getD k 0 = y := by rw [List.getD_eq_getElem?_getD, hy]; rfl
    obtain ⟨q, hq⟩ : ∃ q, q = k + 1 := ⟨_, rfl⟩
    have HQ : Hid (q = k + 1) := hq
    have hA0 := hA.cell (i := k) (by omega)
    have hA1 := hA.cell (i := q) (by omega)
    have hN0 := hN.cell (i := k) (by rw [nxK_len]; omega)
    have hNq := hN.cell (i := q) (by rw [nxK_len]; omega)
    have hNf := hN.frozen q
    rw [nxK_get _ _ _ (by omega)] at hN0
    obtain ⟨z, hz⟩ : ∃ z, (nxK xs r c k).getD q 0 = z := ⟨_, rfl⟩
    obtain ⟨c1, hc1⟩ : ∃ c1, c.getD q 0 = c1 := ⟨_, rfl⟩
    obtain ⟨ck, hck⟩ : ∃ ck, c.getD k 0 = ck := ⟨_, rfl⟩
    obtain ⟨m, hm⟩ : ∃ m, nx xs r c k = m := ⟨_, rfl⟩
    have b0 : ck ≤ 4 := by have := HCB.out k; omega
    have b1 : c1 ≤ 4 := by have := HCB.out q; omega
    have b2 : m ≤ 5 := by have := nx_le (xs := xs) (r := r) HCB.out k; omega
    have HUX : Hid (nx xs r c (k + 1) = min (ck + if y = r then 0 else 1) (min (c1 + 1) (m + 1))) := by unfold Hid; rw [nx, hck, hyD, ← hq, hc1, hm]
    rw [hck] at hA0
    rw [hc1] at hA1
    rw [hm] at hN0
    rw [hz] at hNq
    have hw1 : IntKind.u8.wrap ((c1 : Int) + 1) = (c1 : Int) + 1 := by rw [IntKind.wrap_u8]; omega
    have hw2 : IntKind.u8.wrap ((m : Int) + 1) = (m : Int) + 1 := by rw [IntKind.wrap_u8]; omega
    have hw3 : IntKind.u8.wrap ((ck : Int) + 1) = (ck : Int) + 1 := by rw [IntKind.wrap_u8]; omega
    have hwq : IntKind.i64.wrap ((k : Int) + 1) = (q : Int) := by rw [IntKind.wrap_i64]; omega
    have hq25 : (q : Int) < 25 := by omega
    have hk25 : (k : Int) < 25 := by omega
    clear hA hN hR hX hB hy hyD hq hz hc1 hck hm
    by_cases e : y = r
    · obtain ⟨u, hu⟩ : ∃ u, nx xs r c (k + 1) = u := ⟨_, rfl⟩
      have HUV : Hid (u = nx xs r c (k + 1)) := hu.symm
      have HU : Hid ((u : Int) = min3 (ck : Int) ((c1 : Int) + 1) ((m : Int) + 1)) := by
       have := HUX.out
       rw [if_pos e] at this
       unfold Hid min3
       split <;> split at * <;> omega
      subst e
      have hS0 : wr.drew.cell? ⟨w.heap.size, q, none⟩ = some (bv c1) ∧ wr.drew.cell? ⟨nb, k, none⟩ = some (bv m) := ⟨hA1, hN0⟩
      clear hu HUX
      go_upto_region 9 with fail
      refine region_atE (S := fun W' => W'.cell? ⟨w.heap.size, q, none⟩ = some (bv c1) ∧ W'.cell? ⟨nb, k, none⟩ = some (bv m)) 15 14 rfl mixedP ?_
      refine take_atE (i := 0) 36 rfl rfl (by kernel_rfl) (by kernel_rfl) (by kernel_rfl) (by kernel_rfl) (fun _ _ _ h => h) (by rfl) (fun _ s => by (have h := id s; clear s; go_simp; first | done | exact rfl)) (by assumption) ?_
      simp only [sZa, sZb, sZc]
      refine take_atE (i := 1) 37 rfl rfl (by kernel_rfl) (by kernel_rfl) (by kernel_rfl) (by kernel_rfl) (fun _ _ _ h => h) (by rfl) (fun _ s => by (have h := id s; clear s; go_simp; first | done | exact rfl)) (by assumption) ?_
      simp only [sZa, sZb, sZc]
      refine take_atE (i := 2) 38 rfl rfl (by kernel_rfl) (by kernel_rfl) (by kernel_rfl) (by kernel_rfl) (fun _ _ _ h => h) (by rfl) (fun _ s => by (have h := id s; clear s; go_simp; first | done | exact rfl)) (by assumption) ?_
      simp only [sZa, sZb, sZc]
      refine take_atE (i := 3) 39 rfl rfl (by kernel_rfl) (by kernel_rfl) (by kernel_rfl) (by kernel_rfl) (fun _ _ _ h => h) (by rfl) (fun _ s => by (have h := id s; clear s; go_simp; first | done | exact rfl)) (by assumption) ?_
      simp only [sZa, sZb, sZc]
      refine take_atE (i := 4) 40 rfl rfl (by kernel_rfl) (by kernel_rfl) (by kernel_rfl) (by kernel_rfl) (fun _ _ _ h => h) (by rfl) (fun _ s => by (have h := id s; clear s; go_simp; first | done | exact rfl)) (by assumption) ?_
      simp only [sZa, sZb, sZc]
      refine take_atE (i := 5) 41 rfl rfl (by kernel_rfl) (by kernel_rfl) (by kernel_rfl) (by kernel_rfl) (fun _ _ _ h => h) (by rfl) (fun _ s => by (have h := id s; clear s; go_simp; first | done | exact rfl)) (by assumption) ?_
      simp only [sZa, sZb, sZc]
      refine take_atE (i := 6) 42 rfl rfl (by kernel_rfl) (by kernel_rfl) (by kernel_rfl) (by kernel_rfl) (fun _ _ _ h => h) (by rfl) (fun _ s => by (have h := id s; clear s; go_simp; first | done | exact rfl)) (by assumption) ?_
      simp only [sZa, sZb, sZc]
      refine take_atE (i := 7) 43 rfl rfl (by kernel_rfl) (by kernel_rfl) (by kernel_rfl) (by kernel_rfl) (fun _ _ _ h => h) (by rfl) (fun _ s => by (have h := id s; clear s; go_simp; first | done | exact rfl)) (by assumption) ?_
      simp only [sZa, sZb, sZc]
      refine take_atE (i := 8) 44 rfl rfl (by kernel_rfl) (by kernel_rfl) (by kernel_rfl) (by kernel_rfl) (fun _ _ _ h => h) (by rfl) (fun _ s => by (have h := id s; clear s; go_simp; first | done | exact rfl)) (by assumption) ?_
      simp only [sZa, sZb, sZc]
      refine take_atE (i := 9) 45 rfl rfl (by kernel_rfl) (by kernel_rfl) (by kernel_rfl) (by kernel_rfl) (fun _ _ _ h => h) (by rfl) (fun _ s => by (have h := id s; clear s; go_simp; first | done | exact rfl)) (by assumption) ?_
      simp only [sZa, sZb, sZc]
      refine take_atE (i := 10) 46 rfl rfl (by kernel_rfl) (by kernel_rfl) (by kernel_rfl) (by kernel_rfl) (fun _ _ _ h => h) (by rfl) (fun _ s => by (have h := id s; clear s; go_simp; first | done | exact rfl)) (by assumption) ?_
      simp only [sZa, sZb, sZc]
      refine take_atE (i := 11) 47 rfl rfl (by kernel_rfl) (by kernel_rfl) (by kernel_rfl) (by kernel_rfl) (fun _ _ _ h => h) (by rfl) (fun _ s => by (have h := id s; clear s; go_simp; first | done | exact rfl)) (by assumption) ?_
      simp only [sZa, sZb, sZc]
      refine take_atE (i := 12) 48 rfl rfl (by kernel_rfl) (by kernel_rfl) (by kernel_rfl) (by kernel_rfl) (fun _ _ _ h => h) (by rfl) (fun _ s => by (have h := id s; clear s; go_simp; first | done | exact rfl)) (by assumption) ?_
      simp only [sZa, sZb, sZc]
      refine take_atE (i := 13) 49 rfl rfl (by kernel_rfl) (by kernel_rfl) (by kernel_rfl) (by kernel_rfl) (fun _ _ _ h => h) (by rfl) (fun _ s => by (have h := id s; clear s; go_simp; first | done | exact rfl)) (by assumption) ?_
      simp only [sZa, sZb, sZc]
      have hcq := hNq
      have hfq := hNf
      refine last_skipE (w' := wr.drew.setCell ⟨nb, q, none⟩ (.int .u8 (min3 (ck : Int) ((c1 : Int) + 1) ((m : Int) + 1)))) (by kernel_rfl) rfl rfl (by rfl) (by go_simp; first | done | exact rfl) (by kernel_rfl) ?_
      rw [← HU.out]
      clear hcq hfq hNq hNf hS0
      go_wp2_with fail
      go_roundw
      case rel =>
       refine ⟨k + 1, by rw [HQ.out], by omega, HA.out.off (by omega), ?_, HR.out.off (by omega), HX.out.below ((Below.refl nb wr).drew.setCell (Nat.le_refl _) _), HB.out.drew.setCell (by show w.heap.size ≤ nb; omega) _⟩
       rw [← nxK_next _ _ _ (by omega), ← HUV.out, ← HQ.out]
       exact HN.out.set
      case measure => simp [intOf]; have := HQ.out; omega
    · obtain ⟨u, hu⟩ : ∃ u, nx xs r c (k + 1) = u := ⟨_, rfl⟩
      have HUV : Hid (u = nx xs r c (k + 1)) := hu.symm
      have HU : Hid ((u : Int) = min3 ((ck : Int) + 1) ((c1 : Int) + 1) ((m : Int) + 1)) := by
       have := HUX.out
       rw [if_neg e] at this
       unfold Hid min3
       split <;> split at * <;> omega
      have hyr : (y == r) = false := by simpa using e
      have hS0 : wr.drew.cell? ⟨w.heap.size, q, none⟩ = some (bv c1) ∧ wr.drew.cell? ⟨nb, k, none⟩ = some (bv m) := ⟨hA1, hN0⟩
      clear hu HUX e
      go_upto_region 9 with fail
      refine region_atE (S := fun W' => W'.cell? ⟨w.heap.size, q, none⟩ = some (bv c1) ∧ W'.cell? ⟨nb, k, none⟩ = some (bv m)) 15 14 rfl mixedP ?_
      refine take_atE (i := 0) 36 rfl rfl (by kernel_rfl) (by kernel_rfl) (by kernel_rfl) (by kernel_rfl) (fun _ _ _ h => h) (by rfl) (fun _ s => by (have h := id s; clear s; go_simp; first | done | exact rfl)) (by assumption) ?_
      simp only [sZa, sZb, sZc]
      refine take_atE (i := 1) 37 rfl rfl (by kernel_rfl) (by kernel_rfl) (by kernel_rfl) (by kernel_rfl) (fun _ _ _ h => h) (by rfl) (fun _ s => by (have h := id s; clear s; go_simp; first | done | exact rfl)) (by assumption) ?_
      simp only [sZa, sZb, sZc]
      refine take_atE (i := 2) 38 rfl rfl (by kernel_rfl) (by kernel_rfl) (by kernel_rfl) (by kernel_rfl) (fun _ _ _ h => h) (by rfl) (fun _ s => by (have h := id s; clear s; go_simp; first | done | exact rfl)) (by assumption) ?_
      simp only [sZa, sZb, sZc]
      refine take_atE (i := 3) 39 rfl rfl (by kernel_rfl) (by kernel_rfl) (by kernel_rfl) (by kernel_rfl) (fun _ _ _ h => h) (by rfl) (fun _ s => by (have h := id s; clear s; go_simp; first | done | exact rfl)) (by assumption) ?_
      simp only [sZa, sZb, sZc]
      refine take_atE (i := 4) 40 rfl rfl (by kernel_rfl) (by kernel_rfl) (by kernel_rfl) (by kernel_rfl) (fun _ _ _ h => h) (by rfl) (fun _ s => by (have h := id s; clear s; go_simp; first | done | exact rfl)) (by assumption) ?_
      simp only [sZa, sZb, sZc]
      refine take_atE (i := 5) 41 rfl rfl (by kernel_rfl) (by kernel_rfl) (by kernel_rfl) (by kernel_rfl) (fun _ _ _ h => h) (by rfl) (fun _ s => by (have h := id s; clear s; go_simp; first | done | exact rfl)) (by assumption) ?_
      simp only [sZa, sZb, sZc]
      refine take_atE (i := 6) 42 rfl rfl (by kernel_rfl) (by kernel_rfl) (by kernel_rfl) (by kernel_rfl) (fun _ _ _ h => h) (by rfl) (fun _ s => by (have h := id s; clear s; go_simp; first | done | exact rfl)) (by assumption) ?_
      simp only [sZa, sZb, sZc]
      refine take_atE (i := 7) 43 rfl rfl (by kernel_rfl) (by kernel_rfl) (by kernel_rfl) (by kernel_rfl) (fun _ _ _ h => h) (by rfl) (fun _ s => by (have h := id s; clear s; go_simp; first | done | exact rfl)) (by assumption) ?_
      simp only [sZa, sZb, sZc]
      refine take_atE (i := 8) 44 rfl rfl (by kernel_rfl) (by kernel_rfl) (by kernel_rfl) (by kernel_rfl) (fun _ _ _ h => h) (by rfl) (fun _ s => by (have h := id s; clear s; go_simp; first | done | exact rfl)) (by assumption) ?_
      simp only [sZa, sZb, sZc]
      refine take_atE (i := 9) 45 rfl rfl (by kernel_rfl) (by kernel_rfl) (by kernel_rfl) (by kernel_rfl) (fun _ _ _ h => h) (by rfl) (fun _ s => by (have h := id s; clear s; go_simp; first | done | exact rfl)) (by assumption) ?_
      simp only [sZa, sZb, sZc]
      refine take_atE (i := 10) 46 rfl rfl (by kernel_rfl) (by kernel_rfl) (by kernel_rfl) (by kernel_rfl) (fun _ _ _ h => h) (by rfl) (fun _ s => by (have h := id s; clear s; go_simp; first | done | exact rfl)) (by assumption) ?_
      simp only [sZa, sZb, sZc]
      refine take_atE (i := 11) 47 rfl rfl (by kernel_rfl) (by kernel_rfl) (by kernel_rfl) (by kernel_rfl) (fun _ _ _ h => h) (by rfl) (fun _ s => by (have h := id s; clear s; go_simp; first | done | exact rfl)) (by assumption) ?_
      simp only [sZa, sZb, sZc]
      refine take_atE (i := 12) 48 rfl rfl (by kernel_rfl) (by kernel_rfl) (by kernel_rfl) (by kernel_rfl) (fun _ _ _ h => h) (by rfl) (fun _ s => by (have h := id s; clear s; go_simp; first | done | exact rfl)) (by assumption) ?_
      simp only [sZa, sZb, sZc]
      refine take_atE (i := 13) 49 rfl rfl (by kernel_rfl) (by kernel_rfl) (by kernel_rfl) (by kernel_rfl) (fun _ _ _ h => h) (by rfl) (fun _ s => by (have h := id s; clear s; go_simp; first | done | exact rfl)) (by assumption) ?_
      simp only [sZa, sZb, sZc]
      have hcq := hNq
      have hfq := hNf
      refine last_skipE (w' := wr.drew.setCell ⟨nb, q, none⟩ (.int .u8 (min3 ((ck : Int) + 1) ((c1 : Int) + 1) ((m : Int) + 1)))) (by kernel_rfl) rfl rfl (by rfl) (by go_simp; first | done | exact rfl) (by kernel_rfl) ?_
      rw [← HU.out]
      clear hcq hfq hNq hNf hS0
      go_wp2_with fail
      go_roundw
      case rel =>
       refine ⟨k + 1, by rw [HQ.out], by omega, HA.out.off (by omega), ?_, HR.out.off (by omega), HX.out.below ((Below.refl nb wr).drew.setCell (Nat.le_refl _) _), HB.out.drew.setCell (by show w.heap.size ≤ nb; omega) _⟩
       rw [← nxK_next _ _ _ (by omega), ← HUV.out, ← HQ.out]
       exact HN.out.set
      case measure => simp [intOf]; have := HQ.out; omega
  · obtain rfl : k = xs.length := by omega
    have hld := loadR_at hN.range (nxK_len xs r c xs.length)
    have L8 : Hid (LevAt wr p xs d) := HL.out.below hB
    clear hA hN hR hX hB
    go_wp2_with (go_at_call 58; refine (cut_any p xs d _ _ L8.out (nxK_len _ _ _ _)).mono ?_; rintro e w8 ⟨rfl, hb8⟩)
    rw [show cutL xs.length d (nxK xs r c xs.length) = stepL xs d s r by rw [stepL, HC.out]]
    have hR8 : RAt w8 (w.heap.size + 1) zeros := HR.out.below (by omega) hb8
    have hst := storeR_at hR8 zeros_len (stepL_len xs d s r)
    obtain ⟨HP, HO⟩ := hR8.put (ys := stepL xs d s r) (by rw [stepL_len, zeros_len])
    have HBS : Hid (Below w.heap.size w (setR w8 (w.heap.size + 1) (stepL xs d s r))) := HO.below (HB.out.trans (hb8.mono (by omega))) (by omega)
    obtain ⟨w9, hw9⟩ : ∃ w9, setR w8 (w.heap.size + 1) (stepL xs d s r) = w9 := ⟨_, rfl⟩
    rw [hw9] at hst HP HBS
    have HST : Hid (RAt w9 (w.heap.size + 1) (stepL xs d s r)) := HP
    clear hR8 hw9 HO HP
    rw [hst]
    go_wp2_with fail
    exact ret_row Tryz.results54 rfl (stepL_len _ _ _ _) HST.out rfl ⟨rfl, HBS.out⟩
end Go.Proofs.YtncnefpkfbngaaaGreatDoor

/- Cut: what the seat's translation lacks is left out. -/
/- The law's alive and made; the reference's Right. -/
namespace Go.Proofs.YtncnefpkfbngaaaGreatDoor
open Go.RowKit Nums Ed Lv
set_option maxRecDepth 100000

/-- A row laid into a new block. -/
theorem keep_row (w : World) (ys : List Nat) (h : ys.length = 25) : ∃ w', storeR Tryz.prog (.pointer (some ⟨w.heap.size, 0, none⟩)) (rV ys) (w.alloc (.cells (rC zeros) 71)) = .ok () w' ∧ RAt w' w.heap.size ys ∧ Below w.heap.size w w' ∧ w.heap.size < w'.heap.size := by
 have N5 : RAt (w.alloc (.cells (rC zeros) 71)) w.heap.size zeros := RAt.new _ _
 obtain ⟨P6, O6⟩ := N5.put (ys := ys) (by rw [h, zeros_len])
 exact ⟨_, storeR_at N5 zeros_len h, P6, O6.below ((Below.refl _ w).alloc (Nat.le_refl _) _) (Nat.le_refl _), P6.lt⟩
theorem put_row {w : World} {b : Nat} {bs : List Nat} (ys : List Nat) (hb : RAt w b bs) (hl : bs.length = 25) (h : ys.length = 25) : ∃ w', storeR Tryz.prog (.pointer (some ⟨b, 0, none⟩)) (rV ys) w = .ok () w' ∧ RAt w' b ys ∧ One b w w' := by
 obtain ⟨P6, O6⟩ := hb.put (ys := ys) (by rw [h, hl])
 exact ⟨_, storeR_at hb hl h, P6, O6⟩
def one3 : List Nat := ([1, 1, 1] : List Nat) ++ List.replicate 22 0
theorem exec_build_3 (a : Act) (dst : Option Tmp) (ty : TypeId) (pos : String) (af : Array Edge) (g : Option (Nat × Bool)) (w : World) : (execOp a.eval ⟨dst, .build 71 #[(0, .const (.int .u8 1)), (1, .const (.int .u8 1)), (2, .const (.int .u8 1))], ty, pos, af, g⟩).run Tryz.prog w = .ok (.value (rV one3)) w := by
 have h : (Instr.build 71 #[(0, .int .u8 1), (1, .int .u8 1), (2, .int .u8 1)]).run Tryz.prog w = .ok (rV one3) w := by kernel_rfl
 simp only [execOp, Sem.run_bind, Sem.run_pure, List.map_toArray, List.map_cons, List.map_nil, Act.eval, h, Result.andThen]
attribute [local go_sem ↓] exec_alloc_R exec_box_R exec_load_R exec_store_R exec_build_3
attribute [local go_sem] rV_cells
set_option maxHeartbeats 1000000 in
theorem LRight_any (s : ByteArray) (e : Int) (w : World) (hm : s.size ≤ 9223372036854775807) :
 Calls Tryz.prog 20 #[.string s, .int .i64 e] w fun x w' => x = .returned (.bool (rightB s.data.toList e)) ∧ Below w.heap.size w w' := by
 obtain ⟨b, hb⟩ : ∃ b, wordB s.data.toList = b := ⟨_, rfl⟩
 have HB : Hid (wordB s.data.toList = b) := hb
 clear hb
 cases b
 all_goals
  go_enter Tryz.func20, Tryz.ntmps20
  go_wp2_with (go_at_call 25; refine (RefWord_any s _ hm).mono ?_; rintro x w1 ⟨rfl, hb1⟩; rw [HB.out])
  all_goals
   go_ret
   refine ⟨ret_bool ?_, hb1⟩
   rw [rightB, HB.out]
   first | (simp; done) | (simp; omega)
end Go.Proofs.YtncnefpkfbngaaaGreatDoor
