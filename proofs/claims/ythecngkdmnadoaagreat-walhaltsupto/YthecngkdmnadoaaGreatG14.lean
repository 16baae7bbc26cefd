/- Texts that were written apart, joined. -/
import Derived.Test.YthecngkdmnadoaaGreatG13
/- disk.New. -/
namespace Go.Proofs.YthecngkdmnadoaaGreat
open Go.RowKit
set_option maxRecDepth 100000

def newD (room : Int) : DS := { room := max room 0, steps := 0, ahead := 0, dead := false, armed := false, secs := [] }
theorem alloc_new (w : World) (o : Obj) : (w.alloc o).heap[w.heap.size]? = some o := (MapKept.heap_alloc w o).1
theorem alloc_old (w : World) (o : Obj) {k : Nat} (h : k < w.heap.size) : (w.alloc o).heap[k]? = w.heap[k]? := (MapKept.heap_alloc w o).2 k h
theorem alloc_size (w : World) (o : Obj) : (w.alloc o).heap.size = w.heap.size + 1 := by simp
def newW (w : World) (r : Int) : World := ((w.alloc (.map #[] 0)).alloc (.map #[] 0)).alloc (dC r 0 0 false false 0 w.heap.size (w.heap.size + 1))
theorem new_disk (w : World) (room : Int) (r : Int) (hr : max room 0 = r) (h2 : r ≤ 9223372036854775807) :
    DiskAt 0 (newW w r) (w.heap.size + 1 + 1) (newD room) [w.heap.size + 1 + 1, w.heap.size, w.heap.size + 1] ∧ Below w.heap.size w (newW w r) ∧ ∀ b ∈ [w.heap.size + 1 + 1, w.heap.size, w.heap.size + 1], w.heap.size ≤ b := by
  have s1 := alloc_size w (.map #[] 0)
  have s2 := alloc_size (w.alloc (.map #[] 0)) (.map #[] 0)
  have e0 : (newW w r).heap[w.heap.size + 1 + 1]? = some (dC r 0 0 false false 0 w.heap.size (w.heap.size + 1)) := by
    have := alloc_new ((w.alloc (.map #[] 0)).alloc (.map #[] 0)) (dC r 0 0 false false 0 w.heap.size (w.heap.size + 1))
    rw [s2, s1] at this
    exact this
  have e1 : (newW w r).heap[w.heap.size]? = some (.map #[] 0) := by
    rw [newW, alloc_old _ _ (by rw [s2, s1]; omega), alloc_old _ _ (by rw [s1]; omega), alloc_new]
  have e2 : (newW w r).heap[w.heap.size + 1]? = some (.map #[] 0) := by
    have := alloc_new (w.alloc (.map #[] 0)) (.map #[] 0)
    rw [s1] at this
    rw [newW, alloc_old _ _ (by rw [s2, s1]; omega), this]
  refine ⟨⟨{ lb := w.heap.size, fb := w.heap.size + 1, L := [], F := [] }, ?_, ⟨⟨#[], 0, e1, rfl, by simp [keys], by simp, by simp⟩, ⟨#[], 0, e2, rfl, by simp [keys], by simp, by simp⟩, by simp, by simp⟩, ⟨by simp [newD], ?_, ?_, by simp [newD]⟩, rfl, ?_, ?_, ?_, ?_, ?_, ?_, ?_, ?_, ?_, ?_, ?_⟩, ?_, ?_⟩
  · rw [e0, ← hr]; rfl
  · intro a n; rfl
  · intro a n; rfl
  · simp; omega
  · show 0 ≤ max room 0; omega
  · show max room 0 ≤ _; omega
  · show (0 : Int) ≤ 0; omega
  · show (0 : Int) ≤ (0 : Nat); omega
  · exact Nat.le_refl _
  · show ((0 : Nat) : Int) ≤ max room 0; omega
  · intro s hs; cases hs
  · show (-9223372036854775808 : Int) ≤ 0; omega
  · show (0 : Int) ≤ _; omega
  · intro h; cases h
  · unfold newW
    exact (((Below.refl _ _).alloc (Nat.le_refl _) _).alloc (by simp) _).alloc (by simp; omega) _
  · intro b hb
    simp only [List.mem_cons, List.not_mem_nil, or_false] at hb
    omega
set_option maxHeartbeats 2000000 in
theorem New_any (room : Int) (w : World) (h1 : -9223372036854775808 ≤ room) (h2 : room ≤ 9223372036854775807) :
    Calls Tryz.prog 10 #[.int .i64 room] w fun x w' => ∃ p fp, x = .returned (.pointer (some ⟨p, 0, none⟩)) ∧ DiskAt 0 w' p (newD room) fp ∧ Below w.heap.size w w' ∧ ∀ b ∈ fp, w.heap.size ≤ b := by
  have hmm := @run_makeMap Tryz.prog
  go_enter Tryz.func10, Tryz.ntmps10
  go_wp2
  · go_ret
    obtain ⟨k1, k2, k3⟩ := new_disk w room 0 (by omega) (by omega)
    exact ⟨_, rfl, _, k1, k2, k3⟩
  · go_ret
    obtain ⟨k1, k2, k3⟩ := new_disk w room room (by omega) (by omega)
    exact ⟨_, rfl, _, k1, k2, k3⟩
end Go.Proofs.YthecngkdmnadoaaGreat

/- Looking sectors up in the two maps of maps. -/
namespace Go.Proofs.YthecngkdmnadoaaGreat
open Go.RowKit
set_option maxRecDepth 100000

theorem zero_lin (w : World) : (zeroValue 94).run Tryz.prog w = .ok (.map none) w := by kernel_rfl
theorem zero_fin (w : World) : (zeroValue 88).run Tryz.prog w = .ok (.map none) w := by kernel_rfl
theorem zero_vers (w : World) : (zeroValue 90).run Tryz.prog w = .ok (.slice none 0 0) w := by kernel_rfl
/-- The inner map at an area: none if there is none. -/
def atA {β : Type} (a : Int) (M : List (Int × Nat × β)) : Value := match mget a M with | some x => .map (some x.1) | none => .map none
theorem look_L {w : World} {sh : Sh} (h : Held w sh) (a : Int) : (Instr.lookup 70 (.map (some sh.lb)) (.int .u64 a) false).run Tryz.prog w = .ok (atA a sh.L) w := by
  rw [h.hl.look false Tryz.underlying70 Tryz.underlying22 (zero_lin w) a]
  unfold atA
  cases mget a sh.L <;> rfl
theorem look_F {w : World} {sh : Sh} (h : Held w sh) (a : Int) : (Instr.lookup 71 (.map (some sh.fb)) (.int .u64 a) false).run Tryz.prog w = .ok (atA a sh.F) w := by
  rw [h.hf.look false Tryz.underlying71 Tryz.underlying22 (zero_fin w) a]
  unfold atA
  cases mget a sh.F <;> rfl
/-- The versions at a sector. -/
def fsAt (sh : Sh) (a n : Int) : Value := match (mget a sh.F).bind fun x => mget n x.2 with | some x => fsV x | none => .slice none 0 0
theorem look_Fi {w : World} {sh : Sh} (h : Held w sh) (a n : Int) : (Instr.lookup 88 (atA a sh.F) (.int .i64 n) false).run Tryz.prog w = .ok (fsAt sh a n) w := by
  unfold atA fsAt
  cases hm : mget a sh.F with
  | none => exact look_none false Tryz.underlying88 Tryz.underlying3 (zero_vers w) n
  | some x =>
    have hp := mem_keys_of_mget hm
    show (Instr.lookup 88 (.map (some x.1)) (.int .i64 n) false).run Tryz.prog w = _
    rw [(h.hfi _ hp).1.look false Tryz.underlying88 Tryz.underlying3 (zero_vers w) n]
    simp only [Option.bind_some]
    cases mget n x.2 <;> rfl
def lastT (sh : Sh) (a n : Int) : Value := match lget sh a n with | some v => .tuple #[verV v, .bool true] | none => .tuple #[verV zver, .bool false]
theorem look_Li {w : World} {sh : Sh} (h : Held w sh) (a n : Int) : (Instr.lookup 94 (atA a sh.L) (.int .i64 n) true).run Tryz.prog w = .ok (lastT sh a n) w := by
  unfold atA lastT lget
  cases hm : mget a sh.L with
  | none => exact look_none true Tryz.underlying94 Tryz.underlying3 (zero_ver w) n
  | some x =>
    have hp := mem_keys_of_mget hm
    show (Instr.lookup 94 (.map (some x.1)) (.int .i64 n) true).run Tryz.prog w = _
    rw [(h.hli _ hp).1.look true Tryz.underlying94 Tryz.underlying3 (zero_ver w) n]
    simp only [Option.bind_some]
    cases mget n x.2 <;> rfl
end Go.Proofs.YthecngkdmnadoaaGreat

/- What is read of a sector: last, Read. -/
namespace Go.Proofs.YthecngkdmnadoaaGreat
open Go.RowKit
set_option maxRecDepth 100000

theorem isAgg_ver (w : World) : (isAgg 93).run Tryz.prog w = .ok true w := by kernel_rfl
theorem run_loadVar_ver (w : World) (b o : Nat) (v : List Nat) (hv : v.length = 64) (hr : w.rangeAt b o (v.map bv)) : (loadVar 93 ⟨b, o, none⟩).run Tryz.prog w = .ok (verV v) w := by
  obtain ⟨i, hi, hz, hs, hb⟩ := info_parts info_ver
  exact run_loadVar_mid w b o _ (v.map bv) _ hr Tryz.underlying93 rfl (by rw [hi]; simp [hs, hv])
theorem run_load_ver (w : World) (b o : Nat) (v : List Nat) (hv : v.length = 64) (hr : w.rangeAt b o (v.map bv)) : (Instr.loadAt 93 (.pointer (some ⟨b, o, none⟩))).run Tryz.prog w = .ok (verV v) w := by
  simp only [Instr.loadAt, Instr.sureAddr, Sem.run_bind, Sem.run_pure, Result.andThen_ok, run_loadVar_ver w b o v hv hr]
theorem range_block {w : World} {b : Nat} {v : List Nat} {t : TypeId} {f : Nat × Nat} (h : w.heap[b]? = some (.cells (verC v) t f)) : w.rangeAt b 0 (v.map bv) := by
  intro j u hj
  simp only [World.cell?, h, Nat.zero_add, verC]
  simpa using hj
theorem run_load_new (w : World) (v : List Nat) (hv : v.length = 64) (t : TypeId) : (Instr.loadAt 93 (.pointer (some ⟨w.heap.size, 0, none⟩))).run Tryz.prog (w.alloc (.cells (verC v) t)) = .ok (verV v) (w.alloc (.cells (verC v) t)) :=
  run_load_ver _ _ _ v hv (range_block (alloc_new w _))
/-- A store into the block ahead of the last one. -/
theorem run_store_ver2 (w : World) (u v : List Nat) (o : Obj) (hu : u.length = 64) (hv : v.length = 64) :
    (Instr.storeAt 93 (.pointer (some ⟨w.heap.size, 0, none⟩)) (verV v)).run Tryz.prog ((w.alloc (.cells (verC u) 93)).alloc o) = .ok () ((w.alloc (.cells (verC v) 93)).alloc o) := by
  obtain ⟨i, hi, hz, hs, hb⟩ := info_parts info_ver
  have hsz : (verC v).size = 64 := by rw [verC_size, hv]
  have hz64 : (verC u).size = 64 := by rw [verC_size, hu]
  have ht : ((w.alloc (.cells (verC u) 93)).alloc o).there w.heap.size 0 (verC v).size := by
    rw [hsz, ← hz64]; exact World.there_alloc (new_there _ _ _ _ (Nat.le_refl _)) o
  rw [verV, run_storeAt_mid _ _ _ _ (verC v) ht (by rw [hi, hsz]; simp [hs]) (verC_one v)]
  have e : ∀ (vs : List Value) (C : Array Value) (k : Nat), ((w.alloc (.cells C 93)).alloc o).setCells w.heap.size k vs = ((w.alloc (.cells C 93)).setCells w.heap.size k vs).alloc o := by
    intro vs
    induction vs with
    | nil => intro C k; rfl
    | cons x r ih =>
      intro C k
      have e1 : ((w.alloc (.cells C 93)).alloc o).setCell ⟨w.heap.size, k, none⟩ x = ((w.alloc (.cells C 93)).setCell ⟨w.heap.size, k, none⟩ x).alloc o := World.setCell_alloc_past _ _ _ _ (by simp)
      rw [World.setCells, World.setCells, e1, setCell_new, ih]
  rw [e, setCells_new, splice_full _ _ (by rw [Array.length_toList, hsz, hz64])]
theorem run_load_over (w : World) (v : List Nat) (hv : v.length = 64) (o : Obj) : (loadVar 93 ⟨w.heap.size, 0, none⟩).run Tryz.prog ((w.alloc (.cells (verC v) 93)).alloc o) = .ok (verV v) ((w.alloc (.cells (verC v) 93)).alloc o) :=
  run_loadVar_ver _ _ _ v hv (range_block (by rw [alloc_old _ _ (by simp), alloc_new]))
theorem run_load_one (w : World) (v : List Nat) (hv : v.length = 64) : (loadVar 93 ⟨w.heap.size, 0, none⟩).run Tryz.prog (w.alloc (.cells (verC v) 93)) = .ok (verV v) (w.alloc (.cells (verC v) 93)) :=
  run_loadVar_ver _ _ _ v hv (range_block (alloc_new _ _))
/-- Loads and stores of whole versions, kept whole in the walk. -/
def loadV (P : Program) (x : Value) (w : World) : Result Value := (Instr.loadAt 93 x).run P w
def storeV (P : Program) (x y : Value) (w : World) : Result Unit := (Instr.storeAt 93 x y).run P w
theorem exec_alloc_ver (ρ : Operand → Value) (dst : Option Tmp) (ty : TypeId) (pos : String) (af : Array Edge) (g : Option (Nat × Bool)) (w : World) :
    (execOp ρ ⟨dst, .alloc 93, ty, pos, af, g⟩).run Tryz.prog w = .ok (.value (.pointer (some ⟨w.heap.size, 0, none⟩))) (w.alloc (.cells (verC zver) 93)) := by
  simp only [execOp, Sem.run_bind, run_alloc_ver, Sem.run_pure, Result.andThen]
/-- The cells of a value, kept whole in the walk. -/
def cellsOf (v : Value) : Array Value := v.cells
theorem exec_box_ver (ρ : Operand → Value) (x : Operand) (dst : Option Tmp) (ty : TypeId) (pos : String) (af : Array Edge) (g : Option (Nat × Bool)) (w : World) :
    (execOp ρ ⟨dst, .box 93 x, ty, pos, af, g⟩).run Tryz.prog w = .ok (.value (.pointer (some ⟨w.heap.size, 0, none⟩))) (w.alloc (.cells (cellsOf (ρ x)) 93)) := by
  simp only [execOp, Sem.run_bind, Instr.box, newVar, newRow]
  rfl
theorem exec_load_ver (ρ : Operand → Value) (x : Operand) (dst : Option Tmp) (ty : TypeId) (pos : String) (af : Array Edge) (g : Option (Nat × Bool)) (w : World) :
    (execOp ρ ⟨dst, .load 93 x, ty, pos, af, g⟩).run Tryz.prog w = (loadV Tryz.prog (ρ x) w).andThen (fun v w' => .ok (.value v) w') := by
  simp only [execOp, Sem.run_bind, loadV, Sem.run_pure]
theorem exec_store_ver (ρ : Operand → Value) (x y : Operand) (dst : Option Tmp) (ty : TypeId) (pos : String) (af : Array Edge) (g : Option (Nat × Bool)) (w : World) :
    (execOp ρ ⟨dst, .store 93 x y, ty, pos, af, g⟩).run Tryz.prog w = (storeV Tryz.prog (ρ x) (ρ y) w).andThen (fun _ w' => .ok .skip w') := by
  simp only [execOp, Sem.run_bind, storeV, Sem.run_pure]
theorem verV_cells (v : List Nat) : cellsOf (verV v) = verC v := rfl
theorem storeV_new (w : World) (v : List Nat) (hv : v.length = 64) : storeV Tryz.prog (.pointer (some ⟨w.heap.size, 0, none⟩)) (verV v) (w.alloc (.cells (verC zver) 93)) = .ok () (w.alloc (.cells (verC v) 93)) := run_store_ver w v hv
theorem loadV_new (w : World) (v : List Nat) (hv : v.length = 64) : loadV Tryz.prog (.pointer (some ⟨w.heap.size, 0, none⟩)) (w.alloc (.cells (verC v) 93)) = .ok (verV v) (w.alloc (.cells (verC v) 93)) := run_load_new w v hv _
/-- What is read of a sector. -/
def curOf (S : List Sec) (a n : Int) : Option (List Nat) := (findS a n S).bind Sec.cur
theorem findS_mem {a n : Int} {S : List Sec} {s : Sec} (h : findS a n S = some s) : s ∈ S := by
  induction S with
  | nil => simp [findS] at h
  | cons t r ih =>
    rw [findS] at h
    split at h
    · rw [← Option.some.inj h]; exact .head _
    · exact .tail _ (ih h)
theorem cur_rep {sh : Sh} {S : List Sec} (h : Rep sh S) (a n : Int) : curOf S a n = match (fget sh a n).getLast? with | some v => some v | none => lget sh a n := by
  rw [h.fresh, h.last, curOf]
  cases findS a n S with
  | none => rfl
  | some s => simp only [Option.bind_some, Option.map_some, Option.getD_some, Sec.cur]; cases s.fresh.getLast? <;> rfl
theorem flat_get {vs : List (List Nat)} (h : ∀ v ∈ vs, v.length = 64) {k : Nat} (hk : k < vs.length) (j : Nat) (hj : j < 64) : (flat vs)[k * 64 + j]? = (vs[k].map bv)[j]? := by
  induction vs generalizing k with
  | nil => simp at hk
  | cons v r ih =>
    have hv := h v (.head _)
    have hr := fun x hx => h x (.tail _ hx)
    cases k with
    | zero =>
      simp only [flat, List.flatMap_cons, Nat.zero_mul, Nat.zero_add, List.getElem_cons_zero]
      rw [List.getElem?_append_left (by simp [hv, hj])]
    | succ k =>
      have e : (k + 1) * 64 + j = (v.map bv).length + (k * 64 + j) := by simp [hv]; omega
      simp only [flat, List.flatMap_cons, List.getElem_cons_succ]
      rw [e, List.getElem?_append_right (by omega), Nat.add_sub_cancel_left]
      exact ih hr (by simpa using hk)
theorem FS.ok.range {w : World} {x : FS} (h : x.ok w) {k : Nat} (hk : k < x.vs.length) : w.rangeAt x.g (k * 64) (x.vs[k].map bv) := by
  obtain ⟨⟨cur, hb, hs, ht⟩, h1, h2, h3, _⟩ := h
  intro j u hj
  have hl := h3 _ (List.getElem_mem hk)
  have hj64 : j < 64 := by
    have := (List.getElem?_eq_some_iff.1 hj).1
    simpa [hl] using this
  simp only [World.cell?, hb]
  have hlt : k * 64 + j < x.vs.length * 64 := by omega
  have e : (cur.toList.take (x.vs.length * 64))[k * 64 + j]? = (flat x.vs)[k * 64 + j]? := by rw [ht]
  rw [List.getElem?_take, if_pos hlt, flat_get h3 hk j hj64, hj] at e
  simpa using e
theorem FS.ok.load {w : World} {x : FS} (h : x.ok w) {k : Nat} (hk : k < x.vs.length) : loadV Tryz.prog (.pointer (some ⟨x.g, k * 64, none⟩)) w = .ok (verV x.vs[k]) w :=
  run_load_ver _ _ _ _ (h.2.2.2.1 _ (List.getElem_mem hk)) (h.range hk)
theorem held_new {w : World} {sh : Sh} (h : Held w sh) (o : Obj) : Held (w.alloc o) sh := h.same fun b hb => alloc_old w o (h.lt b hb)

attribute [local go_sem ↓] exec_alloc_ver exec_box_ver exec_load_ver exec_store_ver
attribute [local go_sem] verV_cells
set_option maxHeartbeats 2000000 in
theorem last_fresh (sh : Sh) (p : Nat) (x : FS) (r t s h : Int) (d ar : Bool) (a n : Int) (w : World) (hb : w.heap[p]? = some (dC r t s d ar h sh.lb sh.fb)) (hh : Held w sh) (hx : (mget a sh.F).bind (fun x => mget n x.2) = some x) (hl : x.vs.length ≤ 1152921504606846976) :
    Calls Tryz.prog 50 #[.pointer (some ⟨p, 0, none⟩), .int .u64 a, .int .i64 n] w fun e w' => e = .returned (.tuple #[verV (x.vs.getLastD zver), .bool true]) ∧ Below w.heap.size w w' := by
  have hF := look_F (held_new hh (.cells (verC zver) 93)) a
  have hFi := look_Fi (held_new hh (.cells (verC zver) 93)) a n
  have hfs : fsAt sh a n = fsV x := by rw [fsAt, hx]
  rw [hfs, fsV] at hFi
  clear hfs
  have hok : x.ok (w.alloc (.cells (verC zver) 93)) := by
    obtain ⟨y, hy, hz⟩ := Option.bind_eq_some_iff.1 hx
    exact ((held_new hh _).hfi _ (mem_keys_of_mget hy)).2.1 _ (mem_keys_of_mget hz)
  have hne := hok.2.2.2.2
  have hpos : 0 < x.vs.length := List.length_pos_iff.2 hne
  have hld := hok.load (k := x.vs.length - 1) (by omega)
  obtain ⟨c0, c1, c2, c3, c4, c5, c6, c7, hz⟩ := disk_cells hb
  have hpl : p < w.heap.size := (Array.getElem?_eq_some_iff.1 hb).1
  have hv64 : x.vs[x.vs.length - 1].length = 64 := hok.2.2.2.1 _ (List.getElem_mem _)
  have hst := storeV_new w _ hv64
  have HL : Hid (x.vs.getLastD zver = x.vs[x.vs.length - 1]) := by
    show _ = _
    rw [List.getLastD_eq_getLast?, List.getLast?_eq_getElem?, List.getElem?_eq_getElem (by omega)]; rfl
  have hres := run_load_one w _ hv64
  clear hb hh hx hok hne
  generalize atA a sh.F = mv at hF hFi
  generalize x.vs[x.vs.length - 1] = v at *
  go_enter Tryz.func50, Tryz.ntmps50
  go_wp2
  refine bodyPost_ret (v := .tuple #[verV v, .bool true]) (by simp [results, Tryz.results50, hres, Result.andThen, asAddr]) rfl ⟨by rw [HL.out], (Below.refl _ _).alloc (Nat.le_refl _) _⟩
set_option maxHeartbeats 2000000 in
theorem last_lasting (sh : Sh) (p : Nat) (r t s h : Int) (d ar : Bool) (a n : Int) (w : World) (hb : w.heap[p]? = some (dC r t s d ar h sh.lb sh.fb)) (hh : Held w sh) (hx : (mget a sh.F).bind (fun x => mget n x.2) = none) :
    Calls Tryz.prog 50 #[.pointer (some ⟨p, 0, none⟩), .int .u64 a, .int .i64 n] w fun e w' => e = .returned (.tuple #[verV ((lget sh a n).getD zver), .bool (lget sh a n).isSome]) ∧ Below w.heap.size w w' := by
  have hF := look_F (held_new hh (.cells (verC zver) 93)) a
  have hFi := look_Fi (held_new hh (.cells (verC zver) 93)) a n
  have hL := look_L (held_new hh (.cells (verC zver) 93)) a
  have hLi := look_Li (held_new hh (.cells (verC zver) 93)) a n
  have hfs : fsAt sh a n = .slice none 0 0 := by rw [fsAt, hx]
  rw [hfs] at hFi
  clear hfs
  have hlen : ((lget sh a n).getD zver).length = 64 := by
    cases hg : lget sh a n with
    | none => exact zver_len
    | some v =>
      obtain ⟨y, hy, hz⟩ := Option.bind_eq_some_iff.1 hg
      exact (hh.hli _ (mem_keys_of_mget hy)).2.1 _ (mem_keys_of_mget hz)
  have hlt : lastT sh a n = .tuple #[verV ((lget sh a n).getD zver), .bool (lget sh a n).isSome] := by
    rw [lastT]; cases lget sh a n <;> rfl
  rw [hlt] at hLi
  clear hlt
  obtain ⟨c0, c1, c2, c3, c4, c5, c6, c7, hz⟩ := disk_cells hb
  have hpl : p < w.heap.size := (Array.getElem?_eq_some_iff.1 hb).1
  clear hb hh hx
  generalize (lget sh a n).getD zver = v at *
  generalize (lget sh a n).isSome = b at *
  have hst := storeV_new (w.alloc (.cells (verC zver) 93)) v hlen
  have hl1 := loadV_new (w.alloc (.cells (verC zver) 93)) v hlen
  have hs2 : storeV Tryz.prog (.pointer (some ⟨w.heap.size, 0, none⟩)) (verV v) ((w.alloc (.cells (verC zver) 93)).alloc (.cells (verC v) 93)) = .ok () ((w.alloc (.cells (verC v) 93)).alloc (.cells (verC v) 93)) := run_store_ver2 w zver v _ zver_len hlen
  have hres := run_load_over w v hlen (.cells (verC v) 93)
  rw [alloc_size] at hst hl1
  generalize atA a sh.F = mv at hF hFi
  generalize atA a sh.L = ml at hL hLi
  go_enter Tryz.func50, Tryz.ntmps50
  go_wp2
  refine bodyPost_ret (v := .tuple #[verV v, .bool b]) (by simp [results, Tryz.results50, hres, Result.andThen, asAddr]) rfl ⟨rfl, ((Below.refl _ _).alloc (Nat.le_refl _) _).alloc (by simp) _⟩
theorem last_any (N : Nat) (p : Nat) (d : DS) (fp : List Nat) (a n : Int) (w : World) (h : DiskAt N w p d fp) (hN : N < 1152921504606846976) :
    Calls Tryz.prog 50 #[.pointer (some ⟨p, 0, none⟩), .int .u64 a, .int .i64 n] w fun e w' => e = .returned (.tuple #[verV ((curOf d.secs a n).getD zver), .bool (curOf d.secs a n).isSome]) ∧ Below w.heap.size w w' := by
  obtain ⟨sh, h1, h2, h3, _, _, _, _, _, _, _, _, h12, _⟩ := h
  rw [cur_rep h3]
  have hfr := h3.fresh a n
  cases hx : (mget a sh.F).bind (fun x => mget n x.2) with
  | none =>
    have e : fget sh a n = [] := by rw [fget, hx]
    rw [e]
    exact last_lasting sh p _ _ _ _ _ _ a n w h1 h2 hx
  | some x =>
    have e : fget sh a n = x.vs := by rw [fget, hx]
    obtain ⟨y, hy, hz⟩ := Option.bind_eq_some_iff.1 hx
    have hok := (h2.hfi _ (mem_keys_of_mget hy)).2.1 _ (mem_keys_of_mget hz)
    have hpos : 0 < x.vs.length := List.length_pos_iff.2 hok.2.2.2.2
    have hxl : x.vs.length ≤ N := by
      rw [e] at hfr
      cases hf : findS a n d.secs with
      | none => rw [hf] at hfr; rw [hfr] at hpos; simp at hpos
      | some s =>
        rw [hf] at hfr
        rw [hfr]
        exact h12 s (findS_mem hf)
    refine (last_fresh sh p x _ _ _ _ _ _ a n w h1 h2 hx (by omega)).mono ?_
    rintro e' w' ⟨rfl, hb⟩
    refine ⟨?_, hb⟩
    rw [e]
    have hg : x.vs.getLast? = some (x.vs.getLastD zver) := by
      rw [List.getLastD_eq_getLast?]
      cases hq : x.vs.getLast? with
      | none => rw [List.getLast?_eq_none_iff] at hq; rw [hq] at hpos; simp at hpos
      | some v => rfl
    rw [hg]
    rfl
end Go.Proofs.YthecngkdmnadoaaGreat
