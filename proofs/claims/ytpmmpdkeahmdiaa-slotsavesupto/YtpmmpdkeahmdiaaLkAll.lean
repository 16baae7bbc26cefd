/- Texts that were written apart, joined. -/
import Derived.Test.YtpmmpdkeahmdiaaSmall
import Derived.Maps.AppendAt
import Derived.Deep.RegionHeld3
import Derived.Test.YtpmmpdkeahmdiaaBase
/- disk.New. -/
namespace Go.Proofs.Ytpmmpdkeahmdiaa
open Go.RowKit
set_option maxRecDepth 100000

def newD (room : Int) : DS := { room := max room 0, steps := 0, ahead := 0, dead := false, armed := false, secs := [] }
theorem alloc_new (w : World) (o : Obj) : (w.alloc o).heap[w.heap.size]? = some o := (MapKept.heap_alloc w o).1
theorem alloc_old (w : World) (o : Obj) {k : Nat} (h : k < w.heap.size) : (w.alloc o).heap[k]? = w.heap[k]? := (MapKept.heap_alloc w o).2 k h
theorem alloc_size (w : World) (o : Obj) : (w.alloc o).heap.size = w.heap.size + 1 := by simp
def newW (w : World) (r : Int) : World := ((w.alloc (.map #[] 0)).alloc (.map #[] 0)).alloc (dC r 0 0 false false 0 w.heap.size (w.heap.size + 1))
theorem new_disk (w : World) (room : Int) (r : Int) (hr : max room 0 = r) (h2 : r ≤ 9223372036854775807) :
    DiskAt 0 (newW w r) (w.heap.size + 1 + 1) (newD room) [w.heap.size + 1 + 1, w.heap.size, w.heap.size + 1] ∧ Below w.heap.size w (newW w r) ∧ ∀ b ∈ [w.heap.size + 1 + 1, w.heap.size, w.heap.size + 1], w.heap.size ≤ b := by
  have s1 := alloc_size w (.map #[] 0)
  have s2 := alloc_size (w.alloc (.map #[] 0)) (.map #[] 0)
  have e0 : (newW w r).heap[w.heap.size + 1 + 1]? = some (dC r 0 0 false false 0 w.heap.size (w.heap.size + 1)) := by
    have := alloc_new ((w.alloc (.map #[] 0)).alloc (.map #[] 0)) (dC r 0 0 false false 0 w.heap.size (w.heap.size + 1))
    rw [s2, s1] at this
    exact this
  have e1 : (newW w r).heap[w.heap.size]? = some (.map #[] 0) := by
    rw [newW, alloc_old _ _ (by rw [s2, s1]; omega), alloc_old _ _ (by rw [s1]; omega), alloc_new]
  have e2 : (newW w r).heap[w.heap.size + 1]? = some (.map #[] 0) := by
    have := alloc_new (w.alloc (.map #[] 0)) (.map #[] 0)
    rw [s1] at this
    rw [newW, alloc_old _ _ (by rw [s2, s1]; omega), this]
  refine ⟨⟨{ lb := w.heap.size, fb := w.heap.size + 1, L := [], F := [] }, ?_, ⟨⟨#[], 0, e1, rfl, by simp [keys], by simp, by simp⟩, ⟨#[], 0, e2, rfl, by simp [keys], by simp, by simp⟩, by simp, by simp⟩, ⟨by simp [newD], ?_, ?_, by simp [newD]⟩, rfl, ?_, ?_, ?_, ?_, ?_, ?_, ?_, ?_, ?_, ?_, ?_⟩, ?_, ?_⟩
  · rw [e0, ← hr]; rfl
  · intro a n; rfl
  · intro a n; rfl
  · simp; omega
  · show 0 ≤ max room 0; omega
  · show max room 0 ≤ _; omega
  · show (0 : Int) ≤ 0; omega
  · show (0 : Int) ≤ (0 : Nat); omega
  · exact Nat.le_refl _
  · show ((0 : Nat) : Int) ≤ max room 0; omega
  · intro s hs; cases hs
  · show (-9223372036854775808 : Int) ≤ 0; omega
  · show (0 : Int) ≤ _; omega
  · intro h; cases h
  · unfold newW
    exact (((Below.refl _ _).alloc (Nat.le_refl _) _).alloc (by simp) _).alloc (by simp; omega) _
  · intro b hb
    simp only [List.mem_cons, List.not_mem_nil, or_false] at hb
    omega
set_option maxHeartbeats 2000000 in
theorem New_any (room : Int) (w : World) (h1 : -9223372036854775808 ≤ room) (h2 : room ≤ 9223372036854775807) :
    Calls Try.prog 18 #[.int .i64 room] w fun x w' => ∃ p fp, x = .returned (.pointer (some ⟨p, 0, none⟩)) ∧ DiskAt 0 w' p (newD room) fp ∧ Below w.heap.size w w' ∧ ∀ b ∈ fp, w.heap.size ≤ b := by
  have hmm := @run_makeMap Try.prog
  go_enter Try.func18, Try.ntmps18
  go_wp2
  · go_ret
    obtain ⟨k1, k2, k3⟩ := new_disk w room 0 (by omega) (by omega)
    exact ⟨_, rfl, _, k1, k2, k3⟩
  · go_ret
    obtain ⟨k1, k2, k3⟩ := new_disk w room room (by omega) (by omega)
    exact ⟨_, rfl, _, k1, k2, k3⟩
end Go.Proofs.Ytpmmpdkeahmdiaa

/- Looking sectors up in the two maps of maps. -/
namespace Go.Proofs.Ytpmmpdkeahmdiaa
open Go.RowKit
set_option maxRecDepth 100000

theorem zero_lin (w : World) : (zeroValue 88).run Try.prog w = .ok (.map none) w := by kernel_rfl
theorem zero_fin (w : World) : (zeroValue 82).run Try.prog w = .ok (.map none) w := by kernel_rfl
theorem zero_vers (w : World) : (zeroValue 84).run Try.prog w = .ok (.slice none 0 0) w := by kernel_rfl
/-- The inner map at an area: none if there is none. -/
def atA {β : Type} (a : Int) (M : List (Int × Nat × β)) : Value := match mget a M with | some x => .map (some x.1) | none => .map none
theorem look_L {w : World} {sh : Sh} (h : Held w sh) (a : Int) : (Instr.lookup 75 (.map (some sh.lb)) (.int .u64 a) false).run Try.prog w = .ok (atA a sh.L) w := by
  rw [h.hl.look false Try.underlying75 Try.underlying35 (zero_lin w) a]
  unfold atA
  cases mget a sh.L <;> rfl
theorem look_F {w : World} {sh : Sh} (h : Held w sh) (a : Int) : (Instr.lookup 76 (.map (some sh.fb)) (.int .u64 a) false).run Try.prog w = .ok (atA a sh.F) w := by
  rw [h.hf.look false Try.underlying76 Try.underlying35 (zero_fin w) a]
  unfold atA
  cases mget a sh.F <;> rfl
/-- The versions at a sector. -/
def fsAt (sh : Sh) (a n : Int) : Value := match (mget a sh.F).bind fun x => mget n x.2 with | some x => fsV x | none => .slice none 0 0
theorem look_Fi {w : World} {sh : Sh} (h : Held w sh) (a n : Int) : (Instr.lookup 82 (atA a sh.F) (.int .i64 n) false).run Try.prog w = .ok (fsAt sh a n) w := by
  unfold atA fsAt
  cases hm : mget a sh.F with
  | none => exact look_none false Try.underlying82 Try.underlying3 (zero_vers w) n
  | some x =>
    have hp := mem_keys_of_mget hm
    show (Instr.lookup 82 (.map (some x.1)) (.int .i64 n) false).run Try.prog w = _
    rw [(h.hfi _ hp).1.look false Try.underlying82 Try.underlying3 (zero_vers w) n]
    simp only [Option.bind_some]
    cases mget n x.2 <;> rfl
def lastT (sh : Sh) (a n : Int) : Value := match lget sh a n with | some v => .tuple #[verV v, .bool true] | none => .tuple #[verV zver, .bool false]
theorem look_Li {w : World} {sh : Sh} (h : Held w sh) (a n : Int) : (Instr.lookup 88 (atA a sh.L) (.int .i64 n) true).run Try.prog w = .ok (lastT sh a n) w := by
  unfold atA lastT lget
  cases hm : mget a sh.L with
  | none => exact look_none true Try.underlying88 Try.underlying3 (zero_ver w) n
  | some x =>
    have hp := mem_keys_of_mget hm
    show (Instr.lookup 88 (.map (some x.1)) (.int .i64 n) true).run Try.prog w = _
    rw [(h.hli _ hp).1.look true Try.underlying88 Try.underlying3 (zero_ver w) n]
    simp only [Option.bind_some]
    cases mget n x.2 <;> rfl
end Go.Proofs.Ytpmmpdkeahmdiaa

/- What is read of a sector: last, Read. -/
namespace Go.Proofs.Ytpmmpdkeahmdiaa
open Go.RowKit
set_option maxRecDepth 100000

theorem isAgg_ver (w : World) : (isAgg 87).run Try.prog w = .ok true w := by kernel_rfl
theorem run_loadVar_ver (w : World) (b o : Nat) (v : List Nat) (hv : v.length = 64) (hr : w.rangeAt b o (v.map bv)) : (loadVar 87 ⟨b, o, none⟩).run Try.prog w = .ok (verV v) w := by
  obtain ⟨i, hi, hz, hs, hb⟩ := info_parts info_ver
  exact run_loadVar_mid w b o _ (v.map bv) _ hr Try.underlying87 rfl (by rw [hi]; simp [hs, hv])
theorem run_load_ver (w : World) (b o : Nat) (v : List Nat) (hv : v.length = 64) (hr : w.rangeAt b o (v.map bv)) : (Instr.loadAt 87 (.pointer (some ⟨b, o, none⟩))).run Try.prog w = .ok (verV v) w := by
  simp only [Instr.loadAt, Instr.sureAddr, Sem.run_bind, Sem.run_pure, Result.andThen_ok, run_loadVar_ver w b o v hv hr]
theorem range_block {w : World} {b : Nat} {v : List Nat} {t : TypeId} {f : Nat × Nat} (h : w.heap[b]? = some (.cells (verC v) t f)) : w.rangeAt b 0 (v.map bv) := by
  intro j u hj
  simp only [World.cell?, h, Nat.zero_add, verC]
  simpa using hj
theorem run_load_new (w : World) (v : List Nat) (hv : v.length = 64) (t : TypeId) : (Instr.loadAt 87 (.pointer (some ⟨w.heap.size, 0, none⟩))).run Try.prog (w.alloc (.cells (verC v) t)) = .ok (verV v) (w.alloc (.cells (verC v) t)) :=
  run_load_ver _ _ _ v hv (range_block (alloc_new w _))
/-- A store into the block ahead of the last one. -/
theorem run_store_ver2 (w : World) (u v : List Nat) (o : Obj) (hu : u.length = 64) (hv : v.length = 64) :
    (Instr.storeAt 87 (.pointer (some ⟨w.heap.size, 0, none⟩)) (verV v)).run Try.prog ((w.alloc (.cells (verC u) 87)).alloc o) = .ok () ((w.alloc (.cells (verC v) 87)).alloc o) := by
  obtain ⟨i, hi, hz, hs, hb⟩ := info_parts info_ver
  have hsz : (verC v).size = 64 := by rw [verC_size, hv]
  have hz64 : (verC u).size = 64 := by rw [verC_size, hu]
  have ht : ((w.alloc (.cells (verC u) 87)).alloc o).there w.heap.size 0 (verC v).size := by
    rw [hsz, ← hz64]; exact World.there_alloc (new_there _ _ _ _ (Nat.le_refl _)) o
  rw [verV, run_storeAt_mid _ _ _ _ (verC v) ht (by rw [hi, hsz]; simp [hs]) (verC_one v)]
  have e : ∀ (vs : List Value) (C : Array Value) (k : Nat), ((w.alloc (.cells C 87)).alloc o).setCells w.heap.size k vs = ((w.alloc (.cells C 87)).setCells w.heap.size k vs).alloc o := by
    intro vs
    induction vs with
    | nil => intro C k; rfl
    | cons x r ih =>
      intro C k
      have e1 : ((w.alloc (.cells C 87)).alloc o).setCell ⟨w.heap.size, k, none⟩ x = ((w.alloc (.cells C 87)).setCell ⟨w.heap.size, k, none⟩ x).alloc o := World.setCell_alloc_past _ _ _ _ (by simp)
      rw [World.setCells, World.setCells, e1, setCell_new, ih]
  rw [e, setCells_new, splice_full _ _ (by rw [Array.length_toList, hsz, hz64])]
theorem run_load_over (w : World) (v : List Nat) (hv : v.length = 64) (o : Obj) : (loadVar 87 ⟨w.heap.size, 0, none⟩).run Try.prog ((w.alloc (.cells (verC v) 87)).alloc o) = .ok (verV v) ((w.alloc (.cells (verC v) 87)).alloc o) :=
  run_loadVar_ver _ _ _ v hv (range_block (by rw [alloc_old _ _ (by simp), alloc_new]))
theorem run_load_one (w : World) (v : List Nat) (hv : v.length = 64) : (loadVar 87 ⟨w.heap.size, 0, none⟩).run Try.prog (w.alloc (.cells (verC v) 87)) = .ok (verV v) (w.alloc (.cells (verC v) 87)) :=
  run_loadVar_ver _ _ _ v hv (range_block (alloc_new _ _))
/-- Loads and stores of whole versions, kept whole in the walk. -/
def loadV (P : Program) (x : Value) (w : World) : Result Value := (Instr.loadAt 87 x).run P w
def storeV (P : Program) (x y : Value) (w : World) : Result Unit := (Instr.storeAt 87 x y).run P w
theorem exec_alloc_ver (ρ : Operand → Value) (dst : Option Tmp) (ty : TypeId) (pos : String) (af : Array Edge) (g : Option (Nat × Bool)) (w : World) :
    (execOp ρ ⟨dst, .alloc 87, ty, pos, af, g⟩).run Try.prog w = .ok (.value (.pointer (some ⟨w.heap.size, 0, none⟩))) (w.alloc (.cells (verC zver) 87)) := by
  simp only [execOp, Sem.run_bind, run_alloc_ver, Sem.run_pure, Result.andThen]
/-- The cells of a value, kept whole in the walk. -/
def cellsOf (v : Value) : Array Value := v.cells
theorem exec_box_ver (ρ : Operand → Value) (x : Operand) (dst : Option Tmp) (ty : TypeId) (pos : String) (af : Array Edge) (g : Option (Nat × Bool)) (w : World) :
    (execOp ρ ⟨dst, .box 87 x, ty, pos, af, g⟩).run Try.prog w = .ok (.value (.pointer (some ⟨w.heap.size, 0, none⟩))) (w.alloc (.cells (cellsOf (ρ x)) 87)) := by
  simp only [execOp, Sem.run_bind, Instr.box, newVar, newRow]
  rfl
theorem exec_load_ver (ρ : Operand → Value) (x : Operand) (dst : Option Tmp) (ty : TypeId) (pos : String) (af : Array Edge) (g : Option (Nat × Bool)) (w : World) :
    (execOp ρ ⟨dst, .load 87 x, ty, pos, af, g⟩).run Try.prog w = (loadV Try.prog (ρ x) w).andThen (fun v w' => .ok (.value v) w') := by
  simp only [execOp, Sem.run_bind, loadV, Sem.run_pure]
theorem exec_store_ver (ρ : Operand → Value) (x y : Operand) (dst : Option Tmp) (ty : TypeId) (pos : String) (af : Array Edge) (g : Option (Nat × Bool)) (w : World) :
    (execOp ρ ⟨dst, .store 87 x y, ty, pos, af, g⟩).run Try.prog w = (storeV Try.prog (ρ x) (ρ y) w).andThen (fun _ w' => .ok .skip w') := by
  simp only [execOp, Sem.run_bind, storeV, Sem.run_pure]
theorem verV_cells (v : List Nat) : cellsOf (verV v) = verC v := rfl
theorem storeV_new (w : World) (v : List Nat) (hv : v.length = 64) : storeV Try.prog (.pointer (some ⟨w.heap.size, 0, none⟩)) (verV v) (w.alloc (.cells (verC zver) 87)) = .ok () (w.alloc (.cells (verC v) 87)) := run_store_ver w v hv
theorem loadV_new (w : World) (v : List Nat) (hv : v.length = 64) : loadV Try.prog (.pointer (some ⟨w.heap.size, 0, none⟩)) (w.alloc (.cells (verC v) 87)) = .ok (verV v) (w.alloc (.cells (verC v) 87)) := run_load_new w v hv _
/-- What is read of a sector. -/
def curOf (S : List Sec) (a n : Int) : Option (List Nat) := (findS a n S).bind Sec.cur
theorem findS_mem {a n : Int} {S : List Sec} {s : Sec} (h : findS a n S = some s) : s ∈ S := by
  induction S with
  | nil => simp [findS] at h
  | cons t r ih =>
    rw [findS] at h
    split at h
    · rw [← Option.some.inj h]; exact .head _
    · exact .tail _ (ih h)
theorem cur_rep {sh : Sh} {S : List Sec} (h : Rep sh S) (a n : Int) : curOf S a n = match (fget sh a n).getLast? with | some v => some v | none => lget sh a n := by
  rw [h.fresh, h.last, curOf]
  cases findS a n S with
  | none => rfl
  | some s => simp only [Option.bind_some, Option.map_some, Option.getD_some, Sec.cur]; cases s.fresh.getLast? <;> rfl
theorem flat_get {vs : List (List Nat)} (h : ∀ v ∈ vs, v.length = 64) {k : Nat} (hk : k < vs.length) (j : Nat) (hj : j < 64) : (flat vs)[k * 64 + j]? = (vs[k].map bv)[j]? := by
  induction vs generalizing k with
  | nil => simp at hk
  | cons v r ih =>
    have hv := h v (.head _)
    have hr := fun x hx => h x (.tail _ hx)
    cases k with
    | zero =>
      simp only [flat, List.flatMap_cons, Nat.zero_mul, Nat.zero_add, List.getElem_cons_zero]
      rw [List.getElem?_append_left (by simp [hv, hj])]
    | succ k =>
      have e : (k + 1) * 64 + j = (v.map bv).length + (k * 64 + j) := by simp [hv]; omega
      simp only [flat, List.flatMap_cons, List.getElem_cons_succ]
      rw [e, List.getElem?_append_right (by omega), Nat.add_sub_cancel_left]
      exact ih hr (by simpa using hk)
theorem FS.ok.range {w : World} {x : FS} (h : x.ok w) {k : Nat} (hk : k < x.vs.length) : w.rangeAt x.g (k * 64) (x.vs[k].map bv) := by
  obtain ⟨⟨cur, hb, hs, ht⟩, h1, h2, h3, _⟩ := h
  intro j u hj
  have hl := h3 _ (List.getElem_mem hk)
  have hj64 : j < 64 := by
    have := (List.getElem?_eq_some_iff.1 hj).1
    simpa [hl] using this
  simp only [World.cell?, hb]
  have hlt : k * 64 + j < x.vs.length * 64 := by omega
  have e : (cur.toList.take (x.vs.length * 64))[k * 64 + j]? = (flat x.vs)[k * 64 + j]? := by rw [ht]
  rw [List.getElem?_take, if_pos hlt, flat_get h3 hk j hj64, hj] at e
  simpa using e
theorem FS.ok.load {w : World} {x : FS} (h : x.ok w) {k : Nat} (hk : k < x.vs.length) : loadV Try.prog (.pointer (some ⟨x.g, k * 64, none⟩)) w = .ok (verV x.vs[k]) w :=
  run_load_ver _ _ _ _ (h.2.2.2.1 _ (List.getElem_mem hk)) (h.range hk)
theorem held_new {w : World} {sh : Sh} (h : Held w sh) (o : Obj) : Held (w.alloc o) sh := h.same fun b hb => alloc_old w o (h.lt b hb)

attribute [local go_sem ↓] exec_alloc_ver exec_box_ver exec_load_ver exec_store_ver
attribute [local go_sem] verV_cells
set_option maxHeartbeats 2000000 in
theorem last_fresh (sh : Sh) (p : Nat) (x : FS) (r t s h : Int) (d ar : Bool) (a n : Int) (w : World) (hb : w.heap[p]? = some (dC r t s d ar h sh.lb sh.fb)) (hh : Held w sh) (hx : (mget a sh.F).bind (fun x => mget n x.2) = some x) (hl : x.vs.length ≤ 1152921504606846976) :
    Calls Try.prog 58 #[.pointer (some ⟨p, 0, none⟩), .int .u64 a, .int .i64 n] w fun e w' => e = .returned (.tuple #[verV (x.vs.getLastD zver), .bool true]) ∧ Below w.heap.size w w' := by
  have hF := look_F (held_new hh (.cells (verC zver) 87)) a
  have hFi := look_Fi (held_new hh (.cells (verC zver) 87)) a n
  have hfs : fsAt sh a n = fsV x := by rw [fsAt, hx]
  rw [hfs, fsV] at hFi
  clear hfs
  have hok : x.ok (w.alloc (.cells (verC zver) 87)) := by
    obtain ⟨y, hy, hz⟩ := Option.bind_eq_some_iff.1 hx
    exact ((held_new hh _).hfi _ (mem_keys_of_mget hy)).2.1 _ (mem_keys_of_mget hz)
  have hne := hok.2.2.2.2
  have hpos : 0 < x.vs.length := List.length_pos_iff.2 hne
  have hld := hok.load (k := x.vs.length - 1) (by omega)
  obtain ⟨c0, c1, c2, c3, c4, c5, c6, c7, hz⟩ := disk_cells hb
  have hpl : p < w.heap.size := (Array.getElem?_eq_some_iff.1 hb).1
  have hv64 : x.vs[x.vs.length - 1].length = 64 := hok.2.2.2.1 _ (List.getElem_mem _)
  have hst := storeV_new w _ hv64
  have HL : Hid (x.vs.getLastD zver = x.vs[x.vs.length - 1]) := by
    show _ = _
    rw [List.getLastD_eq_getLast?, List.getLast?_eq_getElem?, List.getElem?_eq_getElem (by omega)]; rfl
  have hres := run_load_one w _ hv64
  clear hb hh hx hok hne
  generalize atA a sh.F = mv at hF hFi
  generalize x.vs[x.vs.length - 1] = v at *
  go_enter Try.func58, Try.ntmps58
  go_wp2
  refine bodyPost_ret (v := .tuple #[verV v, .bool true]) (by simp [results, Try.results58, hres, Result.andThen, asAddr]) rfl ⟨by rw [HL.out], (Below.refl _ _).alloc (Nat.le_refl _) _⟩
set_option maxHeartbeats 2000000 in
theorem last_lasting (sh : Sh) (p : Nat) (r t s h : Int) (d ar : Bool) (a n : Int) (w : World) (hb : w.heap[p]? = some (dC r t s d ar h sh.lb sh.fb)) (hh : Held w sh) (hx : (mget a sh.F).bind (fun x => mget n x.2) = none) :
    Calls Try.prog 58 #[.pointer (some ⟨p, 0, none⟩), .int .u64 a, .int .i64 n] w fun e w' => e = .returned (.tuple #[verV ((lget sh a n).getD zver), .bool (lget sh a n).isSome]) ∧ Below w.heap.size w w' := by
  have hF := look_F (held_new hh (.cells (verC zver) 87)) a
  have hFi := look_Fi (held_new hh (.cells (verC zver) 87)) a n
  have hL := look_L (held_new hh (.cells (verC zver) 87)) a
  have hLi := look_Li (held_new hh (.cells (verC zver) 87)) a n
  have hfs : fsAt sh a n = .slice none 0 0 := by rw [fsAt, hx]
  rw [hfs] at hFi
  clear hfs
  have hlen : ((lget sh a n).getD zver).length = 64 := by
    cases hg : lget sh a n with
    | none => exact zver_len
    | some v =>
      obtain ⟨y, hy, hz⟩ := Option.bind_eq_some_iff.1 hg
      exact (hh.hli _ (mem_keys_of_mget hy)).2.1 _ (mem_keys_of_mget hz)
  have hlt : lastT sh a n = .tuple #[verV ((lget sh a n).getD zver), .bool (lget sh a n).isSome] := by
    rw [lastT]; cases lget sh a n <;> rfl
  rw [hlt] at hLi
  clear hlt
  obtain ⟨c0, c1, c2, c3, c4, c5, c6, c7, hz⟩ := disk_cells hb
  have hpl : p < w.heap.size := (Array.getElem?_eq_some_iff.1 hb).1
  clear hb hh hx
  generalize (lget sh a n).getD zver = v at *
  generalize (lget sh a n).isSome = b at *
  have hst := storeV_new (w.alloc (.cells (verC zver) 87)) v hlen
  have hl1 := loadV_new (w.alloc (.cells (verC zver) 87)) v hlen
  have hs2 : storeV Try.prog (.pointer (some ⟨w.heap.size, 0, none⟩)) (verV v) ((w.alloc (.cells (verC zver) 87)).alloc (.cells (verC v) 87)) = .ok () ((w.alloc (.cells (verC v) 87)).alloc (.cells (verC v) 87)) := run_store_ver2 w zver v _ zver_len hlen
  have hres := run_load_over w v hlen (.cells (verC v) 87)
  rw [alloc_size] at hst hl1
  generalize atA a sh.F = mv at hF hFi
  generalize atA a sh.L = ml at hL hLi
  go_enter Try.func58, Try.ntmps58
  go_wp2
  refine bodyPost_ret (v := .tuple #[verV v, .bool b]) (by simp [results, Try.results58, hres, Result.andThen, asAddr]) rfl ⟨rfl, ((Below.refl _ _).alloc (Nat.le_refl _) _).alloc (by simp) _⟩
theorem last_any (N : Nat) (p : Nat) (d : DS) (fp : List Nat) (a n : Int) (w : World) (h : DiskAt N w p d fp) (hN : N < 1152921504606846976) :
    Calls Try.prog 58 #[.pointer (some ⟨p, 0, none⟩), .int .u64 a, .int .i64 n] w fun e w' => e = .returned (.tuple #[verV ((curOf d.secs a n).getD zver), .bool (curOf d.secs a n).isSome]) ∧ Below w.heap.size w w' := by
  obtain ⟨sh, h1, h2, h3, _, _, _, _, _, _, _, _, h12, _⟩ := h
  rw [cur_rep h3]
  have hfr := h3.fresh a n
  cases hx : (mget a sh.F).bind (fun x => mget n x.2) with
  | none =>
    have e : fget sh a n = [] := by rw [fget, hx]
    rw [e]
    exact last_lasting sh p _ _ _ _ _ _ a n w h1 h2 hx
  | some x =>
    have e : fget sh a n = x.vs := by rw [fget, hx]
    obtain ⟨y, hy, hz⟩ := Option.bind_eq_some_iff.1 hx
    have hok := (h2.hfi _ (mem_keys_of_mget hy)).2.1 _ (mem_keys_of_mget hz)
    have hpos : 0 < x.vs.length := List.length_pos_iff.2 hok.2.2.2.2
    have hxl : x.vs.length ≤ N := by
      rw [e] at hfr
      cases hf : findS a n d.secs with
      | none => rw [hf] at hfr; rw [hfr] at hpos; simp at hpos
      | some s =>
        rw [hf] at hfr
        rw [hfr]
        exact h12 s (findS_mem hf)
    refine (last_fresh sh p x _ _ _ _ _ _ a n w h1 h2 hx (by omega)).mono ?_
    rintro e' w' ⟨rfl, hb⟩
    refine ⟨?_, hb⟩
    rw [e]
    have hg : x.vs.getLast? = some (x.vs.getLastD zver) := by
      rw [List.getLastD_eq_getLast?]
      cases hq : x.vs.getLast? with
      | none => rw [List.getLast?_eq_none_iff] at hq; rw [hq] at hpos; simp at hpos
      | some v => rfl
    rw [hg]
    rfl
end Go.Proofs.Ytpmmpdkeahmdiaa

/- put: a value laid down in a map of maps. -/
namespace Go.Proofs.Ytpmmpdkeahmdiaa
open Go.RowKit
set_option maxRecDepth 100000

theorem MapAt.conv {α β : Type} {q : IntKind} {f : α → Value} {g : β → Value} {w : World} {b : Nat} {m : List (Int × α)} {m' : List (Int × β)} (h : MapAt q f w b m) (e : m'.map (fun p => (p.1, g p.2)) = m.map (fun p => (p.1, f p.2))) : MapAt q g w b m' := by
  obtain ⟨es, clock, hb, hm, hn, hs⟩ := h
  have ek : keys m' = keys m := by
    have := congrArg (List.map (·.1)) e
    simpa [keys, List.map_map, Function.comp_def] using this
  refine ⟨es, clock, hb, hm.trans ?_, ek ▸ hn, hs⟩
  have := congrArg (List.map fun p : Int × Value => (Value.int q p.1, p.2)) e
  simpa [List.map_map, Function.comp_def] using this.symm
theorem mput_map {α β : Type} (g : α → β) (k : Int) (u : α) (m : List (Int × α)) : (mput k u m).map (fun p => (p.1, g p.2)) = mput k (g u) (m.map (fun p => (p.1, g p.2))) := by
  induction m with
  | nil => rfl
  | cons p r ih =>
    by_cases e : p.1 = k
    · simp [mput, e]
    · simp [mput, e, ih]

theorem wpList_update {α : Type} {q : IntKind} {f : α → Value} {w : World} {b : Nat} {M : List (Int × α)} {ops : Array Oper} {rest : List Oper} {o : Oper} {a : Act} {Q : Exit → Act → World → Prop}
    (h : MapAt q f w b M) (hg : o.guard = none) (m x v : Operand) (t kt et : TypeId) (hop : o.op = Op.mapUpdate t m x v) (ht : Try.prog.underlying t = some (.map kt et)) (hk : Try.prog.underlying kt = some (.int q)) (k : Int) (u : α)
    (hm : a.eval m = .map (some b)) (hx : a.eval x = .int q k) (hv : a.eval v = f u) (hK : ∀ w', MapAt q f w' b (mput k u M) → One b w w' → wpList Try.prog ops Q rest (a.put o.dst undef) w') : wpList Try.prog ops Q (o :: rest) a w := by
  refine wpList_plain hg fun K' hK' => ?_
  obtain ⟨w', hrun, r1, r2⟩ := h.store ht hk k u
  unfold Oper.wp
  simp [execOp, hop, hm, hx, hv, hrun, Result.andThen]
  exact hK' _ _ (hK w' r1 r2)

section
variable {α : Type}
/-- A map of maps with v laid down at a, n; nb: the new inner map's block, if one is made. -/
def putM (a n : Int) (v : α) (nb : Nat) (M : List (Int × Nat × List (Int × α))) : List (Int × Nat × List (Int × α)) :=
  mput a (match mget a M with | some x => (x.1, mput n v x.2) | none => (nb, [(n, v)])) M
/-- A map of maps in memory. -/
def Two (f : α → Value) (w : World) (mb : Nat) (M : List (Int × Nat × List (Int × α))) : Prop := MapAt .u64 inV w mb M ∧ (∀ p ∈ M, MapAt .i64 f w p.2.1 p.2.2) ∧ (mb :: M.map (·.2.1)).Nodup
/-- What put does. -/
def PutPost (f : α → Value) (a n : Int) (v : α) (mb : Nat) (M : List (Int × Nat × List (Int × α))) (w w' : World) : Prop :=
  ∃ nb, Two f w' mb (putM a n v nb M) ∧ (mget a M = none → w.heap.size ≤ nb) ∧ nb < w'.heap.size ∧ w'.os = w.os ∧ w'.tape = w.tape ∧ w'.output = w.output ∧ w.heap.size ≤ w'.heap.size ∧
    ∀ k, k < w.heap.size → k ≠ mb → (∀ x, mget a M = some x → k ≠ x.1) → w'.heap[k]? = w.heap[k]?
theorem inner_ne {mb : Nat} {M : List (Int × Nat × List (Int × α))} (hn : (mb :: M.map (·.2.1)).Nodup) {p : Int × Nat × List (Int × α)} (hp : p ∈ M) : p.2.1 ≠ mb := fun e => (List.nodup_cons.1 hn).1 (e ▸ List.mem_map.2 ⟨p, hp, rfl⟩)
theorem inner_inj {M : List (Int × Nat × List (Int × α))} (hn : (M.map (·.2.1)).Nodup) {p p' : Int × Nat × List (Int × α)} (hp : p ∈ M) (hp' : p' ∈ M) (e : p.2.1 = p'.2.1) : p = p' := by
  induction M with
  | nil => cases hp
  | cons x r ih =>
    obtain ⟨h1, h2⟩ := List.nodup_cons.1 hn
    rcases List.mem_cons.1 hp with e1 | hp <;> rcases List.mem_cons.1 hp' with e2 | hp'
    · rw [e1, e2]
    · exact absurd (List.mem_map.2 ⟨p', hp', by rw [← e, e1]⟩) h1
    · exact absurd (List.mem_map.2 ⟨p, hp, by rw [e, e2]⟩) h1
    · exact ih h2 hp hp'
theorem mput_blocks {a : Int} {x y : Nat × List (Int × α)} {M : List (Int × Nat × List (Int × α))} (h : mget a M = some x) (e : y.1 = x.1) : (mput a y M).map (·.2.1) = M.map (·.2.1) := by
  induction M with
  | nil => simp [mget] at h
  | cons p r ih =>
    by_cases hp : p.1 = a
    · rw [mget, if_pos hp] at h
      have := Option.some.inj h
      simp [mput, hp, e, ← this]
    · rw [mget, if_neg hp] at h
      simp [mput, hp, ih h]
theorem mem_mput_ne {a : Int} {y : α} {M : List (Int × α)} (hn : (keys M).Nodup) {p : Int × α} (hp : p ∈ mput a y M) : p = (a, y) ∨ (p ∈ M ∧ p.1 ≠ a) := by
  rcases mem_mput hp with h | h
  · exact .inl h
  · by_cases e : p.1 = a
    · have h1 := mget_of_mem (nodup_mput (k := a) (v := y) hn) hp
      rw [mget_mput, if_pos e] at h1
      exact .inl (Prod.ext e (Option.some.inj h1).symm)
    · exact .inr ⟨h, e⟩
/-- The inner map is there already. -/
theorem put_there {f : α → Value} {a n : Int} {v : α} {mb : Nat} {M : List (Int × Nat × List (Int × α))} {w w0 w' : World} {x : Nat × List (Int × α)} (h : Two f w mb M) (hx : mget a M = some x) (h0 : Below w.heap.size w w0) (hi : MapAt .i64 f w' x.1 (mput n v x.2)) (ho : One x.1 w0 w') : PutPost f a n v mb M w w' := by
  obtain ⟨h1, h2, h3⟩ := h
  have hm := mem_keys_of_mget hx
  have hlt := h1.lt
  have e : ∀ k, k < w.heap.size → k ≠ x.1 → w'.heap[k]? = w.heap[k]? := fun k hk hne => (ho.block k hne).trans (h0.block k hk)
  refine ⟨0, ⟨?_, fun p hp => ?_, ?_⟩, (fun h => by rw [h] at hx; cases hx), ?_, ho.os.trans h0.os, ho.tape.trans h0.tape, ho.output.trans h0.output, by rw [ho.size]; exact h0.size, fun k hk _ hne => e k hk (hne x hx)⟩
  · refine (h1.same (e mb hlt (inner_ne h3 hm).symm)).conv ?_
    rw [putM, hx, mput_map]
    show mput a (inV x) _ = _
    clear h2 h3 hm e h1
    induction M with
    | nil => simp [mget] at hx
    | cons p r ih =>
      by_cases hp : p.1 = a
      · rw [mget, if_pos hp] at hx
        have := Option.some.inj hx
        simp [mput, hp, ← this]
      · rw [mget, if_neg hp] at hx
        simp [mput, hp, ih hx]
  · rw [putM, hx] at hp
    rcases mem_mput_ne h1.nodup hp with rfl | ⟨hp, hne⟩
    · exact hi
    · refine (h2 p hp).same (e _ (h2 p hp).lt fun e1 => hne ?_)
      have := inner_inj (List.nodup_cons.1 h3).2 hp hm e1
      rw [this]
  · rw [putM, hx]
    show (mb :: (mput a (x.1, mput n v x.2) M).map (·.2.1)).Nodup
    rw [mput_blocks (y := (x.1, mput n v x.2)) hx rfl]; exact h3
  · have := h0.size
    have := ho.size
    omega
/-- A new inner map is made. -/
theorem put_new {f : α → Value} {a n : Int} {v : α} {mb : Nat} {M : List (Int × Nat × List (Int × α))} {w w0 w1 w' : World} {nb : Nat} (h : Two f w mb M) (hx : mget a M = none) (h0 : Below w.heap.size w w0) (hnb : w.heap.size ≤ nb) (hnb' : nb < w0.heap.size)
    (h1 : MapAt .u64 inV w1 mb (mput a (nb, ([] : List (Int × α))) M)) (ho1 : One mb w0 w1) (hi : MapAt .i64 f w' nb [(n, v)]) (ho : One nb w1 w') : PutPost f a n v mb M w w' := by
  obtain ⟨k1, k2, k3⟩ := h
  have hlt := k1.lt
  have e : ∀ k, k < w.heap.size → k ≠ mb → w'.heap[k]? = w.heap[k]? := fun k hk hne => (ho.block k (by omega)).trans ((ho1.block k hne).trans (h0.block k hk))
  have hs := h0.size
  have hs1 := ho1.size
  have hs2 := ho.size
  refine ⟨nb, ⟨?_, fun p hp => ?_, ?_⟩, fun _ => hnb, by omega, ho.os.trans (ho1.os.trans h0.os), ho.tape.trans (ho1.tape.trans h0.tape), ho.output.trans (ho1.output.trans h0.output), by omega, fun k hk hne _ => e k hk hne⟩
  · refine (h1.same (ho.block mb (by omega))).conv ?_
    rw [putM, hx, mput_map, mput_map]
    rfl
  · rw [putM, hx] at hp
    rcases mem_mput_ne k1.nodup hp with rfl | ⟨hp, hne⟩
    · exact hi
    · exact (k2 p hp).same (e _ (k2 p hp).lt (inner_ne k3 hp))
  · rw [putM, hx, mput_of_not_mem (mget_none.1 hx)]
    simp only [List.map_append, List.map_cons, List.map_nil]
    rw [← List.cons_append, List.nodup_append]
    refine ⟨k3, by simp, fun x hx y hy => ?_⟩
    simp only [List.mem_singleton] at hy
    subst hy
    have : x < w.heap.size := by
      rcases List.mem_cons.1 hx with rfl | hx
      · exact hlt
      · obtain ⟨p, hp, rfl⟩ := List.mem_map.1 hx
        exact (k2 p hp).lt
    omega
end

theorem look_M {α : Type} {w : World} {mb : Nat} {M : List (Int × Nat × List (Int × α))} (h : MapAt .u64 inV w mb M) {t et : TypeId} (ht : Try.prog.underlying t = some (.map 35 et)) (hz : (zeroValue et).run Try.prog w = .ok (.map none) w) (a : Int) :
    (Instr.lookup t (.map (some mb)) (.int .u64 a) false).run Try.prog w = .ok (atA a M) w := by
  rw [h.look false ht Try.underlying35 hz a]
  unfold atA
  cases mget a M <;> rfl
theorem eql_nil_F (w : World) : (binOp .eql 82 (.map none) (.map none)).run Try.prog w = .ok (.bool true) w := by kernel_rfl
theorem eql_some_F (w : World) (b : Nat) : (binOp .eql 82 (.map (some b)) (.map none)).run Try.prog w = .ok (.bool false) w := by kernel_rfl
theorem eql_nil_L (w : World) : (binOp .eql 88 (.map none) (.map none)).run Try.prog w = .ok (.bool true) w := by kernel_rfl
theorem eql_some_L (w : World) (b : Nat) : (binOp .eql 88 (.map (some b)) (.map none)).run Try.prog w = .ok (.bool false) w := by kernel_rfl
attribute [local go_sem] eql_nil_F eql_some_F eql_nil_L eql_some_L
set_option maxHeartbeats 2000000 in
theorem putF_any (mb : Nat) (M : List (Int × Nat × List (Int × FS))) (a n : Int) (v : FS) (w : World) (h : Two fsV w mb M) :
    Calls Try.prog 60 #[.map (some mb), .int .u64 a, .int .i64 n, fsV v] w fun e w' => e = .returned (.tuple #[]) ∧ PutPost fsV a n v mb M w w' := by
  have H : Hid (Two fsV w mb M) := h
  have hl := look_M h.1 Try.underlying76 (zero_fin w) a
  have hmm := @run_makeMap Try.prog
  generalize hv : fsV v = vv
  have HV : Hid (fsV v = vv) := hv
  clear hv
  cases hx : mget a M with
  | some x =>
    have HX : Hid (mget a M = some x) := hx
    rw [atA, hx] at hl
    clear h hx
    go_enter Try.func60, Try.ntmps60
    go_wp2_with (at_mapUpdate; refine wpList_update (H.out.2.1 _ (mem_keys_of_mget HX.out)) rfl _ _ _ _ _ _ rfl Try.underlying82 Try.underlying3 n v rfl rfl HV.out.symm ?_)
    intro w' hi ho
    go_wp2
    go_end0
    exact ⟨rfl, put_there H.out HX.out (Below.refl _ _) hi ho⟩
  | none =>
    have HX : Hid (mget a M = none) := hx
    rw [atA, hx] at hl
    have HA : Hid (MapAt .u64 inV (w.alloc (.map #[] 0)) mb M) := h.1.same (alloc_old _ _ h.1.lt)
    clear h hx
    go_enter Try.func60, Try.ntmps60
    go_wp2_with (at_mapUpdate; refine wpList_update HA.out rfl _ _ _ _ _ _ rfl Try.underlying76 Try.underlying35 a (w.heap.size, ([] : List (Int × FS))) rfl rfl rfl ?_)
    intro w1 h1 ho1
    have hl1 := look_M h1 Try.underlying76 (zero_fin w1) a
    rw [atA, mget_mput, if_pos rfl] at hl1
    have HI : Hid (MapAt .i64 fsV w1 w.heap.size ([] : List (Int × FS))) := by
      refine (MapAt.new .i64 fsV w).same (ho1.block _ ?_)
      have := H.out.1.lt
      omega
    have H1 : Hid (MapAt .u64 inV w1 mb (mput a (w.heap.size, ([] : List (Int × FS))) M)) := h1
    have HO : Hid (One mb (w.alloc (.map #[] 0)) w1) := ho1
    clear h1 ho1
    go_wp2_with (at_mapUpdate; refine wpList_update HI.out rfl _ _ _ _ _ _ rfl Try.underlying82 Try.underlying3 n v rfl rfl HV.out.symm ?_)
    intro w' hi ho
    go_wp2
    go_end0
    exact ⟨rfl, put_new H.out HX.out ((Below.refl _ _).alloc (Nat.le_refl _) _) (Nat.le_refl _) (by simp) H1.out HO.out hi ho⟩

attribute [local go_sem ↓] exec_box_ver exec_load_ver
attribute [local go_sem] verV_cells
set_option maxHeartbeats 2000000 in
theorem putL_any (mb : Nat) (M : List (Int × Nat × List (Int × List Nat))) (a n : Int) (v : List Nat) (hv : v.length = 64) (w : World) (h : Two verV w mb M) :
    Calls Try.prog 39 #[.map (some mb), .int .u64 a, .int .i64 n, verV v] w fun e w' => e = .returned (.tuple #[]) ∧ PutPost verV a n v mb M w w' := by
  have H : Hid (Two verV w mb M) := h
  have hmm := @run_makeMap Try.prog
  have HA : Hid (MapAt .u64 inV (w.alloc (.cells (verC v) 87)) mb M) := h.1.same (alloc_old _ _ h.1.lt)
  have hl := look_M HA.out Try.underlying75 (zero_lin _) a
  have hB : Hid (Below w.heap.size w (w.alloc (.cells (verC v) 87))) := (Below.refl _ _).alloc (Nat.le_refl _) _
  cases hx : mget a M with
  | some x =>
    have HX : Hid (mget a M = some x) := hx
    rw [atA, hx] at hl
    have hld := loadV_new w v hv
    have HI : Hid (MapAt .i64 verV (w.alloc (.cells (verC v) 87)) x.1 x.2) := (h.2.1 _ (mem_keys_of_mget hx)).same (alloc_old _ _ (h.2.1 _ (mem_keys_of_mget hx)).lt)
    clear h hx
    go_enter Try.func39, Try.ntmps39
    go_wp2_with (at_mapUpdate; refine wpList_update HI.out rfl _ _ _ _ _ _ rfl Try.underlying88 Try.underlying3 n v rfl rfl rfl ?_)
    intro w' hi ho
    go_wp2
    go_end0
    exact ⟨rfl, put_there H.out HX.out hB.out hi ho⟩
  | none =>
    have HX : Hid (mget a M = none) := hx
    rw [atA, hx] at hl
    have HA2 : Hid (MapAt .u64 inV ((w.alloc (.cells (verC v) 87)).alloc (.map #[] 0)) mb M) := HA.out.same (alloc_old _ _ HA.out.lt)
    clear h hx
    go_enter Try.func39, Try.ntmps39
    go_wp2_with (at_mapUpdate; refine wpList_update HA2.out rfl _ _ _ _ _ _ rfl Try.underlying75 Try.underlying35 a (w.heap.size + 1, ([] : List (Int × List Nat))) rfl rfl rfl ?_)
    intro w1 h1 ho1
    have hmb := H.out.1.lt
    have hl1 := look_M h1 Try.underlying75 (zero_lin w1) a
    rw [atA, mget_mput, if_pos rfl] at hl1
    have HI : Hid (MapAt .i64 verV w1 (w.heap.size + 1) ([] : List (Int × List Nat))) := by
      have := MapAt.new .i64 verV (w.alloc (.cells (verC v) 87))
      rw [alloc_size] at this
      exact this.same (ho1.block _ (by omega))
    have hld : loadV Try.prog (.pointer (some ⟨w.heap.size, 0, none⟩)) w1 = .ok (verV v) w1 := by
      refine run_load_ver _ _ _ v hv (range_block (t := 87) (f := (0, 0)) ?_)
      rw [ho1.block _ (by omega), alloc_old _ _ (by simp), alloc_new]
    have H1 : Hid (MapAt .u64 inV w1 mb (mput a (w.heap.size + 1, ([] : List (Int × List Nat))) M)) := h1
    have HO : Hid (One mb ((w.alloc (.cells (verC v) 87)).alloc (.map #[] 0)) w1) := ho1
    clear h1 ho1
    go_wp2_with (at_mapUpdate; refine wpList_update HI.out rfl _ _ _ _ _ _ rfl Try.underlying88 Try.underlying3 n v rfl rfl rfl ?_)
    intro w' hi ho
    go_wp2
    go_end0
    exact ⟨rfl, put_new H.out HX.out (hB.out.alloc (by simp) _) (by omega) (by simp) H1.out HO.out hi ho⟩
end Go.Proofs.Ytpmmpdkeahmdiaa

/- copy into a new version; append to a list of versions. -/
namespace Go.Proofs.Ytpmmpdkeahmdiaa
open Go.RowKit
set_option maxRecDepth 100000

/-- Bytes, and bytes 0 behind them. -/
def pad (xs : List Nat) : List Nat := xs ++ List.replicate (64 - xs.length) 0
theorem pad_len {xs : List Nat} (h : xs.length ≤ 64) : (pad xs).length = 64 := by simp [pad]; omega
theorem splice_pad {xs : List Nat} (h : xs.length ≤ 64) : splice (verC zver) 0 (xs.map bv) = verC (pad xs) := by
  apply Array.ext_getElem?
  intro i
  have hs : (verC zver).size = 64 := by rw [verC_size, zver_len]
  by_cases hi : i < 64
  · rw [splice_get _ _ _ _ (by omega)]
    by_cases hx : i < xs.length
    · rw [if_pos (by simp; omega)]
      simp [verC, pad, List.getElem?_append_left, hx]
    · rw [if_neg (by simp; omega)]
      rw [verC, verC, List.getElem?_toArray, List.getElem?_toArray, List.getElem?_map, List.getElem?_map, pad, List.getElem?_append_right (by omega), zver, List.getElem?_replicate, List.getElem?_replicate, if_pos hi, if_pos (by omega)]
  · rw [Array.getElem?_eq_none (by rw [splice_size]; omega), Array.getElem?_eq_none (by rw [verC_size, pad_len h]; omega)]
def copyV (P : Program) (x y : Value) (ty : TypeId) (w : World) : Result Value := (Builtin.copy_ #[36, 36] ty #[x, y]).run P w
theorem exec_copy_ver (ρ : Operand → Value) (x y : Operand) (dst : Option Tmp) (ty : TypeId) (pos : String) (af : Array Edge) (g : Option (Nat × Bool)) (w : World) :
    (execOp ρ ⟨dst, .call { callee := .builtin .copy, args := #[x, y], argTypes := #[36, 36] }, ty, pos, af, g⟩).run Try.prog w = (copyV Try.prog (ρ x) (ρ y) ty w).andThen (fun v w' => .ok (.value v) w') := by
  simp only [execOp, resolve, invoke, builtin, Sem.run_bind, Sem.run_pure, Result.andThen_ok, List.map_toArray, List.map_cons, List.map_nil, copyV]
theorem copyV_new (N : Nat) (w : World) (y : Value) (xs : List Nat) (ty : TypeId) (hr : Row N w y xs) (hx : xs.length ≤ 64) :
    copyV Try.prog (.slice (some ⟨w.heap.size, 0, none⟩) 64 64) y ty (w.alloc (.cells (verC zver) 87)) = .ok (.int .i64 (xs.length : Int)) (w.alloc (.cells (verC (pad xs)) 87)) := by
  obtain ⟨i0, hi, hz0, hz1, hz2⟩ := info_parts infoByte
  obtain ⟨ao, cap, rfl, hcap, hno, hc⟩ := hr
  have hmin : Nat.min xs.length 64 = xs.length := Nat.min_eq_left hx
  have hs64 : (verC zver).size = 64 := by rw [verC_size, zver_len]
  have hsz : (sizeOf 5).run Try.prog (w.alloc (.cells (verC zver) 87)) = .ok 1 (w.alloc (.cells (verC zver) 87)) := by simp [sizeOf, typeInfo, hi, hz1, Result.andThen]
  have hfc : (Builtin.firstCells 1 xs.length (.slice ao xs.length cap)).run Try.prog (w.alloc (.cells (verC zver) 87)) = .ok (verC xs) (w.alloc (.cells (verC zver) 87)) := by
    cases ao with
    | none =>
      have e : xs = [] := by
        cases xs with
        | nil => rfl
        | cons y r => obtain ⟨b, off, e, _⟩ := hc (by simp); cases e
      subst e
      simp [Builtin.firstCells, verC]
    | some ad =>
      have hcells : ∀ (j : Nat) (v : Value), (xs.map bv)[j]? = some v → (w.alloc (.cells (verC zver) 87)).cell? (ad.add j) = some v := by
        intro j u hj
        have hjl : j < xs.length := by
          have := (List.getElem?_eq_some_iff.1 hj).1
          simpa using this
        obtain ⟨b, off, e2, _, hc2⟩ := hc (by omega)
        obtain rfl := Option.some.inj e2
        have h2 := hc2 j hjl
        have hadd : (⟨b, off, none⟩ : Addr).add j = ⟨b, off + j, none⟩ := by unfold Addr.add; split <;> simp_all
        have hbl := lt_of_cell h2
        rw [hadd, World.cell?_of_block (w := w) (a := ⟨b, off + j, none⟩) (alloc_old w _ hbl), h2]
        rw [List.getElem?_map, List.getElem?_eq_getElem hjl] at hj
        simp at hj
        rw [← hj]
        simp [List.getD_eq_getElem?_getD, List.getElem?_eq_getElem hjl]
      have := run_loadCells_list (P := Try.prog) (w.alloc (.cells (verC zver) 87)) ad (xs.map bv) hcells
      rw [List.length_map] at this
      simp only [Builtin.firstCells, Nat.mul_one]
      exact this
  have hst : (storeCells ⟨w.heap.size, 0, none⟩ (verC xs).toList).run Try.prog (w.alloc (.cells (verC zver) 87)) = .ok () (w.alloc (.cells (verC (pad xs)) 87)) := by
    have ht := new_there w (verC zver) 87 (verC xs).size (by rw [hs64, verC_size]; exact hx)
    have := run_storeCells_cells (P := Try.prog) w.heap.size 0 (verC xs).toList 0 (w.alloc (.cells (verC zver) 87)) (fun j hj => by have := (ht j (by simpa using hj)).1; simpa using this) (fun _ _ => by simp)
      (fun v hv => (Array.all_eq_true_iff_forall_mem.1 (verC_one xs)) v (by simpa using hv))
    rw [this, Nat.add_zero, setCells_new]
    congr 3
    exact splice_pad hx
  simp only [copyV, Builtin.copy_, Builtin.lenOf, Sem.run_bind, run_underlying Try.underlying36, Sem.run_pure, Result.andThen_ok, List.getElem?_toArray, List.getElem?_cons_zero, List.getElem?_cons_succ, hsz, hmin, hfc, hst]
  rfl

theorem fold_splice (vs : List Value) : ∀ (C : Array Value) (k : Nat), (vs.zipIdx k).foldl (fun cs (c, j) => cs.setIfInBounds j c) C = splice C k vs := by
  induction vs with
  | nil => intro C k; rfl
  | cons v r ih => intro C k; rw [List.zipIdx_cons, List.foldl_cons, ih, splice]
theorem buildV (ρ : Operand → Value) (x : Operand) (v : List Nat) (hx : ρ x = verV v) (hv : v.length = 64) (dst : Option Tmp) (ty : TypeId) (pos : String) (af : Array Edge) (g : Option (Nat × Bool)) (w : World) :
    (execOp ρ ⟨dst, .buildSlice 84 1 #[(0, x)], ty, pos, af, g⟩).run Try.prog w = .ok (.value (.slice (some ⟨w.heap.size, 0, none⟩) 1 1)) (w.alloc (.cells (verC v) 87)) := by
  obtain ⟨i, hi, hz, hs, hb⟩ := info_parts info_ver
  have hsz : (sizeOf 87).run Try.prog w = .ok 64 w := by simp [sizeOf, typeInfo, hi, hs, Result.andThen]
  have hfill : ∀ C : Array Value, C.size = 64 → Instr.fill (fun i => some (i * 64, 64)) C [(0, verV v)] = some (verC v) := by
    intro C hC
    have h1 : (verV v).cells.size = 64 := by show (verC v).size = 64; rw [verC_size, hv]
    have hl : (verC v).toList.length = C.size := by rw [Array.length_toList, verC_size, hv, hC]
    simp only [Instr.fill, Nat.zero_mul, h1, ne_eq, not_true_eq_false, decide_false, Nat.zero_add, hC, gt_iff_lt, Nat.lt_irrefl, Bool.or_self, Bool.false_eq_true, if_false, Option.some.injEq]
    rw [show (verV v).cells = verC v from rfl, ← Array.foldl_toList, Array.toList_zipIdx, fold_splice, splice_full C _ hl]
  have hr : ((Array.range (1 * 64)).map ((verC zver)[· % (verC zver).size]!)).size = 64 := by simp
  have hbs : (Instr.buildSlice 84 1 #[(0, verV v)]).run Try.prog w = .ok (.slice (some ⟨w.heap.size, 0, none⟩) 1 1) (w.alloc (.cells (verC v) 87)) := by
    simp only [Instr.buildSlice, Sem.run_bind, run_underlying Try.underlying84, Result.andThen_ok, hsz, zero_ver, show (verV zver).cells = verC zver from rfl, show ¬ (1 * 64 > 2 ^ 24) by decide, show ¬ (1 * 64 = 0) by decide, if_false, Sem.run_pure, hfill _ hr]
    rfl
  simp only [execOp, Sem.run_bind, List.map_toArray, List.map_cons, List.map_nil, hx, hbs, Result.andThen_ok, Sem.run_pure]

/-- 'append(l, v)': one version more. -/
theorem wp_append_ver {w : World} {o : Oper} {a : Act} {K : Act → World → Prop} {Q : Exit → Act → World → Prop} (s x : Operand) (ho : o.op = .call { callee := .builtin .append, args := #[s, x], argTypes := #[84, 84] })
    (v : Value) (n : Nat) (xs : List Value) (hs : a.eval s = v) (hown : w.ownsRow 0 87 64 v n xs) (g : Nat) (ver : List Nat) (hx : a.eval x = .slice (some ⟨g, 0, none⟩) 1 1) (hg : w.heap[g]? = some (.cells (verC ver) 87 (0, 0))) (h64 : ver.length = 64) (hn : (n + 1) * 64 ≤ 140737488355328)
    (h : ∀ v' w', w'.ownsRow 0 87 64 v' (n + 1) (xs ++ ver.map bv) → w.grownBy w' v.ownBlock → v' ≠ .slice none 0 0 → (v'.ownBlock = v.ownBlock ∨ v'.ownBlock = some w.heap.size) → K (a.put o.dst v') w') : o.wp Try.prog a w K Q := by
  obtain ⟨i, hi, hz, hs1, hb⟩ := info_parts info_ver
  have hc : ∀ (j : Nat) (u : Value), (ver.map bv)[j]? = some u → w.cell? ((⟨g, 0, none⟩ : Addr).add j) = some u := by
    intro j u hj
    have := range_block (v := ver) hg j u hj
    rw [Addr.add_mid]; exact this
  obtain ⟨v', w', hr, h2, h3, h4, h5⟩ := run_append_own_at (P := Try.prog) w 0 84 o.type 87 i _ 64 64 Try.underlying84 hi hz hs1 hb (by simp [Value.cells]) (by decide) v n xs hown ⟨g, 0, none⟩ 1 1 (ver.map bv) (by simp [h64]) hc
    (fun u hu => by obtain ⟨z, _, rfl⟩ := List.mem_map.1 hu; rfl) (by unfold maxLen; omega) hn (Nat.zero_le _)
  unfold Oper.wp execOp
  simp only [ho, resolve, invoke, builtin, Sem.run_bind, Sem.run_pure, Result.andThen_ok, List.map_toArray, List.map_cons, List.map_nil, hs, hx, hr]
  exact h v' w' h2 h3 (fun e => by have := (h4.1 e).2; omega) h5
end Go.Proofs.Ytpmmpdkeahmdiaa

/- Numbers written in bytes, and read: plain mathematics. -/
namespace Go.Proofs.Ytpmmpdkeahmdiaa

/-- The writing of a number. -/
def uw (n : Nat) : List Nat := if n < 128 then [n] else (n % 128 + 128) :: uw (n / 128)
termination_by n

theorem uw_lt {n : Nat} (h : n < 128) : uw n = [n] := by rw [uw, if_pos h]
theorem uw_ge {n : Nat} (h : 128 ≤ n) : uw n = (n % 128 + 128) :: uw (n / 128) := by rw [uw, if_neg (by omega)]
theorem uw_len : ∀ (k n : Nat), n < 128 ^ k → 0 < k → 0 < (uw n).length ∧ (uw n).length ≤ k
  | 0, _, _, h => by omega
  | 1, n, h, _ => by rw [uw_lt (by simpa using h)]; simp
  | k + 2, n, h, _ => by
    by_cases h1 : n < 128
    · rw [uw_lt h1]; simp
    · rw [uw_ge (by omega)]
      have := uw_len (k + 1) (n / 128) (by rw [Nat.div_lt_iff_lt_mul (by decide)]; rw [Nat.pow_succ] at h; exact h) (by omega)
      simp only [List.length_cons]; omega
theorem uw_len10 {n : Nat} (h : n < 18446744073709551616) : 0 < (uw n).length ∧ (uw n).length ≤ 10 := uw_len 10 n (Nat.lt_of_lt_of_le h (by decide)) (by decide)
theorem uw_byte : ∀ (n : Nat), ∀ x ∈ uw n, x < 256 := by
  intro n
  induction n using Nat.strongRecOn with
  | _ n ih =>
    intro x hx
    by_cases h : n < 128
    · rw [uw_lt h] at hx; simp at hx; omega
    · rw [uw_ge (by omega)] at hx
      rcases List.mem_cons.1 hx with rfl | hx
      · omega
      · exact ih (n / 128) (by omega) x hx

/-- What bytes say as a number from place i on, where the places ahead say n: the number, how many bytes, what is amiss. -/
def num : List Nat → Nat → Nat → Nat × Nat × Nat
  | [], _, _ => (0, 0, 20)
  | c :: r, i, n =>
    if i = 9 ∧ 1 < c then (0, 0, 21) else if 0 < i ∧ c = 0 then (0, 0, 21)
    else if c < 128 then (n + c * 128 ^ i, i + 1, 0) else num r (i + 1) (n + (c - 128) * 128 ^ i)

/-- The same with a bound. -/
def front (xs : List Nat) (most : Nat) : Nat × Nat × Nat :=
  if (num xs 0 0).2.2 = 0 ∧ most < (num xs 0 0).1 then (0, 0, 22) else num xs 0 0

theorem num_form9 {c : Nat} {r : List Nat} {n : Nat} (h : 1 < c) : num (c :: r) 9 n = (0, 0, 21) := by rw [num, if_pos ⟨rfl, h⟩]
theorem num_form0 {r : List Nat} {i n : Nat} (h : 0 < i) : num (0 :: r) i n = (0, 0, 21) := by rw [num, if_neg (by omega), if_pos ⟨h, rfl⟩]
theorem num_last {c : Nat} {r : List Nat} {i n : Nat} (h : c < 128) (h9 : i = 9 → c ≤ 1) (h0 : 0 < i → c ≠ 0) : num (c :: r) i n = (n + c * 128 ^ i, i + 1, 0) := by
  rw [num, if_neg (by omega), if_neg (by omega), if_pos h]
theorem num_more {c : Nat} {r : List Nat} {i n : Nat} (h : 128 ≤ c) (h9 : i ≠ 9) : num (c :: r) i n = num r (i + 1) (n + (c - 128) * 128 ^ i) := by
  rw [num, if_neg (by omega), if_neg (by omega), if_neg (by omega)]

/-- What a reading tells: the size fits, the number is within 64 bits, a failing tells zeros. -/
theorem num_facts : ∀ (xs : List Nat) (i n : Nat), i ≤ 9 → n < 128 ^ i → (∀ x ∈ xs, x < 256) →
    ((num xs i n).2.2 = 0 → i < (num xs i n).2.1 ∧ (num xs i n).2.1 ≤ i + xs.length ∧ (num xs i n).2.1 ≤ 10 ∧ (num xs i n).1 < 18446744073709551616) ∧
    ((num xs i n).2.2 ≠ 0 → (num xs i n).1 = 0 ∧ (num xs i n).2.1 = 0 ∧ ((num xs i n).2.2 = 20 ∨ (num xs i n).2.2 = 21))
  | [], i, n, _, _, _ => by simp [num]
  | c :: r, i, n, hi, hn, hx => by
    rw [num]
    split
    · simp
    split
    · simp
    split
    · rename_i h1 h2 h3
      have hp : n + c * 128 ^ i < 18446744073709551616 := by
        by_cases h9 : i = 9
        · subst h9
          have hc : c ≤ 1 := by omega
          have : c * 128 ^ 9 ≤ 1 * 128 ^ 9 := Nat.mul_le_mul_right _ hc
          have e : (128 : Nat) ^ 9 = 9223372036854775808 := by decide
          omega
        · have : (c + 1) * 128 ^ i ≤ 128 * 128 ^ i := Nat.mul_le_mul_right _ (by omega)
          rw [Nat.add_mul] at this
          have e : 128 * 128 ^ i = 128 ^ (i + 1) := by rw [Nat.pow_succ, Nat.mul_comm]
          have e2 : (128 : Nat) ^ (i + 1) ≤ 128 ^ 9 := Nat.pow_le_pow_right (by decide) (by omega)
          have e3 : (128 : Nat) ^ 9 = 9223372036854775808 := by decide
          omega
      simp only [List.length_cons]
      exact ⟨fun _ => ⟨by omega, by omega, by omega, hp⟩, fun h => absurd rfl h⟩
    · rename_i h1 h2 h3
      have hc : c < 256 := hx c (by simp)
      have hi9 : i ≠ 9 := by omega
      have := num_facts r (i + 1) (n + (c - 128) * 128 ^ i) (by omega) (by
        have : (c - 128 + 1) * 128 ^ i ≤ 128 * 128 ^ i := Nat.mul_le_mul_right _ (by omega)
        rw [Nat.add_mul] at this
        rw [Nat.pow_succ, Nat.mul_comm (128 ^ i)]
        omega) (fun x h => hx x (by simp [h]))
      simp only [List.length_cons]
      exact ⟨fun h => by have := this.1 h; omega, this.2⟩

theorem front_facts (xs : List Nat) (most : Nat) (hx : ∀ x ∈ xs, x < 256) :
    ((front xs most).2.2 = 0 → 0 < (front xs most).2.1 ∧ (front xs most).2.1 ≤ xs.length ∧ (front xs most).2.1 ≤ 10 ∧ (front xs most).1 < 18446744073709551616 ∧ (front xs most).1 ≤ most ∧ front xs most = num xs 0 0) ∧
    ((front xs most).2.2 ≠ 0 → (front xs most).1 = 0 ∧ (front xs most).2.1 = 0 ∧ (front xs most).2.2 < 100) := by
  have h := num_facts xs 0 0 (by decide) (by decide) hx
  unfold front
  split
  · simp
  · rename_i h2
    refine ⟨fun h3 => ?_, fun h3 => ?_⟩
    · have := h.1 h3; exact ⟨by omega, by omega, by omega, by omega, by omega, rfl⟩
    · have := h.2 h3; exact ⟨by omega, by omega, by omega⟩

/-- What was written is read as it was, whatever stands behind. -/
theorem num_uw : ∀ (k m i n : Nat) (r : List Nat), i + k = 10 → m < 128 ^ k → (m * 128 ^ i < 18446744073709551616) → (0 < i → m ≠ 0) → num (uw m ++ r) i n = (n + m * 128 ^ i, i + (uw m).length, 0)
  | 0, m, i, n, r, hk, hm, hb, h0 => by
    have : m = 0 := by simpa using hm
    have := h0 (by omega); omega
  | k + 1, m, i, n, r, hk, hm, hb, h0 => by
    by_cases h : m < 128
    · rw [uw_lt h]
      simp only [List.cons_append, List.nil_append, List.length_singleton]
      refine num_last h (fun h9 => ?_) (fun hi => h0 hi)
      subst h9
      have e : (128 : Nat) ^ 9 = 9223372036854775808 := by decide
      rw [e] at hb; omega
    · have hi9 : i ≠ 9 := by
        intro h9; subst h9
        have e : (128 : Nat) ^ 9 = 9223372036854775808 := by decide
        rw [e] at hb; omega
      rw [uw_ge (by omega), List.cons_append, num_more (by omega) hi9]
      have e1 : m / 128 * 128 ^ (i + 1) + m % 128 * 128 ^ i = m * 128 ^ i := by
        rw [Nat.pow_succ, Nat.mul_comm (128 ^ i) 128, ← Nat.mul_assoc, ← Nat.add_mul]
        congr 1; omega
      rw [num_uw k (m / 128) (i + 1) _ r (by omega) (by rw [Nat.div_lt_iff_lt_mul (by decide)]; rw [Nat.pow_succ] at hm; exact hm) (by omega) (fun _ => by omega)]
      simp only [List.length_cons, Nat.add_sub_cancel]
      refine Prod.ext ?_ (Prod.ext ?_ rfl)
      · show n + m % 128 * 128 ^ i + m / 128 * 128 ^ (i + 1) = n + m * 128 ^ i
        omega
      · show i + 1 + (uw (m / 128)).length = i + ((uw (m / 128)).length + 1)
        omega
theorem num_write {m : Nat} (h : m < 18446744073709551616) (r : List Nat) : num (uw m ++ r) 0 0 = (m, (uw m).length, 0) := by
  have := num_uw 10 m 0 0 r rfl (Nat.lt_of_lt_of_le h (by decide)) (by simpa using h) (fun h => absurd h (by decide))
  simpa using this

/-- What was read is written as the same bytes. -/
theorem num_back : ∀ (xs : List Nat) (i n : Nat), n < 128 ^ i → (∀ x ∈ xs, x < 256) → (num xs i n).2.2 = 0 →
    ∃ m, (num xs i n).1 = n + m * 128 ^ i ∧ xs.take ((num xs i n).2.1 - i) = uw m ∧ (0 < i → m ≠ 0)
  | [], i, n, _, _, h => by simp [num] at h
  | c :: r, i, n, hn, hx, h => by
    rw [num] at h ⊢
    split at h
    · simp at h
    split at h
    · simp at h
    split at h
    · rename_i h1 h2 h3
      rw [if_neg h1, if_neg h2, if_pos h3]
      refine ⟨c, rfl, ?_, fun h0 => by omega⟩
      show List.take (i + 1 - i) (c :: r) = uw c
      rw [uw_lt h3, show i + 1 - i = 1 by omega]; rfl
    · rename_i h1 h2 h3
      rw [if_neg h1, if_neg h2, if_neg h3]
      have hc : c < 256 := hx c (by simp)
      have hn' : n + (c - 128) * 128 ^ i < 128 ^ (i + 1) := by
        have : (c - 128 + 1) * 128 ^ i ≤ 128 * 128 ^ i := Nat.mul_le_mul_right _ (by omega)
        rw [Nat.add_mul] at this
        rw [Nat.pow_succ, Nat.mul_comm (128 ^ i)]
        omega
      have hr : ∀ x ∈ r, x < 256 := fun x h => hx x (by simp [h])
      obtain ⟨m, e1, e2, e3⟩ := num_back r (i + 1) (n + (c - 128) * 128 ^ i) hn' hr h
      have hm := e3 (by omega)
      refine ⟨m * 128 + (c - 128), ?_, ?_, fun _ => by omega⟩
      · rw [e1, Nat.pow_succ, Nat.mul_comm (128 ^ i) 128, ← Nat.mul_assoc, Nat.add_assoc, ← Nat.add_mul, Nat.add_comm (c - 128)]
      · generalize num r (i + 1) (n + (c - 128) * 128 ^ i) = z at *
        have hz : i + 1 < z.2.1 := by
          rcases Nat.lt_or_ge (i + 1) z.2.1 with h | h
          · exact h
          · rw [show z.2.1 - (i + 1) = 0 by omega, List.take_zero] at e2
            have := congrArg List.length e2
            have h3 : 0 < (uw m).length := by unfold uw; split <;> simp
            simp only [List.length_nil] at this
            omega
        rw [show z.2.1 - i = (z.2.1 - (i + 1)) + 1 by omega, List.take_succ_cons, e2, uw_ge (n := m * 128 + (c - 128)) (by omega)]
        rw [show (m * 128 + (c - 128)) % 128 + 128 = c by omega, show (m * 128 + (c - 128)) / 128 = m by omega]
theorem num_again {xs : List Nat} (hx : ∀ x ∈ xs, x < 256) (h : (num xs 0 0).2.2 = 0) : uw (num xs 0 0).1 = xs.take (num xs 0 0).2.1 := by
  obtain ⟨m, e1, e2, _⟩ := num_back xs 0 0 (by decide) hx h
  rw [e1]; simpa using e2.symm
end Go.Proofs.Ytpmmpdkeahmdiaa

/- The sum: plain mathematics. -/
namespace Go.Proofs.Ytpmmpdkeahmdiaa

/-- One step of the register. -/
def stp (s : Nat) : Nat := if s % 2 = 1 then (s / 2) ^^^ 2197175160 else s / 2
def stps : Nat → Nat → Nat
  | 0, s => s
  | k + 1, s => stp (stps k s)
/-- The register behind one byte more. -/
def byt (s c : Nat) : Nat := stps 8 (s ^^^ c)
def crc (xs : List Nat) (s : Nat) : Nat := xs.foldl byt s
def sumOf (xs : List Nat) : Nat := 4294967295 - crc xs 4294967295

theorem stp_lt {s : Nat} (h : s < 4294967296) : stp s < 4294967296 := by
  unfold stp
  split
  · exact Nat.xor_lt_two_pow (n := 32) (by omega) (by decide)
  · omega
theorem stps_lt (k : Nat) {s : Nat} (h : s < 4294967296) : stps k s < 4294967296 := by
  induction k with
  | zero => exact h
  | succ k ih => exact stp_lt ih
theorem xor_byte_lt {s c : Nat} (h : s < 4294967296) (hc : c < 256) : s ^^^ c < 4294967296 := Nat.xor_lt_two_pow (n := 32) (by omega) (by omega)
theorem byt_lt {s c : Nat} (h : s < 4294967296) (hc : c < 256) : byt s c < 4294967296 := stps_lt 8 (xor_byte_lt h hc)
theorem crc_lt : ∀ (xs : List Nat) (s : Nat), s < 4294967296 → (∀ x ∈ xs, x < 256) → crc xs s < 4294967296
  | [], _, h, _ => h
  | x :: r, s, h, hx => crc_lt r (byt s x) (byt_lt h (hx x (by simp))) (fun y hy => hx y (by simp [hy]))
theorem crc_take {xs : List Nat} {k : Nat} (h : k < xs.length) (s : Nat) : crc (xs.take (k + 1)) s = byt (crc (xs.take k) s) (xs.getD k 0) := by
  unfold crc
  rw [List.take_succ_eq_append_getElem h, List.foldl_append]
  simp [List.getD_eq_getElem?_getD, List.getElem?_eq_getElem h]
theorem sumOf_lt {xs : List Nat} : sumOf xs < 4294967296 := by unfold sumOf; omega
theorem turn_all {s : Nat} (h : s < 4294967296) : 4294967295 ^^^ s = 4294967295 - s := by
  have h1 : s = (4294967295 ^^^ s) ^^^ 4294967295 := by rw [Nat.xor_comm 4294967295 s, Nat.xor_assoc, Nat.xor_self, Nat.xor_zero]
  apply Nat.eq_of_testBit_eq
  intro i
  rw [Nat.testBit_xor]
  rw [show (4294967295 : Nat) - s = 2 ^ 32 - (s + 1) by omega, Nat.testBit_two_pow_sub_succ (by omega), show (4294967295 : Nat) = 2 ^ 32 - 1 by decide, Nat.testBit_two_pow_sub_one]
  by_cases hi : i < 32
  · simp [hi]
  · rw [decide_eq_false hi, Nat.testBit_lt_two_pow (Nat.lt_of_lt_of_le h (by rw [show (4294967296 : Nat) = 2 ^ 32 by decide]; exact Nat.pow_le_pow_right (by decide) (by omega)))]
    rfl
end Go.Proofs.Ytpmmpdkeahmdiaa

/- Why turned bits within 32 neighbours are found: the register as a number. -/
namespace Go.Proofs.Ytpmmpdkeahmdiaa

theorem half_xor (a b : Nat) : (a ^^^ b) / 2 = a / 2 ^^^ b / 2 := by
  apply Nat.eq_of_testBit_eq
  intro i
  simp [Nat.testBit_xor, ← Nat.testBit_add_one]
theorem stp_odd {a : Nat} (h : a % 2 = 1) : stp a = a / 2 ^^^ 2197175160 := by rw [stp, if_pos h]
theorem stp_even {a : Nat} (h : a % 2 = 0) : stp a = a / 2 := by rw [stp, if_neg (by omega)]
theorem xor_par (a b : Nat) : (a ^^^ b) % 2 = (a + b) % 2 := by
  have h : decide ((a ^^^ b) % 2 = 1) = (decide (a % 2 = 1) ^^ decide (b % 2 = 1)) := by
    rw [← Nat.testBit_zero, ← Nat.testBit_zero, ← Nat.testBit_zero, Nat.testBit_xor]
  generalize a ^^^ b = x at h ⊢
  rcases Nat.mod_two_eq_zero_or_one a with ha | ha <;> rcases Nat.mod_two_eq_zero_or_one b with hb | hb <;> rcases Nat.mod_two_eq_zero_or_one x with hx | hx <;> rw [ha, hb, hx] at h <;>
    first | omega | exact absurd h (by decide)
theorem stp_xor (a b : Nat) : stp (a ^^^ b) = stp a ^^^ stp b := by
  have hp := xor_par a b
  have e : ∀ x y z : Nat, (x ^^^ z) ^^^ (y ^^^ z) = x ^^^ y := fun x y z => by
    rw [Nat.xor_assoc, Nat.xor_comm y z, ← Nat.xor_assoc z z y, Nat.xor_self, Nat.zero_xor]
  rcases Nat.mod_two_eq_zero_or_one a with ha | ha <;> rcases Nat.mod_two_eq_zero_or_one b with hb | hb
  · rw [stp_even ha, stp_even hb, stp_even (by omega), half_xor]
  · rw [stp_even ha, stp_odd hb, stp_odd (by omega), half_xor, Nat.xor_assoc]
  · rw [stp_odd ha, stp_even hb, stp_odd (by omega), half_xor, Nat.xor_assoc, Nat.xor_comm (b / 2), ← Nat.xor_assoc]
  · rw [stp_odd ha, stp_odd hb, stp_even (by omega), half_xor, e]
theorem stps_xor (k a b : Nat) : stps k (a ^^^ b) = stps k a ^^^ stps k b := by
  induction k with
  | zero => rfl
  | succ k ih => show stp (stps k (a ^^^ b)) = _; rw [ih, stp_xor]; rfl
theorem stps_succ (k s : Nat) : stps (k + 1) s = stps k (stp s) := by
  induction k with
  | zero => rfl
  | succ k ih => show stp (stps (k + 1) s) = stp (stps k (stp s)); rw [ih]
theorem stps_add (j k s : Nat) : stps (j + k) s = stps j (stps k s) := by
  induction j with
  | zero => rw [Nat.zero_add]; rfl
  | succ j ih => rw [Nat.succ_add]; show stp (stps (j + k) s) = stp (stps j (stps k s)); rw [ih]
theorem stps_pow (k y : Nat) : stps k (2 ^ k * y) = y := by
  induction k with
  | zero => simp [stps]
  | succ k ih =>
    rw [stps_succ, Nat.pow_succ, Nat.mul_right_comm, stp_even (by omega), Nat.mul_div_cancel _ (by decide), ih]
theorem stp_ne {s : Nat} (h : s < 4294967296) (h0 : s ≠ 0) : stp s ≠ 0 := by
  rcases Nat.mod_two_eq_zero_or_one s with hs | hs
  · rw [stp_even hs]; omega
  · rw [stp_odd hs]
    intro e
    have h1 : s / 2 = 2197175160 := by
      have := congrArg (· ^^^ 2197175160) e
      simpa [Nat.xor_assoc] using this
    omega
theorem stps_ne (k : Nat) {s : Nat} (h : s < 4294967296) (h0 : s ≠ 0) : stps k s ≠ 0 := by
  induction k with
  | zero => exact h0
  | succ k ih => exact stp_ne (stps_lt k h) ih

/-- A number's bytes, the lowest first. -/
def errB : Nat → Nat → List Nat
  | _, 0 => []
  | n, m + 1 => n % 256 :: errB (n / 256) m
theorem errB_len (n m : Nat) : (errB n m).length = m := by
  induction m generalizing n with
  | zero => rfl
  | succ m ih => simp [errB, ih]
theorem split_byte (n : Nat) : n = n % 256 ^^^ 256 * (n / 256) := by
  apply Nat.eq_of_testBit_eq
  intro i
  rw [Nat.testBit_xor, show (256 : Nat) = 2 ^ 8 by decide, Nat.testBit_mod_two_pow, Nat.testBit_two_pow_mul, Nat.testBit_div_two_pow]
  by_cases hi : i < 8
  · simp [hi, show ¬ 8 ≤ i by omega]
  · simp [hi, show 8 ≤ i by omega]
/-- Going through a number's bytes is going through its bits. -/
theorem crc_num (m : Nat) : ∀ (n s : Nat), n < 256 ^ m → crc (errB n m) s = stps (8 * m) (s ^^^ n) := by
  induction m with
  | zero =>
    intro n s h
    obtain rfl : n = 0 := by simpa using h
    rw [Nat.xor_zero]; rfl
  | succ m ih =>
    intro n s h
    have hd : n / 256 < 256 ^ m := by rw [Nat.div_lt_iff_lt_mul (by decide)]; rw [Nat.pow_succ] at h; exact h
    show crc (errB (n / 256) m) (byt s (n % 256)) = _
    rw [ih _ _ hd, show 8 * (m + 1) = 8 * m + 8 by omega, stps_add]
    congr 1
    have hs : s ^^^ n = (s ^^^ n % 256) ^^^ 2 ^ 8 * (n / 256) := by
      rw [Nat.xor_assoc]
      congr 1
      exact split_byte n
    rw [hs, stps_xor, stps_pow]
    rfl
/-- Bits that are turned leave a trace. -/
theorem crc_burst {m d b : Nat} (hb : b < 4294967296) (h0 : b ≠ 0) (hm : 2 ^ d * b < 256 ^ m) : crc (errB (2 ^ d * b) m) 0 ≠ 0 := by
  rw [crc_num m _ _ hm, Nat.zero_xor]
  have hd : d ≤ 8 * m := by
    rcases Nat.lt_or_ge (8 * m) d with h | h
    · have h1 : 2 ^ (8 * m) < 2 ^ d := Nat.pow_lt_pow_right (by decide) h
      have h2 : 2 ^ d * 1 ≤ 2 ^ d * b := Nat.mul_le_mul_left _ (by omega)
      rw [show (256 : Nat) = 2 ^ 8 by decide, ← Nat.pow_mul] at hm
      omega
    · exact h
  rw [show 8 * m = (8 * m - d) + d by omega, stps_add, stps_pow]
  exact stps_ne _ hb h0

/-- Two rows of bytes, xored. -/
def xorL (xs es : List Nat) : List Nat := List.zipWith (fun a b => a ^^^ b) xs es
theorem byt_xor (s t c d : Nat) : byt (s ^^^ t) (c ^^^ d) = byt s c ^^^ byt t d := by
  unfold byt
  rw [← stps_xor]
  congr 1
  rw [Nat.xor_assoc, Nat.xor_assoc]
  congr 1
  rw [← Nat.xor_assoc, Nat.xor_comm t c, Nat.xor_assoc]
theorem crc_xor : ∀ (xs es : List Nat) (s t : Nat), xs.length = es.length → crc (xorL xs es) (s ^^^ t) = crc xs s ^^^ crc es t
  | [], [], _, _, _ => rfl
  | [], _ :: _, _, _, h => by simp at h
  | _ :: _, [], _, _, h => by simp at h
  | x :: xs, e :: es, s, t, h => by
    show crc (xorL xs es) (byt (s ^^^ t) (x ^^^ e)) = crc xs (byt s x) ^^^ crc es (byt t e)
    rw [byt_xor]
    exact crc_xor xs es _ _ (by simpa using h)
theorem crc_append (xs ys : List Nat) (s : Nat) : crc (xs ++ ys) s = crc ys (crc xs s) := by unfold crc; rw [List.foldl_append]

/-- Bytes with their sum behind them all end alike. -/
theorem crc_sealed {xs : List Nat} (hx : ∀ x ∈ xs, x < 256) : crc (xs ++ errB (sumOf xs) 4) 4294967295 = stps 32 4294967295 := by
  rw [crc_append, crc_num 4 _ _ (Nat.lt_of_lt_of_le sumOf_lt (by decide))]
  congr 1
  have hlt := crc_lt xs 4294967295 (by decide) hx
  unfold sumOf
  rw [← turn_all hlt, Nat.xor_comm 4294967295, ← Nat.xor_assoc, Nat.xor_self, Nat.zero_xor]
/-- What was sealed, and turned within 32 neighbours, is not sealed. -/
theorem burst_found {xs ys : List Nat} {v d b : Nat} (hx : ∀ x ∈ xs, x < 256) (hy : ∀ x ∈ ys, x < 256) (hb : b < 4294967296) (h0 : b ≠ 0)
    (hm : 2 ^ d * b < 256 ^ (xs.length + 4)) (he : ys ++ errB v 4 = xorL (xs ++ errB (sumOf xs) 4) (errB (2 ^ d * b) (xs.length + 4))) : v ≠ sumOf ys := by
  rintro rfl
  have h1 := crc_sealed hx
  have h2 := crc_sealed hy
  rw [he] at h2
  have h3 := crc_xor (xs ++ errB (sumOf xs) 4) (errB (2 ^ d * b) (xs.length + 4)) 4294967295 0 (by rw [List.length_append, errB_len, errB_len])
  rw [Nat.xor_zero, h2, h1] at h3
  have h4 : crc (errB (2 ^ d * b) (xs.length + 4)) 0 = 0 := by
    have := congrArg (fun z => stps 32 4294967295 ^^^ z) h3
    simp only [Nat.xor_self, ← Nat.xor_assoc, Nat.zero_xor] at this
    exact this.symm
  exact crc_burst hb h0 hm h4
end Go.Proofs.Ytpmmpdkeahmdiaa

/- Arrays of bytes in blocks of their own. -/
namespace Go.Proofs.Ytpmmpdkeahmdiaa
open Go.RowKit
set_option maxRecDepth 100000

/-- Bytes laid over others from k on. -/
def over (bs : List Nat) (k : Nat) (ys : List Nat) : List Nat := bs.take k ++ ys ++ bs.drop (k + ys.length)
theorem over_len {bs ys : List Nat} {k : Nat} (h : k + ys.length ≤ bs.length) : (over bs k ys).length = bs.length := by
  simp [over]; omega
theorem splice_over {bs ys : List Nat} {k : Nat} (h : k + ys.length ≤ bs.length) : splice (verC bs) k (ys.map bv) = verC (over bs k ys) := by
  apply Array.ext_getElem?
  intro i
  by_cases hi : i < bs.length
  · rw [splice_get _ _ _ _ (by rw [verC_size]; exact hi)]
    simp only [List.length_map, verC, List.getElem?_toArray, List.getElem?_map, over]
    by_cases h1 : k ≤ i ∧ i < k + ys.length
    · rw [if_pos h1, List.append_assoc, List.getElem?_append_right (by simp; omega), List.getElem?_append_left (by simp; omega)]
      congr 2
      simp; omega
    · rw [if_neg h1]
      by_cases h2 : i < k
      · rw [List.append_assoc, List.getElem?_append_left (by simp; omega), List.getElem?_take, if_pos h2]
      · rw [List.append_assoc, List.getElem?_append_right (by simp; omega), List.getElem?_append_right (by simp; omega), List.getElem?_drop]
        congr 2
        simp; omega
  · rw [Array.getElem?_eq_none (by rw [splice_size, verC_size]; omega), Array.getElem?_eq_none (by rw [verC_size, over_len h]; omega)]
/-- An array in a block of its own. -/
def ArrAt (t : TypeId) (w : World) (b : Nat) (bs : List Nat) : Prop := w.heap[b]? = some (.cells (verC bs) t (0, 0))
theorem ArrAt.lt {t : TypeId} {w : World} {b : Nat} {bs : List Nat} (h : ArrAt t w b bs) : b < w.heap.size := (Array.getElem?_eq_some_iff.1 h).1
theorem ArrAt.below {t : TypeId} {w w' : World} {b B : Nat} {bs : List Nat} (h : ArrAt t w b bs) (hB : b < B) (hb : Below B w w') : ArrAt t w' b bs := (hb.block b hB).trans h
theorem ArrAt.new (t : TypeId) (w : World) (bs : List Nat) : ArrAt t (w.alloc (.cells (verC bs) t)) w.heap.size bs := alloc_new _ _
theorem ArrAt.old {t : TypeId} {w : World} {b : Nat} {bs : List Nat} (h : ArrAt t w b bs) (o : Obj) : ArrAt t (w.alloc o) b bs := (alloc_old w o h.lt).trans h
theorem ArrAt.range {t : TypeId} {w : World} {b : Nat} {bs : List Nat} (h : ArrAt t w b bs) : w.rangeAt b 0 (bs.map bv) := range_block h
theorem ArrAt.cell {t : TypeId} {w : World} {b : Nat} {bs : List Nat} (h : ArrAt t w b bs) {i : Nat} (hi : i < bs.length) : w.cell? ⟨b, i, none⟩ = some (bv (bs.getD i 0)) := by
  have := h.range i (bv (bs.getD i 0)) (by rw [List.getElem?_map, List.getElem?_eq_getElem hi]; simp [List.getD_eq_getElem?_getD, List.getElem?_eq_getElem hi])
  simpa using this
theorem ArrAt.frozen {t : TypeId} {w : World} {b : Nat} {bs : List Nat} (h : ArrAt t w b bs) (o : Nat) : w.frozen? ⟨b, o, none⟩ = false := by
  unfold ArrAt at h
  simp [World.frozen?, h]
theorem ArrAt.there {t : TypeId} {w : World} {b : Nat} {bs : List Nat} (h : ArrAt t w b bs) (o n : Nat) (hn : o + n ≤ bs.length) : w.there b o n := fun j hj => ⟨by rw [h.cell (by omega)]; rfl, h.frozen _⟩
/-- A piece of an array, as a row. -/
theorem ArrAt.row {t : TypeId} {w : World} {b : Nat} {bs : List Nat} (h : ArrAt t w b bs) (k n cap : Nat) (hn : k + n ≤ bs.length) (hc : n ≤ cap) {N : Nat} (hN : b < N) : Row N w (.slice (some ⟨b, k, none⟩) n cap) ((bs.drop k).take n) := by
  have hl : ((bs.drop k).take n).length = n := by simp; omega
  refine ⟨some ⟨b, k, none⟩, cap, by rw [hl], by omega, (fun h => by cases h), fun _ => ⟨b, k, rfl, hN, fun i hi => ?_⟩⟩
  rw [hl] at hi
  rw [h.cell (by omega)]
  congr 2
  simp [List.getD_eq_getElem?_getD, hi]
/-- Values laid over a block's cells. -/
theorem setCells_at {b : Nat} {t : TypeId} {f : Nat × Nat} (vs : List Value) : ∀ (w : World) (C : Array Value) (o : Nat), w.heap[b]? = some (.cells C t f) → (w.setCells b o vs).heap[b]? = some (.cells (splice C o vs) t f) ∧ (∀ k, k ≠ b → (w.setCells b o vs).heap[k]? = w.heap[k]?) ∧ One b w (w.setCells b o vs) := by
  induction vs with
  | nil => intro w C o h; exact ⟨h, fun _ _ => rfl, ⟨rfl, rfl, rfl, rfl, rfl, fun _ _ => rfl⟩⟩
  | cons v r ih =>
    intro w C o h
    obtain ⟨h1, h2, h3⟩ := ih (w.setCell ⟨b, o, none⟩ v) (C.setIfInBounds o v) (o + 1) (set_cell h o v)
    exact ⟨h1, fun k hk => (h2 k hk).trans (Below.heap_setCell _ _ _ _ hk), (one_setCell w b o v).trans h3⟩
/-- An array's bytes from k on replaced. -/
def setA (w : World) (b k : Nat) (ys : List Nat) : World := w.setCells b k (ys.map bv)
theorem ArrAt.set {t : TypeId} {w : World} {b : Nat} {bs : List Nat} (h : ArrAt t w b bs) (k : Nat) (ys : List Nat) (hk : k + ys.length ≤ bs.length) : ArrAt t (setA w b k ys) b (over bs k ys) := by
  have := (setCells_at (ys.map bv) w (verC bs) k h).1
  rw [splice_over hk] at this
  exact this
theorem setA_one {t : TypeId} {w : World} {b : Nat} {bs : List Nat} (h : ArrAt t w b bs) (k : Nat) (ys : List Nat) : One b w (setA w b k ys) := (setCells_at (ys.map bv) w (verC bs) k h).2.2
theorem setA_below {B : Nat} {a w : World} {t : TypeId} {b : Nat} {bs : List Nat} (h : Below B a w) (ha : ArrAt t w b bs) (hb : B ≤ b) (k : Nat) (ys : List Nat) : Below B a (setA w b k ys) :=
  h.trans ⟨(setA_one ha k ys).os, (setA_one ha k ys).tape, (setA_one ha k ys).output, Nat.le_of_eq (setA_one ha k ys).size.symm, fun j hj => (setA_one ha k ys).block j (by omega)⟩
theorem over_all {bs ys : List Nat} (h : bs.length = ys.length) : over bs 0 ys = ys := by simp [over, h]
section
variable {t : TypeId} {n : Nat}
/-- What a type of arrays of bytes is. -/
def ArrT (t : TypeId) (n : Nat) : Prop := (Try.prog.info? t).map (fun i => (i.zero, i.size, i.bytes)) = some (some (.agg (Array.replicate n (.int .u8 0))), n, n) ∧ ∃ e, Try.prog.underlying t = some (.array n e)
def zeros (n : Nat) : List Nat := List.replicate n 0
theorem verC_zeros (n : Nat) : verC (zeros n) = Array.replicate n (.int .u8 0) := by
  rw [verC, zeros, List.map_replicate, List.toArray_replicate]; rfl
theorem zero_arr (ht : ArrT t n) (w : World) : (zeroValue t).run Try.prog w = .ok (verV (zeros n)) w := by
  obtain ⟨i, hi, hz, hs, hb⟩ := info_parts ht.1
  rw [verV, verC_zeros]
  simp [zeroValue, typeInfo, hi, hz, Result.andThen]
theorem run_alloc_arr (ht : ArrT t n) (w : World) (x : Value) : (Instr.alloc t true x).run Try.prog w = .ok (.pointer (some ⟨w.heap.size, 0, none⟩)) (w.alloc (.cells (verC (zeros n)) t)) := by
  simp only [Instr.alloc, Sem.run_bind, zero_arr ht, Result.andThen, newVar, newRow]
  rfl
theorem run_load_arr (ht : ArrT t n) {w : World} {b : Nat} {bs : List Nat} (hl : bs.length = n) (h : ArrAt t w b bs) : (Instr.loadAt t (.pointer (some ⟨b, 0, none⟩))).run Try.prog w = .ok (verV bs) w := by
  obtain ⟨i, hi, hz, hs, hb⟩ := info_parts ht.1
  obtain ⟨e, he⟩ := ht.2
  have := run_loadVar_mid (P := Try.prog) w b 0 t (bs.map bv) _ h.range he rfl (by rw [hi]; simp [hs, hl])
  simp only [Instr.loadAt, Instr.sureAddr, Sem.run_bind, Sem.run_pure, Result.andThen_ok, this]
  rfl
theorem run_store_arr (ht : ArrT t n) {w : World} {b : Nat} {bs vs : List Nat} (hl : bs.length = n) (hv : vs.length = n) (h : ArrAt t w b bs) : (Instr.storeAt t (.pointer (some ⟨b, 0, none⟩)) (verV vs)).run Try.prog w = .ok () (setA w b 0 vs) := by
  obtain ⟨i, hi, hz, hs, hb⟩ := info_parts ht.1
  rw [verV, run_storeAt_mid _ _ _ _ (verC vs) (by rw [verC_size]; exact h.there 0 _ (by omega)) (by rw [hi, verC_size]; simp [hs, hv]) (verC_one vs)]
  simp [setA, verC]
end
/-- copy into a piece of an array. -/
theorem copyV_at {N : Nat} {w : World} {t : TypeId} {b k n cap : Nat} {bs xs : List Nat} {y : Value} (ty : TypeId) (ha : ArrAt t w b bs) (hr : Row N w y xs) (hn : k + n ≤ bs.length) :
    copyV Try.prog (.slice (some ⟨b, k, none⟩) n cap) y ty w = .ok (.int .i64 ((xs.take n).length : Int)) (setA w b k (xs.take n)) := by
  obtain ⟨i0, hi, hz0, hz1, hz2⟩ := info_parts infoByte
  obtain ⟨ao, c, rfl, hcap, hno, hc⟩ := hr
  have hsz : (sizeOf 5).run Try.prog w = .ok 1 w := by simp [sizeOf, typeInfo, hi, hz1, Result.andThen]
  have hmin : Nat.min xs.length n = (xs.take n).length := by rw [List.length_take]; exact Nat.min_comm _ _
  have hfc : (Builtin.firstCells 1 (xs.take n).length (.slice ao xs.length c)).run Try.prog w = .ok (verC (xs.take n)) w := by
    cases ao with
    | none =>
      have e : xs = [] := by
        cases xs with
        | nil => rfl
        | cons y r => obtain ⟨b, off, e, _⟩ := hc (by simp); cases e
      subst e
      simp [Builtin.firstCells, verC]
    | some ad =>
      have hcells : ∀ (j : Nat) (v : Value), ((xs.take n).map bv)[j]? = some v → w.cell? (ad.add j) = some v := by
        intro j u hj
        have hjl : j < (xs.take n).length := by
          have := (List.getElem?_eq_some_iff.1 hj).1
          simpa using this
        have hjx : j < xs.length := by rw [List.length_take] at hjl; omega
        obtain ⟨b, off, e2, _, hc2⟩ := hc (by omega)
        obtain rfl := Option.some.inj e2
        have h2 := hc2 j hjx
        rw [Addr.add_mid, h2]
        rw [List.getElem?_map, List.getElem?_take, if_pos (by rw [List.length_take] at hjl; omega), List.getElem?_eq_getElem hjx] at hj
        simp at hj
        rw [← hj]
        simp [List.getD_eq_getElem?_getD, List.getElem?_eq_getElem hjx]
      have := run_loadCells_list (P := Try.prog) w ad ((xs.take n).map bv) hcells
      rw [List.length_map] at this
      simp only [Builtin.firstCells, Nat.mul_one]
      exact this
  have hst : (storeCells ⟨b, k, none⟩ (verC (xs.take n)).toList).run Try.prog w = .ok () (setA w b k (xs.take n)) := by
    have ht := ha.there k (verC (xs.take n)).size (by rw [verC_size, List.length_take]; omega)
    have := run_storeCells_cells (P := Try.prog) b k (verC (xs.take n)).toList 0 w (fun j hj => by have := (ht j (by simpa using hj)).1; simpa using this) (fun _ _ => ha.frozen _)
      (fun v hv => (Array.all_eq_true_iff_forall_mem.1 (verC_one (xs.take n))) v (by simpa using hv))
    rw [this, Nat.add_zero]
    simp [setA, verC]
  simp only [copyV, Builtin.copy_, Builtin.lenOf, Sem.run_bind, run_underlying Try.underlying36, Sem.run_pure, Result.andThen_ok, List.getElem?_toArray, List.getElem?_cons_zero, List.getElem?_cons_succ, hsz, hmin, hfc, hst]
  rfl
end Go.Proofs.Ytpmmpdkeahmdiaa
