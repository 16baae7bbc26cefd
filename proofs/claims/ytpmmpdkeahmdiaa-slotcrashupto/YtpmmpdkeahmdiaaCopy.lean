/- copy into a new version; append to a list of versions. -/
import Derived.Test.YtpmmpdkeahmdiaaPuts
import Derived.Maps.AppendAt
import Derived.Deep.RegionHeld3
namespace Go.Proofs.Ytpmmpdkeahmdiaa
open Go.RowKit
set_option maxRecDepth 100000

/-- Bytes, and bytes 0 behind them. -/
def pad (xs : List Nat) : List Nat := xs ++ List.replicate (64 - xs.length) 0
theorem pad_len {xs : List Nat} (h : xs.length ≤ 64) : (pad xs).length = 64 := by simp [pad]; omega
theorem splice_pad {xs : List Nat} (h : xs.length ≤ 64) : splice (verC zver) 0 (xs.map bv) = verC (pad xs) := by
  apply Array.ext_getElem?
  intro i
  have hs : (verC zver).size = 64 := by rw [verC_size, zver_len]
  by_cases hi : i < 64
  · rw [splice_get _ _ _ _ (by omega)]
    by_cases hx : i < xs.length
    · rw [if_pos (by simp; omega)]
      simp [verC, pad, List.getElem?_append_left, hx]
    · rw [if_neg (by simp; omega)]
      rw [verC, verC, List.getElem?_toArray, List.getElem?_toArray, List.getElem?_map, List.getElem?_map, pad, List.getElem?_append_right (by omega), zver, List.getElem?_replicate, List.getElem?_replicate, if_pos hi, if_pos (by omega)]
  · rw [Array.getElem?_eq_none (by rw [splice_size]; omega), Array.getElem?_eq_none (by rw [verC_size, pad_len h]; omega)]
def copyV (P : Program) (x y : Value) (ty : TypeId) (w : World) : Result Value := (Builtin.copy_ #[36, 36] ty #[x, y]).run P w
theorem exec_copy_ver (ρ : Operand → Value) (x y : Operand) (dst : Option Tmp) (ty : TypeId) (pos : String) (af : Array Edge) (g : Option (Nat × Bool)) (w : World) :
    (execOp ρ ⟨dst, .call { callee := .builtin .copy, args := #[x, y], argTypes := #[36, 36] }, ty, pos, af, g⟩).run Try.prog w = (copyV Try.prog (ρ x) (ρ y) ty w).andThen (fun v w' => .ok (.value v) w') := by
  simp only [execOp, resolve, invoke, builtin, Sem.run_bind, Sem.run_pure, Result.andThen_ok, List.map_toArray, List.map_cons, List.map_nil, copyV]
theorem copyV_new (N : Nat) (w : World) (y : Value) (xs : List Nat) (ty : TypeId) (hr : Row N w y xs) (hx : xs.length ≤ 64) :
    copyV Try.prog (.slice (some ⟨w.heap.size, 0, none⟩) 64 64) y ty (w.alloc (.cells (verC zver) 87)) = .ok (.int .i64 (xs.length : Int)) (w.alloc (.cells (verC (pad xs)) 87)) := by
  obtain ⟨i0, hi, hz0, hz1, hz2⟩ := info_parts infoByte
  obtain ⟨ao, cap, rfl, hcap, hno, hc⟩ := hr
  have hmin : Nat.min xs.length 64 = xs.length := Nat.min_eq_left hx
  have hs64 : (verC zver).size = 64 := by rw [verC_size, zver_len]
  have hsz : (sizeOf 5).run Try.prog (w.alloc (.cells (verC zver) 87)) = .ok 1 (w.alloc (.cells (verC zver) 87)) := by simp [sizeOf, typeInfo, hi, hz1, Result.andThen]
  have hfc : (Builtin.firstCells 1 xs.length (.slice ao xs.length cap)).run Try.prog (w.alloc (.cells (verC zver) 87)) = .ok (verC xs) (w.alloc (.cells (verC zver) 87)) := by
    cases ao with
    | none =>
      have e : xs = [] := by
        cases xs with
        | nil => rfl
        | cons y r => obtain ⟨b, off, e, _⟩ := hc (by simp); cases e
      subst e
      simp [Builtin.firstCells, verC]
    | some ad =>
      have hcells : ∀ (j : Nat) (v : Value), (xs.map bv)[j]? = some v → (w.alloc (.cells (verC zver) 87)).cell? (ad.add j) = some v := by
        intro j u hj
        have hjl : j < xs.length := by
          have := (List.getElem?_eq_some_iff.1 hj).1
          simpa using this
        obtain ⟨b, off, e2, _, hc2⟩ := hc (by omega)
        obtain rfl := Option.some.inj e2
        have h2 := hc2 j hjl
        have hadd : (⟨b, off, none⟩ : Addr).add j = ⟨b, off + j, none⟩ := by unfold Addr.add; split <;> simp_all
        have hbl := lt_of_cell h2
        rw [hadd, World.cell?_of_block (w := w) (a := ⟨b, off + j, none⟩) (alloc_old w _ hbl), h2]
        rw [List.getElem?_map, List.getElem?_eq_getElem hjl] at hj
        simp at hj
        rw [← hj]
        simp [List.getD_eq_getElem?_getD, List.getElem?_eq_getElem hjl]
      have := run_loadCells_list (P := Try.prog) (w.alloc (.cells (verC zver) 87)) ad (xs.map bv) hcells
      rw [List.length_map] at this
      simp only [Builtin.firstCells, Nat.mul_one]
      exact this
  have hst : (storeCells ⟨w.heap.size, 0, none⟩ (verC xs).toList).run Try.prog (w.alloc (.cells (verC zver) 87)) = .ok () (w.alloc (.cells (verC (pad xs)) 87)) := by
    have ht := new_there w (verC zver) 87 (verC xs).size (by rw [hs64, verC_size]; exact hx)
    have := run_storeCells_cells (P := Try.prog) w.heap.size 0 (verC xs).toList 0 (w.alloc (.cells (verC zver) 87)) (fun j hj => by have := (ht j (by simpa using hj)).1; simpa using this) (fun _ _ => by simp)
      (fun v hv => (Array.all_eq_true_iff_forall_mem.1 (verC_one xs)) v (by simpa using hv))
    rw [this, Nat.add_zero, setCells_new]
    congr 3
    exact splice_pad hx
  simp only [copyV, Builtin.copy_, Builtin.lenOf, Sem.run_bind, run_underlying Try.underlying36, Sem.run_pure, Result.andThen_ok, List.getElem?_toArray, List.getElem?_cons_zero, List.getElem?_cons_succ, hsz, hmin, hfc, hst]
  rfl

theorem fold_splice (vs : List Value) : ∀ (C : Array Value) (k : Nat), (vs.zipIdx k).foldl (fun cs (c, j) => cs.setIfInBounds j c) C = splice C k vs := by
  induction vs with
  | nil => intro C k; rfl
  | cons v r ih => intro C k; rw [List.zipIdx_cons, List.foldl_cons, ih, splice]
theorem buildV (ρ : Operand → Value) (x : Operand) (v : List Nat) (hx : ρ x = verV v) (hv : v.length = 64) (dst : Option Tmp) (ty : TypeId) (pos : String) (af : Array Edge) (g : Option (Nat × Bool)) (w : World) :
    (execOp ρ ⟨dst, .buildSlice 84 1 #[(0, x)], ty, pos, af, g⟩).run Try.prog w = .ok (.value (.slice (some ⟨w.heap.size, 0, none⟩) 1 1)) (w.alloc (.cells (verC v) 87)) := by
  obtain ⟨i, hi, hz, hs, hb⟩ := info_parts info_ver
  have hsz : (sizeOf 87).run Try.prog w = .ok 64 w := by simp [sizeOf, typeInfo, hi, hs, Result.andThen]
  have hfill : ∀ C : Array Value, C.size = 64 → Instr.fill (fun i => some (i * 64, 64)) C [(0, verV v)] = some (verC v) := by
    intro C hC
    have h1 : (verV v).cells.size = 64 := by show (verC v).size = 64; rw [verC_size, hv]
    have hl : (verC v).toList.length = C.size := by rw [Array.length_toList, verC_size, hv, hC]
    simp only [Instr.fill, Nat.zero_mul, h1, ne_eq, not_true_eq_false, decide_false, Nat.zero_add, hC, gt_iff_lt, Nat.lt_irrefl, Bool.or_self, Bool.false_eq_true, if_false, Option.some.injEq]
    rw [show (verV v).cells = verC v from rfl, ← Array.foldl_toList, Array.toList_zipIdx, fold_splice, splice_full C _ hl]
  have hr : ((Array.range (1 * 64)).map ((verC zver)[· % (verC zver).size]!)).size = 64 := by simp
  have hbs : (Instr.buildSlice 84 1 #[(0, verV v)]).run Try.prog w = .ok (.slice (some ⟨w.heap.size, 0, none⟩) 1 1) (w.alloc (.cells (verC v) 87)) := by
    simp only [Instr.buildSlice, Sem.run_bind, run_underlying Try.underlying84, Result.andThen_ok, hsz, zero_ver, show (verV zver).cells = verC zver from rfl, show ¬ (1 * 64 > 2 ^ 24) by decide, show ¬ (1 * 64 = 0) by decide, if_false, Sem.run_pure, hfill _ hr]
    rfl
  simp only [execOp, Sem.run_bind, List.map_toArray, List.map_cons, List.map_nil, hx, hbs, Result.andThen_ok, Sem.run_pure]

/-- 'append(l, v)': one version more. -/
theorem wp_append_ver {w : World} {o : Oper} {a : Act} {K : Act → World → Prop} {Q : Exit → Act → World → Prop} (s x : Operand) (ho : o.op = .call { callee := .builtin .append, args := #[s, x], argTypes := #[84, 84] })
    (v : Value) (n : Nat) (xs : List Value) (hs : a.eval s = v) (hown : w.ownsRow 0 87 64 v n xs) (g : Nat) (ver : List Nat) (hx : a.eval x = .slice (some ⟨g, 0, none⟩) 1 1) (hg : w.heap[g]? = some (.cells (verC ver) 87 (0, 0))) (h64 : ver.length = 64) (hn : (n + 1) * 64 ≤ 140737488355328)
    (h : ∀ v' w', w'.ownsRow 0 87 64 v' (n + 1) (xs ++ ver.map bv) → w.grownBy w' v.ownBlock → v' ≠ .slice none 0 0 → (v'.ownBlock = v.ownBlock ∨ v'.ownBlock = some w.heap.size) → K (a.put o.dst v') w') : o.wp Try.prog a w K Q := by
  obtain ⟨i, hi, hz, hs1, hb⟩ := info_parts info_ver
  have hc : ∀ (j : Nat) (u : Value), (ver.map bv)[j]? = some u → w.cell? ((⟨g, 0, none⟩ : Addr).add j) = some u := by
    intro j u hj
    have := range_block (v := ver) hg j u hj
    rw [Addr.add_mid]; exact this
  obtain ⟨v', w', hr, h2, h3, h4, h5⟩ := run_append_own_at (P := Try.prog) w 0 84 o.type 87 i _ 64 64 Try.underlying84 hi hz hs1 hb (by simp [Value.cells]) (by decide) v n xs hown ⟨g, 0, none⟩ 1 1 (ver.map bv) (by simp [h64]) hc
    (fun u hu => by obtain ⟨z, _, rfl⟩ := List.mem_map.1 hu; rfl) (by unfold maxLen; omega) hn (Nat.zero_le _)
  unfold Oper.wp execOp
  simp only [ho, resolve, invoke, builtin, Sem.run_bind, Sem.run_pure, Result.andThen_ok, List.map_toArray, List.map_cons, List.map_nil, hs, hx, hr]
  exact h v' w' h2 h3 (fun e => by have := (h4.1 e).2; omega) h5
end Go.Proofs.Ytpmmpdkeahmdiaa
