/- Arrays of bytes in blocks of their own. -/
import Derived.Test.YtpmmpdkeahmdiaaCopy
import Derived.Test.YtpmmpdkeahmdiaaBurst
namespace Go.Proofs.Ytpmmpdkeahmdiaa
open Go.RowKit
set_option maxRecDepth 100000

/-- Bytes laid over others from k on. -/
def over (bs : List Nat) (k : Nat) (ys : List Nat) : List Nat := bs.take k ++ ys ++ bs.drop (k + ys.length)
theorem over_len {bs ys : List Nat} {k : Nat} (h : k + ys.length ≤ bs.length) : (over bs k ys).length = bs.length := by
  simp [over]; omega
theorem splice_over {bs ys : List Nat} {k : Nat} (h : k + ys.length ≤ bs.length) : splice (verC bs) k (ys.map bv) = verC (over bs k ys) := by
  apply Array.ext_getElem?
  intro i
  by_cases hi : i < bs.length
  · rw [splice_get _ _ _ _ (by rw [verC_size]; exact hi)]
    simp only [List.length_map, verC, List.getElem?_toArray, List.getElem?_map, over]
    by_cases h1 : k ≤ i ∧ i < k + ys.length
    · rw [if_pos h1, List.append_assoc, List.getElem?_append_right (by simp; omega), List.getElem?_append_left (by simp; omega)]
      congr 2
      simp; omega
    · rw [if_neg h1]
      by_cases h2 : i < k
      · rw [List.append_assoc, List.getElem?_append_left (by simp; omega), List.getElem?_take, if_pos h2]
      · rw [List.append_assoc, List.getElem?_append_right (by simp; omega), List.getElem?_append_right (by simp; omega), List.getElem?_drop]
        congr 2
        simp; omega
  · rw [Array.getElem?_eq_none (by rw [splice_size, verC_size]; omega), Array.getElem?_eq_none (by rw [verC_size, over_len h]; omega)]
/-- An array in a block of its own. -/
def ArrAt (t : TypeId) (w : World) (b : Nat) (bs : List Nat) : Prop := w.heap[b]? = some (.cells (verC bs) t (0, 0))
theorem ArrAt.lt {t : TypeId} {w : World} {b : Nat} {bs : List Nat} (h : ArrAt t w b bs) : b < w.heap.size := (Array.getElem?_eq_some_iff.1 h).1
theorem ArrAt.below {t : TypeId} {w w' : World} {b B : Nat} {bs : List Nat} (h : ArrAt t w b bs) (hB : b < B) (hb : Below B w w') : ArrAt t w' b bs := (hb.block b hB).trans h
theorem ArrAt.new (t : TypeId) (w : World) (bs : List Nat) : ArrAt t (w.alloc (.cells (verC bs) t)) w.heap.size bs := alloc_new _ _
theorem ArrAt.old {t : TypeId} {w : World} {b : Nat} {bs : List Nat} (h : ArrAt t w b bs) (o : Obj) : ArrAt t (w.alloc o) b bs := (alloc_old w o h.lt).trans h
theorem ArrAt.range {t : TypeId} {w : World} {b : Nat} {bs : List Nat} (h : ArrAt t w b bs) : w.rangeAt b 0 (bs.map bv) := range_block h
theorem ArrAt.cell {t : TypeId} {w : World} {b : Nat} {bs : List Nat} (h : ArrAt t w b bs) {i : Nat} (hi : i < bs.length) : w.cell? ⟨b, i, none⟩ = some (bv (bs.getD i 0)) := by
  have := h.range i (bv (bs.getD i 0)) (by rw [List.getElem?_map, List.getElem?_eq_getElem hi]; simp [List.getD_eq_getElem?_getD, List.getElem?_eq_getElem hi])
  simpa using this
theorem ArrAt.frozen {t : TypeId} {w : World} {b : Nat} {bs : List Nat} (h : ArrAt t w b bs) (o : Nat) : w.frozen? ⟨b, o, none⟩ = false := by
  unfold ArrAt at h
  simp [World.frozen?, h]
theorem ArrAt.there {t : TypeId} {w : World} {b : Nat} {bs : List Nat} (h : ArrAt t w b bs) (o n : Nat) (hn : o + n ≤ bs.length) : w.there b o n := fun j hj => ⟨by rw [h.cell (by omega)]; rfl, h.frozen _⟩
/-- A piece of an array, as a row. -/
theorem ArrAt.row {t : TypeId} {w : World} {b : Nat} {bs : List Nat} (h : ArrAt t w b bs) (k n cap : Nat) (hn : k + n ≤ bs.length) (hc : n ≤ cap) {N : Nat} (hN : b < N) : Row N w (.slice (some ⟨b, k, none⟩) n cap) ((bs.drop k).take n) := by
  have hl : ((bs.drop k).take n).length = n := by simp; omega
  refine ⟨some ⟨b, k, none⟩, cap, by rw [hl], by omega, (fun h => by cases h), fun _ => ⟨b, k, rfl, hN, fun i hi => ?_⟩⟩
  rw [hl] at hi
  rw [h.cell (by omega)]
  congr 2
  simp [List.getD_eq_getElem?_getD, hi]
/-- Values laid over a block's cells. -/
theorem setCells_at {b : Nat} {t : TypeId} {f : Nat × Nat} (vs : List Value) : ∀ (w : World) (C : Array Value) (o : Nat), w.heap[b]? = some (.cells C t f) → (w.setCells b o vs).heap[b]? = some (.cells (splice C o vs) t f) ∧ (∀ k, k ≠ b → (w.setCells b o vs).heap[k]? = w.heap[k]?) ∧ One b w (w.setCells b o vs) := by
  induction vs with
  | nil => intro w C o h; exact ⟨h, fun _ _ => rfl, ⟨rfl, rfl, rfl, rfl, rfl, fun _ _ => rfl⟩⟩
  | cons v r ih =>
    intro w C o h
    obtain ⟨h1, h2, h3⟩ := ih (w.setCell ⟨b, o, none⟩ v) (C.setIfInBounds o v) (o + 1) (set_cell h o v)
    exact ⟨h1, fun k hk => (h2 k hk).trans (Below.heap_setCell _ _ _ _ hk), (one_setCell w b o v).trans h3⟩
/-- An array's bytes from k on replaced. -/
def setA (w : World) (b k : Nat) (ys : List Nat) : World := w.setCells b k (ys.map bv)
theorem ArrAt.set {t : TypeId} {w : World} {b : Nat} {bs : List Nat} (h : ArrAt t w b bs) (k : Nat) (ys : List Nat) (hk : k + ys.length ≤ bs.length) : ArrAt t (setA w b k ys) b (over bs k ys) := by
  have := (setCells_at (ys.map bv) w (verC bs) k h).1
  rw [splice_over hk] at this
  exact this
theorem setA_one {t : TypeId} {w : World} {b : Nat} {bs : List Nat} (h : ArrAt t w b bs) (k : Nat) (ys : List Nat) : One b w (setA w b k ys) := (setCells_at (ys.map bv) w (verC bs) k h).2.2
theorem setA_below {B : Nat} {a w : World} {t : TypeId} {b : Nat} {bs : List Nat} (h : Below B a w) (ha : ArrAt t w b bs) (hb : B ≤ b) (k : Nat) (ys : List Nat) : Below B a (setA w b k ys) :=
  h.trans ⟨(setA_one ha k ys).os, (setA_one ha k ys).tape, (setA_one ha k ys).output, Nat.le_of_eq (setA_one ha k ys).size.symm, fun j hj => (setA_one ha k ys).block j (by omega)⟩
theorem over_all {bs ys : List Nat} (h : bs.length = ys.length) : over bs 0 ys = ys := by simp [over, h]
section
variable {t : TypeId} {n : Nat}
/-- What a type of arrays of bytes is. -/
def ArrT (t : TypeId) (n : Nat) : Prop := (Try.prog.info? t).map (fun i => (i.zero, i.size, i.bytes)) = some (some (.agg (Array.replicate n (.int .u8 0))), n, n) ∧ ∃ e, Try.prog.underlying t = some (.array n e)
def zeros (n : Nat) : List Nat := List.replicate n 0
theorem verC_zeros (n : Nat) : verC (zeros n) = Array.replicate n (.int .u8 0) := by
  rw [verC, zeros, List.map_replicate, List.toArray_replicate]; rfl
theorem zero_arr (ht : ArrT t n) (w : World) : (zeroValue t).run Try.prog w = .ok (verV (zeros n)) w := by
  obtain ⟨i, hi, hz, hs, hb⟩ := info_parts ht.1
  rw [verV, verC_zeros]
  simp [zeroValue, typeInfo, hi, hz, Result.andThen]
theorem run_alloc_arr (ht : ArrT t n) (w : World) (x : Value) : (Instr.alloc t true x).run Try.prog w = .ok (.pointer (some ⟨w.heap.size, 0, none⟩)) (w.alloc (.cells (verC (zeros n)) t)) := by
  simp only [Instr.alloc, Sem.run_bind, zero_arr ht, Result.andThen, newVar, newRow]
  rfl
theorem run_load_arr (ht : ArrT t n) {w : World} {b : Nat} {bs : List Nat} (hl : bs.length = n) (h : ArrAt t w b bs) : (Instr.loadAt t (.pointer (some ⟨b, 0, none⟩))).run Try.prog w = .ok (verV bs) w := by
  obtain ⟨i, hi, hz, hs, hb⟩ := info_parts ht.1
  obtain ⟨e, he⟩ := ht.2
  have := run_loadVar_mid (P := Try.prog) w b 0 t (bs.map bv) _ h.range he rfl (by rw [hi]; simp [hs, hl])
  simp only [Instr.loadAt, Instr.sureAddr, Sem.run_bind, Sem.run_pure, Result.andThen_ok, this]
  rfl
theorem run_store_arr (ht : ArrT t n) {w : World} {b : Nat} {bs vs : List Nat} (hl : bs.length = n) (hv : vs.length = n) (h : ArrAt t w b bs) : (Instr.storeAt t (.pointer (some ⟨b, 0, none⟩)) (verV vs)).run Try.prog w = .ok () (setA w b 0 vs) := by
  obtain ⟨i, hi, hz, hs, hb⟩ := info_parts ht.1
  rw [verV, run_storeAt_mid _ _ _ _ (verC vs) (by rw [verC_size]; exact h.there 0 _ (by omega)) (by rw [hi, verC_size]; simp [hs, hv]) (verC_one vs)]
  simp [setA, verC]
end
/-- copy into a piece of an array. -/
theorem copyV_at {N : Nat} {w : World} {t : TypeId} {b k n cap : Nat} {bs xs : List Nat} {y : Value} (ty : TypeId) (ha : ArrAt t w b bs) (hr : Row N w y xs) (hn : k + n ≤ bs.length) :
    copyV Try.prog (.slice (some ⟨b, k, none⟩) n cap) y ty w = .ok (.int .i64 ((xs.take n).length : Int)) (setA w b k (xs.take n)) := by
  obtain ⟨i0, hi, hz0, hz1, hz2⟩ := info_parts infoByte
  obtain ⟨ao, c, rfl, hcap, hno, hc⟩ := hr
  have hsz : (sizeOf 5).run Try.prog w = .ok 1 w := by simp [sizeOf, typeInfo, hi, hz1, Result.andThen]
  have hmin : Nat.min xs.length n = (xs.take n).length := by rw [List.length_take]; exact Nat.min_comm _ _
  have hfc : (Builtin.firstCells 1 (xs.take n).length (.slice ao xs.length c)).run Try.prog w = .ok (verC (xs.take n)) w := by
    cases ao with
    | none =>
      have e : xs = [] := by
        cases xs with
        | nil => rfl
        | cons y r => obtain ⟨b, off, e, _⟩ := hc (by simp); cases e
      subst e
      simp [Builtin.firstCells, verC]
    | some ad =>
      have hcells : ∀ (j : Nat) (v : Value), ((xs.take n).map bv)[j]? = some v → w.cell? (ad.add j) = some v := by
        intro j u hj
        have hjl : j < (xs.take n).length := by
          have := (List.getElem?_eq_some_iff.1 hj).1
          simpa using this
        have hjx : j < xs.length := by rw [List.length_take] at hjl; omega
        obtain ⟨b, off, e2, _, hc2⟩ := hc (by omega)
        obtain rfl := Option.some.inj e2
        have h2 := hc2 j hjx
        rw [Addr.add_mid, h2]
        rw [List.getElem?_map, List.getElem?_take, if_pos (by rw [List.length_take] at hjl; omega), List.getElem?_eq_getElem hjx] at hj
        simp at hj
        rw [← hj]
        simp [List.getD_eq_getElem?_getD, List.getElem?_eq_getElem hjx]
      have := run_loadCells_list (P := Try.prog) w ad ((xs.take n).map bv) hcells
      rw [List.length_map] at this
      simp only [Builtin.firstCells, Nat.mul_one]
      exact this
  have hst : (storeCells ⟨b, k, none⟩ (verC (xs.take n)).toList).run Try.prog w = .ok () (setA w b k (xs.take n)) := by
    have ht := ha.there k (verC (xs.take n)).size (by rw [verC_size, List.length_take]; omega)
    have := run_storeCells_cells (P := Try.prog) b k (verC (xs.take n)).toList 0 w (fun j hj => by have := (ht j (by simpa using hj)).1; simpa using this) (fun _ _ => ha.frozen _)
      (fun v hv => (Array.all_eq_true_iff_forall_mem.1 (verC_one (xs.take n))) v (by simpa using hv))
    rw [this, Nat.add_zero]
    simp [setA, verC]
  simp only [copyV, Builtin.copy_, Builtin.lenOf, Sem.run_bind, run_underlying Try.underlying36, Sem.run_pure, Result.andThen_ok, List.getElem?_toArray, List.getElem?_cons_zero, List.getElem?_cons_succ, hsz, hmin, hfc, hst]
  rfl
end Go.Proofs.Ytpmmpdkeahmdiaa
