/- Versions of sectors: arrays of 64 bytes, as values and in memory. -/
import Derived.Test.YtpmmpdkeahmdiaaBase
import Derived.Test.YtpmmpdkeahmdiaaMapAt
import Derived.Deep.MidRow
namespace Go.Proofs.Ytpmmpdkeahmdiaa
open Go.RowKit
set_option maxRecDepth 100000

theorem info_ver : (Try.prog.info? 87).map (fun i => (i.zero, i.size, i.bytes)) = some (some (.agg (Array.replicate 64 (.int .u8 0))), 64, 64) := by kernel_rfl
/-- The version without a byte that is not 0. -/
def zver : List Nat := List.replicate 64 0
def verC (v : List Nat) : Array Value := (v.map bv).toArray
def verV (v : List Nat) : Value := .agg (verC v)
theorem zver_len : zver.length = 64 := by simp [zver]
theorem verC_size (v : List Nat) : (verC v).size = v.length := by simp [verC]
theorem verC_zero : verC zver = Array.replicate 64 (.int .u8 0) := by
  rw [verC, zver, List.map_replicate, List.toArray_replicate]; rfl

/-- An array with values laid over it from o on. -/
def splice (C : Array Value) : Nat → List Value → Array Value
  | _, [] => C
  | o, v :: r => splice (C.setIfInBounds o v) (o + 1) r
theorem splice_size (vs : List Value) : ∀ (C : Array Value) (o : Nat), (splice C o vs).size = C.size := by
  induction vs with
  | nil => intro C o; rfl
  | cons v r ih => intro C o; rw [splice, ih]; simp
theorem splice_get (vs : List Value) : ∀ (C : Array Value) (o i : Nat), i < C.size → (splice C o vs)[i]? = if o ≤ i ∧ i < o + vs.length then vs[i - o]? else C[i]? := by
  induction vs with
  | nil => intro C o i hi; rw [splice, if_neg]; simp
  | cons v r ih =>
    intro C o i hi
    rw [splice, ih _ _ _ (by simpa using hi)]
    by_cases h1 : o + 1 ≤ i ∧ i < o + 1 + r.length
    · rw [if_pos h1, if_pos (by simp; omega)]
      have e : i - o = (i - (o + 1)) + 1 := by omega
      rw [e, List.getElem?_cons_succ]
    · rw [if_neg h1]
      by_cases h2 : i = o
      · subst h2
        rw [if_pos (by simp)]
        simp [hi]
      · rw [if_neg (by simp; omega), Array.getElem?_setIfInBounds_ne (by omega)]
theorem splice_full (C : Array Value) (vs : List Value) (h : vs.length = C.size) : splice C 0 vs = vs.toArray := by
  apply Array.ext_getElem?
  intro i
  by_cases hi : i < C.size
  · rw [splice_get _ _ _ _ hi, if_pos (by omega)]; simp
  · rw [Array.getElem?_eq_none (by rw [splice_size]; omega), Array.getElem?_eq_none (by simp; omega)]
theorem setCell_new (w : World) (C : Array Value) (t : TypeId) (f : Nat × Nat) (o : Nat) (v : Value) : (w.alloc (.cells C t f)).setCell ⟨w.heap.size, o, none⟩ v = w.alloc (.cells (C.setIfInBounds o v) t f) := by
  have e : (w.heap.push (.cells C t f)).modify w.heap.size (fun | .cells c elem frozen => .cells (c.setIfInBounds o v) elem frozen | x => x) = w.heap.push (.cells (C.setIfInBounds o v) t f) := by
    apply Array.ext_getElem?
    intro i
    rw [Array.getElem?_modify, Array.getElem?_push, Array.getElem?_push]
    by_cases hi : i = w.heap.size
    · subst hi; simp
    · rw [if_neg (fun h => hi h.symm), if_neg hi, if_neg hi]
  simp only [World.setCell, World.alloc, Option.isSome_none, Bool.false_eq_true, if_false]
  rw [World.mk.injEq]
  exact ⟨e, rfl, rfl, rfl, rfl⟩
theorem setCells_new (w : World) (t : TypeId) (f : Nat × Nat) (vs : List Value) : ∀ (C : Array Value) (o : Nat), (w.alloc (.cells C t f)).setCells w.heap.size o vs = w.alloc (.cells (splice C o vs) t f) := by
  induction vs with
  | nil => intro C o; rfl
  | cons v r ih => intro C o; rw [World.setCells, setCell_new, ih, splice]
theorem new_there (w : World) (C : Array Value) (t : TypeId) (n : Nat) (h : n ≤ C.size) : (w.alloc (.cells C t)).there w.heap.size 0 n := by
  intro j hj
  have hb := (MapKept.heap_alloc w (.cells C t)).1
  simp only [World.cell?, World.frozen?, hb, Nat.zero_add]
  constructor
  · simp; omega
  · simp
theorem verV_zero : verV zver = .agg (Array.replicate 64 (.int .u8 0)) := by rw [verV, verC_zero]
theorem verC_one (v : List Nat) : (verC v).all (·.oneCell') = true := by
  refine all_oneCell_toArray fun x hx => ?_
  obtain ⟨y, _, rfl⟩ := List.mem_map.1 hx
  rfl
theorem zero_ver (w : World) : (zeroValue 87).run Try.prog w = .ok (verV zver) w := by
  obtain ⟨i, hi, hz, hs, hb⟩ := info_parts info_ver
  rw [verV_zero]
  simp [zeroValue, typeInfo, hi, hz, Result.andThen]
theorem run_alloc_ver (w : World) (x : Value) : (Instr.alloc 87 true x).run Try.prog w = .ok (.pointer (some ⟨w.heap.size, 0, none⟩)) (w.alloc (.cells (verC zver) 87)) := by
  simp only [Instr.alloc, Sem.run_bind, zero_ver, Result.andThen, newVar, newRow]
  rfl
theorem run_box_ver (w : World) (v : List Nat) : (Instr.box 87 (verV v)).run Try.prog w = .ok (.pointer (some ⟨w.heap.size, 0, none⟩)) (w.alloc (.cells (verC v) 87)) := by
  simp only [Instr.box, Sem.run_bind, newVar, newRow]
  rfl
theorem run_store_ver (w : World) (v : List Nat) (hv : v.length = 64) : (Instr.storeAt 87 (.pointer (some ⟨w.heap.size, 0, none⟩)) (verV v)).run Try.prog (w.alloc (.cells (verC zver) 87)) = .ok () (w.alloc (.cells (verC v) 87)) := by
  obtain ⟨i, hi, hz, hs, hb⟩ := info_parts info_ver
  have hsz : (verC v).size = 64 := by rw [verC_size, hv]
  have hz64 : (verC zver).size = 64 := by rw [verC_size, zver_len]
  rw [verV, run_storeAt_mid _ _ _ _ (verC v) (by rw [hsz, ← hz64]; exact new_there _ _ _ _ (Nat.le_refl _)) (by rw [hi, hsz]; simp [hs]) (verC_one v), setCells_new, splice_full _ _ (by rw [Array.length_toList, hsz, hz64])]
end Go.Proofs.Ytpmmpdkeahmdiaa
