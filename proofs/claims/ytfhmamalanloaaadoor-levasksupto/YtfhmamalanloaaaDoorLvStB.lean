/- Steps: a row and a rune, in slices that are read. -/
import Derived.Test.YtfhmamalanloaaaDoorLvStarts
namespace Go.Proofs.YtfhmamalanloaaaDoor
open Go.RowKit Nums Ed Lv
set_option maxRecDepth 100000

abbrev St := List Nat × Int
def stL (x : St) : List Value := x.1.map bv ++ [.int .i32 x.2]
def stV (x : St) : Value := .agg (stL x).toArray
/-- A step that can be. -/
def StOk (x : St) : Prop := x.1.length = 25 ∧ ∀ y ∈ x.1, y < 256
theorem stL_len {x : St} (h : StOk x) : (stL x).length = 26 := by simp [stL, h.1]
/-- A slice of steps that is read. -/
def StepsAt (E : Nat) (w : World) (v : Value) (L : List St) : Prop :=
  ∃ ad cap, v = .slice ad L.length cap ∧ (∀ x ∈ L, StOk x) ∧ (0 < L.length → ∃ g off, ad = some ⟨g, off, none⟩ ∧ g < E ∧ ∀ i x, L[i]? = some x → w.rangeAt g (off + i * 26) (stL x))
theorem range_of {w w' : World} {g o : Nat} {l : List Value} (h : w.rangeAt g o l) (e : w'.heap[g]? = w.heap[g]?) : w'.rangeAt g o l := fun j u hj => (World.cell?_of_block (a := ⟨g, o + j, none⟩) e).trans (h j u hj)
theorem StepsAt.below {w w' : World} {v : Value} {L : List St} (h : StepsAt w.heap.size w v L) (hb : Below w.heap.size w w') : StepsAt w'.heap.size w' v L := by
  obtain ⟨ad, cap, hv, hok, hc⟩ := h
  refine ⟨ad, cap, hv, hok, fun h0 => ?_⟩
  obtain ⟨g, off, e, hg, hc⟩ := hc h0
  exact ⟨g, off, e, Nat.lt_of_lt_of_le hg hb.size, fun i x hi => range_of (hc i x hi) (hb.block g hg)⟩
theorem StepsAt.form {E : Nat} {w : World} {v : Value} {L : List St} (h : StepsAt E w v L) : ∃ ad cap, v = .slice ad L.length cap := by
  obtain ⟨ad, cap, hv, _⟩ := h
  exact ⟨ad, cap, hv⟩
theorem StepsAt.at {E : Nat} {w : World} {ad : Option Addr} {n cap : Nat} {L : List St} (h : StepsAt E w (.slice ad n cap) L) {k : Nat} {x : St} (hk : L[k]? = some x) : ∃ g off, ad = some ⟨g, off, none⟩ ∧ g < E ∧ w.rangeAt g (off + k * 26) (stL x) ∧ StOk x := by
  obtain ⟨ad', cap', e, hok, hc⟩ := h
  cases e
  have hl := (List.getElem?_eq_some_iff.1 hk).1
  obtain ⟨g, off, e, hg, hc⟩ := hc (by omega)
  exact ⟨g, off, e, hg, hc k x hk, hok x (List.mem_of_getElem? hk)⟩
theorem info_St : (Tryd.prog.info? 37).map (fun i => (i.zero, i.size, i.bytes)) = some (some (.agg (stL (List.replicate 25 0, 0)).toArray), 26, 32) := by kernel_rfl
def zst : St := (List.replicate 25 0, 0)
theorem zst_ok : StOk zst := ⟨by simp [zst], fun y hy => by simp [zst] at hy; omega⟩
theorem zero_St (w : World) : (zeroValue 37).run Tryd.prog w = .ok (stV zst) w := by
  obtain ⟨i, hi, hz, hs, hb⟩ := info_parts info_St
  simp [zeroValue, typeInfo, hi, hz, Result.andThen, stV, zst]
def loadT (P : Program) (x : Value) (w : World) : Result Value := (Instr.loadAt 37 x).run P w
def storeT (P : Program) (x y : Value) (w : World) : Result Unit := (Instr.storeAt 37 x y).run P w
section
variable (ρ : Operand → Value) (x y : Operand) (dst : Option Tmp) (ty : TypeId) (pos : String) (af : Array Edge) (g : Option (Nat × Bool)) (w : World)
theorem exec_alloc_T : (execOp ρ ⟨dst, .alloc 37, ty, pos, af, g⟩).run Tryd.prog w = .ok (.value (.pointer (some ⟨w.heap.size, 0, none⟩))) (w.alloc (.cells (stL zst).toArray 37)) := by
  simp only [execOp, Sem.run_bind, Instr.alloc, zero_St, Result.andThen, newVar, newRow]
  rfl
theorem exec_load_T : (execOp ρ ⟨dst, .load 37 x, ty, pos, af, g⟩).run Tryd.prog w = (loadT Tryd.prog (ρ x) w).andThen (fun v w' => .ok (.value v) w') := by
  simp only [execOp, Sem.run_bind, loadT, Sem.run_pure]
theorem exec_store_T : (execOp ρ ⟨dst, .store 37 x y, ty, pos, af, g⟩).run Tryd.prog w = (storeT Tryd.prog (ρ x) (ρ y) w).andThen (fun _ w' => .ok .skip w') := by
  simp only [execOp, Sem.run_bind, storeT, Sem.run_pure]
end
theorem loadT_at {w : World} {b o : Nat} {x : St} (h : w.rangeAt b o (stL x)) (hx : StOk x) : loadT Tryd.prog (.pointer (some ⟨b, o, none⟩)) w = .ok (stV x) w := by
  obtain ⟨i, hi, hz, hs, hb⟩ := info_parts info_St
  have := run_loadVar_mid (P := Tryd.prog) w b o 37 (stL x) _ h Tryd.underlying37 rfl (by rw [hi]; simp [hs, stL_len hx])
  simp only [loadT, Instr.loadAt, Instr.sureAddr, Sem.run_bind, Sem.run_pure, Result.andThen_ok, this]
  rfl
theorem st_one (x : St) : (stL x).toArray.all (·.oneCell') = true := by
  refine all_oneCell_toArray fun y hy => ?_
  rcases List.mem_append.1 hy with hy | hy
  · obtain ⟨z, _, rfl⟩ := List.mem_map.1 hy
    rfl
  · rw [List.mem_singleton.1 hy]; rfl
/-- A step laid into a new block. -/
theorem keep_step (w : World) (x : St) (hx : StOk x) : ∃ w', storeT Tryd.prog (.pointer (some ⟨w.heap.size, 0, none⟩)) (stV x) (w.alloc (.cells (stL zst).toArray 37)) = .ok () w' ∧ w'.rangeAt w.heap.size 0 (stL x) ∧ Below w.heap.size w w' ∧ w'.heap.size = w.heap.size + 1 := by
  obtain ⟨i, hi, hz, hs, hb⟩ := info_parts info_St
  have hn := alloc_newR w (.cells (stL zst).toArray 37)
  obtain ⟨h1, h2⟩ := setCells_at (stL x) _ _ 0 hn
  rw [spl_full _ _ (by rw [List.size_toArray, stL_len hx, stL_len zst_ok])] at h1
  have hth : (w.alloc (.cells (stL zst).toArray 37)).there w.heap.size 0 (stL x).toArray.size := by
    intro j hj
    rw [List.size_toArray, stL_len hx] at hj
    refine ⟨?_, ?_⟩
    · simp only [World.cell?, hn, Nat.zero_add]
      simp [stL_len zst_ok, hj]
    · simp only [World.frozen?, hn]
      simp
  refine ⟨_, ?_, ?_, h2.below ((Below.refl _ w).alloc (Nat.le_refl _) _) (Nat.le_refl _), by rw [h2.size]; simp⟩
  · rw [storeT, stV, run_storeAt_mid _ _ _ _ (stL x).toArray hth (by rw [hi]; simp [hs, stL_len hx]) (st_one x)]
  · intro j u hj
    simp only [World.cell?, h1, Nat.zero_add]
    simpa using hj
theorem step_row_of {w : World} {b o : Nat} {x : St} (h : w.rangeAt b o (stL x)) : w.rangeAt b o (x.1.map bv) := fun j u hj => h j u (by rw [stL, List.getElem?_append_left (List.getElem?_eq_some_iff.1 hj).1]; exact hj)
theorem step_rune_of {w : World} {b o : Nat} {x : St} (h : w.rangeAt b o (stL x)) (hx : StOk x) : w.cell? ⟨b, o + 25, none⟩ = some (.int .i32 x.2) := h 25 _ (by rw [stL, List.getElem?_append_right (by simp [hx.1])]; simp [hx.1])
end Go.Proofs.YtfhmamalanloaaaDoor
