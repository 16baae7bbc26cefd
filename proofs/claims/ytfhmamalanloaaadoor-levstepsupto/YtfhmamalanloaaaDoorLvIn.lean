/- Rows, steps and runes that came in: what the walks ask of them, out of their reading. -/
import Derived.Test.YtfhmamalanloaaaDoorFrame
import Derived.Test.YtfhmamalanloaaaDoorLvStB
import Derived.Deep.Strs
import Derived.Lib.SmallJoins
namespace Go.Proofs.YtfhmamalanloaaaDoor
open Go.ChangeShapes Go.WideShapes Go.ChangeAt Go.RowKit Go.Deep Nums Ed Lv
set_option maxRecDepth 100000

theorem laidOut : laidOutB Tryd.prog = true := by kernel_rfl
theorem rowCells : Tryd.prog.cellsOf 32 = 25 := by kernel_rfl
theorem stepCells : Tryd.prog.cellsOf 37 = 26 := by kernel_rfl
theorem u8Cells : Tryd.prog.cellsOf 5 = 1 := by kernel_rfl
theorem i32Cells : Tryd.prog.cellsOf 21 = 1 := by kernel_rfl
def big {H : Type} (d : DataW H) : Nat := match d with
  | .slice elems spare => elems.length + spare.length
  | _ => 0
/-- The cells of a row that came in. -/
theorem row_cells {H : Type} {enc : TypeId × Value → H} {W : World} {fuel : Nat} {cs : List Value} {x : DataW H × List MemPlace}
    (h : DataW.trod enc Tryd.prog W 0 (fun _ => true) true fuel 32 cs = some x) : ∃ r : List Nat, cs = r.map bv ∧ r.length = 25 ∧ ∀ y ∈ r, y < 256 := by
  obtain ⟨xs, m, _, _, hl, hx, hel⟩ := DataW.trod_array Tryd.underlying32 h
  rw [rowCells] at hl
  have each : ∀ v ∈ cs, ∃ n : Nat, v = bv n ∧ n < 256 := by
    intro v hv
    obtain ⟨i, hi⟩ := List.mem_iff_getElem?.1 hv
    have hil := (List.getElem?_eq_some_iff.1 hi).1
    have g := hel i (by omega)
    obtain ⟨y, e⟩ : ∃ y, xs[i]? = some y := ⟨_, List.getElem?_eq_getElem (by omega)⟩
    rw [e, u8Cells, Nat.mul_one] at g
    obtain ⟨z, k, _, w0⟩ := DataW.trod_int Tryd.underlying5 g
    have hk : v = .int .u8 z := by
      have := congrArg (fun l => l[0]?) k
      simp [List.getElem?_drop, hi] at this
      exact this
    have b := bounds_u8 w0
    exact ⟨z.toNat, by rw [hk, bv]; congr 1; omega, by omega⟩
  have conv : ∀ l : List Value, (∀ v ∈ l, ∃ n : Nat, v = bv n ∧ n < 256) → ∃ r : List Nat, l = r.map bv ∧ ∀ y ∈ r, y < 256 := by
    intro l
    induction l with
    | nil => intro _; exact ⟨[], rfl, fun y hy => by cases hy⟩
    | cons v l ih =>
      intro hh
      obtain ⟨n, rfl, hn⟩ := hh v (.head _)
      obtain ⟨r, rfl, hr⟩ := ih fun u hu => hh u (.tail _ hu)
      exact ⟨n :: r, rfl, fun y hy => by rcases List.mem_cons.1 hy with rfl | hy; exact hn; exact hr y hy⟩
  obtain ⟨r, rfl, hr⟩ := conv cs each
  exact ⟨r, rfl, by simpa using hl, hr⟩
theorem row_in {H : Type} {enc : TypeId × Value → H} {W : World} {base : Nat} {v : Value} {d : DataW H} {p : List MemPlace}
    (hok : Value.okWide Tryd.prog W .any base 32 v) (h : DataW.Trod enc Tryd.prog W 0 (fun _ => true) true 32 v d p) : ∃ r : List Nat, v = rV r ∧ r.length = 25 ∧ ∀ y ∈ r, y < 256 := by
  obtain ⟨cs, rfl, hsz⟩ : ∃ cs, v = .agg cs ∧ cs.size = Tryd.prog.cellsOf 32 := by
    simp only [Value.okWide, Tryd.underlying32] at hok
    obtain ⟨cs, h1, h2, _⟩ := hok
    exact ⟨cs, h1, h2⟩
  obtain ⟨fuel, hf⟩ := h
  obtain ⟨r, e, hl, hb⟩ := row_cells hf
  refine ⟨r, ?_, hl, hb⟩
  have e2 : cs.toList = r.map bv := by simpa [Value.cells] using e
  rw [rV, rC, ← e2]
/-- The cells of a step that came in. -/
theorem step_cells {H : Type} {enc : TypeId × Value → H} {W : World} {fuel : Nat} {cs : List Value} {x : DataW H × List MemPlace}
    (h : DataW.trod enc Tryd.prog W 0 (fun _ => true) true fuel 37 cs = some x) : ∃ q : St, cs = stL q ∧ StOk q := by
  obtain ⟨y0, y1, n, _, hl, g0, g1⟩ := trod_struct2 Tryd.underlying37 h
  rw [stepCells] at hl
  simp only [rowCells, i32Cells] at g0 g1
  obtain ⟨r, e0, hrl, hrb⟩ := row_cells g0
  obtain ⟨z, e1, _, _⟩ := DataW.trod_int Tryd.underlying21 g1
  refine ⟨(r, z), ?_, hrl, hrb⟩
  have e2 : cs = cs.take 25 ++ (cs.drop 25).take 1 := by
    rw [List.take_of_length_le (l := cs.drop 25) (by rw [List.length_drop]; omega), List.take_append_drop]
  rw [List.drop_zero] at e0
  rw [e2, e0, e1]
  rfl
theorem plain_addr {W : World} {a : Addr} {v : Value} (h : W.cell? (a.add 0) = some v) : ∃ b off, a = ⟨b, off, none⟩ := by
  obtain ⟨b, off, sp⟩ := a
  cases sp with
  | none => exact ⟨b, off, rfl⟩
  | some s => exfalso; revert h; unfold Addr.add World.cell?; split <;> simp
theorem addr_add (b off j : Nat) : (⟨b, off, none⟩ : Addr).add j = ⟨b, off + j, none⟩ := by unfold Addr.add; split <;> simp_all
theorem choose_list {α : Type} {len : Nat} {P : Nat → α → Prop} (each : ∀ i, i < len → ∃ o, P i o) : ∃ L : List α, L.length = len ∧ ∀ i o, L[i]? = some o → P i o := by
  refine ⟨(List.range len).attach.map fun i => Classical.choose (each i.1 (List.mem_range.1 i.2)), by simp, fun i o hi => ?_⟩
  obtain ⟨h, rfl⟩ := List.getElem?_eq_some_iff.1 hi
  simp only [List.getElem_map, List.getElem_attach, List.getElem_range]
  have hlt : i < len := by simpa using h
  exact Classical.choose_spec (each i hlt)
theorem steps_in {H : Type} {enc : TypeId × Value → H} {W : World} {base : Nat} {v : Value} {d : DataW H} {p : List MemPlace}
    (hok : Value.okWide Tryd.prog W .any base 35 v) (h : DataW.Trod enc Tryd.prog W 0 (fun _ => true) true 35 v d p) : ∃ L : List St, StepsAt W.heap.size W v L ∧ L.length ≤ big d := by
  obtain ⟨a0, len, cap, rfl⟩ := okWide_slice Tryd.underlying35 hok
  obtain ⟨fuel, hf⟩ := h
  rcases open_slice Tryd.underlying35 hf with ⟨hcs, hx⟩ | ⟨a, len', cap', m, n, D, Pl, hcs, _, hl, hm, hmm, hx, hel⟩
  · simp [Value.cells] at hcs
    obtain ⟨rfl, rfl, rfl⟩ := hcs
    exact ⟨[], ⟨none, 0, rfl, (fun x hx => absurd hx List.not_mem_nil), fun h => by simp at h⟩, by simp⟩
  · simp [Value.cells] at hcs
    obtain ⟨rfl, rfl, rfl⟩ := hcs
    have hlm : len ≤ m := by rw [hmm]; split <;> omega
    have each : ∀ i, i < len → ∃ q : St, StOk q ∧ ∀ j u, (stL q)[j]? = some u → W.cell? (a.add (i * 26 + j)) = some u := by
      intro i hi
      obtain ⟨cs', h1, h2⟩ := hel i (by omega)
      rw [stepCells] at h1
      obtain ⟨_, hlen, hcell⟩ := World.cells?_some h1
      obtain ⟨q, rfl, hq⟩ := step_cells h2
      refine ⟨q, hq, fun j u hj => ?_⟩
      have hjl := (List.getElem?_eq_some_iff.1 hj).1
      have c := hcell j (by omega)
      rw [add_add] at c
      rw [c, ← hj]
    obtain ⟨L, hL, hP⟩ := choose_list each
    refine ⟨L, ⟨some a, cap, by rw [hL], fun q hq => ?_, fun h0 => ?_⟩, ?_⟩
    · obtain ⟨i, hi⟩ := List.mem_iff_getElem?.1 hq
      exact (hP i q hi).1
    · obtain ⟨q, hq⟩ : ∃ q, L[0]? = some q := ⟨_, List.getElem?_eq_getElem h0⟩
      obtain ⟨hok0, hc0⟩ := hP 0 q hq
      have hlen0 := stL_len hok0
      have c0 := hc0 0 _ (List.getElem?_eq_getElem (by omega))
      rw [Nat.zero_mul, Nat.zero_add] at c0
      obtain ⟨b, off, rfl⟩ := plain_addr c0
      rw [addr_add] at c0
      refine ⟨b, off, rfl, lt_of_cell c0, fun i x hi j u hj => ?_⟩
      have := (hP i x hi).2 j u hj
      rw [addr_add] at this
      rw [Nat.add_assoc]
      exact this
    · simp only [Prod.mk.injEq] at hx
      obtain ⟨rfl, _⟩ := hx
      simp [big, hL]
theorem runes_in {H : Type} {enc : TypeId × Value → H} {W : World} {base : Nat} {v : Value} {d : DataW H} {p : List MemPlace}
    (hok : Value.okWide Tryd.prog W .any base 28 v) (h : DataW.Trod enc Tryd.prog W 0 (fun _ => true) true 28 v d p) : ∃ xs : List Int, RunesC W.heap.size W v xs ∧ xs.length ≤ big d := by
  obtain ⟨a0, len, cap, rfl⟩ := okWide_slice Tryd.underlying28 hok
  obtain ⟨fuel, hf⟩ := h
  rcases open_ints Tryd.underlying28 Tryd.underlying21 i32Cells hf with ⟨hcs, hx⟩ | ⟨a, len', cap', zs, hcs, _, hl, hm, hz, hx, hcell, hwz⟩
  · simp [Value.cells] at hcs
    obtain ⟨rfl, rfl, rfl⟩ := hcs
    exact ⟨[], ⟨⟨none, 0, rfl, fun h => by simp at h⟩, fun ad n c e => by cases e; exact Nat.le_refl _⟩, by simp⟩
  · simp [Value.cells] at hcs
    obtain ⟨rfl, rfl, rfl⟩ := hcs
    simp only [Prod.mk.injEq] at hx
    obtain ⟨rfl, _⟩ := hx
    simp only [if_true] at hz
    have hlen : (zs.take len).length = len := by rw [List.length_take]; omega
    refine ⟨zs.take len, ⟨⟨some a, cap, by rw [hlen], fun h0 => ?_⟩, fun ad n c e => by cases e; omega⟩, ?_⟩
    · rw [hlen] at h0
      obtain ⟨b, off, rfl, hc⟩ := ints_at hcell (by omega)
      refine ⟨b, off, rfl, lt_of_cell (hc 0 (by omega)), fun j x hj => ?_⟩
      rw [List.getElem?_take] at hj
      split at hj
      · have hjl := (List.getElem?_eq_some_iff.1 hj).1
        rw [hc j (by omega)]
        simp [List.getD_eq_getElem?_getD, hj]
      · cases hj
    · rw [hlen]
      simp only [big, lits, List.length_map, List.length_take]
      omega
end Go.Proofs.YtfhmamalanloaaaDoor
