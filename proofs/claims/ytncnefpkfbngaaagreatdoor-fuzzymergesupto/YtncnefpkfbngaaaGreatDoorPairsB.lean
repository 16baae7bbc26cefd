/- Lists of pairs that came in, their words bounded by the bulk. -/
import Derived.Test.YtncnefpkfbngaaaGreatDoorJ20
import Derived.Test.YtncnefpkfbngaaaGreatDoorRows
namespace Go.Proofs.YtncnefpkfbngaaaGreatDoor
open Go.ChangeShapes Go.WideShapes Go.ChangeAt Go.RowKit Go.Deep
set_option maxRecDepth 100000
theorem bulk_mem {H : Type} {x : DataW H} : ∀ {l : List (DataW H)}, x ∈ l → Rows.uptoBulk x ≤ Rows.uptoBulkAll l
 | y :: r, h => by
  simp only [Rows.uptoBulkAll]
  rcases List.mem_cons.1 h with e | e
  · rw [e]; omega
  · have := bulk_mem e; omega
theorem pair_cellsB {H : Type} {enc : TypeId × Value → H} {W : World} {fuel : Nat} {cs : List Value} {x : DataW H × List MemPlace}
 (h : DataW.trod enc Tryz.prog W 0 (fun _ => true) true fuel 47 cs = some x) : ∃ p : Pr, cs = [.string p.1, .int .i64 p.2] ∧ p.1.size ≤ 9223372036854775807 ∧ p.1.size ≤ Rows.uptoBulk x.1 := by
 obtain ⟨y0, y1, n, hx, hl, g0, g1⟩ := trod_struct2 Tryz.underlying47 h
 rw [pairCells] at hl
 match cs, hl with
 | [v0, v1], _ =>
  simp [strCells, intCells] at g0 g1
  obtain ⟨s, e0, q0, w0⟩ := DataW.trod_string Tryz.underlying9 g0
  obtain ⟨z, e1, q1, w1⟩ := DataW.trod_int Tryz.underlying3 g1
  simp only [List.cons.injEq, and_true] at e0 e1
  subst e0 e1
  refine ⟨(s, z), rfl, ?_, ?_⟩
  · have hw := w0
    unfold maxLen at hw
    exact hw
  · rw [hx, q0]
    simp only [Rows.uptoBulk, Rows.uptoBulkAll, Nums.size_length]
    omega
theorem pairs_inB {H : Type} {enc : TypeId × Value → H} {W : World} {base : Nat} {v : Value} {d : DataW H} {p : List MemPlace}
 (hok : Value.okWide Tryz.prog W .any base 23 v) (h : DataW.Trod enc Tryz.prog W 0 (fun _ => true) true 23 v d p) : ∃ L : List Pr, PRow W v L ∧ Sm L ∧ L.length ≤ 9223372036854775807 ∧ L.length ≤ big d ∧ ∀ x ∈ L, x.1.size ≤ Rows.uptoBulk d := by
 obtain ⟨a0, len, cap, rfl⟩ := okWide_slice Tryz.underlying23 hok
 obtain ⟨fuel, hf⟩ := h
 rcases open_slice Tryz.underlying23 hf with ⟨hcs, hx⟩ | ⟨a, len', cap', m, n, D, Pl, hcs, _, hl, hm, hmm, hx, hel⟩
 · simp [Value.cells] at hcs
   obtain ⟨rfl, rfl, rfl⟩ := hcs
   exact ⟨[], PRow.nil W, (fun x hx => absurd hx List.not_mem_nil), by simp, by simp, fun x hx => absurd hx List.not_mem_nil⟩
 · simp [Value.cells] at hcs
   obtain ⟨rfl, rfl, rfl⟩ := hcs
   have hlm : len ≤ m := by rw [hmm]; split <;> omega
   have each : ∀ i, i < m → ∃ o : Pr, (o.1.size ≤ 9223372036854775807 ∧ o.1.size ≤ Rows.uptoBulk (D i)) ∧ W.cell? (a.add (i * 2)) = some (.string o.1) ∧ W.cell? (a.add (i * 2 + 1)) = some (.int .i64 o.2) := by
    intro i hi
    obtain ⟨cs', h1, h2⟩ := hel i hi
    rw [pairCells] at h1
    obtain ⟨_, hlen, hcell⟩ := World.cells?_some h1
    obtain ⟨q, rfl, hq⟩ := pair_cellsB h2
    have c0 := hcell 0 (by simp)
    have c1 := hcell 1 (by simp)
    rw [add_add] at c0 c1
    exact ⟨q, hq, by simpa using c0, by simpa using c1⟩
   have hch : ∃ f : Nat → Pr, ∀ i, i < m → ((f i).1.size ≤ 9223372036854775807 ∧ (f i).1.size ≤ Rows.uptoBulk (D i)) ∧ W.cell? (a.add (i * 2)) = some (.string (f i).1) ∧ W.cell? (a.add (i * 2 + 1)) = some (.int .i64 (f i).2) :=
    ⟨fun i => if hi : i < m then Classical.choose (each i hi) else (ByteArray.empty, 0), fun i hi => by
     simp only [dif_pos hi]
     exact Classical.choose_spec (each i hi)⟩
   obtain ⟨f, hfe⟩ := hch
   have hget : ∀ i o, ((List.range len).map f)[i]? = some o → i < len ∧ o = f i := fun i o hi => by
    rw [List.getElem?_map] at hi
    have hil : i < len := by
     cases hr : (List.range len)[i]? with
     | none => rw [hr] at hi; cases hi
     | some j => have := (List.getElem?_eq_some_iff.1 hr).1; simpa using this
    rw [List.getElem?_range hil] at hi
    simp only [Option.map_some, Option.some.injEq] at hi
    exact ⟨hil, hi.symm⟩
   refine ⟨(List.range len).map f, ⟨some a, cap, by simp, fun h0 => ?_⟩, ?_, by unfold maxLen at hm; simp; omega, ?_, ?_⟩
   · have h0' : 0 < len := by simpa using h0
     obtain ⟨b, off, rfl⟩ : ∃ b off, a = ⟨b, off, none⟩ := by
      obtain ⟨_, c0, _⟩ := hfe 0 (by omega)
      obtain ⟨b, off, sp⟩ := a
      cases sp with
      | none => exact ⟨b, off, rfl⟩
      | some s => exfalso; revert c0; unfold Addr.add World.cell?; split <;> simp
     have hadd : ∀ j, (⟨b, off, none⟩ : Addr).add j = ⟨b, off + j, none⟩ := fun j => by unfold Addr.add; split <;> simp_all
     refine ⟨b, off, rfl, ?_, fun i o hi => ?_⟩
     · obtain ⟨_, c0, _⟩ := hfe 0 (by omega)
       rw [hadd] at c0
       exact lt_of_cell c0
     · obtain ⟨hil, rfl⟩ := hget i o hi
       obtain ⟨q1, c0, c1⟩ := hfe i (by omega)
       rw [hadd] at c0 c1
       exact ⟨c0, by simpa [Nat.add_assoc] using c1⟩
   · intro x hx
     obtain ⟨i, hi⟩ := List.mem_iff_getElem?.1 hx
     obtain ⟨hil, rfl⟩ := hget i x hi
     exact (hfe i (by omega)).1.1
   · simp only [Prod.mk.injEq] at hx
     obtain ⟨rfl, _⟩ := hx
     simp [big]
   · intro x hx'
     obtain ⟨i, hi⟩ := List.mem_iff_getElem?.1 hx'
     obtain ⟨hil, rfl⟩ := hget i x hi
     simp only [Prod.mk.injEq] at hx
     obtain ⟨rfl, _⟩ := hx
     refine Nat.le_trans (hfe i (by omega)).1.2 ?_
     have h1 : Rows.uptoBulk (D i) ≤ Rows.uptoBulkAll ((List.range len).map D) := bulk_mem (List.mem_map.2 ⟨i, by simpa using hil, rfl⟩)
     simp only [Rows.uptoBulk]
     omega
end Go.Proofs.YtncnefpkfbngaaaGreatDoor
