/- Texts that were written apart, joined. -/
import Derived.Test.YtncnefpkfbngaaaGreatDoorCards
import Derived.Test.YtncnefpkfbngaaaGreatDoorTie
import Derived.Test.YtncnefpkfbngaaaGreatDoorJ1
import Derived.WalkKit
import Derived.ProofKit
import Derived.OpenShut
import Derived.Deep.DeepHandedRow
import Derived.Lib.LaidTab
import Derived.Test.YtncnefpkfbngaaaGreatDoorJ6
import Derived.Deep.Strs
import Derived.Lib.SmallJoins
/- What every law of this seat shares: the tables out of the row's list, and a world for the witness. -/
namespace Go.Proofs.YtncnefpkfbngaaaGreatDoor
open Go.ChangeShapes Go.WideShapes Go.ChangeAt Go.RowKit

theorem own : ownKnob Tryz.prog.godebug = none := by kernel_rfl
theorem gLeast : Tryz.prog.globalNamed "abecedary/letters.least" = some 1 := by kernel_rfl
theorem gLead : Tryz.prog.globalNamed "abecedary/letters.lead" = some 0 := by kernel_rfl
theorem gLeastType : (Tryz.prog.globals[1]?).map (·.type) = some 145 := by kernel_rfl
theorem gLeadType : (Tryz.prog.globals[0]?).map (·.type) = some 144 := by kernel_rfl
theorem cellsLeast : Tryz.prog.cellsOf 145 = 5 := by kernel_rfl
theorem cellsLead : Tryz.prog.cellsOf 144 = 5 := by kernel_rfl
theorem cellsRuneF : Tryz.prog.cellsOf 21 = 1 := by kernel_rfl
theorem cellsByte : Tryz.prog.cellsOf 5 = 1 := by kernel_rfl

/-- What the rows' list is. -/
abbrev laidBoth : List (String × DataW Unit) := [("abecedary/letters.least", Rows.laid_abecedary_letters_least), ("abecedary/letters.lead", Rows.laid_abecedary_letters_lead)]

theorem tabs_of_laid {W : World} (h : laidMetH Tryz.prog laidBoth W) : Tabs W := by
 have t : Lib.TabIs Tryz.prog W "abecedary/letters.least" .i32 [0, 0, 128, 2048, 65536] :=
  Lib.tabIs_of_head (rest := [("abecedary/letters.lead", Rows.laid_abecedary_letters_lead)]) gLeast gLeastType Tryz.underlying145 Tryz.underlying21 cellsRuneF cellsLeast h
 have h2 : laidMetH Tryz.prog [("abecedary/letters.lead", Rows.laid_abecedary_letters_lead)] W := laidMetH.filter (fun x => x.1 == "abecedary/letters.lead") h
 have l : Lib.TabIs Tryz.prog W "abecedary/letters.lead" .u8 [0, 0, 192, 224, 240] :=
  Lib.tabIs_of_head (rest := []) gLead gLeadType Tryz.underlying144 Tryz.underlying5 cellsByte cellsLead h2
 exact ⟨l.cell gLead 2 (by decide), l.cell gLead 3 (by decide), l.cell gLead 4 (by decide), l.cell gLead 1 (by decide),
  t.cell gLeast 1 (by decide), t.cell gLeast 2 (by decide), t.cell gLeast 3 (by decide), t.cell gLeast 4 (by decide)⟩

def layLeast : Obj → Obj
 | .cells _ t frozen => .cells #[.int .i32 0, .int .i32 0, .int .i32 128, .int .i32 2048, .int .i32 65536] t frozen
 | o => o
def layLead : Obj → Obj
 | .cells _ t frozen => .cells #[.int .u8 0, .int .u8 0, .int .u8 192, .int .u8 224, .int .u8 240] t frozen
 | o => o
/-- A world for the witness: the settled one, the tables holding what their initialisers lay. -/
noncomputable def laidWorld (os : Os) : World :=
 { World.holding Tryz.prog os ⟨#[], #[], []⟩ with heap := ((World.holding Tryz.prog os ⟨#[], #[], []⟩).heap.modify 1 layLeast).modify 0 layLead }
end Go.Proofs.YtncnefpkfbngaaaGreatDoor

/- Lists of pairs, and pairs, that came in: what the walks ask of them, out of their reading. -/
namespace Go.Proofs.YtncnefpkfbngaaaGreatDoor
open Go.ChangeShapes Go.WideShapes Go.ChangeAt Go.RowKit Go.Deep
set_option maxRecDepth 100000

theorem laidOut : laidOutB Tryz.prog = true := by kernel_rfl
theorem pairCells : Tryz.prog.cellsOf 47 = 2 := by kernel_rfl
theorem strCells : Tryz.prog.cellsOf 9 = 1 := by kernel_rfl
theorem intCells : Tryz.prog.cellsOf 3 = 1 := by kernel_rfl
def big {H : Type} (d : DataW H) : Nat := match d with
 | .slice elems spare => elems.length + spare.length
 | _ => 0
/-- The two cells of a pair that came in. -/
theorem pair_cells {H : Type} {enc : TypeId × Value → H} {W : World} {fuel : Nat} {cs : List Value} {x : DataW H × List MemPlace}
 (h : DataW.trod enc Tryz.prog W 0 (fun _ => true) true fuel 47 cs = some x) : ∃ p : Pr, cs = [.string p.1, .int .i64 p.2] ∧ p.1.size ≤ 9223372036854775807 := by
 obtain ⟨y0, y1, n, _, hl, g0, g1⟩ := trod_struct2 Tryz.underlying47 h
 rw [pairCells] at hl
 match cs, hl with
 | [v0, v1], _ =>
  simp [strCells, intCells] at g0 g1
  obtain ⟨s, e0, _, w0⟩ := DataW.trod_string Tryz.underlying9 g0
  obtain ⟨z, e1, _, w1⟩ := DataW.trod_int Tryz.underlying3 g1
  simp only [List.cons.injEq, and_true] at e0 e1
  subst e0 e1
  refine ⟨(s, z), rfl, ?_⟩
  have hw := w0
  unfold maxLen at hw
  exact hw
theorem pairs_in {H : Type} {enc : TypeId × Value → H} {W : World} {base : Nat} {v : Value} {d : DataW H} {p : List MemPlace}
 (hok : Value.okWide Tryz.prog W .any base 23 v) (h : DataW.Trod enc Tryz.prog W 0 (fun _ => true) true 23 v d p) : ∃ L : List Pr, PRow W v L ∧ Sm L ∧ L.length ≤ 9223372036854775807 ∧ L.length ≤ big d := by
 obtain ⟨a0, len, cap, rfl⟩ := okWide_slice Tryz.underlying23 hok
 obtain ⟨fuel, hf⟩ := h
 rcases open_slice Tryz.underlying23 hf with ⟨hcs, hx⟩ | ⟨a, len', cap', m, n, D, Pl, hcs, _, hl, hm, hmm, hx, hel⟩
 · simp [Value.cells] at hcs
   obtain ⟨rfl, rfl, rfl⟩ := hcs
   exact ⟨[], PRow.nil W, (fun x hx => absurd hx List.not_mem_nil), by simp, by simp⟩
 · simp [Value.cells] at hcs
   obtain ⟨rfl, rfl, rfl⟩ := hcs
   have hlm : len ≤ m := by rw [hmm]; split <;> omega
   have each : ∀ i, i < m → ∃ o : Pr, o.1.size ≤ 9223372036854775807 ∧ W.cell? (a.add (i * 2)) = some (.string o.1) ∧ W.cell? (a.add (i * 2 + 1)) = some (.int .i64 o.2) := by
    intro i hi
    obtain ⟨cs', h1, h2⟩ := hel i hi
    rw [pairCells] at h1
    obtain ⟨_, hlen, hcell⟩ := World.cells?_some h1
    obtain ⟨q, rfl, hq⟩ := pair_cells h2
    have c0 := hcell 0 (by simp)
    have c1 := hcell 1 (by simp)
    rw [add_add] at c0 c1
    exact ⟨q, hq, by simpa using c0, by simpa using c1⟩
   have hch : ∃ f : Nat → Pr, ∀ i, i < m → (f i).1.size ≤ 9223372036854775807 ∧ W.cell? (a.add (i * 2)) = some (.string (f i).1) ∧ W.cell? (a.add (i * 2 + 1)) = some (.int .i64 (f i).2) :=
    ⟨fun i => if hi : i < m then Classical.choose (each i hi) else (ByteArray.empty, 0), fun i hi => by
     simp only [dif_pos hi]
     exact Classical.choose_spec (each i hi)⟩
   obtain ⟨f, hfe⟩ := hch
   have hget : ∀ i o, ((List.range len).map f)[i]? = some o → i < len ∧ o = f i := fun i o hi => by
    rw [List.getElem?_map] at hi
    have hil : i < len := by
     cases hr : (List.range len)[i]? with
     | none => rw [hr] at hi; cases hi
     | some j => have := (List.getElem?_eq_some_iff.1 hr).1; simpa using this
    rw [List.getElem?_range hil] at hi
    simp only [Option.map_some, Option.some.injEq] at hi
    exact ⟨hil, hi.symm⟩
   refine ⟨(List.range len).map f, ⟨some a, cap, by simp, fun h0 => ?_⟩, ?_, by unfold maxLen at hm; simp; omega, ?_⟩
   · have h0' : 0 < len := by simpa using h0
     obtain ⟨b, off, rfl⟩ : ∃ b off, a = ⟨b, off, none⟩ := by
      obtain ⟨_, c0, _⟩ := hfe 0 (by omega)
      obtain ⟨b, off, sp⟩ := a
      cases sp with
      | none => exact ⟨b, off, rfl⟩
      | some s => exfalso; revert c0; unfold Addr.add World.cell?; split <;> simp
     have hadd : ∀ j, (⟨b, off, none⟩ : Addr).add j = ⟨b, off + j, none⟩ := fun j => by unfold Addr.add; split <;> simp_all
     refine ⟨b, off, rfl, ?_, fun i o hi => ?_⟩
     · obtain ⟨_, c0, _⟩ := hfe 0 (by omega)
       rw [hadd] at c0
       exact lt_of_cell c0
     · obtain ⟨hil, rfl⟩ := hget i o hi
       obtain ⟨q1, c0, c1⟩ := hfe i (by omega)
       rw [hadd] at c0 c1
       exact ⟨c0, by simpa [Nat.add_assoc] using c1⟩
   · intro x hx
     obtain ⟨i, hi⟩ := List.mem_iff_getElem?.1 hx
     obtain ⟨hil, rfl⟩ := hget i x hi
     exact (hfe i (by omega)).1
   · simp only [Prod.mk.injEq] at hx
     obtain ⟨rfl, _⟩ := hx
     simp [big]
end Go.Proofs.YtncnefpkfbngaaaGreatDoor
