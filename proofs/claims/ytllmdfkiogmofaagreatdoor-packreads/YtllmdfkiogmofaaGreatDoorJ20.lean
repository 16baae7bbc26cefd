/- Texts that were written apart, joined. -/
import Derived.Test.YtllmdfkiogmofaaGreatDoorCards
import Derived.Test.YtllmdfkiogmofaaGreatDoorTie
import Derived.Test.YtllmdfkiogmofaaGreatDoorJ1
import Derived.WalkKit
import Derived.ProofKit
import Derived.OpenShut
import Derived.Deep.DeepHandedRow
import Derived.Lib.LaidTab
import Derived.Test.YtllmdfkiogmofaaGreatDoorFFault
import Derived.Deep.Strs
import Derived.Lib.SmallJoins
/- What every law of this seat shares: the tables out of the row's list, and a world for the witness. -/
namespace Go.Proofs.YtllmdfkiogmofaaGreatDoor
open Go.ChangeShapes Go.WideShapes Go.ChangeAt Go.RowKit

theorem own : ownKnob Tryz.prog.godebug = none := by kernel_rfl
theorem gLeast : Tryz.prog.globalNamed "abecedary/letters.least" = some 1 := by kernel_rfl
theorem gLead : Tryz.prog.globalNamed "abecedary/letters.lead" = some 0 := by kernel_rfl
theorem gLeastType : (Tryz.prog.globals[1]?).map (·.type) = some 172 := by kernel_rfl
theorem gLeadType : (Tryz.prog.globals[0]?).map (·.type) = some 171 := by kernel_rfl
theorem cellsLeast : Tryz.prog.cellsOf 172 = 5 := by kernel_rfl
theorem cellsLead : Tryz.prog.cellsOf 171 = 5 := by kernel_rfl
theorem cellsRuneF : Tryz.prog.cellsOf 21 = 1 := by kernel_rfl
theorem cellsByte : Tryz.prog.cellsOf 5 = 1 := by kernel_rfl

/-- What the rows' list is. -/
abbrev laidBoth : List (String × DataW Unit) := [("abecedary/letters.least", Rows.laid_abecedary_letters_least), ("abecedary/letters.lead", Rows.laid_abecedary_letters_lead)]

theorem tabs_of_laid {W : World} (h : laidMetH Tryz.prog laidBoth W) : Tabs W := by
  have t : Lib.TabIs Tryz.prog W "abecedary/letters.least" .i32 [0, 0, 128, 2048, 65536] :=
    Lib.tabIs_of_head (rest := [("abecedary/letters.lead", Rows.laid_abecedary_letters_lead)]) gLeast gLeastType Tryz.underlying172 Tryz.underlying21 cellsRuneF cellsLeast h
  have h2 : laidMetH Tryz.prog [("abecedary/letters.lead", Rows.laid_abecedary_letters_lead)] W := laidMetH.filter (fun x => x.1 == "abecedary/letters.lead") h
  have l : Lib.TabIs Tryz.prog W "abecedary/letters.lead" .u8 [0, 0, 192, 224, 240] :=
    Lib.tabIs_of_head (rest := []) gLead gLeadType Tryz.underlying171 Tryz.underlying5 cellsByte cellsLead h2
  exact ⟨l.cell gLead 2 (by decide), l.cell gLead 3 (by decide), l.cell gLead 4 (by decide), l.cell gLead 1 (by decide),
    t.cell gLeast 1 (by decide), t.cell gLeast 2 (by decide), t.cell gLeast 3 (by decide), t.cell gLeast 4 (by decide)⟩

def layLeast : Obj → Obj
  | .cells _ t frozen => .cells #[.int .i32 0, .int .i32 0, .int .i32 128, .int .i32 2048, .int .i32 65536] t frozen
  | o => o
def layLead : Obj → Obj
  | .cells _ t frozen => .cells #[.int .u8 0, .int .u8 0, .int .u8 192, .int .u8 224, .int .u8 240] t frozen
  | o => o
/-- A world for the witness: the settled one, the tables holding what their initialisers lay. -/
noncomputable def laidWorld (os : Os) : World :=
  { World.holding Tryz.prog os ⟨#[], #[], []⟩ with heap := ((World.holding Tryz.prog os ⟨#[], #[], []⟩).heap.modify 1 layLeast).modify 0 layLead }
end Go.Proofs.YtllmdfkiogmofaaGreatDoor

/- Lists of pairs, and pairs, that came in: what the walks ask of them, out of their reading. -/
namespace Go.Proofs.YtllmdfkiogmofaaGreatDoor
open Go.ChangeShapes Go.WideShapes Go.ChangeAt Go.RowKit Go.Deep
set_option maxRecDepth 100000

theorem laidOut : laidOutB Tryz.prog = true := by kernel_rfl
def big {H : Type} (d : DataW H) : Nat := match d with
  | .slice elems spare => elems.length + spare.length
  | _ => 0
end Go.Proofs.YtllmdfkiogmofaaGreatDoor
