/- Texts that were written apart, joined. -/
import Derived.Test.YthfngcpcccbnpaaDoorCards
import Derived.Test.YthfngcpcccbnpaaDoorTie
import Derived.Test.YthfngcpcccbnpaaDoorJ1
import Derived.WalkKit
import Derived.ProofKit
import Derived.OpenShut
import Derived.Deep.DeepHandedRow
import Derived.Lib.LaidTab
/- What every law of this seat shares: the tables out of the row's list, and a world for the witness. -/
namespace Go.Proofs.YthfngcpcccbnpaaDoor
open Go.ChangeShapes Go.WideShapes Go.ChangeAt Go.RowKit

theorem own : ownKnob Tryd.prog.godebug = none := by kernel_rfl
theorem gLeast : Tryd.prog.globalNamed "abecedary/letters.least" = some 1 := by kernel_rfl
theorem gLead : Tryd.prog.globalNamed "abecedary/letters.lead" = some 0 := by kernel_rfl
theorem gLeastType : (Tryd.prog.globals[1]?).map (·.type) = some 127 := by kernel_rfl
theorem gLeadType : (Tryd.prog.globals[0]?).map (·.type) = some 126 := by kernel_rfl
theorem cellsLeast : Tryd.prog.cellsOf 127 = 5 := by kernel_rfl
theorem cellsLead : Tryd.prog.cellsOf 126 = 5 := by kernel_rfl
theorem cellsRuneF : Tryd.prog.cellsOf 21 = 1 := by kernel_rfl
theorem cellsByte : Tryd.prog.cellsOf 5 = 1 := by kernel_rfl

/-- What the rows' list is. -/
abbrev laidBoth : List (String × DataW Unit) := [("abecedary/letters.least", Rows.laid_abecedary_letters_least), ("abecedary/letters.lead", Rows.laid_abecedary_letters_lead)]

theorem tabs_of_laid {W : World} (h : laidMetH Tryd.prog laidBoth W) : Tabs W := by
  have t : Lib.TabIs Tryd.prog W "abecedary/letters.least" .i32 [0, 0, 128, 2048, 65536] :=
    Lib.tabIs_of_head (rest := [("abecedary/letters.lead", Rows.laid_abecedary_letters_lead)]) gLeast gLeastType Tryd.underlying127 Tryd.underlying21 cellsRuneF cellsLeast h
  have h2 : laidMetH Tryd.prog [("abecedary/letters.lead", Rows.laid_abecedary_letters_lead)] W := laidMetH.filter (fun x => x.1 == "abecedary/letters.lead") h
  have l : Lib.TabIs Tryd.prog W "abecedary/letters.lead" .u8 [0, 0, 192, 224, 240] :=
    Lib.tabIs_of_head (rest := []) gLead gLeadType Tryd.underlying126 Tryd.underlying5 cellsByte cellsLead h2
  exact ⟨l.cell gLead 2 (by decide), l.cell gLead 3 (by decide), l.cell gLead 4 (by decide), l.cell gLead 1 (by decide),
    t.cell gLeast 1 (by decide), t.cell gLeast 2 (by decide), t.cell gLeast 3 (by decide), t.cell gLeast 4 (by decide)⟩

def layLeast : Obj → Obj
  | .cells _ t frozen => .cells #[.int .i32 0, .int .i32 0, .int .i32 128, .int .i32 2048, .int .i32 65536] t frozen
  | o => o
def layLead : Obj → Obj
  | .cells _ t frozen => .cells #[.int .u8 0, .int .u8 0, .int .u8 192, .int .u8 224, .int .u8 240] t frozen
  | o => o
/-- A world for the witness: the settled one, the tables holding what their initialisers lay. -/
noncomputable def laidWorld (os : Os) : World :=
  { World.holding Tryd.prog os ⟨#[], #[], []⟩ with heap := ((World.holding Tryd.prog os ⟨#[], #[], []⟩).heap.modify 1 layLeast).modify 0 layLead }
end Go.Proofs.YthfngcpcccbnpaaDoor
