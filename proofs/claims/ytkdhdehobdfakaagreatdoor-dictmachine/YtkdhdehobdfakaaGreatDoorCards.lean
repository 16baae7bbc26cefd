/-
  DERIVED. GIVEN WITH THE SEED: THE CARDS: each row of YtkdhdehobdfakaaGreatDoorRows.lean that lists a variable, with what it lists TIED to the program's text (the seventh form; the later family's looks); each row that meets fmt, with fmt's text TOLD by the authors' own Lean function (tested against real Go, not proved from fmt's source: count such statements apart). THE CARD IS WHAT COUNTS. Prove the row's statement (the work); the ties are given (YtkdhdehobdfakaaGreatDoorTie.lean); close each card by the builder's one call (the guide's Derived/Test/ToyasCard.lean, 'card_holds'). Laid BY PROGRAM, IN A SANDBOX (cutbox-door.mjs). By AI agents, Wed Nov 11 2026. No macro, syntax, notation, axiom, sorry.
-/
import Derived.Test.YtkdhdehobdfakaaGreatDoorRows
import GoSem.ClaimSeven
namespace Go.Proofs.YtkdhdehobdfakaaGreatDoor
namespace Rows

/-- THE TIED CARD OF 'abecedarylaw14.DictMachine'. -/
def dictMachineCard : Claim7 := { stood := { row := dictMachineRow, standIns := [], harness := (true, "44a36e4a26e84f0a4f1ea3da46861b702b6359dcf22fde92c3b58fcc1af41c8d"), looks := true }, kinds := [], alts := [], laidByText := true, laidKinds := [.data, .data], laidTests := true, laidLooks := .later }
def DictMachineCardSaid : Prop := Claim7.holds Tryz.pinned (.plain (OpenSpec.ofChange dictMachineSpec)) dictMachineCard

/-- THE SECOND FORM's CARD OF 'abecedarylaw14.DictMachine'. -/
def dictMachineUptoCard : Claim7 := { stood := { row := dictMachineUptoRow, standIns := [], harness := (true, "44a36e4a26e84f0a4f1ea3da46861b702b6359dcf22fde92c3b58fcc1af41c8d"), looks := true }, kinds := [], alts := [], laidByText := true, laidKinds := [.data, .data], laidTests := true, laidLooks := .later }
def DictMachineUptoCardSaid : Prop := Claim7.holds Tryz.pinned (.plain (OpenSpec.upto dictMachineSpec)) dictMachineUptoCard
end Rows
end Go.Proofs.YtkdhdehobdfakaaGreatDoor
