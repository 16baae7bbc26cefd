/-
  DERIVED. GIVEN WITH THE SEED: THE CARDS: each row of YtobjpljdgieklaaGreatDoorRows.lean that lists a variable, with what it lists TIED to the program's text (the seventh form; the later family's looks); each row that meets fmt, with fmt's text TOLD by the authors' own Lean function (tested against real Go, not proved from fmt's source: count such statements apart). THE CARD IS WHAT COUNTS. Prove the row's statement (the work); the ties are given (YtobjpljdgieklaaGreatDoorTie.lean); close each card by the builder's one call (the guide's Derived/Test/ToyasCard.lean, 'card_holds'). Laid BY PROGRAM, IN A SANDBOX (cutbox-door.mjs). By AI agents, Wed Nov 11 2026. No macro, syntax, notation, axiom, sorry.
-/
import Derived.Test.YtobjpljdgieklaaGreatDoorRows
import GoSem.ClaimSeven
namespace Go.Proofs.YtobjpljdgieklaaGreatDoor
namespace Rows

/-- THE TIED CARD OF 'abecedarylaw14.DictAll'. -/
def dictAllCard : Claim7 := { stood := { row := dictAllRow, standIns := [], harness := (true, "bb503b779ff9607d8e42d7068956060dc8259daf9b32d442c77fa627901c57cf"), looks := true }, kinds := [], alts := [], laidByText := true, laidKinds := [.data, .data], laidTests := true, laidLooks := .later }
def DictAllCardSaid : Prop := Claim7.holds Tryz.pinned (.plain (OpenSpec.ofChange dictAllSpec)) dictAllCard

/-- THE TIED CARD OF 'abecedarylaw14.DictLoads'. -/
def dictLoadsCard : Claim7 := { stood := { row := dictLoadsRow, standIns := [], harness := (true, "bb503b779ff9607d8e42d7068956060dc8259daf9b32d442c77fa627901c57cf"), looks := true }, kinds := [], alts := [], laidByText := true, laidKinds := [.data, .data], laidTests := true, laidLooks := .later }
def DictLoadsCardSaid : Prop := Claim7.holds Tryz.pinned (.plain (OpenSpec.ofChange dictLoadsSpec)) dictLoadsCard

/-- THE TIED CARD OF 'abecedarylaw14.DictWeighs'. -/
def dictWeighsCard : Claim7 := { stood := { row := dictWeighsRow, standIns := [], harness := (true, "bb503b779ff9607d8e42d7068956060dc8259daf9b32d442c77fa627901c57cf"), looks := true }, kinds := [], alts := [], laidByText := true, laidKinds := [.data, .data], laidTests := true, laidLooks := .later }
def DictWeighsCardSaid : Prop := Claim7.holds Tryz.pinned (.plain (OpenSpec.ofChange dictWeighsSpec)) dictWeighsCard

/-- THE TIED CARD OF 'abecedarylaw14.DictSuggests'. -/
def dictSuggestsCard : Claim7 := { stood := { row := dictSuggestsRow, standIns := [], harness := (true, "bb503b779ff9607d8e42d7068956060dc8259daf9b32d442c77fa627901c57cf"), looks := true }, kinds := [], alts := [], laidByText := true, laidKinds := [.data, .data], laidTests := true, laidLooks := .later }
def DictSuggestsCardSaid : Prop := Claim7.holds Tryz.pinned (.plain (OpenSpec.ofChange dictSuggestsSpec)) dictSuggestsCard

/-- THE TIED CARD OF 'abecedarylaw14.DictCompacts'. -/
def dictCompactsCard : Claim7 := { stood := { row := dictCompactsRow, standIns := [], harness := (true, "bb503b779ff9607d8e42d7068956060dc8259daf9b32d442c77fa627901c57cf"), looks := true }, kinds := [], alts := [], laidByText := true, laidKinds := [.data, .data], laidTests := true, laidLooks := .later }
def DictCompactsCardSaid : Prop := Claim7.holds Tryz.pinned (.plain (OpenSpec.ofChange dictCompactsSpec)) dictCompactsCard

/-- THE TIED CARD OF 'abecedarylaw14.DictMachine'. -/
def dictMachineCard : Claim7 := { stood := { row := dictMachineRow, standIns := [], harness := (true, "bb503b779ff9607d8e42d7068956060dc8259daf9b32d442c77fa627901c57cf"), looks := true }, kinds := [], alts := [], laidByText := true, laidKinds := [.data, .data], laidTests := true, laidLooks := .later }
def DictMachineCardSaid : Prop := Claim7.holds Tryz.pinned (.plain (OpenSpec.ofChange dictMachineSpec)) dictMachineCard

/-- THE TIED CARD OF 'abecedarylaw14.DictChanges'. -/
def dictChangesCard : Claim7 := { stood := { row := dictChangesRow, standIns := [], harness := (true, "bb503b779ff9607d8e42d7068956060dc8259daf9b32d442c77fa627901c57cf"), looks := true }, kinds := [], alts := [], laidByText := true, laidKinds := [.data, .data], laidTests := true, laidLooks := .later }
def DictChangesCardSaid : Prop := Claim7.holds Tryz.pinned (.plain (OpenSpec.ofChange dictChangesSpec)) dictChangesCard

/-- THE TIED CARD OF 'abecedarylaw14.DictApart'. -/
def dictApartCard : Claim7 := { stood := { row := dictApartRow, standIns := [], harness := (true, "bb503b779ff9607d8e42d7068956060dc8259daf9b32d442c77fa627901c57cf"), looks := true }, kinds := [], alts := [], laidByText := true, laidKinds := [.data, .data], laidTests := true, laidLooks := .later }
def DictApartCardSaid : Prop := Claim7.holds Tryz.pinned (.plain (OpenSpec.ofChange dictApartSpec)) dictApartCard

/-- THE TIED CARD OF 'abecedarylaw14.DictOthers'. -/
def dictOthersCard : Claim7 := { stood := { row := dictOthersRow, standIns := [], harness := (true, "bb503b779ff9607d8e42d7068956060dc8259daf9b32d442c77fa627901c57cf"), looks := true }, kinds := [], alts := [], laidByText := true, laidKinds := [.data, .data], laidTests := true, laidLooks := .later }
def DictOthersCardSaid : Prop := Claim7.holds Tryz.pinned (.plain (OpenSpec.ofChange dictOthersSpec)) dictOthersCard

/-- THE TIED CARD OF 'abecedarylaw14.DictFull'. -/
def dictFullCard : Claim7 := { stood := { row := dictFullRow, standIns := [], harness := (true, "bb503b779ff9607d8e42d7068956060dc8259daf9b32d442c77fa627901c57cf"), looks := true }, kinds := [], alts := [], laidByText := true, laidKinds := [.data, .data], laidTests := true, laidLooks := .later }
def DictFullCardSaid : Prop := Claim7.holds Tryz.pinned (.plain (OpenSpec.ofChange dictFullSpec)) dictFullCard

/-- THE SECOND FORM's CARD OF 'abecedarylaw14.DictAll'. -/
def dictAllUptoCard : Claim7 := { stood := { row := dictAllUptoRow, standIns := [], harness := (true, "bb503b779ff9607d8e42d7068956060dc8259daf9b32d442c77fa627901c57cf"), looks := true }, kinds := [], alts := [], laidByText := true, laidKinds := [.data, .data], laidTests := true, laidLooks := .later }
def DictAllUptoCardSaid : Prop := Claim7.holds Tryz.pinned (.plain (OpenSpec.upto dictAllSpec)) dictAllUptoCard

/-- THE SECOND FORM's CARD OF 'abecedarylaw14.DictLoads'. -/
def dictLoadsUptoCard : Claim7 := { stood := { row := dictLoadsUptoRow, standIns := [], harness := (true, "bb503b779ff9607d8e42d7068956060dc8259daf9b32d442c77fa627901c57cf"), looks := true }, kinds := [], alts := [], laidByText := true, laidKinds := [.data, .data], laidTests := true, laidLooks := .later }
def DictLoadsUptoCardSaid : Prop := Claim7.holds Tryz.pinned (.plain (OpenSpec.upto dictLoadsSpec)) dictLoadsUptoCard

/-- THE SECOND FORM's CARD OF 'abecedarylaw14.DictWeighs'. -/
def dictWeighsUptoCard : Claim7 := { stood := { row := dictWeighsUptoRow, standIns := [], harness := (true, "bb503b779ff9607d8e42d7068956060dc8259daf9b32d442c77fa627901c57cf"), looks := true }, kinds := [], alts := [], laidByText := true, laidKinds := [.data, .data], laidTests := true, laidLooks := .later }
def DictWeighsUptoCardSaid : Prop := Claim7.holds Tryz.pinned (.plain (OpenSpec.upto dictWeighsSpec)) dictWeighsUptoCard

/-- THE SECOND FORM's CARD OF 'abecedarylaw14.DictSuggests'. -/
def dictSuggestsUptoCard : Claim7 := { stood := { row := dictSuggestsUptoRow, standIns := [], harness := (true, "bb503b779ff9607d8e42d7068956060dc8259daf9b32d442c77fa627901c57cf"), looks := true }, kinds := [], alts := [], laidByText := true, laidKinds := [.data, .data], laidTests := true, laidLooks := .later }
def DictSuggestsUptoCardSaid : Prop := Claim7.holds Tryz.pinned (.plain (OpenSpec.upto dictSuggestsSpec)) dictSuggestsUptoCard

/-- THE SECOND FORM's CARD OF 'abecedarylaw14.DictCompacts'. -/
def dictCompactsUptoCard : Claim7 := { stood := { row := dictCompactsUptoRow, standIns := [], harness := (true, "bb503b779ff9607d8e42d7068956060dc8259daf9b32d442c77fa627901c57cf"), looks := true }, kinds := [], alts := [], laidByText := true, laidKinds := [.data, .data], laidTests := true, laidLooks := .later }
def DictCompactsUptoCardSaid : Prop := Claim7.holds Tryz.pinned (.plain (OpenSpec.upto dictCompactsSpec)) dictCompactsUptoCard

/-- THE SECOND FORM's CARD OF 'abecedarylaw14.DictMachine'. -/
def dictMachineUptoCard : Claim7 := { stood := { row := dictMachineUptoRow, standIns := [], harness := (true, "bb503b779ff9607d8e42d7068956060dc8259daf9b32d442c77fa627901c57cf"), looks := true }, kinds := [], alts := [], laidByText := true, laidKinds := [.data, .data], laidTests := true, laidLooks := .later }
def DictMachineUptoCardSaid : Prop := Claim7.holds Tryz.pinned (.plain (OpenSpec.upto dictMachineSpec)) dictMachineUptoCard

/-- THE SECOND FORM's CARD OF 'abecedarylaw14.DictChanges'. -/
def dictChangesUptoCard : Claim7 := { stood := { row := dictChangesUptoRow, standIns := [], harness := (true, "bb503b779ff9607d8e42d7068956060dc8259daf9b32d442c77fa627901c57cf"), looks := true }, kinds := [], alts := [], laidByText := true, laidKinds := [.data, .data], laidTests := true, laidLooks := .later }
def DictChangesUptoCardSaid : Prop := Claim7.holds Tryz.pinned (.plain (OpenSpec.upto dictChangesSpec)) dictChangesUptoCard

/-- THE SECOND FORM's CARD OF 'abecedarylaw14.DictApart'. -/
def dictApartUptoCard : Claim7 := { stood := { row := dictApartUptoRow, standIns := [], harness := (true, "bb503b779ff9607d8e42d7068956060dc8259daf9b32d442c77fa627901c57cf"), looks := true }, kinds := [], alts := [], laidByText := true, laidKinds := [.data, .data], laidTests := true, laidLooks := .later }
def DictApartUptoCardSaid : Prop := Claim7.holds Tryz.pinned (.plain (OpenSpec.upto dictApartSpec)) dictApartUptoCard

/-- THE SECOND FORM's CARD OF 'abecedarylaw14.DictOthers'. -/
def dictOthersUptoCard : Claim7 := { stood := { row := dictOthersUptoRow, standIns := [], harness := (true, "bb503b779ff9607d8e42d7068956060dc8259daf9b32d442c77fa627901c57cf"), looks := true }, kinds := [], alts := [], laidByText := true, laidKinds := [.data, .data], laidTests := true, laidLooks := .later }
def DictOthersUptoCardSaid : Prop := Claim7.holds Tryz.pinned (.plain (OpenSpec.upto dictOthersSpec)) dictOthersUptoCard

/-- THE SECOND FORM's CARD OF 'abecedarylaw14.DictFull'. -/
def dictFullUptoCard : Claim7 := { stood := { row := dictFullUptoRow, standIns := [], harness := (true, "bb503b779ff9607d8e42d7068956060dc8259daf9b32d442c77fa627901c57cf"), looks := true }, kinds := [], alts := [], laidByText := true, laidKinds := [.data, .data], laidTests := true, laidLooks := .later }
def DictFullUptoCardSaid : Prop := Claim7.holds Tryz.pinned (.plain (OpenSpec.upto dictFullSpec)) dictFullUptoCard
end Rows
end Go.Proofs.YtobjpljdgieklaaGreatDoor
