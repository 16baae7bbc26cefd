/-
  DERIVED. GIVEN WITH THE SEED: THE CARDS: each row of YtllmdfkiogmofaaGreatDoorRows.lean that lists a variable, with what it lists TIED to the program's text (the seventh form; the later family's looks); each row that meets fmt, with fmt's text TOLD by the authors' own Lean function (tested against real Go, not proved from fmt's source: count such statements apart). THE CARD IS WHAT COUNTS. Prove the row's statement (the work); the ties are given (YtllmdfkiogmofaaGreatDoorTie.lean); close each card by the builder's one call (the guide's Derived/Test/ToyasCard.lean, 'card_holds'). Laid BY PROGRAM, IN A SANDBOX (cutbox-door.mjs). By AI agents, Wed Nov 11 2026. No macro, syntax, notation, axiom, sorry.
-/
import Derived.Test.YtllmdfkiogmofaaGreatDoorRows
import GoSem.ClaimSeven
namespace Go.Proofs.YtllmdfkiogmofaaGreatDoor
namespace Rows

/-- THE TIED CARD OF 'abecedarylaw08.PackReads'. -/
def packReadsCard : Claim7 := { stood := { row := packReadsRow, standIns := [], harness := (true, "bdd446766b6bf578d420a183b06219274125cc918df234985307cb3bbd959b95"), looks := false }, kinds := [], alts := [], laidByText := true, laidKinds := [.data, .data], laidTests := true, laidLooks := .later }
def PackReadsCardSaid : Prop := Claim7.holds Tryz.pinned (.plain (OpenSpec.ofChange packReadsSpec)) packReadsCard

/-- THE TIED CARD OF 'abecedarylaw09.WalkBegins'. -/
def walkBeginsCard : Claim7 := { stood := { row := walkBeginsRow, standIns := [], harness := (true, "bdd446766b6bf578d420a183b06219274125cc918df234985307cb3bbd959b95"), looks := false }, kinds := [], alts := [], laidByText := true, laidKinds := [.data, .data], laidTests := true, laidLooks := .later }
def WalkBeginsCardSaid : Prop := Claim7.holds Tryz.pinned (.plain (OpenSpec.ofChange walkBeginsSpec)) walkBeginsCard

/-- THE SECOND FORM's CARD OF 'abecedarylaw08.PackReads'. -/
def packReadsUptoCard : Claim7 := { stood := { row := packReadsUptoRow, standIns := [], harness := (true, "bdd446766b6bf578d420a183b06219274125cc918df234985307cb3bbd959b95"), looks := false }, kinds := [], alts := [], laidByText := true, laidKinds := [.data, .data], laidTests := true, laidLooks := .later }
def PackReadsUptoCardSaid : Prop := Claim7.holds Tryz.pinned (.plain (OpenSpec.upto packReadsSpec)) packReadsUptoCard

/-- THE SECOND FORM's CARD OF 'abecedarylaw09.WalkBegins'. -/
def walkBeginsUptoCard : Claim7 := { stood := { row := walkBeginsUptoRow, standIns := [], harness := (true, "bdd446766b6bf578d420a183b06219274125cc918df234985307cb3bbd959b95"), looks := false }, kinds := [], alts := [], laidByText := true, laidKinds := [.data, .data], laidTests := true, laidLooks := .later }
def WalkBeginsUptoCardSaid : Prop := Claim7.holds Tryz.pinned (.plain (OpenSpec.upto walkBeginsSpec)) walkBeginsUptoCard
end Rows
end Go.Proofs.YtllmdfkiogmofaaGreatDoor
