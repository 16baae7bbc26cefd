/-
  DERIVED. GIVEN WITH THE SEED: THE CARDS: each row of YtoikilbndhjfcabDoorRows.lean that lists a variable, with what it lists TIED to the program's text (the seventh form; the later family's looks); each row that meets fmt, with fmt's text TOLD by the authors' own Lean function (tested against real Go, not proved from fmt's source: count such statements apart). THE CARD IS WHAT COUNTS. Prove the row's statement (the work); the ties are given (YtoikilbndhjfcabDoorTie.lean); close each card by the builder's one call (the guide's Derived/Test/ToyasCard.lean, 'card_holds'). Laid BY PROGRAM, IN A SANDBOX (cutbox-door.mjs). By AI agents, Wed Nov 11 2026. No macro, syntax, notation, axiom, sorry.
-/
import Derived.Test.YtoikilbndhjfcabDoorRows
import GoSem.ClaimSeven
namespace Go.Proofs.YtoikilbndhjfcabDoor
namespace Rows

/-- THE TIED CARD OF 'abecedarylaw01.LettersApart'. -/
def lettersApartCard : Claim7 := { stood := { row := lettersApartRow, standIns := [], harness := (true, "c5cee7059e68e3e92f5fdaee37c777e12611188743aa5fb7c0e8b2fc38d4894a"), looks := false }, kinds := [], alts := [], laidByText := true, laidKinds := [.data, .data], laidTests := true, laidLooks := .later }
def LettersApartCardSaid : Prop := Claim7.holds Tryd.pinned (.plain (OpenSpec.ofChange lettersApartSpec)) lettersApartCard

/-- THE TIED CARD OF 'abecedarylaw01.LettersWords'. -/
def lettersWordsCard : Claim7 := { stood := { row := lettersWordsRow, standIns := [], harness := (true, "c5cee7059e68e3e92f5fdaee37c777e12611188743aa5fb7c0e8b2fc38d4894a"), looks := false }, kinds := [], alts := [], laidByText := true, laidKinds := [.data, .data], laidTests := true, laidLooks := .later }
def LettersWordsCardSaid : Prop := Claim7.holds Tryd.pinned (.plain (OpenSpec.ofChange lettersWordsSpec)) lettersWordsCard

/-- THE TIED CARD OF 'abecedarylaw01.LettersCommon'. -/
def lettersCommonCard : Claim7 := { stood := { row := lettersCommonRow, standIns := [], harness := (true, "c5cee7059e68e3e92f5fdaee37c777e12611188743aa5fb7c0e8b2fc38d4894a"), looks := false }, kinds := [], alts := [], laidByText := true, laidKinds := [.data, .data], laidTests := true, laidLooks := .later }
def LettersCommonCardSaid : Prop := Claim7.holds Tryd.pinned (.plain (OpenSpec.ofChange lettersCommonSpec)) lettersCommonCard

/-- THE SECOND FORM's CARD OF 'abecedarylaw01.LettersApart'. -/
def lettersApartUptoCard : Claim7 := { stood := { row := lettersApartUptoRow, standIns := [], harness := (true, "c5cee7059e68e3e92f5fdaee37c777e12611188743aa5fb7c0e8b2fc38d4894a"), looks := false }, kinds := [], alts := [], laidByText := true, laidKinds := [.data, .data], laidTests := true, laidLooks := .later }
def LettersApartUptoCardSaid : Prop := Claim7.holds Tryd.pinned (.plain (OpenSpec.upto lettersApartSpec)) lettersApartUptoCard

/-- THE SECOND FORM's CARD OF 'abecedarylaw01.LettersWords'. -/
def lettersWordsUptoCard : Claim7 := { stood := { row := lettersWordsUptoRow, standIns := [], harness := (true, "c5cee7059e68e3e92f5fdaee37c777e12611188743aa5fb7c0e8b2fc38d4894a"), looks := false }, kinds := [], alts := [], laidByText := true, laidKinds := [.data, .data], laidTests := true, laidLooks := .later }
def LettersWordsUptoCardSaid : Prop := Claim7.holds Tryd.pinned (.plain (OpenSpec.upto lettersWordsSpec)) lettersWordsUptoCard

/-- THE SECOND FORM's CARD OF 'abecedarylaw01.LettersCommon'. -/
def lettersCommonUptoCard : Claim7 := { stood := { row := lettersCommonUptoRow, standIns := [], harness := (true, "c5cee7059e68e3e92f5fdaee37c777e12611188743aa5fb7c0e8b2fc38d4894a"), looks := false }, kinds := [], alts := [], laidByText := true, laidKinds := [.data, .data], laidTests := true, laidLooks := .later }
def LettersCommonUptoCardSaid : Prop := Claim7.holds Tryd.pinned (.plain (OpenSpec.upto lettersCommonSpec)) lettersCommonUptoCard
end Rows
end Go.Proofs.YtoikilbndhjfcabDoor
