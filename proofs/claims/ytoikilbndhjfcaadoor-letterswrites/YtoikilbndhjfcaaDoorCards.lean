/-
  DERIVED. GIVEN WITH THE SEED: THE CARDS: each row of YtoikilbndhjfcaaDoorRows.lean that lists a variable, with what it lists TIED to the program's text (the seventh form; the later family's looks); each row that meets fmt, with fmt's text TOLD by the authors' own Lean function (tested against real Go, not proved from fmt's source: count such statements apart). THE CARD IS WHAT COUNTS. Prove the row's statement (the work); the ties are given (YtoikilbndhjfcaaDoorTie.lean); close each card by the builder's one call (the guide's Derived/Test/ToyasCard.lean, 'card_holds'). Laid BY PROGRAM, IN A SANDBOX (cutbox-door.mjs). By AI agents, Wed Nov 11 2026. No macro, syntax, notation, axiom, sorry.
-/
import Derived.Test.YtoikilbndhjfcaaDoorRows
import GoSem.ClaimSeven
namespace Go.Proofs.YtoikilbndhjfcaaDoor
namespace Rows

/-- THE TIED CARD OF 'abecedarylaw01.LettersReads'. -/
def lettersReadsCard : Claim7 := { stood := { row := lettersReadsRow, standIns := [], harness := (true, "84fcc2379488ab93a129954f4211235d11959d24a9f88420ac3970469f673aa1"), looks := false }, kinds := [], alts := [], laidByText := true, laidKinds := [.data, .data], laidTests := true, laidLooks := .later }
def LettersReadsCardSaid : Prop := Claim7.holds Tryd.pinned (.plain (OpenSpec.ofChange lettersReadsSpec)) lettersReadsCard

/-- THE TIED CARD OF 'abecedarylaw01.LettersWrites'. -/
def lettersWritesCard : Claim7 := { stood := { row := lettersWritesRow, standIns := [], harness := (true, "84fcc2379488ab93a129954f4211235d11959d24a9f88420ac3970469f673aa1"), looks := false }, kinds := [], alts := [], laidByText := true, laidKinds := [.data, .data], laidTests := true, laidLooks := .later }
def LettersWritesCardSaid : Prop := Claim7.holds Tryd.pinned (.plain (OpenSpec.ofChange lettersWritesSpec)) lettersWritesCard

/-- THE TIED CARD OF 'abecedarylaw01.LettersBack'. -/
def lettersBackCard : Claim7 := { stood := { row := lettersBackRow, standIns := [], harness := (true, "84fcc2379488ab93a129954f4211235d11959d24a9f88420ac3970469f673aa1"), looks := false }, kinds := [], alts := [], laidByText := true, laidKinds := [.data, .data], laidTests := true, laidLooks := .later }
def LettersBackCardSaid : Prop := Claim7.holds Tryd.pinned (.plain (OpenSpec.ofChange lettersBackSpec)) lettersBackCard

/-- THE TIED CARD OF 'abecedarylaw01.LettersAgain'. -/
def lettersAgainCard : Claim7 := { stood := { row := lettersAgainRow, standIns := [], harness := (true, "84fcc2379488ab93a129954f4211235d11959d24a9f88420ac3970469f673aa1"), looks := false }, kinds := [], alts := [], laidByText := true, laidKinds := [.data, .data], laidTests := true, laidLooks := .later }
def LettersAgainCardSaid : Prop := Claim7.holds Tryd.pinned (.plain (OpenSpec.ofChange lettersAgainSpec)) lettersAgainCard

/-- THE TIED CARD OF 'abecedarylaw01.LettersOrder'. -/
def lettersOrderCard : Claim7 := { stood := { row := lettersOrderRow, standIns := [], harness := (true, "84fcc2379488ab93a129954f4211235d11959d24a9f88420ac3970469f673aa1"), looks := false }, kinds := [], alts := [], laidByText := true, laidKinds := [.data, .data], laidTests := true, laidLooks := .later }
def LettersOrderCardSaid : Prop := Claim7.holds Tryd.pinned (.plain (OpenSpec.ofChange lettersOrderSpec)) lettersOrderCard

/-- THE TIED CARD OF 'abecedarylaw01.LettersJoins'. -/
def lettersJoinsCard : Claim7 := { stood := { row := lettersJoinsRow, standIns := [], harness := (true, "84fcc2379488ab93a129954f4211235d11959d24a9f88420ac3970469f673aa1"), looks := false }, kinds := [], alts := [], laidByText := true, laidKinds := [.data, .data], laidTests := true, laidLooks := .later }
def LettersJoinsCardSaid : Prop := Claim7.holds Tryd.pinned (.plain (OpenSpec.ofChange lettersJoinsSpec)) lettersJoinsCard

/-- THE SECOND FORM's CARD OF 'abecedarylaw01.LettersReads'. -/
def lettersReadsUptoCard : Claim7 := { stood := { row := lettersReadsUptoRow, standIns := [], harness := (true, "84fcc2379488ab93a129954f4211235d11959d24a9f88420ac3970469f673aa1"), looks := false }, kinds := [], alts := [], laidByText := true, laidKinds := [.data, .data], laidTests := true, laidLooks := .later }
def LettersReadsUptoCardSaid : Prop := Claim7.holds Tryd.pinned (.plain (OpenSpec.upto lettersReadsSpec)) lettersReadsUptoCard

/-- THE SECOND FORM's CARD OF 'abecedarylaw01.LettersWrites'. -/
def lettersWritesUptoCard : Claim7 := { stood := { row := lettersWritesUptoRow, standIns := [], harness := (true, "84fcc2379488ab93a129954f4211235d11959d24a9f88420ac3970469f673aa1"), looks := false }, kinds := [], alts := [], laidByText := true, laidKinds := [.data, .data], laidTests := true, laidLooks := .later }
def LettersWritesUptoCardSaid : Prop := Claim7.holds Tryd.pinned (.plain (OpenSpec.upto lettersWritesSpec)) lettersWritesUptoCard

/-- THE SECOND FORM's CARD OF 'abecedarylaw01.LettersBack'. -/
def lettersBackUptoCard : Claim7 := { stood := { row := lettersBackUptoRow, standIns := [], harness := (true, "84fcc2379488ab93a129954f4211235d11959d24a9f88420ac3970469f673aa1"), looks := false }, kinds := [], alts := [], laidByText := true, laidKinds := [.data, .data], laidTests := true, laidLooks := .later }
def LettersBackUptoCardSaid : Prop := Claim7.holds Tryd.pinned (.plain (OpenSpec.upto lettersBackSpec)) lettersBackUptoCard

/-- THE SECOND FORM's CARD OF 'abecedarylaw01.LettersAgain'. -/
def lettersAgainUptoCard : Claim7 := { stood := { row := lettersAgainUptoRow, standIns := [], harness := (true, "84fcc2379488ab93a129954f4211235d11959d24a9f88420ac3970469f673aa1"), looks := false }, kinds := [], alts := [], laidByText := true, laidKinds := [.data, .data], laidTests := true, laidLooks := .later }
def LettersAgainUptoCardSaid : Prop := Claim7.holds Tryd.pinned (.plain (OpenSpec.upto lettersAgainSpec)) lettersAgainUptoCard

/-- THE SECOND FORM's CARD OF 'abecedarylaw01.LettersOrder'. -/
def lettersOrderUptoCard : Claim7 := { stood := { row := lettersOrderUptoRow, standIns := [], harness := (true, "84fcc2379488ab93a129954f4211235d11959d24a9f88420ac3970469f673aa1"), looks := false }, kinds := [], alts := [], laidByText := true, laidKinds := [.data, .data], laidTests := true, laidLooks := .later }
def LettersOrderUptoCardSaid : Prop := Claim7.holds Tryd.pinned (.plain (OpenSpec.upto lettersOrderSpec)) lettersOrderUptoCard

/-- THE SECOND FORM's CARD OF 'abecedarylaw01.LettersJoins'. -/
def lettersJoinsUptoCard : Claim7 := { stood := { row := lettersJoinsUptoRow, standIns := [], harness := (true, "84fcc2379488ab93a129954f4211235d11959d24a9f88420ac3970469f673aa1"), looks := false }, kinds := [], alts := [], laidByText := true, laidKinds := [.data, .data], laidTests := true, laidLooks := .later }
def LettersJoinsUptoCardSaid : Prop := Claim7.holds Tryd.pinned (.plain (OpenSpec.upto lettersJoinsSpec)) lettersJoinsUptoCard
end Rows
end Go.Proofs.YtoikilbndhjfcaaDoor
