/-
  DERIVED. GIVEN WITH THE SEED: THE CARDS: each row of YtncnefpkfbngaaaGreatDoorRows.lean that lists a variable, with what it lists TIED to the program's text (the seventh form; the later family's looks); each row that meets fmt, with fmt's text TOLD by the authors' own Lean function (tested against real Go, not proved from fmt's source: count such statements apart). THE CARD IS WHAT COUNTS. Prove the row's statement (the work); the ties are given (YtncnefpkfbngaaaGreatDoorTie.lean); close each card by the builder's one call (the guide's Derived/Test/ToyasCard.lean, 'card_holds'). Laid BY PROGRAM, IN A SANDBOX (cutbox-door.mjs). By AI agents, Wed Nov 11 2026. No macro, syntax, notation, axiom, sorry.
-/
import Derived.Test.YtncnefpkfbngaaaGreatDoorRows
import GoSem.ClaimSeven
namespace Go.Proofs.YtncnefpkfbngaaaGreatDoor
namespace Rows

/-- THE TIED CARD OF 'abecedarylaw12.FuzzyMerges'. -/
def fuzzyMergesCard : Claim7 := { stood := { row := fuzzyMergesRow, standIns := [], harness := (true, "7cfece24236f3e73d62610287d9295d69910b1a140f60782b21848ae79ced2f0"), looks := false }, kinds := [], alts := [], laidByText := true, laidKinds := [.data, .data], laidTests := true, laidLooks := .later }
def FuzzyMergesCardSaid : Prop := Claim7.holds Tryz.pinned (.plain (OpenSpec.ofChange fuzzyMergesSpec)) fuzzyMergesCard

/-- THE TIED CARD OF 'abecedarylaw12.FuzzyOver'. -/
def fuzzyOverCard : Claim7 := { stood := { row := fuzzyOverRow, standIns := [], harness := (true, "7cfece24236f3e73d62610287d9295d69910b1a140f60782b21848ae79ced2f0"), looks := false }, kinds := [], alts := [], laidByText := true, laidKinds := [.data, .data], laidTests := true, laidLooks := .later }
def FuzzyOverCardSaid : Prop := Claim7.holds Tryz.pinned (.plain (OpenSpec.ofChange fuzzyOverSpec)) fuzzyOverCard

/-- THE TIED CARD OF 'abecedarylaw12.FuzzyNothing'. -/
def fuzzyNothingCard : Claim7 := { stood := { row := fuzzyNothingRow, standIns := [], harness := (true, "7cfece24236f3e73d62610287d9295d69910b1a140f60782b21848ae79ced2f0"), looks := false }, kinds := [], alts := [], laidByText := true, laidKinds := [.data, .data], laidTests := true, laidLooks := .later }
def FuzzyNothingCardSaid : Prop := Claim7.holds Tryz.pinned (.plain (OpenSpec.ofChange fuzzyNothingSpec)) fuzzyNothingCard

/-- THE SECOND FORM's CARD OF 'abecedarylaw12.FuzzyMerges'. -/
def fuzzyMergesUptoCard : Claim7 := { stood := { row := fuzzyMergesUptoRow, standIns := [], harness := (true, "7cfece24236f3e73d62610287d9295d69910b1a140f60782b21848ae79ced2f0"), looks := false }, kinds := [], alts := [], laidByText := true, laidKinds := [.data, .data], laidTests := true, laidLooks := .later }
def FuzzyMergesUptoCardSaid : Prop := Claim7.holds Tryz.pinned (.plain (OpenSpec.upto fuzzyMergesSpec)) fuzzyMergesUptoCard

/-- THE SECOND FORM's CARD OF 'abecedarylaw12.FuzzyOver'. -/
def fuzzyOverUptoCard : Claim7 := { stood := { row := fuzzyOverUptoRow, standIns := [], harness := (true, "7cfece24236f3e73d62610287d9295d69910b1a140f60782b21848ae79ced2f0"), looks := false }, kinds := [], alts := [], laidByText := true, laidKinds := [.data, .data], laidTests := true, laidLooks := .later }
def FuzzyOverUptoCardSaid : Prop := Claim7.holds Tryz.pinned (.plain (OpenSpec.upto fuzzyOverSpec)) fuzzyOverUptoCard

/-- THE SECOND FORM's CARD OF 'abecedarylaw12.FuzzyNothing'. -/
def fuzzyNothingUptoCard : Claim7 := { stood := { row := fuzzyNothingUptoRow, standIns := [], harness := (true, "7cfece24236f3e73d62610287d9295d69910b1a140f60782b21848ae79ced2f0"), looks := false }, kinds := [], alts := [], laidByText := true, laidKinds := [.data, .data], laidTests := true, laidLooks := .later }
def FuzzyNothingUptoCardSaid : Prop := Claim7.holds Tryz.pinned (.plain (OpenSpec.upto fuzzyNothingSpec)) fuzzyNothingUptoCard
end Rows
end Go.Proofs.YtncnefpkfbngaaaGreatDoor
