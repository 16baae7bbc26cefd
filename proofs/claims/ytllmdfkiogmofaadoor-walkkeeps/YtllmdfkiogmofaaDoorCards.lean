/-
  DERIVED. GIVEN WITH THE SEED: THE CARDS: each row of YtllmdfkiogmofaaDoorRows.lean that lists a variable, with what it lists TIED to the program's text (the seventh form; the later family's looks); each row that meets fmt, with fmt's text TOLD by the authors' own Lean function (tested against real Go, not proved from fmt's source: count such statements apart). THE CARD IS WHAT COUNTS. Prove the row's statement (the work); the ties are given (YtllmdfkiogmofaaDoorTie.lean); close each card by the builder's one call (the guide's Derived/Test/ToyasCard.lean, 'card_holds'). Laid BY PROGRAM, IN A SANDBOX (cutbox-door.mjs). By AI agents, Wed Nov 11 2026. No macro, syntax, notation, axiom, sorry.
-/
import Derived.Test.YtllmdfkiogmofaaDoorRows
import GoSem.ClaimSeven
namespace Go.Proofs.YtllmdfkiogmofaaDoor
namespace Rows

/-- THE TIED CARD OF 'abecedarylaw09.WalkKeeps'. -/
def walkKeepsCard : Claim7 := { stood := { row := walkKeepsRow, standIns := [], harness := (true, "37949ff52e8afda54deba1351ed22d8283bf1f8b7b7ff27e71ce31e620e3be67"), looks := false }, kinds := [], alts := [], laidByText := true, laidKinds := [.data, .data], laidTests := true, laidLooks := .later }
def WalkKeepsCardSaid : Prop := Claim7.holds Tryd.pinned (.plain (OpenSpec.ofChange walkKeepsSpec)) walkKeepsCard

/-- THE SECOND FORM's CARD OF 'abecedarylaw09.WalkKeeps'. -/
def walkKeepsUptoCard : Claim7 := { stood := { row := walkKeepsUptoRow, standIns := [], harness := (true, "37949ff52e8afda54deba1351ed22d8283bf1f8b7b7ff27e71ce31e620e3be67"), looks := false }, kinds := [], alts := [], laidByText := true, laidKinds := [.data, .data], laidTests := true, laidLooks := .later }
def WalkKeepsUptoCardSaid : Prop := Claim7.holds Tryd.pinned (.plain (OpenSpec.upto walkKeepsSpec)) walkKeepsUptoCard
end Rows
end Go.Proofs.YtllmdfkiogmofaaDoor
