/-
  DERIVED. GIVEN WITH THE SEED: THE CARDS: each row of YthjlihhknaelaaaDoorRows.lean that lists a variable, with what it lists TIED to the program's text (the seventh form; the later family's looks); each row that meets fmt, with fmt's text TOLD by the authors' own Lean function (tested against real Go, not proved from fmt's source: count such statements apart). THE CARD IS WHAT COUNTS. Prove the row's statement (the work); the ties are given (YthjlihhknaelaaaDoorTie.lean); close each card by the builder's one call (the guide's Derived/Test/ToyasCard.lean, 'card_holds'). Laid BY PROGRAM, IN A SANDBOX (cutbox-door.mjs). By AI agents, Wed Nov 11 2026. No macro, syntax, notation, axiom, sorry.
-/
import Derived.Test.YthjlihhknaelaaaDoorRows
import GoSem.ClaimSeven
namespace Go.Proofs.YthjlihhknaelaaaDoor
namespace Rows

/-- THE TIED CARD OF 'abecedarylaw09.WalkAll'. -/
def walkAllCard : Claim7 := { stood := { row := walkAllRow, standIns := [], harness := (true, "ade978a937a9017d48527c6306b29ed7f273a0d67e7ba742c65472a6690821b3"), looks := false }, kinds := [], alts := [], laidByText := true, laidKinds := [.data, .data], laidTests := true, laidLooks := .later }
def WalkAllCardSaid : Prop := Claim7.holds Tryd.pinned (.plain (OpenSpec.ofChange walkAllSpec)) walkAllCard

/-- THE TIED CARD OF 'abecedarylaw09.WalkFinds'. -/
def walkFindsCard : Claim7 := { stood := { row := walkFindsRow, standIns := [], harness := (true, "ade978a937a9017d48527c6306b29ed7f273a0d67e7ba742c65472a6690821b3"), looks := false }, kinds := [], alts := [], laidByText := true, laidKinds := [.data, .data], laidTests := true, laidLooks := .later }
def WalkFindsCardSaid : Prop := Claim7.holds Tryd.pinned (.plain (OpenSpec.ofChange walkFindsSpec)) walkFindsCard

/-- THE TIED CARD OF 'abecedarylaw09.WalkNumbers'. -/
def walkNumbersCard : Claim7 := { stood := { row := walkNumbersRow, standIns := [], harness := (true, "ade978a937a9017d48527c6306b29ed7f273a0d67e7ba742c65472a6690821b3"), looks := false }, kinds := [], alts := [], laidByText := true, laidKinds := [.data, .data], laidTests := true, laidLooks := .later }
def WalkNumbersCardSaid : Prop := Claim7.holds Tryd.pinned (.plain (OpenSpec.ofChange walkNumbersSpec)) walkNumbersCard

/-- THE TIED CARD OF 'abecedarylaw09.WalkRanks'. -/
def walkRanksCard : Claim7 := { stood := { row := walkRanksRow, standIns := [], harness := (true, "ade978a937a9017d48527c6306b29ed7f273a0d67e7ba742c65472a6690821b3"), looks := false }, kinds := [], alts := [], laidByText := true, laidKinds := [.data, .data], laidTests := true, laidLooks := .later }
def WalkRanksCardSaid : Prop := Claim7.holds Tryd.pinned (.plain (OpenSpec.ofChange walkRanksSpec)) walkRanksCard

/-- THE TIED CARD OF 'abecedarylaw09.WalkUnder'. -/
def walkUnderCard : Claim7 := { stood := { row := walkUnderRow, standIns := [], harness := (true, "ade978a937a9017d48527c6306b29ed7f273a0d67e7ba742c65472a6690821b3"), looks := false }, kinds := [], alts := [], laidByText := true, laidKinds := [.data, .data], laidTests := true, laidLooks := .later }
def WalkUnderCardSaid : Prop := Claim7.holds Tryd.pinned (.plain (OpenSpec.ofChange walkUnderSpec)) walkUnderCard

/-- THE TIED CARD OF 'abecedarylaw09.WalkStates'. -/
def walkStatesCard : Claim7 := { stood := { row := walkStatesRow, standIns := [], harness := (true, "ade978a937a9017d48527c6306b29ed7f273a0d67e7ba742c65472a6690821b3"), looks := false }, kinds := [], alts := [], laidByText := true, laidKinds := [.data, .data], laidTests := true, laidLooks := .later }
def WalkStatesCardSaid : Prop := Claim7.holds Tryd.pinned (.plain (OpenSpec.ofChange walkStatesSpec)) walkStatesCard

/-- THE TIED CARD OF 'abecedarylaw09.WalkKeeps'. -/
def walkKeepsCard : Claim7 := { stood := { row := walkKeepsRow, standIns := [], harness := (true, "ade978a937a9017d48527c6306b29ed7f273a0d67e7ba742c65472a6690821b3"), looks := false }, kinds := [], alts := [], laidByText := true, laidKinds := [.data, .data], laidTests := true, laidLooks := .later }
def WalkKeepsCardSaid : Prop := Claim7.holds Tryd.pinned (.plain (OpenSpec.ofChange walkKeepsSpec)) walkKeepsCard

/-- THE SECOND FORM's CARD OF 'abecedarylaw09.WalkAll'. -/
def walkAllUptoCard : Claim7 := { stood := { row := walkAllUptoRow, standIns := [], harness := (true, "ade978a937a9017d48527c6306b29ed7f273a0d67e7ba742c65472a6690821b3"), looks := false }, kinds := [], alts := [], laidByText := true, laidKinds := [.data, .data], laidTests := true, laidLooks := .later }
def WalkAllUptoCardSaid : Prop := Claim7.holds Tryd.pinned (.plain (OpenSpec.upto walkAllSpec)) walkAllUptoCard

/-- THE SECOND FORM's CARD OF 'abecedarylaw09.WalkFinds'. -/
def walkFindsUptoCard : Claim7 := { stood := { row := walkFindsUptoRow, standIns := [], harness := (true, "ade978a937a9017d48527c6306b29ed7f273a0d67e7ba742c65472a6690821b3"), looks := false }, kinds := [], alts := [], laidByText := true, laidKinds := [.data, .data], laidTests := true, laidLooks := .later }
def WalkFindsUptoCardSaid : Prop := Claim7.holds Tryd.pinned (.plain (OpenSpec.upto walkFindsSpec)) walkFindsUptoCard

/-- THE SECOND FORM's CARD OF 'abecedarylaw09.WalkNumbers'. -/
def walkNumbersUptoCard : Claim7 := { stood := { row := walkNumbersUptoRow, standIns := [], harness := (true, "ade978a937a9017d48527c6306b29ed7f273a0d67e7ba742c65472a6690821b3"), looks := false }, kinds := [], alts := [], laidByText := true, laidKinds := [.data, .data], laidTests := true, laidLooks := .later }
def WalkNumbersUptoCardSaid : Prop := Claim7.holds Tryd.pinned (.plain (OpenSpec.upto walkNumbersSpec)) walkNumbersUptoCard

/-- THE SECOND FORM's CARD OF 'abecedarylaw09.WalkRanks'. -/
def walkRanksUptoCard : Claim7 := { stood := { row := walkRanksUptoRow, standIns := [], harness := (true, "ade978a937a9017d48527c6306b29ed7f273a0d67e7ba742c65472a6690821b3"), looks := false }, kinds := [], alts := [], laidByText := true, laidKinds := [.data, .data], laidTests := true, laidLooks := .later }
def WalkRanksUptoCardSaid : Prop := Claim7.holds Tryd.pinned (.plain (OpenSpec.upto walkRanksSpec)) walkRanksUptoCard

/-- THE SECOND FORM's CARD OF 'abecedarylaw09.WalkUnder'. -/
def walkUnderUptoCard : Claim7 := { stood := { row := walkUnderUptoRow, standIns := [], harness := (true, "ade978a937a9017d48527c6306b29ed7f273a0d67e7ba742c65472a6690821b3"), looks := false }, kinds := [], alts := [], laidByText := true, laidKinds := [.data, .data], laidTests := true, laidLooks := .later }
def WalkUnderUptoCardSaid : Prop := Claim7.holds Tryd.pinned (.plain (OpenSpec.upto walkUnderSpec)) walkUnderUptoCard

/-- THE SECOND FORM's CARD OF 'abecedarylaw09.WalkStates'. -/
def walkStatesUptoCard : Claim7 := { stood := { row := walkStatesUptoRow, standIns := [], harness := (true, "ade978a937a9017d48527c6306b29ed7f273a0d67e7ba742c65472a6690821b3"), looks := false }, kinds := [], alts := [], laidByText := true, laidKinds := [.data, .data], laidTests := true, laidLooks := .later }
def WalkStatesUptoCardSaid : Prop := Claim7.holds Tryd.pinned (.plain (OpenSpec.upto walkStatesSpec)) walkStatesUptoCard

/-- THE SECOND FORM's CARD OF 'abecedarylaw09.WalkKeeps'. -/
def walkKeepsUptoCard : Claim7 := { stood := { row := walkKeepsUptoRow, standIns := [], harness := (true, "ade978a937a9017d48527c6306b29ed7f273a0d67e7ba742c65472a6690821b3"), looks := false }, kinds := [], alts := [], laidByText := true, laidKinds := [.data, .data], laidTests := true, laidLooks := .later }
def WalkKeepsUptoCardSaid : Prop := Claim7.holds Tryd.pinned (.plain (OpenSpec.upto walkKeepsSpec)) walkKeepsUptoCard
end Rows
end Go.Proofs.YthjlihhknaelaaaDoor
