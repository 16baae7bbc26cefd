/-
  DERIVED. GIVEN WITH THE SEED: THE CARDS: each row of YtjhjejjnkpbphaaDoorRows.lean that lists a variable, with what it lists TIED to the program's text (the seventh form; the later family's looks); each row that meets fmt, with fmt's text TOLD by the authors' own Lean function (tested against real Go, not proved from fmt's source: count such statements apart). THE CARD IS WHAT COUNTS. Prove the row's statement (the work); the ties are given (YtjhjejjnkpbphaaDoorTie.lean); close each card by the builder's one call (the guide's Derived/Test/ToyasCard.lean, 'card_holds'). Laid BY PROGRAM, IN A SANDBOX (cutbox-door.mjs). By AI agents, Wed Nov 11 2026. No macro, syntax, notation, axiom, sorry.
-/
import Derived.Test.YtjhjejjnkpbphaaDoorRows
import GoSem.ClaimSeven
namespace Go.Proofs.YtjhjejjnkpbphaaDoor
namespace Rows

/-- THE TIED CARD OF 'abecedarylaw08.PackWrites'. -/
def packWritesCard : Claim7 := { stood := { row := packWritesRow, standIns := [], harness := (true, "1c0067c90a3dd3f83aef654c086092c1d4cb932a9a3a29f89ca17196fb2e648a"), looks := false }, kinds := [], alts := [], laidByText := true, laidKinds := [.data, .data], laidTests := true, laidLooks := .later }
def PackWritesCardSaid : Prop := Claim7.holds Tryd.pinned (.plain (OpenSpec.ofChange packWritesSpec)) packWritesCard

/-- THE TIED CARD OF 'abecedarylaw09.WalkKeeps'. -/
def walkKeepsCard : Claim7 := { stood := { row := walkKeepsRow, standIns := [], harness := (true, "1c0067c90a3dd3f83aef654c086092c1d4cb932a9a3a29f89ca17196fb2e648a"), looks := false }, kinds := [], alts := [], laidByText := true, laidKinds := [.data, .data], laidTests := true, laidLooks := .later }
def WalkKeepsCardSaid : Prop := Claim7.holds Tryd.pinned (.plain (OpenSpec.ofChange walkKeepsSpec)) walkKeepsCard

/-- THE TIED CARD OF 'abecedarytop.AbecedaryWords'. -/
def abecedaryWordsCard : Claim7 := { stood := { row := abecedaryWordsRow, standIns := [], harness := (true, "1c0067c90a3dd3f83aef654c086092c1d4cb932a9a3a29f89ca17196fb2e648a"), looks := false }, kinds := [], alts := [], laidByText := true, laidKinds := [.data, .data], laidTests := true, laidLooks := .later }
def AbecedaryWordsCardSaid : Prop := Claim7.holds Tryd.pinned (.plain (OpenSpec.ofChange abecedaryWordsSpec)) abecedaryWordsCard

/-- THE SECOND FORM's CARD OF 'abecedarylaw08.PackWrites'. -/
def packWritesUptoCard : Claim7 := { stood := { row := packWritesUptoRow, standIns := [], harness := (true, "1c0067c90a3dd3f83aef654c086092c1d4cb932a9a3a29f89ca17196fb2e648a"), looks := false }, kinds := [], alts := [], laidByText := true, laidKinds := [.data, .data], laidTests := true, laidLooks := .later }
def PackWritesUptoCardSaid : Prop := Claim7.holds Tryd.pinned (.plain (OpenSpec.upto packWritesSpec)) packWritesUptoCard

/-- THE SECOND FORM's CARD OF 'abecedarylaw09.WalkKeeps'. -/
def walkKeepsUptoCard : Claim7 := { stood := { row := walkKeepsUptoRow, standIns := [], harness := (true, "1c0067c90a3dd3f83aef654c086092c1d4cb932a9a3a29f89ca17196fb2e648a"), looks := false }, kinds := [], alts := [], laidByText := true, laidKinds := [.data, .data], laidTests := true, laidLooks := .later }
def WalkKeepsUptoCardSaid : Prop := Claim7.holds Tryd.pinned (.plain (OpenSpec.upto walkKeepsSpec)) walkKeepsUptoCard

/-- THE SECOND FORM's CARD OF 'abecedarytop.AbecedaryWords'. -/
def abecedaryWordsUptoCard : Claim7 := { stood := { row := abecedaryWordsUptoRow, standIns := [], harness := (true, "1c0067c90a3dd3f83aef654c086092c1d4cb932a9a3a29f89ca17196fb2e648a"), looks := false }, kinds := [], alts := [], laidByText := true, laidKinds := [.data, .data], laidTests := true, laidLooks := .later }
def AbecedaryWordsUptoCardSaid : Prop := Claim7.holds Tryd.pinned (.plain (OpenSpec.upto abecedaryWordsSpec)) abecedaryWordsUptoCard
end Rows
end Go.Proofs.YtjhjejjnkpbphaaDoor
