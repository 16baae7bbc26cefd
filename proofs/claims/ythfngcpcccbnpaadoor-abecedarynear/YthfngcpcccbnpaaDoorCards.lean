/-
  DERIVED. GIVEN WITH THE SEED: THE CARDS: each row of YthfngcpcccbnpaaDoorRows.lean that lists a variable, with what it lists TIED to the program's text (the seventh form; the later family's looks); each row that meets fmt, with fmt's text TOLD by the authors' own Lean function (tested against real Go, not proved from fmt's source: count such statements apart). THE CARD IS WHAT COUNTS. Prove the row's statement (the work); the ties are given (YthfngcpcccbnpaaDoorTie.lean); close each card by the builder's one call (the guide's Derived/Test/ToyasCard.lean, 'card_holds'). Laid BY PROGRAM, IN A SANDBOX (cutbox-door.mjs). By AI agents, Wed Nov 11 2026. No macro, syntax, notation, axiom, sorry.
-/
import Derived.Test.YthfngcpcccbnpaaDoorRows
import GoSem.ClaimSeven
namespace Go.Proofs.YthfngcpcccbnpaaDoor
namespace Rows

/-- THE TIED CARD OF 'abecedarylaw12.FuzzyAll'. -/
def fuzzyAllCard : Claim7 := { stood := { row := fuzzyAllRow, standIns := [], harness := (true, "ea6dbdd7b1fb6a0dbe0dcdc432804d1e0dfd9d5b75cc26d853ef8efee1b40ccc"), looks := false }, kinds := [], alts := [], laidByText := true, laidKinds := [.data, .data], laidTests := true, laidLooks := .later }
def FuzzyAllCardSaid : Prop := Claim7.holds Tryd.pinned (.plain (OpenSpec.ofChange fuzzyAllSpec)) fuzzyAllCard

/-- THE TIED CARD OF 'abecedarylaw12.FuzzyMore'. -/
def fuzzyMoreCard : Claim7 := { stood := { row := fuzzyMoreRow, standIns := [], harness := (true, "ea6dbdd7b1fb6a0dbe0dcdc432804d1e0dfd9d5b75cc26d853ef8efee1b40ccc"), looks := false }, kinds := [], alts := [], laidByText := true, laidKinds := [.data, .data], laidTests := true, laidLooks := .later }
def FuzzyMoreCardSaid : Prop := Claim7.holds Tryd.pinned (.plain (OpenSpec.ofChange fuzzyMoreSpec)) fuzzyMoreCard

/-- THE TIED CARD OF 'abecedarylaw12.FuzzyExact'. -/
def fuzzyExactCard : Claim7 := { stood := { row := fuzzyExactRow, standIns := [], harness := (true, "ea6dbdd7b1fb6a0dbe0dcdc432804d1e0dfd9d5b75cc26d853ef8efee1b40ccc"), looks := false }, kinds := [], alts := [], laidByText := true, laidKinds := [.data, .data], laidTests := true, laidLooks := .later }
def FuzzyExactCardSaid : Prop := Claim7.holds Tryd.pinned (.plain (OpenSpec.ofChange fuzzyExactSpec)) fuzzyExactCard

/-- THE TIED CARD OF 'abecedarytop.AbecedaryNear'. -/
def abecedaryNearCard : Claim7 := { stood := { row := abecedaryNearRow, standIns := [], harness := (true, "ea6dbdd7b1fb6a0dbe0dcdc432804d1e0dfd9d5b75cc26d853ef8efee1b40ccc"), looks := false }, kinds := [], alts := [], laidByText := true, laidKinds := [.data, .data], laidTests := true, laidLooks := .later }
def AbecedaryNearCardSaid : Prop := Claim7.holds Tryd.pinned (.plain (OpenSpec.ofChange abecedaryNearSpec)) abecedaryNearCard

/-- THE TIED CARD OF 'abecedarytop.AbecedaryFinds'. -/
def abecedaryFindsCard : Claim7 := { stood := { row := abecedaryFindsRow, standIns := [], harness := (true, "ea6dbdd7b1fb6a0dbe0dcdc432804d1e0dfd9d5b75cc26d853ef8efee1b40ccc"), looks := false }, kinds := [], alts := [], laidByText := true, laidKinds := [.data, .data], laidTests := true, laidLooks := .later }
def AbecedaryFindsCardSaid : Prop := Claim7.holds Tryd.pinned (.plain (OpenSpec.ofChange abecedaryFindsSpec)) abecedaryFindsCard

/-- THE SECOND FORM's CARD OF 'abecedarylaw12.FuzzyAll'. -/
def fuzzyAllUptoCard : Claim7 := { stood := { row := fuzzyAllUptoRow, standIns := [], harness := (true, "ea6dbdd7b1fb6a0dbe0dcdc432804d1e0dfd9d5b75cc26d853ef8efee1b40ccc"), looks := false }, kinds := [], alts := [], laidByText := true, laidKinds := [.data, .data], laidTests := true, laidLooks := .later }
def FuzzyAllUptoCardSaid : Prop := Claim7.holds Tryd.pinned (.plain (OpenSpec.upto fuzzyAllSpec)) fuzzyAllUptoCard

/-- THE SECOND FORM's CARD OF 'abecedarylaw12.FuzzyMore'. -/
def fuzzyMoreUptoCard : Claim7 := { stood := { row := fuzzyMoreUptoRow, standIns := [], harness := (true, "ea6dbdd7b1fb6a0dbe0dcdc432804d1e0dfd9d5b75cc26d853ef8efee1b40ccc"), looks := false }, kinds := [], alts := [], laidByText := true, laidKinds := [.data, .data], laidTests := true, laidLooks := .later }
def FuzzyMoreUptoCardSaid : Prop := Claim7.holds Tryd.pinned (.plain (OpenSpec.upto fuzzyMoreSpec)) fuzzyMoreUptoCard

/-- THE SECOND FORM's CARD OF 'abecedarylaw12.FuzzyExact'. -/
def fuzzyExactUptoCard : Claim7 := { stood := { row := fuzzyExactUptoRow, standIns := [], harness := (true, "ea6dbdd7b1fb6a0dbe0dcdc432804d1e0dfd9d5b75cc26d853ef8efee1b40ccc"), looks := false }, kinds := [], alts := [], laidByText := true, laidKinds := [.data, .data], laidTests := true, laidLooks := .later }
def FuzzyExactUptoCardSaid : Prop := Claim7.holds Tryd.pinned (.plain (OpenSpec.upto fuzzyExactSpec)) fuzzyExactUptoCard

/-- THE SECOND FORM's CARD OF 'abecedarytop.AbecedaryNear'. -/
def abecedaryNearUptoCard : Claim7 := { stood := { row := abecedaryNearUptoRow, standIns := [], harness := (true, "ea6dbdd7b1fb6a0dbe0dcdc432804d1e0dfd9d5b75cc26d853ef8efee1b40ccc"), looks := false }, kinds := [], alts := [], laidByText := true, laidKinds := [.data, .data], laidTests := true, laidLooks := .later }
def AbecedaryNearUptoCardSaid : Prop := Claim7.holds Tryd.pinned (.plain (OpenSpec.upto abecedaryNearSpec)) abecedaryNearUptoCard

/-- THE SECOND FORM's CARD OF 'abecedarytop.AbecedaryFinds'. -/
def abecedaryFindsUptoCard : Claim7 := { stood := { row := abecedaryFindsUptoRow, standIns := [], harness := (true, "ea6dbdd7b1fb6a0dbe0dcdc432804d1e0dfd9d5b75cc26d853ef8efee1b40ccc"), looks := false }, kinds := [], alts := [], laidByText := true, laidKinds := [.data, .data], laidTests := true, laidLooks := .later }
def AbecedaryFindsUptoCardSaid : Prop := Claim7.holds Tryd.pinned (.plain (OpenSpec.upto abecedaryFindsSpec)) abecedaryFindsUptoCard
end Rows
end Go.Proofs.YthfngcpcccbnpaaDoor
