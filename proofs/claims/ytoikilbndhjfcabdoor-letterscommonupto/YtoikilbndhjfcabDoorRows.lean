/-
  NARROWER THAN 'FOR EVERY INPUT', by the rows' own cells (each row's printed sentence says how): LettersApart: laid · LettersWords: laid · LettersCommon: laid.
  DERIVED. THE GIVEN ROWS OF THIS SEAT. 3 by the template 'for every input the law returns true; each argument reads behind the call as it read before'; 0 by the template 'total and deterministic' (their statements: YtoikilbndhjfcabDoorTotals.lean).
  GIVEN WITH THE SEED: the statements are not yours to turn. If you find one false, say at which input.
  Laid BY PROGRAM, IN A SANDBOX (cutbox-rows.mjs): the forced cells as the released guide's own fill.sh prints them over the translation dcf68b724c66608d… (all of the seat's roots in one cut). By AI agents, Wed Nov 11 2026. No macro, syntax, notation, axiom, sorry.
-/
import Derived.Test.YtoikilbndhjfcabDoorChecked
import GoSem.Claim
import GoSem.ClaimJoined
import GoSem.ClaimMapViews
import Derived.JoinedTies
import Derived.KernelRfl
namespace Go.Proofs.YtoikilbndhjfcabDoor
/- THE CELL 'sum', in the pinned program and in every row, IS THE sha256 OF THE DUMP (.gsa) THAT YtoikilbndhjfcabDoorProg.lean LOADS. Nothing in Lean hashes anything: it is a label: what it is worth is what the hold of that sum in a sandbox is worth. -/
noncomputable def Tryd.pinned : Pinned := { name := "ytoikilbndhjfcabdoor", sum := "dcf68b724c66608d82250bfe13afc1eec243cd9de96d812021c46efe692190bb", checked := Tryd.checked }
namespace Rows
def none {H : Type} : Left H := { results := [], args := [] }

/- WHAT THE LISTED PACKAGE-LEVEL VARIABLES READ AS WHEN THE CALL BEGINS. Each datum BY PROGRAM (the guide's laid-datum.mjs) off the statement by which the dump's own 'gosem.cut.vars' lays the variable. In a bare row this is a premise. The card (YtoikilbndhjfcabDoorCards.lean) ties it to the program's text. -/
def laid_abecedary_letters_least {H : Type} : DataW H := .agg [.lit (.int .i32 0), .lit (.int .i32 0), .lit (.int .i32 128), .lit (.int .i32 2048), .lit (.int .i32 65536)]
def laid_abecedary_letters_lead {H : Type} : DataW H := .agg [.lit (.int .u8 0), .lit (.int .u8 0), .lit (.int .u8 192), .lit (.int .u8 224), .lit (.int .u8 240)]

/-- 'abecedarylaw01.LettersApart': WHATEVER THE INPUT: true; the input reads as it did. -/
def lettersApartSpec : ChangeSpec := { name := "lettersApart", fn := fun _ => fun
  | [d1, d2] => { results := [.lit (.bool true)], args := [d1, d2] }
  | _ => none }
def lettersApartRow : OpenClaim := { program := "ytoikilbndhjfcabdoor", sum := "dcf68b724c66608d82250bfe13afc1eec243cd9de96d812021c46efe692190bb", func := "abecedary/abecedarylaw01.LettersApart", spec := "lettersApart", named := ["abecedary/letters.lead", "abecedary/letters.least"], apart := false, laid := [("abecedary/letters.least", laid_abecedary_letters_least), ("abecedary/letters.lead", laid_abecedary_letters_lead)] }
def LettersApartSaid : Prop := lettersApartRow.holds Tryd.pinned (OpenSpec.ofChange lettersApartSpec)

/-- ITS FALSE NEIGHBOUR: 'it returns false'. Refute it at one input. -/
def lettersApartWrong : ChangeSpec := { name := "lettersApart", fn := fun _ => fun
  | [d1, d2] => { results := [.lit (.bool false)], args := [d1, d2] }
  | _ => none }
def LettersApartWrongFalsely : Prop := lettersApartRow.holds Tryd.pinned (OpenSpec.ofChange lettersApartWrong)

/-- 'abecedarylaw01.LettersWords': WHATEVER THE INPUT: true; the input reads as it did. -/
def lettersWordsSpec : ChangeSpec := { name := "lettersWords", fn := fun _ => fun
  | [d] => { results := [.lit (.bool true)], args := [d] }
  | _ => none }
def lettersWordsRow : OpenClaim := { program := "ytoikilbndhjfcabdoor", sum := "dcf68b724c66608d82250bfe13afc1eec243cd9de96d812021c46efe692190bb", func := "abecedary/abecedarylaw01.LettersWords", spec := "lettersWords", named := ["abecedary/letters.lead", "abecedary/letters.least"], apart := false, laid := [("abecedary/letters.least", laid_abecedary_letters_least), ("abecedary/letters.lead", laid_abecedary_letters_lead)] }
def LettersWordsSaid : Prop := lettersWordsRow.holds Tryd.pinned (OpenSpec.ofChange lettersWordsSpec)

/-- ITS FALSE NEIGHBOUR: 'it returns false'. Refute it at one input. -/
def lettersWordsWrong : ChangeSpec := { name := "lettersWords", fn := fun _ => fun
  | [d] => { results := [.lit (.bool false)], args := [d] }
  | _ => none }
def LettersWordsWrongFalsely : Prop := lettersWordsRow.holds Tryd.pinned (OpenSpec.ofChange lettersWordsWrong)

/-- 'abecedarylaw01.LettersCommon': WHATEVER THE INPUT: true; the input reads as it did. -/
def lettersCommonSpec : ChangeSpec := { name := "lettersCommon", fn := fun _ => fun
  | [d1, d2] => { results := [.lit (.bool true)], args := [d1, d2] }
  | _ => none }
def lettersCommonRow : OpenClaim := { program := "ytoikilbndhjfcabdoor", sum := "dcf68b724c66608d82250bfe13afc1eec243cd9de96d812021c46efe692190bb", func := "abecedary/abecedarylaw01.LettersCommon", spec := "lettersCommon", named := ["abecedary/letters.lead", "abecedary/letters.least"], apart := false, laid := [("abecedary/letters.least", laid_abecedary_letters_least), ("abecedary/letters.lead", laid_abecedary_letters_lead)] }
def LettersCommonSaid : Prop := lettersCommonRow.holds Tryd.pinned (OpenSpec.ofChange lettersCommonSpec)

/-- ITS FALSE NEIGHBOUR: 'it returns false'. Refute it at one input. -/
def lettersCommonWrong : ChangeSpec := { name := "lettersCommon", fn := fun _ => fun
  | [d1, d2] => { results := [.lit (.bool false)], args := [d1, d2] }
  | _ => none }
def LettersCommonWrongFalsely : Prop := lettersCommonRow.holds Tryd.pinned (OpenSpec.ofChange lettersCommonWrong)

/- THE SECOND FORM. 'bulk': how many values and letters a reading holds, each counted each time it is reached (what is shared counts as often as it is met; a slice's spare places count too). A statement '..UptoSaid' is the law's where the arguments, and the package variables that the reading takes, are together of bulk at most 1048576: NARROWER than '..Said'. Prove '..Said' where nothing that the law and all that it calls make is longer than what came in: it says more and counts as full. Else prove '..UptoSaid'. A law counts once. -/
mutual
def uptoBulk {H : Type} : DataW H → Nat
  | .lit (.string bytes) => bytes.length + 1
  | .lit _ => 1
  | .nil => 1
  | .ptr d => uptoBulk d + 1
  | .slice elems spare => uptoBulkAll elems + uptoBulkAll spare + 1
  | .agg parts => uptoBulkAll parts + 1
  | .iface _ d => uptoBulk d + 1
  | .map entries => uptoBulkEntries entries + 1
  | .held _ => 1
def uptoBulkAll {H : Type} : List (DataW H) → Nat
  | [] => 0
  | d :: r => uptoBulk d + uptoBulkAll r
def uptoBulkEntries {H : Type} : List (Lit × DataW H) → Nat
  | [] => 0
  | x :: r => uptoBulkEntry x + uptoBulkEntries r
def uptoBulkEntry {H : Type} : Lit × DataW H → Nat
  | (.string bytes, d) => bytes.length + uptoBulk d + 1
  | (_, d) => uptoBulk d + 1
 end
def uptoSmall : (H : Type) → List (DataW H) → Bool := fun _ ds => decide (uptoBulkAll ds ≤ 1048576)
def OpenSpec.upto (s : _root_.Go.ChangeSpec) : _root_.Go.OpenSpec := { _root_.Go.OpenSpec.ofChange s with cond := some uptoSmall }

/-- 'abecedarylaw01.LettersApart', WHERE WHAT IT READS IS OF BULK AT MOST 1048576: true; the input reads as it did. -/
def lettersApartUptoRow : OpenClaim := { program := "ytoikilbndhjfcabdoor", sum := "dcf68b724c66608d82250bfe13afc1eec243cd9de96d812021c46efe692190bb", func := "abecedary/abecedarylaw01.LettersApart", spec := "lettersApart", named := ["abecedary/letters.lead", "abecedary/letters.least"], apart := false, laid := [("abecedary/letters.least", laid_abecedary_letters_least), ("abecedary/letters.lead", laid_abecedary_letters_lead)], narrowed := true }
def LettersApartUptoSaid : Prop := lettersApartUptoRow.holds Tryd.pinned (OpenSpec.upto lettersApartSpec)

/-- 'abecedarylaw01.LettersWords', WHERE WHAT IT READS IS OF BULK AT MOST 1048576: true; the input reads as it did. -/
def lettersWordsUptoRow : OpenClaim := { program := "ytoikilbndhjfcabdoor", sum := "dcf68b724c66608d82250bfe13afc1eec243cd9de96d812021c46efe692190bb", func := "abecedary/abecedarylaw01.LettersWords", spec := "lettersWords", named := ["abecedary/letters.lead", "abecedary/letters.least"], apart := false, laid := [("abecedary/letters.least", laid_abecedary_letters_least), ("abecedary/letters.lead", laid_abecedary_letters_lead)], narrowed := true }
def LettersWordsUptoSaid : Prop := lettersWordsUptoRow.holds Tryd.pinned (OpenSpec.upto lettersWordsSpec)

/-- 'abecedarylaw01.LettersCommon', WHERE WHAT IT READS IS OF BULK AT MOST 1048576: true; the input reads as it did. -/
def lettersCommonUptoRow : OpenClaim := { program := "ytoikilbndhjfcabdoor", sum := "dcf68b724c66608d82250bfe13afc1eec243cd9de96d812021c46efe692190bb", func := "abecedary/abecedarylaw01.LettersCommon", spec := "lettersCommon", named := ["abecedary/letters.lead", "abecedary/letters.least"], apart := false, laid := [("abecedary/letters.least", laid_abecedary_letters_least), ("abecedary/letters.lead", laid_abecedary_letters_lead)], narrowed := true }
def LettersCommonUptoSaid : Prop := lettersCommonUptoRow.holds Tryd.pinned (OpenSpec.upto lettersCommonSpec)

end Rows
end Go.Proofs.YtoikilbndhjfcabDoor
