/-
  NARROWER THAN 'FOR EVERY INPUT', by the rows' own cells (each row's printed sentence says how): FuzzyMerges: laid · FuzzyOver: laid · FuzzyNothing: laid.
  DERIVED. THE GIVEN ROWS OF THIS SEAT. 3 by the template 'for every input the law returns true; each argument reads behind the call as it read before'; 0 by the template 'total and deterministic' (their statements: YtncnefpkfbngaaaGreatDoorTotals.lean).
  GIVEN WITH THE SEED: the statements are not yours to turn. If you find one false, say at which input.
  Laid BY PROGRAM, IN A SANDBOX (cutbox-rows.mjs): the forced cells as the released guide's own fill.sh prints them over the translation ba377a95151882e7… (all of the seat's roots in one cut). By AI agents, Wed Nov 11 2026. No macro, syntax, notation, axiom, sorry.
-/
import Derived.Test.YtncnefpkfbngaaaGreatDoorChecked
import GoSem.Claim
import GoSem.ClaimJoined
import GoSem.ClaimMapViews
import Derived.JoinedTies
import Derived.KernelRfl
namespace Go.Proofs.YtncnefpkfbngaaaGreatDoor
/- THE CELL 'sum', in the pinned program and in every row, IS THE sha256 OF THE DUMP (.gsa) THAT YtncnefpkfbngaaaGreatDoorProg.lean LOADS. Nothing in Lean hashes anything: it is a label: what it is worth is what the hold of that sum in a sandbox is worth. -/
noncomputable def Tryz.pinned : Pinned := { name := "ytncnefpkfbngaaagreatdoor", sum := "ba377a95151882e74614c58169648d541098b40b738a54b8613f2c943b324a3a", checked := Tryz.checked }
namespace Rows
def none {H : Type} : Left H := { results := [], args := [] }

/- WHAT THE LISTED PACKAGE-LEVEL VARIABLES READ AS WHEN THE CALL BEGINS. Each datum BY PROGRAM (the guide's laid-datum.mjs) off the statement by which the dump's own 'gosem.cut.vars' lays the variable. In a bare row this is a premise. The card (YtncnefpkfbngaaaGreatDoorCards.lean) ties it to the program's text. -/
def laid_abecedary_letters_least {H : Type} : DataW H := .agg [.lit (.int .i32 0), .lit (.int .i32 0), .lit (.int .i32 128), .lit (.int .i32 2048), .lit (.int .i32 65536)]
def laid_abecedary_letters_lead {H : Type} : DataW H := .agg [.lit (.int .u8 0), .lit (.int .u8 0), .lit (.int .u8 192), .lit (.int .u8 224), .lit (.int .u8 240)]

/-- 'abecedarylaw12.FuzzyMerges': WHATEVER THE INPUT: true; the input reads as it did. -/
def fuzzyMergesSpec : ChangeSpec := { name := "fuzzyMerges", fn := fun _ => fun
  | [d1, d2, d3] => { results := [.lit (.bool true)], args := [d1, d2, d3] }
  | _ => none }
def fuzzyMergesRow : OpenClaim := { program := "ytncnefpkfbngaaagreatdoor", sum := "ba377a95151882e74614c58169648d541098b40b738a54b8613f2c943b324a3a", func := "abecedary/abecedarylaw12.FuzzyMerges", spec := "fuzzyMerges", unfollowed := true, recurses := true, named := ["abecedary/letters.lead", "abecedary/letters.least"], apart := false, laid := [("abecedary/letters.least", laid_abecedary_letters_least), ("abecedary/letters.lead", laid_abecedary_letters_lead)] }
def FuzzyMergesSaid : Prop := fuzzyMergesRow.holds Tryz.pinned (OpenSpec.ofChange fuzzyMergesSpec)

/-- ITS FALSE NEIGHBOUR: 'it returns false'. Refute it at one input. -/
def fuzzyMergesWrong : ChangeSpec := { name := "fuzzyMerges", fn := fun _ => fun
  | [d1, d2, d3] => { results := [.lit (.bool false)], args := [d1, d2, d3] }
  | _ => none }
def FuzzyMergesWrongFalsely : Prop := fuzzyMergesRow.holds Tryz.pinned (OpenSpec.ofChange fuzzyMergesWrong)

/-- 'abecedarylaw12.FuzzyOver': WHATEVER THE INPUT: true; the input reads as it did. -/
def fuzzyOverSpec : ChangeSpec := { name := "fuzzyOver", fn := fun _ => fun
  | [d1, d2, d3] => { results := [.lit (.bool true)], args := [d1, d2, d3] }
  | _ => none }
def fuzzyOverRow : OpenClaim := { program := "ytncnefpkfbngaaagreatdoor", sum := "ba377a95151882e74614c58169648d541098b40b738a54b8613f2c943b324a3a", func := "abecedary/abecedarylaw12.FuzzyOver", spec := "fuzzyOver", unfollowed := true, recurses := true, named := ["abecedary/letters.lead", "abecedary/letters.least"], apart := false, laid := [("abecedary/letters.least", laid_abecedary_letters_least), ("abecedary/letters.lead", laid_abecedary_letters_lead)] }
def FuzzyOverSaid : Prop := fuzzyOverRow.holds Tryz.pinned (OpenSpec.ofChange fuzzyOverSpec)

/-- ITS FALSE NEIGHBOUR: 'it returns false'. Refute it at one input. -/
def fuzzyOverWrong : ChangeSpec := { name := "fuzzyOver", fn := fun _ => fun
  | [d1, d2, d3] => { results := [.lit (.bool false)], args := [d1, d2, d3] }
  | _ => none }
def FuzzyOverWrongFalsely : Prop := fuzzyOverRow.holds Tryz.pinned (OpenSpec.ofChange fuzzyOverWrong)

/-- 'abecedarylaw12.FuzzyNothing': WHATEVER THE INPUT: true; the input reads as it did. -/
def fuzzyNothingSpec : ChangeSpec := { name := "fuzzyNothing", fn := fun _ => fun
  | [d1, d2, d3] => { results := [.lit (.bool true)], args := [d1, d2, d3] }
  | _ => none }
def fuzzyNothingRow : OpenClaim := { program := "ytncnefpkfbngaaagreatdoor", sum := "ba377a95151882e74614c58169648d541098b40b738a54b8613f2c943b324a3a", func := "abecedary/abecedarylaw12.FuzzyNothing", spec := "fuzzyNothing", unfollowed := true, recurses := true, named := ["abecedary/letters.lead", "abecedary/letters.least"], apart := false, laid := [("abecedary/letters.least", laid_abecedary_letters_least), ("abecedary/letters.lead", laid_abecedary_letters_lead)] }
def FuzzyNothingSaid : Prop := fuzzyNothingRow.holds Tryz.pinned (OpenSpec.ofChange fuzzyNothingSpec)

/-- ITS FALSE NEIGHBOUR: 'it returns false'. Refute it at one input. -/
def fuzzyNothingWrong : ChangeSpec := { name := "fuzzyNothing", fn := fun _ => fun
  | [d1, d2, d3] => { results := [.lit (.bool false)], args := [d1, d2, d3] }
  | _ => none }
def FuzzyNothingWrongFalsely : Prop := fuzzyNothingRow.holds Tryz.pinned (OpenSpec.ofChange fuzzyNothingWrong)

/- THE SECOND FORM. 'bulk': how many values and letters a reading holds, each counted each time it is reached (what is shared counts as often as it is met; a slice's spare places count too). A statement '..UptoSaid' is the law's where the arguments, and the package variables that the reading takes, are together of bulk at most 1048576: NARROWER than '..Said'. Prove '..Said' where nothing that the law and all that it calls make is longer than what came in: it says more and counts as full. Else prove '..UptoSaid'. A law counts once. -/
mutual
def uptoBulk {H : Type} : DataW H → Nat
  | .lit (.string bytes) => bytes.length + 1
  | .lit _ => 1
  | .nil => 1
  | .ptr d => uptoBulk d + 1
  | .slice elems spare => uptoBulkAll elems + uptoBulkAll spare + 1
  | .agg parts => uptoBulkAll parts + 1
  | .iface _ d => uptoBulk d + 1
  | .map entries => uptoBulkEntries entries + 1
  | .held _ => 1
def uptoBulkAll {H : Type} : List (DataW H) → Nat
  | [] => 0
  | d :: r => uptoBulk d + uptoBulkAll r
def uptoBulkEntries {H : Type} : List (Lit × DataW H) → Nat
  | [] => 0
  | x :: r => uptoBulkEntry x + uptoBulkEntries r
def uptoBulkEntry {H : Type} : Lit × DataW H → Nat
  | (.string bytes, d) => bytes.length + uptoBulk d + 1
  | (_, d) => uptoBulk d + 1
 end
def uptoSmall : (H : Type) → List (DataW H) → Bool := fun _ ds => decide (uptoBulkAll ds ≤ 1048576)
def OpenSpec.upto (s : _root_.Go.ChangeSpec) : _root_.Go.OpenSpec := { _root_.Go.OpenSpec.ofChange s with cond := some uptoSmall }

/-- 'abecedarylaw12.FuzzyMerges', WHERE WHAT IT READS IS OF BULK AT MOST 1048576: true; the input reads as it did. -/
def fuzzyMergesUptoRow : OpenClaim := { program := "ytncnefpkfbngaaagreatdoor", sum := "ba377a95151882e74614c58169648d541098b40b738a54b8613f2c943b324a3a", func := "abecedary/abecedarylaw12.FuzzyMerges", spec := "fuzzyMerges", unfollowed := true, recurses := true, named := ["abecedary/letters.lead", "abecedary/letters.least"], apart := false, laid := [("abecedary/letters.least", laid_abecedary_letters_least), ("abecedary/letters.lead", laid_abecedary_letters_lead)], narrowed := true }
def FuzzyMergesUptoSaid : Prop := fuzzyMergesUptoRow.holds Tryz.pinned (OpenSpec.upto fuzzyMergesSpec)

/-- 'abecedarylaw12.FuzzyOver', WHERE WHAT IT READS IS OF BULK AT MOST 1048576: true; the input reads as it did. -/
def fuzzyOverUptoRow : OpenClaim := { program := "ytncnefpkfbngaaagreatdoor", sum := "ba377a95151882e74614c58169648d541098b40b738a54b8613f2c943b324a3a", func := "abecedary/abecedarylaw12.FuzzyOver", spec := "fuzzyOver", unfollowed := true, recurses := true, named := ["abecedary/letters.lead", "abecedary/letters.least"], apart := false, laid := [("abecedary/letters.least", laid_abecedary_letters_least), ("abecedary/letters.lead", laid_abecedary_letters_lead)], narrowed := true }
def FuzzyOverUptoSaid : Prop := fuzzyOverUptoRow.holds Tryz.pinned (OpenSpec.upto fuzzyOverSpec)

/-- 'abecedarylaw12.FuzzyNothing', WHERE WHAT IT READS IS OF BULK AT MOST 1048576: true; the input reads as it did. -/
def fuzzyNothingUptoRow : OpenClaim := { program := "ytncnefpkfbngaaagreatdoor", sum := "ba377a95151882e74614c58169648d541098b40b738a54b8613f2c943b324a3a", func := "abecedary/abecedarylaw12.FuzzyNothing", spec := "fuzzyNothing", unfollowed := true, recurses := true, named := ["abecedary/letters.lead", "abecedary/letters.least"], apart := false, laid := [("abecedary/letters.least", laid_abecedary_letters_least), ("abecedary/letters.lead", laid_abecedary_letters_lead)], narrowed := true }
def FuzzyNothingUptoSaid : Prop := fuzzyNothingUptoRow.holds Tryz.pinned (OpenSpec.upto fuzzyNothingSpec)

end Rows
end Go.Proofs.YtncnefpkfbngaaaGreatDoor
