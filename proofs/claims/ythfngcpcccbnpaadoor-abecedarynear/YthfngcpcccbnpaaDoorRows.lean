/-
  NARROWER THAN 'FOR EVERY INPUT', by the rows' own cells (each row's printed sentence says how): FuzzyAll: laid · FuzzyMore: laid · FuzzyExact: laid · AbecedaryNear: laid · AbecedaryFinds: laid.
  DERIVED. THE GIVEN ROWS OF THIS SEAT. 5 by the template 'for every input the law returns true; each argument reads behind the call as it read before'; 0 by the template 'total and deterministic' (their statements: YthfngcpcccbnpaaDoorTotals.lean).
  GIVEN WITH THE SEED: the statements are not yours to turn. If you find one false, say at which input.
  Laid BY PROGRAM, IN A SANDBOX (cutbox-rows.mjs): the forced cells as the released guide's own fill.sh prints them over the translation f3156480b9eb1d2e… (all of the seat's roots in one cut). By AI agents, Wed Nov 11 2026. No macro, syntax, notation, axiom, sorry.
-/
import Derived.Test.YthfngcpcccbnpaaDoorChecked
import GoSem.Claim
import GoSem.ClaimJoined
import GoSem.ClaimMapViews
import Derived.JoinedTies
import Derived.KernelRfl
namespace Go.Proofs.YthfngcpcccbnpaaDoor
/- THE CELL 'sum', in the pinned program and in every row, IS THE sha256 OF THE DUMP (.gsa) THAT YthfngcpcccbnpaaDoorProg.lean LOADS. Nothing in Lean hashes anything: it is a label: what it is worth is what the hold of that sum in a sandbox is worth. -/
noncomputable def Tryd.pinned : Pinned := { name := "ythfngcpcccbnpaadoor", sum := "f3156480b9eb1d2e52b2bab6ae67cc35b577d785f78434afde27e3529d4e905c", checked := Tryd.checked }
namespace Rows
def none {H : Type} : Left H := { results := [], args := [] }

/- WHAT THE LISTED PACKAGE-LEVEL VARIABLES READ AS WHEN THE CALL BEGINS. Each datum BY PROGRAM (the guide's laid-datum.mjs) off the statement by which the dump's own 'gosem.cut.vars' lays the variable. In a bare row this is a premise. The card (YthfngcpcccbnpaaDoorCards.lean) ties it to the program's text. -/
def laid_abecedary_letters_least {H : Type} : DataW H := .agg [.lit (.int .i32 0), .lit (.int .i32 0), .lit (.int .i32 128), .lit (.int .i32 2048), .lit (.int .i32 65536)]
def laid_abecedary_letters_lead {H : Type} : DataW H := .agg [.lit (.int .u8 0), .lit (.int .u8 0), .lit (.int .u8 192), .lit (.int .u8 224), .lit (.int .u8 240)]

/-- 'abecedarylaw12.FuzzyAll': WHATEVER THE INPUT: true; the input reads as it did. -/
def fuzzyAllSpec : ChangeSpec := { name := "fuzzyAll", fn := fun _ => fun
  | [d1, d2, d3] => { results := [.lit (.bool true)], args := [d1, d2, d3] }
  | _ => none }
def fuzzyAllRow : OpenClaim := { program := "ythfngcpcccbnpaadoor", sum := "f3156480b9eb1d2e52b2bab6ae67cc35b577d785f78434afde27e3529d4e905c", func := "abecedary/abecedarylaw12.FuzzyAll", spec := "fuzzyAll", unfollowed := true, recurses := true, named := ["abecedary/letters.lead", "abecedary/letters.least"], plainKeys := false, apart := false, laid := [("abecedary/letters.least", laid_abecedary_letters_least), ("abecedary/letters.lead", laid_abecedary_letters_lead)] }
def FuzzyAllSaid : Prop := fuzzyAllRow.holds Tryd.pinned (OpenSpec.ofChange fuzzyAllSpec)

/-- ITS FALSE NEIGHBOUR: 'it returns false'. Refute it at one input. -/
def fuzzyAllWrong : ChangeSpec := { name := "fuzzyAll", fn := fun _ => fun
  | [d1, d2, d3] => { results := [.lit (.bool false)], args := [d1, d2, d3] }
  | _ => none }
def FuzzyAllWrongFalsely : Prop := fuzzyAllRow.holds Tryd.pinned (OpenSpec.ofChange fuzzyAllWrong)

/-- 'abecedarylaw12.FuzzyMore': WHATEVER THE INPUT: true; the input reads as it did. -/
def fuzzyMoreSpec : ChangeSpec := { name := "fuzzyMore", fn := fun _ => fun
  | [d1, d2, d3] => { results := [.lit (.bool true)], args := [d1, d2, d3] }
  | _ => none }
def fuzzyMoreRow : OpenClaim := { program := "ythfngcpcccbnpaadoor", sum := "f3156480b9eb1d2e52b2bab6ae67cc35b577d785f78434afde27e3529d4e905c", func := "abecedary/abecedarylaw12.FuzzyMore", spec := "fuzzyMore", unfollowed := true, recurses := true, named := ["abecedary/letters.lead", "abecedary/letters.least"], plainKeys := false, apart := false, laid := [("abecedary/letters.least", laid_abecedary_letters_least), ("abecedary/letters.lead", laid_abecedary_letters_lead)] }
def FuzzyMoreSaid : Prop := fuzzyMoreRow.holds Tryd.pinned (OpenSpec.ofChange fuzzyMoreSpec)

/-- ITS FALSE NEIGHBOUR: 'it returns false'. Refute it at one input. -/
def fuzzyMoreWrong : ChangeSpec := { name := "fuzzyMore", fn := fun _ => fun
  | [d1, d2, d3] => { results := [.lit (.bool false)], args := [d1, d2, d3] }
  | _ => none }
def FuzzyMoreWrongFalsely : Prop := fuzzyMoreRow.holds Tryd.pinned (OpenSpec.ofChange fuzzyMoreWrong)

/-- 'abecedarylaw12.FuzzyExact': WHATEVER THE INPUT: true; the input reads as it did. -/
def fuzzyExactSpec : ChangeSpec := { name := "fuzzyExact", fn := fun _ => fun
  | [d1, d2] => { results := [.lit (.bool true)], args := [d1, d2] }
  | _ => none }
def fuzzyExactRow : OpenClaim := { program := "ythfngcpcccbnpaadoor", sum := "f3156480b9eb1d2e52b2bab6ae67cc35b577d785f78434afde27e3529d4e905c", func := "abecedary/abecedarylaw12.FuzzyExact", spec := "fuzzyExact", unfollowed := true, recurses := true, named := ["abecedary/letters.lead", "abecedary/letters.least"], plainKeys := false, apart := false, laid := [("abecedary/letters.least", laid_abecedary_letters_least), ("abecedary/letters.lead", laid_abecedary_letters_lead)] }
def FuzzyExactSaid : Prop := fuzzyExactRow.holds Tryd.pinned (OpenSpec.ofChange fuzzyExactSpec)

/-- ITS FALSE NEIGHBOUR: 'it returns false'. Refute it at one input. -/
def fuzzyExactWrong : ChangeSpec := { name := "fuzzyExact", fn := fun _ => fun
  | [d1, d2] => { results := [.lit (.bool false)], args := [d1, d2] }
  | _ => none }
def FuzzyExactWrongFalsely : Prop := fuzzyExactRow.holds Tryd.pinned (OpenSpec.ofChange fuzzyExactWrong)

/-- 'abecedarytop.AbecedaryNear': WHATEVER THE INPUT: true; the input reads as it did. -/
def abecedaryNearSpec : ChangeSpec := { name := "abecedaryNear", fn := fun _ => fun
  | [d1, d2, d3] => { results := [.lit (.bool true)], args := [d1, d2, d3] }
  | _ => none }
def abecedaryNearRow : OpenClaim := { program := "ythfngcpcccbnpaadoor", sum := "f3156480b9eb1d2e52b2bab6ae67cc35b577d785f78434afde27e3529d4e905c", func := "abecedary/abecedarytop.AbecedaryNear", spec := "abecedaryNear", unfollowed := true, recurses := true, named := ["abecedary/letters.lead", "abecedary/letters.least"], plainKeys := false, apart := false, laid := [("abecedary/letters.least", laid_abecedary_letters_least), ("abecedary/letters.lead", laid_abecedary_letters_lead)] }
def AbecedaryNearSaid : Prop := abecedaryNearRow.holds Tryd.pinned (OpenSpec.ofChange abecedaryNearSpec)

/-- ITS FALSE NEIGHBOUR: 'it returns false'. Refute it at one input. -/
def abecedaryNearWrong : ChangeSpec := { name := "abecedaryNear", fn := fun _ => fun
  | [d1, d2, d3] => { results := [.lit (.bool false)], args := [d1, d2, d3] }
  | _ => none }
def AbecedaryNearWrongFalsely : Prop := abecedaryNearRow.holds Tryd.pinned (OpenSpec.ofChange abecedaryNearWrong)

/-- 'abecedarytop.AbecedaryFinds': WHATEVER THE INPUT: true; the input reads as it did. -/
def abecedaryFindsSpec : ChangeSpec := { name := "abecedaryFinds", fn := fun _ => fun
  | [d1, d2, d3] => { results := [.lit (.bool true)], args := [d1, d2, d3] }
  | _ => none }
def abecedaryFindsRow : OpenClaim := { program := "ythfngcpcccbnpaadoor", sum := "f3156480b9eb1d2e52b2bab6ae67cc35b577d785f78434afde27e3529d4e905c", func := "abecedary/abecedarytop.AbecedaryFinds", spec := "abecedaryFinds", unfollowed := true, recurses := true, named := ["abecedary/letters.lead", "abecedary/letters.least"], plainKeys := false, apart := false, laid := [("abecedary/letters.least", laid_abecedary_letters_least), ("abecedary/letters.lead", laid_abecedary_letters_lead)] }
def AbecedaryFindsSaid : Prop := abecedaryFindsRow.holds Tryd.pinned (OpenSpec.ofChange abecedaryFindsSpec)

/-- ITS FALSE NEIGHBOUR: 'it returns false'. Refute it at one input. -/
def abecedaryFindsWrong : ChangeSpec := { name := "abecedaryFinds", fn := fun _ => fun
  | [d1, d2, d3] => { results := [.lit (.bool false)], args := [d1, d2, d3] }
  | _ => none }
def AbecedaryFindsWrongFalsely : Prop := abecedaryFindsRow.holds Tryd.pinned (OpenSpec.ofChange abecedaryFindsWrong)

/- THE SECOND FORM. 'bulk': how many values and letters a reading holds, each counted each time it is reached (what is shared counts as often as it is met; a slice's spare places count too). A statement '..UptoSaid' is the law's where the arguments, and the package variables that the reading takes, are together of bulk at most 1048576: NARROWER than '..Said'. Prove '..Said' where nothing that the law and all that it calls make is longer than what came in: it says more and counts as full. Else prove '..UptoSaid'. A law counts once. -/
mutual
def uptoBulk {H : Type} : DataW H → Nat
  | .lit (.string bytes) => bytes.length + 1
  | .lit _ => 1
  | .nil => 1
  | .ptr d => uptoBulk d + 1
  | .slice elems spare => uptoBulkAll elems + uptoBulkAll spare + 1
  | .agg parts => uptoBulkAll parts + 1
  | .iface _ d => uptoBulk d + 1
  | .map entries => uptoBulkEntries entries + 1
  | .held _ => 1
def uptoBulkAll {H : Type} : List (DataW H) → Nat
  | [] => 0
  | d :: r => uptoBulk d + uptoBulkAll r
def uptoBulkEntries {H : Type} : List (Lit × DataW H) → Nat
  | [] => 0
  | x :: r => uptoBulkEntry x + uptoBulkEntries r
def uptoBulkEntry {H : Type} : Lit × DataW H → Nat
  | (.string bytes, d) => bytes.length + uptoBulk d + 1
  | (_, d) => uptoBulk d + 1
 end
def uptoSmall : (H : Type) → List (DataW H) → Bool := fun _ ds => decide (uptoBulkAll ds ≤ 1048576)
def OpenSpec.upto (s : _root_.Go.ChangeSpec) : _root_.Go.OpenSpec := { _root_.Go.OpenSpec.ofChange s with cond := some uptoSmall }

/-- 'abecedarylaw12.FuzzyAll', WHERE WHAT IT READS IS OF BULK AT MOST 1048576: true; the input reads as it did. -/
def fuzzyAllUptoRow : OpenClaim := { program := "ythfngcpcccbnpaadoor", sum := "f3156480b9eb1d2e52b2bab6ae67cc35b577d785f78434afde27e3529d4e905c", func := "abecedary/abecedarylaw12.FuzzyAll", spec := "fuzzyAll", unfollowed := true, recurses := true, named := ["abecedary/letters.lead", "abecedary/letters.least"], plainKeys := false, apart := false, laid := [("abecedary/letters.least", laid_abecedary_letters_least), ("abecedary/letters.lead", laid_abecedary_letters_lead)], narrowed := true }
def FuzzyAllUptoSaid : Prop := fuzzyAllUptoRow.holds Tryd.pinned (OpenSpec.upto fuzzyAllSpec)

/-- 'abecedarylaw12.FuzzyMore', WHERE WHAT IT READS IS OF BULK AT MOST 1048576: true; the input reads as it did. -/
def fuzzyMoreUptoRow : OpenClaim := { program := "ythfngcpcccbnpaadoor", sum := "f3156480b9eb1d2e52b2bab6ae67cc35b577d785f78434afde27e3529d4e905c", func := "abecedary/abecedarylaw12.FuzzyMore", spec := "fuzzyMore", unfollowed := true, recurses := true, named := ["abecedary/letters.lead", "abecedary/letters.least"], plainKeys := false, apart := false, laid := [("abecedary/letters.least", laid_abecedary_letters_least), ("abecedary/letters.lead", laid_abecedary_letters_lead)], narrowed := true }
def FuzzyMoreUptoSaid : Prop := fuzzyMoreUptoRow.holds Tryd.pinned (OpenSpec.upto fuzzyMoreSpec)

/-- 'abecedarylaw12.FuzzyExact', WHERE WHAT IT READS IS OF BULK AT MOST 1048576: true; the input reads as it did. -/
def fuzzyExactUptoRow : OpenClaim := { program := "ythfngcpcccbnpaadoor", sum := "f3156480b9eb1d2e52b2bab6ae67cc35b577d785f78434afde27e3529d4e905c", func := "abecedary/abecedarylaw12.FuzzyExact", spec := "fuzzyExact", unfollowed := true, recurses := true, named := ["abecedary/letters.lead", "abecedary/letters.least"], plainKeys := false, apart := false, laid := [("abecedary/letters.least", laid_abecedary_letters_least), ("abecedary/letters.lead", laid_abecedary_letters_lead)], narrowed := true }
def FuzzyExactUptoSaid : Prop := fuzzyExactUptoRow.holds Tryd.pinned (OpenSpec.upto fuzzyExactSpec)

/-- 'abecedarytop.AbecedaryNear', WHERE WHAT IT READS IS OF BULK AT MOST 1048576: true; the input reads as it did. -/
def abecedaryNearUptoRow : OpenClaim := { program := "ythfngcpcccbnpaadoor", sum := "f3156480b9eb1d2e52b2bab6ae67cc35b577d785f78434afde27e3529d4e905c", func := "abecedary/abecedarytop.AbecedaryNear", spec := "abecedaryNear", unfollowed := true, recurses := true, named := ["abecedary/letters.lead", "abecedary/letters.least"], plainKeys := false, apart := false, laid := [("abecedary/letters.least", laid_abecedary_letters_least), ("abecedary/letters.lead", laid_abecedary_letters_lead)], narrowed := true }
def AbecedaryNearUptoSaid : Prop := abecedaryNearUptoRow.holds Tryd.pinned (OpenSpec.upto abecedaryNearSpec)

/-- 'abecedarytop.AbecedaryFinds', WHERE WHAT IT READS IS OF BULK AT MOST 1048576: true; the input reads as it did. -/
def abecedaryFindsUptoRow : OpenClaim := { program := "ythfngcpcccbnpaadoor", sum := "f3156480b9eb1d2e52b2bab6ae67cc35b577d785f78434afde27e3529d4e905c", func := "abecedary/abecedarytop.AbecedaryFinds", spec := "abecedaryFinds", unfollowed := true, recurses := true, named := ["abecedary/letters.lead", "abecedary/letters.least"], plainKeys := false, apart := false, laid := [("abecedary/letters.least", laid_abecedary_letters_least), ("abecedary/letters.lead", laid_abecedary_letters_lead)], narrowed := true }
def AbecedaryFindsUptoSaid : Prop := abecedaryFindsUptoRow.holds Tryd.pinned (OpenSpec.upto abecedaryFindsSpec)

end Rows
end Go.Proofs.YthfngcpcccbnpaaDoor
