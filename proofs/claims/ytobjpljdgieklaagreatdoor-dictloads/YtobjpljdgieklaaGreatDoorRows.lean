/-
  NARROWER THAN 'FOR EVERY INPUT', by the rows' own cells (each row's printed sentence says how): DictAll: laid · DictLoads: laid · DictWeighs: laid · DictSuggests: laid · DictCompacts: laid · DictMachine: laid · DictChanges: laid · DictApart: laid · DictOthers: laid · DictFull: laid.
  DERIVED. THE GIVEN ROWS OF THIS SEAT. 10 by the template 'for every input the law returns true; each argument reads behind the call as it read before'; 0 by the template 'total and deterministic' (their statements: YtobjpljdgieklaaGreatDoorTotals.lean).
  GIVEN WITH THE SEED: the statements are not yours to turn. If you find one false, say at which input.
  Laid BY PROGRAM, IN A SANDBOX (cutbox-rows.mjs): the forced cells as the released guide's own fill.sh prints them over the translation 7a992fcabc6b12e6… (all of the seat's roots in one cut). By AI agents, Wed Nov 11 2026. No macro, syntax, notation, axiom, sorry.
-/
import Derived.Test.YtobjpljdgieklaaGreatDoorChecked
import GoSem.Claim
import GoSem.ClaimJoined
import GoSem.ClaimMapViews
import Derived.JoinedTies
import Derived.KernelRfl
namespace Go.Proofs.YtobjpljdgieklaaGreatDoor
/- THE CELL 'sum', in the pinned program and in every row, IS THE sha256 OF THE DUMP (.gsa) THAT YtobjpljdgieklaaGreatDoorProg.lean LOADS. Nothing in Lean hashes anything: it is a label: what it is worth is what the hold of that sum in a sandbox is worth. -/
noncomputable def Tryz.pinned : Pinned := { name := "ytobjpljdgieklaagreatdoor", sum := "7a992fcabc6b12e6e31c105b21f3f02117e1854a9be122fdd95a429e864b02c4", checked := Tryz.checked }
namespace Rows
def none {H : Type} : Left H := { results := [], args := [] }

/- WHAT THE LISTED PACKAGE-LEVEL VARIABLES READ AS WHEN THE CALL BEGINS. Each datum BY PROGRAM (the guide's laid-datum.mjs) off the statement by which the dump's own 'gosem.cut.vars' lays the variable. In a bare row this is a premise. The card (YtobjpljdgieklaaGreatDoorCards.lean) ties it to the program's text. -/
def laid_abecedary_letters_least {H : Type} : DataW H := .agg [.lit (.int .i32 0), .lit (.int .i32 0), .lit (.int .i32 128), .lit (.int .i32 2048), .lit (.int .i32 65536)]
def laid_abecedary_letters_lead {H : Type} : DataW H := .agg [.lit (.int .u8 0), .lit (.int .u8 0), .lit (.int .u8 192), .lit (.int .u8 224), .lit (.int .u8 240)]

/-- 'abecedarylaw14.DictAll': WHATEVER THE INPUT: true; the input reads as it did. -/
def dictAllSpec : ChangeSpec := { name := "dictAll", fn := fun _ => fun
  | [d1, d2] => { results := [.lit (.bool true)], args := [d1, d2] }
  | _ => none }
def dictAllRow : OpenClaim := { program := "ytobjpljdgieklaagreatdoor", sum := "7a992fcabc6b12e6e31c105b21f3f02117e1854a9be122fdd95a429e864b02c4", func := "abecedary/abecedarylaw14.DictAll", spec := "dictAll", unfollowed := true, recurses := true, named := ["abecedary/letters.lead", "abecedary/letters.least"], plainKeys := false, apart := false, laid := [("abecedary/letters.least", laid_abecedary_letters_least), ("abecedary/letters.lead", laid_abecedary_letters_lead)] }
def DictAllSaid : Prop := dictAllRow.holds Tryz.pinned (OpenSpec.ofChange dictAllSpec)

/-- ITS FALSE NEIGHBOUR: 'it returns false'. Refute it at one input. -/
def dictAllWrong : ChangeSpec := { name := "dictAll", fn := fun _ => fun
  | [d1, d2] => { results := [.lit (.bool false)], args := [d1, d2] }
  | _ => none }
def DictAllWrongFalsely : Prop := dictAllRow.holds Tryz.pinned (OpenSpec.ofChange dictAllWrong)

/-- 'abecedarylaw14.DictLoads': WHATEVER THE INPUT: true; the input reads as it did. -/
def dictLoadsSpec : ChangeSpec := { name := "dictLoads", fn := fun _ => fun
  | [d] => { results := [.lit (.bool true)], args := [d] }
  | _ => none }
def dictLoadsRow : OpenClaim := { program := "ytobjpljdgieklaagreatdoor", sum := "7a992fcabc6b12e6e31c105b21f3f02117e1854a9be122fdd95a429e864b02c4", func := "abecedary/abecedarylaw14.DictLoads", spec := "dictLoads", unfollowed := true, recurses := true, named := ["abecedary/letters.lead", "abecedary/letters.least"], plainKeys := false, apart := false, laid := [("abecedary/letters.least", laid_abecedary_letters_least), ("abecedary/letters.lead", laid_abecedary_letters_lead)] }
def DictLoadsSaid : Prop := dictLoadsRow.holds Tryz.pinned (OpenSpec.ofChange dictLoadsSpec)

/-- ITS FALSE NEIGHBOUR: 'it returns false'. Refute it at one input. -/
def dictLoadsWrong : ChangeSpec := { name := "dictLoads", fn := fun _ => fun
  | [d] => { results := [.lit (.bool false)], args := [d] }
  | _ => none }
def DictLoadsWrongFalsely : Prop := dictLoadsRow.holds Tryz.pinned (OpenSpec.ofChange dictLoadsWrong)

/-- 'abecedarylaw14.DictWeighs': WHATEVER THE INPUT: true; the input reads as it did. -/
def dictWeighsSpec : ChangeSpec := { name := "dictWeighs", fn := fun _ => fun
  | [d1, d2, d3] => { results := [.lit (.bool true)], args := [d1, d2, d3] }
  | _ => none }
def dictWeighsRow : OpenClaim := { program := "ytobjpljdgieklaagreatdoor", sum := "7a992fcabc6b12e6e31c105b21f3f02117e1854a9be122fdd95a429e864b02c4", func := "abecedary/abecedarylaw14.DictWeighs", spec := "dictWeighs", unfollowed := true, recurses := true, named := ["abecedary/letters.lead", "abecedary/letters.least"], plainKeys := false, apart := false, laid := [("abecedary/letters.least", laid_abecedary_letters_least), ("abecedary/letters.lead", laid_abecedary_letters_lead)] }
def DictWeighsSaid : Prop := dictWeighsRow.holds Tryz.pinned (OpenSpec.ofChange dictWeighsSpec)

/-- ITS FALSE NEIGHBOUR: 'it returns false'. Refute it at one input. -/
def dictWeighsWrong : ChangeSpec := { name := "dictWeighs", fn := fun _ => fun
  | [d1, d2, d3] => { results := [.lit (.bool false)], args := [d1, d2, d3] }
  | _ => none }
def DictWeighsWrongFalsely : Prop := dictWeighsRow.holds Tryz.pinned (OpenSpec.ofChange dictWeighsWrong)

/-- 'abecedarylaw14.DictSuggests': WHATEVER THE INPUT: true; the input reads as it did. -/
def dictSuggestsSpec : ChangeSpec := { name := "dictSuggests", fn := fun _ => fun
  | [d1, d2, d3] => { results := [.lit (.bool true)], args := [d1, d2, d3] }
  | _ => none }
def dictSuggestsRow : OpenClaim := { program := "ytobjpljdgieklaagreatdoor", sum := "7a992fcabc6b12e6e31c105b21f3f02117e1854a9be122fdd95a429e864b02c4", func := "abecedary/abecedarylaw14.DictSuggests", spec := "dictSuggests", unfollowed := true, recurses := true, named := ["abecedary/letters.lead", "abecedary/letters.least"], plainKeys := false, apart := false, laid := [("abecedary/letters.least", laid_abecedary_letters_least), ("abecedary/letters.lead", laid_abecedary_letters_lead)] }
def DictSuggestsSaid : Prop := dictSuggestsRow.holds Tryz.pinned (OpenSpec.ofChange dictSuggestsSpec)

/-- ITS FALSE NEIGHBOUR: 'it returns false'. Refute it at one input. -/
def dictSuggestsWrong : ChangeSpec := { name := "dictSuggests", fn := fun _ => fun
  | [d1, d2, d3] => { results := [.lit (.bool false)], args := [d1, d2, d3] }
  | _ => none }
def DictSuggestsWrongFalsely : Prop := dictSuggestsRow.holds Tryz.pinned (OpenSpec.ofChange dictSuggestsWrong)

/-- 'abecedarylaw14.DictCompacts': WHATEVER THE INPUT: true; the input reads as it did. -/
def dictCompactsSpec : ChangeSpec := { name := "dictCompacts", fn := fun _ => fun
  | [d1, d2, d3] => { results := [.lit (.bool true)], args := [d1, d2, d3] }
  | _ => none }
def dictCompactsRow : OpenClaim := { program := "ytobjpljdgieklaagreatdoor", sum := "7a992fcabc6b12e6e31c105b21f3f02117e1854a9be122fdd95a429e864b02c4", func := "abecedary/abecedarylaw14.DictCompacts", spec := "dictCompacts", unfollowed := true, recurses := true, named := ["abecedary/letters.lead", "abecedary/letters.least"], plainKeys := false, apart := false, laid := [("abecedary/letters.least", laid_abecedary_letters_least), ("abecedary/letters.lead", laid_abecedary_letters_lead)] }
def DictCompactsSaid : Prop := dictCompactsRow.holds Tryz.pinned (OpenSpec.ofChange dictCompactsSpec)

/-- ITS FALSE NEIGHBOUR: 'it returns false'. Refute it at one input. -/
def dictCompactsWrong : ChangeSpec := { name := "dictCompacts", fn := fun _ => fun
  | [d1, d2, d3] => { results := [.lit (.bool false)], args := [d1, d2, d3] }
  | _ => none }
def DictCompactsWrongFalsely : Prop := dictCompactsRow.holds Tryz.pinned (OpenSpec.ofChange dictCompactsWrong)

/-- 'abecedarylaw14.DictMachine': WHATEVER THE INPUT: true; the input reads as it did. -/
def dictMachineSpec : ChangeSpec := { name := "dictMachine", fn := fun _ => fun
  | [d1, d2] => { results := [.lit (.bool true)], args := [d1, d2] }
  | _ => none }
def dictMachineRow : OpenClaim := { program := "ytobjpljdgieklaagreatdoor", sum := "7a992fcabc6b12e6e31c105b21f3f02117e1854a9be122fdd95a429e864b02c4", func := "abecedary/abecedarylaw14.DictMachine", spec := "dictMachine", unfollowed := true, recurses := true, named := ["abecedary/letters.lead", "abecedary/letters.least"], plainKeys := false, apart := false, laid := [("abecedary/letters.least", laid_abecedary_letters_least), ("abecedary/letters.lead", laid_abecedary_letters_lead)] }
def DictMachineSaid : Prop := dictMachineRow.holds Tryz.pinned (OpenSpec.ofChange dictMachineSpec)

/-- ITS FALSE NEIGHBOUR: 'it returns false'. Refute it at one input. -/
def dictMachineWrong : ChangeSpec := { name := "dictMachine", fn := fun _ => fun
  | [d1, d2] => { results := [.lit (.bool false)], args := [d1, d2] }
  | _ => none }
def DictMachineWrongFalsely : Prop := dictMachineRow.holds Tryz.pinned (OpenSpec.ofChange dictMachineWrong)

/-- 'abecedarylaw14.DictChanges': WHATEVER THE INPUT: true; the input reads as it did. -/
def dictChangesSpec : ChangeSpec := { name := "dictChanges", fn := fun _ => fun
  | [d1, d2] => { results := [.lit (.bool true)], args := [d1, d2] }
  | _ => none }
def dictChangesRow : OpenClaim := { program := "ytobjpljdgieklaagreatdoor", sum := "7a992fcabc6b12e6e31c105b21f3f02117e1854a9be122fdd95a429e864b02c4", func := "abecedary/abecedarylaw14.DictChanges", spec := "dictChanges", unfollowed := true, recurses := true, named := ["abecedary/letters.lead", "abecedary/letters.least"], plainKeys := false, apart := false, laid := [("abecedary/letters.least", laid_abecedary_letters_least), ("abecedary/letters.lead", laid_abecedary_letters_lead)] }
def DictChangesSaid : Prop := dictChangesRow.holds Tryz.pinned (OpenSpec.ofChange dictChangesSpec)

/-- ITS FALSE NEIGHBOUR: 'it returns false'. Refute it at one input. -/
def dictChangesWrong : ChangeSpec := { name := "dictChanges", fn := fun _ => fun
  | [d1, d2] => { results := [.lit (.bool false)], args := [d1, d2] }
  | _ => none }
def DictChangesWrongFalsely : Prop := dictChangesRow.holds Tryz.pinned (OpenSpec.ofChange dictChangesWrong)

/-- 'abecedarylaw14.DictApart': WHATEVER THE INPUT: true; the input reads as it did. -/
def dictApartSpec : ChangeSpec := { name := "dictApart", fn := fun _ => fun
  | [d1, d2, d3] => { results := [.lit (.bool true)], args := [d1, d2, d3] }
  | _ => none }
def dictApartRow : OpenClaim := { program := "ytobjpljdgieklaagreatdoor", sum := "7a992fcabc6b12e6e31c105b21f3f02117e1854a9be122fdd95a429e864b02c4", func := "abecedary/abecedarylaw14.DictApart", spec := "dictApart", unfollowed := true, recurses := true, named := ["abecedary/letters.lead", "abecedary/letters.least"], plainKeys := false, apart := false, laid := [("abecedary/letters.least", laid_abecedary_letters_least), ("abecedary/letters.lead", laid_abecedary_letters_lead)] }
def DictApartSaid : Prop := dictApartRow.holds Tryz.pinned (OpenSpec.ofChange dictApartSpec)

/-- ITS FALSE NEIGHBOUR: 'it returns false'. Refute it at one input. -/
def dictApartWrong : ChangeSpec := { name := "dictApart", fn := fun _ => fun
  | [d1, d2, d3] => { results := [.lit (.bool false)], args := [d1, d2, d3] }
  | _ => none }
def DictApartWrongFalsely : Prop := dictApartRow.holds Tryz.pinned (OpenSpec.ofChange dictApartWrong)

/-- 'abecedarylaw14.DictOthers': WHATEVER THE INPUT: true; the input reads as it did. -/
def dictOthersSpec : ChangeSpec := { name := "dictOthers", fn := fun _ => fun
  | [d1, d2, d3] => { results := [.lit (.bool true)], args := [d1, d2, d3] }
  | _ => none }
def dictOthersRow : OpenClaim := { program := "ytobjpljdgieklaagreatdoor", sum := "7a992fcabc6b12e6e31c105b21f3f02117e1854a9be122fdd95a429e864b02c4", func := "abecedary/abecedarylaw14.DictOthers", spec := "dictOthers", unfollowed := true, recurses := true, named := ["abecedary/letters.lead", "abecedary/letters.least"], plainKeys := false, apart := false, laid := [("abecedary/letters.least", laid_abecedary_letters_least), ("abecedary/letters.lead", laid_abecedary_letters_lead)] }
def DictOthersSaid : Prop := dictOthersRow.holds Tryz.pinned (OpenSpec.ofChange dictOthersSpec)

/-- ITS FALSE NEIGHBOUR: 'it returns false'. Refute it at one input. -/
def dictOthersWrong : ChangeSpec := { name := "dictOthers", fn := fun _ => fun
  | [d1, d2, d3] => { results := [.lit (.bool false)], args := [d1, d2, d3] }
  | _ => none }
def DictOthersWrongFalsely : Prop := dictOthersRow.holds Tryz.pinned (OpenSpec.ofChange dictOthersWrong)

/-- 'abecedarylaw14.DictFull': WHATEVER THE INPUT: true; the input reads as it did. -/
def dictFullSpec : ChangeSpec := { name := "dictFull", fn := fun _ => fun
  | [d] => { results := [.lit (.bool true)], args := [d] }
  | _ => none }
def dictFullRow : OpenClaim := { program := "ytobjpljdgieklaagreatdoor", sum := "7a992fcabc6b12e6e31c105b21f3f02117e1854a9be122fdd95a429e864b02c4", func := "abecedary/abecedarylaw14.DictFull", spec := "dictFull", unfollowed := true, recurses := true, named := ["abecedary/letters.lead", "abecedary/letters.least"], plainKeys := false, apart := false, laid := [("abecedary/letters.least", laid_abecedary_letters_least), ("abecedary/letters.lead", laid_abecedary_letters_lead)] }
def DictFullSaid : Prop := dictFullRow.holds Tryz.pinned (OpenSpec.ofChange dictFullSpec)

/-- ITS FALSE NEIGHBOUR: 'it returns false'. Refute it at one input. -/
def dictFullWrong : ChangeSpec := { name := "dictFull", fn := fun _ => fun
  | [d] => { results := [.lit (.bool false)], args := [d] }
  | _ => none }
def DictFullWrongFalsely : Prop := dictFullRow.holds Tryz.pinned (OpenSpec.ofChange dictFullWrong)

/- THE SECOND FORM. 'bulk': how many values and letters a reading holds, each counted each time it is reached (what is shared counts as often as it is met; a slice's spare places count too). A statement '..UptoSaid' is the law's where the arguments, and the package variables that the reading takes, are together of bulk at most 1048576: NARROWER than '..Said'. Prove '..Said' where nothing that the law and all that it calls make is longer than what came in: it says more and counts as full. Else prove '..UptoSaid'. A law counts once. -/
mutual
def uptoBulk {H : Type} : DataW H → Nat
  | .lit (.string bytes) => bytes.length + 1
  | .lit _ => 1
  | .nil => 1
  | .ptr d => uptoBulk d + 1
  | .slice elems spare => uptoBulkAll elems + uptoBulkAll spare + 1
  | .agg parts => uptoBulkAll parts + 1
  | .iface _ d => uptoBulk d + 1
  | .map entries => uptoBulkEntries entries + 1
  | .held _ => 1
def uptoBulkAll {H : Type} : List (DataW H) → Nat
  | [] => 0
  | d :: r => uptoBulk d + uptoBulkAll r
def uptoBulkEntries {H : Type} : List (Lit × DataW H) → Nat
  | [] => 0
  | x :: r => uptoBulkEntry x + uptoBulkEntries r
def uptoBulkEntry {H : Type} : Lit × DataW H → Nat
  | (.string bytes, d) => bytes.length + uptoBulk d + 1
  | (_, d) => uptoBulk d + 1
 end
def uptoSmall : (H : Type) → List (DataW H) → Bool := fun _ ds => decide (uptoBulkAll ds ≤ 1048576)
def OpenSpec.upto (s : _root_.Go.ChangeSpec) : _root_.Go.OpenSpec := { _root_.Go.OpenSpec.ofChange s with cond := some uptoSmall }

/-- 'abecedarylaw14.DictAll', WHERE WHAT IT READS IS OF BULK AT MOST 1048576: true; the input reads as it did. -/
def dictAllUptoRow : OpenClaim := { program := "ytobjpljdgieklaagreatdoor", sum := "7a992fcabc6b12e6e31c105b21f3f02117e1854a9be122fdd95a429e864b02c4", func := "abecedary/abecedarylaw14.DictAll", spec := "dictAll", unfollowed := true, recurses := true, named := ["abecedary/letters.lead", "abecedary/letters.least"], plainKeys := false, apart := false, laid := [("abecedary/letters.least", laid_abecedary_letters_least), ("abecedary/letters.lead", laid_abecedary_letters_lead)], narrowed := true }
def DictAllUptoSaid : Prop := dictAllUptoRow.holds Tryz.pinned (OpenSpec.upto dictAllSpec)

/-- 'abecedarylaw14.DictLoads', WHERE WHAT IT READS IS OF BULK AT MOST 1048576: true; the input reads as it did. -/
def dictLoadsUptoRow : OpenClaim := { program := "ytobjpljdgieklaagreatdoor", sum := "7a992fcabc6b12e6e31c105b21f3f02117e1854a9be122fdd95a429e864b02c4", func := "abecedary/abecedarylaw14.DictLoads", spec := "dictLoads", unfollowed := true, recurses := true, named := ["abecedary/letters.lead", "abecedary/letters.least"], plainKeys := false, apart := false, laid := [("abecedary/letters.least", laid_abecedary_letters_least), ("abecedary/letters.lead", laid_abecedary_letters_lead)], narrowed := true }
def DictLoadsUptoSaid : Prop := dictLoadsUptoRow.holds Tryz.pinned (OpenSpec.upto dictLoadsSpec)

/-- 'abecedarylaw14.DictWeighs', WHERE WHAT IT READS IS OF BULK AT MOST 1048576: true; the input reads as it did. -/
def dictWeighsUptoRow : OpenClaim := { program := "ytobjpljdgieklaagreatdoor", sum := "7a992fcabc6b12e6e31c105b21f3f02117e1854a9be122fdd95a429e864b02c4", func := "abecedary/abecedarylaw14.DictWeighs", spec := "dictWeighs", unfollowed := true, recurses := true, named := ["abecedary/letters.lead", "abecedary/letters.least"], plainKeys := false, apart := false, laid := [("abecedary/letters.least", laid_abecedary_letters_least), ("abecedary/letters.lead", laid_abecedary_letters_lead)], narrowed := true }
def DictWeighsUptoSaid : Prop := dictWeighsUptoRow.holds Tryz.pinned (OpenSpec.upto dictWeighsSpec)

/-- 'abecedarylaw14.DictSuggests', WHERE WHAT IT READS IS OF BULK AT MOST 1048576: true; the input reads as it did. -/
def dictSuggestsUptoRow : OpenClaim := { program := "ytobjpljdgieklaagreatdoor", sum := "7a992fcabc6b12e6e31c105b21f3f02117e1854a9be122fdd95a429e864b02c4", func := "abecedary/abecedarylaw14.DictSuggests", spec := "dictSuggests", unfollowed := true, recurses := true, named := ["abecedary/letters.lead", "abecedary/letters.least"], plainKeys := false, apart := false, laid := [("abecedary/letters.least", laid_abecedary_letters_least), ("abecedary/letters.lead", laid_abecedary_letters_lead)], narrowed := true }
def DictSuggestsUptoSaid : Prop := dictSuggestsUptoRow.holds Tryz.pinned (OpenSpec.upto dictSuggestsSpec)

/-- 'abecedarylaw14.DictCompacts', WHERE WHAT IT READS IS OF BULK AT MOST 1048576: true; the input reads as it did. -/
def dictCompactsUptoRow : OpenClaim := { program := "ytobjpljdgieklaagreatdoor", sum := "7a992fcabc6b12e6e31c105b21f3f02117e1854a9be122fdd95a429e864b02c4", func := "abecedary/abecedarylaw14.DictCompacts", spec := "dictCompacts", unfollowed := true, recurses := true, named := ["abecedary/letters.lead", "abecedary/letters.least"], plainKeys := false, apart := false, laid := [("abecedary/letters.least", laid_abecedary_letters_least), ("abecedary/letters.lead", laid_abecedary_letters_lead)], narrowed := true }
def DictCompactsUptoSaid : Prop := dictCompactsUptoRow.holds Tryz.pinned (OpenSpec.upto dictCompactsSpec)

/-- 'abecedarylaw14.DictMachine', WHERE WHAT IT READS IS OF BULK AT MOST 1048576: true; the input reads as it did. -/
def dictMachineUptoRow : OpenClaim := { program := "ytobjpljdgieklaagreatdoor", sum := "7a992fcabc6b12e6e31c105b21f3f02117e1854a9be122fdd95a429e864b02c4", func := "abecedary/abecedarylaw14.DictMachine", spec := "dictMachine", unfollowed := true, recurses := true, named := ["abecedary/letters.lead", "abecedary/letters.least"], plainKeys := false, apart := false, laid := [("abecedary/letters.least", laid_abecedary_letters_least), ("abecedary/letters.lead", laid_abecedary_letters_lead)], narrowed := true }
def DictMachineUptoSaid : Prop := dictMachineUptoRow.holds Tryz.pinned (OpenSpec.upto dictMachineSpec)

/-- 'abecedarylaw14.DictChanges', WHERE WHAT IT READS IS OF BULK AT MOST 1048576: true; the input reads as it did. -/
def dictChangesUptoRow : OpenClaim := { program := "ytobjpljdgieklaagreatdoor", sum := "7a992fcabc6b12e6e31c105b21f3f02117e1854a9be122fdd95a429e864b02c4", func := "abecedary/abecedarylaw14.DictChanges", spec := "dictChanges", unfollowed := true, recurses := true, named := ["abecedary/letters.lead", "abecedary/letters.least"], plainKeys := false, apart := false, laid := [("abecedary/letters.least", laid_abecedary_letters_least), ("abecedary/letters.lead", laid_abecedary_letters_lead)], narrowed := true }
def DictChangesUptoSaid : Prop := dictChangesUptoRow.holds Tryz.pinned (OpenSpec.upto dictChangesSpec)

/-- 'abecedarylaw14.DictApart', WHERE WHAT IT READS IS OF BULK AT MOST 1048576: true; the input reads as it did. -/
def dictApartUptoRow : OpenClaim := { program := "ytobjpljdgieklaagreatdoor", sum := "7a992fcabc6b12e6e31c105b21f3f02117e1854a9be122fdd95a429e864b02c4", func := "abecedary/abecedarylaw14.DictApart", spec := "dictApart", unfollowed := true, recurses := true, named := ["abecedary/letters.lead", "abecedary/letters.least"], plainKeys := false, apart := false, laid := [("abecedary/letters.least", laid_abecedary_letters_least), ("abecedary/letters.lead", laid_abecedary_letters_lead)], narrowed := true }
def DictApartUptoSaid : Prop := dictApartUptoRow.holds Tryz.pinned (OpenSpec.upto dictApartSpec)

/-- 'abecedarylaw14.DictOthers', WHERE WHAT IT READS IS OF BULK AT MOST 1048576: true; the input reads as it did. -/
def dictOthersUptoRow : OpenClaim := { program := "ytobjpljdgieklaagreatdoor", sum := "7a992fcabc6b12e6e31c105b21f3f02117e1854a9be122fdd95a429e864b02c4", func := "abecedary/abecedarylaw14.DictOthers", spec := "dictOthers", unfollowed := true, recurses := true, named := ["abecedary/letters.lead", "abecedary/letters.least"], plainKeys := false, apart := false, laid := [("abecedary/letters.least", laid_abecedary_letters_least), ("abecedary/letters.lead", laid_abecedary_letters_lead)], narrowed := true }
def DictOthersUptoSaid : Prop := dictOthersUptoRow.holds Tryz.pinned (OpenSpec.upto dictOthersSpec)

/-- 'abecedarylaw14.DictFull', WHERE WHAT IT READS IS OF BULK AT MOST 1048576: true; the input reads as it did. -/
def dictFullUptoRow : OpenClaim := { program := "ytobjpljdgieklaagreatdoor", sum := "7a992fcabc6b12e6e31c105b21f3f02117e1854a9be122fdd95a429e864b02c4", func := "abecedary/abecedarylaw14.DictFull", spec := "dictFull", unfollowed := true, recurses := true, named := ["abecedary/letters.lead", "abecedary/letters.least"], plainKeys := false, apart := false, laid := [("abecedary/letters.least", laid_abecedary_letters_least), ("abecedary/letters.lead", laid_abecedary_letters_lead)], narrowed := true }
def DictFullUptoSaid : Prop := dictFullUptoRow.holds Tryz.pinned (OpenSpec.upto dictFullSpec)

end Rows
end Go.Proofs.YtobjpljdgieklaaGreatDoor
