/-
  No cell of these rows narrows 'for every input' (looked for: loops, veiled, ifaces, maps, wideKeys, modest, calm, conditions, laid).
  DERIVED. THE GIVEN ROWS OF THIS SEAT. 7 by the template 'for every input the law returns true; each argument reads behind the call as it read before'; 0 by the template 'total and deterministic' (their statements: YthecngkdmnadoaaGreatTotals.lean).
  GIVEN WITH THE SEED: the statements are not yours to turn. If you find one false, say at which input.
  Laid BY PROGRAM, IN A SANDBOX (cutbox-rows.mjs): the forced cells as the released guide's own fill.sh prints them over the translation 3ee5c5954f874f29… (all of the seat's roots in one cut). By AI agents, Wed Nov 11 2026. No macro, syntax, notation, axiom, sorry.
-/
import Derived.Test.YthecngkdmnadoaaGreatChecked
import GoSem.Claim
import GoSem.ClaimJoined
import GoSem.ClaimMapViews
import Derived.JoinedTies
import Derived.KernelRfl
namespace Go.Proofs.YthecngkdmnadoaaGreat
/- THE CELL 'sum', in the pinned program and in every row, IS THE sha256 OF THE DUMP (.gsa) THAT YthecngkdmnadoaaGreatProg.lean LOADS. Nothing in Lean hashes anything: it is a label: what it is worth is what the hold of that sum in a sandbox is worth. -/
noncomputable def Tryz.pinned : Pinned := { name := "ythecngkdmnadoaagreat", sum := "3ee5c5954f874f2981cfe613e87f99776be6a8267c8559c0c99e4014ea9c6e5d", checked := Tryz.checked }
namespace Rows
def none {H : Type} : Left H := { results := [], args := [] }

/-- 'abecedarylaw05.WalRuns': WHATEVER THE INPUT: true; the input reads as it did. -/
def walRunsSpec : ChangeSpec := { name := "walRuns", fn := fun _ => fun
  | [d1, d2] => { results := [.lit (.bool true)], args := [d1, d2] }
  | _ => none }
def walRunsRow : OpenClaim := { program := "ythecngkdmnadoaagreat", sum := "3ee5c5954f874f2981cfe613e87f99776be6a8267c8559c0c99e4014ea9c6e5d", func := "abecedary/abecedarylaw05.WalRuns", spec := "walRuns", unfollowed := true, recurses := true, apart := false }
def WalRunsSaid : Prop := walRunsRow.holds Tryz.pinned (OpenSpec.ofChange walRunsSpec)

/-- ITS FALSE NEIGHBOUR: 'it returns false'. Refute it at one input. -/
def walRunsWrong : ChangeSpec := { name := "walRuns", fn := fun _ => fun
  | [d1, d2] => { results := [.lit (.bool false)], args := [d1, d2] }
  | _ => none }
def WalRunsWrongFalsely : Prop := walRunsRow.holds Tryz.pinned (OpenSpec.ofChange walRunsWrong)

/-- 'abecedarylaw05.WalCrash': WHATEVER THE INPUT: true; the input reads as it did. -/
def walCrashSpec : ChangeSpec := { name := "walCrash", fn := fun _ => fun
  | [d1, d2, d3] => { results := [.lit (.bool true)], args := [d1, d2, d3] }
  | _ => none }
def walCrashRow : OpenClaim := { program := "ythecngkdmnadoaagreat", sum := "3ee5c5954f874f2981cfe613e87f99776be6a8267c8559c0c99e4014ea9c6e5d", func := "abecedary/abecedarylaw05.WalCrash", spec := "walCrash", inPlace := ["maps.clone"], unfollowed := true, recurses := true, apart := false }
def WalCrashSaid : Prop := walCrashRow.holds Tryz.pinned (OpenSpec.ofChange walCrashSpec)

/-- ITS FALSE NEIGHBOUR: 'it returns false'. Refute it at one input. -/
def walCrashWrong : ChangeSpec := { name := "walCrash", fn := fun _ => fun
  | [d1, d2, d3] => { results := [.lit (.bool false)], args := [d1, d2, d3] }
  | _ => none }
def WalCrashWrongFalsely : Prop := walCrashRow.holds Tryz.pinned (OpenSpec.ofChange walCrashWrong)

/-- 'abecedarylaw05.WalSynced': WHATEVER THE INPUT: true; the input reads as it did. -/
def walSyncedSpec : ChangeSpec := { name := "walSynced", fn := fun _ => fun
  | [d1, d2] => { results := [.lit (.bool true)], args := [d1, d2] }
  | _ => none }
def walSyncedRow : OpenClaim := { program := "ythecngkdmnadoaagreat", sum := "3ee5c5954f874f2981cfe613e87f99776be6a8267c8559c0c99e4014ea9c6e5d", func := "abecedary/abecedarylaw05.WalSynced", spec := "walSynced", inPlace := ["maps.clone"], unfollowed := true, recurses := true, apart := false }
def WalSyncedSaid : Prop := walSyncedRow.holds Tryz.pinned (OpenSpec.ofChange walSyncedSpec)

/-- ITS FALSE NEIGHBOUR: 'it returns false'. Refute it at one input. -/
def walSyncedWrong : ChangeSpec := { name := "walSynced", fn := fun _ => fun
  | [d1, d2] => { results := [.lit (.bool false)], args := [d1, d2] }
  | _ => none }
def WalSyncedWrongFalsely : Prop := walSyncedRow.holds Tryz.pinned (OpenSpec.ofChange walSyncedWrong)

/-- 'abecedarylaw05.WalRaw': WHATEVER THE INPUT: true; the input reads as it did. -/
def walRawSpec : ChangeSpec := { name := "walRaw", fn := fun _ => fun
  | [d1, d2, d3] => { results := [.lit (.bool true)], args := [d1, d2, d3] }
  | _ => none }
def walRawRow : OpenClaim := { program := "ythecngkdmnadoaagreat", sum := "3ee5c5954f874f2981cfe613e87f99776be6a8267c8559c0c99e4014ea9c6e5d", func := "abecedary/abecedarylaw05.WalRaw", spec := "walRaw", inPlace := ["maps.clone"], unfollowed := true, recurses := true, apart := false }
def WalRawSaid : Prop := walRawRow.holds Tryz.pinned (OpenSpec.ofChange walRawSpec)

/-- ITS FALSE NEIGHBOUR: 'it returns false'. Refute it at one input. -/
def walRawWrong : ChangeSpec := { name := "walRaw", fn := fun _ => fun
  | [d1, d2, d3] => { results := [.lit (.bool false)], args := [d1, d2, d3] }
  | _ => none }
def WalRawWrongFalsely : Prop := walRawRow.holds Tryz.pinned (OpenSpec.ofChange walRawWrong)

/-- 'abecedarylaw05.WalFrees': WHATEVER THE INPUT: true; the input reads as it did. -/
def walFreesSpec : ChangeSpec := { name := "walFrees", fn := fun _ => fun
  | [d] => { results := [.lit (.bool true)], args := [d] }
  | _ => none }
def walFreesRow : OpenClaim := { program := "ythecngkdmnadoaagreat", sum := "3ee5c5954f874f2981cfe613e87f99776be6a8267c8559c0c99e4014ea9c6e5d", func := "abecedary/abecedarylaw05.WalFrees", spec := "walFrees", unfollowed := true, recurses := true, apart := false }
def WalFreesSaid : Prop := walFreesRow.holds Tryz.pinned (OpenSpec.ofChange walFreesSpec)

/-- ITS FALSE NEIGHBOUR: 'it returns false'. Refute it at one input. -/
def walFreesWrong : ChangeSpec := { name := "walFrees", fn := fun _ => fun
  | [d] => { results := [.lit (.bool false)], args := [d] }
  | _ => none }
def WalFreesWrongFalsely : Prop := walFreesRow.holds Tryz.pinned (OpenSpec.ofChange walFreesWrong)

/-- 'abecedarylaw05.WalResets': WHATEVER THE INPUT: true; the input reads as it did. -/
def walResetsSpec : ChangeSpec := { name := "walResets", fn := fun _ => fun
  | [d1, d2, d3] => { results := [.lit (.bool true)], args := [d1, d2, d3] }
  | _ => none }
def walResetsRow : OpenClaim := { program := "ythecngkdmnadoaagreat", sum := "3ee5c5954f874f2981cfe613e87f99776be6a8267c8559c0c99e4014ea9c6e5d", func := "abecedary/abecedarylaw05.WalResets", spec := "walResets", inPlace := ["maps.clone"], unfollowed := true, recurses := true, apart := false }
def WalResetsSaid : Prop := walResetsRow.holds Tryz.pinned (OpenSpec.ofChange walResetsSpec)

/-- ITS FALSE NEIGHBOUR: 'it returns false'. Refute it at one input. -/
def walResetsWrong : ChangeSpec := { name := "walResets", fn := fun _ => fun
  | [d1, d2, d3] => { results := [.lit (.bool false)], args := [d1, d2, d3] }
  | _ => none }
def WalResetsWrongFalsely : Prop := walResetsRow.holds Tryz.pinned (OpenSpec.ofChange walResetsWrong)

/-- 'abecedarylaw05.WalHalts': WHATEVER THE INPUT: true; the input reads as it did. -/
def walHaltsSpec : ChangeSpec := { name := "walHalts", fn := fun _ => fun
  | [d1, d2, d3] => { results := [.lit (.bool true)], args := [d1, d2, d3] }
  | _ => none }
def walHaltsRow : OpenClaim := { program := "ythecngkdmnadoaagreat", sum := "3ee5c5954f874f2981cfe613e87f99776be6a8267c8559c0c99e4014ea9c6e5d", func := "abecedary/abecedarylaw05.WalHalts", spec := "walHalts", unfollowed := true, recurses := true, apart := false }
def WalHaltsSaid : Prop := walHaltsRow.holds Tryz.pinned (OpenSpec.ofChange walHaltsSpec)

/-- ITS FALSE NEIGHBOUR: 'it returns false'. Refute it at one input. -/
def walHaltsWrong : ChangeSpec := { name := "walHalts", fn := fun _ => fun
  | [d1, d2, d3] => { results := [.lit (.bool false)], args := [d1, d2, d3] }
  | _ => none }
def WalHaltsWrongFalsely : Prop := walHaltsRow.holds Tryz.pinned (OpenSpec.ofChange walHaltsWrong)

/- THE SECOND FORM. 'bulk': how many values and letters a reading holds, each counted each time it is reached (what is shared counts as often as it is met; a slice's spare places count too). A statement '..UptoSaid' is the law's where the arguments, and the package variables that the reading takes, are together of bulk at most 1048576: NARROWER than '..Said'. Prove '..Said' where nothing that the law and all that it calls make is longer than what came in: it says more and counts as full. Else prove '..UptoSaid'. A law counts once. -/
mutual
def uptoBulk {H : Type} : DataW H → Nat
  | .lit (.string bytes) => bytes.length + 1
  | .lit _ => 1
  | .nil => 1
  | .ptr d => uptoBulk d + 1
  | .slice elems spare => uptoBulkAll elems + uptoBulkAll spare + 1
  | .agg parts => uptoBulkAll parts + 1
  | .iface _ d => uptoBulk d + 1
  | .map entries => uptoBulkEntries entries + 1
  | .held _ => 1
def uptoBulkAll {H : Type} : List (DataW H) → Nat
  | [] => 0
  | d :: r => uptoBulk d + uptoBulkAll r
def uptoBulkEntries {H : Type} : List (Lit × DataW H) → Nat
  | [] => 0
  | x :: r => uptoBulkEntry x + uptoBulkEntries r
def uptoBulkEntry {H : Type} : Lit × DataW H → Nat
  | (.string bytes, d) => bytes.length + uptoBulk d + 1
  | (_, d) => uptoBulk d + 1
 end
def uptoSmall : (H : Type) → List (DataW H) → Bool := fun _ ds => decide (uptoBulkAll ds ≤ 1048576)
def OpenSpec.upto (s : _root_.Go.ChangeSpec) : _root_.Go.OpenSpec := { _root_.Go.OpenSpec.ofChange s with cond := some uptoSmall }

/-- 'abecedarylaw05.WalRuns', WHERE WHAT IT READS IS OF BULK AT MOST 1048576: true; the input reads as it did. -/
def walRunsUptoRow : OpenClaim := { program := "ythecngkdmnadoaagreat", sum := "3ee5c5954f874f2981cfe613e87f99776be6a8267c8559c0c99e4014ea9c6e5d", func := "abecedary/abecedarylaw05.WalRuns", spec := "walRuns", unfollowed := true, recurses := true, apart := false, narrowed := true }
def WalRunsUptoSaid : Prop := walRunsUptoRow.holds Tryz.pinned (OpenSpec.upto walRunsSpec)

/-- 'abecedarylaw05.WalCrash', WHERE WHAT IT READS IS OF BULK AT MOST 1048576: true; the input reads as it did. -/
def walCrashUptoRow : OpenClaim := { program := "ythecngkdmnadoaagreat", sum := "3ee5c5954f874f2981cfe613e87f99776be6a8267c8559c0c99e4014ea9c6e5d", func := "abecedary/abecedarylaw05.WalCrash", spec := "walCrash", inPlace := ["maps.clone"], unfollowed := true, recurses := true, apart := false, narrowed := true }
def WalCrashUptoSaid : Prop := walCrashUptoRow.holds Tryz.pinned (OpenSpec.upto walCrashSpec)

/-- 'abecedarylaw05.WalSynced', WHERE WHAT IT READS IS OF BULK AT MOST 1048576: true; the input reads as it did. -/
def walSyncedUptoRow : OpenClaim := { program := "ythecngkdmnadoaagreat", sum := "3ee5c5954f874f2981cfe613e87f99776be6a8267c8559c0c99e4014ea9c6e5d", func := "abecedary/abecedarylaw05.WalSynced", spec := "walSynced", inPlace := ["maps.clone"], unfollowed := true, recurses := true, apart := false, narrowed := true }
def WalSyncedUptoSaid : Prop := walSyncedUptoRow.holds Tryz.pinned (OpenSpec.upto walSyncedSpec)

/-- 'abecedarylaw05.WalRaw', WHERE WHAT IT READS IS OF BULK AT MOST 1048576: true; the input reads as it did. -/
def walRawUptoRow : OpenClaim := { program := "ythecngkdmnadoaagreat", sum := "3ee5c5954f874f2981cfe613e87f99776be6a8267c8559c0c99e4014ea9c6e5d", func := "abecedary/abecedarylaw05.WalRaw", spec := "walRaw", inPlace := ["maps.clone"], unfollowed := true, recurses := true, apart := false, narrowed := true }
def WalRawUptoSaid : Prop := walRawUptoRow.holds Tryz.pinned (OpenSpec.upto walRawSpec)

/-- 'abecedarylaw05.WalFrees', WHERE WHAT IT READS IS OF BULK AT MOST 1048576: true; the input reads as it did. -/
def walFreesUptoRow : OpenClaim := { program := "ythecngkdmnadoaagreat", sum := "3ee5c5954f874f2981cfe613e87f99776be6a8267c8559c0c99e4014ea9c6e5d", func := "abecedary/abecedarylaw05.WalFrees", spec := "walFrees", unfollowed := true, recurses := true, apart := false, narrowed := true }
def WalFreesUptoSaid : Prop := walFreesUptoRow.holds Tryz.pinned (OpenSpec.upto walFreesSpec)

/-- 'abecedarylaw05.WalResets', WHERE WHAT IT READS IS OF BULK AT MOST 1048576: true; the input reads as it did. -/
def walResetsUptoRow : OpenClaim := { program := "ythecngkdmnadoaagreat", sum := "3ee5c5954f874f2981cfe613e87f99776be6a8267c8559c0c99e4014ea9c6e5d", func := "abecedary/abecedarylaw05.WalResets", spec := "walResets", inPlace := ["maps.clone"], unfollowed := true, recurses := true, apart := false, narrowed := true }
def WalResetsUptoSaid : Prop := walResetsUptoRow.holds Tryz.pinned (OpenSpec.upto walResetsSpec)

/-- 'abecedarylaw05.WalHalts', WHERE WHAT IT READS IS OF BULK AT MOST 1048576: true; the input reads as it did. -/
def walHaltsUptoRow : OpenClaim := { program := "ythecngkdmnadoaagreat", sum := "3ee5c5954f874f2981cfe613e87f99776be6a8267c8559c0c99e4014ea9c6e5d", func := "abecedary/abecedarylaw05.WalHalts", spec := "walHalts", unfollowed := true, recurses := true, apart := false, narrowed := true }
def WalHaltsUptoSaid : Prop := walHaltsUptoRow.holds Tryz.pinned (OpenSpec.upto walHaltsSpec)

end Rows
end Go.Proofs.YthecngkdmnadoaaGreat
