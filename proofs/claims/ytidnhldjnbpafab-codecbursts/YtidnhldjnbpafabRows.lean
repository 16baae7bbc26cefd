/-
  No cell of these rows narrows 'for every input' (looked for: loops, veiled, ifaces, maps, wideKeys, modest, calm, conditions, laid).
  DERIVED. THE GIVEN ROWS OF THIS SEAT. 5 by the template 'for every input the law returns true; each argument reads behind the call as it read before'; 0 by the template 'total and deterministic' (their statements: YtidnhldjnbpafabTotals.lean).
  GIVEN WITH THE SEED: the statements are not yours to turn. If you find one false, say at which input.
  Laid BY PROGRAM, IN A SANDBOX (cutbox-rows.mjs): the forced cells as the released guide's own fill.sh prints them over the translation ef042555e2334c4f… (all of the seat's roots in one cut). By AI agents, Wed Nov 11 2026. No macro, syntax, notation, axiom, sorry.
-/
import Derived.Test.YtidnhldjnbpafabChecked
import GoSem.Claim
import GoSem.ClaimJoined
import GoSem.ClaimMapViews
import Derived.JoinedTies
import Derived.KernelRfl
namespace Go.Proofs.Ytidnhldjnbpafab
/- THE CELL 'sum', in the pinned program and in every row, IS THE sha256 OF THE DUMP (.gsa) THAT YtidnhldjnbpafabProg.lean LOADS. Nothing in Lean hashes anything: it is a label: what it is worth is what the hold of that sum in a sandbox is worth. -/
noncomputable def Try.pinned : Pinned := { name := "ytidnhldjnbpafab", sum := "ef042555e2334c4f00c7f0db146adab486021437495873480ac36bd2632897b8", checked := Try.checked }
namespace Rows
def none {H : Type} : Left H := { results := [], args := [] }

/-- 'abecedarylaw02.CodecSeals': WHATEVER THE INPUT: true; the input reads as it did. -/
def codecSealsSpec : ChangeSpec := { name := "codecSeals", fn := fun _ => fun
  | [d] => { results := [.lit (.bool true)], args := [d] }
  | _ => none }
def codecSealsRow : OpenClaim := { program := "ytidnhldjnbpafab", sum := "ef042555e2334c4f00c7f0db146adab486021437495873480ac36bd2632897b8", func := "abecedary/abecedarylaw02.CodecSeals", spec := "codecSeals", recurses := true, apart := false }
def CodecSealsSaid : Prop := codecSealsRow.holds Try.pinned (OpenSpec.ofChange codecSealsSpec)

/-- ITS FALSE NEIGHBOUR: 'it returns false'. Refute it at one input. -/
def codecSealsWrong : ChangeSpec := { name := "codecSeals", fn := fun _ => fun
  | [d] => { results := [.lit (.bool false)], args := [d] }
  | _ => none }
def CodecSealsWrongFalsely : Prop := codecSealsRow.holds Try.pinned (OpenSpec.ofChange codecSealsWrong)

/-- 'abecedarylaw02.CodecUnseals': WHATEVER THE INPUT: true; the input reads as it did. -/
def codecUnsealsSpec : ChangeSpec := { name := "codecUnseals", fn := fun _ => fun
  | [d] => { results := [.lit (.bool true)], args := [d] }
  | _ => none }
def codecUnsealsRow : OpenClaim := { program := "ytidnhldjnbpafab", sum := "ef042555e2334c4f00c7f0db146adab486021437495873480ac36bd2632897b8", func := "abecedary/abecedarylaw02.CodecUnseals", spec := "codecUnseals", apart := false }
def CodecUnsealsSaid : Prop := codecUnsealsRow.holds Try.pinned (OpenSpec.ofChange codecUnsealsSpec)

/-- ITS FALSE NEIGHBOUR: 'it returns false'. Refute it at one input. -/
def codecUnsealsWrong : ChangeSpec := { name := "codecUnseals", fn := fun _ => fun
  | [d] => { results := [.lit (.bool false)], args := [d] }
  | _ => none }
def CodecUnsealsWrongFalsely : Prop := codecUnsealsRow.holds Try.pinned (OpenSpec.ofChange codecUnsealsWrong)

/-- 'abecedarylaw02.CodecOpens': WHATEVER THE INPUT: true; the input reads as it did. -/
def codecOpensSpec : ChangeSpec := { name := "codecOpens", fn := fun _ => fun
  | [d1, d2] => { results := [.lit (.bool true)], args := [d1, d2] }
  | _ => none }
def codecOpensRow : OpenClaim := { program := "ytidnhldjnbpafab", sum := "ef042555e2334c4f00c7f0db146adab486021437495873480ac36bd2632897b8", func := "abecedary/abecedarylaw02.CodecOpens", spec := "codecOpens", apart := false }
def CodecOpensSaid : Prop := codecOpensRow.holds Try.pinned (OpenSpec.ofChange codecOpensSpec)

/-- ITS FALSE NEIGHBOUR: 'it returns false'. Refute it at one input. -/
def codecOpensWrong : ChangeSpec := { name := "codecOpens", fn := fun _ => fun
  | [d1, d2] => { results := [.lit (.bool false)], args := [d1, d2] }
  | _ => none }
def CodecOpensWrongFalsely : Prop := codecOpensRow.holds Try.pinned (OpenSpec.ofChange codecOpensWrong)

/-- 'abecedarylaw02.CodecCuts': WHATEVER THE INPUT: true; the input reads as it did. -/
def codecCutsSpec : ChangeSpec := { name := "codecCuts", fn := fun _ => fun
  | [d1, d2] => { results := [.lit (.bool true)], args := [d1, d2] }
  | _ => none }
def codecCutsRow : OpenClaim := { program := "ytidnhldjnbpafab", sum := "ef042555e2334c4f00c7f0db146adab486021437495873480ac36bd2632897b8", func := "abecedary/abecedarylaw02.CodecCuts", spec := "codecCuts", apart := false }
def CodecCutsSaid : Prop := codecCutsRow.holds Try.pinned (OpenSpec.ofChange codecCutsSpec)

/-- ITS FALSE NEIGHBOUR: 'it returns false'. Refute it at one input. -/
def codecCutsWrong : ChangeSpec := { name := "codecCuts", fn := fun _ => fun
  | [d1, d2] => { results := [.lit (.bool false)], args := [d1, d2] }
  | _ => none }
def CodecCutsWrongFalsely : Prop := codecCutsRow.holds Try.pinned (OpenSpec.ofChange codecCutsWrong)

/-- 'abecedarylaw02.CodecBursts': WHATEVER THE INPUT: true; the input reads as it did. -/
def codecBurstsSpec : ChangeSpec := { name := "codecBursts", fn := fun _ => fun
  | [d1, d2, d3] => { results := [.lit (.bool true)], args := [d1, d2, d3] }
  | _ => none }
def codecBurstsRow : OpenClaim := { program := "ytidnhldjnbpafab", sum := "ef042555e2334c4f00c7f0db146adab486021437495873480ac36bd2632897b8", func := "abecedary/abecedarylaw02.CodecBursts", spec := "codecBursts", apart := false }
def CodecBurstsSaid : Prop := codecBurstsRow.holds Try.pinned (OpenSpec.ofChange codecBurstsSpec)

/-- ITS FALSE NEIGHBOUR: 'it returns false'. Refute it at one input. -/
def codecBurstsWrong : ChangeSpec := { name := "codecBursts", fn := fun _ => fun
  | [d1, d2, d3] => { results := [.lit (.bool false)], args := [d1, d2, d3] }
  | _ => none }
def CodecBurstsWrongFalsely : Prop := codecBurstsRow.holds Try.pinned (OpenSpec.ofChange codecBurstsWrong)

/- THE SECOND FORM. 'bulk': how many values and letters a reading holds, each counted each time it is reached (what is shared counts as often as it is met; a slice's spare places count too). A statement '..UptoSaid' is the law's where the arguments, and the package variables that the reading takes, are together of bulk at most 1048576: NARROWER than '..Said'. Prove '..Said' where nothing that the law and all that it calls make is longer than what came in: it says more and counts as full. Else prove '..UptoSaid'. A law counts once. -/
mutual
def uptoBulk {H : Type} : DataW H → Nat
  | .lit (.string bytes) => bytes.length + 1
  | .lit _ => 1
  | .nil => 1
  | .ptr d => uptoBulk d + 1
  | .slice elems spare => uptoBulkAll elems + uptoBulkAll spare + 1
  | .agg parts => uptoBulkAll parts + 1
  | .iface _ d => uptoBulk d + 1
  | .map entries => uptoBulkEntries entries + 1
  | .held _ => 1
def uptoBulkAll {H : Type} : List (DataW H) → Nat
  | [] => 0
  | d :: r => uptoBulk d + uptoBulkAll r
def uptoBulkEntries {H : Type} : List (Lit × DataW H) → Nat
  | [] => 0
  | x :: r => uptoBulkEntry x + uptoBulkEntries r
def uptoBulkEntry {H : Type} : Lit × DataW H → Nat
  | (.string bytes, d) => bytes.length + uptoBulk d + 1
  | (_, d) => uptoBulk d + 1
 end
def uptoSmall : (H : Type) → List (DataW H) → Bool := fun _ ds => decide (uptoBulkAll ds ≤ 1048576)
def OpenSpec.upto (s : _root_.Go.ChangeSpec) : _root_.Go.OpenSpec := { _root_.Go.OpenSpec.ofChange s with cond := some uptoSmall }

/-- 'abecedarylaw02.CodecSeals', WHERE WHAT IT READS IS OF BULK AT MOST 1048576: true; the input reads as it did. -/
def codecSealsUptoRow : OpenClaim := { program := "ytidnhldjnbpafab", sum := "ef042555e2334c4f00c7f0db146adab486021437495873480ac36bd2632897b8", func := "abecedary/abecedarylaw02.CodecSeals", spec := "codecSeals", recurses := true, apart := false, narrowed := true }
def CodecSealsUptoSaid : Prop := codecSealsUptoRow.holds Try.pinned (OpenSpec.upto codecSealsSpec)

/-- 'abecedarylaw02.CodecUnseals', WHERE WHAT IT READS IS OF BULK AT MOST 1048576: true; the input reads as it did. -/
def codecUnsealsUptoRow : OpenClaim := { program := "ytidnhldjnbpafab", sum := "ef042555e2334c4f00c7f0db146adab486021437495873480ac36bd2632897b8", func := "abecedary/abecedarylaw02.CodecUnseals", spec := "codecUnseals", apart := false, narrowed := true }
def CodecUnsealsUptoSaid : Prop := codecUnsealsUptoRow.holds Try.pinned (OpenSpec.upto codecUnsealsSpec)

/-- 'abecedarylaw02.CodecOpens', WHERE WHAT IT READS IS OF BULK AT MOST 1048576: true; the input reads as it did. -/
def codecOpensUptoRow : OpenClaim := { program := "ytidnhldjnbpafab", sum := "ef042555e2334c4f00c7f0db146adab486021437495873480ac36bd2632897b8", func := "abecedary/abecedarylaw02.CodecOpens", spec := "codecOpens", apart := false, narrowed := true }
def CodecOpensUptoSaid : Prop := codecOpensUptoRow.holds Try.pinned (OpenSpec.upto codecOpensSpec)

/-- 'abecedarylaw02.CodecCuts', WHERE WHAT IT READS IS OF BULK AT MOST 1048576: true; the input reads as it did. -/
def codecCutsUptoRow : OpenClaim := { program := "ytidnhldjnbpafab", sum := "ef042555e2334c4f00c7f0db146adab486021437495873480ac36bd2632897b8", func := "abecedary/abecedarylaw02.CodecCuts", spec := "codecCuts", apart := false, narrowed := true }
def CodecCutsUptoSaid : Prop := codecCutsUptoRow.holds Try.pinned (OpenSpec.upto codecCutsSpec)

/-- 'abecedarylaw02.CodecBursts', WHERE WHAT IT READS IS OF BULK AT MOST 1048576: true; the input reads as it did. -/
def codecBurstsUptoRow : OpenClaim := { program := "ytidnhldjnbpafab", sum := "ef042555e2334c4f00c7f0db146adab486021437495873480ac36bd2632897b8", func := "abecedary/abecedarylaw02.CodecBursts", spec := "codecBursts", apart := false, narrowed := true }
def CodecBurstsUptoSaid : Prop := codecBurstsUptoRow.holds Try.pinned (OpenSpec.upto codecBurstsSpec)

end Rows
end Go.Proofs.Ytidnhldjnbpafab
