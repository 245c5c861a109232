/-
  No cell of these rows narrows 'for every input' (looked for: loops, veiled, ifaces, maps, wideKeys, modest, calm, conditions, laid).
  DERIVED. THE GIVEN ROWS OF THIS SEAT. 7 by the template 'for every input the law returns true; each argument reads behind the call as it read before'; 0 by the template 'total and deterministic' (their statements: YteokjoppplbmfaaTotals.lean).
  GIVEN WITH THE SEED: the statements are not yours to turn. If you find one false, say at which input.
  Laid BY PROGRAM, IN A SANDBOX (cutbox-rows.mjs): the forced cells as the released guide's own fill.sh prints them over the translation d3a8c56d4a118ee3… (all of the seat's roots in one cut). By AI agents, Wed Nov 11 2026. No macro, syntax, notation, axiom, sorry.
-/
import Derived.Test.YteokjoppplbmfaaChecked
import GoSem.Claim
import GoSem.ClaimJoined
import GoSem.ClaimMapViews
import Derived.JoinedTies
import Derived.KernelRfl
namespace Go.Proofs.Yteokjoppplbmfaa
/- THE CELL 'sum', in the pinned program and in every row, IS THE sha256 OF THE DUMP (.gsa) THAT YteokjoppplbmfaaProg.lean LOADS. Nothing in Lean hashes anything: it is a label: what it is worth is what the hold of that sum in a sandbox is worth. -/
noncomputable def Try.pinned : Pinned := { name := "yteokjoppplbmfaa", sum := "d3a8c56d4a118ee3d586a524364e85aaef7d588f000e6e10a292d66f81da4382", checked := Try.checked }
namespace Rows
def none {H : Type} : Left H := { results := [], args := [] }

/-- 'laws.FnLabels': WHATEVER THE INPUT: true; the input reads as it did. -/
def fnLabelsSpec : ChangeSpec := { name := "fnLabels", fn := fun _ => fun
  | [d] => { results := [.lit (.bool true)], args := [d] }
  | _ => none }
def fnLabelsRow : OpenClaim := { program := "yteokjoppplbmfaa", sum := "d3a8c56d4a118ee3d586a524364e85aaef7d588f000e6e10a292d66f81da4382", func := "loop.example/g00588/laws.FnLabels", spec := "fnLabels", inPlace := ["internal/bytealg.abigen_runtime_cmpstring"], apart := false }
def FnLabelsSaid : Prop := fnLabelsRow.holds Try.pinned (OpenSpec.ofChange fnLabelsSpec)

/-- ITS FALSE NEIGHBOUR: 'it returns false'. Refute it at one input. -/
def fnLabelsWrong : ChangeSpec := { name := "fnLabels", fn := fun _ => fun
  | [d] => { results := [.lit (.bool false)], args := [d] }
  | _ => none }
def FnLabelsWrongFalsely : Prop := fnLabelsRow.holds Try.pinned (OpenSpec.ofChange fnLabelsWrong)

/-- 'laws.FnExactIsLabel': WHATEVER THE INPUT: true; the input reads as it did. -/
def fnExactIsLabelSpec : ChangeSpec := { name := "fnExactIsLabel", fn := fun _ => fun
  | [d] => { results := [.lit (.bool true)], args := [d] }
  | _ => none }
def fnExactIsLabelRow : OpenClaim := { program := "yteokjoppplbmfaa", sum := "d3a8c56d4a118ee3d586a524364e85aaef7d588f000e6e10a292d66f81da4382", func := "loop.example/g00588/laws.FnExactIsLabel", spec := "fnExactIsLabel", apart := false }
def FnExactIsLabelSaid : Prop := fnExactIsLabelRow.holds Try.pinned (OpenSpec.ofChange fnExactIsLabelSpec)

/-- ITS FALSE NEIGHBOUR: 'it returns false'. Refute it at one input. -/
def fnExactIsLabelWrong : ChangeSpec := { name := "fnExactIsLabel", fn := fun _ => fun
  | [d] => { results := [.lit (.bool false)], args := [d] }
  | _ => none }
def FnExactIsLabelWrongFalsely : Prop := fnExactIsLabelRow.holds Try.pinned (OpenSpec.ofChange fnExactIsLabelWrong)

/-- 'laws.FnExactPlainOf': WHATEVER THE INPUT: true; the input reads as it did. -/
def fnExactPlainOfSpec : ChangeSpec := { name := "fnExactPlainOf", fn := fun _ => fun
  | [d] => { results := [.lit (.bool true)], args := [d] }
  | _ => none }
def fnExactPlainOfRow : OpenClaim := { program := "yteokjoppplbmfaa", sum := "d3a8c56d4a118ee3d586a524364e85aaef7d588f000e6e10a292d66f81da4382", func := "loop.example/g00588/laws.FnExactPlainOf", spec := "fnExactPlainOf", apart := false }
def FnExactPlainOfSaid : Prop := fnExactPlainOfRow.holds Try.pinned (OpenSpec.ofChange fnExactPlainOfSpec)

/-- ITS FALSE NEIGHBOUR: 'it returns false'. Refute it at one input. -/
def fnExactPlainOfWrong : ChangeSpec := { name := "fnExactPlainOf", fn := fun _ => fun
  | [d] => { results := [.lit (.bool false)], args := [d] }
  | _ => none }
def FnExactPlainOfWrongFalsely : Prop := fnExactPlainOfRow.holds Try.pinned (OpenSpec.ofChange fnExactPlainOfWrong)

/-- 'laws.FnExactLooksLike': WHATEVER THE INPUT: true; the input reads as it did. -/
def fnExactLooksLikeSpec : ChangeSpec := { name := "fnExactLooksLike", fn := fun _ => fun
  | [d1, d2] => { results := [.lit (.bool true)], args := [d1, d2] }
  | _ => none }
def fnExactLooksLikeRow : OpenClaim := { program := "yteokjoppplbmfaa", sum := "d3a8c56d4a118ee3d586a524364e85aaef7d588f000e6e10a292d66f81da4382", func := "loop.example/g00588/laws.FnExactLooksLike", spec := "fnExactLooksLike", apart := false }
def FnExactLooksLikeSaid : Prop := fnExactLooksLikeRow.holds Try.pinned (OpenSpec.ofChange fnExactLooksLikeSpec)

/-- ITS FALSE NEIGHBOUR: 'it returns false'. Refute it at one input. -/
def fnExactLooksLikeWrong : ChangeSpec := { name := "fnExactLooksLike", fn := fun _ => fun
  | [d1, d2] => { results := [.lit (.bool false)], args := [d1, d2] }
  | _ => none }
def FnExactLooksLikeWrongFalsely : Prop := fnExactLooksLikeRow.holds Try.pinned (OpenSpec.ofChange fnExactLooksLikeWrong)

/-- 'laws.FnExactCompareLabels': WHATEVER THE INPUT: true; the input reads as it did. -/
def fnExactCompareLabelsSpec : ChangeSpec := { name := "fnExactCompareLabels", fn := fun _ => fun
  | [d1, d2] => { results := [.lit (.bool true)], args := [d1, d2] }
  | _ => none }
def fnExactCompareLabelsRow : OpenClaim := { program := "yteokjoppplbmfaa", sum := "d3a8c56d4a118ee3d586a524364e85aaef7d588f000e6e10a292d66f81da4382", func := "loop.example/g00588/laws.FnExactCompareLabels", spec := "fnExactCompareLabels", inPlace := ["internal/bytealg.abigen_runtime_cmpstring"], apart := false }
def FnExactCompareLabelsSaid : Prop := fnExactCompareLabelsRow.holds Try.pinned (OpenSpec.ofChange fnExactCompareLabelsSpec)

/-- ITS FALSE NEIGHBOUR: 'it returns false'. Refute it at one input. -/
def fnExactCompareLabelsWrong : ChangeSpec := { name := "fnExactCompareLabels", fn := fun _ => fun
  | [d1, d2] => { results := [.lit (.bool false)], args := [d1, d2] }
  | _ => none }
def FnExactCompareLabelsWrongFalsely : Prop := fnExactCompareLabelsRow.holds Try.pinned (OpenSpec.ofChange fnExactCompareLabelsWrong)

/-- 'laws.FnExactLabelInts': WHATEVER THE INPUT: true; the input reads as it did. -/
def fnExactLabelIntsSpec : ChangeSpec := { name := "fnExactLabelInts", fn := fun _ => fun
  | [d] => { results := [.lit (.bool true)], args := [d] }
  | _ => none }
def fnExactLabelIntsRow : OpenClaim := { program := "yteokjoppplbmfaa", sum := "d3a8c56d4a118ee3d586a524364e85aaef7d588f000e6e10a292d66f81da4382", func := "loop.example/g00588/laws.FnExactLabelInts", spec := "fnExactLabelInts", apart := false }
def FnExactLabelIntsSaid : Prop := fnExactLabelIntsRow.holds Try.pinned (OpenSpec.ofChange fnExactLabelIntsSpec)

/-- ITS FALSE NEIGHBOUR: 'it returns false'. Refute it at one input. -/
def fnExactLabelIntsWrong : ChangeSpec := { name := "fnExactLabelInts", fn := fun _ => fun
  | [d] => { results := [.lit (.bool false)], args := [d] }
  | _ => none }
def FnExactLabelIntsWrongFalsely : Prop := fnExactLabelIntsRow.holds Try.pinned (OpenSpec.ofChange fnExactLabelIntsWrong)

/-- 'laws.FnExactFirstAlike': WHATEVER THE INPUT: true; the input reads as it did. -/
def fnExactFirstAlikeSpec : ChangeSpec := { name := "fnExactFirstAlike", fn := fun _ => fun
  | [d1, d2] => { results := [.lit (.bool true)], args := [d1, d2] }
  | _ => none }
def fnExactFirstAlikeRow : OpenClaim := { program := "yteokjoppplbmfaa", sum := "d3a8c56d4a118ee3d586a524364e85aaef7d588f000e6e10a292d66f81da4382", func := "loop.example/g00588/laws.FnExactFirstAlike", spec := "fnExactFirstAlike", apart := false }
def FnExactFirstAlikeSaid : Prop := fnExactFirstAlikeRow.holds Try.pinned (OpenSpec.ofChange fnExactFirstAlikeSpec)

/-- ITS FALSE NEIGHBOUR: 'it returns false'. Refute it at one input. -/
def fnExactFirstAlikeWrong : ChangeSpec := { name := "fnExactFirstAlike", fn := fun _ => fun
  | [d1, d2] => { results := [.lit (.bool false)], args := [d1, d2] }
  | _ => none }
def FnExactFirstAlikeWrongFalsely : Prop := fnExactFirstAlikeRow.holds Try.pinned (OpenSpec.ofChange fnExactFirstAlikeWrong)

/- THE SECOND FORM. 'bulk': how many values and letters a reading holds, each counted each time it is reached (what is shared counts as often as it is met; a slice's spare places count too). A statement '..UptoSaid' is the law's where the arguments, and the package variables that the reading takes, are together of bulk at most 1048576: NARROWER than '..Said'. Prove '..Said' where nothing that the law and all that it calls make is longer than what came in: it says more and counts as full. Else prove '..UptoSaid'. A law counts once. -/
mutual
def uptoBulk {H : Type} : DataW H → Nat
  | .lit (.string bytes) => bytes.length + 1
  | .lit _ => 1
  | .nil => 1
  | .ptr d => uptoBulk d + 1
  | .slice elems spare => uptoBulkAll elems + uptoBulkAll spare + 1
  | .agg parts => uptoBulkAll parts + 1
  | .iface _ d => uptoBulk d + 1
  | .map entries => uptoBulkEntries entries + 1
  | .held _ => 1
def uptoBulkAll {H : Type} : List (DataW H) → Nat
  | [] => 0
  | d :: r => uptoBulk d + uptoBulkAll r
def uptoBulkEntries {H : Type} : List (Lit × DataW H) → Nat
  | [] => 0
  | x :: r => uptoBulkEntry x + uptoBulkEntries r
def uptoBulkEntry {H : Type} : Lit × DataW H → Nat
  | (.string bytes, d) => bytes.length + uptoBulk d + 1
  | (_, d) => uptoBulk d + 1
 end
def uptoSmall : (H : Type) → List (DataW H) → Bool := fun _ ds => decide (uptoBulkAll ds ≤ 1048576)
def OpenSpec.upto (s : _root_.Go.ChangeSpec) : _root_.Go.OpenSpec := { _root_.Go.OpenSpec.ofChange s with cond := some uptoSmall }

/-- 'laws.FnLabels', WHERE WHAT IT READS IS OF BULK AT MOST 1048576: true; the input reads as it did. -/
def fnLabelsUptoRow : OpenClaim := { program := "yteokjoppplbmfaa", sum := "d3a8c56d4a118ee3d586a524364e85aaef7d588f000e6e10a292d66f81da4382", func := "loop.example/g00588/laws.FnLabels", spec := "fnLabels", inPlace := ["internal/bytealg.abigen_runtime_cmpstring"], apart := false, narrowed := true }
def FnLabelsUptoSaid : Prop := fnLabelsUptoRow.holds Try.pinned (OpenSpec.upto fnLabelsSpec)

/-- 'laws.FnExactIsLabel', WHERE WHAT IT READS IS OF BULK AT MOST 1048576: true; the input reads as it did. -/
def fnExactIsLabelUptoRow : OpenClaim := { program := "yteokjoppplbmfaa", sum := "d3a8c56d4a118ee3d586a524364e85aaef7d588f000e6e10a292d66f81da4382", func := "loop.example/g00588/laws.FnExactIsLabel", spec := "fnExactIsLabel", apart := false, narrowed := true }
def FnExactIsLabelUptoSaid : Prop := fnExactIsLabelUptoRow.holds Try.pinned (OpenSpec.upto fnExactIsLabelSpec)

/-- 'laws.FnExactPlainOf', WHERE WHAT IT READS IS OF BULK AT MOST 1048576: true; the input reads as it did. -/
def fnExactPlainOfUptoRow : OpenClaim := { program := "yteokjoppplbmfaa", sum := "d3a8c56d4a118ee3d586a524364e85aaef7d588f000e6e10a292d66f81da4382", func := "loop.example/g00588/laws.FnExactPlainOf", spec := "fnExactPlainOf", apart := false, narrowed := true }
def FnExactPlainOfUptoSaid : Prop := fnExactPlainOfUptoRow.holds Try.pinned (OpenSpec.upto fnExactPlainOfSpec)

/-- 'laws.FnExactLooksLike', WHERE WHAT IT READS IS OF BULK AT MOST 1048576: true; the input reads as it did. -/
def fnExactLooksLikeUptoRow : OpenClaim := { program := "yteokjoppplbmfaa", sum := "d3a8c56d4a118ee3d586a524364e85aaef7d588f000e6e10a292d66f81da4382", func := "loop.example/g00588/laws.FnExactLooksLike", spec := "fnExactLooksLike", apart := false, narrowed := true }
def FnExactLooksLikeUptoSaid : Prop := fnExactLooksLikeUptoRow.holds Try.pinned (OpenSpec.upto fnExactLooksLikeSpec)

/-- 'laws.FnExactCompareLabels', WHERE WHAT IT READS IS OF BULK AT MOST 1048576: true; the input reads as it did. -/
def fnExactCompareLabelsUptoRow : OpenClaim := { program := "yteokjoppplbmfaa", sum := "d3a8c56d4a118ee3d586a524364e85aaef7d588f000e6e10a292d66f81da4382", func := "loop.example/g00588/laws.FnExactCompareLabels", spec := "fnExactCompareLabels", inPlace := ["internal/bytealg.abigen_runtime_cmpstring"], apart := false, narrowed := true }
def FnExactCompareLabelsUptoSaid : Prop := fnExactCompareLabelsUptoRow.holds Try.pinned (OpenSpec.upto fnExactCompareLabelsSpec)

/-- 'laws.FnExactLabelInts', WHERE WHAT IT READS IS OF BULK AT MOST 1048576: true; the input reads as it did. -/
def fnExactLabelIntsUptoRow : OpenClaim := { program := "yteokjoppplbmfaa", sum := "d3a8c56d4a118ee3d586a524364e85aaef7d588f000e6e10a292d66f81da4382", func := "loop.example/g00588/laws.FnExactLabelInts", spec := "fnExactLabelInts", apart := false, narrowed := true }
def FnExactLabelIntsUptoSaid : Prop := fnExactLabelIntsUptoRow.holds Try.pinned (OpenSpec.upto fnExactLabelIntsSpec)

/-- 'laws.FnExactFirstAlike', WHERE WHAT IT READS IS OF BULK AT MOST 1048576: true; the input reads as it did. -/
def fnExactFirstAlikeUptoRow : OpenClaim := { program := "yteokjoppplbmfaa", sum := "d3a8c56d4a118ee3d586a524364e85aaef7d588f000e6e10a292d66f81da4382", func := "loop.example/g00588/laws.FnExactFirstAlike", spec := "fnExactFirstAlike", apart := false, narrowed := true }
def FnExactFirstAlikeUptoSaid : Prop := fnExactFirstAlikeUptoRow.holds Try.pinned (OpenSpec.upto fnExactFirstAlikeSpec)

end Rows
end Go.Proofs.Yteokjoppplbmfaa
