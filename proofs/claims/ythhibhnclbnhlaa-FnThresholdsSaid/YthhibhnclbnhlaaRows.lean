/-
  No cell of these rows narrows 'for every input' (looked for: loops, veiled, ifaces, maps, wideKeys, modest, calm, conditions, laid).
  DERIVED. THE GIVEN ROWS OF THIS SEAT. 8 by the template 'for every input the law returns true; each argument reads behind the call as it read before'; 0 by the template 'total and deterministic' (their statements: YthhibhnclbnhlaaTotals.lean).
  GIVEN WITH THE SEED: the statements are not yours to turn. If you find one false, say at which input.
  Laid BY PROGRAM, IN A SANDBOX (cutbox-rows.mjs): the forced cells as the released guide's own fill.sh prints them over the translation 70d53dc5bd08816c… (all of the seat's roots in one cut). By AI agents, Wed Nov 11 2026. No macro, syntax, notation, axiom, sorry.
-/
import Derived.Test.YthhibhnclbnhlaaChecked
import GoSem.Claim
import GoSem.ClaimJoined
import GoSem.ClaimMapViews
import Derived.JoinedTies
import Derived.KernelRfl
namespace Go.Proofs.Ythhibhnclbnhlaa
/- THE CELL 'sum', in the pinned program and in every row, IS THE sha256 OF THE DUMP (.gsa) THAT YthhibhnclbnhlaaProg.lean LOADS. Nothing in Lean hashes anything: it is a label: what it is worth is what the hold of that sum in a sandbox is worth. -/
noncomputable def Try.pinned : Pinned := { name := "ythhibhnclbnhlaa", sum := "70d53dc5bd08816c04707ac49f69cebd3640772763f267d097598e6f28ba94fd", checked := Try.checked }
namespace Rows
def none {H : Type} : Left H := { results := [], args := [] }

/-- 'laws.FnThresholds': WHATEVER THE INPUT: true; the input reads as it did. -/
def fnThresholdsSpec : ChangeSpec := { name := "fnThresholds", fn := fun _ => fun
  | [d] => { results := [.lit (.bool true)], args := [d] }
  | _ => none }
def fnThresholdsRow : OpenClaim := { program := "ythhibhnclbnhlaa", sum := "70d53dc5bd08816c04707ac49f69cebd3640772763f267d097598e6f28ba94fd", func := "loop.example/g00588/laws.FnThresholds", spec := "fnThresholds", recurses := true, apart := false }
def FnThresholdsSaid : Prop := fnThresholdsRow.holds Try.pinned (OpenSpec.ofChange fnThresholdsSpec)

/-- ITS FALSE NEIGHBOUR: 'it returns false'. Refute it at one input. -/
def fnThresholdsWrong : ChangeSpec := { name := "fnThresholds", fn := fun _ => fun
  | [d] => { results := [.lit (.bool false)], args := [d] }
  | _ => none }
def FnThresholdsWrongFalsely : Prop := fnThresholdsRow.holds Try.pinned (OpenSpec.ofChange fnThresholdsWrong)

/-- 'laws.FnSigners': WHATEVER THE INPUT: true; the input reads as it did. -/
def fnSignersSpec : ChangeSpec := { name := "fnSigners", fn := fun _ => fun
  | [d] => { results := [.lit (.bool true)], args := [d] }
  | _ => none }
def fnSignersRow : OpenClaim := { program := "ythhibhnclbnhlaa", sum := "70d53dc5bd08816c04707ac49f69cebd3640772763f267d097598e6f28ba94fd", func := "loop.example/g00588/laws.FnSigners", spec := "fnSigners", recurses := true, apart := false }
def FnSignersSaid : Prop := fnSignersRow.holds Try.pinned (OpenSpec.ofChange fnSignersSpec)

/-- ITS FALSE NEIGHBOUR: 'it returns false'. Refute it at one input. -/
def fnSignersWrong : ChangeSpec := { name := "fnSigners", fn := fun _ => fun
  | [d] => { results := [.lit (.bool false)], args := [d] }
  | _ => none }
def FnSignersWrongFalsely : Prop := fnSignersRow.holds Try.pinned (OpenSpec.ofChange fnSignersWrong)

/-- 'laws.FnExactTagOf': WHATEVER THE INPUT: true; the input reads as it did. -/
def fnExactTagOfSpec : ChangeSpec := { name := "fnExactTagOf", fn := fun _ => fun
  | [d1, d2] => { results := [.lit (.bool true)], args := [d1, d2] }
  | _ => none }
def fnExactTagOfRow : OpenClaim := { program := "ythhibhnclbnhlaa", sum := "70d53dc5bd08816c04707ac49f69cebd3640772763f267d097598e6f28ba94fd", func := "loop.example/g00588/laws.FnExactTagOf", spec := "fnExactTagOf", apart := false }
def FnExactTagOfSaid : Prop := fnExactTagOfRow.holds Try.pinned (OpenSpec.ofChange fnExactTagOfSpec)

/-- ITS FALSE NEIGHBOUR: 'it returns false'. Refute it at one input. -/
def fnExactTagOfWrong : ChangeSpec := { name := "fnExactTagOf", fn := fun _ => fun
  | [d1, d2] => { results := [.lit (.bool false)], args := [d1, d2] }
  | _ => none }
def FnExactTagOfWrongFalsely : Prop := fnExactTagOfRow.holds Try.pinned (OpenSpec.ofChange fnExactTagOfWrong)

/-- 'laws.FnExactSignBy': WHATEVER THE INPUT: true; the input reads as it did. -/
def fnExactSignBySpec : ChangeSpec := { name := "fnExactSignBy", fn := fun _ => fun
  | [d1, d2, d3] => { results := [.lit (.bool true)], args := [d1, d2, d3] }
  | _ => none }
def fnExactSignByRow : OpenClaim := { program := "ythhibhnclbnhlaa", sum := "70d53dc5bd08816c04707ac49f69cebd3640772763f267d097598e6f28ba94fd", func := "loop.example/g00588/laws.FnExactSignBy", spec := "fnExactSignBy", apart := false }
def FnExactSignBySaid : Prop := fnExactSignByRow.holds Try.pinned (OpenSpec.ofChange fnExactSignBySpec)

/-- ITS FALSE NEIGHBOUR: 'it returns false'. Refute it at one input. -/
def fnExactSignByWrong : ChangeSpec := { name := "fnExactSignBy", fn := fun _ => fun
  | [d1, d2, d3] => { results := [.lit (.bool false)], args := [d1, d2, d3] }
  | _ => none }
def FnExactSignByWrongFalsely : Prop := fnExactSignByRow.holds Try.pinned (OpenSpec.ofChange fnExactSignByWrong)

/-- 'laws.FnExactIsSigBy': WHATEVER THE INPUT: true; the input reads as it did. -/
def fnExactIsSigBySpec : ChangeSpec := { name := "fnExactIsSigBy", fn := fun _ => fun
  | [d1, d2] => { results := [.lit (.bool true)], args := [d1, d2] }
  | _ => none }
def fnExactIsSigByRow : OpenClaim := { program := "ythhibhnclbnhlaa", sum := "70d53dc5bd08816c04707ac49f69cebd3640772763f267d097598e6f28ba94fd", func := "loop.example/g00588/laws.FnExactIsSigBy", spec := "fnExactIsSigBy", apart := false }
def FnExactIsSigBySaid : Prop := fnExactIsSigByRow.holds Try.pinned (OpenSpec.ofChange fnExactIsSigBySpec)

/-- ITS FALSE NEIGHBOUR: 'it returns false'. Refute it at one input. -/
def fnExactIsSigByWrong : ChangeSpec := { name := "fnExactIsSigBy", fn := fun _ => fun
  | [d1, d2] => { results := [.lit (.bool false)], args := [d1, d2] }
  | _ => none }
def FnExactIsSigByWrongFalsely : Prop := fnExactIsSigByRow.holds Try.pinned (OpenSpec.ofChange fnExactIsSigByWrong)

/-- 'laws.FnExactCountSigs': WHATEVER THE INPUT: true; the input reads as it did. -/
def fnExactCountSigsSpec : ChangeSpec := { name := "fnExactCountSigs", fn := fun _ => fun
  | [d1, d2, d3] => { results := [.lit (.bool true)], args := [d1, d2, d3] }
  | _ => none }
def fnExactCountSigsRow : OpenClaim := { program := "ythhibhnclbnhlaa", sum := "70d53dc5bd08816c04707ac49f69cebd3640772763f267d097598e6f28ba94fd", func := "loop.example/g00588/laws.FnExactCountSigs", spec := "fnExactCountSigs", recurses := true, apart := false }
def FnExactCountSigsSaid : Prop := fnExactCountSigsRow.holds Try.pinned (OpenSpec.ofChange fnExactCountSigsSpec)

/-- ITS FALSE NEIGHBOUR: 'it returns false'. Refute it at one input. -/
def fnExactCountSigsWrong : ChangeSpec := { name := "fnExactCountSigs", fn := fun _ => fun
  | [d1, d2, d3] => { results := [.lit (.bool false)], args := [d1, d2, d3] }
  | _ => none }
def FnExactCountSigsWrongFalsely : Prop := fnExactCountSigsRow.holds Try.pinned (OpenSpec.ofChange fnExactCountSigsWrong)

/-- 'laws.FnExactIsSigned': WHATEVER THE INPUT: true; the input reads as it did. -/
def fnExactIsSignedSpec : ChangeSpec := { name := "fnExactIsSigned", fn := fun _ => fun
  | [d1, d2, d3] => { results := [.lit (.bool true)], args := [d1, d2, d3] }
  | _ => none }
def fnExactIsSignedRow : OpenClaim := { program := "ythhibhnclbnhlaa", sum := "70d53dc5bd08816c04707ac49f69cebd3640772763f267d097598e6f28ba94fd", func := "loop.example/g00588/laws.FnExactIsSigned", spec := "fnExactIsSigned", recurses := true, apart := false }
def FnExactIsSignedSaid : Prop := fnExactIsSignedRow.holds Try.pinned (OpenSpec.ofChange fnExactIsSignedSpec)

/-- ITS FALSE NEIGHBOUR: 'it returns false'. Refute it at one input. -/
def fnExactIsSignedWrong : ChangeSpec := { name := "fnExactIsSigned", fn := fun _ => fun
  | [d1, d2, d3] => { results := [.lit (.bool false)], args := [d1, d2, d3] }
  | _ => none }
def FnExactIsSignedWrongFalsely : Prop := fnExactIsSignedRow.holds Try.pinned (OpenSpec.ofChange fnExactIsSignedWrong)

/-- 'laws.FnExactSignersOf': WHATEVER THE INPUT: true; the input reads as it did. -/
def fnExactSignersOfSpec : ChangeSpec := { name := "fnExactSignersOf", fn := fun _ => fun
  | [d1, d2] => { results := [.lit (.bool true)], args := [d1, d2] }
  | _ => none }
def fnExactSignersOfRow : OpenClaim := { program := "ythhibhnclbnhlaa", sum := "70d53dc5bd08816c04707ac49f69cebd3640772763f267d097598e6f28ba94fd", func := "loop.example/g00588/laws.FnExactSignersOf", spec := "fnExactSignersOf", recurses := true, apart := false }
def FnExactSignersOfSaid : Prop := fnExactSignersOfRow.holds Try.pinned (OpenSpec.ofChange fnExactSignersOfSpec)

/-- ITS FALSE NEIGHBOUR: 'it returns false'. Refute it at one input. -/
def fnExactSignersOfWrong : ChangeSpec := { name := "fnExactSignersOf", fn := fun _ => fun
  | [d1, d2] => { results := [.lit (.bool false)], args := [d1, d2] }
  | _ => none }
def FnExactSignersOfWrongFalsely : Prop := fnExactSignersOfRow.holds Try.pinned (OpenSpec.ofChange fnExactSignersOfWrong)

/- THE SECOND FORM. 'bulk': how many values and letters a reading holds, each counted each time it is reached (what is shared counts as often as it is met; a slice's spare places count too). A statement '..UptoSaid' is the law's where the arguments, and the package variables that the reading takes, are together of bulk at most 1048576: NARROWER than '..Said'. Prove '..Said' where nothing that the law and all that it calls make is longer than what came in: it says more and counts as full. Else prove '..UptoSaid'. A law counts once. -/
mutual
def uptoBulk {H : Type} : DataW H → Nat
  | .lit (.string bytes) => bytes.length + 1
  | .lit _ => 1
  | .nil => 1
  | .ptr d => uptoBulk d + 1
  | .slice elems spare => uptoBulkAll elems + uptoBulkAll spare + 1
  | .agg parts => uptoBulkAll parts + 1
  | .iface _ d => uptoBulk d + 1
  | .map entries => uptoBulkEntries entries + 1
  | .held _ => 1
def uptoBulkAll {H : Type} : List (DataW H) → Nat
  | [] => 0
  | d :: r => uptoBulk d + uptoBulkAll r
def uptoBulkEntries {H : Type} : List (Lit × DataW H) → Nat
  | [] => 0
  | x :: r => uptoBulkEntry x + uptoBulkEntries r
def uptoBulkEntry {H : Type} : Lit × DataW H → Nat
  | (.string bytes, d) => bytes.length + uptoBulk d + 1
  | (_, d) => uptoBulk d + 1
 end
def uptoSmall : (H : Type) → List (DataW H) → Bool := fun _ ds => decide (uptoBulkAll ds ≤ 1048576)
def OpenSpec.upto (s : _root_.Go.ChangeSpec) : _root_.Go.OpenSpec := { _root_.Go.OpenSpec.ofChange s with cond := some uptoSmall }

/-- 'laws.FnThresholds', WHERE WHAT IT READS IS OF BULK AT MOST 1048576: true; the input reads as it did. -/
def fnThresholdsUptoRow : OpenClaim := { program := "ythhibhnclbnhlaa", sum := "70d53dc5bd08816c04707ac49f69cebd3640772763f267d097598e6f28ba94fd", func := "loop.example/g00588/laws.FnThresholds", spec := "fnThresholds", recurses := true, apart := false, narrowed := true }
def FnThresholdsUptoSaid : Prop := fnThresholdsUptoRow.holds Try.pinned (OpenSpec.upto fnThresholdsSpec)

/-- 'laws.FnSigners', WHERE WHAT IT READS IS OF BULK AT MOST 1048576: true; the input reads as it did. -/
def fnSignersUptoRow : OpenClaim := { program := "ythhibhnclbnhlaa", sum := "70d53dc5bd08816c04707ac49f69cebd3640772763f267d097598e6f28ba94fd", func := "loop.example/g00588/laws.FnSigners", spec := "fnSigners", recurses := true, apart := false, narrowed := true }
def FnSignersUptoSaid : Prop := fnSignersUptoRow.holds Try.pinned (OpenSpec.upto fnSignersSpec)

/-- 'laws.FnExactTagOf', WHERE WHAT IT READS IS OF BULK AT MOST 1048576: true; the input reads as it did. -/
def fnExactTagOfUptoRow : OpenClaim := { program := "ythhibhnclbnhlaa", sum := "70d53dc5bd08816c04707ac49f69cebd3640772763f267d097598e6f28ba94fd", func := "loop.example/g00588/laws.FnExactTagOf", spec := "fnExactTagOf", apart := false, narrowed := true }
def FnExactTagOfUptoSaid : Prop := fnExactTagOfUptoRow.holds Try.pinned (OpenSpec.upto fnExactTagOfSpec)

/-- 'laws.FnExactSignBy', WHERE WHAT IT READS IS OF BULK AT MOST 1048576: true; the input reads as it did. -/
def fnExactSignByUptoRow : OpenClaim := { program := "ythhibhnclbnhlaa", sum := "70d53dc5bd08816c04707ac49f69cebd3640772763f267d097598e6f28ba94fd", func := "loop.example/g00588/laws.FnExactSignBy", spec := "fnExactSignBy", apart := false, narrowed := true }
def FnExactSignByUptoSaid : Prop := fnExactSignByUptoRow.holds Try.pinned (OpenSpec.upto fnExactSignBySpec)

/-- 'laws.FnExactIsSigBy', WHERE WHAT IT READS IS OF BULK AT MOST 1048576: true; the input reads as it did. -/
def fnExactIsSigByUptoRow : OpenClaim := { program := "ythhibhnclbnhlaa", sum := "70d53dc5bd08816c04707ac49f69cebd3640772763f267d097598e6f28ba94fd", func := "loop.example/g00588/laws.FnExactIsSigBy", spec := "fnExactIsSigBy", apart := false, narrowed := true }
def FnExactIsSigByUptoSaid : Prop := fnExactIsSigByUptoRow.holds Try.pinned (OpenSpec.upto fnExactIsSigBySpec)

/-- 'laws.FnExactCountSigs', WHERE WHAT IT READS IS OF BULK AT MOST 1048576: true; the input reads as it did. -/
def fnExactCountSigsUptoRow : OpenClaim := { program := "ythhibhnclbnhlaa", sum := "70d53dc5bd08816c04707ac49f69cebd3640772763f267d097598e6f28ba94fd", func := "loop.example/g00588/laws.FnExactCountSigs", spec := "fnExactCountSigs", recurses := true, apart := false, narrowed := true }
def FnExactCountSigsUptoSaid : Prop := fnExactCountSigsUptoRow.holds Try.pinned (OpenSpec.upto fnExactCountSigsSpec)

/-- 'laws.FnExactIsSigned', WHERE WHAT IT READS IS OF BULK AT MOST 1048576: true; the input reads as it did. -/
def fnExactIsSignedUptoRow : OpenClaim := { program := "ythhibhnclbnhlaa", sum := "70d53dc5bd08816c04707ac49f69cebd3640772763f267d097598e6f28ba94fd", func := "loop.example/g00588/laws.FnExactIsSigned", spec := "fnExactIsSigned", recurses := true, apart := false, narrowed := true }
def FnExactIsSignedUptoSaid : Prop := fnExactIsSignedUptoRow.holds Try.pinned (OpenSpec.upto fnExactIsSignedSpec)

/-- 'laws.FnExactSignersOf', WHERE WHAT IT READS IS OF BULK AT MOST 1048576: true; the input reads as it did. -/
def fnExactSignersOfUptoRow : OpenClaim := { program := "ythhibhnclbnhlaa", sum := "70d53dc5bd08816c04707ac49f69cebd3640772763f267d097598e6f28ba94fd", func := "loop.example/g00588/laws.FnExactSignersOf", spec := "fnExactSignersOf", recurses := true, apart := false, narrowed := true }
def FnExactSignersOfUptoSaid : Prop := fnExactSignersOfUptoRow.holds Try.pinned (OpenSpec.upto fnExactSignersOfSpec)

end Rows
end Go.Proofs.Ythhibhnclbnhlaa
