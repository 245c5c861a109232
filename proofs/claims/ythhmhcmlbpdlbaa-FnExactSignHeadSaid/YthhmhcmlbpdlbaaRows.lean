/-
  No cell of these rows narrows 'for every input' (looked for: loops, veiled, ifaces, maps, wideKeys, modest, calm, conditions, laid).
  DERIVED. THE GIVEN ROWS OF THIS SEAT. 5 by the template 'for every input the law returns true; each argument reads behind the call as it read before'; 0 by the template 'total and deterministic' (their statements: YthhmhcmlbpdlbaaTotals.lean).
  GIVEN WITH THE SEED: the statements are not yours to turn. If you find one false, say at which input.
  Laid BY PROGRAM, IN A SANDBOX (cutbox-rows.mjs): the forced cells as the released guide's own fill.sh prints them over the translation 9f68c77a660d45ea… (all of the seat's roots in one cut). By AI agents, Wed Nov 11 2026. No macro, syntax, notation, axiom, sorry.
-/
import Derived.Test.YthhmhcmlbpdlbaaChecked
import GoSem.Claim
import GoSem.ClaimJoined
import GoSem.ClaimMapViews
import Derived.JoinedTies
import Derived.KernelRfl
namespace Go.Proofs.Ythhmhcmlbpdlbaa
/- THE CELL 'sum', in the pinned program and in every row, IS THE sha256 OF THE DUMP (.gsa) THAT YthhmhcmlbpdlbaaProg.lean LOADS. Nothing in Lean hashes anything: it is a label: what it is worth is what the hold of that sum in a sandbox is worth. -/
noncomputable def Try.pinned : Pinned := { name := "ythhmhcmlbpdlbaa", sum := "9f68c77a660d45ea85c05e80c10ff3c1bf897d3af08543bd1c99f8cfbe74a515", checked := Try.checked }
namespace Rows
def none {H : Type} : Left H := { results := [], args := [] }

/-- 'laws.FnExactZoneOf': WHATEVER THE INPUT: true; the input reads as it did. -/
def fnExactZoneOfSpec : ChangeSpec := { name := "fnExactZoneOf", fn := fun _ => fun
  | [d1, d2] => { results := [.lit (.bool true)], args := [d1, d2] }
  | _ => none }
def fnExactZoneOfRow : OpenClaim := { program := "ythhmhcmlbpdlbaa", sum := "9f68c77a660d45ea85c05e80c10ff3c1bf897d3af08543bd1c99f8cfbe74a515", func := "loop.example/g00588/laws.FnExactZoneOf", spec := "fnExactZoneOf", apart := false }
def FnExactZoneOfSaid : Prop := fnExactZoneOfRow.holds Try.pinned (OpenSpec.ofChange fnExactZoneOfSpec)

/-- ITS FALSE NEIGHBOUR: 'it returns false'. Refute it at one input. -/
def fnExactZoneOfWrong : ChangeSpec := { name := "fnExactZoneOf", fn := fun _ => fun
  | [d1, d2] => { results := [.lit (.bool false)], args := [d1, d2] }
  | _ => none }
def FnExactZoneOfWrongFalsely : Prop := fnExactZoneOfRow.holds Try.pinned (OpenSpec.ofChange fnExactZoneOfWrong)

/-- 'laws.FnExactSignHead': WHATEVER THE INPUT: true; the input reads as it did. -/
def fnExactSignHeadSpec : ChangeSpec := { name := "fnExactSignHead", fn := fun _ => fun
  | [d1, d2, d3] => { results := [.lit (.bool true)], args := [d1, d2, d3] }
  | _ => none }
def fnExactSignHeadRow : OpenClaim := { program := "ythhmhcmlbpdlbaa", sum := "9f68c77a660d45ea85c05e80c10ff3c1bf897d3af08543bd1c99f8cfbe74a515", func := "loop.example/g00588/laws.FnExactSignHead", spec := "fnExactSignHead", apart := false }
def FnExactSignHeadSaid : Prop := fnExactSignHeadRow.holds Try.pinned (OpenSpec.ofChange fnExactSignHeadSpec)

/-- ITS FALSE NEIGHBOUR: 'it returns false'. Refute it at one input. -/
def fnExactSignHeadWrong : ChangeSpec := { name := "fnExactSignHead", fn := fun _ => fun
  | [d1, d2, d3] => { results := [.lit (.bool false)], args := [d1, d2, d3] }
  | _ => none }
def FnExactSignHeadWrongFalsely : Prop := fnExactSignHeadRow.holds Try.pinned (OpenSpec.ofChange fnExactSignHeadWrong)

/-- 'laws.FnExactIsFirst': WHATEVER THE INPUT: true; the input reads as it did. -/
def fnExactIsFirstSpec : ChangeSpec := { name := "fnExactIsFirst", fn := fun _ => fun
  | [d] => { results := [.lit (.bool true)], args := [d] }
  | _ => none }
def fnExactIsFirstRow : OpenClaim := { program := "ythhmhcmlbpdlbaa", sum := "9f68c77a660d45ea85c05e80c10ff3c1bf897d3af08543bd1c99f8cfbe74a515", func := "loop.example/g00588/laws.FnExactIsFirst", spec := "fnExactIsFirst", recurses := true, apart := false }
def FnExactIsFirstSaid : Prop := fnExactIsFirstRow.holds Try.pinned (OpenSpec.ofChange fnExactIsFirstSpec)

/-- ITS FALSE NEIGHBOUR: 'it returns false'. Refute it at one input. -/
def fnExactIsFirstWrong : ChangeSpec := { name := "fnExactIsFirst", fn := fun _ => fun
  | [d] => { results := [.lit (.bool false)], args := [d] }
  | _ => none }
def FnExactIsFirstWrongFalsely : Prop := fnExactIsFirstRow.holds Try.pinned (OpenSpec.ofChange fnExactIsFirstWrong)

/-- 'laws.FnExactCountSignedSigs': WHATEVER THE INPUT: true; the input reads as it did. -/
def fnExactCountSignedSigsSpec : ChangeSpec := { name := "fnExactCountSignedSigs", fn := fun _ => fun
  | [d1, d2] => { results := [.lit (.bool true)], args := [d1, d2] }
  | _ => none }
def fnExactCountSignedSigsRow : OpenClaim := { program := "ythhmhcmlbpdlbaa", sum := "9f68c77a660d45ea85c05e80c10ff3c1bf897d3af08543bd1c99f8cfbe74a515", func := "loop.example/g00588/laws.FnExactCountSignedSigs", spec := "fnExactCountSignedSigs", recurses := true, apart := false }
def FnExactCountSignedSigsSaid : Prop := fnExactCountSignedSigsRow.holds Try.pinned (OpenSpec.ofChange fnExactCountSignedSigsSpec)

/-- ITS FALSE NEIGHBOUR: 'it returns false'. Refute it at one input. -/
def fnExactCountSignedSigsWrong : ChangeSpec := { name := "fnExactCountSignedSigs", fn := fun _ => fun
  | [d1, d2] => { results := [.lit (.bool false)], args := [d1, d2] }
  | _ => none }
def FnExactCountSignedSigsWrongFalsely : Prop := fnExactCountSignedSigsRow.holds Try.pinned (OpenSpec.ofChange fnExactCountSignedSigsWrong)

/-- 'laws.FnExactEqualSigned': WHATEVER THE INPUT: true; the input reads as it did. -/
def fnExactEqualSignedSpec : ChangeSpec := { name := "fnExactEqualSigned", fn := fun _ => fun
  | [d1, d2] => { results := [.lit (.bool true)], args := [d1, d2] }
  | _ => none }
def fnExactEqualSignedRow : OpenClaim := { program := "ythhmhcmlbpdlbaa", sum := "9f68c77a660d45ea85c05e80c10ff3c1bf897d3af08543bd1c99f8cfbe74a515", func := "loop.example/g00588/laws.FnExactEqualSigned", spec := "fnExactEqualSigned", apart := false }
def FnExactEqualSignedSaid : Prop := fnExactEqualSignedRow.holds Try.pinned (OpenSpec.ofChange fnExactEqualSignedSpec)

/-- ITS FALSE NEIGHBOUR: 'it returns false'. Refute it at one input. -/
def fnExactEqualSignedWrong : ChangeSpec := { name := "fnExactEqualSigned", fn := fun _ => fun
  | [d1, d2] => { results := [.lit (.bool false)], args := [d1, d2] }
  | _ => none }
def FnExactEqualSignedWrongFalsely : Prop := fnExactEqualSignedRow.holds Try.pinned (OpenSpec.ofChange fnExactEqualSignedWrong)

/- THE SECOND FORM. 'bulk': how many values and letters a reading holds, each counted each time it is reached (what is shared counts as often as it is met; a slice's spare places count too). A statement '..UptoSaid' is the law's where the arguments, and the package variables that the reading takes, are together of bulk at most 1048576: NARROWER than '..Said'. Prove '..Said' where nothing that the law and all that it calls make is longer than what came in: it says more and counts as full. Else prove '..UptoSaid'. A law counts once. -/
mutual
def uptoBulk {H : Type} : DataW H → Nat
  | .lit (.string bytes) => bytes.length + 1
  | .lit _ => 1
  | .nil => 1
  | .ptr d => uptoBulk d + 1
  | .slice elems spare => uptoBulkAll elems + uptoBulkAll spare + 1
  | .agg parts => uptoBulkAll parts + 1
  | .iface _ d => uptoBulk d + 1
  | .map entries => uptoBulkEntries entries + 1
  | .held _ => 1
def uptoBulkAll {H : Type} : List (DataW H) → Nat
  | [] => 0
  | d :: r => uptoBulk d + uptoBulkAll r
def uptoBulkEntries {H : Type} : List (Lit × DataW H) → Nat
  | [] => 0
  | x :: r => uptoBulkEntry x + uptoBulkEntries r
def uptoBulkEntry {H : Type} : Lit × DataW H → Nat
  | (.string bytes, d) => bytes.length + uptoBulk d + 1
  | (_, d) => uptoBulk d + 1
 end
def uptoSmall : (H : Type) → List (DataW H) → Bool := fun _ ds => decide (uptoBulkAll ds ≤ 1048576)
def OpenSpec.upto (s : _root_.Go.ChangeSpec) : _root_.Go.OpenSpec := { _root_.Go.OpenSpec.ofChange s with cond := some uptoSmall }

/-- 'laws.FnExactZoneOf', WHERE WHAT IT READS IS OF BULK AT MOST 1048576: true; the input reads as it did. -/
def fnExactZoneOfUptoRow : OpenClaim := { program := "ythhmhcmlbpdlbaa", sum := "9f68c77a660d45ea85c05e80c10ff3c1bf897d3af08543bd1c99f8cfbe74a515", func := "loop.example/g00588/laws.FnExactZoneOf", spec := "fnExactZoneOf", apart := false, narrowed := true }
def FnExactZoneOfUptoSaid : Prop := fnExactZoneOfUptoRow.holds Try.pinned (OpenSpec.upto fnExactZoneOfSpec)

/-- 'laws.FnExactSignHead', WHERE WHAT IT READS IS OF BULK AT MOST 1048576: true; the input reads as it did. -/
def fnExactSignHeadUptoRow : OpenClaim := { program := "ythhmhcmlbpdlbaa", sum := "9f68c77a660d45ea85c05e80c10ff3c1bf897d3af08543bd1c99f8cfbe74a515", func := "loop.example/g00588/laws.FnExactSignHead", spec := "fnExactSignHead", apart := false, narrowed := true }
def FnExactSignHeadUptoSaid : Prop := fnExactSignHeadUptoRow.holds Try.pinned (OpenSpec.upto fnExactSignHeadSpec)

/-- 'laws.FnExactIsFirst', WHERE WHAT IT READS IS OF BULK AT MOST 1048576: true; the input reads as it did. -/
def fnExactIsFirstUptoRow : OpenClaim := { program := "ythhmhcmlbpdlbaa", sum := "9f68c77a660d45ea85c05e80c10ff3c1bf897d3af08543bd1c99f8cfbe74a515", func := "loop.example/g00588/laws.FnExactIsFirst", spec := "fnExactIsFirst", recurses := true, apart := false, narrowed := true }
def FnExactIsFirstUptoSaid : Prop := fnExactIsFirstUptoRow.holds Try.pinned (OpenSpec.upto fnExactIsFirstSpec)

/-- 'laws.FnExactCountSignedSigs', WHERE WHAT IT READS IS OF BULK AT MOST 1048576: true; the input reads as it did. -/
def fnExactCountSignedSigsUptoRow : OpenClaim := { program := "ythhmhcmlbpdlbaa", sum := "9f68c77a660d45ea85c05e80c10ff3c1bf897d3af08543bd1c99f8cfbe74a515", func := "loop.example/g00588/laws.FnExactCountSignedSigs", spec := "fnExactCountSignedSigs", recurses := true, apart := false, narrowed := true }
def FnExactCountSignedSigsUptoSaid : Prop := fnExactCountSignedSigsUptoRow.holds Try.pinned (OpenSpec.upto fnExactCountSignedSigsSpec)

/-- 'laws.FnExactEqualSigned', WHERE WHAT IT READS IS OF BULK AT MOST 1048576: true; the input reads as it did. -/
def fnExactEqualSignedUptoRow : OpenClaim := { program := "ythhmhcmlbpdlbaa", sum := "9f68c77a660d45ea85c05e80c10ff3c1bf897d3af08543bd1c99f8cfbe74a515", func := "loop.example/g00588/laws.FnExactEqualSigned", spec := "fnExactEqualSigned", apart := false, narrowed := true }
def FnExactEqualSignedUptoSaid : Prop := fnExactEqualSignedUptoRow.holds Try.pinned (OpenSpec.upto fnExactEqualSignedSpec)

end Rows
end Go.Proofs.Ythhmhcmlbpdlbaa
