/-
  No cell of these rows narrows 'for every input' (looked for: loops, veiled, ifaces, maps, wideKeys, modest, calm, conditions, laid).
  DERIVED. THE GIVEN ROWS OF THIS SEAT. 5 by the template 'for every input the law returns true; each argument reads behind the call as it read before'; 0 by the template 'total and deterministic' (their statements: YtomajneofdmnaaaTotals.lean).
  GIVEN WITH THE SEED: the statements are not yours to turn. If you find one false, say at which input.
  Laid BY PROGRAM, IN A SANDBOX (cutbox-rows.mjs): the forced cells as the released guide's own fill.sh prints them over the translation 3efb5971b8b79f05… (all of the seat's roots in one cut). By AI agents, Wed Nov 11 2026. No macro, syntax, notation, axiom, sorry.
-/
import Derived.Test.YtomajneofdmnaaaChecked
import GoSem.Claim
import GoSem.ClaimJoined
import GoSem.ClaimMapViews
import Derived.JoinedTies
import Derived.KernelRfl
namespace Go.Proofs.Ytomajneofdmnaaa
/- THE CELL 'sum', in the pinned program and in every row, IS THE sha256 OF THE DUMP (.gsa) THAT YtomajneofdmnaaaProg.lean LOADS. Nothing in Lean hashes anything: it is a label: what it is worth is what the hold of that sum in a sandbox is worth. -/
noncomputable def Try.pinned : Pinned := { name := "ytomajneofdmnaaa", sum := "3efb5971b8b79f05e35fbe0eeb60cc5e68bb97d3874405ecc1592a3cb20f4caa", checked := Try.checked }
namespace Rows
def none {H : Type} : Left H := { results := [], args := [] }

/-- 'laws.FnExactProveEntry': WHATEVER THE INPUT: true; the input reads as it did. -/
def fnExactProveEntrySpec : ChangeSpec := { name := "fnExactProveEntry", fn := fun _ => fun
  | [d1, d2] => { results := [.lit (.bool true)], args := [d1, d2] }
  | _ => none }
def fnExactProveEntryRow : OpenClaim := { program := "ytomajneofdmnaaa", sum := "3efb5971b8b79f05e35fbe0eeb60cc5e68bb97d3874405ecc1592a3cb20f4caa", func := "loop.example/g00588/laws.FnExactProveEntry", spec := "fnExactProveEntry", unfollowed := true, recurses := true, apart := false }
def FnExactProveEntrySaid : Prop := fnExactProveEntryRow.holds Try.pinned (OpenSpec.ofChange fnExactProveEntrySpec)

/-- ITS FALSE NEIGHBOUR: 'it returns false'. Refute it at one input. -/
def fnExactProveEntryWrong : ChangeSpec := { name := "fnExactProveEntry", fn := fun _ => fun
  | [d1, d2] => { results := [.lit (.bool false)], args := [d1, d2] }
  | _ => none }
def FnExactProveEntryWrongFalsely : Prop := fnExactProveEntryRow.holds Try.pinned (OpenSpec.ofChange fnExactProveEntryWrong)

/-- 'laws.FnExactCheckEntry': WHATEVER THE INPUT: true; the input reads as it did. -/
def fnExactCheckEntrySpec : ChangeSpec := { name := "fnExactCheckEntry", fn := fun _ => fun
  | [d1, d2, d3, d4] => { results := [.lit (.bool true)], args := [d1, d2, d3, d4] }
  | _ => none }
def fnExactCheckEntryRow : OpenClaim := { program := "ytomajneofdmnaaa", sum := "3efb5971b8b79f05e35fbe0eeb60cc5e68bb97d3874405ecc1592a3cb20f4caa", func := "loop.example/g00588/laws.FnExactCheckEntry", spec := "fnExactCheckEntry", unfollowed := true, recurses := true, apart := false }
def FnExactCheckEntrySaid : Prop := fnExactCheckEntryRow.holds Try.pinned (OpenSpec.ofChange fnExactCheckEntrySpec)

/-- ITS FALSE NEIGHBOUR: 'it returns false'. Refute it at one input. -/
def fnExactCheckEntryWrong : ChangeSpec := { name := "fnExactCheckEntry", fn := fun _ => fun
  | [d1, d2, d3, d4] => { results := [.lit (.bool false)], args := [d1, d2, d3, d4] }
  | _ => none }
def FnExactCheckEntryWrongFalsely : Prop := fnExactCheckEntryRow.holds Try.pinned (OpenSpec.ofChange fnExactCheckEntryWrong)

/-- 'laws.FnExactCheckAll': WHATEVER THE INPUT: true; the input reads as it did. -/
def fnExactCheckAllSpec : ChangeSpec := { name := "fnExactCheckAll", fn := fun _ => fun
  | [d1, d2] => { results := [.lit (.bool true)], args := [d1, d2] }
  | _ => none }
def fnExactCheckAllRow : OpenClaim := { program := "ytomajneofdmnaaa", sum := "3efb5971b8b79f05e35fbe0eeb60cc5e68bb97d3874405ecc1592a3cb20f4caa", func := "loop.example/g00588/laws.FnExactCheckAll", spec := "fnExactCheckAll", inPlace := ["internal/bytealg.abigen_runtime_cmpstring"], unfollowed := true, recurses := true, apart := false }
def FnExactCheckAllSaid : Prop := fnExactCheckAllRow.holds Try.pinned (OpenSpec.ofChange fnExactCheckAllSpec)

/-- ITS FALSE NEIGHBOUR: 'it returns false'. Refute it at one input. -/
def fnExactCheckAllWrong : ChangeSpec := { name := "fnExactCheckAll", fn := fun _ => fun
  | [d1, d2] => { results := [.lit (.bool false)], args := [d1, d2] }
  | _ => none }
def FnExactCheckAllWrongFalsely : Prop := fnExactCheckAllRow.holds Try.pinned (OpenSpec.ofChange fnExactCheckAllWrong)

/-- 'laws.FnExactSizeOfProof': WHATEVER THE INPUT: true; the input reads as it did. -/
def fnExactSizeOfProofSpec : ChangeSpec := { name := "fnExactSizeOfProof", fn := fun _ => fun
  | [d] => { results := [.lit (.bool true)], args := [d] }
  | _ => none }
def fnExactSizeOfProofRow : OpenClaim := { program := "ytomajneofdmnaaa", sum := "3efb5971b8b79f05e35fbe0eeb60cc5e68bb97d3874405ecc1592a3cb20f4caa", func := "loop.example/g00588/laws.FnExactSizeOfProof", spec := "fnExactSizeOfProof", apart := false }
def FnExactSizeOfProofSaid : Prop := fnExactSizeOfProofRow.holds Try.pinned (OpenSpec.ofChange fnExactSizeOfProofSpec)

/-- ITS FALSE NEIGHBOUR: 'it returns false'. Refute it at one input. -/
def fnExactSizeOfProofWrong : ChangeSpec := { name := "fnExactSizeOfProof", fn := fun _ => fun
  | [d] => { results := [.lit (.bool false)], args := [d] }
  | _ => none }
def FnExactSizeOfProofWrongFalsely : Prop := fnExactSizeOfProofRow.holds Try.pinned (OpenSpec.ofChange fnExactSizeOfProofWrong)

/-- 'laws.FnExactEqualProofs': WHATEVER THE INPUT: true; the input reads as it did. -/
def fnExactEqualProofsSpec : ChangeSpec := { name := "fnExactEqualProofs", fn := fun _ => fun
  | [d1, d2] => { results := [.lit (.bool true)], args := [d1, d2] }
  | _ => none }
def fnExactEqualProofsRow : OpenClaim := { program := "ytomajneofdmnaaa", sum := "3efb5971b8b79f05e35fbe0eeb60cc5e68bb97d3874405ecc1592a3cb20f4caa", func := "loop.example/g00588/laws.FnExactEqualProofs", spec := "fnExactEqualProofs", apart := false }
def FnExactEqualProofsSaid : Prop := fnExactEqualProofsRow.holds Try.pinned (OpenSpec.ofChange fnExactEqualProofsSpec)

/-- ITS FALSE NEIGHBOUR: 'it returns false'. Refute it at one input. -/
def fnExactEqualProofsWrong : ChangeSpec := { name := "fnExactEqualProofs", fn := fun _ => fun
  | [d1, d2] => { results := [.lit (.bool false)], args := [d1, d2] }
  | _ => none }
def FnExactEqualProofsWrongFalsely : Prop := fnExactEqualProofsRow.holds Try.pinned (OpenSpec.ofChange fnExactEqualProofsWrong)

/- THE SECOND FORM. 'bulk': how many values and letters a reading holds, each counted each time it is reached (what is shared counts as often as it is met; a slice's spare places count too). A statement '..UptoSaid' is the law's where the arguments, and the package variables that the reading takes, are together of bulk at most 1048576: NARROWER than '..Said'. Prove '..Said' where nothing that the law and all that it calls make is longer than what came in: it says more and counts as full. Else prove '..UptoSaid'. A law counts once. -/
mutual
def uptoBulk {H : Type} : DataW H → Nat
  | .lit (.string bytes) => bytes.length + 1
  | .lit _ => 1
  | .nil => 1
  | .ptr d => uptoBulk d + 1
  | .slice elems spare => uptoBulkAll elems + uptoBulkAll spare + 1
  | .agg parts => uptoBulkAll parts + 1
  | .iface _ d => uptoBulk d + 1
  | .map entries => uptoBulkEntries entries + 1
  | .held _ => 1
def uptoBulkAll {H : Type} : List (DataW H) → Nat
  | [] => 0
  | d :: r => uptoBulk d + uptoBulkAll r
def uptoBulkEntries {H : Type} : List (Lit × DataW H) → Nat
  | [] => 0
  | x :: r => uptoBulkEntry x + uptoBulkEntries r
def uptoBulkEntry {H : Type} : Lit × DataW H → Nat
  | (.string bytes, d) => bytes.length + uptoBulk d + 1
  | (_, d) => uptoBulk d + 1
 end
def uptoSmall : (H : Type) → List (DataW H) → Bool := fun _ ds => decide (uptoBulkAll ds ≤ 1048576)
def OpenSpec.upto (s : _root_.Go.ChangeSpec) : _root_.Go.OpenSpec := { _root_.Go.OpenSpec.ofChange s with cond := some uptoSmall }

/-- 'laws.FnExactProveEntry', WHERE WHAT IT READS IS OF BULK AT MOST 1048576: true; the input reads as it did. -/
def fnExactProveEntryUptoRow : OpenClaim := { program := "ytomajneofdmnaaa", sum := "3efb5971b8b79f05e35fbe0eeb60cc5e68bb97d3874405ecc1592a3cb20f4caa", func := "loop.example/g00588/laws.FnExactProveEntry", spec := "fnExactProveEntry", unfollowed := true, recurses := true, apart := false, narrowed := true }
def FnExactProveEntryUptoSaid : Prop := fnExactProveEntryUptoRow.holds Try.pinned (OpenSpec.upto fnExactProveEntrySpec)

/-- 'laws.FnExactCheckEntry', WHERE WHAT IT READS IS OF BULK AT MOST 1048576: true; the input reads as it did. -/
def fnExactCheckEntryUptoRow : OpenClaim := { program := "ytomajneofdmnaaa", sum := "3efb5971b8b79f05e35fbe0eeb60cc5e68bb97d3874405ecc1592a3cb20f4caa", func := "loop.example/g00588/laws.FnExactCheckEntry", spec := "fnExactCheckEntry", unfollowed := true, recurses := true, apart := false, narrowed := true }
def FnExactCheckEntryUptoSaid : Prop := fnExactCheckEntryUptoRow.holds Try.pinned (OpenSpec.upto fnExactCheckEntrySpec)

/-- 'laws.FnExactCheckAll', WHERE WHAT IT READS IS OF BULK AT MOST 1048576: true; the input reads as it did. -/
def fnExactCheckAllUptoRow : OpenClaim := { program := "ytomajneofdmnaaa", sum := "3efb5971b8b79f05e35fbe0eeb60cc5e68bb97d3874405ecc1592a3cb20f4caa", func := "loop.example/g00588/laws.FnExactCheckAll", spec := "fnExactCheckAll", inPlace := ["internal/bytealg.abigen_runtime_cmpstring"], unfollowed := true, recurses := true, apart := false, narrowed := true }
def FnExactCheckAllUptoSaid : Prop := fnExactCheckAllUptoRow.holds Try.pinned (OpenSpec.upto fnExactCheckAllSpec)

/-- 'laws.FnExactSizeOfProof', WHERE WHAT IT READS IS OF BULK AT MOST 1048576: true; the input reads as it did. -/
def fnExactSizeOfProofUptoRow : OpenClaim := { program := "ytomajneofdmnaaa", sum := "3efb5971b8b79f05e35fbe0eeb60cc5e68bb97d3874405ecc1592a3cb20f4caa", func := "loop.example/g00588/laws.FnExactSizeOfProof", spec := "fnExactSizeOfProof", apart := false, narrowed := true }
def FnExactSizeOfProofUptoSaid : Prop := fnExactSizeOfProofUptoRow.holds Try.pinned (OpenSpec.upto fnExactSizeOfProofSpec)

/-- 'laws.FnExactEqualProofs', WHERE WHAT IT READS IS OF BULK AT MOST 1048576: true; the input reads as it did. -/
def fnExactEqualProofsUptoRow : OpenClaim := { program := "ytomajneofdmnaaa", sum := "3efb5971b8b79f05e35fbe0eeb60cc5e68bb97d3874405ecc1592a3cb20f4caa", func := "loop.example/g00588/laws.FnExactEqualProofs", spec := "fnExactEqualProofs", apart := false, narrowed := true }
def FnExactEqualProofsUptoSaid : Prop := fnExactEqualProofsUptoRow.holds Try.pinned (OpenSpec.upto fnExactEqualProofsSpec)

end Rows
end Go.Proofs.Ytomajneofdmnaaa
