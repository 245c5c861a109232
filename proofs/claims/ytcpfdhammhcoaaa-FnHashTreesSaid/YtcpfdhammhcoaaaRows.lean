/-
  No cell of these rows narrows 'for every input' (looked for: loops, veiled, ifaces, maps, wideKeys, modest, calm, conditions, laid).
  DERIVED. THE GIVEN ROWS OF THIS SEAT. 7 by the template 'for every input the law returns true; each argument reads behind the call as it read before'; 0 by the template 'total and deterministic' (their statements: YtcpfdhammhcoaaaTotals.lean).
  GIVEN WITH THE SEED: the statements are not yours to turn. If you find one false, say at which input.
  Laid BY PROGRAM, IN A SANDBOX (cutbox-rows.mjs): the forced cells as the released guide's own fill.sh prints them over the translation c2e5dde962f71a01… (all of the seat's roots in one cut). By AI agents, Wed Nov 11 2026. No macro, syntax, notation, axiom, sorry.
-/
import Derived.Test.YtcpfdhammhcoaaaChecked
import GoSem.Claim
import GoSem.ClaimJoined
import GoSem.ClaimMapViews
import Derived.JoinedTies
import Derived.KernelRfl
namespace Go.Proofs.Ytcpfdhammhcoaaa
/- THE CELL 'sum', in the pinned program and in every row, IS THE sha256 OF THE DUMP (.gsa) THAT YtcpfdhammhcoaaaProg.lean LOADS. Nothing in Lean hashes anything: it is a label: what it is worth is what the hold of that sum in a sandbox is worth. -/
noncomputable def Try.pinned : Pinned := { name := "ytcpfdhammhcoaaa", sum := "c2e5dde962f71a01b49b806562985afe77c917988815753e7e3200f3e52a7a3a", checked := Try.checked }
namespace Rows
def none {H : Type} : Left H := { results := [], args := [] }

/-- 'laws.FnHashTrees': WHATEVER THE INPUT: true; the input reads as it did. -/
def fnHashTreesSpec : ChangeSpec := { name := "fnHashTrees", fn := fun _ => fun
  | [d] => { results := [.lit (.bool true)], args := [d] }
  | _ => none }
def fnHashTreesRow : OpenClaim := { program := "ytcpfdhammhcoaaa", sum := "c2e5dde962f71a01b49b806562985afe77c917988815753e7e3200f3e52a7a3a", func := "loop.example/g00588/laws.FnHashTrees", spec := "fnHashTrees", unfollowed := true, recurses := true, apart := false }
def FnHashTreesSaid : Prop := fnHashTreesRow.holds Try.pinned (OpenSpec.ofChange fnHashTreesSpec)

/-- ITS FALSE NEIGHBOUR: 'it returns false'. Refute it at one input. -/
def fnHashTreesWrong : ChangeSpec := { name := "fnHashTrees", fn := fun _ => fun
  | [d] => { results := [.lit (.bool false)], args := [d] }
  | _ => none }
def FnHashTreesWrongFalsely : Prop := fnHashTreesRow.holds Try.pinned (OpenSpec.ofChange fnHashTreesWrong)

/-- 'laws.FnExactNodeOf': WHATEVER THE INPUT: true; the input reads as it did. -/
def fnExactNodeOfSpec : ChangeSpec := { name := "fnExactNodeOf", fn := fun _ => fun
  | [d1, d2] => { results := [.lit (.bool true)], args := [d1, d2] }
  | _ => none }
def fnExactNodeOfRow : OpenClaim := { program := "ytcpfdhammhcoaaa", sum := "c2e5dde962f71a01b49b806562985afe77c917988815753e7e3200f3e52a7a3a", func := "loop.example/g00588/laws.FnExactNodeOf", spec := "fnExactNodeOf", apart := false }
def FnExactNodeOfSaid : Prop := fnExactNodeOfRow.holds Try.pinned (OpenSpec.ofChange fnExactNodeOfSpec)

/-- ITS FALSE NEIGHBOUR: 'it returns false'. Refute it at one input. -/
def fnExactNodeOfWrong : ChangeSpec := { name := "fnExactNodeOf", fn := fun _ => fun
  | [d1, d2] => { results := [.lit (.bool false)], args := [d1, d2] }
  | _ => none }
def FnExactNodeOfWrongFalsely : Prop := fnExactNodeOfRow.holds Try.pinned (OpenSpec.ofChange fnExactNodeOfWrong)

/-- 'laws.FnExactTopOf': WHATEVER THE INPUT: true; the input reads as it did. -/
def fnExactTopOfSpec : ChangeSpec := { name := "fnExactTopOf", fn := fun _ => fun
  | [d] => { results := [.lit (.bool true)], args := [d] }
  | _ => none }
def fnExactTopOfRow : OpenClaim := { program := "ytcpfdhammhcoaaa", sum := "c2e5dde962f71a01b49b806562985afe77c917988815753e7e3200f3e52a7a3a", func := "loop.example/g00588/laws.FnExactTopOf", spec := "fnExactTopOf", unfollowed := true, recurses := true, apart := false }
def FnExactTopOfSaid : Prop := fnExactTopOfRow.holds Try.pinned (OpenSpec.ofChange fnExactTopOfSpec)

/-- ITS FALSE NEIGHBOUR: 'it returns false'. Refute it at one input. -/
def fnExactTopOfWrong : ChangeSpec := { name := "fnExactTopOf", fn := fun _ => fun
  | [d] => { results := [.lit (.bool false)], args := [d] }
  | _ => none }
def FnExactTopOfWrongFalsely : Prop := fnExactTopOfRow.holds Try.pinned (OpenSpec.ofChange fnExactTopOfWrong)

/-- 'laws.FnExactRootOf': WHATEVER THE INPUT: true; the input reads as it did. -/
def fnExactRootOfSpec : ChangeSpec := { name := "fnExactRootOf", fn := fun _ => fun
  | [d] => { results := [.lit (.bool true)], args := [d] }
  | _ => none }
def fnExactRootOfRow : OpenClaim := { program := "ytcpfdhammhcoaaa", sum := "c2e5dde962f71a01b49b806562985afe77c917988815753e7e3200f3e52a7a3a", func := "loop.example/g00588/laws.FnExactRootOf", spec := "fnExactRootOf", unfollowed := true, recurses := true, apart := false }
def FnExactRootOfSaid : Prop := fnExactRootOfRow.holds Try.pinned (OpenSpec.ofChange fnExactRootOfSpec)

/-- ITS FALSE NEIGHBOUR: 'it returns false'. Refute it at one input. -/
def fnExactRootOfWrong : ChangeSpec := { name := "fnExactRootOf", fn := fun _ => fun
  | [d] => { results := [.lit (.bool false)], args := [d] }
  | _ => none }
def FnExactRootOfWrongFalsely : Prop := fnExactRootOfRow.holds Try.pinned (OpenSpec.ofChange fnExactRootOfWrong)

/-- 'laws.FnExactPathFor': WHATEVER THE INPUT: true; the input reads as it did. -/
def fnExactPathForSpec : ChangeSpec := { name := "fnExactPathFor", fn := fun _ => fun
  | [d1, d2] => { results := [.lit (.bool true)], args := [d1, d2] }
  | _ => none }
def fnExactPathForRow : OpenClaim := { program := "ytcpfdhammhcoaaa", sum := "c2e5dde962f71a01b49b806562985afe77c917988815753e7e3200f3e52a7a3a", func := "loop.example/g00588/laws.FnExactPathFor", spec := "fnExactPathFor", unfollowed := true, recurses := true, apart := false }
def FnExactPathForSaid : Prop := fnExactPathForRow.holds Try.pinned (OpenSpec.ofChange fnExactPathForSpec)

/-- ITS FALSE NEIGHBOUR: 'it returns false'. Refute it at one input. -/
def fnExactPathForWrong : ChangeSpec := { name := "fnExactPathFor", fn := fun _ => fun
  | [d1, d2] => { results := [.lit (.bool false)], args := [d1, d2] }
  | _ => none }
def FnExactPathForWrongFalsely : Prop := fnExactPathForRow.holds Try.pinned (OpenSpec.ofChange fnExactPathForWrong)

/-- 'laws.FnExactTopFrom': WHATEVER THE INPUT: true; the input reads as it did. -/
def fnExactTopFromSpec : ChangeSpec := { name := "fnExactTopFrom", fn := fun _ => fun
  | [d1, d2, d3, d4] => { results := [.lit (.bool true)], args := [d1, d2, d3, d4] }
  | _ => none }
def fnExactTopFromRow : OpenClaim := { program := "ytcpfdhammhcoaaa", sum := "c2e5dde962f71a01b49b806562985afe77c917988815753e7e3200f3e52a7a3a", func := "loop.example/g00588/laws.FnExactTopFrom", spec := "fnExactTopFrom", unfollowed := true, recurses := true, apart := false }
def FnExactTopFromSaid : Prop := fnExactTopFromRow.holds Try.pinned (OpenSpec.ofChange fnExactTopFromSpec)

/-- ITS FALSE NEIGHBOUR: 'it returns false'. Refute it at one input. -/
def fnExactTopFromWrong : ChangeSpec := { name := "fnExactTopFrom", fn := fun _ => fun
  | [d1, d2, d3, d4] => { results := [.lit (.bool false)], args := [d1, d2, d3, d4] }
  | _ => none }
def FnExactTopFromWrongFalsely : Prop := fnExactTopFromRow.holds Try.pinned (OpenSpec.ofChange fnExactTopFromWrong)

/-- 'laws.FnExactLeavesOf': WHATEVER THE INPUT: true; the input reads as it did. -/
def fnExactLeavesOfSpec : ChangeSpec := { name := "fnExactLeavesOf", fn := fun _ => fun
  | [d] => { results := [.lit (.bool true)], args := [d] }
  | _ => none }
def fnExactLeavesOfRow : OpenClaim := { program := "ytcpfdhammhcoaaa", sum := "c2e5dde962f71a01b49b806562985afe77c917988815753e7e3200f3e52a7a3a", func := "loop.example/g00588/laws.FnExactLeavesOf", spec := "fnExactLeavesOf", apart := false }
def FnExactLeavesOfSaid : Prop := fnExactLeavesOfRow.holds Try.pinned (OpenSpec.ofChange fnExactLeavesOfSpec)

/-- ITS FALSE NEIGHBOUR: 'it returns false'. Refute it at one input. -/
def fnExactLeavesOfWrong : ChangeSpec := { name := "fnExactLeavesOf", fn := fun _ => fun
  | [d] => { results := [.lit (.bool false)], args := [d] }
  | _ => none }
def FnExactLeavesOfWrongFalsely : Prop := fnExactLeavesOfRow.holds Try.pinned (OpenSpec.ofChange fnExactLeavesOfWrong)

/- THE SECOND FORM. 'bulk': how many values and letters a reading holds, each counted each time it is reached (what is shared counts as often as it is met; a slice's spare places count too). A statement '..UptoSaid' is the law's where the arguments, and the package variables that the reading takes, are together of bulk at most 1048576: NARROWER than '..Said'. Prove '..Said' where nothing that the law and all that it calls make is longer than what came in: it says more and counts as full. Else prove '..UptoSaid'. A law counts once. -/
mutual
def uptoBulk {H : Type} : DataW H → Nat
  | .lit (.string bytes) => bytes.length + 1
  | .lit _ => 1
  | .nil => 1
  | .ptr d => uptoBulk d + 1
  | .slice elems spare => uptoBulkAll elems + uptoBulkAll spare + 1
  | .agg parts => uptoBulkAll parts + 1
  | .iface _ d => uptoBulk d + 1
  | .map entries => uptoBulkEntries entries + 1
  | .held _ => 1
def uptoBulkAll {H : Type} : List (DataW H) → Nat
  | [] => 0
  | d :: r => uptoBulk d + uptoBulkAll r
def uptoBulkEntries {H : Type} : List (Lit × DataW H) → Nat
  | [] => 0
  | x :: r => uptoBulkEntry x + uptoBulkEntries r
def uptoBulkEntry {H : Type} : Lit × DataW H → Nat
  | (.string bytes, d) => bytes.length + uptoBulk d + 1
  | (_, d) => uptoBulk d + 1
 end
def uptoSmall : (H : Type) → List (DataW H) → Bool := fun _ ds => decide (uptoBulkAll ds ≤ 1048576)
def OpenSpec.upto (s : _root_.Go.ChangeSpec) : _root_.Go.OpenSpec := { _root_.Go.OpenSpec.ofChange s with cond := some uptoSmall }

/-- 'laws.FnHashTrees', WHERE WHAT IT READS IS OF BULK AT MOST 1048576: true; the input reads as it did. -/
def fnHashTreesUptoRow : OpenClaim := { program := "ytcpfdhammhcoaaa", sum := "c2e5dde962f71a01b49b806562985afe77c917988815753e7e3200f3e52a7a3a", func := "loop.example/g00588/laws.FnHashTrees", spec := "fnHashTrees", unfollowed := true, recurses := true, apart := false, narrowed := true }
def FnHashTreesUptoSaid : Prop := fnHashTreesUptoRow.holds Try.pinned (OpenSpec.upto fnHashTreesSpec)

/-- 'laws.FnExactNodeOf', WHERE WHAT IT READS IS OF BULK AT MOST 1048576: true; the input reads as it did. -/
def fnExactNodeOfUptoRow : OpenClaim := { program := "ytcpfdhammhcoaaa", sum := "c2e5dde962f71a01b49b806562985afe77c917988815753e7e3200f3e52a7a3a", func := "loop.example/g00588/laws.FnExactNodeOf", spec := "fnExactNodeOf", apart := false, narrowed := true }
def FnExactNodeOfUptoSaid : Prop := fnExactNodeOfUptoRow.holds Try.pinned (OpenSpec.upto fnExactNodeOfSpec)

/-- 'laws.FnExactTopOf', WHERE WHAT IT READS IS OF BULK AT MOST 1048576: true; the input reads as it did. -/
def fnExactTopOfUptoRow : OpenClaim := { program := "ytcpfdhammhcoaaa", sum := "c2e5dde962f71a01b49b806562985afe77c917988815753e7e3200f3e52a7a3a", func := "loop.example/g00588/laws.FnExactTopOf", spec := "fnExactTopOf", unfollowed := true, recurses := true, apart := false, narrowed := true }
def FnExactTopOfUptoSaid : Prop := fnExactTopOfUptoRow.holds Try.pinned (OpenSpec.upto fnExactTopOfSpec)

/-- 'laws.FnExactRootOf', WHERE WHAT IT READS IS OF BULK AT MOST 1048576: true; the input reads as it did. -/
def fnExactRootOfUptoRow : OpenClaim := { program := "ytcpfdhammhcoaaa", sum := "c2e5dde962f71a01b49b806562985afe77c917988815753e7e3200f3e52a7a3a", func := "loop.example/g00588/laws.FnExactRootOf", spec := "fnExactRootOf", unfollowed := true, recurses := true, apart := false, narrowed := true }
def FnExactRootOfUptoSaid : Prop := fnExactRootOfUptoRow.holds Try.pinned (OpenSpec.upto fnExactRootOfSpec)

/-- 'laws.FnExactPathFor', WHERE WHAT IT READS IS OF BULK AT MOST 1048576: true; the input reads as it did. -/
def fnExactPathForUptoRow : OpenClaim := { program := "ytcpfdhammhcoaaa", sum := "c2e5dde962f71a01b49b806562985afe77c917988815753e7e3200f3e52a7a3a", func := "loop.example/g00588/laws.FnExactPathFor", spec := "fnExactPathFor", unfollowed := true, recurses := true, apart := false, narrowed := true }
def FnExactPathForUptoSaid : Prop := fnExactPathForUptoRow.holds Try.pinned (OpenSpec.upto fnExactPathForSpec)

/-- 'laws.FnExactTopFrom', WHERE WHAT IT READS IS OF BULK AT MOST 1048576: true; the input reads as it did. -/
def fnExactTopFromUptoRow : OpenClaim := { program := "ytcpfdhammhcoaaa", sum := "c2e5dde962f71a01b49b806562985afe77c917988815753e7e3200f3e52a7a3a", func := "loop.example/g00588/laws.FnExactTopFrom", spec := "fnExactTopFrom", unfollowed := true, recurses := true, apart := false, narrowed := true }
def FnExactTopFromUptoSaid : Prop := fnExactTopFromUptoRow.holds Try.pinned (OpenSpec.upto fnExactTopFromSpec)

/-- 'laws.FnExactLeavesOf', WHERE WHAT IT READS IS OF BULK AT MOST 1048576: true; the input reads as it did. -/
def fnExactLeavesOfUptoRow : OpenClaim := { program := "ytcpfdhammhcoaaa", sum := "c2e5dde962f71a01b49b806562985afe77c917988815753e7e3200f3e52a7a3a", func := "loop.example/g00588/laws.FnExactLeavesOf", spec := "fnExactLeavesOf", apart := false, narrowed := true }
def FnExactLeavesOfUptoSaid : Prop := fnExactLeavesOfUptoRow.holds Try.pinned (OpenSpec.upto fnExactLeavesOfSpec)

end Rows
end Go.Proofs.Ytcpfdhammhcoaaa
