/-
  No cell of these rows narrows 'for every input' (looked for: loops, veiled, ifaces, maps, wideKeys, modest, calm, conditions, laid).
  DERIVED. THE GIVEN ROWS OF THIS SEAT. 2 by the template 'for every input the law returns true; each argument reads behind the call as it read before'; 0 by the template 'total and deterministic' (their statements: YthhmhcmlbpdlbaaGreatTotals.lean).
  GIVEN WITH THE SEED: the statements are not yours to turn. If you find one false, say at which input.
  Laid BY PROGRAM, IN A SANDBOX (cutbox-rows.mjs): the forced cells as the released guide's own fill.sh prints them over the translation ad711bd70c2dfe55… (all of the seat's roots in one cut). By AI agents, Wed Nov 11 2026. No macro, syntax, notation, axiom, sorry.
-/
import Derived.Test.YthhmhcmlbpdlbaaGreatChecked
import GoSem.Claim
import GoSem.ClaimJoined
import GoSem.ClaimMapViews
import Derived.JoinedTies
import Derived.KernelRfl
namespace Go.Proofs.YthhmhcmlbpdlbaaGreat
/- THE CELL 'sum', in the pinned program and in every row, IS THE sha256 OF THE DUMP (.gsa) THAT YthhmhcmlbpdlbaaGreatProg.lean LOADS. Nothing in Lean hashes anything: it is a label: what it is worth is what the hold of that sum in a sandbox is worth. -/
noncomputable def Tryz.pinned : Pinned := { name := "ythhmhcmlbpdlbaagreat", sum := "ad711bd70c2dfe5521cab31901ca78d63eb88663a8a06e666d2d1ada4f0eb644", checked := Tryz.checked }
namespace Rows
def none {H : Type} : Left H := { results := [], args := [] }

/-- 'laws.FnFirstHeads': WHATEVER THE INPUT: true; the input reads as it did. -/
def fnFirstHeadsSpec : ChangeSpec := { name := "fnFirstHeads", fn := fun _ => fun
  | [d] => { results := [.lit (.bool true)], args := [d] }
  | _ => none }
def fnFirstHeadsRow : OpenClaim := { program := "ythhmhcmlbpdlbaagreat", sum := "ad711bd70c2dfe5521cab31901ca78d63eb88663a8a06e666d2d1ada4f0eb644", func := "loop.example/g00588/laws.FnFirstHeads", spec := "fnFirstHeads", inPlace := ["internal/bytealg.abigen_runtime_cmpstring"], unfollowed := true, recurses := true, apart := false }
def FnFirstHeadsSaid : Prop := fnFirstHeadsRow.holds Tryz.pinned (OpenSpec.ofChange fnFirstHeadsSpec)

/-- ITS FALSE NEIGHBOUR: 'it returns false'. Refute it at one input. -/
def fnFirstHeadsWrong : ChangeSpec := { name := "fnFirstHeads", fn := fun _ => fun
  | [d] => { results := [.lit (.bool false)], args := [d] }
  | _ => none }
def FnFirstHeadsWrongFalsely : Prop := fnFirstHeadsRow.holds Tryz.pinned (OpenSpec.ofChange fnFirstHeadsWrong)

/-- 'laws.FnExactFirstHead': WHATEVER THE INPUT: true; the input reads as it did. -/
def fnExactFirstHeadSpec : ChangeSpec := { name := "fnExactFirstHead", fn := fun _ => fun
  | [d1, d2, d3, d4, d5] => { results := [.lit (.bool true)], args := [d1, d2, d3, d4, d5] }
  | _ => none }
def fnExactFirstHeadRow : OpenClaim := { program := "ythhmhcmlbpdlbaagreat", sum := "ad711bd70c2dfe5521cab31901ca78d63eb88663a8a06e666d2d1ada4f0eb644", func := "loop.example/g00588/laws.FnExactFirstHead", spec := "fnExactFirstHead", inPlace := ["internal/bytealg.abigen_runtime_cmpstring"], unfollowed := true, recurses := true, apart := false }
def FnExactFirstHeadSaid : Prop := fnExactFirstHeadRow.holds Tryz.pinned (OpenSpec.ofChange fnExactFirstHeadSpec)

/-- ITS FALSE NEIGHBOUR: 'it returns false'. Refute it at one input. -/
def fnExactFirstHeadWrong : ChangeSpec := { name := "fnExactFirstHead", fn := fun _ => fun
  | [d1, d2, d3, d4, d5] => { results := [.lit (.bool false)], args := [d1, d2, d3, d4, d5] }
  | _ => none }
def FnExactFirstHeadWrongFalsely : Prop := fnExactFirstHeadRow.holds Tryz.pinned (OpenSpec.ofChange fnExactFirstHeadWrong)

/- THE SECOND FORM. 'bulk': how many values and letters a reading holds, each counted each time it is reached (what is shared counts as often as it is met; a slice's spare places count too). A statement '..UptoSaid' is the law's where the arguments, and the package variables that the reading takes, are together of bulk at most 1048576: NARROWER than '..Said'. Prove '..Said' where nothing that the law and all that it calls make is longer than what came in: it says more and counts as full. Else prove '..UptoSaid'. A law counts once. -/
mutual
def uptoBulk {H : Type} : DataW H → Nat
  | .lit (.string bytes) => bytes.length + 1
  | .lit _ => 1
  | .nil => 1
  | .ptr d => uptoBulk d + 1
  | .slice elems spare => uptoBulkAll elems + uptoBulkAll spare + 1
  | .agg parts => uptoBulkAll parts + 1
  | .iface _ d => uptoBulk d + 1
  | .map entries => uptoBulkEntries entries + 1
  | .held _ => 1
def uptoBulkAll {H : Type} : List (DataW H) → Nat
  | [] => 0
  | d :: r => uptoBulk d + uptoBulkAll r
def uptoBulkEntries {H : Type} : List (Lit × DataW H) → Nat
  | [] => 0
  | x :: r => uptoBulkEntry x + uptoBulkEntries r
def uptoBulkEntry {H : Type} : Lit × DataW H → Nat
  | (.string bytes, d) => bytes.length + uptoBulk d + 1
  | (_, d) => uptoBulk d + 1
 end
def uptoSmall : (H : Type) → List (DataW H) → Bool := fun _ ds => decide (uptoBulkAll ds ≤ 1048576)
def OpenSpec.upto (s : _root_.Go.ChangeSpec) : _root_.Go.OpenSpec := { _root_.Go.OpenSpec.ofChange s with cond := some uptoSmall }

/-- 'laws.FnFirstHeads', WHERE WHAT IT READS IS OF BULK AT MOST 1048576: true; the input reads as it did. -/
def fnFirstHeadsUptoRow : OpenClaim := { program := "ythhmhcmlbpdlbaagreat", sum := "ad711bd70c2dfe5521cab31901ca78d63eb88663a8a06e666d2d1ada4f0eb644", func := "loop.example/g00588/laws.FnFirstHeads", spec := "fnFirstHeads", inPlace := ["internal/bytealg.abigen_runtime_cmpstring"], unfollowed := true, recurses := true, apart := false, narrowed := true }
def FnFirstHeadsUptoSaid : Prop := fnFirstHeadsUptoRow.holds Tryz.pinned (OpenSpec.upto fnFirstHeadsSpec)

/-- 'laws.FnExactFirstHead', WHERE WHAT IT READS IS OF BULK AT MOST 1048576: true; the input reads as it did. -/
def fnExactFirstHeadUptoRow : OpenClaim := { program := "ythhmhcmlbpdlbaagreat", sum := "ad711bd70c2dfe5521cab31901ca78d63eb88663a8a06e666d2d1ada4f0eb644", func := "loop.example/g00588/laws.FnExactFirstHead", spec := "fnExactFirstHead", inPlace := ["internal/bytealg.abigen_runtime_cmpstring"], unfollowed := true, recurses := true, apart := false, narrowed := true }
def FnExactFirstHeadUptoSaid : Prop := fnExactFirstHeadUptoRow.holds Tryz.pinned (OpenSpec.upto fnExactFirstHeadSpec)

end Rows
end Go.Proofs.YthhmhcmlbpdlbaaGreat
