/-
  No cell of these rows narrows 'for every input' (looked for: loops, veiled, ifaces, maps, wideKeys, modest, calm, conditions, laid).
  DERIVED. THE GIVEN ROWS OF THIS SEAT. 4 by the template 'for every input the law returns true; each argument reads behind the call as it read before'; 0 by the template 'total and deterministic' (their statements: YtbhhifoofapgiaaTotals.lean).
  GIVEN WITH THE SEED: the statements are not yours to turn. If you find one false, say at which input.
  Laid BY PROGRAM, IN A SANDBOX (cutbox-rows.mjs): the forced cells as the released guide's own fill.sh prints them over the translation 4ec83d3197619a1d… (all of the seat's roots in one cut). By AI agents, Wed Nov 11 2026. No macro, syntax, notation, axiom, sorry.
-/
import Derived.Test.YtbhhifoofapgiaaChecked
import GoSem.Claim
import GoSem.ClaimJoined
import GoSem.ClaimMapViews
import Derived.JoinedTies
import Derived.KernelRfl
namespace Go.Proofs.Ytbhhifoofapgiaa
/- THE CELL 'sum', in the pinned program and in every row, IS THE sha256 OF THE DUMP (.gsa) THAT YtbhhifoofapgiaaProg.lean LOADS. Nothing in Lean hashes anything: it is a label: what it is worth is what the hold of that sum in a sandbox is worth. -/
noncomputable def Try.pinned : Pinned := { name := "ytbhhifoofapgiaa", sum := "4ec83d3197619a1d030cd7b6a74fb8f24ee84b2d1db6e8073501e0810a358d0d", checked := Try.checked }
namespace Rows
def none {H : Type} : Left H := { results := [], args := [] }

/-- 'laws.FnExactProveAbsence': WHATEVER THE INPUT: true; the input reads as it did. -/
def fnExactProveAbsenceSpec : ChangeSpec := { name := "fnExactProveAbsence", fn := fun _ => fun
  | [d1, d2] => { results := [.lit (.bool true)], args := [d1, d2] }
  | _ => none }
def fnExactProveAbsenceRow : OpenClaim := { program := "ytbhhifoofapgiaa", sum := "4ec83d3197619a1d030cd7b6a74fb8f24ee84b2d1db6e8073501e0810a358d0d", func := "loop.example/g00588/laws.FnExactProveAbsence", spec := "fnExactProveAbsence", inPlace := ["internal/bytealg.abigen_runtime_cmpstring"], unfollowed := true, recurses := true, apart := false }
def FnExactProveAbsenceSaid : Prop := fnExactProveAbsenceRow.holds Try.pinned (OpenSpec.ofChange fnExactProveAbsenceSpec)

/-- ITS FALSE NEIGHBOUR: 'it returns false'. Refute it at one input. -/
def fnExactProveAbsenceWrong : ChangeSpec := { name := "fnExactProveAbsence", fn := fun _ => fun
  | [d1, d2] => { results := [.lit (.bool false)], args := [d1, d2] }
  | _ => none }
def FnExactProveAbsenceWrongFalsely : Prop := fnExactProveAbsenceRow.holds Try.pinned (OpenSpec.ofChange fnExactProveAbsenceWrong)

/-- 'laws.FnExactCheckAbsence': WHATEVER THE INPUT: true; the input reads as it did. -/
def fnExactCheckAbsenceSpec : ChangeSpec := { name := "fnExactCheckAbsence", fn := fun _ => fun
  | [d1, d2, d3, d4] => { results := [.lit (.bool true)], args := [d1, d2, d3, d4] }
  | _ => none }
def fnExactCheckAbsenceRow : OpenClaim := { program := "ytbhhifoofapgiaa", sum := "4ec83d3197619a1d030cd7b6a74fb8f24ee84b2d1db6e8073501e0810a358d0d", func := "loop.example/g00588/laws.FnExactCheckAbsence", spec := "fnExactCheckAbsence", inPlace := ["internal/bytealg.abigen_runtime_cmpstring"], unfollowed := true, recurses := true, apart := false }
def FnExactCheckAbsenceSaid : Prop := fnExactCheckAbsenceRow.holds Try.pinned (OpenSpec.ofChange fnExactCheckAbsenceSpec)

/-- ITS FALSE NEIGHBOUR: 'it returns false'. Refute it at one input. -/
def fnExactCheckAbsenceWrong : ChangeSpec := { name := "fnExactCheckAbsence", fn := fun _ => fun
  | [d1, d2, d3, d4] => { results := [.lit (.bool false)], args := [d1, d2, d3, d4] }
  | _ => none }
def FnExactCheckAbsenceWrongFalsely : Prop := fnExactCheckAbsenceRow.holds Try.pinned (OpenSpec.ofChange fnExactCheckAbsenceWrong)

/-- 'laws.FnExactRankOf': WHATEVER THE INPUT: true; the input reads as it did. -/
def fnExactRankOfSpec : ChangeSpec := { name := "fnExactRankOf", fn := fun _ => fun
  | [d1, d2] => { results := [.lit (.bool true)], args := [d1, d2] }
  | _ => none }
def fnExactRankOfRow : OpenClaim := { program := "ytbhhifoofapgiaa", sum := "4ec83d3197619a1d030cd7b6a74fb8f24ee84b2d1db6e8073501e0810a358d0d", func := "loop.example/g00588/laws.FnExactRankOf", spec := "fnExactRankOf", inPlace := ["internal/bytealg.abigen_runtime_cmpstring"], apart := false }
def FnExactRankOfSaid : Prop := fnExactRankOfRow.holds Try.pinned (OpenSpec.ofChange fnExactRankOfSpec)

/-- ITS FALSE NEIGHBOUR: 'it returns false'. Refute it at one input. -/
def fnExactRankOfWrong : ChangeSpec := { name := "fnExactRankOf", fn := fun _ => fun
  | [d1, d2] => { results := [.lit (.bool false)], args := [d1, d2] }
  | _ => none }
def FnExactRankOfWrongFalsely : Prop := fnExactRankOfRow.holds Try.pinned (OpenSpec.ofChange fnExactRankOfWrong)

/-- 'laws.FnExactEqualGaps': WHATEVER THE INPUT: true; the input reads as it did. -/
def fnExactEqualGapsSpec : ChangeSpec := { name := "fnExactEqualGaps", fn := fun _ => fun
  | [d1, d2] => { results := [.lit (.bool true)], args := [d1, d2] }
  | _ => none }
def fnExactEqualGapsRow : OpenClaim := { program := "ytbhhifoofapgiaa", sum := "4ec83d3197619a1d030cd7b6a74fb8f24ee84b2d1db6e8073501e0810a358d0d", func := "loop.example/g00588/laws.FnExactEqualGaps", spec := "fnExactEqualGaps", unfollowed := true, recurses := true, apart := false }
def FnExactEqualGapsSaid : Prop := fnExactEqualGapsRow.holds Try.pinned (OpenSpec.ofChange fnExactEqualGapsSpec)

/-- ITS FALSE NEIGHBOUR: 'it returns false'. Refute it at one input. -/
def fnExactEqualGapsWrong : ChangeSpec := { name := "fnExactEqualGaps", fn := fun _ => fun
  | [d1, d2] => { results := [.lit (.bool false)], args := [d1, d2] }
  | _ => none }
def FnExactEqualGapsWrongFalsely : Prop := fnExactEqualGapsRow.holds Try.pinned (OpenSpec.ofChange fnExactEqualGapsWrong)

/- THE SECOND FORM. 'bulk': how many values and letters a reading holds, each counted each time it is reached (what is shared counts as often as it is met; a slice's spare places count too). A statement '..UptoSaid' is the law's where the arguments, and the package variables that the reading takes, are together of bulk at most 1048576: NARROWER than '..Said'. Prove '..Said' where nothing that the law and all that it calls make is longer than what came in: it says more and counts as full. Else prove '..UptoSaid'. A law counts once. -/
mutual
def uptoBulk {H : Type} : DataW H → Nat
  | .lit (.string bytes) => bytes.length + 1
  | .lit _ => 1
  | .nil => 1
  | .ptr d => uptoBulk d + 1
  | .slice elems spare => uptoBulkAll elems + uptoBulkAll spare + 1
  | .agg parts => uptoBulkAll parts + 1
  | .iface _ d => uptoBulk d + 1
  | .map entries => uptoBulkEntries entries + 1
  | .held _ => 1
def uptoBulkAll {H : Type} : List (DataW H) → Nat
  | [] => 0
  | d :: r => uptoBulk d + uptoBulkAll r
def uptoBulkEntries {H : Type} : List (Lit × DataW H) → Nat
  | [] => 0
  | x :: r => uptoBulkEntry x + uptoBulkEntries r
def uptoBulkEntry {H : Type} : Lit × DataW H → Nat
  | (.string bytes, d) => bytes.length + uptoBulk d + 1
  | (_, d) => uptoBulk d + 1
 end
def uptoSmall : (H : Type) → List (DataW H) → Bool := fun _ ds => decide (uptoBulkAll ds ≤ 1048576)
def OpenSpec.upto (s : _root_.Go.ChangeSpec) : _root_.Go.OpenSpec := { _root_.Go.OpenSpec.ofChange s with cond := some uptoSmall }

/-- 'laws.FnExactProveAbsence', WHERE WHAT IT READS IS OF BULK AT MOST 1048576: true; the input reads as it did. -/
def fnExactProveAbsenceUptoRow : OpenClaim := { program := "ytbhhifoofapgiaa", sum := "4ec83d3197619a1d030cd7b6a74fb8f24ee84b2d1db6e8073501e0810a358d0d", func := "loop.example/g00588/laws.FnExactProveAbsence", spec := "fnExactProveAbsence", inPlace := ["internal/bytealg.abigen_runtime_cmpstring"], unfollowed := true, recurses := true, apart := false, narrowed := true }
def FnExactProveAbsenceUptoSaid : Prop := fnExactProveAbsenceUptoRow.holds Try.pinned (OpenSpec.upto fnExactProveAbsenceSpec)

/-- 'laws.FnExactCheckAbsence', WHERE WHAT IT READS IS OF BULK AT MOST 1048576: true; the input reads as it did. -/
def fnExactCheckAbsenceUptoRow : OpenClaim := { program := "ytbhhifoofapgiaa", sum := "4ec83d3197619a1d030cd7b6a74fb8f24ee84b2d1db6e8073501e0810a358d0d", func := "loop.example/g00588/laws.FnExactCheckAbsence", spec := "fnExactCheckAbsence", inPlace := ["internal/bytealg.abigen_runtime_cmpstring"], unfollowed := true, recurses := true, apart := false, narrowed := true }
def FnExactCheckAbsenceUptoSaid : Prop := fnExactCheckAbsenceUptoRow.holds Try.pinned (OpenSpec.upto fnExactCheckAbsenceSpec)

/-- 'laws.FnExactRankOf', WHERE WHAT IT READS IS OF BULK AT MOST 1048576: true; the input reads as it did. -/
def fnExactRankOfUptoRow : OpenClaim := { program := "ytbhhifoofapgiaa", sum := "4ec83d3197619a1d030cd7b6a74fb8f24ee84b2d1db6e8073501e0810a358d0d", func := "loop.example/g00588/laws.FnExactRankOf", spec := "fnExactRankOf", inPlace := ["internal/bytealg.abigen_runtime_cmpstring"], apart := false, narrowed := true }
def FnExactRankOfUptoSaid : Prop := fnExactRankOfUptoRow.holds Try.pinned (OpenSpec.upto fnExactRankOfSpec)

/-- 'laws.FnExactEqualGaps', WHERE WHAT IT READS IS OF BULK AT MOST 1048576: true; the input reads as it did. -/
def fnExactEqualGapsUptoRow : OpenClaim := { program := "ytbhhifoofapgiaa", sum := "4ec83d3197619a1d030cd7b6a74fb8f24ee84b2d1db6e8073501e0810a358d0d", func := "loop.example/g00588/laws.FnExactEqualGaps", spec := "fnExactEqualGaps", unfollowed := true, recurses := true, apart := false, narrowed := true }
def FnExactEqualGapsUptoSaid : Prop := fnExactEqualGapsUptoRow.holds Try.pinned (OpenSpec.upto fnExactEqualGapsSpec)

end Rows
end Go.Proofs.Ytbhhifoofapgiaa
