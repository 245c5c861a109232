/-
  No cell of these rows narrows 'for every input' (looked for: loops, veiled, ifaces, maps, wideKeys, modest, calm, conditions, laid).
  DERIVED. THE GIVEN ROWS OF THIS SEAT. 8 by the template 'for every input the law returns true; each argument reads behind the call as it read before'; 0 by the template 'total and deterministic' (their statements: YtobapahakcdibaaTotals.lean).
  GIVEN WITH THE SEED: the statements are not yours to turn. If you find one false, say at which input.
  Laid BY PROGRAM, IN A SANDBOX (cutbox-rows.mjs): the forced cells as the released guide's own fill.sh prints them over the translation 39cfe7ca1c4864a6… (all of the seat's roots in one cut). By AI agents, Wed Nov 11 2026. No macro, syntax, notation, axiom, sorry.
-/
import Derived.Test.YtobapahakcdibaaChecked
import GoSem.Claim
import GoSem.ClaimJoined
import GoSem.ClaimMapViews
import Derived.JoinedTies
import Derived.KernelRfl
namespace Go.Proofs.Ytobapahakcdibaa
/- THE CELL 'sum', in the pinned program and in every row, IS THE sha256 OF THE DUMP (.gsa) THAT YtobapahakcdibaaProg.lean LOADS. Nothing in Lean hashes anything: it is a label: what it is worth is what the hold of that sum in a sandbox is worth. -/
noncomputable def Try.pinned : Pinned := { name := "ytobapahakcdibaa", sum := "39cfe7ca1c4864a60e0bc4e8d362c38dfc8a95a7ea5414e61c789969f027c3e3", checked := Try.checked }
namespace Rows
def none {H : Type} : Left H := { results := [], args := [] }

/-- 'laws.FnEntries': WHATEVER THE INPUT: true; the input reads as it did. -/
def fnEntriesSpec : ChangeSpec := { name := "fnEntries", fn := fun _ => fun
  | [d] => { results := [.lit (.bool true)], args := [d] }
  | _ => none }
def fnEntriesRow : OpenClaim := { program := "ytobapahakcdibaa", sum := "39cfe7ca1c4864a60e0bc4e8d362c38dfc8a95a7ea5414e61c789969f027c3e3", func := "loop.example/g00588/laws.FnEntries", spec := "fnEntries", unfollowed := true, recurses := true, apart := false }
def FnEntriesSaid : Prop := fnEntriesRow.holds Try.pinned (OpenSpec.ofChange fnEntriesSpec)

/-- ITS FALSE NEIGHBOUR: 'it returns false'. Refute it at one input. -/
def fnEntriesWrong : ChangeSpec := { name := "fnEntries", fn := fun _ => fun
  | [d] => { results := [.lit (.bool false)], args := [d] }
  | _ => none }
def FnEntriesWrongFalsely : Prop := fnEntriesRow.holds Try.pinned (OpenSpec.ofChange fnEntriesWrong)

/-- 'laws.FnExactIsEntry': WHATEVER THE INPUT: true; the input reads as it did. -/
def fnExactIsEntrySpec : ChangeSpec := { name := "fnExactIsEntry", fn := fun _ => fun
  | [d] => { results := [.lit (.bool true)], args := [d] }
  | _ => none }
def fnExactIsEntryRow : OpenClaim := { program := "ytobapahakcdibaa", sum := "39cfe7ca1c4864a60e0bc4e8d362c38dfc8a95a7ea5414e61c789969f027c3e3", func := "loop.example/g00588/laws.FnExactIsEntry", spec := "fnExactIsEntry", unfollowed := true, recurses := true, apart := false }
def FnExactIsEntrySaid : Prop := fnExactIsEntryRow.holds Try.pinned (OpenSpec.ofChange fnExactIsEntrySpec)

/-- ITS FALSE NEIGHBOUR: 'it returns false'. Refute it at one input. -/
def fnExactIsEntryWrong : ChangeSpec := { name := "fnExactIsEntry", fn := fun _ => fun
  | [d] => { results := [.lit (.bool false)], args := [d] }
  | _ => none }
def FnExactIsEntryWrongFalsely : Prop := fnExactIsEntryRow.holds Try.pinned (OpenSpec.ofChange fnExactIsEntryWrong)

/-- 'laws.FnExactEntryInts': WHATEVER THE INPUT: true; the input reads as it did. -/
def fnExactEntryIntsSpec : ChangeSpec := { name := "fnExactEntryInts", fn := fun _ => fun
  | [d] => { results := [.lit (.bool true)], args := [d] }
  | _ => none }
def fnExactEntryIntsRow : OpenClaim := { program := "ytobapahakcdibaa", sum := "39cfe7ca1c4864a60e0bc4e8d362c38dfc8a95a7ea5414e61c789969f027c3e3", func := "loop.example/g00588/laws.FnExactEntryInts", spec := "fnExactEntryInts", apart := false }
def FnExactEntryIntsSaid : Prop := fnExactEntryIntsRow.holds Try.pinned (OpenSpec.ofChange fnExactEntryIntsSpec)

/-- ITS FALSE NEIGHBOUR: 'it returns false'. Refute it at one input. -/
def fnExactEntryIntsWrong : ChangeSpec := { name := "fnExactEntryInts", fn := fun _ => fun
  | [d] => { results := [.lit (.bool false)], args := [d] }
  | _ => none }
def FnExactEntryIntsWrongFalsely : Prop := fnExactEntryIntsRow.holds Try.pinned (OpenSpec.ofChange fnExactEntryIntsWrong)

/-- 'laws.FnExactLeafOf': WHATEVER THE INPUT: true; the input reads as it did. -/
def fnExactLeafOfSpec : ChangeSpec := { name := "fnExactLeafOf", fn := fun _ => fun
  | [d] => { results := [.lit (.bool true)], args := [d] }
  | _ => none }
def fnExactLeafOfRow : OpenClaim := { program := "ytobapahakcdibaa", sum := "39cfe7ca1c4864a60e0bc4e8d362c38dfc8a95a7ea5414e61c789969f027c3e3", func := "loop.example/g00588/laws.FnExactLeafOf", spec := "fnExactLeafOf", apart := false }
def FnExactLeafOfSaid : Prop := fnExactLeafOfRow.holds Try.pinned (OpenSpec.ofChange fnExactLeafOfSpec)

/-- ITS FALSE NEIGHBOUR: 'it returns false'. Refute it at one input. -/
def fnExactLeafOfWrong : ChangeSpec := { name := "fnExactLeafOf", fn := fun _ => fun
  | [d] => { results := [.lit (.bool false)], args := [d] }
  | _ => none }
def FnExactLeafOfWrongFalsely : Prop := fnExactLeafOfRow.holds Try.pinned (OpenSpec.ofChange fnExactLeafOfWrong)

/-- 'laws.FnExactValueEntry': WHATEVER THE INPUT: true; the input reads as it did. -/
def fnExactValueEntrySpec : ChangeSpec := { name := "fnExactValueEntry", fn := fun _ => fun
  | [d1, d2] => { results := [.lit (.bool true)], args := [d1, d2] }
  | _ => none }
def fnExactValueEntryRow : OpenClaim := { program := "ytobapahakcdibaa", sum := "39cfe7ca1c4864a60e0bc4e8d362c38dfc8a95a7ea5414e61c789969f027c3e3", func := "loop.example/g00588/laws.FnExactValueEntry", spec := "fnExactValueEntry", apart := false }
def FnExactValueEntrySaid : Prop := fnExactValueEntryRow.holds Try.pinned (OpenSpec.ofChange fnExactValueEntrySpec)

/-- ITS FALSE NEIGHBOUR: 'it returns false'. Refute it at one input. -/
def fnExactValueEntryWrong : ChangeSpec := { name := "fnExactValueEntry", fn := fun _ => fun
  | [d1, d2] => { results := [.lit (.bool false)], args := [d1, d2] }
  | _ => none }
def FnExactValueEntryWrongFalsely : Prop := fnExactValueEntryRow.holds Try.pinned (OpenSpec.ofChange fnExactValueEntryWrong)

/-- 'laws.FnExactZoneEntry': WHATEVER THE INPUT: true; the input reads as it did. -/
def fnExactZoneEntrySpec : ChangeSpec := { name := "fnExactZoneEntry", fn := fun _ => fun
  | [d1, d2] => { results := [.lit (.bool true)], args := [d1, d2] }
  | _ => none }
def fnExactZoneEntryRow : OpenClaim := { program := "ytobapahakcdibaa", sum := "39cfe7ca1c4864a60e0bc4e8d362c38dfc8a95a7ea5414e61c789969f027c3e3", func := "loop.example/g00588/laws.FnExactZoneEntry", spec := "fnExactZoneEntry", apart := false }
def FnExactZoneEntrySaid : Prop := fnExactZoneEntryRow.holds Try.pinned (OpenSpec.ofChange fnExactZoneEntrySpec)

/-- ITS FALSE NEIGHBOUR: 'it returns false'. Refute it at one input. -/
def fnExactZoneEntryWrong : ChangeSpec := { name := "fnExactZoneEntry", fn := fun _ => fun
  | [d1, d2] => { results := [.lit (.bool false)], args := [d1, d2] }
  | _ => none }
def FnExactZoneEntryWrongFalsely : Prop := fnExactZoneEntryRow.holds Try.pinned (OpenSpec.ofChange fnExactZoneEntryWrong)

/-- 'laws.FnExactMovedEntry': WHATEVER THE INPUT: true; the input reads as it did. -/
def fnExactMovedEntrySpec : ChangeSpec := { name := "fnExactMovedEntry", fn := fun _ => fun
  | [d1, d2, d3] => { results := [.lit (.bool true)], args := [d1, d2, d3] }
  | _ => none }
def fnExactMovedEntryRow : OpenClaim := { program := "ytobapahakcdibaa", sum := "39cfe7ca1c4864a60e0bc4e8d362c38dfc8a95a7ea5414e61c789969f027c3e3", func := "loop.example/g00588/laws.FnExactMovedEntry", spec := "fnExactMovedEntry", apart := false }
def FnExactMovedEntrySaid : Prop := fnExactMovedEntryRow.holds Try.pinned (OpenSpec.ofChange fnExactMovedEntrySpec)

/-- ITS FALSE NEIGHBOUR: 'it returns false'. Refute it at one input. -/
def fnExactMovedEntryWrong : ChangeSpec := { name := "fnExactMovedEntry", fn := fun _ => fun
  | [d1, d2, d3] => { results := [.lit (.bool false)], args := [d1, d2, d3] }
  | _ => none }
def FnExactMovedEntryWrongFalsely : Prop := fnExactMovedEntryRow.holds Try.pinned (OpenSpec.ofChange fnExactMovedEntryWrong)

/-- 'laws.FnExactEqualEntries': WHATEVER THE INPUT: true; the input reads as it did. -/
def fnExactEqualEntriesSpec : ChangeSpec := { name := "fnExactEqualEntries", fn := fun _ => fun
  | [d1, d2] => { results := [.lit (.bool true)], args := [d1, d2] }
  | _ => none }
def fnExactEqualEntriesRow : OpenClaim := { program := "ytobapahakcdibaa", sum := "39cfe7ca1c4864a60e0bc4e8d362c38dfc8a95a7ea5414e61c789969f027c3e3", func := "loop.example/g00588/laws.FnExactEqualEntries", spec := "fnExactEqualEntries", apart := false }
def FnExactEqualEntriesSaid : Prop := fnExactEqualEntriesRow.holds Try.pinned (OpenSpec.ofChange fnExactEqualEntriesSpec)

/-- ITS FALSE NEIGHBOUR: 'it returns false'. Refute it at one input. -/
def fnExactEqualEntriesWrong : ChangeSpec := { name := "fnExactEqualEntries", fn := fun _ => fun
  | [d1, d2] => { results := [.lit (.bool false)], args := [d1, d2] }
  | _ => none }
def FnExactEqualEntriesWrongFalsely : Prop := fnExactEqualEntriesRow.holds Try.pinned (OpenSpec.ofChange fnExactEqualEntriesWrong)

/- THE SECOND FORM. 'bulk': how many values and letters a reading holds, each counted each time it is reached (what is shared counts as often as it is met; a slice's spare places count too). A statement '..UptoSaid' is the law's where the arguments, and the package variables that the reading takes, are together of bulk at most 1048576: NARROWER than '..Said'. Prove '..Said' where nothing that the law and all that it calls make is longer than what came in: it says more and counts as full. Else prove '..UptoSaid'. A law counts once. -/
mutual
def uptoBulk {H : Type} : DataW H → Nat
  | .lit (.string bytes) => bytes.length + 1
  | .lit _ => 1
  | .nil => 1
  | .ptr d => uptoBulk d + 1
  | .slice elems spare => uptoBulkAll elems + uptoBulkAll spare + 1
  | .agg parts => uptoBulkAll parts + 1
  | .iface _ d => uptoBulk d + 1
  | .map entries => uptoBulkEntries entries + 1
  | .held _ => 1
def uptoBulkAll {H : Type} : List (DataW H) → Nat
  | [] => 0
  | d :: r => uptoBulk d + uptoBulkAll r
def uptoBulkEntries {H : Type} : List (Lit × DataW H) → Nat
  | [] => 0
  | x :: r => uptoBulkEntry x + uptoBulkEntries r
def uptoBulkEntry {H : Type} : Lit × DataW H → Nat
  | (.string bytes, d) => bytes.length + uptoBulk d + 1
  | (_, d) => uptoBulk d + 1
 end
def uptoSmall : (H : Type) → List (DataW H) → Bool := fun _ ds => decide (uptoBulkAll ds ≤ 1048576)
def OpenSpec.upto (s : _root_.Go.ChangeSpec) : _root_.Go.OpenSpec := { _root_.Go.OpenSpec.ofChange s with cond := some uptoSmall }

/-- 'laws.FnEntries', WHERE WHAT IT READS IS OF BULK AT MOST 1048576: true; the input reads as it did. -/
def fnEntriesUptoRow : OpenClaim := { program := "ytobapahakcdibaa", sum := "39cfe7ca1c4864a60e0bc4e8d362c38dfc8a95a7ea5414e61c789969f027c3e3", func := "loop.example/g00588/laws.FnEntries", spec := "fnEntries", unfollowed := true, recurses := true, apart := false, narrowed := true }
def FnEntriesUptoSaid : Prop := fnEntriesUptoRow.holds Try.pinned (OpenSpec.upto fnEntriesSpec)

/-- 'laws.FnExactIsEntry', WHERE WHAT IT READS IS OF BULK AT MOST 1048576: true; the input reads as it did. -/
def fnExactIsEntryUptoRow : OpenClaim := { program := "ytobapahakcdibaa", sum := "39cfe7ca1c4864a60e0bc4e8d362c38dfc8a95a7ea5414e61c789969f027c3e3", func := "loop.example/g00588/laws.FnExactIsEntry", spec := "fnExactIsEntry", unfollowed := true, recurses := true, apart := false, narrowed := true }
def FnExactIsEntryUptoSaid : Prop := fnExactIsEntryUptoRow.holds Try.pinned (OpenSpec.upto fnExactIsEntrySpec)

/-- 'laws.FnExactEntryInts', WHERE WHAT IT READS IS OF BULK AT MOST 1048576: true; the input reads as it did. -/
def fnExactEntryIntsUptoRow : OpenClaim := { program := "ytobapahakcdibaa", sum := "39cfe7ca1c4864a60e0bc4e8d362c38dfc8a95a7ea5414e61c789969f027c3e3", func := "loop.example/g00588/laws.FnExactEntryInts", spec := "fnExactEntryInts", apart := false, narrowed := true }
def FnExactEntryIntsUptoSaid : Prop := fnExactEntryIntsUptoRow.holds Try.pinned (OpenSpec.upto fnExactEntryIntsSpec)

/-- 'laws.FnExactLeafOf', WHERE WHAT IT READS IS OF BULK AT MOST 1048576: true; the input reads as it did. -/
def fnExactLeafOfUptoRow : OpenClaim := { program := "ytobapahakcdibaa", sum := "39cfe7ca1c4864a60e0bc4e8d362c38dfc8a95a7ea5414e61c789969f027c3e3", func := "loop.example/g00588/laws.FnExactLeafOf", spec := "fnExactLeafOf", apart := false, narrowed := true }
def FnExactLeafOfUptoSaid : Prop := fnExactLeafOfUptoRow.holds Try.pinned (OpenSpec.upto fnExactLeafOfSpec)

/-- 'laws.FnExactValueEntry', WHERE WHAT IT READS IS OF BULK AT MOST 1048576: true; the input reads as it did. -/
def fnExactValueEntryUptoRow : OpenClaim := { program := "ytobapahakcdibaa", sum := "39cfe7ca1c4864a60e0bc4e8d362c38dfc8a95a7ea5414e61c789969f027c3e3", func := "loop.example/g00588/laws.FnExactValueEntry", spec := "fnExactValueEntry", apart := false, narrowed := true }
def FnExactValueEntryUptoSaid : Prop := fnExactValueEntryUptoRow.holds Try.pinned (OpenSpec.upto fnExactValueEntrySpec)

/-- 'laws.FnExactZoneEntry', WHERE WHAT IT READS IS OF BULK AT MOST 1048576: true; the input reads as it did. -/
def fnExactZoneEntryUptoRow : OpenClaim := { program := "ytobapahakcdibaa", sum := "39cfe7ca1c4864a60e0bc4e8d362c38dfc8a95a7ea5414e61c789969f027c3e3", func := "loop.example/g00588/laws.FnExactZoneEntry", spec := "fnExactZoneEntry", apart := false, narrowed := true }
def FnExactZoneEntryUptoSaid : Prop := fnExactZoneEntryUptoRow.holds Try.pinned (OpenSpec.upto fnExactZoneEntrySpec)

/-- 'laws.FnExactMovedEntry', WHERE WHAT IT READS IS OF BULK AT MOST 1048576: true; the input reads as it did. -/
def fnExactMovedEntryUptoRow : OpenClaim := { program := "ytobapahakcdibaa", sum := "39cfe7ca1c4864a60e0bc4e8d362c38dfc8a95a7ea5414e61c789969f027c3e3", func := "loop.example/g00588/laws.FnExactMovedEntry", spec := "fnExactMovedEntry", apart := false, narrowed := true }
def FnExactMovedEntryUptoSaid : Prop := fnExactMovedEntryUptoRow.holds Try.pinned (OpenSpec.upto fnExactMovedEntrySpec)

/-- 'laws.FnExactEqualEntries', WHERE WHAT IT READS IS OF BULK AT MOST 1048576: true; the input reads as it did. -/
def fnExactEqualEntriesUptoRow : OpenClaim := { program := "ytobapahakcdibaa", sum := "39cfe7ca1c4864a60e0bc4e8d362c38dfc8a95a7ea5414e61c789969f027c3e3", func := "loop.example/g00588/laws.FnExactEqualEntries", spec := "fnExactEqualEntries", apart := false, narrowed := true }
def FnExactEqualEntriesUptoSaid : Prop := fnExactEqualEntriesUptoRow.holds Try.pinned (OpenSpec.upto fnExactEqualEntriesSpec)

end Rows
end Go.Proofs.Ytobapahakcdibaa
