/-
  No cell of these rows narrows 'for every input' (looked for: loops, veiled, ifaces, maps, wideKeys, modest, calm, conditions, laid).
  DERIVED. THE GIVEN ROWS OF THIS SEAT. 7 by the template 'for every input the law returns true; each argument reads behind the call as it read before'; 0 by the template 'total and deterministic' (their statements: YtkkkaaboeddkoaaTotals.lean).
  GIVEN WITH THE SEED: the statements are not yours to turn. If you find one false, say at which input.
  Laid BY PROGRAM, IN A SANDBOX (cutbox-rows.mjs): the forced cells as the released guide's own fill.sh prints them over the translation ac0df3a3fd5ed894… (all of the seat's roots in one cut). By AI agents, Wed Nov 11 2026. No macro, syntax, notation, axiom, sorry.
-/
import Derived.Test.YtkkkaaboeddkoaaChecked
import GoSem.Claim
import GoSem.ClaimJoined
import GoSem.ClaimMapViews
import Derived.JoinedTies
import Derived.KernelRfl
namespace Go.Proofs.Ytkkkaaboeddkoaa
/- THE CELL 'sum', in the pinned program and in every row, IS THE sha256 OF THE DUMP (.gsa) THAT YtkkkaaboeddkoaaProg.lean LOADS. Nothing in Lean hashes anything: it is a label: what it is worth is what the hold of that sum in a sandbox is worth. -/
noncomputable def Try.pinned : Pinned := { name := "ytkkkaaboeddkoaa", sum := "ac0df3a3fd5ed894b53157c4251a3fe462bcf7c0c25cb7aeca67f17fc458380d", checked := Try.checked }
namespace Rows
def none {H : Type} : Left H := { results := [], args := [] }

/-- 'laws.FnHeads': WHATEVER THE INPUT: true; the input reads as it did. -/
def fnHeadsSpec : ChangeSpec := { name := "fnHeads", fn := fun _ => fun
  | [d] => { results := [.lit (.bool true)], args := [d] }
  | _ => none }
def fnHeadsRow : OpenClaim := { program := "ytkkkaaboeddkoaa", sum := "ac0df3a3fd5ed894b53157c4251a3fe462bcf7c0c25cb7aeca67f17fc458380d", func := "loop.example/g00588/laws.FnHeads", spec := "fnHeads", apart := false }
def FnHeadsSaid : Prop := fnHeadsRow.holds Try.pinned (OpenSpec.ofChange fnHeadsSpec)

/-- ITS FALSE NEIGHBOUR: 'it returns false'. Refute it at one input. -/
def fnHeadsWrong : ChangeSpec := { name := "fnHeads", fn := fun _ => fun
  | [d] => { results := [.lit (.bool false)], args := [d] }
  | _ => none }
def FnHeadsWrongFalsely : Prop := fnHeadsRow.holds Try.pinned (OpenSpec.ofChange fnHeadsWrong)

/-- 'laws.FnExactIsHead': WHATEVER THE INPUT: true; the input reads as it did. -/
def fnExactIsHeadSpec : ChangeSpec := { name := "fnExactIsHead", fn := fun _ => fun
  | [d] => { results := [.lit (.bool true)], args := [d] }
  | _ => none }
def fnExactIsHeadRow : OpenClaim := { program := "ytkkkaaboeddkoaa", sum := "ac0df3a3fd5ed894b53157c4251a3fe462bcf7c0c25cb7aeca67f17fc458380d", func := "loop.example/g00588/laws.FnExactIsHead", spec := "fnExactIsHead", apart := false }
def FnExactIsHeadSaid : Prop := fnExactIsHeadRow.holds Try.pinned (OpenSpec.ofChange fnExactIsHeadSpec)

/-- ITS FALSE NEIGHBOUR: 'it returns false'. Refute it at one input. -/
def fnExactIsHeadWrong : ChangeSpec := { name := "fnExactIsHead", fn := fun _ => fun
  | [d] => { results := [.lit (.bool false)], args := [d] }
  | _ => none }
def FnExactIsHeadWrongFalsely : Prop := fnExactIsHeadRow.holds Try.pinned (OpenSpec.ofChange fnExactIsHeadWrong)

/-- 'laws.FnExactNoKeys': WHATEVER THE INPUT: true; the input reads as it did. -/
def fnExactNoKeysSpec : ChangeSpec := { name := "fnExactNoKeys", fn := fun _ => fun
  | [d] => { results := [.lit (.bool true)], args := [d] }
  | _ => none }
def fnExactNoKeysRow : OpenClaim := { program := "ytkkkaaboeddkoaa", sum := "ac0df3a3fd5ed894b53157c4251a3fe462bcf7c0c25cb7aeca67f17fc458380d", func := "loop.example/g00588/laws.FnExactNoKeys", spec := "fnExactNoKeys", apart := false }
def FnExactNoKeysSaid : Prop := fnExactNoKeysRow.holds Try.pinned (OpenSpec.ofChange fnExactNoKeysSpec)

/-- ITS FALSE NEIGHBOUR: 'it returns false'. Refute it at one input. -/
def fnExactNoKeysWrong : ChangeSpec := { name := "fnExactNoKeys", fn := fun _ => fun
  | [d] => { results := [.lit (.bool false)], args := [d] }
  | _ => none }
def FnExactNoKeysWrongFalsely : Prop := fnExactNoKeysRow.holds Try.pinned (OpenSpec.ofChange fnExactNoKeysWrong)

/-- 'laws.FnExactHeadInts': WHATEVER THE INPUT: true; the input reads as it did. -/
def fnExactHeadIntsSpec : ChangeSpec := { name := "fnExactHeadInts", fn := fun _ => fun
  | [d] => { results := [.lit (.bool true)], args := [d] }
  | _ => none }
def fnExactHeadIntsRow : OpenClaim := { program := "ytkkkaaboeddkoaa", sum := "ac0df3a3fd5ed894b53157c4251a3fe462bcf7c0c25cb7aeca67f17fc458380d", func := "loop.example/g00588/laws.FnExactHeadInts", spec := "fnExactHeadInts", apart := false }
def FnExactHeadIntsSaid : Prop := fnExactHeadIntsRow.holds Try.pinned (OpenSpec.ofChange fnExactHeadIntsSpec)

/-- ITS FALSE NEIGHBOUR: 'it returns false'. Refute it at one input. -/
def fnExactHeadIntsWrong : ChangeSpec := { name := "fnExactHeadInts", fn := fun _ => fun
  | [d] => { results := [.lit (.bool false)], args := [d] }
  | _ => none }
def FnExactHeadIntsWrongFalsely : Prop := fnExactHeadIntsRow.holds Try.pinned (OpenSpec.ofChange fnExactHeadIntsWrong)

/-- 'laws.FnExactHeadDigest': WHATEVER THE INPUT: true; the input reads as it did. -/
def fnExactHeadDigestSpec : ChangeSpec := { name := "fnExactHeadDigest", fn := fun _ => fun
  | [d] => { results := [.lit (.bool true)], args := [d] }
  | _ => none }
def fnExactHeadDigestRow : OpenClaim := { program := "ytkkkaaboeddkoaa", sum := "ac0df3a3fd5ed894b53157c4251a3fe462bcf7c0c25cb7aeca67f17fc458380d", func := "loop.example/g00588/laws.FnExactHeadDigest", spec := "fnExactHeadDigest", apart := false }
def FnExactHeadDigestSaid : Prop := fnExactHeadDigestRow.holds Try.pinned (OpenSpec.ofChange fnExactHeadDigestSpec)

/-- ITS FALSE NEIGHBOUR: 'it returns false'. Refute it at one input. -/
def fnExactHeadDigestWrong : ChangeSpec := { name := "fnExactHeadDigest", fn := fun _ => fun
  | [d] => { results := [.lit (.bool false)], args := [d] }
  | _ => none }
def FnExactHeadDigestWrongFalsely : Prop := fnExactHeadDigestRow.holds Try.pinned (OpenSpec.ofChange fnExactHeadDigestWrong)

/-- 'laws.FnExactIsFresh': WHATEVER THE INPUT: true; the input reads as it did. -/
def fnExactIsFreshSpec : ChangeSpec := { name := "fnExactIsFresh", fn := fun _ => fun
  | [d1, d2] => { results := [.lit (.bool true)], args := [d1, d2] }
  | _ => none }
def fnExactIsFreshRow : OpenClaim := { program := "ytkkkaaboeddkoaa", sum := "ac0df3a3fd5ed894b53157c4251a3fe462bcf7c0c25cb7aeca67f17fc458380d", func := "loop.example/g00588/laws.FnExactIsFresh", spec := "fnExactIsFresh", apart := false }
def FnExactIsFreshSaid : Prop := fnExactIsFreshRow.holds Try.pinned (OpenSpec.ofChange fnExactIsFreshSpec)

/-- ITS FALSE NEIGHBOUR: 'it returns false'. Refute it at one input. -/
def fnExactIsFreshWrong : ChangeSpec := { name := "fnExactIsFresh", fn := fun _ => fun
  | [d1, d2] => { results := [.lit (.bool false)], args := [d1, d2] }
  | _ => none }
def FnExactIsFreshWrongFalsely : Prop := fnExactIsFreshRow.holds Try.pinned (OpenSpec.ofChange fnExactIsFreshWrong)

/-- 'laws.FnExactEqualHeads': WHATEVER THE INPUT: true; the input reads as it did. -/
def fnExactEqualHeadsSpec : ChangeSpec := { name := "fnExactEqualHeads", fn := fun _ => fun
  | [d1, d2] => { results := [.lit (.bool true)], args := [d1, d2] }
  | _ => none }
def fnExactEqualHeadsRow : OpenClaim := { program := "ytkkkaaboeddkoaa", sum := "ac0df3a3fd5ed894b53157c4251a3fe462bcf7c0c25cb7aeca67f17fc458380d", func := "loop.example/g00588/laws.FnExactEqualHeads", spec := "fnExactEqualHeads", apart := false }
def FnExactEqualHeadsSaid : Prop := fnExactEqualHeadsRow.holds Try.pinned (OpenSpec.ofChange fnExactEqualHeadsSpec)

/-- ITS FALSE NEIGHBOUR: 'it returns false'. Refute it at one input. -/
def fnExactEqualHeadsWrong : ChangeSpec := { name := "fnExactEqualHeads", fn := fun _ => fun
  | [d1, d2] => { results := [.lit (.bool false)], args := [d1, d2] }
  | _ => none }
def FnExactEqualHeadsWrongFalsely : Prop := fnExactEqualHeadsRow.holds Try.pinned (OpenSpec.ofChange fnExactEqualHeadsWrong)

/- THE SECOND FORM. 'bulk': how many values and letters a reading holds, each counted each time it is reached (what is shared counts as often as it is met; a slice's spare places count too). A statement '..UptoSaid' is the law's where the arguments, and the package variables that the reading takes, are together of bulk at most 1048576: NARROWER than '..Said'. Prove '..Said' where nothing that the law and all that it calls make is longer than what came in: it says more and counts as full. Else prove '..UptoSaid'. A law counts once. -/
mutual
def uptoBulk {H : Type} : DataW H → Nat
  | .lit (.string bytes) => bytes.length + 1
  | .lit _ => 1
  | .nil => 1
  | .ptr d => uptoBulk d + 1
  | .slice elems spare => uptoBulkAll elems + uptoBulkAll spare + 1
  | .agg parts => uptoBulkAll parts + 1
  | .iface _ d => uptoBulk d + 1
  | .map entries => uptoBulkEntries entries + 1
  | .held _ => 1
def uptoBulkAll {H : Type} : List (DataW H) → Nat
  | [] => 0
  | d :: r => uptoBulk d + uptoBulkAll r
def uptoBulkEntries {H : Type} : List (Lit × DataW H) → Nat
  | [] => 0
  | x :: r => uptoBulkEntry x + uptoBulkEntries r
def uptoBulkEntry {H : Type} : Lit × DataW H → Nat
  | (.string bytes, d) => bytes.length + uptoBulk d + 1
  | (_, d) => uptoBulk d + 1
 end
def uptoSmall : (H : Type) → List (DataW H) → Bool := fun _ ds => decide (uptoBulkAll ds ≤ 1048576)
def OpenSpec.upto (s : _root_.Go.ChangeSpec) : _root_.Go.OpenSpec := { _root_.Go.OpenSpec.ofChange s with cond := some uptoSmall }

/-- 'laws.FnHeads', WHERE WHAT IT READS IS OF BULK AT MOST 1048576: true; the input reads as it did. -/
def fnHeadsUptoRow : OpenClaim := { program := "ytkkkaaboeddkoaa", sum := "ac0df3a3fd5ed894b53157c4251a3fe462bcf7c0c25cb7aeca67f17fc458380d", func := "loop.example/g00588/laws.FnHeads", spec := "fnHeads", apart := false, narrowed := true }
def FnHeadsUptoSaid : Prop := fnHeadsUptoRow.holds Try.pinned (OpenSpec.upto fnHeadsSpec)

/-- 'laws.FnExactIsHead', WHERE WHAT IT READS IS OF BULK AT MOST 1048576: true; the input reads as it did. -/
def fnExactIsHeadUptoRow : OpenClaim := { program := "ytkkkaaboeddkoaa", sum := "ac0df3a3fd5ed894b53157c4251a3fe462bcf7c0c25cb7aeca67f17fc458380d", func := "loop.example/g00588/laws.FnExactIsHead", spec := "fnExactIsHead", apart := false, narrowed := true }
def FnExactIsHeadUptoSaid : Prop := fnExactIsHeadUptoRow.holds Try.pinned (OpenSpec.upto fnExactIsHeadSpec)

/-- 'laws.FnExactNoKeys', WHERE WHAT IT READS IS OF BULK AT MOST 1048576: true; the input reads as it did. -/
def fnExactNoKeysUptoRow : OpenClaim := { program := "ytkkkaaboeddkoaa", sum := "ac0df3a3fd5ed894b53157c4251a3fe462bcf7c0c25cb7aeca67f17fc458380d", func := "loop.example/g00588/laws.FnExactNoKeys", spec := "fnExactNoKeys", apart := false, narrowed := true }
def FnExactNoKeysUptoSaid : Prop := fnExactNoKeysUptoRow.holds Try.pinned (OpenSpec.upto fnExactNoKeysSpec)

/-- 'laws.FnExactHeadInts', WHERE WHAT IT READS IS OF BULK AT MOST 1048576: true; the input reads as it did. -/
def fnExactHeadIntsUptoRow : OpenClaim := { program := "ytkkkaaboeddkoaa", sum := "ac0df3a3fd5ed894b53157c4251a3fe462bcf7c0c25cb7aeca67f17fc458380d", func := "loop.example/g00588/laws.FnExactHeadInts", spec := "fnExactHeadInts", apart := false, narrowed := true }
def FnExactHeadIntsUptoSaid : Prop := fnExactHeadIntsUptoRow.holds Try.pinned (OpenSpec.upto fnExactHeadIntsSpec)

/-- 'laws.FnExactHeadDigest', WHERE WHAT IT READS IS OF BULK AT MOST 1048576: true; the input reads as it did. -/
def fnExactHeadDigestUptoRow : OpenClaim := { program := "ytkkkaaboeddkoaa", sum := "ac0df3a3fd5ed894b53157c4251a3fe462bcf7c0c25cb7aeca67f17fc458380d", func := "loop.example/g00588/laws.FnExactHeadDigest", spec := "fnExactHeadDigest", apart := false, narrowed := true }
def FnExactHeadDigestUptoSaid : Prop := fnExactHeadDigestUptoRow.holds Try.pinned (OpenSpec.upto fnExactHeadDigestSpec)

/-- 'laws.FnExactIsFresh', WHERE WHAT IT READS IS OF BULK AT MOST 1048576: true; the input reads as it did. -/
def fnExactIsFreshUptoRow : OpenClaim := { program := "ytkkkaaboeddkoaa", sum := "ac0df3a3fd5ed894b53157c4251a3fe462bcf7c0c25cb7aeca67f17fc458380d", func := "loop.example/g00588/laws.FnExactIsFresh", spec := "fnExactIsFresh", apart := false, narrowed := true }
def FnExactIsFreshUptoSaid : Prop := fnExactIsFreshUptoRow.holds Try.pinned (OpenSpec.upto fnExactIsFreshSpec)

/-- 'laws.FnExactEqualHeads', WHERE WHAT IT READS IS OF BULK AT MOST 1048576: true; the input reads as it did. -/
def fnExactEqualHeadsUptoRow : OpenClaim := { program := "ytkkkaaboeddkoaa", sum := "ac0df3a3fd5ed894b53157c4251a3fe462bcf7c0c25cb7aeca67f17fc458380d", func := "loop.example/g00588/laws.FnExactEqualHeads", spec := "fnExactEqualHeads", apart := false, narrowed := true }
def FnExactEqualHeadsUptoSaid : Prop := fnExactEqualHeadsUptoRow.holds Try.pinned (OpenSpec.upto fnExactEqualHeadsSpec)

end Rows
end Go.Proofs.Ytkkkaaboeddkoaa
