/-
  No cell of these rows narrows 'for every input' (looked for: loops, veiled, ifaces, maps, wideKeys, modest, calm, conditions, laid).
  DERIVED. THE GIVEN ROWS OF THIS SEAT. 8 by the template 'for every input the law returns true; each argument reads behind the call as it read before'; 0 by the template 'total and deterministic' (their statements: YthfngiajicbdhaaTotals.lean).
  GIVEN WITH THE SEED: the statements are not yours to turn. If you find one false, say at which input.
  Laid BY PROGRAM, IN A SANDBOX (cutbox-rows.mjs): the forced cells as the released guide's own fill.sh prints them over the translation fb52d8755b247892… (all of the seat's roots in one cut). By AI agents, Wed Nov 11 2026. No macro, syntax, notation, axiom, sorry.
-/
import Derived.Test.YthfngiajicbdhaaChecked
import GoSem.Claim
import GoSem.ClaimJoined
import GoSem.ClaimMapViews
import Derived.JoinedTies
import Derived.KernelRfl
namespace Go.Proofs.Ythfngiajicbdhaa
/- THE CELL 'sum', in the pinned program and in every row, IS THE sha256 OF THE DUMP (.gsa) THAT YthfngiajicbdhaaProg.lean LOADS. Nothing in Lean hashes anything: it is a label: what it is worth is what the hold of that sum in a sandbox is worth. -/
noncomputable def Try.pinned : Pinned := { name := "ythfngiajicbdhaa", sum := "fb52d8755b247892b24c1c2b30646d76a68b6267e9c6d8d42930f053b790578a", checked := Try.checked }
namespace Rows
def none {H : Type} : Left H := { results := [], args := [] }

/-- 'laws.FnKeySets': WHATEVER THE INPUT: true; the input reads as it did. -/
def fnKeySetsSpec : ChangeSpec := { name := "fnKeySets", fn := fun _ => fun
  | [d] => { results := [.lit (.bool true)], args := [d] }
  | _ => none }
def fnKeySetsRow : OpenClaim := { program := "ythfngiajicbdhaa", sum := "fb52d8755b247892b24c1c2b30646d76a68b6267e9c6d8d42930f053b790578a", func := "loop.example/g00588/laws.FnKeySets", spec := "fnKeySets", apart := false }
def FnKeySetsSaid : Prop := fnKeySetsRow.holds Try.pinned (OpenSpec.ofChange fnKeySetsSpec)

/-- ITS FALSE NEIGHBOUR: 'it returns false'. Refute it at one input. -/
def fnKeySetsWrong : ChangeSpec := { name := "fnKeySets", fn := fun _ => fun
  | [d] => { results := [.lit (.bool false)], args := [d] }
  | _ => none }
def FnKeySetsWrongFalsely : Prop := fnKeySetsRow.holds Try.pinned (OpenSpec.ofChange fnKeySetsWrong)

/-- 'laws.FnExactIsKeys': WHATEVER THE INPUT: true; the input reads as it did. -/
def fnExactIsKeysSpec : ChangeSpec := { name := "fnExactIsKeys", fn := fun _ => fun
  | [d] => { results := [.lit (.bool true)], args := [d] }
  | _ => none }
def fnExactIsKeysRow : OpenClaim := { program := "ythfngiajicbdhaa", sum := "fb52d8755b247892b24c1c2b30646d76a68b6267e9c6d8d42930f053b790578a", func := "loop.example/g00588/laws.FnExactIsKeys", spec := "fnExactIsKeys", apart := false }
def FnExactIsKeysSaid : Prop := fnExactIsKeysRow.holds Try.pinned (OpenSpec.ofChange fnExactIsKeysSpec)

/-- ITS FALSE NEIGHBOUR: 'it returns false'. Refute it at one input. -/
def fnExactIsKeysWrong : ChangeSpec := { name := "fnExactIsKeys", fn := fun _ => fun
  | [d] => { results := [.lit (.bool false)], args := [d] }
  | _ => none }
def FnExactIsKeysWrongFalsely : Prop := fnExactIsKeysRow.holds Try.pinned (OpenSpec.ofChange fnExactIsKeysWrong)

/-- 'laws.FnExactKeysInts': WHATEVER THE INPUT: true; the input reads as it did. -/
def fnExactKeysIntsSpec : ChangeSpec := { name := "fnExactKeysInts", fn := fun _ => fun
  | [d] => { results := [.lit (.bool true)], args := [d] }
  | _ => none }
def fnExactKeysIntsRow : OpenClaim := { program := "ythfngiajicbdhaa", sum := "fb52d8755b247892b24c1c2b30646d76a68b6267e9c6d8d42930f053b790578a", func := "loop.example/g00588/laws.FnExactKeysInts", spec := "fnExactKeysInts", apart := false }
def FnExactKeysIntsSaid : Prop := fnExactKeysIntsRow.holds Try.pinned (OpenSpec.ofChange fnExactKeysIntsSpec)

/-- ITS FALSE NEIGHBOUR: 'it returns false'. Refute it at one input. -/
def fnExactKeysIntsWrong : ChangeSpec := { name := "fnExactKeysInts", fn := fun _ => fun
  | [d] => { results := [.lit (.bool false)], args := [d] }
  | _ => none }
def FnExactKeysIntsWrongFalsely : Prop := fnExactKeysIntsRow.holds Try.pinned (OpenSpec.ofChange fnExactKeysIntsWrong)

/-- 'laws.FnExactKeysDigest': WHATEVER THE INPUT: true; the input reads as it did. -/
def fnExactKeysDigestSpec : ChangeSpec := { name := "fnExactKeysDigest", fn := fun _ => fun
  | [d] => { results := [.lit (.bool true)], args := [d] }
  | _ => none }
def fnExactKeysDigestRow : OpenClaim := { program := "ythfngiajicbdhaa", sum := "fb52d8755b247892b24c1c2b30646d76a68b6267e9c6d8d42930f053b790578a", func := "loop.example/g00588/laws.FnExactKeysDigest", spec := "fnExactKeysDigest", apart := false }
def FnExactKeysDigestSaid : Prop := fnExactKeysDigestRow.holds Try.pinned (OpenSpec.ofChange fnExactKeysDigestSpec)

/-- ITS FALSE NEIGHBOUR: 'it returns false'. Refute it at one input. -/
def fnExactKeysDigestWrong : ChangeSpec := { name := "fnExactKeysDigest", fn := fun _ => fun
  | [d] => { results := [.lit (.bool false)], args := [d] }
  | _ => none }
def FnExactKeysDigestWrongFalsely : Prop := fnExactKeysDigestRow.holds Try.pinned (OpenSpec.ofChange fnExactKeysDigestWrong)

/-- 'laws.FnExactHasKey': WHATEVER THE INPUT: true; the input reads as it did. -/
def fnExactHasKeySpec : ChangeSpec := { name := "fnExactHasKey", fn := fun _ => fun
  | [d1, d2] => { results := [.lit (.bool true)], args := [d1, d2] }
  | _ => none }
def fnExactHasKeyRow : OpenClaim := { program := "ythfngiajicbdhaa", sum := "fb52d8755b247892b24c1c2b30646d76a68b6267e9c6d8d42930f053b790578a", func := "loop.example/g00588/laws.FnExactHasKey", spec := "fnExactHasKey", apart := false }
def FnExactHasKeySaid : Prop := fnExactHasKeyRow.holds Try.pinned (OpenSpec.ofChange fnExactHasKeySpec)

/-- ITS FALSE NEIGHBOUR: 'it returns false'. Refute it at one input. -/
def fnExactHasKeyWrong : ChangeSpec := { name := "fnExactHasKey", fn := fun _ => fun
  | [d1, d2] => { results := [.lit (.bool false)], args := [d1, d2] }
  | _ => none }
def FnExactHasKeyWrongFalsely : Prop := fnExactHasKeyRow.holds Try.pinned (OpenSpec.ofChange fnExactHasKeyWrong)

/-- 'laws.FnExactCanSign': WHATEVER THE INPUT: true; the input reads as it did. -/
def fnExactCanSignSpec : ChangeSpec := { name := "fnExactCanSign", fn := fun _ => fun
  | [d1, d2] => { results := [.lit (.bool true)], args := [d1, d2] }
  | _ => none }
def fnExactCanSignRow : OpenClaim := { program := "ythfngiajicbdhaa", sum := "fb52d8755b247892b24c1c2b30646d76a68b6267e9c6d8d42930f053b790578a", func := "loop.example/g00588/laws.FnExactCanSign", spec := "fnExactCanSign", apart := false }
def FnExactCanSignSaid : Prop := fnExactCanSignRow.holds Try.pinned (OpenSpec.ofChange fnExactCanSignSpec)

/-- ITS FALSE NEIGHBOUR: 'it returns false'. Refute it at one input. -/
def fnExactCanSignWrong : ChangeSpec := { name := "fnExactCanSign", fn := fun _ => fun
  | [d1, d2] => { results := [.lit (.bool false)], args := [d1, d2] }
  | _ => none }
def FnExactCanSignWrongFalsely : Prop := fnExactCanSignRow.holds Try.pinned (OpenSpec.ofChange fnExactCanSignWrong)

/-- 'laws.FnExactOneKey': WHATEVER THE INPUT: true; the input reads as it did. -/
def fnExactOneKeySpec : ChangeSpec := { name := "fnExactOneKey", fn := fun _ => fun
  | [d] => { results := [.lit (.bool true)], args := [d] }
  | _ => none }
def fnExactOneKeyRow : OpenClaim := { program := "ythfngiajicbdhaa", sum := "fb52d8755b247892b24c1c2b30646d76a68b6267e9c6d8d42930f053b790578a", func := "loop.example/g00588/laws.FnExactOneKey", spec := "fnExactOneKey", apart := false }
def FnExactOneKeySaid : Prop := fnExactOneKeyRow.holds Try.pinned (OpenSpec.ofChange fnExactOneKeySpec)

/-- ITS FALSE NEIGHBOUR: 'it returns false'. Refute it at one input. -/
def fnExactOneKeyWrong : ChangeSpec := { name := "fnExactOneKey", fn := fun _ => fun
  | [d] => { results := [.lit (.bool false)], args := [d] }
  | _ => none }
def FnExactOneKeyWrongFalsely : Prop := fnExactOneKeyRow.holds Try.pinned (OpenSpec.ofChange fnExactOneKeyWrong)

/-- 'laws.FnExactEqualKeys': WHATEVER THE INPUT: true; the input reads as it did. -/
def fnExactEqualKeysSpec : ChangeSpec := { name := "fnExactEqualKeys", fn := fun _ => fun
  | [d1, d2] => { results := [.lit (.bool true)], args := [d1, d2] }
  | _ => none }
def fnExactEqualKeysRow : OpenClaim := { program := "ythfngiajicbdhaa", sum := "fb52d8755b247892b24c1c2b30646d76a68b6267e9c6d8d42930f053b790578a", func := "loop.example/g00588/laws.FnExactEqualKeys", spec := "fnExactEqualKeys", apart := false }
def FnExactEqualKeysSaid : Prop := fnExactEqualKeysRow.holds Try.pinned (OpenSpec.ofChange fnExactEqualKeysSpec)

/-- ITS FALSE NEIGHBOUR: 'it returns false'. Refute it at one input. -/
def fnExactEqualKeysWrong : ChangeSpec := { name := "fnExactEqualKeys", fn := fun _ => fun
  | [d1, d2] => { results := [.lit (.bool false)], args := [d1, d2] }
  | _ => none }
def FnExactEqualKeysWrongFalsely : Prop := fnExactEqualKeysRow.holds Try.pinned (OpenSpec.ofChange fnExactEqualKeysWrong)

/- THE SECOND FORM. 'bulk': how many values and letters a reading holds, each counted each time it is reached (what is shared counts as often as it is met; a slice's spare places count too). A statement '..UptoSaid' is the law's where the arguments, and the package variables that the reading takes, are together of bulk at most 1048576: NARROWER than '..Said'. Prove '..Said' where nothing that the law and all that it calls make is longer than what came in: it says more and counts as full. Else prove '..UptoSaid'. A law counts once. -/
mutual
def uptoBulk {H : Type} : DataW H → Nat
  | .lit (.string bytes) => bytes.length + 1
  | .lit _ => 1
  | .nil => 1
  | .ptr d => uptoBulk d + 1
  | .slice elems spare => uptoBulkAll elems + uptoBulkAll spare + 1
  | .agg parts => uptoBulkAll parts + 1
  | .iface _ d => uptoBulk d + 1
  | .map entries => uptoBulkEntries entries + 1
  | .held _ => 1
def uptoBulkAll {H : Type} : List (DataW H) → Nat
  | [] => 0
  | d :: r => uptoBulk d + uptoBulkAll r
def uptoBulkEntries {H : Type} : List (Lit × DataW H) → Nat
  | [] => 0
  | x :: r => uptoBulkEntry x + uptoBulkEntries r
def uptoBulkEntry {H : Type} : Lit × DataW H → Nat
  | (.string bytes, d) => bytes.length + uptoBulk d + 1
  | (_, d) => uptoBulk d + 1
 end
def uptoSmall : (H : Type) → List (DataW H) → Bool := fun _ ds => decide (uptoBulkAll ds ≤ 1048576)
def OpenSpec.upto (s : _root_.Go.ChangeSpec) : _root_.Go.OpenSpec := { _root_.Go.OpenSpec.ofChange s with cond := some uptoSmall }

/-- 'laws.FnKeySets', WHERE WHAT IT READS IS OF BULK AT MOST 1048576: true; the input reads as it did. -/
def fnKeySetsUptoRow : OpenClaim := { program := "ythfngiajicbdhaa", sum := "fb52d8755b247892b24c1c2b30646d76a68b6267e9c6d8d42930f053b790578a", func := "loop.example/g00588/laws.FnKeySets", spec := "fnKeySets", apart := false, narrowed := true }
def FnKeySetsUptoSaid : Prop := fnKeySetsUptoRow.holds Try.pinned (OpenSpec.upto fnKeySetsSpec)

/-- 'laws.FnExactIsKeys', WHERE WHAT IT READS IS OF BULK AT MOST 1048576: true; the input reads as it did. -/
def fnExactIsKeysUptoRow : OpenClaim := { program := "ythfngiajicbdhaa", sum := "fb52d8755b247892b24c1c2b30646d76a68b6267e9c6d8d42930f053b790578a", func := "loop.example/g00588/laws.FnExactIsKeys", spec := "fnExactIsKeys", apart := false, narrowed := true }
def FnExactIsKeysUptoSaid : Prop := fnExactIsKeysUptoRow.holds Try.pinned (OpenSpec.upto fnExactIsKeysSpec)

/-- 'laws.FnExactKeysInts', WHERE WHAT IT READS IS OF BULK AT MOST 1048576: true; the input reads as it did. -/
def fnExactKeysIntsUptoRow : OpenClaim := { program := "ythfngiajicbdhaa", sum := "fb52d8755b247892b24c1c2b30646d76a68b6267e9c6d8d42930f053b790578a", func := "loop.example/g00588/laws.FnExactKeysInts", spec := "fnExactKeysInts", apart := false, narrowed := true }
def FnExactKeysIntsUptoSaid : Prop := fnExactKeysIntsUptoRow.holds Try.pinned (OpenSpec.upto fnExactKeysIntsSpec)

/-- 'laws.FnExactKeysDigest', WHERE WHAT IT READS IS OF BULK AT MOST 1048576: true; the input reads as it did. -/
def fnExactKeysDigestUptoRow : OpenClaim := { program := "ythfngiajicbdhaa", sum := "fb52d8755b247892b24c1c2b30646d76a68b6267e9c6d8d42930f053b790578a", func := "loop.example/g00588/laws.FnExactKeysDigest", spec := "fnExactKeysDigest", apart := false, narrowed := true }
def FnExactKeysDigestUptoSaid : Prop := fnExactKeysDigestUptoRow.holds Try.pinned (OpenSpec.upto fnExactKeysDigestSpec)

/-- 'laws.FnExactHasKey', WHERE WHAT IT READS IS OF BULK AT MOST 1048576: true; the input reads as it did. -/
def fnExactHasKeyUptoRow : OpenClaim := { program := "ythfngiajicbdhaa", sum := "fb52d8755b247892b24c1c2b30646d76a68b6267e9c6d8d42930f053b790578a", func := "loop.example/g00588/laws.FnExactHasKey", spec := "fnExactHasKey", apart := false, narrowed := true }
def FnExactHasKeyUptoSaid : Prop := fnExactHasKeyUptoRow.holds Try.pinned (OpenSpec.upto fnExactHasKeySpec)

/-- 'laws.FnExactCanSign', WHERE WHAT IT READS IS OF BULK AT MOST 1048576: true; the input reads as it did. -/
def fnExactCanSignUptoRow : OpenClaim := { program := "ythfngiajicbdhaa", sum := "fb52d8755b247892b24c1c2b30646d76a68b6267e9c6d8d42930f053b790578a", func := "loop.example/g00588/laws.FnExactCanSign", spec := "fnExactCanSign", apart := false, narrowed := true }
def FnExactCanSignUptoSaid : Prop := fnExactCanSignUptoRow.holds Try.pinned (OpenSpec.upto fnExactCanSignSpec)

/-- 'laws.FnExactOneKey', WHERE WHAT IT READS IS OF BULK AT MOST 1048576: true; the input reads as it did. -/
def fnExactOneKeyUptoRow : OpenClaim := { program := "ythfngiajicbdhaa", sum := "fb52d8755b247892b24c1c2b30646d76a68b6267e9c6d8d42930f053b790578a", func := "loop.example/g00588/laws.FnExactOneKey", spec := "fnExactOneKey", apart := false, narrowed := true }
def FnExactOneKeyUptoSaid : Prop := fnExactOneKeyUptoRow.holds Try.pinned (OpenSpec.upto fnExactOneKeySpec)

/-- 'laws.FnExactEqualKeys', WHERE WHAT IT READS IS OF BULK AT MOST 1048576: true; the input reads as it did. -/
def fnExactEqualKeysUptoRow : OpenClaim := { program := "ythfngiajicbdhaa", sum := "fb52d8755b247892b24c1c2b30646d76a68b6267e9c6d8d42930f053b790578a", func := "loop.example/g00588/laws.FnExactEqualKeys", spec := "fnExactEqualKeys", apart := false, narrowed := true }
def FnExactEqualKeysUptoSaid : Prop := fnExactEqualKeysUptoRow.holds Try.pinned (OpenSpec.upto fnExactEqualKeysSpec)

end Rows
end Go.Proofs.Ythfngiajicbdhaa
