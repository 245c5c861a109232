/- A struct as data: Signed. -/
import Derived.Test.YthhmhcmlbpdlbaaGreatR13
import Derived.Test.YthhmhcmlbpdlbaaGreatM07
import Derived.Test.YthhmhcmlbpdlbaaGreatRep
namespace Go.Proofs.YthhmhcmlbpdlbaaGreat.R14
open Go.RowKit Go.ChangeShapes Go.WideShapes Go.Deep Mem MemS Rep RepA Opn R13 Flat R07
set_option linter.unusedVariables false
set_option maxRecDepth 100000
structure Signed where
  head : Head
  sigs : List Sig
deriving Inhabited
def RSigned : Rep Signed := iso 36 (pair RHead (slice 34 RSig)) fun k => (k.head, k.sigs)
theorem RSigned_rd {w : World} {B : Nat} {cs : List Value} {k : Signed} : RSigned.rd w (Lt B) cs k ↔ ∃ A0 n0 c0 A1 n1 c1 A2 n2 c2 A3 n3 c3, cs = [.int .i64 k.head.zone, .int .i64 k.head.epoch, .int .i64 k.head.kind, .int .i64 k.head.time, .int .i64 k.head.until_, .int .i64 k.head.count, .int .i64 k.head.root, .int .i64 k.head.prev, .slice A0 n0 c0, .int .i64 k.head.keys.need, .slice A1 n1 c1, .int .i64 k.head.heirs.need, .int .i64 k.head.wait, .slice A2 n2 c2, .int .i64 k.head.judge.need, .bool k.head.frozen, .slice A3 n3 c3] ∧ RHead.rd w (Lt B) [.int .i64 k.head.zone, .int .i64 k.head.epoch, .int .i64 k.head.kind, .int .i64 k.head.time, .int .i64 k.head.until_, .int .i64 k.head.count, .int .i64 k.head.root, .int .i64 k.head.prev, .slice A0 n0 c0, .int .i64 k.head.keys.need, .slice A1 n1 c1, .int .i64 k.head.heirs.need, .int .i64 k.head.wait, .slice A2 n2 c2, .int .i64 k.head.judge.need, .bool k.head.frozen] k.head ∧ n3 ≤ c3 ∧ c3 ≤ maxLen ∧ FRdSig w B A3 n3 k.sigs := by
  constructor
  · rintro ⟨d0, e0, rfl, h0, ⟨A3, n3, c3, rfl, x1, y1, h1⟩⟩
    obtain ⟨A0, n0, c0, A1, n1, c1, A2, n2, c2, rfl⟩ := RHead_shape h0
    exact ⟨A0, n0, c0, A1, n1, c1, A2, n2, c2, A3, n3, c3, rfl, h0, x1, y1, FRd.of flSig h1⟩
  · rintro ⟨A0, n0, c0, A1, n1, c1, A2, n2, c2, A3, n3, c3, rfl, h0, x1, y1, h1⟩
    exact ⟨_, _, rfl, h0, ⟨A3, n3, c3, rfl, x1, y1, FRd.to flSig h1⟩⟩
theorem RSigned_shape {w : World} {P : Nat → Prop} {cs : List Value} {k : Signed} (h : RSigned.rd w P cs k) : ∃ A0 n0 c0 A1 n1 c1 A2 n2 c2 A3 n3 c3, cs = [.int .i64 k.head.zone, .int .i64 k.head.epoch, .int .i64 k.head.kind, .int .i64 k.head.time, .int .i64 k.head.until_, .int .i64 k.head.count, .int .i64 k.head.root, .int .i64 k.head.prev, .slice A0 n0 c0, .int .i64 k.head.keys.need, .slice A1 n1 c1, .int .i64 k.head.heirs.need, .int .i64 k.head.wait, .slice A2 n2 c2, .int .i64 k.head.judge.need, .bool k.head.frozen, .slice A3 n3 c3] := by
  obtain ⟨d0, e0, rfl, h0, ⟨A3, n3, c3, rfl, x1, y1, h1⟩⟩ := h
  obtain ⟨A0, n0, c0, A1, n1, c1, A2, n2, c2, rfl⟩ := RHead_shape h0
  exact ⟨A0, n0, c0, A1, n1, c1, A2, n2, c2, A3, n3, c3, rfl⟩
theorem RSigned_set {w : World} {F : List Nat} {cs : List Value} {k : Signed} : RSigned.own w F cs k ↔ ∃ A0 n0 c0 A1 n1 c1 A2 n2 c2 A3 n3 c3 F0 F1, cs = [.int .i64 k.head.zone, .int .i64 k.head.epoch, .int .i64 k.head.kind, .int .i64 k.head.time, .int .i64 k.head.until_, .int .i64 k.head.count, .int .i64 k.head.root, .int .i64 k.head.prev, .slice A0 n0 c0, .int .i64 k.head.keys.need, .slice A1 n1 c1, .int .i64 k.head.heirs.need, .int .i64 k.head.wait, .slice A2 n2 c2, .int .i64 k.head.judge.need, .bool k.head.frozen, .slice A3 n3 c3] ∧ F = F0 ++ (F1) ∧ RHead.own w F0 [.int .i64 k.head.zone, .int .i64 k.head.epoch, .int .i64 k.head.kind, .int .i64 k.head.time, .int .i64 k.head.until_, .int .i64 k.head.count, .int .i64 k.head.root, .int .i64 k.head.prev, .slice A0 n0 c0, .int .i64 k.head.keys.need, .slice A1 n1 c1, .int .i64 k.head.heirs.need, .int .i64 k.head.wait, .slice A2 n2 c2, .int .i64 k.head.judge.need, .bool k.head.frozen] k.head ∧ OwnF RSig w F1 A3 n3 c3 k.sigs := by
  constructor
  · rintro ⟨F0, G0, d0, e0, rfl, rfl, h0, ⟨A3, n3, c3, rfl, h1⟩⟩
    obtain ⟨A0, n0, c0, A1, n1, c1, A2, n2, c2, rfl⟩ := RHead_shape (RHead.ord h0)
    exact ⟨A0, n0, c0, A1, n1, c1, A2, n2, c2, A3, n3, c3, _, _, rfl, by simp, h0, h1⟩
  · rintro ⟨A0, n0, c0, A1, n1, c1, A2, n2, c2, A3, n3, c3, F0, F1, rfl, rfl, h0, h1⟩
    refine ⟨F0, (F1), _, _, ?_, rfl, h0, ⟨A3, n3, c3, rfl, h1⟩⟩ <;> simp
def totSigned (k : Signed) : Nat := totHead k.head + k.sigs.length
def cntSigned (k : Signed) : Nat := cntHead k.head + 2 * k.sigs.length
theorem cntSigned_le (k : Signed) : cntSigned k ≤ 2 * totSigned k := by
  have h0 := cntHead_le k.head
  unfold cntSigned totSigned
  omega
theorem cells_Signed {l : List Value} (h : (Array.mk l).size = 17) : ∃ z0 z1 z2 z3 z4 z5 z6 z7 z8 z9 z10 z11 z12 z13 z14 z15 z16, l = [z0, z1, z2, z3, z4, z5, z6, z7, z8, z9, z10, z11, z12, z13, z14, z15, z16] := by
  match l, h with
  | [z0, z1, z2, z3, z4, z5, z6, z7, z8, z9, z10, z11, z12, z13, z14, z15, z16], _ => exact ⟨z0, z1, z2, z3, z4, z5, z6, z7, z8, z9, z10, z11, z12, z13, z14, z15, z16, rfl⟩
end Go.Proofs.YthhmhcmlbpdlbaaGreat.R14
