/- A struct as data: Gap. -/
import Derived.Test.YtbhhifoofapgiaaGreatM08
import Derived.Test.YtbhhifoofapgiaaGreatR11
import Derived.Test.YtbhhifoofapgiaaGreatRep
namespace Go.Proofs.YtbhhifoofapgiaaGreat.R12
open Go.RowKit Go.ChangeShapes Go.WideShapes Go.Deep Mem MemS Rep RepA Opn R08 R11
set_option linter.unusedVariables false
set_option maxRecDepth 100000
structure Gap where
  at_ : Int
  before : Entry
  after : Entry
  left : Proof
  right : Proof
deriving Inhabited
def RGap : Rep Gap := iso 34 (pair RI (pair REntry (pair REntry (pair RProof RProof)))) fun k => (k.at_, (k.before, (k.after, (k.left, k.right))))
theorem RGap_rd {w : World} {B : Nat} {cs : List Value} {k : Gap} : RGap.rd w (Lt B) cs k ↔ ∃ A0 n0 c0 A1 n1 c1 A2 n2 c2 A3 n3 c3, cs = [.int .i64 k.at_, .string k.before.label, .int .i64 k.before.kind, .int .i64 k.before.value, .slice A0 n0 c0, .string k.after.label, .int .i64 k.after.kind, .int .i64 k.after.value, .slice A1 n1 c1, .int .i64 k.left.at_, .slice A2 n2 c2, .int .i64 k.right.at_, .slice A3 n3 c3] ∧ In .i64 k.at_ ∧ REntry.rd w (Lt B) [.string k.before.label, .int .i64 k.before.kind, .int .i64 k.before.value, .slice A0 n0 c0] k.before ∧ REntry.rd w (Lt B) [.string k.after.label, .int .i64 k.after.kind, .int .i64 k.after.value, .slice A1 n1 c1] k.after ∧ RProof.rd w (Lt B) [.int .i64 k.left.at_, .slice A2 n2 c2] k.left ∧ RProof.rd w (Lt B) [.int .i64 k.right.at_, .slice A3 n3 c3] k.right := by
  constructor
  · rintro ⟨d0, e0, rfl, ⟨rfl, h0⟩, ⟨d1, e1, rfl, h1, ⟨d2, e2, rfl, h2, ⟨d3, e3, rfl, h3, h4⟩⟩⟩⟩
    obtain ⟨A0, n0, c0, rfl⟩ := REntry_shape h1
    obtain ⟨A1, n1, c1, rfl⟩ := REntry_shape h2
    obtain ⟨A2, n2, c2, rfl⟩ := RProof_shape h3
    obtain ⟨A3, n3, c3, rfl⟩ := RProof_shape h4
    exact ⟨A0, n0, c0, A1, n1, c1, A2, n2, c2, A3, n3, c3, rfl, h0, h1, h2, h3, h4⟩
  · rintro ⟨A0, n0, c0, A1, n1, c1, A2, n2, c2, A3, n3, c3, rfl, h0, h1, h2, h3, h4⟩
    exact ⟨_, _, rfl, ⟨rfl, h0⟩, ⟨_, _, rfl, h1, ⟨_, _, rfl, h2, ⟨_, _, rfl, h3, h4⟩⟩⟩⟩
theorem RGap_shape {w : World} {P : Nat → Prop} {cs : List Value} {k : Gap} (h : RGap.rd w P cs k) : ∃ A0 n0 c0 A1 n1 c1 A2 n2 c2 A3 n3 c3, cs = [.int .i64 k.at_, .string k.before.label, .int .i64 k.before.kind, .int .i64 k.before.value, .slice A0 n0 c0, .string k.after.label, .int .i64 k.after.kind, .int .i64 k.after.value, .slice A1 n1 c1, .int .i64 k.left.at_, .slice A2 n2 c2, .int .i64 k.right.at_, .slice A3 n3 c3] := by
  obtain ⟨d0, e0, rfl, ⟨rfl, h0⟩, ⟨d1, e1, rfl, h1, ⟨d2, e2, rfl, h2, ⟨d3, e3, rfl, h3, h4⟩⟩⟩⟩ := h
  obtain ⟨A0, n0, c0, rfl⟩ := REntry_shape h1
  obtain ⟨A1, n1, c1, rfl⟩ := REntry_shape h2
  obtain ⟨A2, n2, c2, rfl⟩ := RProof_shape h3
  obtain ⟨A3, n3, c3, rfl⟩ := RProof_shape h4
  exact ⟨A0, n0, c0, A1, n1, c1, A2, n2, c2, A3, n3, c3, rfl⟩
theorem RGap_set {w : World} {F : List Nat} {cs : List Value} {k : Gap} : RGap.own w F cs k ↔ ∃ A0 n0 c0 A1 n1 c1 A2 n2 c2 A3 n3 c3 F1 F2 F3 F4, cs = [.int .i64 k.at_, .string k.before.label, .int .i64 k.before.kind, .int .i64 k.before.value, .slice A0 n0 c0, .string k.after.label, .int .i64 k.after.kind, .int .i64 k.after.value, .slice A1 n1 c1, .int .i64 k.left.at_, .slice A2 n2 c2, .int .i64 k.right.at_, .slice A3 n3 c3] ∧ F = F1 ++ (F2 ++ (F3 ++ (F4))) ∧ In .i64 k.at_ ∧ REntry.own w F1 [.string k.before.label, .int .i64 k.before.kind, .int .i64 k.before.value, .slice A0 n0 c0] k.before ∧ REntry.own w F2 [.string k.after.label, .int .i64 k.after.kind, .int .i64 k.after.value, .slice A1 n1 c1] k.after ∧ RProof.own w F3 [.int .i64 k.left.at_, .slice A2 n2 c2] k.left ∧ RProof.own w F4 [.int .i64 k.right.at_, .slice A3 n3 c3] k.right := by
  constructor
  · rintro ⟨F0, G0, d0, e0, rfl, rfl, ⟨rfl, rfl, h0⟩, ⟨F1, G1, d1, e1, rfl, rfl, h1, ⟨F2, G2, d2, e2, rfl, rfl, h2, ⟨F3, G3, d3, e3, rfl, rfl, h3, h4⟩⟩⟩⟩
    obtain ⟨A0, n0, c0, rfl⟩ := REntry_shape (REntry.ord h1)
    obtain ⟨A1, n1, c1, rfl⟩ := REntry_shape (REntry.ord h2)
    obtain ⟨A2, n2, c2, rfl⟩ := RProof_shape (RProof.ord h3)
    obtain ⟨A3, n3, c3, rfl⟩ := RProof_shape (RProof.ord h4)
    exact ⟨A0, n0, c0, A1, n1, c1, A2, n2, c2, A3, n3, c3, _, _, _, _, rfl, by simp, h0, h1, h2, h3, h4⟩
  · rintro ⟨A0, n0, c0, A1, n1, c1, A2, n2, c2, A3, n3, c3, F1, F2, F3, F4, rfl, rfl, h0, h1, h2, h3, h4⟩
    refine ⟨[], (F1 ++ (F2 ++ (F3 ++ (F4)))), _, _, ?_, rfl, ⟨rfl, rfl, h0⟩, ⟨F1, (F2 ++ (F3 ++ (F4))), _, _, ?_, rfl, h1, ⟨F2, (F3 ++ (F4)), _, _, ?_, rfl, h2, ⟨F3, (F4), _, _, ?_, rfl, h3, h4⟩⟩⟩⟩ <;> simp
def totGap (k : Gap) : Nat := totEntry k.before + totEntry k.after + totProof k.left + totProof k.right
def cntGap (k : Gap) : Nat := cntEntry k.before + cntEntry k.after + cntProof k.left + cntProof k.right
theorem cntGap_le (k : Gap) : cntGap k ≤ totGap k := by
  have h1 := cntEntry_le k.before
  have h2 := cntEntry_le k.after
  have h3 := cntProof_le k.left
  have h4 := cntProof_le k.right
  unfold cntGap totGap
  omega
theorem cells_Gap {l : List Value} (h : (Array.mk l).size = 13) : ∃ z0 z1 z2 z3 z4 z5 z6 z7 z8 z9 z10 z11 z12, l = [z0, z1, z2, z3, z4, z5, z6, z7, z8, z9, z10, z11, z12] := by
  match l, h with
  | [z0, z1, z2, z3, z4, z5, z6, z7, z8, z9, z10, z11, z12], _ => exact ⟨z0, z1, z2, z3, z4, z5, z6, z7, z8, z9, z10, z11, z12, rfl⟩
end Go.Proofs.YtbhhifoofapgiaaGreat.R12
