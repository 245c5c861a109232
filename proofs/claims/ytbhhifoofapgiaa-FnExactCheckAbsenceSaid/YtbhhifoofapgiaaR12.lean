/- A struct as data: Gap. -/
import Derived.Test.YtbhhifoofapgiaaM08
import Derived.Test.YtbhhifoofapgiaaR11
import Derived.Test.YtbhhifoofapgiaaRep
namespace Go.Proofs.Ytbhhifoofapgiaa.R12
open Go.RowKit Go.ChangeShapes Go.WideShapes Go.Deep Mem MemS Rep RepA Opn R08 R11
set_option linter.unusedVariables false
set_option maxRecDepth 100000
structure Gap where
  at_ : Int
  before : Entry
  after : Entry
  left : Proof
  right : Proof
deriving Inhabited
def RGap : Rep Gap := iso 31 (pair RI (pair REntry (pair REntry (pair RProof RProof)))) fun k => (k.at_, (k.before, (k.after, (k.left, k.right))))
theorem RGap_rd {w : World} {B : Nat} {cs : List Value} {k : Gap} : RGap.rd w (Lt B) cs k ↔ ∃ A0 n0 c0 A1 n1 c1 A2 n2 c2 A3 n3 c3, cs = [.int .i64 k.at_, .string k.before.label, .int .i64 k.before.kind, .int .i64 k.before.value, .slice A0 n0 c0, .string k.after.label, .int .i64 k.after.kind, .int .i64 k.after.value, .slice A1 n1 c1, .int .i64 k.left.at_, .slice A2 n2 c2, .int .i64 k.right.at_, .slice A3 n3 c3] ∧ In .i64 k.at_ ∧ REntry.rd w (Lt B) [.string k.before.label, .int .i64 k.before.kind, .int .i64 k.before.value, .slice A0 n0 c0] k.before ∧ REntry.rd w (Lt B) [.string k.after.label, .int .i64 k.after.kind, .int .i64 k.after.value, .slice A1 n1 c1] k.after ∧ RProof.rd w (Lt B) [.int .i64 k.left.at_, .slice A2 n2 c2] k.left ∧ RProof.rd w (Lt B) [.int .i64 k.right.at_, .slice A3 n3 c3] k.right := by
  constructor
  · rintro ⟨d0, e0, rfl, ⟨rfl, h0⟩, ⟨d1, e1, rfl, h1, ⟨d2, e2, rfl, h2, ⟨d3, e3, rfl, h3, h4⟩⟩⟩⟩
    obtain ⟨A0, n0, c0, rfl⟩ := REntry_shape h1
    obtain ⟨A1, n1, c1, rfl⟩ := REntry_shape h2
    obtain ⟨A2, n2, c2, rfl⟩ := RProof_shape h3
    obtain ⟨A3, n3, c3, rfl⟩ := RProof_shape h4
    exact ⟨A0, n0, c0, A1, n1, c1, A2, n2, c2, A3, n3, c3, rfl, h0, h1, h2, h3, h4⟩
  · rintro ⟨A0, n0, c0, A1, n1, c1, A2, n2, c2, A3, n3, c3, rfl, h0, h1, h2, h3, h4⟩
    exact ⟨_, _, rfl, ⟨rfl, h0⟩, ⟨_, _, rfl, h1, ⟨_, _, rfl, h2, ⟨_, _, rfl, h3, h4⟩⟩⟩⟩
theorem RGap_shape {w : World} {P : Nat → Prop} {cs : List Value} {k : Gap} (h : RGap.rd w P cs k) : ∃ A0 n0 c0 A1 n1 c1 A2 n2 c2 A3 n3 c3, cs = [.int .i64 k.at_, .string k.before.label, .int .i64 k.before.kind, .int .i64 k.before.value, .slice A0 n0 c0, .string k.after.label, .int .i64 k.after.kind, .int .i64 k.after.value, .slice A1 n1 c1, .int .i64 k.left.at_, .slice A2 n2 c2, .int .i64 k.right.at_, .slice A3 n3 c3] := by
  obtain ⟨d0, e0, rfl, ⟨rfl, h0⟩, ⟨d1, e1, rfl, h1, ⟨d2, e2, rfl, h2, ⟨d3, e3, rfl, h3, h4⟩⟩⟩⟩ := h
  obtain ⟨A0, n0, c0, rfl⟩ := REntry_shape h1
  obtain ⟨A1, n1, c1, rfl⟩ := REntry_shape h2
  obtain ⟨A2, n2, c2, rfl⟩ := RProof_shape h3
  obtain ⟨A3, n3, c3, rfl⟩ := RProof_shape h4
  exact ⟨A0, n0, c0, A1, n1, c1, A2, n2, c2, A3, n3, c3, rfl⟩
theorem RGap_set {w : World} {F : List Nat} {cs : List Value} {k : Gap} : RGap.own w F cs k ↔ ∃ A0 n0 c0 A1 n1 c1 A2 n2 c2 A3 n3 c3 F1 F2 F3 F4, cs = [.int .i64 k.at_, .string k.before.label, .int .i64 k.before.kind, .int .i64 k.before.value, .slice A0 n0 c0, .string k.after.label, .int .i64 k.after.kind, .int .i64 k.after.value, .slice A1 n1 c1, .int .i64 k.left.at_, .slice A2 n2 c2, .int .i64 k.right.at_, .slice A3 n3 c3] ∧ F = F1 ++ (F2 ++ (F3 ++ (F4))) ∧ In .i64 k.at_ ∧ REntry.own w F1 [.string k.before.label, .int .i64 k.before.kind, .int .i64 k.before.value, .slice A0 n0 c0] k.before ∧ REntry.own w F2 [.string k.after.label, .int .i64 k.after.kind, .int .i64 k.after.value, .slice A1 n1 c1] k.after ∧ RProof.own w F3 [.int .i64 k.left.at_, .slice A2 n2 c2] k.left ∧ RProof.own w F4 [.int .i64 k.right.at_, .slice A3 n3 c3] k.right := by
  constructor
  · rintro ⟨F0, G0, d0, e0, rfl, rfl, ⟨rfl, rfl, h0⟩, ⟨F1, G1, d1, e1, rfl, rfl, h1, ⟨F2, G2, d2, e2, rfl, rfl, h2, ⟨F3, G3, d3, e3, rfl, rfl, h3, h4⟩⟩⟩⟩
    obtain ⟨A0, n0, c0, rfl⟩ := REntry_shape (REntry.ord h1)
    obtain ⟨A1, n1, c1, rfl⟩ := REntry_shape (REntry.ord h2)
    obtain ⟨A2, n2, c2, rfl⟩ := RProof_shape (RProof.ord h3)
    obtain ⟨A3, n3, c3, rfl⟩ := RProof_shape (RProof.ord h4)
    exact ⟨A0, n0, c0, A1, n1, c1, A2, n2, c2, A3, n3, c3, _, _, _, _, rfl, by simp, h0, h1, h2, h3, h4⟩
  · rintro ⟨A0, n0, c0, A1, n1, c1, A2, n2, c2, A3, n3, c3, F1, F2, F3, F4, rfl, rfl, h0, h1, h2, h3, h4⟩
    refine ⟨[], (F1 ++ (F2 ++ (F3 ++ (F4)))), _, _, ?_, rfl, ⟨rfl, rfl, h0⟩, ⟨F1, (F2 ++ (F3 ++ (F4))), _, _, ?_, rfl, h1, ⟨F2, (F3 ++ (F4)), _, _, ?_, rfl, h2, ⟨F3, (F4), _, _, ?_, rfl, h3, h4⟩⟩⟩⟩ <;> simp
theorem opens_Gap : Opens RGap 44 := by
  intro H enc W base spare held fuel cs x h
  obtain ⟨xs, n, _, _, hlen, hxs, hf⟩ := DataW.trod_struct Try.underlying44 h
  have hl : cs.length = 13 := hlen.trans (by kernel_rfl)
  match cs, hl with
  | [c0_, c1_, c2_, c3_, c4_, c5_, c6_, c7_, c8_, c9_, c10_, c11_, c12_], _ =>
    have h0 : DataW.trod enc Try.prog W base spare held n 3 (List.take (Try.prog.cellsOf 3) (List.drop 0 [c0_, c1_, c2_, c3_, c4_, c5_, c6_, c7_, c8_, c9_, c10_, c11_, c12_])) = xs[0]? := hf 0 _ rfl
    have h1 : DataW.trod enc Try.prog W base spare held n 41 (List.take (Try.prog.cellsOf 41) (List.drop 1 [c0_, c1_, c2_, c3_, c4_, c5_, c6_, c7_, c8_, c9_, c10_, c11_, c12_])) = xs[1]? := hf 1 _ rfl
    have h2 : DataW.trod enc Try.prog W base spare held n 41 (List.take (Try.prog.cellsOf 41) (List.drop 5 [c0_, c1_, c2_, c3_, c4_, c5_, c6_, c7_, c8_, c9_, c10_, c11_, c12_])) = xs[2]? := hf 2 _ rfl
    have h3 : DataW.trod enc Try.prog W base spare held n 42 (List.take (Try.prog.cellsOf 42) (List.drop 9 [c0_, c1_, c2_, c3_, c4_, c5_, c6_, c7_, c8_, c9_, c10_, c11_, c12_])) = xs[3]? := hf 3 _ rfl
    have h4 : DataW.trod enc Try.prog W base spare held n 42 (List.take (Try.prog.cellsOf 42) (List.drop 11 [c0_, c1_, c2_, c3_, c4_, c5_, c6_, c7_, c8_, c9_, c10_, c11_, c12_])) = xs[4]? := hf 4 _ rfl
    rw [show Try.prog.cellsOf 3 = 1 by kernel_rfl] at h0
    rw [show Try.prog.cellsOf 41 = 4 by kernel_rfl] at h1
    rw [show Try.prog.cellsOf 41 = 4 by kernel_rfl] at h2
    rw [show Try.prog.cellsOf 42 = 2 by kernel_rfl] at h3
    rw [show Try.prog.cellsOf 42 = 2 by kernel_rfl] at h4
    simp only [List.drop_zero, List.drop_succ_cons, List.take_succ_cons, List.take_zero] at h0 h1 h2 h3 h4
    have hx : xs.length = 5 := hxs
    rw [List.getElem?_eq_getElem (show 0 < xs.length by omega)] at h0
    rw [List.getElem?_eq_getElem (show 1 < xs.length by omega)] at h1
    rw [List.getElem?_eq_getElem (show 2 < xs.length by omega)] at h2
    rw [List.getElem?_eq_getElem (show 3 < xs.length by omega)] at h3
    rw [List.getElem?_eq_getElem (show 4 < xs.length by omega)] at h4
    obtain ⟨a0, r0⟩ := opens_int Try.underlying3 _ _ _ _ _ _ _ _ _ h0
    obtain ⟨a1, r1⟩ := opens_Entry _ _ _ _ _ _ _ _ _ h1
    obtain ⟨a2, r2⟩ := opens_Entry _ _ _ _ _ _ _ _ _ h2
    obtain ⟨a3, r3⟩ := opens_Proof _ _ _ _ _ _ _ _ _ h3
    obtain ⟨a4, r4⟩ := opens_Proof _ _ _ _ _ _ _ _ _ h4
    exact ⟨⟨a0, a1, a2, a3, a4⟩, [c0_], [c1_, c2_, c3_, c4_, c5_, c6_, c7_, c8_, c9_, c10_, c11_, c12_], rfl, r0, [c1_, c2_, c3_, c4_], [c5_, c6_, c7_, c8_, c9_, c10_, c11_, c12_], rfl, r1, [c5_, c6_, c7_, c8_], [c9_, c10_, c11_, c12_], rfl, r2, [c9_, c10_], [c11_, c12_], rfl, r3, r4⟩
def totGap (k : Gap) : Nat := totEntry k.before + totEntry k.after + totProof k.left + totProof k.right
def cntGap (k : Gap) : Nat := cntEntry k.before + cntEntry k.after + cntProof k.left + cntProof k.right
theorem cntGap_le (k : Gap) : cntGap k ≤ totGap k := by
  have h1 := cntEntry_le k.before
  have h2 := cntEntry_le k.after
  have h3 := cntProof_le k.left
  have h4 := cntProof_le k.right
  unfold cntGap totGap
  omega
theorem cells_Gap {l : List Value} (h : (Array.mk l).size = 13) : ∃ z0 z1 z2 z3 z4 z5 z6 z7 z8 z9 z10 z11 z12, l = [z0, z1, z2, z3, z4, z5, z6, z7, z8, z9, z10, z11, z12] := by
  match l, h with
  | [z0, z1, z2, z3, z4, z5, z6, z7, z8, z9, z10, z11, z12], _ => exact ⟨z0, z1, z2, z3, z4, z5, z6, z7, z8, z9, z10, z11, z12, rfl⟩
end Go.Proofs.Ytbhhifoofapgiaa.R12
