/- A struct as data: Proof. -/
import Derived.Test.YtbhhifoofapgiaaGreatRep
namespace Go.Proofs.YtbhhifoofapgiaaGreat.R11
open Go.RowKit Go.ChangeShapes Go.WideShapes Go.Deep Mem MemS Rep RepA Opn 
set_option linter.unusedVariables false
set_option maxRecDepth 100000
structure Proof where
  at_ : Int
  path : List Int
deriving Inhabited
def RProof : Rep Proof := iso 32 (pair RI (slice 30 RI)) fun k => (k.at_, k.path)
theorem RProof_rd {w : World} {B : Nat} {cs : List Value} {k : Proof} : RProof.rd w (Lt B) cs k ↔ ∃ A0 n0 c0, cs = [.int .i64 k.at_, .slice A0 n0 c0] ∧ In .i64 k.at_ ∧ n0 ≤ c0 ∧ c0 ≤ maxLen ∧ Rd .i64 w B A0 n0 k.path := by
  constructor
  · rintro ⟨d0, e0, rfl, ⟨rfl, h0⟩, ⟨A0, n0, c0, rfl, x1, y1, h1⟩⟩
    exact ⟨A0, n0, c0, rfl, h0, x1, y1, h1.ints⟩
  · rintro ⟨A0, n0, c0, rfl, h0, x1, y1, h1⟩
    exact ⟨_, _, rfl, ⟨rfl, h0⟩, ⟨A0, n0, c0, rfl, x1, y1, Rds.of_ints h1⟩⟩
theorem RProof_shape {w : World} {P : Nat → Prop} {cs : List Value} {k : Proof} (h : RProof.rd w P cs k) : ∃ A0 n0 c0, cs = [.int .i64 k.at_, .slice A0 n0 c0] := by
  obtain ⟨d0, e0, rfl, ⟨rfl, h0⟩, ⟨A0, n0, c0, rfl, x1, y1, h1⟩⟩ := h
  exact ⟨A0, n0, c0, rfl⟩
theorem RProof_set {w : World} {F : List Nat} {cs : List Value} {k : Proof} : RProof.own w F cs k ↔ ∃ A0 n0 c0 F1, cs = [.int .i64 k.at_, .slice A0 n0 c0] ∧ F = F1 ∧ In .i64 k.at_ ∧ OwnF RI w F1 A0 n0 c0 k.path := by
  constructor
  · rintro ⟨F0, G0, d0, e0, rfl, rfl, ⟨rfl, rfl, h0⟩, ⟨A0, n0, c0, rfl, h1⟩⟩
    exact ⟨A0, n0, c0, _, rfl, by simp, h0, h1⟩
  · rintro ⟨A0, n0, c0, F1, rfl, rfl, h0, h1⟩
    refine ⟨[], (F), _, _, ?_, rfl, ⟨rfl, rfl, h0⟩, ⟨A0, n0, c0, rfl, h1⟩⟩ <;> simp
theorem RProof_own {w : World} {lo hi : Nat} {cs : List Value} {k : Proof} : OwnI RProof w lo hi cs k ↔ ∃ A0 n0 c0, cs = [.int .i64 k.at_, .slice A0 n0 c0] ∧ In .i64 k.at_ ∧ Mem.Own .i64 w lo hi A0 n0 c0 k.path := by
  constructor
  · rintro ⟨F, h, hn, hF⟩
    obtain ⟨A0, n0, c0, F1, rfl, rfl, h0, h1⟩ := RProof_set.1 h
    exact ⟨A0, n0, c0, rfl, h0, h1.ints hF⟩
  · rintro ⟨A0, n0, c0, rfl, h0, h1⟩
    exact ⟨blk A0, RProof_set.2 ⟨A0, n0, c0, blk A0, rfl, rfl, h0, OwnF.of_ints h1⟩, by cases A0 <;> simp [blk], Own.blk_in h1⟩
def totProof (k : Proof) : Nat := k.path.length
def cntProof (k : Proof) : Nat := k.path.length
theorem cntProof_le (k : Proof) : cntProof k ≤ totProof k := by
  unfold cntProof totProof
  omega
theorem cells_Proof {l : List Value} (h : (Array.mk l).size = 2) : ∃ z0 z1, l = [z0, z1] := by
  match l, h with
  | [z0, z1], _ => exact ⟨z0, z1, rfl⟩
end Go.Proofs.YtbhhifoofapgiaaGreat.R11
