/- Chapter 12: the model's and the program's functions give the same. -/
import Derived.Test.YtbhhifoofapgiaaC12SP
import Derived.Test.YtbhhifoofapgiaaC12IP
namespace Go.Proofs.Ytbhhifoofapgiaa.C12U
open Go.RowKit Mem MemS Rep RW R08 R11 R12 Q08 M08 M09 M10 M11 M12P M12 C12S C12SP C12I C12IP RKA
set_option linter.unusedVariables false
theorem totProve (l : List Entry) (s : ByteArray) (h : totR totEntry l ≤ 1048576) : totProof (proveE l s).1 ≤ 1048576 := by
  have h1 := totR_len totEntry l
  have h2 := pathFor_len (leavesE l) (M09.fndE l s)
  rw [leavesE_len] at h2
  unfold proveE totProof
  split
  · simp
  · simp only
    omega
theorem totA (l : List Entry) (s : ByteArray) (h : totR totEntry l ≤ 1048576) : totGap (proveA l s).1 ≤ 4194304 := by
  have hz : totGap zeroG ≤ 4194304 := by decide
  have hr := rank_le l s
  unfold proveA
  split
  · simp only
    unfold gapAt totGap
    simp only
    have h1 : totEntry (befE l (rankN l s)) ≤ 1048576 := by
      unfold befE
      split
      · exact Nat.le_trans (totR_mem totEntry (by omega)) h
      · decide
    have h2 : totEntry (aftE l (rankN l s)) ≤ 1048576 := by
      unfold aftE
      split
      · exact Nat.le_trans (totR_mem totEntry (by omega)) h
      · decide
    have h3 : totProof (lefP l (rankN l s)) ≤ 1048576 := by
      unfold lefP
      split
      · exact totProve l _ h
      · decide
    have h4 : totProof (rigP l (rankN l s)) ≤ 1048576 := by
      unfold rigP
      split
      · exact totProve l _ h
      · decide
    omega
  · exact hz
theorem both_ProveAbsence (y0 : List Entry) (y1 : ByteArray) (hy0 : totR totEntry y0 ≤ 1048576) (hy1 : y1.size ≤ 1048576) : ∃ (r0 : Gap) (r1 : Bool), totGap r0 ≤ 1099511627776 ∧ (∀ (A0 : Option Addr) (n0 c0 : Nat) (w : World), n0 ≤ c0 → FRdEntry w w.heap.size A0 n0 y0 → Calls Try.prog 8 #[.slice A0 n0 c0, .string y1] w fun e w' => ∃ (g0 : List Value), e = .returned (.tuple #[.agg (List.toArray g0), .bool r1]) ∧ RGap.rd w' (Lt w'.heap.size) g0 r0 ∧ Below w.heap.size w w') ∧
    (∀ (A0 : Option Addr) (n0 c0 : Nat) (w : World), n0 ≤ c0 → FRdEntry w w.heap.size A0 n0 y0 → Calls Try.prog 10 #[.slice A0 n0 c0, .string y1] w fun e w' => ∃ (g0 : List Value), e = .returned (.tuple #[.agg (List.toArray g0), .bool r1]) ∧ OwnI RGap w' w.heap.size w'.heap.size g0 r0 ∧ Below w.heap.size w w') := by
  have hp := totA y0 y1 hy0
  exact ⟨(proveA y0 y1).1, (proveA y0 y1).2, by omega, fun A0 n0 c0 w hc h => (sProveAbsence_any A0 n0 c0 y0 y1 w h hy0 (by omega)).mono fun e w' ⟨g, q1, q2, q3⟩ => ⟨g, q1, q2.rd, q3⟩, fun A0 n0 c0 w hc h => iProveAbsence_any A0 n0 c0 y0 y1 w h hy0 (by omega)⟩
theorem both_CheckAbsence (y0 : Int) (y1 : Int) (y2 : ByteArray) (y3 : Gap) (hy0 : -9223372036854775808 ≤ y0 ∧ y0 ≤ 9223372036854775807) (hy1 : -9223372036854775808 ≤ y1 ∧ y1 ≤ 9223372036854775807) (hy2 : y2.size ≤ 1048576) (hy3 : totGap y3 ≤ 1048576) : ∃ (r0 : Bool), (∀ (u3 : List Value) (w : World), RGap.rd w (Lt w.heap.size) u3 y3 → Calls Try.prog 17 #[.int .i64 y0, .int .i64 y1, .string y2, .agg u3.toArray] w fun e w' => e = .returned (.bool r0) ∧ Below w.heap.size w w') ∧
    (∀ (u3 : List Value) (w : World), RGap.rd w (Lt w.heap.size) u3 y3 → Calls Try.prog 19 #[.int .i64 y0, .int .i64 y1, .string y2, .agg u3.toArray] w fun e w' => e = .returned (.bool r0) ∧ Below w.heap.size w w') := by
  exact ⟨_, fun u3 w h3 => sCheckAbsence_any y0 y1 y2 u3 y3 w (inI64 hy0.1 hy0.2) (inI64 hy1.1 hy1.2) (by omega) h3 hy3, fun u3 w h3 => iCheckAbsence_any y0 y1 y2 u3 y3 w (inI64 hy0.1 hy0.2) (inI64 hy1.1 hy1.2) (by omega) h3 hy3⟩
theorem both_RankOf (y0 : List Entry) (y1 : ByteArray) (hy0 : totR totEntry y0 ≤ 1048576) (hy1 : y1.size ≤ 1048576) : ∃ (r0 : Int), (∀ (A0 : Option Addr) (n0 c0 : Nat) (w : World), n0 ≤ c0 → FRdEntry w w.heap.size A0 n0 y0 → Calls Try.prog 20 #[.slice A0 n0 c0, .string y1] w fun e w' => e = .returned (.int .i64 r0) ∧ Below w.heap.size w w') ∧
    (∀ (A0 : Option Addr) (n0 c0 : Nat) (w : World), n0 ≤ c0 → FRdEntry w w.heap.size A0 n0 y0 → Calls Try.prog 21 #[.slice A0 n0 c0, .string y1] w fun e w' => e = .returned (.int .i64 r0) ∧ Below w.heap.size w w') := by
  have hn : y0.length ≤ 1048576 := by have := totR_len totEntry y0; omega
  exact ⟨_, fun A0 n0 c0 w hc h => (sRankOf_any A0 n0 c0 y0 y1 w h (by have := h.len; omega)).mono fun e w' ⟨g1, g2⟩ => ⟨g1, by subst g2; exact Below.refl _ _⟩, fun A0 n0 c0 w hc h => iRankOf_any A0 n0 c0 y0 y1 w h (by have := h.len; omega)⟩
theorem both_EqualGaps (y0 : Gap) (y1 : Gap) (hy0 : totGap y0 ≤ 1048576) (hy1 : totGap y1 ≤ 1048576) : ∃ (r0 : Bool), (∀ (u0 : List Value) (u1 : List Value) (w : World), RGap.rd w (Lt w.heap.size) u0 y0 → RGap.rd w (Lt w.heap.size) u1 y1 → Calls Try.prog 22 #[.agg u0.toArray, .agg u1.toArray] w fun e w' => e = .returned (.bool r0) ∧ Below w.heap.size w w') ∧
    (∀ (u0 : List Value) (u1 : List Value) (w : World), RGap.rd w (Lt w.heap.size) u0 y0 → RGap.rd w (Lt w.heap.size) u1 y1 → Calls Try.prog 23 #[.agg u0.toArray, .agg u1.toArray] w fun e w' => e = .returned (.bool r0) ∧ Below w.heap.size w w') := by
  exact ⟨_, fun u0 u1 w h h1 => sEqualGaps_any u0 u1 y0 y1 w h h1 hy0 hy1, fun u0 u1 w h h1 => iEqualGaps_any u0 u1 y0 y1 w h h1 hy0 hy1⟩
end Go.Proofs.Ytbhhifoofapgiaa.C12U
