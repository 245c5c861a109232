/- Chapter 11: the model's and the program's functions give the same. -/
import Derived.Test.YtomajneofdmnaaaC11S
import Derived.Test.YtomajneofdmnaaaC11I
namespace Go.Proofs.Ytomajneofdmnaaa.C11U
open Go.RowKit Mem MemS Rep RW R08 R11 Q08 M08 M10 M11 C11S C11I RKA
set_option linter.unusedVariables false
theorem both_ProveEntry (y0 : List Entry) (y1 : ByteArray) (hy0 : totR totEntry y0 ≤ 1048576) (hy1 : y1.size ≤ 1048576) : ∃ (r0 : Proof) (r1 : Bool), totProof r0 ≤ 1099511627776 ∧ (∀ (A0 : Option Addr) (n0 c0 : Nat) (w : World), n0 ≤ c0 → FRdEntry w w.heap.size A0 n0 y0 → Calls Try.prog 9 #[.slice A0 n0 c0, .string y1] w fun e w' => ∃ (g0 : List Value), e = .returned (.tuple #[.agg (List.toArray g0), .bool r1]) ∧ RProof.rd w' (Lt w'.heap.size) g0 r0 ∧ Below w.heap.size w w') ∧
    (∀ (A0 : Option Addr) (n0 c0 : Nat) (w : World), n0 ≤ c0 → FRdEntry w w.heap.size A0 n0 y0 → Calls Try.prog 11 #[.slice A0 n0 c0, .string y1] w fun e w' => ∃ (g0 : List Value), e = .returned (.tuple #[.agg (List.toArray g0), .bool r1]) ∧ OwnI RProof w' w.heap.size w'.heap.size g0 r0 ∧ Below w.heap.size w w') := by
  have hp : totProof (proveE y0 y1).1 ≤ 1048576 := by
    have h1 := totR_len totEntry y0
    have h2 := pathFor_len (leavesE y0) (M09.fndE y0 y1)
    rw [leavesE_len] at h2
    unfold proveE totProof
    split
    · simp
    · simp only
      omega
  exact ⟨(proveE y0 y1).1, (proveE y0 y1).2, by omega, fun A0 n0 c0 w hc h => (sProveEntry_any A0 n0 c0 y0 y1 w h hy0).mono fun e w' ⟨g, q1, q2, q3⟩ => ⟨g, q1, q2.rd, q3⟩, fun A0 n0 c0 w hc h => iProveEntry_any A0 n0 c0 y0 y1 w h hy0⟩
theorem both_CheckEntry (y0 : Int) (y1 : Int) (y2 : Entry) (y3 : Proof) (hy0 : -9223372036854775808 ≤ y0 ∧ y0 ≤ 9223372036854775807) (hy1 : -9223372036854775808 ≤ y1 ∧ y1 ≤ 9223372036854775807) (hy2 : totEntry y2 ≤ 1048576) (hy3 : totProof y3 ≤ 1048576) : ∃ (r0 : Bool), (∀ (u2 : List Value) (u3 : List Value) (w : World), REntry.rd w (Lt w.heap.size) u2 y2 → RProof.rd w (Lt w.heap.size) u3 y3 → Calls Try.prog 19 #[.int .i64 y0, .int .i64 y1, .agg u2.toArray, .agg u3.toArray] w fun e w' => e = .returned (.bool r0) ∧ Below w.heap.size w w') ∧
    (∀ (u2 : List Value) (u3 : List Value) (w : World), REntry.rd w (Lt w.heap.size) u2 y2 → RProof.rd w (Lt w.heap.size) u3 y3 → Calls Try.prog 22 #[.int .i64 y0, .int .i64 y1, .agg u2.toArray, .agg u3.toArray] w fun e w' => e = .returned (.bool r0) ∧ Below w.heap.size w w') := by
  exact ⟨_, fun u2 u3 w h2 h3 => sCheckEntry_any y0 y1 u2 y2 u3 y3 w (inI64 hy0.1 hy0.2) (inI64 hy1.1 hy1.2) h2 h3 hy2 hy3, fun u2 u3 w h2 h3 => iCheckEntry_any y0 y1 u2 y2 u3 y3 w (inI64 hy0.1 hy0.2) (inI64 hy1.1 hy1.2) h2 h3 hy2 hy3⟩
theorem both_CheckAll (y0 : Int) (y1 : List Entry) (hy0 : -9223372036854775808 ≤ y0 ∧ y0 ≤ 9223372036854775807) (hy1 : totR totEntry y1 ≤ 1048576) : ∃ (r0 : Bool), (∀ (A1 : Option Addr) (n1 c1 : Nat) (w : World), n1 ≤ c1 → FRdEntry w w.heap.size A1 n1 y1 → Calls Try.prog 24 #[.int .i64 y0, .slice A1 n1 c1] w fun e w' => e = .returned (.bool r0) ∧ Below w.heap.size w w') ∧
    (∀ (A1 : Option Addr) (n1 c1 : Nat) (w : World), n1 ≤ c1 → FRdEntry w w.heap.size A1 n1 y1 → Calls Try.prog 25 #[.int .i64 y0, .slice A1 n1 c1] w fun e w' => e = .returned (.bool r0) ∧ Below w.heap.size w w') := by
  exact ⟨_, fun A1 n1 c1 w hc h => sCheckAll_any y0 A1 n1 c1 y1 w h hy1, fun A1 n1 c1 w hc h => iCheckAll_any y0 A1 n1 c1 y1 w h hy1⟩
theorem both_SizeOfProof (y0 : Proof) (hy0 : totProof y0 ≤ 1048576) : ∃ (r0 : Int), (∀ (u0 : List Value) (w : World), RProof.rd w (Lt w.heap.size) u0 y0 → Calls Try.prog 26 #[.agg u0.toArray] w fun e w' => e = .returned (.int .i64 r0) ∧ Below w.heap.size w w') ∧
    (∀ (u0 : List Value) (w : World), RProof.rd w (Lt w.heap.size) u0 y0 → Calls Try.prog 27 #[.agg u0.toArray] w fun e w' => e = .returned (.int .i64 r0) ∧ Below w.heap.size w w') := by
  exact ⟨_, fun u0 w h => sSizeOfProof_any u0 y0 w h hy0, fun u0 w h => iSizeOfProof_any u0 y0 w h hy0⟩
theorem both_EqualProofs (y0 : Proof) (y1 : Proof) (hy0 : totProof y0 ≤ 1048576) (hy1 : totProof y1 ≤ 1048576) : ∃ (r0 : Bool), (∀ (u0 : List Value) (u1 : List Value) (w : World), RProof.rd w (Lt w.heap.size) u0 y0 → RProof.rd w (Lt w.heap.size) u1 y1 → Calls Try.prog 28 #[.agg u0.toArray, .agg u1.toArray] w fun e w' => e = .returned (.bool r0) ∧ Below w.heap.size w w') ∧
    (∀ (u0 : List Value) (u1 : List Value) (w : World), RProof.rd w (Lt w.heap.size) u0 y0 → RProof.rd w (Lt w.heap.size) u1 y1 → Calls Try.prog 29 #[.agg u0.toArray, .agg u1.toArray] w fun e w' => e = .returned (.bool r0) ∧ Below w.heap.size w w') := by
  exact ⟨_, fun u0 u1 w h h1 => sEqualProofs_any u0 u1 y0 y1 w h h1 hy0, fun u0 u1 w h h1 => iEqualProofs_any u0 u1 y0 y1 w h h1 hy0⟩
end Go.Proofs.Ytomajneofdmnaaa.C11U
