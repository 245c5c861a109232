/- Chapter 13: the model's and the program's functions give the same. -/
import Derived.Test.YtkkkaaboeddkoaaC13S
import Derived.Test.YtkkkaaboeddkoaaC13I
namespace Go.Proofs.Ytkkkaaboeddkoaa.C13U
open Go.RowKit Mem MemS Rep R06 R13 M06 M13 C13S RKA
open C13I hiding upK upH head_parts
set_option linter.unusedVariables false
theorem both_IsHead (y0 : Head) (hy0 : totHead y0 ≤ 1048576) : ∃ (r0 : Bool), (∀ (u0 : List Value) (w : World), RHead.rd w (Lt w.heap.size) u0 y0 → Calls Try.prog 15 #[.agg u0.toArray] w fun e w' => e = .returned (.bool r0) ∧ Below w.heap.size w w') ∧
    (∀ (u0 : List Value) (w : World), RHead.rd w (Lt w.heap.size) u0 y0 → Calls Try.prog 14 #[.agg u0.toArray] w fun e w' => e = .returned (.bool r0) ∧ Below w.heap.size w w') := by
  exact ⟨_, fun u0 w h => sIsHead_any u0 y0 w h hy0, fun u0 w h => iIsHead_any u0 y0 w h hy0⟩
theorem both_NoKeys (y0 : Keys) (hy0 : totKeys y0 ≤ 1048576) : ∃ (r0 : Bool), (∀ (u0 : List Value) (w : World), RKeys.rd w (Lt w.heap.size) u0 y0 → Calls Try.prog 29 #[.agg u0.toArray] w fun e w' => e = .returned (.bool r0) ∧ Below w.heap.size w w') ∧
    (∀ (u0 : List Value) (w : World), RKeys.rd w (Lt w.heap.size) u0 y0 → Calls Try.prog 21 #[.agg u0.toArray] w fun e w' => e = .returned (.bool r0) ∧ Below w.heap.size w w') := by
  exact ⟨_, fun u0 w h => sNoKeys_any u0 y0 w h, fun u0 w h => iNoKeys_any u0 y0 w h⟩
theorem both_HeadInts (y0 : Head) (hy0 : totHead y0 ≤ 1048576) : ∃ (r0 : List Int), r0.length ≤ 1099511627776 ∧ (∀ (u0 : List Value) (w : World), RHead.rd w (Lt w.heap.size) u0 y0 → Calls Try.prog 24 #[.agg u0.toArray] w fun e w' => ∃ (B0 : Option Addr) (d0 : Nat), e = .returned (.slice B0 r0.length d0) ∧ Mem.Own .i64 w' w.heap.size w'.heap.size B0 r0.length d0 r0 ∧ Below w.heap.size w w') ∧
    (∀ (u0 : List Value) (w : World), RHead.rd w (Lt w.heap.size) u0 y0 → Calls Try.prog 23 #[.agg u0.toArray] w fun e w' => ∃ (B0 : Option Addr) (d0 : Nat), e = .returned (.slice B0 r0.length d0) ∧ Mem.Own .i64 w' w.heap.size w'.heap.size B0 r0.length d0 r0 ∧ Below w.heap.size w w') := by
  have hl := headInts_len y0
  have hl2 : (headInts y0).length ≤ 1099511627776 := by unfold totHead totKeys at hy0; omega
  exact ⟨headInts y0, hl2, fun u0 w h => sHeadInts_any u0 y0 w h hy0, fun u0 w h => iHeadInts_any u0 y0 w h hy0⟩
theorem both_HeadDigest (y0 : Head) (hy0 : totHead y0 ≤ 1048576) : ∃ (r0 : Int), (∀ (u0 : List Value) (w : World), RHead.rd w (Lt w.heap.size) u0 y0 → Calls Try.prog 19 #[.agg u0.toArray] w fun e w' => e = .returned (.int .i64 r0) ∧ Below w.heap.size w w') ∧
    (∀ (u0 : List Value) (w : World), RHead.rd w (Lt w.heap.size) u0 y0 → Calls Try.prog 18 #[.agg u0.toArray] w fun e w' => e = .returned (.int .i64 r0) ∧ Below w.heap.size w w') := by
  exact ⟨_, fun u0 w h => sHeadDigest_any u0 y0 w h hy0, fun u0 w h => iHeadDigest_any u0 y0 w h hy0⟩
theorem both_IsFresh (y0 : Head) (y1 : Int) (hy0 : totHead y0 ≤ 1048576) (hy1 : -9223372036854775808 ≤ y1 ∧ y1 ≤ 9223372036854775807) : ∃ (r0 : Bool), (∀ (u0 : List Value) (w : World), RHead.rd w (Lt w.heap.size) u0 y0 → Calls Try.prog 36 #[.agg u0.toArray, .int .i64 y1] w fun e w' => e = .returned (.bool r0) ∧ Below w.heap.size w w') ∧
    (∀ (u0 : List Value) (w : World), RHead.rd w (Lt w.heap.size) u0 y0 → Calls Try.prog 20 #[.agg u0.toArray, .int .i64 y1] w fun e w' => e = .returned (.bool r0) ∧ Below w.heap.size w w') := by
  exact ⟨_, fun u0 w h => sIsFresh_any u0 y0 y1 w h, fun u0 w h => iIsFresh_any u0 y0 y1 w h⟩
theorem both_EqualHeads (y0 : Head) (y1 : Head) (hy0 : totHead y0 ≤ 1048576) (hy1 : totHead y1 ≤ 1048576) : ∃ (r0 : Bool), (∀ (u0 : List Value) (u1 : List Value) (w : World), RHead.rd w (Lt w.heap.size) u0 y0 → RHead.rd w (Lt w.heap.size) u1 y1 → Calls Try.prog 17 #[.agg u0.toArray, .agg u1.toArray] w fun e w' => e = .returned (.bool r0) ∧ Below w.heap.size w w') ∧
    (∀ (u0 : List Value) (u1 : List Value) (w : World), RHead.rd w (Lt w.heap.size) u0 y0 → RHead.rd w (Lt w.heap.size) u1 y1 → Calls Try.prog 16 #[.agg u0.toArray, .agg u1.toArray] w fun e w' => e = .returned (.bool r0) ∧ Below w.heap.size w w') := by
  exact ⟨_, fun u0 u1 w h h1 => sEqualHeads_any u0 u1 y0 y1 w h h1 hy0 hy1, fun u0 u1 w h h1 => iEqualHeads_any u0 u1 y0 y1 w h h1 hy0 hy1⟩
end Go.Proofs.Ytkkkaaboeddkoaa.C13U
