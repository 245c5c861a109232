/- Chapter 14: the model's and the program's functions give the same. -/
import Derived.Test.YthhmhcmlbpdlbaaC14S
import Derived.Test.YthhmhcmlbpdlbaaC14E
import Derived.Test.YthhmhcmlbpdlbaaC14I
namespace Go.Proofs.Ythhmhcmlbpdlbaa.C14U
open Go.RowKit Mem MemS Rep Flat R06 R07 R13 R14 M06 M07 M13 M14 C13S C14S C14E C14I RKA
set_option linter.unusedVariables false
theorem both_ZoneOf (y0 : Keys) (y1 : Int) (hy0 : totKeys y0 ≤ 1048576) (hy1 : -9223372036854775808 ≤ y1 ∧ y1 ≤ 9223372036854775807) : ∃ (r0 : Int), (∀ (u0 : List Value) (w : World), RKeys.rd w (Lt w.heap.size) u0 y0 → Calls Try.prog 9 #[.agg u0.toArray, .int .i64 y1] w fun e w' => e = .returned (.int .i64 r0) ∧ Below w.heap.size w w') ∧
    (∀ (u0 : List Value) (w : World), RKeys.rd w (Lt w.heap.size) u0 y0 → Calls Try.prog 11 #[.agg u0.toArray, .int .i64 y1] w fun e w' => e = .returned (.int .i64 r0) ∧ Below w.heap.size w w') := by
  exact ⟨_, fun u0 w h => sZoneOf_any u0 y0 y1 w h (inI64 hy1.1 hy1.2) (by unfold totKeys at hy0; omega), fun u0 w h => iZoneOf_any u0 y0 y1 w h (inI64 hy1.1 hy1.2) (by unfold totKeys at hy0; omega)⟩
theorem both_SignHead (y0 : List Int) (y1 : Keys) (y2 : Head) (hy0 : y0.length ≤ 1048576) (hy1 : totKeys y1 ≤ 1048576) (hy2 : totHead y2 ≤ 1048576) : ∃ (r0 : Signed), totSigned r0 ≤ 34359738368 ∧ (∀ (A0 : Option Addr) (n0 c0 : Nat) (u1 : List Value) (u2 : List Value) (w : World), n0 ≤ c0 → Rd .i64 w w.heap.size A0 n0 y0 → RKeys.rd w (Lt w.heap.size) u1 y1 → RHead.rd w (Lt w.heap.size) u2 y2 → Calls Try.prog 14 #[.slice A0 n0 c0, .agg u1.toArray, .agg u2.toArray] w fun e w' => ∃ (g0 : List Value), e = .returned (.agg (List.toArray g0)) ∧ OwnI RSigned w' w.heap.size w'.heap.size g0 r0 ∧ Below w.heap.size w w') ∧
    (∀ (A0 : Option Addr) (n0 c0 : Nat) (u1 : List Value) (u2 : List Value) (w : World), n0 ≤ c0 → Rd .i64 w w.heap.size A0 n0 y0 → RKeys.rd w (Lt w.heap.size) u1 y1 → RHead.rd w (Lt w.heap.size) u2 y2 → Calls Try.prog 17 #[.slice A0 n0 c0, .agg u1.toArray, .agg u2.toArray] w fun e w' => ∃ (g0 : List Value), e = .returned (.agg (List.toArray g0)) ∧ OwnI RSigned w' w.heap.size w'.heap.size g0 r0 ∧ Below w.heap.size w w') := by
  have hb : totSigned (signHd y0 y1 y2) ≤ 34359738368 := by
    have := signBy_le y0 y1.list (headInts y2)
    unfold totSigned signHd
    unfold totKeys at hy1
    simp only
    omega
  exact ⟨signHd y0 y1 y2, hb, fun A0 n0 c0 u1 u2 w hc h h1 h2 => (sSignHead_any A0 n0 c0 y0 u1 y1 u2 y2 w h h1 h2 hy2 hy1 (by have := h.len; omega)), fun A0 n0 c0 u1 u2 w hc h h1 h2 => iSignHead_any A0 n0 c0 y0 u1 y1 u2 y2 w h h1 h2 hy2 hy1 (by have := h.len; omega)⟩
theorem both_IsFirst (y0 : Signed) (hy0 : totSigned y0 ≤ 1048576) : ∃ (r0 : Bool), (∀ (u0 : List Value) (w : World), RSigned.rd w (Lt w.heap.size) u0 y0 → Calls Try.prog 27 #[.agg u0.toArray] w fun e w' => e = .returned (.bool r0) ∧ Below w.heap.size w w') ∧
    (∀ (u0 : List Value) (w : World), RSigned.rd w (Lt w.heap.size) u0 y0 → Calls Try.prog 29 #[.agg u0.toArray] w fun e w' => e = .returned (.bool r0) ∧ Below w.heap.size w w') := by
  exact ⟨_, fun u0 w h => sIsFirst_any u0 y0 w h hy0, fun u0 w h => iIsFirst_any u0 y0 w h hy0⟩
theorem both_CountSignedSigs (y0 : Signed) (y1 : Keys) (hy0 : totSigned y0 ≤ 1048576) (hy1 : totKeys y1 ≤ 1048576) : ∃ (r0 : Int), (∀ (u0 : List Value) (u1 : List Value) (w : World), RSigned.rd w (Lt w.heap.size) u0 y0 → RKeys.rd w (Lt w.heap.size) u1 y1 → Calls Try.prog 30 #[.agg u0.toArray, .agg u1.toArray] w fun e w' => e = .returned (.int .i64 r0) ∧ Below w.heap.size w w') ∧
    (∀ (u0 : List Value) (u1 : List Value) (w : World), RSigned.rd w (Lt w.heap.size) u0 y0 → RKeys.rd w (Lt w.heap.size) u1 y1 → Calls Try.prog 31 #[.agg u0.toArray, .agg u1.toArray] w fun e w' => e = .returned (.int .i64 r0) ∧ Below w.heap.size w w') := by
  exact ⟨_, fun u0 u1 w h h1 => sCountSignedSigs_any u0 u1 y0 y1 w h h1 hy0 hy1, fun u0 u1 w h h1 => iCountSignedSigs_any u0 u1 y0 y1 w h h1 hy0 hy1⟩
theorem both_EqualSigned (y0 : Signed) (y1 : Signed) (hy0 : totSigned y0 ≤ 1048576) (hy1 : totSigned y1 ≤ 1048576) : ∃ (r0 : Bool), (∀ (u0 : List Value) (u1 : List Value) (w : World), RSigned.rd w (Lt w.heap.size) u0 y0 → RSigned.rd w (Lt w.heap.size) u1 y1 → Calls Try.prog 32 #[.agg u0.toArray, .agg u1.toArray] w fun e w' => e = .returned (.bool r0) ∧ Below w.heap.size w w') ∧
    (∀ (u0 : List Value) (u1 : List Value) (w : World), RSigned.rd w (Lt w.heap.size) u0 y0 → RSigned.rd w (Lt w.heap.size) u1 y1 → Calls Try.prog 33 #[.agg u0.toArray, .agg u1.toArray] w fun e w' => e = .returned (.bool r0) ∧ Below w.heap.size w w') := by
  exact ⟨_, fun u0 u1 w h h1 => sEqualSigned_any u0 u1 y0 y1 w h h1 hy0 hy1, fun u0 u1 w h h1 => iEqualSigned_any u0 u1 y0 y1 w h h1 hy0 hy1⟩
end Go.Proofs.Ythhmhcmlbpdlbaa.C14U
