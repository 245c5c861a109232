/- Chapter 6: the model's and the program's functions give the same. -/
import Derived.Test.YthfngiajicbdhaaC06S
import Derived.Test.YthfngiajicbdhaaC06I
namespace Go.Proofs.Ythfngiajicbdhaa.C06U
open Go.RowKit Mem MemS Rep R06 M06 C06S C06I
set_option linter.unusedVariables false
theorem both_IsKeys (y0 : Keys) (hy0 : totKeys y0 ≤ 1048576) : ∃ (r0 : Bool), (∀ (u0 : List Value) (w : World), RKeys.rd w (Lt w.heap.size) u0 y0 → Calls Try.prog 19 #[.agg u0.toArray] w fun e w' => e = .returned (.bool r0) ∧ Below w.heap.size w w') ∧
    (∀ (u0 : List Value) (w : World), RKeys.rd w (Lt w.heap.size) u0 y0 → Calls Try.prog 22 #[.agg u0.toArray] w fun e w' => e = .returned (.bool r0) ∧ Below w.heap.size w w') := by
  exact ⟨_, fun u0 w h => sIsKeys_any u0 y0 w h (by unfold totKeys at hy0; omega), fun u0 w h => iIsKeys_any u0 y0 w h (by unfold totKeys at hy0; omega)⟩
theorem both_KeysInts (y0 : Keys) (hy0 : totKeys y0 ≤ 1048576) : ∃ (r0 : List Int), r0.length ≤ 1099511627776 ∧ (∀ (u0 : List Value) (w : World), RKeys.rd w (Lt w.heap.size) u0 y0 → Calls Try.prog 26 #[.agg u0.toArray] w fun e w' => ∃ (B0 : Option Addr) (d0 : Nat), e = .returned (.slice B0 r0.length d0) ∧ Own .i64 w' w.heap.size w'.heap.size B0 r0.length d0 r0 ∧ Below w.heap.size w w') ∧
    (∀ (u0 : List Value) (w : World), RKeys.rd w (Lt w.heap.size) u0 y0 → Calls Try.prog 25 #[.agg u0.toArray] w fun e w' => ∃ (B0 : Option Addr) (d0 : Nat), e = .returned (.slice B0 r0.length d0) ∧ Own .i64 w' w.heap.size w'.heap.size B0 r0.length d0 r0 ∧ Below w.heap.size w w') := by
  refine ⟨keysInts y0, by unfold totKeys at hy0; simp [keysInts]; omega, fun u0 w h => ?_, fun u0 w h => ?_⟩
  · have e : (keysInts y0).length = y0.list.length + 2 := by simp [keysInts]
    rw [e]
    exact sKeysInts_any u0 y0 w h (by unfold totKeys at hy0; omega)
  · have e : (keysInts y0).length = y0.list.length + 2 := by simp [keysInts]
    rw [e]
    exact iKeysInts_any u0 y0 w h (by unfold totKeys at hy0; omega)
theorem both_KeysDigest (y0 : Keys) (hy0 : totKeys y0 ≤ 1048576) : ∃ (r0 : Int), (∀ (u0 : List Value) (w : World), RKeys.rd w (Lt w.heap.size) u0 y0 → Calls Try.prog 35 #[.agg u0.toArray] w fun e w' => e = .returned (.int .i64 r0) ∧ Below w.heap.size w w') ∧
    (∀ (u0 : List Value) (w : World), RKeys.rd w (Lt w.heap.size) u0 y0 → Calls Try.prog 20 #[.agg u0.toArray] w fun e w' => e = .returned (.int .i64 r0) ∧ Below w.heap.size w w') := by
  exact ⟨_, fun u0 w h => sKeysDigest_any u0 y0 w h (by unfold totKeys at hy0; omega), fun u0 w h => iKeysDigest_any u0 y0 w h (by unfold totKeys at hy0; omega)⟩
theorem both_HasKey (y0 : Keys) (y1 : Int) (hy0 : totKeys y0 ≤ 1048576) (hy1 : -9223372036854775808 ≤ y1 ∧ y1 ≤ 9223372036854775807) : ∃ (r0 : Bool), (∀ (u0 : List Value) (w : World), RKeys.rd w (Lt w.heap.size) u0 y0 → Calls Try.prog 36 #[.agg u0.toArray, .int .i64 y1] w fun e w' => e = .returned (.bool r0) ∧ Below w.heap.size w w') ∧
    (∀ (u0 : List Value) (w : World), RKeys.rd w (Lt w.heap.size) u0 y0 → Calls Try.prog 23 #[.agg u0.toArray, .int .i64 y1] w fun e w' => e = .returned (.bool r0) ∧ Below w.heap.size w w') := by
  exact ⟨_, fun u0 w h => sHasKey_any u0 y0 y1 w h (by unfold totKeys at hy0; omega), fun u0 w h => iHasKey_any u0 y0 y1 w h (by unfold totKeys at hy0; omega)⟩
theorem both_CanSign (y0 : Keys) (y1 : List Int) (hy0 : totKeys y0 ≤ 1048576) (hy1 : y1.length ≤ 1048576) : ∃ (r0 : Bool), (∀ (u0 : List Value) (A1 : Option Addr) (n1 c1 : Nat) (w : World), RKeys.rd w (Lt w.heap.size) u0 y0 → n1 ≤ c1 → Rd .i64 w w.heap.size A1 n1 y1 → Calls Try.prog 37 #[.agg u0.toArray, .slice A1 n1 c1] w fun e w' => e = .returned (.bool r0) ∧ Below w.heap.size w w') ∧
    (∀ (u0 : List Value) (A1 : Option Addr) (n1 c1 : Nat) (w : World), RKeys.rd w (Lt w.heap.size) u0 y0 → n1 ≤ c1 → Rd .i64 w w.heap.size A1 n1 y1 → Calls Try.prog 21 #[.agg u0.toArray, .slice A1 n1 c1] w fun e w' => e = .returned (.bool r0) ∧ Below w.heap.size w w') := by
  exact ⟨_, fun u0 A1 n1 c1 w h hc h1 => sCanSign_any u0 y0 A1 n1 c1 y1 w h h1 (by unfold totKeys at hy0; omega) (by have := h1.len; omega), fun u0 A1 n1 c1 w h hc h1 => iCanSign_any u0 y0 A1 n1 c1 y1 w h h1 (by unfold totKeys at hy0; omega) (by have := h1.len; omega)⟩
theorem both_OneKey (y0 : Int) (hy0 : -9223372036854775808 ≤ y0 ∧ y0 ≤ 9223372036854775807) : ∃ (r0 : Keys), totKeys r0 ≤ 1099511627776 ∧ (∀  (w : World),  Calls Try.prog 39 #[.int .i64 y0] w fun e w' => ∃ (g0 : List Value), e = .returned (.agg (List.toArray g0)) ∧ RKeys.rd w' (Lt w'.heap.size) g0 r0 ∧ Below w.heap.size w w') ∧
    (∀  (w : World),  Calls Try.prog 27 #[.int .i64 y0] w fun e w' => ∃ (g0 : List Value), e = .returned (.agg (List.toArray g0)) ∧ OwnI RKeys w' w.heap.size w'.heap.size g0 r0 ∧ Below w.heap.size w w') := by
  refine ⟨oneKey y0, by simp [totKeys, oneKey], fun w => (sOneKey_any y0 w (inI64 hy0.1 hy0.2)).mono fun e w' q => ?_, fun w => iOneKey_any y0 w (inI64 hy0.1 hy0.2)⟩
  obtain ⟨cs, h1, h2, h3⟩ := q
  exact ⟨cs, h1, h2.rd, h3⟩
theorem both_EqualKeys (y0 : Keys) (y1 : Keys) (hy0 : totKeys y0 ≤ 1048576) (hy1 : totKeys y1 ≤ 1048576) : ∃ (r0 : Bool), (∀ (u0 : List Value) (u1 : List Value) (w : World), RKeys.rd w (Lt w.heap.size) u0 y0 → RKeys.rd w (Lt w.heap.size) u1 y1 → Calls Try.prog 18 #[.agg u0.toArray, .agg u1.toArray] w fun e w' => e = .returned (.bool r0) ∧ Below w.heap.size w w') ∧
    (∀ (u0 : List Value) (u1 : List Value) (w : World), RKeys.rd w (Lt w.heap.size) u0 y0 → RKeys.rd w (Lt w.heap.size) u1 y1 → Calls Try.prog 17 #[.agg u0.toArray, .agg u1.toArray] w fun e w' => e = .returned (.bool r0) ∧ Below w.heap.size w w') := by
  exact ⟨_, fun u0 u1 w h h1 => sEqualKeys_any u0 u1 y0 y1 w h h1 (by unfold totKeys at hy0; omega), fun u0 u1 w h h1 => iEqualKeys_any u0 u1 y0 y1 w h h1 (by unfold totKeys at hy0; omega)⟩
end Go.Proofs.Ythfngiajicbdhaa.C06U
