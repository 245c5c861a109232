/- Chapter 8: the model's and the program's functions give the same. -/
import Derived.Test.YtobapahakcdibaaC08S
import Derived.Test.YtobapahakcdibaaC08I
namespace Go.Proofs.Ytobapahakcdibaa.C08U
open Go.RowKit Mem MemS Rep R08 M08 C08S C08I RKA
set_option linter.unusedVariables false
theorem both_IsEntry (y0 : Entry) (hy0 : totEntry y0 ≤ 1048576) : ∃ (r0 : Bool), (∀ (u0 : List Value) (w : World), REntry.rd w (Lt w.heap.size) u0 y0 → Calls Try.prog 18 #[.agg u0.toArray] w fun e w' => e = .returned (.bool r0) ∧ Below w.heap.size w w') ∧
    (∀ (u0 : List Value) (w : World), REntry.rd w (Lt w.heap.size) u0 y0 → Calls Try.prog 17 #[.agg u0.toArray] w fun e w' => e = .returned (.bool r0) ∧ Below w.heap.size w w') := by
  exact ⟨_, fun u0 w h => sIsEntry_any u0 y0 w h (by omega), fun u0 w h => iIsEntry_any u0 y0 w h (by omega)⟩
theorem both_EntryInts (y0 : Entry) (hy0 : totEntry y0 ≤ 1048576) : ∃ (r0 : List Int), r0.length ≤ 1099511627776 ∧ (∀ (u0 : List Value) (w : World), REntry.rd w (Lt w.heap.size) u0 y0 → Calls Try.prog 31 #[.agg u0.toArray] w fun e w' => ∃ (B0 : Option Addr) (d0 : Nat), e = .returned (.slice B0 r0.length d0) ∧ Own .i64 w' w.heap.size w'.heap.size B0 r0.length d0 r0 ∧ Below w.heap.size w w') ∧
    (∀ (u0 : List Value) (w : World), REntry.rd w (Lt w.heap.size) u0 y0 → Calls Try.prog 32 #[.agg u0.toArray] w fun e w' => ∃ (B0 : Option Addr) (d0 : Nat), e = .returned (.slice B0 r0.length d0) ∧ Own .i64 w' w.heap.size w'.heap.size B0 r0.length d0 r0 ∧ Below w.heap.size w w') := by
  exact ⟨entryInts y0, by have := eiUpto_len y0 y0.path.length; unfold entryInts; omega, fun u0 w h => sEntryInts_any u0 y0 w h hy0, fun u0 w h => iEntryInts_any u0 y0 w h hy0⟩
theorem both_LeafOf (y0 : Entry) (hy0 : totEntry y0 ≤ 1048576) : ∃ (r0 : Int), (∀ (u0 : List Value) (w : World), REntry.rd w (Lt w.heap.size) u0 y0 → Calls Try.prog 22 #[.agg u0.toArray] w fun e w' => e = .returned (.int .i64 r0) ∧ Below w.heap.size w w') ∧
    (∀ (u0 : List Value) (w : World), REntry.rd w (Lt w.heap.size) u0 y0 → Calls Try.prog 21 #[.agg u0.toArray] w fun e w' => e = .returned (.int .i64 r0) ∧ Below w.heap.size w w') := by
  exact ⟨_, fun u0 w h => sLeafOf_any u0 y0 w h hy0, fun u0 w h => iLeafOf_any u0 y0 w h hy0⟩
theorem both_ValueEntry (y0 : ByteArray) (y1 : Int) (hy0 : y0.size ≤ 1048576) (hy1 : -9223372036854775808 ≤ y1 ∧ y1 ≤ 9223372036854775807) : ∃ (r0 : Entry), totEntry r0 ≤ 1099511627776 ∧ (∀  (w : World),  Calls Try.prog 23 #[.string y0, .int .i64 y1] w fun e w' => ∃ (g0 : List Value), e = .returned (.agg (List.toArray g0)) ∧ REntry.rd w' (Lt w'.heap.size) g0 r0 ∧ Below w.heap.size w w') ∧
    (∀  (w : World),  Calls Try.prog 14 #[.string y0, .int .i64 y1] w fun e w' => ∃ (g0 : List Value), e = .returned (.agg (List.toArray g0)) ∧ OwnI REntry w' w.heap.size w'.heap.size g0 r0 ∧ Below w.heap.size w w') := by
  refine ⟨⟨y0, 1, y1, []⟩, (by unfold totEntry totSS; simp; omega), fun w => (sValueEntry_any y0 y1 w (show InS y0 by unfold InS maxLen; omega) (inI64 hy1.1 hy1.2)).mono fun e w' q => ?_, fun w => iValueEntry_any y0 y1 w (show InS y0 by unfold InS maxLen; omega) (inI64 hy1.1 hy1.2)⟩
  obtain ⟨cs, h1, h2, h3⟩ := q
  exact ⟨cs, h1, h2.rd, h3⟩
theorem both_ZoneEntry (y0 : ByteArray) (y1 : Int) (hy0 : y0.size ≤ 1048576) (hy1 : -9223372036854775808 ≤ y1 ∧ y1 ≤ 9223372036854775807) : ∃ (r0 : Entry), totEntry r0 ≤ 1099511627776 ∧ (∀  (w : World),  Calls Try.prog 24 #[.string y0, .int .i64 y1] w fun e w' => ∃ (g0 : List Value), e = .returned (.agg (List.toArray g0)) ∧ REntry.rd w' (Lt w'.heap.size) g0 r0 ∧ Below w.heap.size w w') ∧
    (∀  (w : World),  Calls Try.prog 15 #[.string y0, .int .i64 y1] w fun e w' => ∃ (g0 : List Value), e = .returned (.agg (List.toArray g0)) ∧ OwnI REntry w' w.heap.size w'.heap.size g0 r0 ∧ Below w.heap.size w w') := by
  refine ⟨⟨y0, 2, y1, []⟩, (by unfold totEntry totSS; simp; omega), fun w => (sZoneEntry_any y0 y1 w (show InS y0 by unfold InS maxLen; omega) (inI64 hy1.1 hy1.2)).mono fun e w' q => ?_, fun w => iZoneEntry_any y0 y1 w (show InS y0 by unfold InS maxLen; omega) (inI64 hy1.1 hy1.2)⟩
  obtain ⟨cs, h1, h2, h3⟩ := q
  exact ⟨cs, h1, h2.rd, h3⟩
theorem both_MovedEntry (y0 : ByteArray) (y1 : Int) (y2 : List ByteArray) (hy0 : y0.size ≤ 1048576) (hy1 : -9223372036854775808 ≤ y1 ∧ y1 ≤ 9223372036854775807) (hy2 : totSS y2 ≤ 1048576) : ∃ (r0 : Entry), totEntry r0 ≤ 1099511627776 ∧ (∀ (A2 : Option Addr) (n2 c2 : Nat) (w : World), n2 ≤ c2 → RdS w w.heap.size A2 n2 y2 → Calls Try.prog 25 #[.string y0, .int .i64 y1, .slice A2 n2 c2] w fun e w' => ∃ (g0 : List Value), e = .returned (.agg (List.toArray g0)) ∧ REntry.rd w' (Lt w'.heap.size) g0 r0 ∧ Below w.heap.size w w') ∧
    (∀ (A2 : Option Addr) (n2 c2 : Nat) (w : World), n2 ≤ c2 → RdS w w.heap.size A2 n2 y2 → Calls Try.prog 16 #[.string y0, .int .i64 y1, .slice A2 n2 c2] w fun e w' => ∃ (g0 : List Value), e = .returned (.agg (List.toArray g0)) ∧ OwnI REntry w' w.heap.size w'.heap.size g0 r0 ∧ Below w.heap.size w w') := by
  refine ⟨⟨y0, 3, y1, y2⟩, (by unfold totEntry; simp only; omega), fun A2 n2 c2 w hc h => (sMovedEntry_any y0 y1 A2 n2 c2 y2 w (show InS y0 by unfold InS maxLen; omega) (inI64 hy1.1 hy1.2) h (by have := h.len; have := totSS_len y2; omega)).mono fun e w' q => ?_, fun A2 n2 c2 w hc h => iMovedEntry_any y0 y1 A2 n2 c2 y2 w (show InS y0 by unfold InS maxLen; omega) (inI64 hy1.1 hy1.2) h (by have := h.len; have := totSS_len y2; omega)⟩
  obtain ⟨cs, h1, h2, h3⟩ := q
  exact ⟨cs, h1, h2.rd, h3⟩
theorem both_EqualEntries (y0 : Entry) (y1 : Entry) (hy0 : totEntry y0 ≤ 1048576) (hy1 : totEntry y1 ≤ 1048576) : ∃ (r0 : Bool), (∀ (u0 : List Value) (u1 : List Value) (w : World), REntry.rd w (Lt w.heap.size) u0 y0 → REntry.rd w (Lt w.heap.size) u1 y1 → Calls Try.prog 20 #[.agg u0.toArray, .agg u1.toArray] w fun e w' => e = .returned (.bool r0) ∧ Below w.heap.size w w') ∧
    (∀ (u0 : List Value) (u1 : List Value) (w : World), REntry.rd w (Lt w.heap.size) u0 y0 → REntry.rd w (Lt w.heap.size) u1 y1 → Calls Try.prog 19 #[.agg u0.toArray, .agg u1.toArray] w fun e w' => e = .returned (.bool r0) ∧ Below w.heap.size w w') := by
  exact ⟨_, fun u0 u1 w h h1 => sEqualEntries_any u0 u1 y0 y1 w h h1 (by omega) (by omega), fun u0 u1 w h h1 => iEqualEntries_any u0 u1 y0 y1 w h h1 (by omega) (by omega)⟩
end Go.Proofs.Ytobapahakcdibaa.C08U
