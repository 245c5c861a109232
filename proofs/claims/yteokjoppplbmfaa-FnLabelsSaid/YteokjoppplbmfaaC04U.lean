/- Chapter 4: the code and the model return the same, for every function of the chapter. -/
import Derived.Test.YteokjoppplbmfaaC04I
import Derived.Test.YteokjoppplbmfaaT04
namespace Go.Proofs.Yteokjoppplbmfaa.C04U
open Go.RowKit Mem MemS M02 M03 M04 C01 C02 C02B C03S C03D C04S C04I
set_option linter.unusedVariables false
theorem both_IsLabel (y0 : ByteArray) (hy0 : y0.size ≤ 1048576) : ∃ (r0 : Bool), (∀ (w : World), Calls Try.prog 16 #[.string y0] w fun e w' => e = .returned (.bool r0) ∧ Below w.heap.size w w') ∧
    (∀ (w : World), Calls Try.prog 15 #[.string y0] w fun e w' => e = .returned (.bool r0) ∧ Below w.heap.size w w') := by
  exact ⟨_, fun w => sIsLabel_b y0 w (by omega), fun w => iIsLabel_b y0 w (by omega)⟩
theorem both_PlainOf (y0 : ByteArray) (hy0 : y0.size ≤ 1048576) : ∃ (r0 : ByteArray), (∀ (w : World), Calls Try.prog 23 #[.string y0] w fun e w' => e = .returned (.string r0) ∧ Below w.heap.size w w') ∧
    (∀ (w : World), Calls Try.prog 19 #[.string y0] w fun e w' => e = .returned (.string r0) ∧ Below w.heap.size w w') := by
  exact ⟨_, fun w => sPlainOf_any y0 w (by omega), fun w => iPlainOf_any y0 w (by omega)⟩
theorem both_LooksLike (y0 : ByteArray) (y1 : ByteArray) (hy0 : y0.size ≤ 1048576) (hy1 : y1.size ≤ 1048576) : ∃ (r0 : Bool), (∀ (w : World), Calls Try.prog 17 #[.string y0, .string y1] w fun e w' => e = .returned (.bool r0) ∧ Below w.heap.size w w') ∧
    (∀ (w : World), Calls Try.prog 14 #[.string y0, .string y1] w fun e w' => e = .returned (.bool r0) ∧ Below w.heap.size w w') := by
  exact ⟨_, fun w => sLooksLike_any y0 y1 w (by omega) (by omega), fun w => iLooksLike_any y0 y1 w (by omega) (by omega)⟩
theorem both_CompareLabels (y0 : ByteArray) (y1 : ByteArray) (hy0 : y0.size ≤ 1048576) (hy1 : y1.size ≤ 1048576) : ∃ (r0 : Int), (∀ (w : World), Calls Try.prog 24 #[.string y0, .string y1] w fun e w' => e = .returned (.int .i64 r0) ∧ Below w.heap.size w w') ∧
    (∀ (w : World), Calls Try.prog 18 #[.string y0, .string y1] w fun e w' => e = .returned (.int .i64 r0) ∧ Below w.heap.size w w') := by
  exact ⟨_, fun w => (sCompareLabels_any y0 y1 w).mono fun e w' h => ⟨h.1, h.2 ▸ Below.refl _ _⟩, fun w => (iCompareLabels_any y0 y1 w).mono fun e w' h => ⟨h.1, h.2 ▸ Below.refl _ _⟩⟩
theorem both_LabelInts (y0 : ByteArray) (hy0 : y0.size ≤ 1048576) : ∃ (r0 : List Int), r0.length ≤ 1099511627776 ∧ (∀ (w : World), Calls Try.prog 22 #[.string y0] w fun e w' => ∃ (B0 : Option Addr) (d0 : Nat), e = .returned (.slice B0 r0.length d0) ∧ Own .i64 w' w.heap.size w'.heap.size B0 r0.length d0 r0 ∧ Below w.heap.size w w') ∧
    (∀ (w : World), Calls Try.prog 21 #[.string y0] w fun e w' => ∃ (B0 : Option Addr) (d0 : Nat), e = .returned (.slice B0 r0.length d0) ∧ Own .i64 w' w.heap.size w'.heap.size B0 r0.length d0 r0 ∧ Below w.heap.size w w') := by
  have hle : (bti (nums y0)).length = y0.size + 1 := by simp [bti, nums_len]
  refine ⟨bti (nums y0), by omega, fun w => ?_, fun w => ?_⟩
  · rw [hle]
    exact sLabelInts_any y0 w hy0
  · rw [hle]
    exact iLabelInts_any y0 w hy0
theorem both_FirstAlike (y0 : List ByteArray) (y1 : ByteArray) (hy0 : y0.length ≤ 1048576 ∧ ∀ s ∈ y0, s.size ≤ 1048576) (hy1 : y1.size ≤ 1048576) : ∃ (r0 : Int), (∀ (A0 : Option Addr) (n0 c0 : Nat) (w : World), n0 ≤ c0 → RdS w w.heap.size A0 n0 y0 → Calls Try.prog 29 #[.slice A0 n0 c0, .string y1] w fun e w' => e = .returned (.int .i64 r0) ∧ Below w.heap.size w w') ∧
    (∀ (A0 : Option Addr) (n0 c0 : Nat) (w : World), n0 ≤ c0 → RdS w w.heap.size A0 n0 y0 → Calls Try.prog 13 #[.slice A0 n0 c0, .string y1] w fun e w' => e = .returned (.int .i64 r0) ∧ Below w.heap.size w w') := by
  exact ⟨_, fun A0 n0 c0 w hc h => sFirstAlike_any _ A0 n0 c0 y0 y1 w h (Nat.le_refl _) (by have := h.len; omega) (fun s hs => by have := hy0.2 s hs; omega) (by omega), fun A0 n0 c0 w hc h => iFirstAlike_any _ A0 n0 c0 y0 y1 w h (Nat.le_refl _) (by have := h.len; omega) (fun s hs => by have := hy0.2 s hs; omega) (by omega)⟩
end Go.Proofs.Yteokjoppplbmfaa.C04U
