/- Chapter 3: the code and the model return the same, for every function of the chapter. -/
import Derived.Test.YtkkednffolfpiaaC03I
namespace Go.Proofs.Ytkkednffolfpiaa.C03U
open Go.RowKit Mem M02 C01 C02 C02B M03 C03S C03E C03D C03I
set_option linter.unusedVariables false
theorem both_Hash (y0 : List Int) (hy0 : y0.length ≤ 1048576) : ∃ (r0 : Int), (∀ (A0 : Option Addr) (n0 c0 : Nat) (w : World), n0 ≤ c0 → Rd .i64 w w.heap.size A0 n0 y0 → Calls Try.prog 26 #[.slice A0 n0 c0] w fun e w' => e = .returned (.int .i64 r0) ∧ Below w.heap.size w w') ∧
    (∀ (A0 : Option Addr) (n0 c0 : Nat) (w : World), n0 ≤ c0 → Rd .i64 w w.heap.size A0 n0 y0 → Calls Try.prog 20 #[.slice A0 n0 c0] w fun e w' => e = .returned (.int .i64 r0) ∧ Below w.heap.size w w') := by
  exact ⟨_, fun A0 n0 c0 w hc h => (sHash_any _ A0 n0 c0 y0 w h (by have := h.len; omega)).mono fun e w' h => ⟨h.1, h.2 ▸ Below.refl _ _⟩, fun A0 n0 c0 w hc h => iHash_any A0 n0 c0 y0 w h (by have := h.len; omega)⟩
theorem both_KeyedHash (y0 : Int) (y1 : List Int) (hy0 : -9223372036854775808 ≤ y0 ∧ y0 ≤ 9223372036854775807) (hy1 : y1.length ≤ 1048576) : ∃ (r0 : Int), (∀ (A1 : Option Addr) (n1 c1 : Nat) (w : World), n1 ≤ c1 → Rd .i64 w w.heap.size A1 n1 y1 → Calls Try.prog 29 #[.int .i64 y0, .slice A1 n1 c1] w fun e w' => e = .returned (.int .i64 r0) ∧ Below w.heap.size w w') ∧
    (∀ (A1 : Option Addr) (n1 c1 : Nat) (w : World), n1 ≤ c1 → Rd .i64 w w.heap.size A1 n1 y1 → Calls Try.prog 19 #[.int .i64 y0, .slice A1 n1 c1] w fun e w' => e = .returned (.int .i64 r0) ∧ Below w.heap.size w w') := by
  exact ⟨_, fun A0 n0 c0 w hc h => sKeyedHash_any A0 y0 n0 c0 y1 w h (by have := h.len; omega) hy0.1 hy0.2, fun A0 n0 c0 w hc h => iKeyedHash_any A0 y0 n0 c0 y1 w h (by have := h.len; omega) hy0.1 hy0.2⟩
theorem both_IsValidKey (y0 : Int) (hy0 : -9223372036854775808 ≤ y0 ∧ y0 ≤ 9223372036854775807) : ∃ (r0 : Bool), (∀ (w : World), Calls Try.prog 30 #[.int .i64 y0] w fun e w' => e = .returned (.bool r0) ∧ Below w.heap.size w w') ∧
    (∀ (w : World), Calls Try.prog 24 #[.int .i64 y0] w fun e w' => e = .returned (.bool r0) ∧ Below w.heap.size w w') := by
  exact ⟨_, fun w => (sIsValidKey_any y0 w).mono fun e w' h => ⟨h.1, h.2 ▸ Below.refl _ _⟩, fun w => iIsValidKey_any y0 w⟩
theorem both_BytesToInts (y0 : List Int) (hy0 : y0.length ≤ 1048576) : ∃ (r0 : List Int), r0.length ≤ 1099511627776 ∧ (∀ (A0 : Option Addr) (n0 c0 : Nat) (w : World), n0 ≤ c0 → Rd .u8 w w.heap.size A0 n0 y0 → Calls Try.prog 31 #[.slice A0 n0 c0] w fun e w' => ∃ (B0 : Option Addr) (d0 : Nat), e = .returned (.slice B0 r0.length d0) ∧ Own .i64 w' w.heap.size w'.heap.size B0 r0.length d0 r0 ∧ Below w.heap.size w w') ∧
    (∀ (A0 : Option Addr) (n0 c0 : Nat) (w : World), n0 ≤ c0 → Rd .u8 w w.heap.size A0 n0 y0 → Calls Try.prog 33 #[.slice A0 n0 c0] w fun e w' => ∃ (B0 : Option Addr) (d0 : Nat), e = .returned (.slice B0 r0.length d0) ∧ Own .i64 w' w.heap.size w'.heap.size B0 r0.length d0 r0 ∧ Below w.heap.size w w') := by
  refine ⟨bti y0, by simp [bti]; omega, fun A0 n0 c0 w hc h => ?_, fun A0 n0 c0 w hc h => ?_⟩
  · obtain rfl := h.len
    exact sBytesToInts_any A0 _ c0 y0 w h (by omega)
  · obtain rfl := h.len
    exact iBytesToInts_any A0 _ c0 y0 w h (by omega)
theorem both_Encrypt (y0 : Int) (y1 : List Int) (hy0 : -9223372036854775808 ≤ y0 ∧ y0 ≤ 9223372036854775807) (hy1 : y1.length ≤ 1048576) : ∃ (r0 : List Int), r0.length ≤ 1099511627776 ∧ (∀ (A1 : Option Addr) (n1 c1 : Nat) (w : World), n1 ≤ c1 → Rd .u8 w w.heap.size A1 n1 y1 → Calls Try.prog 38 #[.int .i64 y0, .slice A1 n1 c1] w fun e w' => ∃ (B0 : Option Addr) (d0 : Nat), e = .returned (.slice B0 r0.length d0) ∧ Own .u8 w' w.heap.size w'.heap.size B0 r0.length d0 r0 ∧ Below w.heap.size w w') ∧
    (∀ (A1 : Option Addr) (n1 c1 : Nat) (w : World), n1 ≤ c1 → Rd .u8 w w.heap.size A1 n1 y1 → Calls Try.prog 17 #[.int .i64 y0, .slice A1 n1 c1] w fun e w' => ∃ (B0 : Option Addr) (d0 : Nat), e = .returned (.slice B0 r0.length d0) ∧ Own .u8 w' w.heap.size w'.heap.size B0 r0.length d0 r0 ∧ Below w.heap.size w w') := by
  have hle := encr_len y0 y1
  refine ⟨encr y0 y1, by omega, fun A0 n0 c0 w hc h => ?_, fun A0 n0 c0 w hc h => ?_⟩
  · obtain rfl := h.len
    rw [hle]
    exact sEncrypt_any A0 y0 _ c0 y1 w h (by omega) hy0.1 hy0.2
  · obtain rfl := h.len
    rw [hle]
    exact iEncrypt_any A0 y0 _ c0 y1 w h (by omega) hy0.1 hy0.2
theorem both_Decrypt (y0 : Int) (y1 : List Int) (hy0 : -9223372036854775808 ≤ y0 ∧ y0 ≤ 9223372036854775807) (hy1 : y1.length ≤ 1048576) : ∃ (r0 : List Int), r0.length ≤ 1099511627776 ∧ (∀ (A1 : Option Addr) (n1 c1 : Nat) (w : World), n1 ≤ c1 → Rd .u8 w w.heap.size A1 n1 y1 → Calls Try.prog 40 #[.int .i64 y0, .slice A1 n1 c1] w fun e w' => ∃ (B0 : Option Addr) (d0 : Nat), e = .returned (.slice B0 r0.length d0) ∧ Own .u8 w' w.heap.size w'.heap.size B0 r0.length d0 r0 ∧ Below w.heap.size w w') ∧
    (∀ (A1 : Option Addr) (n1 c1 : Nat) (w : World), n1 ≤ c1 → Rd .u8 w w.heap.size A1 n1 y1 → Calls Try.prog 16 #[.int .i64 y0, .slice A1 n1 c1] w fun e w' => ∃ (B0 : Option Addr) (d0 : Nat), e = .returned (.slice B0 r0.length d0) ∧ Own .u8 w' w.heap.size w'.heap.size B0 r0.length d0 r0 ∧ Below w.heap.size w w') := by
  have hle := decr_len y0 y1
  refine ⟨decr y0 y1, by omega, fun A0 n0 c0 w hc h => ?_, fun A0 n0 c0 w hc h => ?_⟩
  · obtain rfl := h.len
    rw [hle]
    exact sDecrypt_any A0 y0 _ c0 y1 w h (by omega) hy0.1 hy0.2
  · obtain rfl := h.len
    rw [hle]
    exact iDecrypt_any A0 y0 _ c0 y1 w h (by omega) hy0.1 hy0.2
theorem both_DeriveFromString (y0 : Int) (y1 : ByteArray) (hy0 : -9223372036854775808 ≤ y0 ∧ y0 ≤ 9223372036854775807) (hy1 : y1.size ≤ 1048576) : ∃ (r0 : Int), (∀ (w : World), Calls Try.prog 41 #[.int .i64 y0, .string y1] w fun e w' => e = .returned (.int .i64 r0) ∧ Below w.heap.size w w') ∧
    (∀ (w : World), Calls Try.prog 25 #[.int .i64 y0, .string y1] w fun e w' => e = .returned (.int .i64 r0) ∧ Below w.heap.size w w') := by
  exact ⟨_, fun w => sDeriveFromString_any y0 y1 w hy1 hy0.1 hy0.2, fun w => iDeriveFromString_any y0 y1 w hy1 hy0.1 hy0.2⟩
theorem both_EqualInts (y0 : List Int) (y1 : List Int) (hy0 : y0.length ≤ 1048576) (hy1 : y1.length ≤ 1048576) : ∃ (r0 : Bool), (∀ (A0 : Option Addr) (n0 c0 : Nat) (A1 : Option Addr) (n1 c1 : Nat) (w : World), n0 ≤ c0 → Rd .i64 w w.heap.size A0 n0 y0 → n1 ≤ c1 → Rd .i64 w w.heap.size A1 n1 y1 → Calls Try.prog 42 #[.slice A0 n0 c0, .slice A1 n1 c1] w fun e w' => e = .returned (.bool r0) ∧ Below w.heap.size w w') ∧
    (∀ (A0 : Option Addr) (n0 c0 : Nat) (A1 : Option Addr) (n1 c1 : Nat) (w : World), n0 ≤ c0 → Rd .i64 w w.heap.size A0 n0 y0 → n1 ≤ c1 → Rd .i64 w w.heap.size A1 n1 y1 → Calls Try.prog 43 #[.slice A0 n0 c0, .slice A1 n1 c1] w fun e w' => e = .returned (.bool r0) ∧ Below w.heap.size w w') := by
  exact ⟨_, fun A0 n0 c0 A1 n1 c1 w hc h hc1 h1 => (sEqualInts_any _ _ A0 A1 n0 c0 n1 c1 y0 y1 w h h1 (by have := h.len; omega)).mono fun e w' h => ⟨h.1, h.2.below _⟩,
    fun A0 n0 c0 A1 n1 c1 w hc h hc1 h1 => (iEqualInts_any _ _ A0 A1 n0 c0 n1 c1 y0 y1 w h h1 (by have := h.len; omega)).mono fun e w' h => ⟨h.1, h.2.below _⟩⟩
end Go.Proofs.Ytkkednffolfpiaa.C03U
