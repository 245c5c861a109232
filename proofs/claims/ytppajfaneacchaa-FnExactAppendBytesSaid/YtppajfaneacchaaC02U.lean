/- Chapter 2: the code and the model return the same, for every function of the chapter. -/
import Derived.Test.YtppajfaneacchaaC02I
namespace Go.Proofs.Ytppajfaneacchaa.C02U
open Go.RowKit Mem M02 C01 C02 C02R C02B C02I
set_option linter.unusedVariables false
theorem both_AppendUvarint (y0 : List Int) (y1 : Int) (hy0 : y0.length ≤ 1048576) (hy1 : -9223372036854775808 ≤ y1 ∧ y1 ≤ 9223372036854775807) : ∃ (r0 : List Int), r0.length ≤ 1099511627776 ∧ (∀ (A0 : Option Addr) (n0 c0 : Nat) (w : World), n0 ≤ c0 → Rd .u8 w w.heap.size A0 n0 y0 → Calls Try.prog 26 #[.slice A0 n0 c0, .int .i64 y1] w fun e w' => ∃ (B0 : Option Addr) (d0 : Nat), e = .returned (.slice B0 r0.length d0) ∧ Own .u8 w' w.heap.size w'.heap.size B0 r0.length d0 r0 ∧ Below w.heap.size w w') ∧
    (∀ (A0 : Option Addr) (n0 c0 : Nat) (w : World), n0 ≤ c0 → Rd .u8 w w.heap.size A0 n0 y0 → Calls Try.prog 14 #[.slice A0 n0 c0, .int .i64 y1] w fun e w' => ∃ (B0 : Option Addr) (d0 : Nat), e = .returned (.slice B0 r0.length d0) ∧ Own .u8 w' w.heap.size w'.heap.size B0 r0.length d0 r0 ∧ Below w.heap.size w w') := by
  have hel := enc_len y1
  refine ⟨y0 ++ enc y1, by simp; omega, fun A0 n0 c0 w hc h => ?_, fun A0 n0 c0 w hc h => ?_⟩
  · have hl := h.len
    refine (sAppendUvarint_any A0 n0 c0 y0 y1 w h (by omega)).mono ?_
    rintro e w' ⟨A', n', c', rfl, hn, ho, hb⟩
    have e2 : n' = (y0 ++ enc y1).length := by simp; omega
    subst e2
    exact ⟨_, _, rfl, ho, hb⟩
  · have hl := h.len
    refine (iAppendUvarint_any A0 n0 c0 y0 y1 w h (by omega)).mono ?_
    rintro e w' ⟨A', n', c', rfl, hn, ho, hb⟩
    have e2 : n' = (y0 ++ enc y1).length := by simp; omega
    subst e2
    exact ⟨_, _, rfl, ho, hb⟩
theorem both_ReadUvarint (y0 : List Int) (y1 : Int) (hy0 : y0.length ≤ 1048576) (hy1 : -9223372036854775808 ≤ y1 ∧ y1 ≤ 9223372036854775807) : ∃ (r0 : Int) (r1 : Int) (r2 : Bool), (∀ (A0 : Option Addr) (n0 c0 : Nat) (w : World), n0 ≤ c0 → Rd .u8 w w.heap.size A0 n0 y0 → Calls Try.prog 18 #[.slice A0 n0 c0, .int .i64 y1] w fun e w' => e = .returned (.tuple #[.int .i64 r0, .int .i64 r1, .bool r2]) ∧ Below w.heap.size w w') ∧
    (∀ (A0 : Option Addr) (n0 c0 : Nat) (w : World), n0 ≤ c0 → Rd .u8 w w.heap.size A0 n0 y0 → Calls Try.prog 15 #[.slice A0 n0 c0, .int .i64 y1] w fun e w' => e = .returned (.tuple #[.int .i64 r0, .int .i64 r1, .bool r2]) ∧ Below w.heap.size w w') := by
  exact ⟨_, _, _, fun A0 n0 c0 w hc h => sReadU_any A0 n0 c0 y0 y1 w h (by have := h.len; omega) hc, fun A0 n0 c0 w hc h => iReadU_any A0 n0 c0 y0 y1 w h (by have := h.len; omega) hc⟩
theorem both_AppendBytes (y0 : List Int) (y1 : List Int) (hy0 : y0.length ≤ 1048576) (hy1 : y1.length ≤ 1048576) : ∃ (r0 : List Int), r0.length ≤ 1099511627776 ∧ (∀ (A0 : Option Addr) (n0 c0 : Nat) (A1 : Option Addr) (n1 c1 : Nat) (w : World), n0 ≤ c0 → Rd .u8 w w.heap.size A0 n0 y0 → n1 ≤ c1 → Rd .u8 w w.heap.size A1 n1 y1 → Calls Try.prog 31 #[.slice A0 n0 c0, .slice A1 n1 c1] w fun e w' => ∃ (B0 : Option Addr) (d0 : Nat), e = .returned (.slice B0 r0.length d0) ∧ Own .u8 w' w.heap.size w'.heap.size B0 r0.length d0 r0 ∧ Below w.heap.size w w') ∧
    (∀ (A0 : Option Addr) (n0 c0 : Nat) (A1 : Option Addr) (n1 c1 : Nat) (w : World), n0 ≤ c0 → Rd .u8 w w.heap.size A0 n0 y0 → n1 ≤ c1 → Rd .u8 w w.heap.size A1 n1 y1 → Calls Try.prog 20 #[.slice A0 n0 c0, .slice A1 n1 c1] w fun e w' => ∃ (B0 : Option Addr) (d0 : Nat), e = .returned (.slice B0 r0.length d0) ∧ Own .u8 w' w.heap.size w'.heap.size B0 r0.length d0 r0 ∧ Below w.heap.size w w') := by
  have hel := enc_len (y1.length : Int)
  refine ⟨y0 ++ (enc (y1.length : Int) ++ y1), by simp; omega, fun A0 n0 c0 A1 n1 c1 w hc h hc1 h1 => ?_, fun A0 n0 c0 A1 n1 c1 w hc h hc1 h1 => ?_⟩
  · have hl := h.len
    obtain rfl := h1.len
    refine (sAppendBytes_any A0 A1 n0 c0 _ c1 y0 y1 w h h1 (by omega) (by omega)).mono ?_
    rintro e w' ⟨A', n', c', rfl, hn, ho, hb⟩
    have e2 : n' = (y0 ++ (enc (y1.length : Int) ++ y1)).length := by simp; omega
    subst e2
    exact ⟨_, _, rfl, ho, hb⟩
  · have hl := h.len
    obtain rfl := h1.len
    refine (iAppendBytes_any A0 A1 n0 c0 _ c1 y0 y1 w h h1 (by omega) (by omega)).mono ?_
    rintro e w' ⟨A', n', c', rfl, hn, ho, hb⟩
    have e2 : n' = (y0 ++ (enc (y1.length : Int) ++ y1)).length := by simp; omega
    subst e2
    exact ⟨_, _, rfl, ho, hb⟩
theorem both_ReadBytes (y0 : List Int) (y1 : Int) (y2 : Int) (hy0 : y0.length ≤ 1048576) (hy1 : -9223372036854775808 ≤ y1 ∧ y1 ≤ 9223372036854775807) (hy2 : -9223372036854775808 ≤ y2 ∧ y2 ≤ 9223372036854775807) : ∃ (r0 : List Int) (r1 : Int) (r2 : Bool), r0.length ≤ 1099511627776 ∧ (∀ (A0 : Option Addr) (n0 c0 : Nat) (w : World), n0 ≤ c0 → Rd .u8 w w.heap.size A0 n0 y0 → Calls Try.prog 32 #[.slice A0 n0 c0, .int .i64 y1, .int .i64 y2] w fun e w' => ∃ (B0 : Option Addr) (d0 : Nat), e = .returned (.tuple #[.slice B0 r0.length d0, .int .i64 r1, .bool r2]) ∧ Own .u8 w' w.heap.size w'.heap.size B0 r0.length d0 r0 ∧ Below w.heap.size w w') ∧
    (∀ (A0 : Option Addr) (n0 c0 : Nat) (w : World), n0 ≤ c0 → Rd .u8 w w.heap.size A0 n0 y0 → Calls Try.prog 21 #[.slice A0 n0 c0, .int .i64 y1, .int .i64 y2] w fun e w' => ∃ (B0 : Option Addr) (d0 : Nat), e = .returned (.tuple #[.slice B0 r0.length d0, .int .i64 r1, .bool r2]) ∧ Own .u8 w' w.heap.size w'.heap.size B0 r0.length d0 r0 ∧ Below w.heap.size w w') := by
  have hlen : (rdB y0 y1 y2).1.length ≤ y0.length := by
    unfold rdB
    split <;> simp <;> omega
  exact ⟨_, _, _, by omega, fun A0 n0 c0 w hc h => sReadBytes_any A0 n0 c0 y0 y1 y2 w h (by have := h.len; omega) hc, fun A0 n0 c0 w hc h => iReadBytes_any A0 n0 c0 y0 y1 y2 w h (by have := h.len; omega) hc⟩
theorem both_EncodeInts (y0 : List Int) (hy0 : y0.length ≤ 1048576) : ∃ (r0 : List Int), r0.length ≤ 1099511627776 ∧ (∀ (A0 : Option Addr) (n0 c0 : Nat) (w : World), n0 ≤ c0 → Rd .i64 w w.heap.size A0 n0 y0 → Calls Try.prog 33 #[.slice A0 n0 c0] w fun e w' => ∃ (B0 : Option Addr) (d0 : Nat), e = .returned (.slice B0 r0.length d0) ∧ Own .u8 w' w.heap.size w'.heap.size B0 r0.length d0 r0 ∧ Below w.heap.size w w') ∧
    (∀ (A0 : Option Addr) (n0 c0 : Nat) (w : World), n0 ≤ c0 → Rd .i64 w w.heap.size A0 n0 y0 → Calls Try.prog 23 #[.slice A0 n0 c0] w fun e w' => ∃ (B0 : Option Addr) (d0 : Nat), e = .returned (.slice B0 r0.length d0) ∧ Own .u8 w' w.heap.size w'.heap.size B0 r0.length d0 r0 ∧ Below w.heap.size w w') := by
  have hlen := encs_len y0
  exact ⟨_, by omega, fun A0 n0 c0 w hc h => sEncodeInts_any A0 n0 c0 y0 w h (by have := h.len; omega), fun A0 n0 c0 w hc h => iEncodeInts_any A0 n0 c0 y0 w h (by have := h.len; omega)⟩
theorem both_DecodeInts (y0 : List Int) (y1 : Int) (y2 : Int) (hy0 : y0.length ≤ 1048576) (hy1 : -9223372036854775808 ≤ y1 ∧ y1 ≤ 9223372036854775807) (hy2 : -9223372036854775808 ≤ y2 ∧ y2 ≤ 9223372036854775807) : ∃ (r0 : List Int) (r1 : Int) (r2 : Bool), r0.length ≤ 1099511627776 ∧ (∀ (A0 : Option Addr) (n0 c0 : Nat) (w : World), n0 ≤ c0 → Rd .u8 w w.heap.size A0 n0 y0 → Calls Try.prog 37 #[.slice A0 n0 c0, .int .i64 y1, .int .i64 y2] w fun e w' => ∃ (B0 : Option Addr) (d0 : Nat), e = .returned (.tuple #[.slice B0 r0.length d0, .int .i64 r1, .bool r2]) ∧ Own .i64 w' w.heap.size w'.heap.size B0 r0.length d0 r0 ∧ Below w.heap.size w w') ∧
    (∀ (A0 : Option Addr) (n0 c0 : Nat) (w : World), n0 ≤ c0 → Rd .u8 w w.heap.size A0 n0 y0 → Calls Try.prog 24 #[.slice A0 n0 c0, .int .i64 y1, .int .i64 y2] w fun e w' => ∃ (B0 : Option Addr) (d0 : Nat), e = .returned (.tuple #[.slice B0 r0.length d0, .int .i64 r1, .bool r2]) ∧ Own .i64 w' w.heap.size w'.heap.size B0 r0.length d0 r0 ∧ Below w.heap.size w w') := by
  have hlen := rdI_len y0 y1 y2
  exact ⟨_, _, _, by omega, fun A0 n0 c0 w hc h => sDecodeInts_any A0 n0 c0 y0 y1 y2 w h (by have := h.len; omega) hc, fun A0 n0 c0 w hc h => iDecodeInts_any A0 n0 c0 y0 y1 y2 w h (by have := h.len; omega) hc⟩
theorem both_EqualBytes (y0 : List Int) (y1 : List Int) (hy0 : y0.length ≤ 1048576) (hy1 : y1.length ≤ 1048576) : ∃ (r0 : Bool), (∀ (A0 : Option Addr) (n0 c0 : Nat) (A1 : Option Addr) (n1 c1 : Nat) (w : World), n0 ≤ c0 → Rd .u8 w w.heap.size A0 n0 y0 → n1 ≤ c1 → Rd .u8 w w.heap.size A1 n1 y1 → Calls Try.prog 39 #[.slice A0 n0 c0, .slice A1 n1 c1] w fun e w' => e = .returned (.bool r0) ∧ Below w.heap.size w w') ∧
    (∀ (A0 : Option Addr) (n0 c0 : Nat) (A1 : Option Addr) (n1 c1 : Nat) (w : World), n0 ≤ c0 → Rd .u8 w w.heap.size A0 n0 y0 → n1 ≤ c1 → Rd .u8 w w.heap.size A1 n1 y1 → Calls Try.prog 40 #[.slice A0 n0 c0, .slice A1 n1 c1] w fun e w' => e = .returned (.bool r0) ∧ Below w.heap.size w w') := by
  exact ⟨_, fun A0 n0 c0 A1 n1 c1 w hc h hc1 h1 => (sEqualBytes_any _ _ A0 A1 n0 c0 n1 c1 y0 y1 w h h1).mono fun e w' h => ⟨h.1, h.2 ▸ Below.refl _ _⟩,
    fun A0 n0 c0 A1 n1 c1 w hc h hc1 h1 => (iEqualBytes_any _ _ A0 A1 n0 c0 n1 c1 y0 y1 w h h1).mono fun e w' h => ⟨h.1, h.2 ▸ Below.refl _ _⟩⟩
end Go.Proofs.Ytppajfaneacchaa.C02U
