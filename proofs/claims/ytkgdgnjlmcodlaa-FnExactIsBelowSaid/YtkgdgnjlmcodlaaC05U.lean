/- Chapter 5: the model's and the program's functions give the same. -/
import Derived.Test.YtkgdgnjlmcodlaaC05S
import Derived.Test.YtkgdgnjlmcodlaaC05I
namespace Go.Proofs.Ytkgdgnjlmcodlaa.C05U
open Go.RowKit Mem MemS M04 M05 C05S C05I
set_option linter.unusedVariables false
theorem prs_len (s : ByteArray) : (prsP s).1.length ≤ s.size + 1 := by
  have := (splitS_len s).1
  unfold prsP
  split
  · exact this
  · simp
theorem par_len (p : List ByteArray) : (parP p).1.length ≤ p.length := by
  unfold parP
  split
  · simp
  · simp
theorem join_len (p : List ByteArray) (s : ByteArray) : (joinP p s).1.length ≤ p.length + 1 := by
  unfold joinP
  split
  · simp
  · simp
theorem both_IsPath (y0 : List ByteArray) (hy0 : y0.length ≤ 1048576 ∧ ∀ s ∈ y0, s.size ≤ 1048576) : ∃ (r0 : Bool), (∀ (A0 : Option Addr) (n0 c0 : Nat) (w : World), n0 ≤ c0 → RdS w w.heap.size A0 n0 y0 → Calls Try.prog 10 #[.slice A0 n0 c0] w fun e w' => e = .returned (.bool r0) ∧ Below w.heap.size w w') ∧
    (∀ (A0 : Option Addr) (n0 c0 : Nat) (w : World), n0 ≤ c0 → RdS w w.heap.size A0 n0 y0 → Calls Try.prog 12 #[.slice A0 n0 c0] w fun e w' => e = .returned (.bool r0) ∧ Below w.heap.size w w') := by
  exact ⟨_, fun A0 n0 c0 w hc h => sIsPath_any _ A0 n0 c0 y0 w h (Nat.le_refl _) (by have := h.len; omega) (fun s hs => by have := hy0.2 s hs; omega), fun A0 n0 c0 w hc h => iIsPath_any _ A0 n0 c0 y0 w h (Nat.le_refl _) (by have := h.len; omega) (fun s hs => by have := hy0.2 s hs; omega)⟩
theorem both_FormatPath (y0 : List ByteArray) (hy0 : y0.length ≤ 1048576 ∧ ∀ s ∈ y0, s.size ≤ 1048576) : ∃ (r0 : ByteArray), (∀ (A0 : Option Addr) (n0 c0 : Nat) (w : World), n0 ≤ c0 → RdS w w.heap.size A0 n0 y0 → Calls Try.prog 14 #[.slice A0 n0 c0] w fun e w' => e = .returned (.string r0) ∧ Below w.heap.size w w') ∧
    (∀ (A0 : Option Addr) (n0 c0 : Nat) (w : World), n0 ≤ c0 → RdS w w.heap.size A0 n0 y0 → Calls Try.prog 15 #[.slice A0 n0 c0] w fun e w' => e = .returned (.string r0) ∧ Below w.heap.size w w') := by
  exact ⟨_, fun A0 n0 c0 w hc h => sFormatPath_any A0 n0 c0 y0 w h (by have := h.len; omega) (fun s hs => by have := hy0.2 s hs; omega), fun A0 n0 c0 w hc h => iFormatPath_any A0 n0 c0 y0 w h (by have := h.len; omega) hc (fun s hs => by have := hy0.2 s hs; omega)⟩
theorem both_ParentOf (y0 : List ByteArray) (hy0 : y0.length ≤ 1048576 ∧ ∀ s ∈ y0, s.size ≤ 1048576) : ∃ (r0 : List ByteArray) (r1 : Bool), r0.length ≤ 1099511627776 ∧ (∀ (A0 : Option Addr) (n0 c0 : Nat) (w : World), n0 ≤ c0 → RdS w w.heap.size A0 n0 y0 → Calls Try.prog 16 #[.slice A0 n0 c0] w fun e w' => ∃ (B0 : Option Addr) (d0 : Nat), e = .returned (.tuple #[.slice B0 r0.length d0, .bool r1]) ∧ OwnS w' w.heap.size w'.heap.size B0 r0.length d0 r0 ∧ Below w.heap.size w w') ∧
    (∀ (A0 : Option Addr) (n0 c0 : Nat) (w : World), n0 ≤ c0 → RdS w w.heap.size A0 n0 y0 → Calls Try.prog 17 #[.slice A0 n0 c0] w fun e w' => ∃ (B0 : Option Addr) (d0 : Nat), e = .returned (.tuple #[.slice B0 r0.length d0, .bool r1]) ∧ OwnS w' w.heap.size w'.heap.size B0 r0.length d0 r0 ∧ Below w.heap.size w w') := by
  exact ⟨(parP y0).1, (parP y0).2, by have := par_len y0; omega, fun A0 n0 c0 w hc h => sParentOf_any A0 n0 c0 y0 w h (by have := h.len; omega) hc (fun s hs => by have := hy0.2 s hs; omega), fun A0 n0 c0 w hc h => iParentOf_any A0 n0 c0 y0 w h (by have := h.len; omega) hc (fun s hs => by have := hy0.2 s hs; omega)⟩
theorem both_JoinPath (y0 : List ByteArray) (y1 : ByteArray) (hy0 : y0.length ≤ 1048576 ∧ ∀ s ∈ y0, s.size ≤ 1048576) (hy1 : y1.size ≤ 1048576) : ∃ (r0 : List ByteArray) (r1 : Bool), r0.length ≤ 1099511627776 ∧ (∀ (A0 : Option Addr) (n0 c0 : Nat) (w : World), n0 ≤ c0 → RdS w w.heap.size A0 n0 y0 → Calls Try.prog 20 #[.slice A0 n0 c0, .string y1] w fun e w' => ∃ (B0 : Option Addr) (d0 : Nat), e = .returned (.tuple #[.slice B0 r0.length d0, .bool r1]) ∧ OwnS w' w.heap.size w'.heap.size B0 r0.length d0 r0 ∧ Below w.heap.size w w') ∧
    (∀ (A0 : Option Addr) (n0 c0 : Nat) (w : World), n0 ≤ c0 → RdS w w.heap.size A0 n0 y0 → Calls Try.prog 21 #[.slice A0 n0 c0, .string y1] w fun e w' => ∃ (B0 : Option Addr) (d0 : Nat), e = .returned (.tuple #[.slice B0 r0.length d0, .bool r1]) ∧ OwnS w' w.heap.size w'.heap.size B0 r0.length d0 r0 ∧ Below w.heap.size w w') := by
  exact ⟨(joinP y0 y1).1, (joinP y0 y1).2, by have := join_len y0 y1; omega, fun A0 n0 c0 w hc h => sJoinPath_any A0 n0 c0 y0 y1 w h (by have := h.len; omega) (fun s hs => by have := hy0.2 s hs; omega) (by omega), fun A0 n0 c0 w hc h => iJoinPath_any A0 n0 c0 y0 y1 w h (by have := h.len; omega) (fun s hs => by have := hy0.2 s hs; omega) (by omega)⟩
theorem both_IsBelow (y0 : List ByteArray) (y1 : List ByteArray) (hy0 : y0.length ≤ 1048576 ∧ ∀ s ∈ y0, s.size ≤ 1048576) (hy1 : y1.length ≤ 1048576 ∧ ∀ s ∈ y1, s.size ≤ 1048576) : ∃ (r0 : Bool), (∀ (A0 : Option Addr) (n0 c0 : Nat) (A1 : Option Addr) (n1 c1 : Nat) (w : World), n0 ≤ c0 → RdS w w.heap.size A0 n0 y0 → n1 ≤ c1 → RdS w w.heap.size A1 n1 y1 → Calls Try.prog 22 #[.slice A0 n0 c0, .slice A1 n1 c1] w fun e w' => e = .returned (.bool r0) ∧ Below w.heap.size w w') ∧
    (∀ (A0 : Option Addr) (n0 c0 : Nat) (A1 : Option Addr) (n1 c1 : Nat) (w : World), n0 ≤ c0 → RdS w w.heap.size A0 n0 y0 → n1 ≤ c1 → RdS w w.heap.size A1 n1 y1 → Calls Try.prog 23 #[.slice A0 n0 c0, .slice A1 n1 c1] w fun e w' => e = .returned (.bool r0) ∧ Below w.heap.size w w') := by
  exact ⟨_, fun A0 n0 c0 A1 n1 c1 w hc h hc1 h1 => sIsBelow_any A0 A1 n0 c0 n1 c1 y0 y1 w h h1 (by have := h.len; omega) hc (by have := h1.len; omega) (fun s hs => by have := hy0.2 s hs; omega) (fun s hs => by have := hy1.2 s hs; omega), fun A0 n0 c0 A1 n1 c1 w hc h hc1 h1 => iIsBelow_any A0 A1 n0 c0 n1 c1 y0 y1 w h h1 (by have := h.len; omega) hc (by have := h1.len; omega) (fun s hs => by have := hy0.2 s hs; omega) (fun s hs => by have := hy1.2 s hs; omega)⟩
theorem both_SamePath (y0 : List ByteArray) (y1 : List ByteArray) (hy0 : y0.length ≤ 1048576 ∧ ∀ s ∈ y0, s.size ≤ 1048576) (hy1 : y1.length ≤ 1048576 ∧ ∀ s ∈ y1, s.size ≤ 1048576) : ∃ (r0 : Bool), (∀ (A0 : Option Addr) (n0 c0 : Nat) (A1 : Option Addr) (n1 c1 : Nat) (w : World), n0 ≤ c0 → RdS w w.heap.size A0 n0 y0 → n1 ≤ c1 → RdS w w.heap.size A1 n1 y1 → Calls Try.prog 24 #[.slice A0 n0 c0, .slice A1 n1 c1] w fun e w' => e = .returned (.bool r0) ∧ Below w.heap.size w w') ∧
    (∀ (A0 : Option Addr) (n0 c0 : Nat) (A1 : Option Addr) (n1 c1 : Nat) (w : World), n0 ≤ c0 → RdS w w.heap.size A0 n0 y0 → n1 ≤ c1 → RdS w w.heap.size A1 n1 y1 → Calls Try.prog 25 #[.slice A0 n0 c0, .slice A1 n1 c1] w fun e w' => e = .returned (.bool r0) ∧ Below w.heap.size w w') := by
  exact ⟨_, fun A0 n0 c0 A1 n1 c1 w hc h hc1 h1 => (sSamePath_any _ _ A0 A1 n0 c0 n1 c1 y0 y1 w h h1 (by have := h.len; omega) (by have := h1.len; omega)).mono fun e w' q => ⟨q.1, q.2.below _⟩, fun A0 n0 c0 A1 n1 c1 w hc h hc1 h1 => (iSamePath_any _ _ A0 A1 n0 c0 n1 c1 y0 y1 w h h1 (by have := h.len; omega) (by have := h1.len; omega)).mono fun e w' q => ⟨q.1, q.2.below _⟩⟩
end Go.Proofs.Ytkgdgnjlmcodlaa.C05U
