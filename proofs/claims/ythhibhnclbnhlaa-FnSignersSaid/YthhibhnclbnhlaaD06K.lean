/- The drawing functions of chapter 6 that the statement of promise 6 calls. -/
import Derived.Test.YthhibhnclbnhlaaD06
namespace Go.Proofs.Ythhibhnclbnhlaa.D06K
set_option linter.unusedVariables false
set_option maxRecDepth 100000
open Go.RowKit Mem MemS M02 C01 C02 C02B D01 D02 SL Rep R06 M06 C06S D06
/-- a drawn set of keys and what goes with it -/
def DrK (Q : Value → World → Prop) (w : World) (e : Ending) (w' : World) : Prop :=
  ∃ A n c l nd v, e = .returned (.tuple #[.agg #[.slice A n c, .int .i64 nd], v]) ∧ AnyK l nd ∧ Own .i64 w' w.heap.size w'.heap.size A n c l ∧ Q v w' ∧ Below w.heap.size w w'
def QHasKey (w : World) (v : Value) (w' : World) : Prop := ∃ x : Int, 0 ≤ x ∧ x ≤ 8 ∧ v = .int .i64 x
def QCanSign (w : World) (v : Value) (w' : World) : Prop := ∃ A n c l, v = .slice A n c ∧ n ≤ 5 ∧ Own .i64 w' w.heap.size w'.heap.size A n c l
def DrW (B g : Nat) (Q : World → Value → World → Prop) (w : World) (e : Ending) (w' : World) : Prop := ∃ v, Q w v w' ∧ e = .returned v ∧ Cur w' B g ∧ Kept g w w'
theorem call_HasKey (w : World) (B g : Nat) (hc : Cur w B g) : Calls Try.prog 59 #[.pointer (some ⟨g, 0, none⟩), .int .i64 9] w (DrW B g QHasKey w) :=
  (l1Below_any 9 w B g hc).mono fun e w' ⟨v, ⟨x, h0, h1, h2⟩, h3, h4, h5⟩ => ⟨v, ⟨x, h0, by omega, h2⟩, h3, h4, h5⟩
theorem call_CanSign (w : World) (B g : Nat) (hc : Cur w B g) : Calls Try.prog 50 #[.pointer (some ⟨g, 0, none⟩)] w (DrW B g QCanSign w) :=
  (l6Held_any w B g hc).mono fun e w' ⟨A, n, c, l, h1, h2, h3, h4, h5⟩ => ⟨_, ⟨A, n, c, l, rfl, h2, h3⟩, h1, h4, h5⟩
theorem up_HasKey {w w0 w3 : World} {v : Value} (h : QHasKey w0 v w3) (hw : w.heap.size < w0.heap.size) (u0 u1 : Value) : QHasKey w v ((w3.setCell ⟨w.heap.size, 0, none⟩ u0).setCell ⟨w.heap.size, 1, none⟩ u1) := h
theorem up_CanSign {w w0 w3 : World} {v : Value} (h : QCanSign w0 v w3) (hw : w.heap.size < w0.heap.size) (u0 u1 : Value) : QCanSign w v ((w3.setCell ⟨w.heap.size, 0, none⟩ u0).setCell ⟨w.heap.size, 1, none⟩ u1) := by
  obtain ⟨A, n, c, l, h1, h2, h3⟩ := h
  exact ⟨A, n, c, l, h1, h2, (Own.top (Own.store (Own.store h3 _ (.inl hw)) _ (.inl hw))).base (by omega)⟩
theorem drawOneKey_any (w : World) (A : Option Addr) (n c : Nat) (hn : n ≤ maxLen) (hr : BRow w w.heap.size A n) :
    Calls Try.prog 21 #[.slice A n c] w fun e w' => ∃ x : Int, e = .returned (.int .i64 x) ∧ 0 ≤ x ∧ x ≤ 100 ∧ Below w.heap.size w w' := by
  go_enter Try.func21, Try.ntmps21
  go_wp2_with fail
  refine (l1New_any w A n c hn hr).mono ?_
  rintro e w1 ⟨g, rfl, hc1, hb1⟩
  have hgB := hc1.1
  have HB1 := Lib.hid hb1
  clear hb1
  go_wp2_with fail
  refine (l1Below_any 101 _ _ g hc1).mono ?_
  rintro e w2 ⟨v, ⟨x, h0, h1, rfl⟩, rfl, hc2, hk2⟩
  have HB2 := Lib.hid (HB1.out.trans (hk2.below hgB HB1.out.size))
  have h2 : x ≤ 100 := by omega
  clear hk2 hc2 h1
  go_wp2
  go_ret
  exact ⟨x, rfl, h0, h2, HB2.out⟩
/-- two drawn sets of keys -/
def DrKK (w : World) (e : Ending) (w' : World) : Prop :=
  ∃ A n c l nd A' n' c' l' nd', e = .returned (.tuple #[.agg #[.slice A n c, .int .i64 nd], .agg #[.slice A' n' c', .int .i64 nd']]) ∧ AnyK l nd ∧ AnyK l' nd' ∧ Own .i64 w' w.heap.size w'.heap.size A n c l ∧ Own .i64 w' w.heap.size w'.heap.size A' n' c' l' ∧ Below w.heap.size w w'
end Go.Proofs.Ythhibhnclbnhlaa.D06K
