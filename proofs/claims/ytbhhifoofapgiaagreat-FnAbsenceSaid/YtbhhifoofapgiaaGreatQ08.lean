/- Rows of Entry: what owns what; the laws' own helpers on rows of it. -/
import Derived.Test.YtbhhifoofapgiaaGreatRW
import Derived.Test.YtbhhifoofapgiaaGreatM08
import Derived.Test.YtbhhifoofapgiaaGreatT08
namespace Go.Proofs.YtbhhifoofapgiaaGreat.Q08
open Go.RowKit Mem MemS Rep RepA RW R08 T04 T05 T08 M04
set_option linter.unusedVariables false
set_option maxRecDepth 100000
theorem REntry_n : REntry.n = 4 := rfl
theorem REntry_ownF {w : World} {F : List Nat} {cs : List Value} {k : Entry} : REntry.own w F cs k ↔ ∃ (A3 : Option Addr) (n3 c3 : Nat), cs = [.string k.label, .int .i64 k.kind, .int .i64 k.value, .slice A3 n3 c3] ∧ InS k.label ∧ In .i64 k.kind ∧ In .i64 k.value ∧ OwnF RS w F A3 n3 c3 k.path := by
  constructor
  · rintro ⟨G0, H0, d0, e0, rfl, rfl, ⟨rfl, rfl, h0⟩, ⟨G1, H1, d1, e1, rfl, rfl, ⟨rfl, rfl, h1⟩, ⟨G2, H2, d2, e2, rfl, rfl, ⟨rfl, rfl, h2⟩, ⟨A3, n3, c3, rfl, h3⟩⟩⟩⟩
    exact ⟨A3, n3, c3, rfl, h0, h1, h2, h3⟩
  · rintro ⟨A3, n3, c3, rfl, h0, h1, h2, h3⟩
    exact ⟨[], F, _, _, rfl, rfl, ⟨rfl, rfl, h0⟩, ⟨[], F, _, _, rfl, rfl, ⟨rfl, rfl, h1⟩, ⟨[], F, _, _, rfl, rfl, ⟨rfl, rfl, h2⟩, ⟨A3, n3, c3, rfl, h3⟩⟩⟩⟩
theorem REntry_set0 {w : World} {F : List Nat} {cs : List Value} {k : Entry} (h : REntry.own w F cs k) {v : ByteArray} (hv : InS v) : REntry.own w F (cs.set 0 (.string v)) ⟨v, k.kind, k.value, k.path⟩ := by
  obtain ⟨A3, n3, c3, rfl, h0, h1, h2, h3⟩ := REntry_ownF.1 h
  exact REntry_ownF.2 ⟨_, _, _, rfl, hv, h1, h2, h3⟩
theorem REntry_set1 {w : World} {F : List Nat} {cs : List Value} {k : Entry} (h : REntry.own w F cs k) {v : Int} (hv : In .i64 v) : REntry.own w F (cs.set 1 (.int .i64 v)) ⟨k.label, v, k.value, k.path⟩ := by
  obtain ⟨A3, n3, c3, rfl, h0, h1, h2, h3⟩ := REntry_ownF.1 h
  exact REntry_ownF.2 ⟨_, _, _, rfl, h0, hv, h2, h3⟩
theorem REntry_set2 {w : World} {F : List Nat} {cs : List Value} {k : Entry} (h : REntry.own w F cs k) {v : Int} (hv : In .i64 v) : REntry.own w F (cs.set 2 (.int .i64 v)) ⟨k.label, k.kind, v, k.path⟩ := by
  obtain ⟨A3, n3, c3, rfl, h0, h1, h2, h3⟩ := REntry_ownF.1 h
  exact REntry_ownF.2 ⟨_, _, _, rfl, h0, h1, hv, h3⟩
theorem ownS_ex {w : World} {F : List Nat} {A : Option Addr} {n c : Nat} {zs : List ByteArray} (h : OwnF RS w F A n c zs) : ∃ lo hi, OwnS w lo hi A n c zs ∧ (∀ x, lo ≤ x → x < hi → x ∈ F) ∧ ∀ w' ys, OwnS w' lo hi A n c ys → OwnF RS w' F A n c ys := by
  have h' := h
  obtain ⟨raw, Fe, h1, rfl, h3, h4⟩ := h'
  obtain ⟨rfl, _, _⟩ := els_leaf h4
  rw [List.append_nil] at h ⊢
  cases A with
  | none => exact ⟨0, 0, h.strs (fun b hb => by cases hb), fun x _ h => absurd h (by omega), fun w' ys hy => OwnF.of_strs hy⟩
  | some a => exact ⟨a.block, a.block + 1, h.strs (fun b hb => by have : b = a.block := by simpa [blk] using hb
                                                                  omega), fun x h1 h2 => by have : x = a.block := by omega
                                                                                            simp [blk, this], fun w' ys hy => OwnF.of_strs hy⟩
theorem fr_sub {lo hi lo' hi' : Nat} {w w' : World} (h : Fr lo' hi' w w') (hs : ∀ x, lo' ≤ x → x < hi' → lo ≤ x ∧ x < hi) : Fr lo hi w w' :=
  ⟨h.os, h.tape, h.output, h.size, fun k hk ho => h.block k hk (by
    by_cases h1 : lo' ≤ k ∧ k < hi'
    · have := hs k h1.1 h1.2
      omega
    · omega)⟩
theorem getD_set {α : Type} [Inhabited α] {ys : List α} {j : Nat} {z : α} (h : j < ys.length) : (ys.set j z).getD j default = z := by
  simp [List.getD, h]
abbrev FRdEntry (w : World) (B : Nat) (A : Option Addr) (n : Nat) (zs : List Entry) : Prop := Rds REntry w (Lt B) A n zs
abbrev FOwnEntry (w : World) (lo hi : Nat) (A : Option Addr) (n c : Nat) (zs : List Entry) : Prop := Owns REntry w lo hi A n c zs
def zeroEntry : Entry := ⟨.empty, 0, 0, []⟩
theorem tiEntry : Ti REntry 24 := by
  refine ⟨by kernel_rfl, by decide, ?_⟩
  obtain ⟨i, h1, h2, h3, h4⟩ := info_parts (show (Tryz.prog.info? 29).map (fun i => (i.zero, i.size, i.bytes)) = some (some (.agg #[.string .empty, .int .i64 0, .int .i64 0, .slice none 0 0]), 4, 56) by kernel_rfl)
  exact ⟨i, _, h1, h2, rfl, h3, by omega⟩
theorem REntry_zero (w : World) : REntry.own w [] [.string .empty, .int .i64 0, .int .i64 0, .slice none 0 0] zeroEntry := REntry_ownF.2 ⟨none, 0, 0, rfl, by unfold InS maxLen; decide, by unfold In; decide, by unfold In; decide, OwnF.nil _ _⟩
def fullEntry (z : Entry) : Nat := 3 + z.path.length
def mkEEntry (q : Int) (z : Entry) : Entry := ⟨mkT (q), q + 1, q + 1 + 1, marksS (q + 1 + 1 + 1) z.path.length⟩
theorem fullEntry_le (z : Entry) : fullEntry z ≤ 16 * (totEntry z + 1) := by
  unfold fullEntry totEntry
  have := totSS_len z.path
  omega
end Go.Proofs.YtbhhifoofapgiaaGreat.Q08
