/- The drawing functions of chapter 10: what they return, and that they write into nothing that was there. -/
import Derived.Test.YtbhhifoofapgiaaGreatD09
import Derived.Test.YtbhhifoofapgiaaGreatC10S
namespace Go.Proofs.YtbhhifoofapgiaaGreat.D10
open Go.RowKit Mem MemS M02 C01 C02 Rep RepA RW R08 Q08 M04 M05 M08 M09 M10 C10S D01 D08 D09 SL RKA
set_option linter.unusedVariables false
set_option maxRecDepth 100000
theorem in_wf {x : Int} (h : (Lit.int .i64 x).wf = true) : In .i64 x := by
  simp only [Lit.wf, Bool.and_eq_true, decide_eq_true_eq] at h
  exact ⟨h.1, h.2⟩
theorem ownI_kept {w w' : World} {g lo hi n c : Nat} {A : Option Addr} {zs : List Int} (h : Own .i64 w lo hi A n c zs) (hk : Kept g w w') (hg : g < lo) : Own .i64 w' lo hi A n c zs :=
  h.keep fun i h0 h1 _ => hk.block i h0 (by omega)
/-- leaves: from 0 to 99 -/
def Lv (l : List Int) : Prop := ∀ z ∈ l, 0 ≤ z ∧ z ≤ 99
def DrLv (m B g : Nat) (w : World) (e : Ending) (w' : World) : Prop :=
  ∃ A n c l, e = .returned (.slice A n c) ∧ n ≤ m ∧ Lv l ∧ Own .i64 w' w.heap.size w'.heap.size A n c l ∧ Cur w' B g ∧ Kept g w w'
def DrRL (w : World) (e : Ending) (w' : World) : Prop :=
  ∃ A n c l, e = .returned (.slice A n c) ∧ SmL 18 l ∧ FOwnEntry w' w.heap.size w'.heap.size A n c l ∧ Below w.heap.size w w'
theorem sm_fine {k : Entry} (h : SmE k) : totEntry k ≤ 200 := by
  obtain ⟨h0, _, _, h3, h4⟩ := h
  have h5 : ∀ l : List ByteArray, (∀ s ∈ l, s.size ≤ 16) → (l.map ByteArray.size).sum ≤ l.length * 16 := by
    intro l
    induction l with
    | nil => intro _; simp
    | cons x r ih =>
      intro h
      have h1 := ih fun s hs => h s (List.mem_cons_of_mem _ hs)
      have h2 := h x List.mem_cons_self
      simp only [List.length_cons, List.map_cons, List.sum_cons]
      omega
  have := h5 _ h4
  unfold totEntry totSS
  omega
theorem smL_fine {m : Nat} {l : List Entry} (h : SmL m l) : totR totEntry l ≤ m * 201 := by
  have key : ∀ l : List Entry, (∀ e ∈ l, SmE e) → totR totEntry l ≤ l.length * 201 := by
    intro l
    induction l with
    | nil => intro _; simp [totR]
    | cons z r ih =>
      intro hz
      have h1 := ih fun e he => hz e (by simp [he])
      have h2 := sm_fine (hz z (by simp))
      have h3 : totR totEntry (z :: r) = totEntry z + 1 + totR totEntry r := by unfold totR; simp; omega
      rw [h3, List.length_cons]
      omega
  have h1 := key l h.2
  exact Nat.le_trans h1 (Nat.mul_le_mul_right 201 h.1)
def DrTF (w : World) (e : Ending) (w' : World) : Prop :=
  ∃ a b m A n c p, e = .returned (.tuple #[.int .i64 a, .int .i64 b, .int .i64 m, .slice A n c]) ∧ In .i64 a ∧ In .i64 b ∧ In .i64 m ∧ n ≤ 13 ∧ Rd .i64 w' w'.heap.size A n p ∧ Below w.heap.size w w'
end Go.Proofs.YtbhhifoofapgiaaGreat.D10
