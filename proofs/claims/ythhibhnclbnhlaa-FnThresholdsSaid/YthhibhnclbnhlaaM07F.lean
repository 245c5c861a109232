/- Chapter 7: a longer message has another tag, for the drawn keys and messages. -/
import Derived.Test.YthhibhnclbnhlaaM07
namespace Go.Proofs.Ythhibhnclbnhlaa.M07F
set_option linter.unusedVariables false
set_option maxRecDepth 100000
open Go.RowKit M03 M06 M07 C01
def digs : List Int := [0, 1, 2, 3, 4, 5, 6, 7, 8]
def chk (x : Int) : Nat → Int → Bool
  | 0, a => hstep a x != hstep (hstep a 1) x
  | d + 1, a => (hstep a x != hstep (hstep a 1) x) && digs.all fun v => chk x d (hstep a v)
theorem chk_all : (keys99.all fun x => chk x 3 (hstep (hstep 11 x) 223)) = true := by decide +kernel
theorem digs_mem {v : Int} (h0 : 0 ≤ v) (h1 : v ≤ 8) : v ∈ digs := by
  have : v = 0 ∨ v = 1 ∨ v = 2 ∨ v = 3 ∨ v = 4 ∨ v = 5 ∨ v = 6 ∨ v = 7 ∨ v = 8 := by omega
  rcases this with rfl | rfl | rfl | rfl | rfl | rfl | rfl | rfl | rfl <;> simp [digs]
theorem chk_tells {x : Int} : ∀ (d : Nat) (a : Int), chk x d a = true → ∀ m : List Int, m.length ≤ d → (∀ v ∈ m, 0 ≤ v ∧ v ≤ 8) → (m ++ [x]).foldl hstep a ≠ (m ++ [1, x]).foldl hstep a
  | 0, a, h, m, hl, _ => by
    obtain rfl : m = [] := List.eq_nil_of_length_eq_zero (Nat.le_zero.1 hl)
    simp only [List.nil_append, List.foldl_cons, List.foldl_nil]
    exact bne_iff_ne.1 h
  | d + 1, a, h, m, hl, hv => by
    unfold chk at h
    simp only [Bool.and_eq_true] at h
    cases m with
    | nil =>
      simp only [List.nil_append, List.foldl_cons, List.foldl_nil]
      exact bne_iff_ne.1 h.1
    | cons v r =>
      have h1 := List.all_eq_true.1 h.2 v (digs_mem (hv v (by simp)).1 (hv v (by simp)).2)
      have h2 := chk_tells d (hstep a v) h1 r (by simpa using hl) fun y hy => hv y (by simp [hy])
      simpa using h2
theorem keys99_mem {x : Int} (h0 : 1 ≤ x) (h1 : x ≤ 99) : x ∈ keys99 := by
  refine List.mem_map.2 ⟨(x - 1).toNat, List.mem_range.2 (by omega), by omega⟩
/-- a drawn message with a 1 behind it has another tag -/
theorem tag_more {x : Int} {m : List Int} (h0 : 1 ≤ x) (h1 : x ≤ 99) (hl : m.length ≤ 3) (hv : ∀ v ∈ m, 0 ≤ v ∧ v ≤ 8) : tagOf x m ≠ tagOf x (m ++ [1]) := by
  have h := List.all_eq_true.1 chk_all x (keys99_mem h0 h1)
  have h2 := chk_tells 3 _ h m hl hv
  unfold tagOf kh hsh
  simpa using h2
end Go.Proofs.Ythhibhnclbnhlaa.M07F
