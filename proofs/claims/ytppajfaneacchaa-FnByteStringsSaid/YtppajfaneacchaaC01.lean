/- Contracts of the integer helpers of chapter 1 (code and model): what each call returns; every call returns, for all arguments. -/
import Derived.Test.YtppajfaneacchaaChecked
import Derived.WalkKit
import Derived.Below
import Derived.IntWalk
import Derived.Lib.Hide
import Derived.Outline
namespace Go.Proofs.Ytppajfaneacchaa.C01
open Go.RowKit
def inR (n a b : Int) : Bool := decide (a ≤ n) && decide (n ≤ b)
theorem inR_true {n a b : Int} (h1 : a ≤ n) (h2 : n ≤ b) : inR n a b = true := by simp [inR, h1, h2]
theorem inR_false {n a b : Int} (h : n < a ∨ b < n) : inR n a b = false := by unfold inR; rcases h with h | h <;> simp <;> omega
theorem inRange_any (n a b : Int) (w : World) : Calls Try.prog 47 #[.int .i64 n, .int .i64 a, .int .i64 b] w fun e w' => e = .returned (.bool (inR n a b)) ∧ w = w' := by
  unfold inR
  by_cases h1 : a ≤ n
  all_goals
    by_cases h2 : n ≤ b
    all_goals
      go_enter Try.func47, Try.ntmps47
      go_wp2
      go_ret
      simp <;> omega
theorem l1In_any (n a b : Int) (w : World) : Calls Try.prog 52 #[.int .i64 n, .int .i64 a, .int .i64 b] w fun e w' => e = .returned (.bool (inR n a b)) ∧ w = w' := by
  unfold inR
  by_cases h1 : a ≤ n
  all_goals
    by_cases h2 : n ≤ b
    all_goals
      go_enter Try.func52, Try.ntmps52
      go_wp2
      go_ret
      simp <;> omega
def ext (g : Bool) (a b : Int) : Int := if g then max a b else min a b
set_option maxHeartbeats 400000 in
theorem extreme_false (a b : Int) (bl off : Nat) (w : World) (hc : w.cell? ⟨bl, off, none⟩ = some (.int .i64 b)) :
    Calls Try.prog 56 #[.bool false, .int .i64 a, .slice (some ⟨bl, off, none⟩) 1 1] w fun e w' => e = .returned (.int .i64 (ext false a b)) ∧ w = w' := by
  by_cases h : a < b
  all_goals
    go_enter Try.func56, Try.ntmps56
    go_wp2
    go_loop [7, 9, 13] (fun v _ i => ∃ k : Nat, k ≤ 1 ∧ i = .int .i64 k ∧ ((k = 0 ∧ v = .int .i64 a) ∨ (k = 1 ∧ v = .int .i64 (ext false a b)))) (fun _ _ i => (1 - intOf i).toNat)
    case atStart => exact ⟨0, by omega, rfl, .inl ⟨rfl, rfl⟩⟩
    case round =>
      obtain ⟨k, hk, rfl, h⟩ := hrel
      rcases h with ⟨rfl, rfl⟩ | ⟨rfl, rfl⟩
      · go_wp2
        all_goals
          go_round
          case rel => exact ⟨1, by omega, rfl, .inr ⟨rfl, by simp only [ext, Value.int.injEq, true_and]; simp <;> omega⟩⟩
          case measure => simp [intOf]
      · go_wp2
        go_ret
        exact ⟨rfl, rfl⟩
set_option maxHeartbeats 400000 in
theorem extreme_true (a b : Int) (bl off : Nat) (w : World) (hc : w.cell? ⟨bl, off, none⟩ = some (.int .i64 b)) :
    Calls Try.prog 56 #[.bool true, .int .i64 a, .slice (some ⟨bl, off, none⟩) 1 1] w fun e w' => e = .returned (.int .i64 (ext true a b)) ∧ w = w' := by
  by_cases h : a < b
  all_goals
    go_enter Try.func56, Try.ntmps56
    go_wp2
    go_loop [7, 9, 13] (fun v _ i => ∃ k : Nat, k ≤ 1 ∧ i = .int .i64 k ∧ ((k = 0 ∧ v = .int .i64 a) ∨ (k = 1 ∧ v = .int .i64 (ext true a b)))) (fun _ _ i => (1 - intOf i).toNat)
    case atStart => exact ⟨0, by omega, rfl, .inl ⟨rfl, rfl⟩⟩
    case round =>
      obtain ⟨k, hk, rfl, h⟩ := hrel
      rcases h with ⟨rfl, rfl⟩ | ⟨rfl, rfl⟩
      · go_wp2
        all_goals
          go_round
          case rel => exact ⟨1, by omega, rfl, .inr ⟨rfl, by simp only [ext, Value.int.injEq, true_and]; simp <;> omega⟩⟩
          case measure => simp [intOf]
      · go_wp2
        go_ret
        exact ⟨rfl, rfl⟩
theorem iMin_any (a b : Int) (w : World) : Calls Try.prog 48 #[.int .i64 a, .int .i64 b] w fun e w' => e = .returned (.int .i64 (min a b)) ∧ Below w.heap.size w w' := by
  have hcell : ∀ t, (w.alloc (.cells #[.int .i64 b] t)).cell? ⟨w.heap.size, 0, none⟩ = some (.int .i64 b) := fun t => by simp
  go_enter Try.func48, Try.ntmps48
  go_wp2_with (go_at_call 56; refine (extreme_false _ _ _ _ _ (hcell _)).mono ?_; rintro e w' ⟨rfl, rfl⟩)
  go_ret
  exact ⟨rfl, (Below.refl _ _).alloc (Nat.le_refl _) _⟩
/-- a / b, rounded up, within the limits of chapter 1 (0 outside). -/
def ceilDiv (a b : Int) : Int := if inR a 0 1000000000000 && inR b 1 1000000000000 then (a + b - 1) / b else 0
/-- The remainder in 0 .. q-1 (0 where q is outside its limits). -/
def modQ (p q : Int) : Int := if inR q 1 1000000000000 then p % q else 0
theorem tmod_parts (a b : Int) (hb : 1 ≤ b) : (a.tmod b = a % b ∨ a.tmod b = a % b - b ∧ a % b ≠ 0) ∧ 0 ≤ a % b ∧ a % b < b := by
  refine ⟨?_, Int.emod_nonneg _ (by omega), Int.emod_lt_of_pos _ (by omega)⟩
  have h := Int.tmod_eq_emod (a := a) (b := b)
  split at h
  · left; omega
  · rename_i hn
    right
    refine ⟨by omega, fun e => hn (.inr (Int.dvd_of_emod_eq_zero e))⟩
theorem mod_neg {a b : Int} (hb1 : 1 ≤ b) (hb2 : b ≤ 1000000000000) (h : a.tmod b < 0) : wrap64 (a.tmod b + b) = a % b := by
  obtain ⟨h1, h2, h3⟩ := tmod_parts a b hb1
  generalize a.tmod b = t at *
  generalize a % b = m at *
  unfold wrap64; omega
theorem mod_nn {a b : Int} (hb1 : 1 ≤ b) (h : 0 ≤ a.tmod b) : a.tmod b = a % b := by
  obtain ⟨h1, h2, h3⟩ := tmod_parts a b hb1
  omega
theorem mod_two {a b : Int} (hb1 : 1 ≤ b) (hb2 : b ≤ 1000000000000) : (wrap64 (a.tmod b + b)).tmod b = a % b := by
  obtain ⟨h1, h2, h3⟩ := tmod_parts a b hb1
  have e : wrap64 (a.tmod b + b) = a.tmod b + b := by
    generalize a.tmod b = t at *
    generalize a % b = m at *
    unfold wrap64; omega
  rw [e, Int.tmod_eq_emod_of_nonneg (by omega)]
  rcases h1 with h1 | ⟨h1, _⟩ <;> rw [h1] <;> simp
end Go.Proofs.Ytppajfaneacchaa.C01
