/- Contracts of the integer helpers of chapter 1 (code and model): what each call returns; every call returns, for all arguments. -/
import Derived.Test.YthhmhcmlbpdlbaaChecked
import Derived.WalkKit
import Derived.Below
import Derived.IntWalk
import Derived.Lib.Hide
import Derived.Outline
namespace Go.Proofs.Ythhmhcmlbpdlbaa.C01
open Go.RowKit
def inR (n a b : Int) : Bool := decide (a ≤ n) && decide (n ≤ b)
theorem inR_true {n a b : Int} (h1 : a ≤ n) (h2 : n ≤ b) : inR n a b = true := by simp [inR, h1, h2]
theorem inR_false {n a b : Int} (h : n < a ∨ b < n) : inR n a b = false := by unfold inR; rcases h with h | h <;> simp <;> omega
theorem inRange_any (n a b : Int) (w : World) : Calls Try.prog 78 #[.int .i64 n, .int .i64 a, .int .i64 b] w fun e w' => e = .returned (.bool (inR n a b)) ∧ w = w' := by
  unfold inR
  by_cases h1 : a ≤ n
  all_goals
    by_cases h2 : n ≤ b
    all_goals
      go_enter Try.func78, Try.ntmps78
      go_wp2
      go_ret
      simp <;> omega
theorem l1In_any (n a b : Int) (w : World) : Calls Try.prog 72 #[.int .i64 n, .int .i64 a, .int .i64 b] w fun e w' => e = .returned (.bool (inR n a b)) ∧ w = w' := by
  unfold inR
  by_cases h1 : a ≤ n
  all_goals
    by_cases h2 : n ≤ b
    all_goals
      go_enter Try.func72, Try.ntmps72
      go_wp2
      go_ret
      simp <;> omega
/-- a / b, rounded up, within the limits of chapter 1 (0 outside). -/
def ceilDiv (a b : Int) : Int := if inR a 0 1000000000000 && inR b 1 1000000000000 then (a + b - 1) / b else 0
/-- The remainder in 0 .. q-1 (0 where q is outside its limits). -/
def modQ (p q : Int) : Int := if inR q 1 1000000000000 then p % q else 0
theorem tmod_parts (a b : Int) (hb : 1 ≤ b) : (a.tmod b = a % b ∨ a.tmod b = a % b - b ∧ a % b ≠ 0) ∧ 0 ≤ a % b ∧ a % b < b := by
  refine ⟨?_, Int.emod_nonneg _ (by omega), Int.emod_lt_of_pos _ (by omega)⟩
  have h := Int.tmod_eq_emod (a := a) (b := b)
  split at h
  · left; omega
  · rename_i hn
    right
    refine ⟨by omega, fun e => hn (.inr (Int.dvd_of_emod_eq_zero e))⟩
theorem mod_neg {a b : Int} (hb1 : 1 ≤ b) (hb2 : b ≤ 1000000000000) (h : a.tmod b < 0) : wrap64 (a.tmod b + b) = a % b := by
  obtain ⟨h1, h2, h3⟩ := tmod_parts a b hb1
  generalize a.tmod b = t at *
  generalize a % b = m at *
  unfold wrap64; omega
theorem mod_nn {a b : Int} (hb1 : 1 ≤ b) (h : 0 ≤ a.tmod b) : a.tmod b = a % b := by
  obtain ⟨h1, h2, h3⟩ := tmod_parts a b hb1
  omega
theorem mod_two {a b : Int} (hb1 : 1 ≤ b) (hb2 : b ≤ 1000000000000) : (wrap64 (a.tmod b + b)).tmod b = a % b := by
  obtain ⟨h1, h2, h3⟩ := tmod_parts a b hb1
  have e : wrap64 (a.tmod b + b) = a.tmod b + b := by
    generalize a.tmod b = t at *
    generalize a % b = m at *
    unfold wrap64; omega
  rw [e, Int.tmod_eq_emod_of_nonneg (by omega)]
  rcases h1 with h1 | ⟨h1, _⟩ <;> rw [h1] <;> simp
theorem iMod_any (a b : Int) (w : World) : Calls Try.prog 86 #[.int .i64 a, .int .i64 b] w fun e w' => e = .returned (.int .i64 (modQ a b)) ∧ w = w' := by
  by_cases hb : 1 ≤ b ∧ b ≤ 1000000000000
  · obtain ⟨hb1, hb2⟩ := hb
    have h2 := inR_true hb1 hb2
    have hr : modQ a b = a % b := by simp [modQ, h2]
    have HR := Lib.hid hr
    clear hr
    go_enter Try.func86, Try.ntmps86
    go_wp2_with (go_at_call 78; refine (inRange_any _ _ _ _).mono ?_; rintro e w' ⟨rfl, rfl⟩)
    all_goals
      go_ret
      rw [HR.out]
      first | exact ⟨by rw [← mod_neg hb1 hb2 ‹_›]; rfl, rfl⟩ | exact ⟨by rw [← mod_nn hb1 ‹_›]; rfl, rfl⟩ | exact ⟨by rw [← mod_two hb1 hb2]; rfl, rfl⟩
  · have h2 := inR_false (n := b) (a := 1) (b := 1000000000000) (by omega)
    have hr : modQ a b = 0 := by simp [modQ, h2]
    have HR := Lib.hid hr
    clear hr hb
    go_enter Try.func86, Try.ntmps86
    go_wp2_with (go_at_call 78; refine (inRange_any _ _ _ _).mono ?_; rintro e w' ⟨rfl, rfl⟩)
    go_ret
    rw [HR.out]; simp
theorem sMod_any (a b : Int) (w : World) : Calls Try.prog 61 #[.int .i64 a, .int .i64 b] w fun e w' => e = .returned (.int .i64 (modQ a b)) ∧ w = w' := by
  by_cases hb : 1 ≤ b ∧ b ≤ 1000000000000
  · obtain ⟨hb1, hb2⟩ := hb
    have h2 := inR_true hb1 hb2
    have hr : modQ a b = a % b := by simp [modQ, h2]
    have HR := Lib.hid hr
    clear hr
    go_enter Try.func61, Try.ntmps61
    go_wp2_with (go_at_call 72; refine (l1In_any _ _ _ _).mono ?_; rintro e w' ⟨rfl, rfl⟩)
    all_goals
      go_ret
      rw [HR.out]
      first | exact ⟨by rw [← mod_neg hb1 hb2 ‹_›]; rfl, rfl⟩ | exact ⟨by rw [← mod_nn hb1 ‹_›]; rfl, rfl⟩ | exact ⟨by rw [← mod_two hb1 hb2]; rfl, rfl⟩
  · have h2 := inR_false (n := b) (a := 1) (b := 1000000000000) (by omega)
    have hr : modQ a b = 0 := by simp [modQ, h2]
    have HR := Lib.hid hr
    clear hr hb
    go_enter Try.func61, Try.ntmps61
    go_wp2_with (go_at_call 72; refine (l1In_any _ _ _ _).mono ?_; rintro e w' ⟨rfl, rfl⟩)
    go_ret
    rw [HR.out]; simp
end Go.Proofs.Ythhmhcmlbpdlbaa.C01
