/- Chapter 3: what the model's functions return. -/
import Derived.Test.YthfngiajicbdhaaC02B
import Derived.Test.YthfngiajicbdhaaM03
namespace Go.Proofs.Ythfngiajicbdhaa.C03S
open Go.RowKit Mem M02 C01 C02 C02B M03
set_option linter.unusedVariables false
theorem modQ_M (v : Int) : modQ v 2147483647 = v % 2147483647 := by simp [modQ, inR]
theorem modQ_256 (v : Int) : modQ v 256 = v % 256 := by simp [modQ, inR]
theorem in_i64 {z : Int} (h0 : -9223372036854775808 ≤ z) (h1 : z ≤ 9223372036854775807) : In .i64 z := by constructor <;> simp [IntKind.min, IntKind.max, IntKind.signed, IntKind.bits] <;> omega
theorem in_i64_iff {z : Int} (h : In .i64 z) : -9223372036854775808 ≤ z ∧ z ≤ 9223372036854775807 := by
  have e1 : IntKind.i64.min = -9223372036854775808 := rfl
  have e2 : IntKind.i64.max = 9223372036854775807 := rfl
  unfold In at h
  omega
theorem sHash_any (B : Nat) (A : Option Addr) (n c : Nat) (zs : List Int) (w : World) (h : Rd .i64 w B A n zs) (hn : n ≤ 1099511627776) :
    Calls Try.prog 55 #[.slice A n c] w fun e w' => e = .returned (.int .i64 (hsh zs)) ∧ w = w' := by
  have hl := h.len
  go_enter Try.func55, Try.ntmps55
  go_wp2
  go_loop [3, 4] (fun d i => ∃ (j : Nat) (x : Int), j ≤ n ∧ i = .int .i64 j ∧ d = .int .i64 x ∧ 0 ≤ x ∧ x < 2147483647 ∧ x = hsh (zs.take j)) (fun _ i => n - (intOf i).toNat)
  case atStart => exact ⟨0, 11, by omega, rfl, rfl, by omega, by omega, rfl⟩
  case round =>
    obtain ⟨j, x, hj, rfl, rfl, hx0, hx1, hx⟩ := hrel
    have HX := Lib.hid hx
    have HL := Lib.hid hl
    clear hx hl
    by_cases hjn : j < n
    · obtain ⟨b, off, rfl, _, hc⟩ := h.cell_at hjn
      have hs := hsh_succ (l := zs) (j := j) (by have := HL.out; omega)
      rw [← HX.out] at hs
      generalize zs.getD j 0 = z at hc hs
      obtain ⟨y, hy⟩ : ∃ y : Int, z % 2147483647 = y := ⟨_, rfl⟩
      have hy0 : 0 ≤ y := by omega
      have hy1 : y < 2147483647 := by omega
      have hM := sMod_any z 2147483647 w
      rw [modQ_M, hy] at hM
      have HM := Lib.hid hM
      unfold hstep at hs
      rw [hy] at hs
      have HS := Lib.hid hs
      clear hy hs hM h
      go_wp2_with fail
      refine HM.out.mono ?_
      rintro e w2 ⟨rfl, rfl⟩
      go_wp2
      go_round
      case rel => exact ⟨j + 1, _, by omega, by go_num, rfl, Int.emod_nonneg _ (by omega), Int.emod_lt_of_pos _ (by omega), HS.out.symm⟩
      case measure => simp [intOf]; omega
    · have e : zs.take j = zs := List.take_of_length_le (by have := HL.out; omega)
      have h2 := HX.out
      rw [e] at h2
      subst h2
      clear h e
      go_wp2
      go_ret
      exact ⟨rfl, rfl⟩
end Go.Proofs.Ythfngiajicbdhaa.C03S
