/- Chapter 3: what the model's functions return. -/
import Derived.Test.YthhibhnclbnhlaaC02B
import Derived.Test.YthhibhnclbnhlaaM03
namespace Go.Proofs.Ythhibhnclbnhlaa.C03S
open Go.RowKit Mem M02 C01 C02 C02B M03
set_option linter.unusedVariables false
theorem modQ_M (v : Int) : modQ v 2147483647 = v % 2147483647 := by simp [modQ, inR]
theorem modQ_256 (v : Int) : modQ v 256 = v % 256 := by simp [modQ, inR]
theorem in_i64 {z : Int} (h0 : -9223372036854775808 ≤ z) (h1 : z ≤ 9223372036854775807) : In .i64 z := by constructor <;> simp [IntKind.min, IntKind.max, IntKind.signed, IntKind.bits] <;> omega
theorem in_i64_iff {z : Int} (h : In .i64 z) : -9223372036854775808 ≤ z ∧ z ≤ 9223372036854775807 := by
  have e1 : IntKind.i64.min = -9223372036854775808 := rfl
  have e2 : IntKind.i64.max = 9223372036854775807 := rfl
  unfold In at h
  omega
theorem sHash_any (B : Nat) (A : Option Addr) (n c : Nat) (zs : List Int) (w : World) (h : Rd .i64 w B A n zs) (hn : n ≤ 1099511627776) :
    Calls Try.prog 74 #[.slice A n c] w fun e w' => e = .returned (.int .i64 (hsh zs)) ∧ w = w' := by
  have hl := h.len
  go_enter Try.func74, Try.ntmps74
  go_wp2
  go_loop [3, 4] (fun d i => ∃ (j : Nat) (x : Int), j ≤ n ∧ i = .int .i64 j ∧ d = .int .i64 x ∧ 0 ≤ x ∧ x < 2147483647 ∧ x = hsh (zs.take j)) (fun _ i => n - (intOf i).toNat)
  case atStart => exact ⟨0, 11, by omega, rfl, rfl, by omega, by omega, rfl⟩
  case round =>
    obtain ⟨j, x, hj, rfl, rfl, hx0, hx1, hx⟩ := hrel
    have HX := Lib.hid hx
    have HL := Lib.hid hl
    clear hx hl
    by_cases hjn : j < n
    · obtain ⟨b, off, rfl, _, hc⟩ := h.cell_at hjn
      have hs := hsh_succ (l := zs) (j := j) (by have := HL.out; omega)
      rw [← HX.out] at hs
      generalize zs.getD j 0 = z at hc hs
      obtain ⟨y, hy⟩ : ∃ y : Int, z % 2147483647 = y := ⟨_, rfl⟩
      have hy0 : 0 ≤ y := by omega
      have hy1 : y < 2147483647 := by omega
      have hM := sMod_any z 2147483647 w
      rw [modQ_M, hy] at hM
      have HM := Lib.hid hM
      unfold hstep at hs
      rw [hy] at hs
      have HS := Lib.hid hs
      clear hy hs hM h
      go_wp2_with fail
      refine HM.out.mono ?_
      rintro e w2 ⟨rfl, rfl⟩
      go_wp2
      go_round
      case rel => exact ⟨j + 1, _, by omega, by go_num, rfl, Int.emod_nonneg _ (by omega), Int.emod_lt_of_pos _ (by omega), HS.out.symm⟩
      case measure => simp [intOf]; omega
    · have e : zs.take j = zs := List.take_of_length_le (by have := HL.out; omega)
      have h2 := HX.out
      rw [e] at h2
      subst h2
      clear h e
      go_wp2
      go_ret
      exact ⟨rfl, rfl⟩
theorem sKeyedHash_any (A : Option Addr) (k : Int) (n c : Nat) (zs : List Int) (w : World) (h : Rd .i64 w w.heap.size A n zs) (hn : n ≤ 1099511627) (hk0 : -9223372036854775808 ≤ k) (hk1 : k ≤ 9223372036854775807) :
    Calls Try.prog 63 #[.int .i64 k, .slice A n c] w fun e w' => e = .returned (.int .i64 (kh k zs)) ∧ Below w.heap.size w w' := by
  have hki := in_i64 hk0 hk1
  have h0 : Own .i64 (w.alloc (.cells #[.int .i64 k] 3)) w.heap.size (w.heap.size + 1) (some ⟨w.heap.size, 0, none⟩) 1 1 [k] := Own.lit1 .i64 w hki (Nat.le_refl _)
  have h1 := h.alloc (Nat.le_refl _) (.cells #[.int .i64 k] 3)
  have hb0 : Below w.heap.size w (w.alloc (.cells #[.int .i64 k] 3)) := (Below.refl _ _).alloc (Nat.le_refl _) _
  have H0 := Lib.hid h0
  have H1 := Lib.hid h1
  have HB := Lib.hid hb0
  clear h0 h1 hb0 h
  go_enter Try.func63, Try.ntmps63
  go_wp2_with (first
    | (at_builtin; refine wp_app (k := .i64) (by unfold BI; decide) rfl (.tmp 6) (.tmp 7) rfl rfl H0.out rfl H1.out (by omega) HB.out.size ?_; intro A1 c1 w1 hown1 hgr1; have HO1 := Lib.hid hown1; have HB1 := Lib.hid (HB.out.trans (hgr1.below HB.out.size H0.out.ge)); clear hown1 hgr1)
    | (at_builtin; refine wp_push (k := .i64) (z := k) (by unfold BI; decide) rfl (.tmp 8) (.tmp 10) rfl rfl HO1.out rfl hki (by omega) HB1.out.size ?_; intro A2 c2 w2 hown2 hgr2; have HO2 := Lib.hid hown2; have HB2 := Lib.hid (HB1.out.trans (hgr2.below HB1.out.size HO1.out.ge)); clear hown2 hgr2)
    | (go_at_call 74; refine (sHash_any _ A2 _ c2 _ _ HO2.out.rd (by omega)).mono ?_; rintro e w3 ⟨rfl, rfl⟩))
  go_ret
  exact ⟨by simp [kh], HB2.out⟩
end Go.Proofs.Ythhibhnclbnhlaa.C03S
