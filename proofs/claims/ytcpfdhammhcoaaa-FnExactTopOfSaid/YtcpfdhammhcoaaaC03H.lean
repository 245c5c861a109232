/- Chapter 3: the code's hashes and keys. -/
import Derived.Test.YtcpfdhammhcoaaaC03S
import Derived.Test.YtcpfdhammhcoaaaC03D
import Derived.Test.YtcpfdhammhcoaaaT01
namespace Go.Proofs.Ytcpfdhammhcoaaa.C03H
open Go.RowKit Mem M02 C01 C02 C02B M03 C03S C03D T01
set_option linter.unusedVariables false
theorem fold_succ {a : Int} {l : List Int} {j : Nat} (hj : j < l.length) : (l.take (j + 1)).foldl hstep a = hstep ((l.take j).foldl hstep a) (l.getD j 0) := by
  rw [List.take_succ_eq_append_getElem hj, List.foldl_append]
  simp [List.getD, List.getElem?_eq_getElem hj]
theorem iFold_any (B : Nat) (A : Option Addr) (n c : Nat) (zs : List Int) (a : Int) (w : World) (h : Rd .i64 w B A n zs) (hn : n ≤ 1099511627776) (ha0 : 0 ≤ a) (ha1 : a < 2147483647) :
    Calls Try.prog 60 #[.int .i64 a, .slice A n c] w fun e w' => e = .returned (.int .i64 (zs.foldl hstep a)) ∧ w = w' := by
  have hl := h.len
  go_enter Try.func60, Try.ntmps60
  go_wp2
  go_loop [0, 9] (fun d i => ∃ (j : Nat) (x : Int), j ≤ n ∧ i = .int .i64 j ∧ d = .int .i64 x ∧ 0 ≤ x ∧ x < 2147483647 ∧ x = (zs.take j).foldl hstep a) (fun _ i => n - (intOf i).toNat)
  case atStart => exact ⟨0, a, by omega, rfl, rfl, by omega, by omega, rfl⟩
  case round =>
    obtain ⟨j, x, hj, rfl, rfl, hx0, hx1, hx⟩ := hrel
    have HX := Lib.hid hx
    have HL := Lib.hid hl
    clear hx hl
    by_cases hjn : j < n
    · obtain ⟨b, off, rfl, _, hc⟩ := h.cell_at hjn
      have hs := fold_succ (a := a) (l := zs) (j := j) (by have := HL.out; omega)
      rw [← HX.out] at hs
      generalize zs.getD j 0 = z at hc hs
      obtain ⟨y, hy⟩ : ∃ y : Int, z % 2147483647 = y := ⟨_, rfl⟩
      have hy0 : 0 ≤ y := by omega
      have hy1 : y < 2147483647 := by omega
      have hM := iMod_any z 2147483647 w
      rw [modQ_M, hy] at hM
      have HM := Lib.hid hM
      unfold hstep at hs
      rw [hy] at hs
      have HS := Lib.hid hs
      clear hy hs hM h
      go_wp2_with fail
      refine HM.out.mono ?_
      rintro e w2 ⟨rfl, rfl⟩
      go_wp2
      go_round
      case rel => exact ⟨j + 1, _, by omega, by go_num, rfl, Int.emod_nonneg _ (by omega), Int.emod_lt_of_pos _ (by omega), HS.out.symm⟩
      case measure => simp [intOf]; omega
    · have e : zs.take j = zs := List.take_of_length_le (by have := HL.out; omega)
      have h2 := HX.out
      rw [e] at h2
      subst h2
      clear h e
      go_wp2
      go_ret
      exact ⟨rfl, rfl⟩
theorem iHash_any (A : Option Addr) (n c : Nat) (zs : List Int) (w : World) (h : Rd .i64 w w.heap.size A n zs) (hn : n ≤ 1099511627776) :
    Calls Try.prog 44 #[.slice A n c] w fun e w' => e = .returned (.int .i64 (hsh zs)) ∧ Below w.heap.size w w' := by
  have HF := Lib.hid (iFold_any _ A n c zs 11 w h hn (by omega) (by omega))
  clear h
  go_enter Try.func44, Try.ntmps44
  go_wp2_with fail
  refine HF.out.mono ?_
  rintro e w2 ⟨rfl, rfl⟩
  go_wp2
  go_ret
  exact ⟨rfl, Below.refl _ _⟩
end Go.Proofs.Ytcpfdhammhcoaaa.C03H
