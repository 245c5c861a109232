/- Chapter 3: what the model's functions return. -/
import Derived.Test.YtcpfdhammhcoaaaC02B
import Derived.Test.YtcpfdhammhcoaaaM03
namespace Go.Proofs.Ytcpfdhammhcoaaa.C03S
open Go.RowKit Mem M02 C01 C02 C02B M03
set_option linter.unusedVariables false
theorem modQ_M (v : Int) : modQ v 2147483647 = v % 2147483647 := by simp [modQ, inR]
theorem modQ_256 (v : Int) : modQ v 256 = v % 256 := by simp [modQ, inR]
theorem in_i64 {z : Int} (h0 : -9223372036854775808 ≤ z) (h1 : z ≤ 9223372036854775807) : In .i64 z := by constructor <;> simp [IntKind.min, IntKind.max, IntKind.signed, IntKind.bits] <;> omega
theorem in_i64_iff {z : Int} (h : In .i64 z) : -9223372036854775808 ≤ z ∧ z ≤ 9223372036854775807 := by
  have e1 : IntKind.i64.min = -9223372036854775808 := rfl
  have e2 : IntKind.i64.max = 9223372036854775807 := rfl
  unfold In at h
  omega
theorem sHash_any (B : Nat) (A : Option Addr) (n c : Nat) (zs : List Int) (w : World) (h : Rd .i64 w B A n zs) (hn : n ≤ 1099511627776) :
    Calls Try.prog 46 #[.slice A n c] w fun e w' => e = .returned (.int .i64 (hsh zs)) ∧ w = w' := by
  have hl := h.len
  go_enter Try.func46, Try.ntmps46
  go_wp2
  go_loop [3, 4] (fun d i => ∃ (j : Nat) (x : Int), j ≤ n ∧ i = .int .i64 j ∧ d = .int .i64 x ∧ 0 ≤ x ∧ x < 2147483647 ∧ x = hsh (zs.take j)) (fun _ i => n - (intOf i).toNat)
  case atStart => exact ⟨0, 11, by omega, rfl, rfl, by omega, by omega, rfl⟩
  case round =>
    obtain ⟨j, x, hj, rfl, rfl, hx0, hx1, hx⟩ := hrel
    have HX := Lib.hid hx
    have HL := Lib.hid hl
    clear hx hl
    by_cases hjn : j < n
    · obtain ⟨b, off, rfl, _, hc⟩ := h.cell_at hjn
      have hs := hsh_succ (l := zs) (j := j) (by have := HL.out; omega)
      rw [← HX.out] at hs
      generalize zs.getD j 0 = z at hc hs
      obtain ⟨y, hy⟩ : ∃ y : Int, z % 2147483647 = y := ⟨_, rfl⟩
      have hy0 : 0 ≤ y := by omega
      have hy1 : y < 2147483647 := by omega
      have hM := sMod_any z 2147483647 w
      rw [modQ_M, hy] at hM
      have HM := Lib.hid hM
      unfold hstep at hs
      rw [hy] at hs
      have HS := Lib.hid hs
      clear hy hs hM h
      go_wp2_with fail
      refine HM.out.mono ?_
      rintro e w2 ⟨rfl, rfl⟩
      go_wp2
      go_round
      case rel => exact ⟨j + 1, _, by omega, by go_num, rfl, Int.emod_nonneg _ (by omega), Int.emod_lt_of_pos _ (by omega), HS.out.symm⟩
      case measure => simp [intOf]; omega
    · have e : zs.take j = zs := List.take_of_length_le (by have := HL.out; omega)
      have h2 := HX.out
      rw [e] at h2
      subst h2
      clear h e
      go_wp2
      go_ret
      exact ⟨rfl, rfl⟩
theorem sBytesToInts_any (A : Option Addr) (n c : Nat) (zs : List Int) (w : World) (h : Rd .u8 w w.heap.size A n zs) (hn : n ≤ 1099511627) :
    Calls Try.prog 85 #[.slice A n c] w fun e w' => ∃ A' c', e = .returned (.slice A' (n + 1) c') ∧ Own .i64 w' w.heap.size w'.heap.size A' (n + 1) c' (bti zs) ∧ Below w.heap.size w w' := by
  have hl := h.len
  have hni : In .i64 (n : Int) := in_i64 (by omega) (by omega)
  have H0 := Lib.hid (show Own .i64 (w.alloc (.cells #[.int .i64 (n : Int)] 3)) w.heap.size (w.heap.size + 1) (some ⟨w.heap.size, 0, none⟩) 1 1 [(n : Int)] from Own.lit1 .i64 w hni (Nat.le_refl _))
  have HB := Lib.hid ((Below.refl _ w).alloc (Nat.le_refl _) (.cells #[.int .i64 (n : Int)] 3))
  have H := Lib.hid h
  have HL := Lib.hid hl
  clear h hl hni
  go_enter Try.func85, Try.ntmps85
  go_wp2
  go_loopw [3, 4] (fun v i wr => ∃ (A1 : Option Addr) (c1 j : Nat), v = .slice A1 (j + 1) c1 ∧ i = .int .i64 j ∧ j ≤ n ∧ Own .i64 wr w.heap.size wr.heap.size A1 (j + 1) c1 ((n : Int) :: zs.take j) ∧ Below w.heap.size w wr) (fun _ i _ => n - (intOf i).toNat)
  case atStart => exact ⟨_, 1, 0, rfl, rfl, by omega, H0.out.top, HB.out⟩
  case round =>
    obtain ⟨A1, c1, j, rfl, rfl, hj, hown, hbel⟩ := hrel
    have HO := Lib.hid hown
    have HX := Lib.hid hbel
    clear hown hbel
    by_cases hjn : j < n
    · obtain ⟨b, off, rfl, hlt, hc⟩ := (H.out.below HX.out (Nat.le_refl _)).cell_at hjn
      have hz := byt_in H.out.wf (zs.getD j 0) (by have := HL.out; simp [List.getD, List.getElem?_eq_getElem (show j < zs.length by omega)])
      have ht : zs.take (j + 1) = zs.take j ++ [zs.getD j 0] := by
        have := HL.out
        rw [List.take_succ_eq_append_getElem (show j < zs.length by omega)]
        simp [List.getD, List.getElem?_eq_getElem (show j < zs.length by omega)]
      generalize zs.getD j 0 = z at hc hz ht
      have hzi : In .i64 z := in_i64 (by omega) (by omega)
      have HT := Lib.hid ht
      clear ht
      go_wp2_with (at_builtin; refine wp_push (k := .i64) (z := z) (by unfold BI; decide) rfl _ _ rfl rfl HO.out rfl hzi (by omega) HX.out.size ?_; intro A2 c2 w2 hown2 hgr2)
      go_roundw
      case rel => exact ⟨A2, c2, j + 1, rfl, by go_num, by omega, by rw [HT.out]; exact hown2, HX.out.trans (hgr2.below HX.out.size HO.out.ge)⟩
      case measure => simp [intOf]; omega
    · have hj2 : j = n := by omega
      subst hj2
      have e : (j : Int) :: zs.take j = bti zs := by
        have := HL.out
        rw [← this, List.take_length]
        rfl
      have HE := Lib.hid e
      clear e
      go_wp2
      go_ret
      rw [← HE.out]
      exact ⟨_, _, rfl, HO.out, HX.out⟩
end Go.Proofs.Ytcpfdhammhcoaaa.C03S
