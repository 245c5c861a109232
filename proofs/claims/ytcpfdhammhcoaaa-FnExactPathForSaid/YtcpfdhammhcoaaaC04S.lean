/- Chapter 4: what the model's functions on labels return. -/
import Derived.Test.YtcpfdhammhcoaaaM04
import Derived.Test.YtcpfdhammhcoaaaC02B
import Derived.Test.YtcpfdhammhcoaaaC03S
import Derived.Test.YtcpfdhammhcoaaaMemS
import Derived.Test.YtcpfdhammhcoaaaT01
import Derived.Laws.Cover1
import Derived.IntWalk
namespace Go.Proofs.Ytcpfdhammhcoaaa.C04S
open Go.RowKit Mem MemS M02 M03 M04 C01 C02 C02B C03S C03D T01
set_option linter.unusedVariables false
/-- how a byte compares with the letters' and digits' ends -/
theorem lab_cases {x : Int} (h0 : 0 ≤ x) (h1 : x ≤ 255) :
    (labB x = true ∧ ¬ x < 97 ∧ ¬ x > 122 ∧ x ≠ 45) ∨ (labB x = true ∧ x < 97 ∧ ¬ x < 48 ∧ ¬ x > 57 ∧ x ≠ 45) ∨ (labB x = true ∧ x = 45) ∨
    (labB x = false ∧ x < 97 ∧ x < 48 ∧ x ≠ 45) ∨ (labB x = false ∧ x < 97 ∧ ¬ x < 48 ∧ x > 57 ∧ x ≠ 45) ∨ (labB x = false ∧ ¬ x < 97 ∧ x > 122 ∧ ¬ x < 48 ∧ x > 57 ∧ x ≠ 45) := by
  unfold labB
  simp only [decide_eq_true_eq, decide_eq_false_iff_not]
  omega
set_option maxHeartbeats 1000000 in
theorem sIsLabel_any (s : ByteArray) (w : World) (hs : s.size ≤ 1099511627776) : Calls Try.prog 95 #[.string s] w fun e w' => e = .returned (.bool (isLab s)) ∧ w = w' := by
  by_cases hn : 1 ≤ s.size ∧ s.size ≤ 8
  · have hr : inR (s.size : Int) 1 8 = true := inR_true (by omega) (by omega)
    have h0s : 0 < s.size := by omega
    have h8s : s.size - 1 < s.size := by omega
    have b0 := byte_lt s 0 h0s
    have b1 := byte_lt s (s.size - 1) h8s
    have hix : ((s.size : Int) - 1).toNat = s.size - 1 := by omega
    by_cases hf : ((s[0]'h0s).toNat : Int) = 45
    · rw [isLab_first h0s hf]
      clear b1 h8s hix
      go_enter Try.func95, Try.ntmps95
      go_wp2_with (go_at_call 42; refine (l1In_any _ _ _ _).mono ?_; rintro e w1 ⟨rfl, rfl⟩)
      go_ret
      exact ⟨rfl, rfl⟩
    by_cases hl : ((s[s.size - 1]'h8s).toNat : Int) = 45
    · rw [isLab_last h8s hl]
      go_enter Try.func95, Try.ntmps95
      go_wp2_with (go_at_call 42; refine (l1In_any _ _ _ _).mono ?_; rintro e w1 ⟨rfl, rfl⟩)
      go_ret
      exact ⟨rfl, rfl⟩
    rw [isLab_all hn h0s h8s hf hl]
    have hfb : (((s[0]'h0s).toNat : Int) == 45) = false := beq_eq_false_iff_ne.2 hf
    have hlb : (((s[s.size - 1]'h8s).toNat : Int) == 45) = false := beq_eq_false_iff_ne.2 hl
    clear hf hl
    go_enter Try.func95, Try.ntmps95
    go_wp2_with (go_at_call 42; refine (l1In_any _ _ _ _).mono ?_; rintro e w1 ⟨rfl, rfl⟩)
    clear hfb hlb b0 b1 hr
    go_loop [3] (fun i => ∃ k : Nat, k ≤ s.size ∧ i = .int .i64 k ∧ ((nums s).take k).all labB = true) (fun i => s.size - (intOf i).toNat)
    case atStart => exact ⟨0, by omega, rfl, by simp⟩
    case round =>
      obtain ⟨k, hk, rfl, ha⟩ := hrel
      have HA := Lib.hid ha
      clear ha
      by_cases hks : k < s.size
      · have hb := byte_lt s k hks
        have he := nums_get s k hks
        have HE := Lib.hid he
        clear he
        rcases lab_cases (x := ((s[k]'hks).toNat : Int)) (by omega) hb with h | h | h | h | h | h
        · obtain ⟨hl, h1, h2, h3⟩ := h
          have HL := Lib.hid hl
          clear hl
          go_wp2
          go_round
          case rel => exact ⟨k + 1, by omega, by go_num, all_step (by rw [nums_len]; exact hks) HA.out (HE.out ▸ HL.out)⟩
          case measure => simp [intOf]; omega
        · obtain ⟨hl, h1, h2, h3, h4⟩ := h
          have HL := Lib.hid hl
          clear hl
          go_wp2
          go_round
          case rel => exact ⟨k + 1, by omega, by go_num, all_step (by rw [nums_len]; exact hks) HA.out (HE.out ▸ HL.out)⟩
          case measure => simp [intOf]; omega
        · obtain ⟨hl, h1⟩ := h
          have HL := Lib.hid hl
          clear hl
          go_wp2
          go_round
          case rel => exact ⟨k + 1, by omega, by go_num, all_step (by rw [nums_len]; exact hks) HA.out (HE.out ▸ HL.out)⟩
          case measure => simp [intOf]; omega
        · obtain ⟨hl, h1, h2, h3⟩ := h
          have HN := Lib.hid (all_no (zs := nums s) (k := k) (by rw [nums_len]; exact hks) (HE.out ▸ hl))
          clear hl
          go_wp2
          go_ret
          exact ⟨by rw [HN.out]; rfl, rfl⟩
        · obtain ⟨hl, h1, h2, h3, h4⟩ := h
          have HN := Lib.hid (all_no (zs := nums s) (k := k) (by rw [nums_len]; exact hks) (HE.out ▸ hl))
          clear hl
          go_wp2
          go_ret
          exact ⟨by rw [HN.out]; rfl, rfl⟩
        · obtain ⟨hl, h1, h2, h3, h4, h5⟩ := h
          have HN := Lib.hid (all_no (zs := nums s) (k := k) (by rw [nums_len]; exact hks) (HE.out ▸ hl))
          clear hl
          go_wp2
          go_ret
          exact ⟨by rw [HN.out]; rfl, rfl⟩
      · have hke : k = s.size := by omega
        go_wp2
        go_ret
        have h := HA.out
        rw [List.take_of_length_le (by rw [nums_len]; omega)] at h
        exact ⟨by rw [h]; rfl, rfl⟩
  · rw [isLab_small hn]
    have hr : inR (s.size : Int) 1 8 = false := inR_false (by omega)
    go_enter Try.func95, Try.ntmps95
    go_wp2_with (go_at_call 42; refine (l1In_any _ _ _ _).mono ?_; rintro e w1 ⟨rfl, rfl⟩)
    go_ret
    exact ⟨rfl, rfl⟩
/-- what becomes of a byte in the plain form -/
theorem pl_cases {x : Int} : (x = 48 ∧ plB x = [111]) ∨ (x = 49 ∧ plB x = [108]) ∨ (x = 53 ∧ plB x = [115]) ∨ (x = 45 ∧ plB x = []) ∨ (x ≠ 48 ∧ x ≠ 49 ∧ x ≠ 53 ∧ x ≠ 45 ∧ plB x = [x]) := by
  unfold plB
  by_cases h1 : x = 48
  · exact .inl ⟨h1, if_pos h1⟩
  by_cases h2 : x = 49
  · exact .inr (.inl ⟨h2, by rw [if_neg h1, if_pos h2]⟩)
  by_cases h3 : x = 53
  · exact .inr (.inr (.inl ⟨h3, by rw [if_neg h1, if_neg h2, if_pos h3]⟩))
  by_cases h4 : x = 45
  · exact .inr (.inr (.inr (.inl ⟨h4, by rw [if_neg h1, if_neg h2, if_neg h3, if_pos h4]⟩)))
  · exact .inr (.inr (.inr (.inr ⟨h1, h2, h3, h4, by rw [if_neg h1, if_neg h2, if_neg h3, if_neg h4]⟩)))
end Go.Proofs.Ytcpfdhammhcoaaa.C04S
