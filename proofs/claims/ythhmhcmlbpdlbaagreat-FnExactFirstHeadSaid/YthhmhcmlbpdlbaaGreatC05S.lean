/- Chapter 4: what the model's functions on labels return. Chapter 4: what the code's own functions on labels return, and what both share. Chapter 5: what the model's functions on paths return. -/
import Derived.Test.YthhmhcmlbpdlbaaGreatM05
import Derived.Test.YthhmhcmlbpdlbaaGreatC02B
import Derived.Test.YthhmhcmlbpdlbaaGreatC03H
import Derived.Test.YthhmhcmlbpdlbaaGreatMem
import Derived.Test.YthhmhcmlbpdlbaaGreatT01
import Derived.Laws.Cover1
import Derived.IntWalk
import Derived.Laws.RangeAny
import Derived.Lib.Bytealg
import Derived.RegionTactic
namespace Go.Proofs.YthhmhcmlbpdlbaaGreat.C04S
open Go.RowKit Mem MemS M02 M03 M04 C01 C02 C02B C03S C03D T01
set_option linter.unusedVariables false
/-- how a byte compares with the letters' and digits' ends -/
theorem lab_cases {x : Int} (h0 : 0 ≤ x) (h1 : x ≤ 255) :
    (labB x = true ∧ ¬ x < 97 ∧ ¬ x > 122 ∧ x ≠ 45) ∨ (labB x = true ∧ x < 97 ∧ ¬ x < 48 ∧ ¬ x > 57 ∧ x ≠ 45) ∨ (labB x = true ∧ x = 45) ∨
    (labB x = false ∧ x < 97 ∧ x < 48 ∧ x ≠ 45) ∨ (labB x = false ∧ x < 97 ∧ ¬ x < 48 ∧ x > 57 ∧ x ≠ 45) ∨ (labB x = false ∧ ¬ x < 97 ∧ x > 122 ∧ ¬ x < 48 ∧ x > 57 ∧ x ≠ 45) := by
  unfold labB
  simp only [decide_eq_true_eq, decide_eq_false_iff_not]
  omega
set_option maxHeartbeats 1000000 in
theorem sIsLabel_any (s : ByteArray) (w : World) (hs : s.size ≤ 1099511627776) : Calls Tryz.prog 121 #[.string s] w fun e w' => e = .returned (.bool (isLab s)) ∧ w = w' := by
  by_cases hn : 1 ≤ s.size ∧ s.size ≤ 8
  · have hr : inR (s.size : Int) 1 8 = true := inR_true (by omega) (by omega)
    have h0s : 0 < s.size := by omega
    have h8s : s.size - 1 < s.size := by omega
    have b0 := byte_lt s 0 h0s
    have b1 := byte_lt s (s.size - 1) h8s
    have hix : ((s.size : Int) - 1).toNat = s.size - 1 := by omega
    by_cases hf : ((s[0]'h0s).toNat : Int) = 45
    · rw [isLab_first h0s hf]
      clear b1 h8s hix
      go_enter Tryz.func121, Tryz.ntmps121
      go_wp2_with (go_at_call 39; refine (l1In_any _ _ _ _).mono ?_; rintro e w1 ⟨rfl, rfl⟩)
      go_ret
      exact ⟨rfl, rfl⟩
    by_cases hl : ((s[s.size - 1]'h8s).toNat : Int) = 45
    · rw [isLab_last h8s hl]
      go_enter Tryz.func121, Tryz.ntmps121
      go_wp2_with (go_at_call 39; refine (l1In_any _ _ _ _).mono ?_; rintro e w1 ⟨rfl, rfl⟩)
      go_ret
      exact ⟨rfl, rfl⟩
    rw [isLab_all hn h0s h8s hf hl]
    have hfb : (((s[0]'h0s).toNat : Int) == 45) = false := beq_eq_false_iff_ne.2 hf
    have hlb : (((s[s.size - 1]'h8s).toNat : Int) == 45) = false := beq_eq_false_iff_ne.2 hl
    clear hf hl
    go_enter Tryz.func121, Tryz.ntmps121
    go_wp2_with (go_at_call 39; refine (l1In_any _ _ _ _).mono ?_; rintro e w1 ⟨rfl, rfl⟩)
    clear hfb hlb b0 b1 hr
    go_loop [3] (fun i => ∃ k : Nat, k ≤ s.size ∧ i = .int .i64 k ∧ ((nums s).take k).all labB = true) (fun i => s.size - (intOf i).toNat)
    case atStart => exact ⟨0, by omega, rfl, by simp⟩
    case round =>
      obtain ⟨k, hk, rfl, ha⟩ := hrel
      have HA := Lib.hid ha
      clear ha
      by_cases hks : k < s.size
      · have hb := byte_lt s k hks
        have he := nums_get s k hks
        have HE := Lib.hid he
        clear he
        rcases lab_cases (x := ((s[k]'hks).toNat : Int)) (by omega) hb with h | h | h | h | h | h
        · obtain ⟨hl, h1, h2, h3⟩ := h
          have HL := Lib.hid hl
          clear hl
          go_wp2
          go_round
          case rel => exact ⟨k + 1, by omega, by go_num, all_step (by rw [nums_len]; exact hks) HA.out (HE.out ▸ HL.out)⟩
          case measure => simp [intOf]; omega
        · obtain ⟨hl, h1, h2, h3, h4⟩ := h
          have HL := Lib.hid hl
          clear hl
          go_wp2
          go_round
          case rel => exact ⟨k + 1, by omega, by go_num, all_step (by rw [nums_len]; exact hks) HA.out (HE.out ▸ HL.out)⟩
          case measure => simp [intOf]; omega
        · obtain ⟨hl, h1⟩ := h
          have HL := Lib.hid hl
          clear hl
          go_wp2
          go_round
          case rel => exact ⟨k + 1, by omega, by go_num, all_step (by rw [nums_len]; exact hks) HA.out (HE.out ▸ HL.out)⟩
          case measure => simp [intOf]; omega
        · obtain ⟨hl, h1, h2, h3⟩ := h
          have HN := Lib.hid (all_no (zs := nums s) (k := k) (by rw [nums_len]; exact hks) (HE.out ▸ hl))
          clear hl
          go_wp2
          go_ret
          exact ⟨by rw [HN.out]; rfl, rfl⟩
        · obtain ⟨hl, h1, h2, h3, h4⟩ := h
          have HN := Lib.hid (all_no (zs := nums s) (k := k) (by rw [nums_len]; exact hks) (HE.out ▸ hl))
          clear hl
          go_wp2
          go_ret
          exact ⟨by rw [HN.out]; rfl, rfl⟩
        · obtain ⟨hl, h1, h2, h3, h4, h5⟩ := h
          have HN := Lib.hid (all_no (zs := nums s) (k := k) (by rw [nums_len]; exact hks) (HE.out ▸ hl))
          clear hl
          go_wp2
          go_ret
          exact ⟨by rw [HN.out]; rfl, rfl⟩
      · have hke : k = s.size := by omega
        go_wp2
        go_ret
        have h := HA.out
        rw [List.take_of_length_le (by rw [nums_len]; omega)] at h
        exact ⟨by rw [h]; rfl, rfl⟩
  · rw [isLab_small hn]
    have hr : inR (s.size : Int) 1 8 = false := inR_false (by omega)
    go_enter Tryz.func121, Tryz.ntmps121
    go_wp2_with (go_at_call 39; refine (l1In_any _ _ _ _).mono ?_; rintro e w1 ⟨rfl, rfl⟩)
    go_ret
    exact ⟨rfl, rfl⟩
/-- what becomes of a byte in the plain form -/
theorem pl_cases {x : Int} : (x = 48 ∧ plB x = [111]) ∨ (x = 49 ∧ plB x = [108]) ∨ (x = 53 ∧ plB x = [115]) ∨ (x = 45 ∧ plB x = []) ∨ (x ≠ 48 ∧ x ≠ 49 ∧ x ≠ 53 ∧ x ≠ 45 ∧ plB x = [x]) := by
  unfold plB
  by_cases h1 : x = 48
  · exact .inl ⟨h1, if_pos h1⟩
  by_cases h2 : x = 49
  · exact .inr (.inl ⟨h2, by rw [if_neg h1, if_pos h2]⟩)
  by_cases h3 : x = 53
  · exact .inr (.inr (.inl ⟨h3, by rw [if_neg h1, if_neg h2, if_pos h3]⟩))
  by_cases h4 : x = 45
  · exact .inr (.inr (.inr (.inl ⟨h4, by rw [if_neg h1, if_neg h2, if_neg h3, if_pos h4]⟩)))
  · exact .inr (.inr (.inr (.inr ⟨h1, h2, h3, h4, by rw [if_neg h1, if_neg h2, if_neg h3, if_neg h4]⟩)))
end Go.Proofs.YthhmhcmlbpdlbaaGreat.C04S
namespace Go.Proofs.YthhmhcmlbpdlbaaGreat.C04I
open Go.RowKit Mem MemS M02 M03 M04 C01 C02 C02B C03S C03D C03B C04S T01
set_option linter.unusedVariables false
theorem isLabelRune_any (x : Int) (w : World) (h0 : 0 ≤ x) (h1 : x ≤ 2147483647) : Calls Tryz.prog 159 #[.int .i32 x] w fun e w' => e = .returned (.bool (labB x)) ∧ w = w' := by
  have hc : (labB x = true ∧ 97 ≤ x ∧ x ≤ 122) ∨ (labB x = true ∧ ¬ 97 ≤ x ∧ 48 ≤ x ∧ x ≤ 57) ∨ (labB x = true ∧ ¬ 97 ≤ x ∧ ¬ 48 ≤ x ∧ x = 45) ∨
      (labB x = false ∧ ¬ 97 ≤ x ∧ ¬ 48 ≤ x ∧ (x == 45) = false) ∨ (labB x = false ∧ ¬ 97 ≤ x ∧ 48 ≤ x ∧ ¬ x ≤ 57 ∧ (x == 45) = false) ∨ (labB x = false ∧ 97 ≤ x ∧ ¬ x ≤ 122 ∧ 48 ≤ x ∧ ¬ x ≤ 57 ∧ (x == 45) = false) := by
    unfold labB
    simp only [decide_eq_true_eq, decide_eq_false_iff_not, beq_eq_false_iff_ne]
    omega
  rcases hc with ⟨hl, h⟩ | ⟨hl, h⟩ | ⟨hl, h⟩ | ⟨hl, h⟩ | ⟨hl, h⟩ | ⟨hl, h⟩
  all_goals rw [hl]
  · obtain ⟨h2, h3⟩ := h
    clear hl
    go_enter Tryz.func159, Tryz.ntmps159
    go_wp2
    go_ret
    exact ⟨rfl, rfl⟩
  · obtain ⟨h2, h3, h4⟩ := h
    clear hl
    go_enter Tryz.func159, Tryz.ntmps159
    go_wp2
    go_ret
    exact ⟨rfl, rfl⟩
  · obtain ⟨h2, h3, h4⟩ := h
    clear hl
    go_enter Tryz.func159, Tryz.ntmps159
    go_wp2
    go_ret
    exact ⟨rfl, rfl⟩
  · obtain ⟨h2, h3, h4⟩ := h
    clear hl
    go_enter Tryz.func159, Tryz.ntmps159
    go_wp2
    go_ret
    exact ⟨rfl, rfl⟩
  · obtain ⟨h2, h3, h4, h5⟩ := h
    clear hl
    go_enter Tryz.func159, Tryz.ntmps159
    go_wp2
    go_ret
    exact ⟨rfl, rfl⟩
  · obtain ⟨h2, h3, h4, h5, h6⟩ := h
    clear hl
    go_enter Tryz.func159, Tryz.ntmps159
    go_wp2
    go_ret
    exact ⟨rfl, rfl⟩
theorem width_pos (s : ByteArray) (pos : Nat) (h : pos < s.size) : 1 ≤ (Utf8.decode s pos).2 := by
  by_cases ha : (s[pos]'h).toNat < 128
  · rw [decode_ascii s pos h ha]
    exact Nat.le_refl _
  · exact (decode_high s pos h (by omega)).2
theorem labB_high {x : Int} (h : 128 ≤ x) : labB x = false := by
  unfold labB
  simp only [decide_eq_false_iff_not]
  omega
set_option maxHeartbeats 1000000 in
theorem iIsLabel_any (s : ByteArray) (w : World) (hs : s.size ≤ 1099511627776) : Calls Tryz.prog 145 #[.string s] w fun e w' => e = .returned (.bool (isLab s)) ∧ Below w.heap.size w w' := by
  by_cases hn : 1 ≤ s.size ∧ s.size ≤ 8
  · have hr : inR (s.size : Int) 1 8 = true := inR_true (by omega) (by omega)
    have h0s : 0 < s.size := by omega
    have h8s : s.size - 1 < s.size := by omega
    have b0 := byte_lt s 0 h0s
    have b1 := byte_lt s (s.size - 1) h8s
    have hix : ((s.size : Int) - 1).toNat = s.size - 1 := by omega
    by_cases hf : ((s[0]'h0s).toNat : Int) = 45
    · rw [isLab_first h0s hf]
      clear b1 h8s hix
      go_enter Tryz.func145, Tryz.ntmps145
      go_wp2_with (go_at_call 79; refine (inRange_any _ _ _ _).mono ?_; rintro e w1 ⟨rfl, rfl⟩)
      go_ret
      exact ⟨rfl, Below.refl _ _⟩
    by_cases hl : ((s[s.size - 1]'h8s).toNat : Int) = 45
    · rw [isLab_last h8s hl]
      go_enter Tryz.func145, Tryz.ntmps145
      go_wp2_with (go_at_call 79; refine (inRange_any _ _ _ _).mono ?_; rintro e w1 ⟨rfl, rfl⟩)
      go_ret
      exact ⟨rfl, Below.refl _ _⟩
    rw [isLab_all hn h0s h8s hf hl]
    have hfb : (((s[0]'h0s).toNat : Int) == 45) = false := beq_eq_false_iff_ne.2 hf
    have hlb : (((s[s.size - 1]'h8s).toNat : Int) == 45) = false := beq_eq_false_iff_ne.2 hl
    clear hf hl
    go_enter Tryz.func145, Tryz.ntmps145
    go_wp2_with (go_at_call 79; refine (inRange_any _ _ _ _).mono ?_; rintro e w1 ⟨rfl, rfl⟩)
    clear hfb hlb b0 b1 hr
    have hbel : ∀ pos, Below w.heap.size w (w.iter s pos) := fun pos => (Below.refl _ _).alloc (Nat.le_refl _) _
    have HB := Lib.hid hbel
    clear hbel
    go_loopw [4] (fun r wr => ∃ pos : Nat, wr = w.iter s pos ∧ pos ≤ s.size ∧ ((nums s).take pos).all labB = true) (fun _ wr => s.size - wr.iterPos w.heap.size)
    case atStart => exact ⟨0, rfl, by omega, by simp⟩
    case round =>
      obtain ⟨pos, rfl, hk, ha⟩ := hrel
      have HA := Lib.hid ha
      clear ha
      by_cases hp : pos < s.size
      · have hnx : ∀ ty, (Instr.next (.pointer (some ⟨w.heap.size, 0, none⟩)) true ty).run Tryz.prog (w.iter s pos) = _ := fun ty => run_next_any w s pos ty hp
        have hd1 := decode_le s pos
        have hlb : labB ((Utf8.decode s pos).1 : Int) = labB ((s[pos]'hp).toNat : Int) ∧ (labB ((s[pos]'hp).toNat : Int) = true → (Utf8.decode s pos).2 = 1) := by
          by_cases ha : (s[pos]'hp).toNat < 128
          · rw [decode_ascii s pos hp ha]
            exact ⟨rfl, fun _ => rfl⟩
          · have hh := decode_high s pos hp (by omega)
            rw [labB_high (by omega), labB_high (x := ((s[pos]'hp).toNat : Int)) (by omega)]
            exact ⟨rfl, fun h => by cases h⟩
        have he := nums_get s pos hp
        have hR := isLabelRune_any ((Utf8.decode s pos).1 : Int) (w.iter s (pos + (Utf8.decode s pos).2)) (by omega) (by omega)
        rw [hlb.1, ← he] at hR
        rw [← he] at hlb
        rcases hz : labB ((nums s).getD pos 0) with _ | _
        · rw [hz] at hR
          have HR := Lib.hid hR
          have HN := Lib.hid (all_no (zs := nums s) (k := pos) (by rw [nums_len]; exact hp) hz)
          clear hR hz hlb he
          go_wp2_with (go_at_call 159; refine HR.out.mono ?_; rintro e w1 ⟨rfl, rfl⟩)
          go_ret
          exact ⟨by rw [HN.out]; rfl, HB.out _⟩
        · rw [hz] at hR
          have HR := Lib.hid hR
          have HW := Lib.hid (hlb.2 hz)
          have HT := Lib.hid (all_step (by rw [nums_len]; exact hp) HA.out hz)
          clear hR hz hlb he
          go_wp2_with (go_at_call 159; refine HR.out.mono ?_; rintro e w1 ⟨rfl, rfl⟩)
          go_roundw
          case rel => exact ⟨pos + 1, by rw [HW.out], by omega, HT.out⟩
          case measure => rw [HW.out]; simp; omega
      · have hnx : ∀ ty, (Instr.next (.pointer (some ⟨w.heap.size, 0, none⟩)) true ty).run Tryz.prog (w.iter s pos) = _ := fun ty => run_next_end w s pos ty hp
        go_wp2
        go_ret
        have h := HA.out
        rw [List.take_of_length_le (by rw [nums_len]; omega)] at h
        exact ⟨by rw [h]; rfl, HB.out _⟩
  · rw [isLab_small hn]
    have hr : inR (s.size : Int) 1 8 = false := inR_false (by omega)
    go_enter Tryz.func145, Tryz.ntmps145
    go_wp2_with (go_at_call 79; refine (inRange_any _ _ _ _).mono ?_; rintro e w1 ⟨rfl, rfl⟩)
    go_ret
    exact ⟨rfl, Below.refl _ _⟩
def plC (x : Int) : Int := if x = 48 then 111 else if x = 49 then 108 else if x = 53 then 115 else x
theorem plB_plC {x : Int} (h : x ≠ 45) : plB x = [plC x] := by
  unfold plB plC
  repeat' split
  all_goals first | rfl | contradiction
theorem plC_in {x : Int} (h0 : 0 ≤ x) (h1 : x ≤ 255) : In .u8 (plC x) := by
  unfold plC
  repeat' split
  all_goals exact in_u8 (by omega) (by omega)
theorem sIsLabel_b (s : ByteArray) (w : World) (hs : s.size ≤ 1099511627776) : Calls Tryz.prog 121 #[.string s] w fun e w' => e = .returned (.bool (isLab s)) ∧ Below w.heap.size w w' :=
  (sIsLabel_any s w hs).mono fun e w' h => ⟨h.1, h.2 ▸ Below.refl _ _⟩
theorem iIsLabel_b (s : ByteArray) (w : World) (hs : s.size ≤ 1099511627776) : Calls Tryz.prog 145 #[.string s] w fun e w' => e = .returned (.bool (isLab s)) ∧ Below w.heap.size w w' := iIsLabel_any s w hs
theorem looks_cases (a b : ByteArray) : (isLab a = false ∧ looks a b = false) ∨ (isLab a = true ∧ isLab b = false ∧ looks a b = false) ∨ (isLab a = true ∧ isLab b = true ∧ looks a b = ((plain a).toList == (plain b).toList)) := by
  unfold looks
  rw [toList_beq]
  cases isLab a <;> cases isLab b <;> simp
theorem sLabelInts_any (s : ByteArray) (w : World) (hs : s.size ≤ 1048576) :
    Calls Tryz.prog 164 #[.string s] w fun e w' => ∃ A' c', e = .returned (.slice A' (s.size + 1) c') ∧ Own .i64 w' w.heap.size w'.heap.size A' (s.size + 1) c' (bti (nums s)) ∧ Below w.heap.size w w' := by
  obtain ⟨c, w1, hcv, hrd, hb1⟩ := conv_bytes s w
  have HR := Lib.hid hrd
  have HB1 := Lib.hid hb1
  clear hrd hb1
  go_enter Tryz.func164, Tryz.ntmps164
  go_wp2_with fail
  refine (sBytesToInts_any _ _ c _ w1 HR.out (by omega)).mono ?_
  rintro e w2 ⟨A2, c2, rfl, ho2, hb2⟩
  have HO2 := Lib.hid (ho2.base HB1.out.size)
  have HB2 := Lib.hid (HB1.out.trans (hb2.mono HB1.out.size))
  clear ho2 hb2
  go_wp2
  go_ret
  exact ⟨_, _, rfl, HO2.out, HB2.out⟩
theorem iLabelInts_any (s : ByteArray) (w : World) (hs : s.size ≤ 1048576) :
    Calls Tryz.prog 163 #[.string s] w fun e w' => ∃ A' c', e = .returned (.slice A' (s.size + 1) c') ∧ Own .i64 w' w.heap.size w'.heap.size A' (s.size + 1) c' (bti (nums s)) ∧ Below w.heap.size w w' := by
  obtain ⟨c, w1, hcv, hrd, hb1⟩ := conv_bytes s w
  have HR := Lib.hid hrd
  have HB1 := Lib.hid hb1
  clear hrd hb1
  go_enter Tryz.func163, Tryz.ntmps163
  go_wp2_with fail
  refine (iBytesToInts_any _ _ c _ w1 HR.out (by omega)).mono ?_
  rintro e w2 ⟨A2, c2, rfl, ho2, hb2⟩
  have HO2 := Lib.hid (ho2.base HB1.out.size)
  have HB2 := Lib.hid (HB1.out.trans (hb2.mono HB1.out.size))
  clear ho2 hb2
  go_wp2
  go_ret
  exact ⟨_, _, rfl, HO2.out, HB2.out⟩
theorem sCompareLabels_any (a b : ByteArray) (w : World) : Calls Tryz.prog 83 #[.string a, .string b] w fun e w' => e = .returned (.int .i64 (cmpS a b)) ∧ w = w' := by
  rcases cmp_cases a b with ⟨h1, h2⟩ | ⟨h1, h2, h3⟩ | ⟨h1, h2, h3⟩
  all_goals rw [h1]
  all_goals clear h1
  · go_enter Tryz.func83, Tryz.ntmps83
    go_wp2
    go_ret
    exact ⟨rfl, rfl⟩
  · go_enter Tryz.func83, Tryz.ntmps83
    go_wp2
    go_ret
    exact ⟨rfl, rfl⟩
  · go_enter Tryz.func83, Tryz.ntmps83
    go_wp2
    go_ret
    exact ⟨rfl, rfl⟩
theorem cmpString_any (a b : ByteArray) (w : World) : Calls Tryz.prog 160 #[.string a, .string b] w fun e w' => e = .returned (.int .i64 (cmpS a b)) ∧ w = w' := by
  have hx : (callFunc 177 #[.string a, .string b]).run Tryz.prog w = .ok (.value (.int .i64 (cmpS a b))) w := by
    rw [run_callFunc_extern Tryz.func177 (by kernel_rfl) (by kernel_rfl) (by kernel_rfl) (e := Extern.BytealgCompare.compare) (by kernel_rfl), Lib.run_compareString]
    rfl
  go_enter Tryz.func160, Tryz.ntmps160
  go_wp2
  go_ret
  exact ⟨rfl, rfl⟩
theorem stringsCompare_any (a b : ByteArray) (w : World) : Calls Tryz.prog 146 #[.string a, .string b] w fun e w' => e = .returned (.int .i64 (cmpS a b)) ∧ w = w' := by
  have HC := Lib.hid (cmpString_any a b w)
  go_enter Tryz.func146, Tryz.ntmps146
  go_wp2_with fail
  refine HC.out.mono ?_
  rintro e w1 ⟨rfl, rfl⟩
  go_wp2
  go_ret
  exact ⟨rfl, rfl⟩
theorem iCompareLabels_any (a b : ByteArray) (w : World) : Calls Tryz.prog 112 #[.string a, .string b] w fun e w' => e = .returned (.int .i64 (cmpS a b)) ∧ w = w' := by
  have HC := Lib.hid (stringsCompare_any a b w)
  go_enter Tryz.func112, Tryz.ntmps112
  go_wp2_with fail
  refine HC.out.mono ?_
  rintro e w1 ⟨rfl, rfl⟩
  go_wp2
  go_ret
  exact ⟨rfl, rfl⟩
end Go.Proofs.YthhmhcmlbpdlbaaGreat.C04I
namespace Go.Proofs.YthhmhcmlbpdlbaaGreat.C05S
open Go.RowKit Mem MemS M02 M04 M05 C01 C02 C04S C04I
set_option linter.unusedVariables false
set_option maxRecDepth 100000
theorem inR_isPth {ss : List ByteArray} {n : Nat} (hl : ss.length = n) (h : ∀ j, j < n → isLab (ss.getD j .empty) = true) : inR (n : Int) 1 4 = isPth ss := by
  subst hl
  rw [isPth_all h]
  by_cases hh : 1 ≤ ss.length ∧ ss.length ≤ 4
  · rw [inR_true (by omega) (by omega)]
    exact (decide_eq_true hh).symm
  · rw [inR_false (by omega)]
    exact (decide_eq_false hh).symm
theorem getD_size {ss : List ByteArray} {j m : Nat} (h : ∀ s ∈ ss, s.size ≤ m) (hj : j < ss.length) : (ss.getD j .empty).size ≤ m := by
  refine h _ ?_
  rw [List.getD, List.getElem?_eq_getElem hj]
  exact List.getElem_mem hj
theorem sIsPath_any (B : Nat) (A : Option Addr) (n c : Nat) (ss : List ByteArray) (w : World) (h : RdS w B A n ss) (hB : B ≤ w.heap.size) (hn : n ≤ 1099511627776) (hss : ∀ s ∈ ss, s.size ≤ 1099511627776) :
    Calls Tryz.prog 122 #[.slice A n c] w fun e w' => e = .returned (.bool (isPth ss)) ∧ Below w.heap.size w w' := by
  have HL := Lib.hid h.len
  have HSS := Lib.hid hss
  have H := Lib.hid (h.more hB)
  clear hss h hB
  go_enter Tryz.func122, Tryz.ntmps122
  go_wp2
  go_loopw [3] (fun i wr => ∃ j : Nat, j ≤ n ∧ i = .int .i64 j ∧ (∀ k, k < j → isLab (ss.getD k .empty) = true) ∧ Below w.heap.size w wr) (fun i _ => n - (intOf i).toNat)
  case atStart => exact ⟨0, by omega, rfl, fun k hk => absurd hk (by omega), Below.refl _ _⟩
  case round =>
    obtain ⟨j, hj, rfl, hf, hbel⟩ := hrel
    have HB := Lib.hid hbel
    have HF := Lib.hid hf
    clear hbel hf
    by_cases hjn : j < n
    · obtain ⟨b, off, rfl, hlt, hc⟩ := (H.out.below HB.out (Nat.le_refl _)).cell_at hjn
      have hjl : j < ss.length := by rw [HL.out]; exact hjn
      have hK := fun w => sIsLabel_b (ss.getD j .empty) w (getD_size HSS.out hjl)
      rcases hlk : isLab (ss.getD j .empty) with _ | _
      · have HP := Lib.hid (isPth_bad hjl hlk)
        rw [hlk] at hK
        have HK := Lib.hid hK
        clear hK hlk hjl
        generalize ss.getD j .empty = s at hc HK
        go_wp2_with fail
        refine (HK.out _).mono ?_
        rintro e w1 ⟨rfl, hb1⟩
        have HB1 := Lib.hid (HB.out.trans (hb1.mono HB.out.size))
        clear hb1
        go_wp2
        go_ret
        exact ⟨by rw [HP.out]; rfl, HB1.out⟩
      · have HJ := Lib.hid hlk
        rw [hlk] at hK
        have HK := Lib.hid hK
        clear hK hlk hjl
        generalize hs : ss.getD j .empty = s at hc HK HJ
        have HS := Lib.hid hs
        clear hs
        go_wp2_with fail
        refine (HK.out _).mono ?_
        rintro e w1 ⟨rfl, hb1⟩
        have HB1 := Lib.hid (HB.out.trans (hb1.mono HB.out.size))
        clear hb1
        go_wp2
        go_roundw
        case rel => exact ⟨j + 1, by omega, by go_num, fun k hk => by
          rcases Nat.lt_or_ge k j with h1 | h1
          · exact HF.out k h1
          · obtain rfl : k = j := by omega
            rw [HS.out]
            exact HJ.out, HB1.out⟩
        case measure => simp [intOf]; omega
    · obtain rfl : j = n := by omega
      have HP := Lib.hid (inR_isPth HL.out HF.out)
      clear hj hjn
      go_wp2_with fail
      refine (l1In_any _ _ _ _).mono ?_
      rintro e w1 ⟨rfl, rfl⟩
      go_wp2
      go_ret
      exact ⟨by rw [HP.out]; rfl, HB.out⟩
theorem l5Copy_any (A : Option Addr) (n c : Nat) (ss : List ByteArray) (w : World) (h : RdS w w.heap.size A n ss) (hn : n ≤ 1099511627776) :
    Calls Tryz.prog 143 #[.slice A n c] w fun e w' => ∃ A' c', e = .returned (.slice A' n c') ∧ OwnS w' w.heap.size w'.heap.size A' n c' ss ∧ Below w.heap.size w w' := by
  have H := Lib.hid h
  clear h
  go_enter Tryz.func143, Tryz.ntmps143
  go_wp2_with (at_builtin; refine wp_appS rfl _ _ rfl rfl (OwnS.lit0 w (Nat.le_refl _)) rfl (H.out.alloc (Nat.le_refl _) _) (by omega) (by simp) ?_; intro A' c' w' hown hgr)
  simp only [Nat.zero_add, List.nil_append] at hown ⊢
  go_ret
  exact ⟨A', c', rfl, hown, ((Below.refl _ _).alloc (Nat.le_refl _) _).trans (hgr.below (by simp) (fun a e => by injection e with e; subst e; simp))⟩
theorem rdS_take {w : World} {B n k : Nat} {A : Option Addr} {ss : List ByteArray} (h : RdS w B A n ss) (hk : k ≤ n) : RdS w B A k (ss.take k) := by
  have hl := h.len
  refine ⟨by simp; omega, fun z hz => h.wf z (List.mem_of_mem_take hz), fun hn => ?_⟩
  obtain ⟨b, off, e, hlt, hc⟩ := h.cells (by omega)
  refine ⟨b, off, e, hlt, fun j hj => ?_⟩
  rw [hc j (by omega)]
  simp [hj]
end Go.Proofs.YthhmhcmlbpdlbaaGreat.C05S
