/- Chapter 4: what the code's own functions on labels return, and what both share. -/
import Derived.Test.YtobapahakcdibaaC04S
import Derived.Test.YtobapahakcdibaaC03B
import Derived.Laws.RangeAny
import Derived.Lib.Bytealg
namespace Go.Proofs.Ytobapahakcdibaa.C04I
open Go.RowKit Mem MemS M02 M03 M04 C01 C02 C02B C03S C03D C03B C04S T01
set_option linter.unusedVariables false
theorem isLabelRune_any (x : Int) (w : World) (h0 : 0 ≤ x) (h1 : x ≤ 2147483647) : Calls Try.prog 60 #[.int .i32 x] w fun e w' => e = .returned (.bool (labB x)) ∧ w = w' := by
  have hc : (labB x = true ∧ 97 ≤ x ∧ x ≤ 122) ∨ (labB x = true ∧ ¬ 97 ≤ x ∧ 48 ≤ x ∧ x ≤ 57) ∨ (labB x = true ∧ ¬ 97 ≤ x ∧ ¬ 48 ≤ x ∧ x = 45) ∨
      (labB x = false ∧ ¬ 97 ≤ x ∧ ¬ 48 ≤ x ∧ (x == 45) = false) ∨ (labB x = false ∧ ¬ 97 ≤ x ∧ 48 ≤ x ∧ ¬ x ≤ 57 ∧ (x == 45) = false) ∨ (labB x = false ∧ 97 ≤ x ∧ ¬ x ≤ 122 ∧ 48 ≤ x ∧ ¬ x ≤ 57 ∧ (x == 45) = false) := by
    unfold labB
    simp only [decide_eq_true_eq, decide_eq_false_iff_not, beq_eq_false_iff_ne]
    omega
  rcases hc with ⟨hl, h⟩ | ⟨hl, h⟩ | ⟨hl, h⟩ | ⟨hl, h⟩ | ⟨hl, h⟩ | ⟨hl, h⟩
  all_goals rw [hl]
  · obtain ⟨h2, h3⟩ := h
    clear hl
    go_enter Try.func60, Try.ntmps60
    go_wp2
    go_ret
    exact ⟨rfl, rfl⟩
  · obtain ⟨h2, h3, h4⟩ := h
    clear hl
    go_enter Try.func60, Try.ntmps60
    go_wp2
    go_ret
    exact ⟨rfl, rfl⟩
  · obtain ⟨h2, h3, h4⟩ := h
    clear hl
    go_enter Try.func60, Try.ntmps60
    go_wp2
    go_ret
    exact ⟨rfl, rfl⟩
  · obtain ⟨h2, h3, h4⟩ := h
    clear hl
    go_enter Try.func60, Try.ntmps60
    go_wp2
    go_ret
    exact ⟨rfl, rfl⟩
  · obtain ⟨h2, h3, h4, h5⟩ := h
    clear hl
    go_enter Try.func60, Try.ntmps60
    go_wp2
    go_ret
    exact ⟨rfl, rfl⟩
  · obtain ⟨h2, h3, h4, h5, h6⟩ := h
    clear hl
    go_enter Try.func60, Try.ntmps60
    go_wp2
    go_ret
    exact ⟨rfl, rfl⟩
theorem width_pos (s : ByteArray) (pos : Nat) (h : pos < s.size) : 1 ≤ (Utf8.decode s pos).2 := by
  by_cases ha : (s[pos]'h).toNat < 128
  · rw [decode_ascii s pos h ha]
    exact Nat.le_refl _
  · exact (decode_high s pos h (by omega)).2
theorem labB_high {x : Int} (h : 128 ≤ x) : labB x = false := by
  unfold labB
  simp only [decide_eq_false_iff_not]
  omega
set_option maxHeartbeats 1000000 in
theorem iIsLabel_any (s : ByteArray) (w : World) (hs : s.size ≤ 1099511627776) : Calls Try.prog 26 #[.string s] w fun e w' => e = .returned (.bool (isLab s)) ∧ Below w.heap.size w w' := by
  by_cases hn : 1 ≤ s.size ∧ s.size ≤ 8
  · have hr : inR (s.size : Int) 1 8 = true := inR_true (by omega) (by omega)
    have h0s : 0 < s.size := by omega
    have h8s : s.size - 1 < s.size := by omega
    have b0 := byte_lt s 0 h0s
    have b1 := byte_lt s (s.size - 1) h8s
    have hix : ((s.size : Int) - 1).toNat = s.size - 1 := by omega
    by_cases hf : ((s[0]'h0s).toNat : Int) = 45
    · rw [isLab_first h0s hf]
      clear b1 h8s hix
      go_enter Try.func26, Try.ntmps26
      go_wp2_with (go_at_call 59; refine (inRange_any _ _ _ _).mono ?_; rintro e w1 ⟨rfl, rfl⟩)
      go_ret
      exact ⟨rfl, Below.refl _ _⟩
    by_cases hl : ((s[s.size - 1]'h8s).toNat : Int) = 45
    · rw [isLab_last h8s hl]
      go_enter Try.func26, Try.ntmps26
      go_wp2_with (go_at_call 59; refine (inRange_any _ _ _ _).mono ?_; rintro e w1 ⟨rfl, rfl⟩)
      go_ret
      exact ⟨rfl, Below.refl _ _⟩
    rw [isLab_all hn h0s h8s hf hl]
    have hfb : (((s[0]'h0s).toNat : Int) == 45) = false := beq_eq_false_iff_ne.2 hf
    have hlb : (((s[s.size - 1]'h8s).toNat : Int) == 45) = false := beq_eq_false_iff_ne.2 hl
    clear hf hl
    go_enter Try.func26, Try.ntmps26
    go_wp2_with (go_at_call 59; refine (inRange_any _ _ _ _).mono ?_; rintro e w1 ⟨rfl, rfl⟩)
    clear hfb hlb b0 b1 hr
    have hbel : ∀ pos, Below w.heap.size w (w.iter s pos) := fun pos => (Below.refl _ _).alloc (Nat.le_refl _) _
    have HB := Lib.hid hbel
    clear hbel
    go_loopw [4] (fun r wr => ∃ pos : Nat, wr = w.iter s pos ∧ pos ≤ s.size ∧ ((nums s).take pos).all labB = true) (fun _ wr => s.size - wr.iterPos w.heap.size)
    case atStart => exact ⟨0, rfl, by omega, by simp⟩
    case round =>
      obtain ⟨pos, rfl, hk, ha⟩ := hrel
      have HA := Lib.hid ha
      clear ha
      by_cases hp : pos < s.size
      · have hnx : ∀ ty, (Instr.next (.pointer (some ⟨w.heap.size, 0, none⟩)) true ty).run Try.prog (w.iter s pos) = _ := fun ty => run_next_any w s pos ty hp
        have hd1 := decode_le s pos
        have hlb : labB ((Utf8.decode s pos).1 : Int) = labB ((s[pos]'hp).toNat : Int) ∧ (labB ((s[pos]'hp).toNat : Int) = true → (Utf8.decode s pos).2 = 1) := by
          by_cases ha : (s[pos]'hp).toNat < 128
          · rw [decode_ascii s pos hp ha]
            exact ⟨rfl, fun _ => rfl⟩
          · have hh := decode_high s pos hp (by omega)
            rw [labB_high (by omega), labB_high (x := ((s[pos]'hp).toNat : Int)) (by omega)]
            exact ⟨rfl, fun h => by cases h⟩
        have he := nums_get s pos hp
        have hR := isLabelRune_any ((Utf8.decode s pos).1 : Int) (w.iter s (pos + (Utf8.decode s pos).2)) (by omega) (by omega)
        rw [hlb.1, ← he] at hR
        rw [← he] at hlb
        rcases hz : labB ((nums s).getD pos 0) with _ | _
        · rw [hz] at hR
          have HR := Lib.hid hR
          have HN := Lib.hid (all_no (zs := nums s) (k := pos) (by rw [nums_len]; exact hp) hz)
          clear hR hz hlb he
          go_wp2_with (go_at_call 60; refine HR.out.mono ?_; rintro e w1 ⟨rfl, rfl⟩)
          go_ret
          exact ⟨by rw [HN.out]; rfl, HB.out _⟩
        · rw [hz] at hR
          have HR := Lib.hid hR
          have HW := Lib.hid (hlb.2 hz)
          have HT := Lib.hid (all_step (by rw [nums_len]; exact hp) HA.out hz)
          clear hR hz hlb he
          go_wp2_with (go_at_call 60; refine HR.out.mono ?_; rintro e w1 ⟨rfl, rfl⟩)
          go_roundw
          case rel => exact ⟨pos + 1, by rw [HW.out], by omega, HT.out⟩
          case measure => rw [HW.out]; simp; omega
      · have hnx : ∀ ty, (Instr.next (.pointer (some ⟨w.heap.size, 0, none⟩)) true ty).run Try.prog (w.iter s pos) = _ := fun ty => run_next_end w s pos ty hp
        go_wp2
        go_ret
        have h := HA.out
        rw [List.take_of_length_le (by rw [nums_len]; omega)] at h
        exact ⟨by rw [h]; rfl, HB.out _⟩
  · rw [isLab_small hn]
    have hr : inR (s.size : Int) 1 8 = false := inR_false (by omega)
    go_enter Try.func26, Try.ntmps26
    go_wp2_with (go_at_call 59; refine (inRange_any _ _ _ _).mono ?_; rintro e w1 ⟨rfl, rfl⟩)
    go_ret
    exact ⟨rfl, Below.refl _ _⟩
def plC (x : Int) : Int := if x = 48 then 111 else if x = 49 then 108 else if x = 53 then 115 else x
theorem plB_plC {x : Int} (h : x ≠ 45) : plB x = [plC x] := by
  unfold plB plC
  repeat' split
  all_goals first | rfl | contradiction
theorem plC_in {x : Int} (h0 : 0 ≤ x) (h1 : x ≤ 255) : In .u8 (plC x) := by
  unfold plC
  repeat' split
  all_goals exact in_u8 (by omega) (by omega)
theorem sIsLabel_b (s : ByteArray) (w : World) (hs : s.size ≤ 1099511627776) : Calls Try.prog 51 #[.string s] w fun e w' => e = .returned (.bool (isLab s)) ∧ Below w.heap.size w w' :=
  (sIsLabel_any s w hs).mono fun e w' h => ⟨h.1, h.2 ▸ Below.refl _ _⟩
theorem iIsLabel_b (s : ByteArray) (w : World) (hs : s.size ≤ 1099511627776) : Calls Try.prog 26 #[.string s] w fun e w' => e = .returned (.bool (isLab s)) ∧ Below w.heap.size w w' := iIsLabel_any s w hs
theorem looks_cases (a b : ByteArray) : (isLab a = false ∧ looks a b = false) ∨ (isLab a = true ∧ isLab b = false ∧ looks a b = false) ∨ (isLab a = true ∧ isLab b = true ∧ looks a b = ((plain a).toList == (plain b).toList)) := by
  unfold looks
  rw [toList_beq]
  cases isLab a <;> cases isLab b <;> simp
theorem sLabelInts_any (s : ByteArray) (w : World) (hs : s.size ≤ 1048576) :
    Calls Try.prog 62 #[.string s] w fun e w' => ∃ A' c', e = .returned (.slice A' (s.size + 1) c') ∧ Own .i64 w' w.heap.size w'.heap.size A' (s.size + 1) c' (bti (nums s)) ∧ Below w.heap.size w w' := by
  obtain ⟨c, w1, hcv, hrd, hb1⟩ := conv_bytes s w
  have HR := Lib.hid hrd
  have HB1 := Lib.hid hb1
  clear hrd hb1
  go_enter Try.func62, Try.ntmps62
  go_wp2_with fail
  refine (sBytesToInts_any _ _ c _ w1 HR.out (by omega)).mono ?_
  rintro e w2 ⟨A2, c2, rfl, ho2, hb2⟩
  have HO2 := Lib.hid (ho2.base HB1.out.size)
  have HB2 := Lib.hid (HB1.out.trans (hb2.mono HB1.out.size))
  clear ho2 hb2
  go_wp2
  go_ret
  exact ⟨_, _, rfl, HO2.out, HB2.out⟩
theorem iLabelInts_any (s : ByteArray) (w : World) (hs : s.size ≤ 1048576) :
    Calls Try.prog 63 #[.string s] w fun e w' => ∃ A' c', e = .returned (.slice A' (s.size + 1) c') ∧ Own .i64 w' w.heap.size w'.heap.size A' (s.size + 1) c' (bti (nums s)) ∧ Below w.heap.size w w' := by
  obtain ⟨c, w1, hcv, hrd, hb1⟩ := conv_bytes s w
  have HR := Lib.hid hrd
  have HB1 := Lib.hid hb1
  clear hrd hb1
  go_enter Try.func63, Try.ntmps63
  go_wp2_with fail
  refine (iBytesToInts_any _ _ c _ w1 HR.out (by omega)).mono ?_
  rintro e w2 ⟨A2, c2, rfl, ho2, hb2⟩
  have HO2 := Lib.hid (ho2.base HB1.out.size)
  have HB2 := Lib.hid (HB1.out.trans (hb2.mono HB1.out.size))
  clear ho2 hb2
  go_wp2
  go_ret
  exact ⟨_, _, rfl, HO2.out, HB2.out⟩
end Go.Proofs.Ytobapahakcdibaa.C04I
