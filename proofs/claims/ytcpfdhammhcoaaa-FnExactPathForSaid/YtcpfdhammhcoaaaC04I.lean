/- Chapter 4: what the code's own functions on labels return, and what both share. -/
import Derived.Test.YtcpfdhammhcoaaaC04S
import Derived.Test.YtcpfdhammhcoaaaC03B
import Derived.Laws.RangeAny
import Derived.Lib.Bytealg
namespace Go.Proofs.Ytcpfdhammhcoaaa.C04I
open Go.RowKit Mem MemS M02 M03 M04 C01 C02 C02B C03S C03D C03B C04S T01
set_option linter.unusedVariables false
theorem width_pos (s : ByteArray) (pos : Nat) (h : pos < s.size) : 1 ≤ (Utf8.decode s pos).2 := by
  by_cases ha : (s[pos]'h).toNat < 128
  · rw [decode_ascii s pos h ha]
    exact Nat.le_refl _
  · exact (decode_high s pos h (by omega)).2
theorem labB_high {x : Int} (h : 128 ≤ x) : labB x = false := by
  unfold labB
  simp only [decide_eq_false_iff_not]
  omega
def plC (x : Int) : Int := if x = 48 then 111 else if x = 49 then 108 else if x = 53 then 115 else x
theorem plB_plC {x : Int} (h : x ≠ 45) : plB x = [plC x] := by
  unfold plB plC
  repeat' split
  all_goals first | rfl | contradiction
theorem plC_in {x : Int} (h0 : 0 ≤ x) (h1 : x ≤ 255) : In .u8 (plC x) := by
  unfold plC
  repeat' split
  all_goals exact in_u8 (by omega) (by omega)
theorem sIsLabel_b (s : ByteArray) (w : World) (hs : s.size ≤ 1099511627776) : Calls Try.prog 95 #[.string s] w fun e w' => e = .returned (.bool (isLab s)) ∧ Below w.heap.size w w' :=
  (sIsLabel_any s w hs).mono fun e w' h => ⟨h.1, h.2 ▸ Below.refl _ _⟩
theorem looks_cases (a b : ByteArray) : (isLab a = false ∧ looks a b = false) ∨ (isLab a = true ∧ isLab b = false ∧ looks a b = false) ∨ (isLab a = true ∧ isLab b = true ∧ looks a b = ((plain a).toList == (plain b).toList)) := by
  unfold looks
  rw [toList_beq]
  cases isLab a <;> cases isLab b <;> simp
theorem sLabelInts_any (s : ByteArray) (w : World) (hs : s.size ≤ 1048576) :
    Calls Try.prog 75 #[.string s] w fun e w' => ∃ A' c', e = .returned (.slice A' (s.size + 1) c') ∧ Own .i64 w' w.heap.size w'.heap.size A' (s.size + 1) c' (bti (nums s)) ∧ Below w.heap.size w w' := by
  obtain ⟨c, w1, hcv, hrd, hb1⟩ := conv_bytes s w
  have HR := Lib.hid hrd
  have HB1 := Lib.hid hb1
  clear hrd hb1
  go_enter Try.func75, Try.ntmps75
  go_wp2_with fail
  refine (sBytesToInts_any _ _ c _ w1 HR.out (by omega)).mono ?_
  rintro e w2 ⟨A2, c2, rfl, ho2, hb2⟩
  have HO2 := Lib.hid (ho2.base HB1.out.size)
  have HB2 := Lib.hid (HB1.out.trans (hb2.mono HB1.out.size))
  clear ho2 hb2
  go_wp2
  go_ret
  exact ⟨_, _, rfl, HO2.out, HB2.out⟩
theorem iLabelInts_any (s : ByteArray) (w : World) (hs : s.size ≤ 1048576) :
    Calls Try.prog 76 #[.string s] w fun e w' => ∃ A' c', e = .returned (.slice A' (s.size + 1) c') ∧ Own .i64 w' w.heap.size w'.heap.size A' (s.size + 1) c' (bti (nums s)) ∧ Below w.heap.size w w' := by
  obtain ⟨c, w1, hcv, hrd, hb1⟩ := conv_bytes s w
  have HR := Lib.hid hrd
  have HB1 := Lib.hid hb1
  clear hrd hb1
  go_enter Try.func76, Try.ntmps76
  go_wp2_with fail
  refine (iBytesToInts_any _ _ c _ w1 HR.out (by omega)).mono ?_
  rintro e w2 ⟨A2, c2, rfl, ho2, hb2⟩
  have HO2 := Lib.hid (ho2.base HB1.out.size)
  have HB2 := Lib.hid (HB1.out.trans (hb2.mono HB1.out.size))
  clear ho2 hb2
  go_wp2
  go_ret
  exact ⟨_, _, rfl, HO2.out, HB2.out⟩
theorem sCompareLabels_any (a b : ByteArray) (w : World) : Calls Try.prog 81 #[.string a, .string b] w fun e w' => e = .returned (.int .i64 (cmpS a b)) ∧ w = w' := by
  rcases cmp_cases a b with ⟨h1, h2⟩ | ⟨h1, h2, h3⟩ | ⟨h1, h2, h3⟩
  all_goals rw [h1]
  all_goals clear h1
  · go_enter Try.func81, Try.ntmps81
    go_wp2
    go_ret
    exact ⟨rfl, rfl⟩
  · go_enter Try.func81, Try.ntmps81
    go_wp2
    go_ret
    exact ⟨rfl, rfl⟩
  · go_enter Try.func81, Try.ntmps81
    go_wp2
    go_ret
    exact ⟨rfl, rfl⟩
end Go.Proofs.Ytcpfdhammhcoaaa.C04I
