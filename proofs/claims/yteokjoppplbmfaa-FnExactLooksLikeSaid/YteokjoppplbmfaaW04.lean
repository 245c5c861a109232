/- The walks of the exact laws of chapter 4: each law returns true, and writes into nothing that was there. -/
import Derived.Test.YteokjoppplbmfaaC04U
import Derived.Test.YteokjoppplbmfaaT01
import Derived.Test.YteokjoppplbmfaaT04
namespace Go.Proofs.Yteokjoppplbmfaa.W04
open Go.RowKit Mem MemS M04 T01 T04 C04U
set_option linter.unusedVariables false
set_option maxHeartbeats 400000
theorem FnExactIsLabel_walk (W0 : World) (v0 : ByteArray) (hv0 : v0.size ≤ maxLen) :
    Calls Try.prog 4 #[.string v0] W0 fun e w' => e = .returned (.bool true) ∧ Below W0.heap.size W0 w' := by
  by_cases hg0 : 1048576 < v0.size
  · have hg : 1048576 < (v0.size : Int) := by omega
    go_enter Try.func4, Try.ntmps4
    go_wp2
    go_ret
    exact ⟨rfl, Below.refl _ _⟩
  obtain ⟨r0, hS, hI⟩ := both_IsLabel v0 (by omega)
  have HS := Lib.hid hS
  have HI := Lib.hid hI
  clear hS hI
  clear hv0
  have HA_0 := Lib.hid (Below.refl W0.heap.size W0)
  go_enter Try.func4, Try.ntmps4
  go_wp2_with fail
  refine (HS.out  _ ).mono ?_
  rintro e W1 ⟨rfl, hb⟩
  have HB_0 := Lib.hid hb
  clear hb
  have HZ_0 := Lib.hid HB_0.out.size
  have HA_1 := Lib.hid (HA_0.out.trans (HB_0.out.mono (Nat.le_refl _)))
  go_wp2_with fail
  refine (HI.out  _ ).mono ?_
  rintro e W2 ⟨rfl, hb⟩
  have HB_1 := Lib.hid hb
  clear hb
  have HZ_1 := Lib.hid HB_1.out.size
  have HA_2 := Lib.hid (HA_1.out.trans (HB_1.out.mono HZ_0.out))
  go_wp2
  go_ret
  exact ⟨rfl, HA_2.out⟩
theorem FnExactPlainOf_walk (W0 : World) (v0 : ByteArray) (hv0 : v0.size ≤ maxLen) :
    Calls Try.prog 5 #[.string v0] W0 fun e w' => e = .returned (.bool true) ∧ Below W0.heap.size W0 w' := by
  by_cases hg0 : 1048576 < v0.size
  · have hg : 1048576 < (v0.size : Int) := by omega
    go_enter Try.func5, Try.ntmps5
    go_wp2
    go_ret
    exact ⟨rfl, Below.refl _ _⟩
  obtain ⟨r0, hS, hI⟩ := both_PlainOf v0 (by omega)
  have HS := Lib.hid hS
  have HI := Lib.hid hI
  clear hS hI
  clear hv0
  have HA_0 := Lib.hid (Below.refl W0.heap.size W0)
  go_enter Try.func5, Try.ntmps5
  go_wp2_with fail
  refine (HS.out  _ ).mono ?_
  rintro e W1 ⟨rfl, hb⟩
  have HB_0 := Lib.hid hb
  clear hb
  have HZ_0 := Lib.hid HB_0.out.size
  have HA_1 := Lib.hid (HA_0.out.trans (HB_0.out.mono (Nat.le_refl _)))
  go_wp2_with fail
  refine (HI.out  _ ).mono ?_
  rintro e W2 ⟨rfl, hb⟩
  have HB_1 := Lib.hid hb
  clear hb
  have HZ_1 := Lib.hid HB_1.out.size
  have HA_2 := Lib.hid (HA_1.out.trans (HB_1.out.mono HZ_0.out))
  go_wp2
  go_ret
  exact ⟨rfl, HA_2.out⟩
theorem FnExactLooksLike_walk (W0 : World) (v0 : ByteArray) (hv0 : v0.size ≤ maxLen) (v1 : ByteArray) (hv1 : v1.size ≤ maxLen) :
    Calls Try.prog 6 #[.string v0, .string v1] W0 fun e w' => e = .returned (.bool true) ∧ Below W0.heap.size W0 w' := by
  by_cases hg0 : 1048576 < v0.size
  · have hg : 1048576 < (v0.size : Int) := by omega
    go_enter Try.func6, Try.ntmps6
    go_wp2
    go_ret
    exact ⟨rfl, Below.refl _ _⟩
  by_cases hg1 : 1048576 < v1.size
  · have hg : 1048576 < (v1.size : Int) := by omega
    go_enter Try.func6, Try.ntmps6
    go_wp2
    go_ret
    exact ⟨rfl, Below.refl _ _⟩
  obtain ⟨r0, hS, hI⟩ := both_LooksLike v0 v1 (by omega) (by omega)
  have HS := Lib.hid hS
  have HI := Lib.hid hI
  clear hS hI
  clear hv0
  clear hv1
  have HA_0 := Lib.hid (Below.refl W0.heap.size W0)
  go_enter Try.func6, Try.ntmps6
  go_wp2_with fail
  refine (HS.out  _ ).mono ?_
  rintro e W1 ⟨rfl, hb⟩
  have HB_0 := Lib.hid hb
  clear hb
  have HZ_0 := Lib.hid HB_0.out.size
  have HA_1 := Lib.hid (HA_0.out.trans (HB_0.out.mono (Nat.le_refl _)))
  go_wp2_with fail
  refine (HI.out  _ ).mono ?_
  rintro e W2 ⟨rfl, hb⟩
  have HB_1 := Lib.hid hb
  clear hb
  have HZ_1 := Lib.hid HB_1.out.size
  have HA_2 := Lib.hid (HA_1.out.trans (HB_1.out.mono HZ_0.out))
  go_wp2
  go_ret
  exact ⟨rfl, HA_2.out⟩
theorem FnExactCompareLabels_walk (W0 : World) (v0 : ByteArray) (hv0 : v0.size ≤ maxLen) (v1 : ByteArray) (hv1 : v1.size ≤ maxLen) :
    Calls Try.prog 7 #[.string v0, .string v1] W0 fun e w' => e = .returned (.bool true) ∧ Below W0.heap.size W0 w' := by
  by_cases hg0 : 1048576 < v0.size
  · have hg : 1048576 < (v0.size : Int) := by omega
    go_enter Try.func7, Try.ntmps7
    go_wp2
    go_ret
    exact ⟨rfl, Below.refl _ _⟩
  by_cases hg1 : 1048576 < v1.size
  · have hg : 1048576 < (v1.size : Int) := by omega
    go_enter Try.func7, Try.ntmps7
    go_wp2
    go_ret
    exact ⟨rfl, Below.refl _ _⟩
  obtain ⟨r0, hS, hI⟩ := both_CompareLabels v0 v1 (by omega) (by omega)
  have HS := Lib.hid hS
  have HI := Lib.hid hI
  clear hS hI
  clear hv0
  clear hv1
  have HA_0 := Lib.hid (Below.refl W0.heap.size W0)
  go_enter Try.func7, Try.ntmps7
  go_wp2_with fail
  refine (HS.out  _ ).mono ?_
  rintro e W1 ⟨rfl, hb⟩
  have HB_0 := Lib.hid hb
  clear hb
  have HZ_0 := Lib.hid HB_0.out.size
  have HA_1 := Lib.hid (HA_0.out.trans (HB_0.out.mono (Nat.le_refl _)))
  go_wp2_with fail
  refine (HI.out  _ ).mono ?_
  rintro e W2 ⟨rfl, hb⟩
  have HB_1 := Lib.hid hb
  clear hb
  have HZ_1 := Lib.hid HB_1.out.size
  have HA_2 := Lib.hid (HA_1.out.trans (HB_1.out.mono HZ_0.out))
  go_wp2
  go_ret
  exact ⟨rfl, HA_2.out⟩
theorem FnExactLabelInts_walk (W0 : World) (v0 : ByteArray) (hv0 : v0.size ≤ maxLen) :
    Calls Try.prog 8 #[.string v0] W0 fun e w' => e = .returned (.bool true) ∧ Below W0.heap.size W0 w' := by
  by_cases hg0 : 1048576 < v0.size
  · have hg : 1048576 < (v0.size : Int) := by omega
    go_enter Try.func8, Try.ntmps8
    go_wp2
    go_ret
    exact ⟨rfl, Below.refl _ _⟩
  obtain ⟨r0, hlen0, hS, hI⟩ := both_LabelInts v0 (by omega)
  have HS := Lib.hid hS
  have HI := Lib.hid hI
  clear hS hI
  clear hv0
  have HA_0 := Lib.hid (Below.refl W0.heap.size W0)
  go_enter Try.func8, Try.ntmps8
  go_wp2_with fail
  refine (HS.out  _ ).mono ?_
  rintro e W1 ⟨A_w0, c_w0, rfl, ho0, hb⟩
  have HO_w0_1 := Lib.hid ho0
  clear ho0
  have HB_0 := Lib.hid hb
  clear hb
  have HZ_0 := Lib.hid HB_0.out.size
  have HA_1 := Lib.hid (HA_0.out.trans (HB_0.out.mono (Nat.le_refl _)))
  go_wp2_with fail
  refine (HI.out  _ ).mono ?_
  rintro e W2 ⟨A_g0, c_g0, rfl, ho0, hb⟩
  have HO_g0_2 := Lib.hid ho0
  clear ho0
  have HB_1 := Lib.hid hb
  clear hb
  have HZ_1 := Lib.hid HB_1.out.size
  have HA_2 := Lib.hid (HA_1.out.trans (HB_1.out.mono HZ_0.out))
  have HO_w0_2 := Lib.hid (HO_w0_1.out.below HB_1.out (Nat.le_refl _))
  go_wp2_with fail
  refine (eqIntS_same _ _ A_g0 A_w0 r0.length c_g0 c_w0 r0 _ HO_g0_2.out.rd HO_w0_2.out.rd (by omega)).mono ?_
  rintro e W3 ⟨rfl, hb⟩
  have HB_2 := Lib.hid hb
  clear hb
  have HZ_2 := Lib.hid (HB_2.out.below 0).size
  have HA_3 := Lib.hid (HA_2.out.trans (HB_2.out.below _))
  have HO_w0_3 := Lib.hid (HO_w0_2.out.same HB_2.out)
  have HO_g0_3 := Lib.hid (HO_g0_2.out.same HB_2.out)
  go_wp2_with fail
  refine (markIntS_any _ _ A_g0 r0.length c_g0 r0 1 _ HO_g0_3.out (by omega) (by omega) (by omega)).mono ?_
  rintro e W4 ⟨rfl, hown, hb⟩
  have HO_g0_4 := Lib.hid hown
  clear hown
  have HB_3 := Lib.hid hb
  clear hb
  have HZ_3 := Lib.hid HB_3.out.size
  have HA_4 := Lib.hid (HA_3.out.trans (HB_3.out.below HZ_0.out (Nat.le_trans (Nat.le_trans HZ_0.out HZ_1.out) HZ_2.out)))
  have HO_w0_4 := Lib.hid (HO_w0_3.out.fr HB_3.out (.inl (Nat.le_refl _)))
  go_wp2_with fail
  refine (heldIntS_marks _ A_g0 r0.length c_g0 1 _ HO_g0_4.out.rd (by omega) (by omega) (by omega)).mono ?_
  rintro e W5 ⟨rfl, rfl⟩
  go_wp2_with fail
  refine (HI.out  _ ).mono ?_
  rintro e W5 ⟨A_h0, c_h0, rfl, ho0, hb⟩
  have HO_h0_5 := Lib.hid ho0
  clear ho0
  have HB_4 := Lib.hid hb
  clear hb
  have HZ_4 := Lib.hid HB_4.out.size
  have HA_5 := Lib.hid (HA_4.out.trans (HB_4.out.mono (Nat.le_trans (Nat.le_trans (Nat.le_trans HZ_0.out HZ_1.out) HZ_2.out) HZ_3.out)))
  have HO_w0_5 := Lib.hid (HO_w0_4.out.below HB_4.out (Nat.le_trans (Nat.le_trans HZ_1.out HZ_2.out) HZ_3.out))
  have HO_g0_5 := Lib.hid (HO_g0_4.out.below HB_4.out (Nat.le_trans HZ_2.out HZ_3.out))
  go_wp2_with fail
  refine (eqIntS_same _ _ A_h0 A_w0 r0.length c_h0 c_w0 r0 _ HO_h0_5.out.rd HO_w0_5.out.rd (by omega)).mono ?_
  rintro e W6 ⟨rfl, hb⟩
  have HB_5 := Lib.hid hb
  clear hb
  have HZ_5 := Lib.hid (HB_5.out.below 0).size
  have HA_6 := Lib.hid (HA_5.out.trans (HB_5.out.below _))
  have HO_g0_6 := Lib.hid (HO_g0_5.out.same HB_5.out)
  go_wp2_with fail
  refine (heldIntS_marks _ A_g0 r0.length c_g0 1 _ HO_g0_6.out.rd (by omega) (by omega) (by omega)).mono ?_
  rintro e W7 ⟨rfl, rfl⟩
  go_wp2
  go_ret
  exact ⟨rfl, HA_6.out⟩
theorem FnExactFirstAlike_walk (W0 : World) (a0 : Option Addr) (l0 c0 : Nat) (z0 : List ByteArray) (w0 : RowS W0 a0 l0 c0 z0) (v1 : ByteArray) (hv1 : v1.size ≤ maxLen) :
    Calls Try.prog 9 #[.slice a0 l0 c0, .string v1] W0 fun e w' => e = .returned (.bool true) ∧ Below W0.heap.size W0 w' := by
  have hR0 := rdS_of_row w0
  have hC0 := rowS_cap w0
  have hM0 := rowS_le w0
  have hL0 := hR0.len
  generalize z0.take l0 = y0 at hR0 hL0
  clear w0
  by_cases hg1 : 1048576 < v1.size
  · have hg : 1048576 < (v1.size : Int) := by omega
    clear hR0 hL0 hC0
    go_enter Try.func9, Try.ntmps9
    go_wp2
    go_ret
    exact ⟨rfl, Below.refl _ _⟩
  obtain ⟨q0, hq0⟩ : ∃ q, szS 1048576 y0 = q := ⟨_, rfl⟩
  have hQ0 := fun w1 (h : RdS w1 W0.heap.size a0 l0 y0) => szStringS_any _ a0 l0 c0 y0 1048576 w1 h (by omega) (by omega) hM0
  rw [hq0] at hQ0
  have HQ0 := Lib.hid (hQ0 W0 hR0)
  clear hQ0 hM0
  by_cases hn0 : q0 < 0
  · clear hq0 hR0 hL0 hC0
    go_enter Try.func9, Try.ntmps9
    go_wp2_with fail
    refine HQ0.out.mono ?_
    rintro e w1 ⟨rfl, rfl⟩
    go_wp2
    go_ret
    exact ⟨rfl, Below.refl _ _⟩
  have hs0 := szS_le (by omega) (show 0 ≤ szS 1048576 y0 by omega)
  rw [hq0] at hs0
  clear hq0
  have hY0 : y0.length ≤ 1048576 ∧ ∀ s ∈ y0, s.size ≤ 1048576 := ⟨by have := hs0.2.1; omega, fun s hs => by have := hs0.2.2 s hs; omega⟩
  have hl0 : l0 ≤ 1048576 := by have := hY0.1; omega
  have hs0 := hs0.1
  obtain ⟨r0, hS, hI⟩ := both_FirstAlike y0 v1 hY0 (by omega)
  have HS := Lib.hid hS
  have HI := Lib.hid hI
  clear hS hI
  have HO_aList_0 := Lib.hid hR0
  have HC0 := Lib.hid hC0
  clear hR0 hC0 hL0 hY0
  clear hv1
  have HA_0 := Lib.hid (Below.refl W0.heap.size W0)
  go_enter Try.func9, Try.ntmps9
  go_wp2_with fail
  refine HQ0.out.mono ?_
  rintro e w1 ⟨rfl, rfl⟩
  go_wp2_with fail
  refine (toStringS_any a0 l0 c0 y0 _ (HO_aList_0.out.more (Nat.le_refl _)) (by omega)).mono ?_
  rintro e W1 ⟨A__t0, c__t0, rfl, hown, hb⟩
  have HO__t0_1 := Lib.hid hown
  clear hown
  have HB_0 := Lib.hid hb
  clear hb
  have HZ_0 := Lib.hid HB_0.out.size
  have HA_1 := Lib.hid (HA_0.out.trans (HB_0.out.mono (Nat.le_refl _)))
  have HO_aList_1 := Lib.hid (HO_aList_0.out.below HB_0.out (Nat.le_refl _))
  go_wp2_with fail
  refine (HS.out A__t0 l0 c__t0 _ (HO__t0_1.out.cap.1) (HO__t0_1.out.rd.more (Nat.le_refl _))).mono ?_
  rintro e W2 ⟨rfl, hb⟩
  have HB_1 := Lib.hid hb
  clear hb
  have HZ_1 := Lib.hid HB_1.out.size
  have HA_2 := Lib.hid (HA_1.out.trans (HB_1.out.mono HZ_0.out))
  have HO_aList_2 := Lib.hid (HO_aList_1.out.below HB_1.out HZ_0.out)
  go_wp2_with fail
  refine (toStringS_any a0 l0 c0 y0 _ (HO_aList_2.out.more (Nat.le_trans HZ_0.out HZ_1.out)) (by omega)).mono ?_
  rintro e W3 ⟨A_x0, c_x0, rfl, hown, hb⟩
  have HO_x0_3 := Lib.hid hown
  clear hown
  have HB_2 := Lib.hid hb
  clear hb
  have HZ_2 := Lib.hid HB_2.out.size
  have HA_3 := Lib.hid (HA_2.out.trans (HB_2.out.mono (Nat.le_trans HZ_0.out HZ_1.out)))
  have HO_aList_3 := Lib.hid (HO_aList_2.out.below HB_2.out (Nat.le_trans HZ_0.out HZ_1.out))
  go_wp2_with fail
  refine (HI.out A_x0 l0 c_x0 _ (HO_x0_3.out.cap.1) (HO_x0_3.out.rd.more (Nat.le_refl _))).mono ?_
  rintro e W4 ⟨rfl, hb⟩
  have HB_3 := Lib.hid hb
  clear hb
  have HZ_3 := Lib.hid HB_3.out.size
  have HA_4 := Lib.hid (HA_3.out.trans (HB_3.out.mono (Nat.le_trans (Nat.le_trans HZ_0.out HZ_1.out) HZ_2.out)))
  have HO_aList_4 := Lib.hid (HO_aList_3.out.below HB_3.out (Nat.le_trans (Nat.le_trans HZ_0.out HZ_1.out) HZ_2.out))
  have HO_x0_4 := Lib.hid (HO_x0_3.out.below HB_3.out (Nat.le_refl _))
  go_wp2_with fail
  refine (toStringS_any a0 l0 c0 y0 _ (HO_aList_4.out.more (Nat.le_trans (Nat.le_trans (Nat.le_trans HZ_0.out HZ_1.out) HZ_2.out) HZ_3.out)) (by omega)).mono ?_
  rintro e W5 ⟨A__t1, c__t1, rfl, hown, hb⟩
  have HO__t1_5 := Lib.hid hown
  clear hown
  have HB_4 := Lib.hid hb
  clear hb
  have HZ_4 := Lib.hid HB_4.out.size
  have HA_5 := Lib.hid (HA_4.out.trans (HB_4.out.mono (Nat.le_trans (Nat.le_trans (Nat.le_trans HZ_0.out HZ_1.out) HZ_2.out) HZ_3.out)))
  have HO_x0_5 := Lib.hid (HO_x0_4.out.below HB_4.out HZ_3.out)
  go_wp2_with fail
  refine (eqStringS_same _ _ A_x0 A__t1 l0 c_x0 c__t1 y0 _ HO_x0_5.out.rd HO__t1_5.out.rd (by omega)).mono ?_
  rintro e W6 ⟨rfl, hb⟩
  have HB_5 := Lib.hid hb
  clear hb
  have HZ_5 := Lib.hid (HB_5.out.below 0).size
  have HA_6 := Lib.hid (HA_5.out.trans (HB_5.out.below _))
  go_wp2
  go_ret
  exact ⟨rfl, HA_6.out⟩
end Go.Proofs.Yteokjoppplbmfaa.W04
