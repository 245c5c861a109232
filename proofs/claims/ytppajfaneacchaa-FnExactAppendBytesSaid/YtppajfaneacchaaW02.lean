/- The walks of the exact laws of chapter 2: each law returns true, and writes into nothing that was there. -/
import Derived.Test.YtppajfaneacchaaC02U
import Derived.Test.YtppajfaneacchaaT01
namespace Go.Proofs.Ytppajfaneacchaa.W02
open Go.RowKit Mem T01 C02U
set_option linter.unusedVariables false
set_option maxHeartbeats 400000
theorem FnExactEqualBytes_walk (W0 : World) (a0 : Option Addr) (l0 c0 : Nat) (z0 : List Int) (w0 : SL.IsRow .u8 W0 a0 l0 c0 z0) (a1 : Option Addr) (l1 c1 : Nat) (z1 : List Int) (w1 : SL.IsRow .u8 W0 a1 l1 c1 z1) :
    Calls Try.prog 11 #[.slice a0 l0 c0, .slice a1 l1 c1] W0 fun e w' => e = .returned (.bool true) ∧ Below W0.heap.size W0 w' := by
  have hR0 := rd_of_row w0
  have hC0 := row_cap w0
  have hL0 := hR0.len
  generalize z0.take l0 = y0 at hR0 hL0
  clear w0
  have hR1 := rd_of_row w1
  have hC1 := row_cap w1
  have hL1 := hR1.len
  generalize z1.take l1 = y1 at hR1 hL1
  clear w1
  by_cases hg0 : 1048576 < l0
  · have hg : 1048576 < (l0 : Int) := by omega
    clear hR0 hL0 hC0
    clear hR1 hL1 hC1
    go_enter Try.func11, Try.ntmps11
    go_wp2
    go_ret
    exact ⟨rfl, Below.refl _ _⟩
  by_cases hg1 : 1048576 < l1
  · have hg : 1048576 < (l1 : Int) := by omega
    clear hR0 hL0 hC0
    clear hR1 hL1 hC1
    go_enter Try.func11, Try.ntmps11
    go_wp2
    go_ret
    exact ⟨rfl, Below.refl _ _⟩
  obtain ⟨r0, hS, hI⟩ := both_EqualBytes y0 y1 (by omega) (by omega)
  have HS := Lib.hid hS
  have HI := Lib.hid hI
  clear hS hI
  have HO_aA_0 := Lib.hid hR0
  have HC0 := Lib.hid hC0
  clear hR0 hC0 hL0
  have HO_aB_0 := Lib.hid hR1
  have HC1 := Lib.hid hC1
  clear hR1 hC1 hL1
  have HA_0 := Lib.hid (Below.refl W0.heap.size W0)
  go_enter Try.func11, Try.ntmps11
  go_wp2_with fail
  refine (toByteS_any a0 l0 c0 y0 _ (HO_aA_0.out.more (Nat.le_refl _)) (by omega)).mono ?_
  rintro e W1 ⟨A__t0, c__t0, rfl, hown, hb⟩
  have HO__t0_1 := Lib.hid hown
  clear hown
  have HB_0 := Lib.hid hb
  clear hb
  have HZ_0 := Lib.hid HB_0.out.size
  have HA_1 := Lib.hid (HA_0.out.trans (HB_0.out.mono (Nat.le_refl _)))
  have HO_aA_1 := Lib.hid (HO_aA_0.out.below HB_0.out (Nat.le_refl _))
  have HO_aB_1 := Lib.hid (HO_aB_0.out.below HB_0.out (Nat.le_refl _))
  go_wp2_with fail
  refine (toByteS_any a1 l1 c1 y1 _ (HO_aB_1.out.more HZ_0.out) (by omega)).mono ?_
  rintro e W2 ⟨A__t1, c__t1, rfl, hown, hb⟩
  have HO__t1_2 := Lib.hid hown
  clear hown
  have HB_1 := Lib.hid hb
  clear hb
  have HZ_1 := Lib.hid HB_1.out.size
  have HA_2 := Lib.hid (HA_1.out.trans (HB_1.out.mono HZ_0.out))
  have HO_aA_2 := Lib.hid (HO_aA_1.out.below HB_1.out HZ_0.out)
  have HO_aB_2 := Lib.hid (HO_aB_1.out.below HB_1.out HZ_0.out)
  have HO__t0_2 := Lib.hid (HO__t0_1.out.below HB_1.out (Nat.le_refl _))
  go_wp2_with fail
  refine (HS.out A__t0 l0 c__t0 A__t1 l1 c__t1 _ (HO__t0_2.out.cap.1) (HO__t0_2.out.rd.more HZ_1.out) (HO__t1_2.out.cap.1) (HO__t1_2.out.rd.more (Nat.le_refl _))).mono ?_
  rintro e W3 ⟨rfl, hb⟩
  have HB_2 := Lib.hid hb
  clear hb
  have HZ_2 := Lib.hid HB_2.out.size
  have HA_3 := Lib.hid (HA_2.out.trans (HB_2.out.mono (Nat.le_trans HZ_0.out HZ_1.out)))
  have HO_aA_3 := Lib.hid (HO_aA_2.out.below HB_2.out (Nat.le_trans HZ_0.out HZ_1.out))
  have HO_aB_3 := Lib.hid (HO_aB_2.out.below HB_2.out (Nat.le_trans HZ_0.out HZ_1.out))
  go_wp2_with fail
  refine (toByteS_any a0 l0 c0 y0 _ (HO_aA_3.out.more (Nat.le_trans (Nat.le_trans HZ_0.out HZ_1.out) HZ_2.out)) (by omega)).mono ?_
  rintro e W4 ⟨A_x0, c_x0, rfl, hown, hb⟩
  have HO_x0_4 := Lib.hid hown
  clear hown
  have HB_3 := Lib.hid hb
  clear hb
  have HZ_3 := Lib.hid HB_3.out.size
  have HA_4 := Lib.hid (HA_3.out.trans (HB_3.out.mono (Nat.le_trans (Nat.le_trans HZ_0.out HZ_1.out) HZ_2.out)))
  have HO_aA_4 := Lib.hid (HO_aA_3.out.below HB_3.out (Nat.le_trans (Nat.le_trans HZ_0.out HZ_1.out) HZ_2.out))
  have HO_aB_4 := Lib.hid (HO_aB_3.out.below HB_3.out (Nat.le_trans (Nat.le_trans HZ_0.out HZ_1.out) HZ_2.out))
  go_wp2_with fail
  refine (toByteS_any a1 l1 c1 y1 _ (HO_aB_4.out.more (Nat.le_trans (Nat.le_trans (Nat.le_trans HZ_0.out HZ_1.out) HZ_2.out) HZ_3.out)) (by omega)).mono ?_
  rintro e W5 ⟨A_x1, c_x1, rfl, hown, hb⟩
  have HO_x1_5 := Lib.hid hown
  clear hown
  have HB_4 := Lib.hid hb
  clear hb
  have HZ_4 := Lib.hid HB_4.out.size
  have HA_5 := Lib.hid (HA_4.out.trans (HB_4.out.mono (Nat.le_trans (Nat.le_trans (Nat.le_trans HZ_0.out HZ_1.out) HZ_2.out) HZ_3.out)))
  have HO_aA_5 := Lib.hid (HO_aA_4.out.below HB_4.out (Nat.le_trans (Nat.le_trans (Nat.le_trans HZ_0.out HZ_1.out) HZ_2.out) HZ_3.out))
  have HO_aB_5 := Lib.hid (HO_aB_4.out.below HB_4.out (Nat.le_trans (Nat.le_trans (Nat.le_trans HZ_0.out HZ_1.out) HZ_2.out) HZ_3.out))
  have HO_x0_5 := Lib.hid (HO_x0_4.out.below HB_4.out (Nat.le_refl _))
  go_wp2_with fail
  refine (HI.out A_x0 l0 c_x0 A_x1 l1 c_x1 _ (HO_x0_5.out.cap.1) (HO_x0_5.out.rd.more HZ_4.out) (HO_x1_5.out.cap.1) (HO_x1_5.out.rd.more (Nat.le_refl _))).mono ?_
  rintro e W6 ⟨rfl, hb⟩
  have HB_5 := Lib.hid hb
  clear hb
  have HZ_5 := Lib.hid HB_5.out.size
  have HA_6 := Lib.hid (HA_5.out.trans (HB_5.out.mono (Nat.le_trans (Nat.le_trans (Nat.le_trans (Nat.le_trans HZ_0.out HZ_1.out) HZ_2.out) HZ_3.out) HZ_4.out)))
  have HO_aA_6 := Lib.hid (HO_aA_5.out.below HB_5.out (Nat.le_trans (Nat.le_trans (Nat.le_trans (Nat.le_trans HZ_0.out HZ_1.out) HZ_2.out) HZ_3.out) HZ_4.out))
  have HO_aB_6 := Lib.hid (HO_aB_5.out.below HB_5.out (Nat.le_trans (Nat.le_trans (Nat.le_trans (Nat.le_trans HZ_0.out HZ_1.out) HZ_2.out) HZ_3.out) HZ_4.out))
  have HO_x0_6 := Lib.hid (HO_x0_5.out.below HB_5.out HZ_4.out)
  have HO_x1_6 := Lib.hid (HO_x1_5.out.below HB_5.out (Nat.le_refl _))
  go_wp2_with fail
  refine (toByteS_any a0 l0 c0 y0 _ (HO_aA_6.out.more (Nat.le_trans (Nat.le_trans (Nat.le_trans (Nat.le_trans (Nat.le_trans HZ_0.out HZ_1.out) HZ_2.out) HZ_3.out) HZ_4.out) HZ_5.out)) (by omega)).mono ?_
  rintro e W7 ⟨A__t2, c__t2, rfl, hown, hb⟩
  have HO__t2_7 := Lib.hid hown
  clear hown
  have HB_6 := Lib.hid hb
  clear hb
  have HZ_6 := Lib.hid HB_6.out.size
  have HA_7 := Lib.hid (HA_6.out.trans (HB_6.out.mono (Nat.le_trans (Nat.le_trans (Nat.le_trans (Nat.le_trans (Nat.le_trans HZ_0.out HZ_1.out) HZ_2.out) HZ_3.out) HZ_4.out) HZ_5.out)))
  have HO_aB_7 := Lib.hid (HO_aB_6.out.below HB_6.out (Nat.le_trans (Nat.le_trans (Nat.le_trans (Nat.le_trans (Nat.le_trans HZ_0.out HZ_1.out) HZ_2.out) HZ_3.out) HZ_4.out) HZ_5.out))
  have HO_x0_7 := Lib.hid (HO_x0_6.out.below HB_6.out (Nat.le_trans HZ_4.out HZ_5.out))
  have HO_x1_7 := Lib.hid (HO_x1_6.out.below HB_6.out HZ_5.out)
  go_wp2_with fail
  refine (eqByteS_same _ _ A_x0 A__t2 l0 c_x0 c__t2 y0 _ HO_x0_7.out.rd HO__t2_7.out.rd (by omega)).mono ?_
  rintro e W8 ⟨rfl, hb⟩
  have HB_7 := Lib.hid hb
  clear hb
  have HZ_7 := Lib.hid (HB_7.out.below 0).size
  have HA_8 := Lib.hid (HA_7.out.trans (HB_7.out.below _))
  have HO_aB_8 := Lib.hid (HO_aB_7.out.same HB_7.out)
  have HO_x1_8 := Lib.hid (HO_x1_7.out.same HB_7.out)
  go_wp2_with fail
  refine (toByteS_any a1 l1 c1 y1 _ (HO_aB_8.out.more (Nat.le_trans (Nat.le_trans (Nat.le_trans (Nat.le_trans (Nat.le_trans (Nat.le_trans (Nat.le_trans HZ_0.out HZ_1.out) HZ_2.out) HZ_3.out) HZ_4.out) HZ_5.out) HZ_6.out) HZ_7.out)) (by omega)).mono ?_
  rintro e W9 ⟨A__t3, c__t3, rfl, hown, hb⟩
  have HO__t3_9 := Lib.hid hown
  clear hown
  have HB_8 := Lib.hid hb
  clear hb
  have HZ_8 := Lib.hid HB_8.out.size
  have HA_9 := Lib.hid (HA_8.out.trans (HB_8.out.mono (Nat.le_trans (Nat.le_trans (Nat.le_trans (Nat.le_trans (Nat.le_trans (Nat.le_trans (Nat.le_trans HZ_0.out HZ_1.out) HZ_2.out) HZ_3.out) HZ_4.out) HZ_5.out) HZ_6.out) HZ_7.out)))
  have HO_x1_9 := Lib.hid (HO_x1_8.out.below HB_8.out (Nat.le_trans (Nat.le_trans HZ_5.out HZ_6.out) HZ_7.out))
  go_wp2_with fail
  refine (eqByteS_same _ _ A_x1 A__t3 l1 c_x1 c__t3 y1 _ HO_x1_9.out.rd HO__t3_9.out.rd (by omega)).mono ?_
  rintro e W10 ⟨rfl, hb⟩
  have HB_9 := Lib.hid hb
  clear hb
  have HZ_9 := Lib.hid (HB_9.out.below 0).size
  have HA_10 := Lib.hid (HA_9.out.trans (HB_9.out.below _))
  go_wp2
  go_ret
  exact ⟨rfl, HA_10.out⟩
theorem FnExactReadUvarint_walk (W0 : World) (a0 : Option Addr) (l0 c0 : Nat) (z0 : List Int) (w0 : SL.IsRow .u8 W0 a0 l0 c0 z0) (v1 : Int) (hv1 : (Lit.int .i64 v1).wf = true) :
    Calls Try.prog 6 #[.slice a0 l0 c0, .int .i64 v1] W0 fun e w' => e = .returned (.bool true) ∧ Below W0.heap.size W0 w' := by
  have hR0 := rd_of_row w0
  have hC0 := row_cap w0
  have hL0 := hR0.len
  generalize z0.take l0 = y0 at hR0 hL0
  clear w0
  have hV1 : -9223372036854775808 ≤ v1 ∧ v1 ≤ 9223372036854775807 := by simpa [Lit.wf, IntKind.min, IntKind.max, IntKind.signed, IntKind.bits] using hv1
  clear hv1
  by_cases hg0 : 1048576 < l0
  · have hg : 1048576 < (l0 : Int) := by omega
    clear hR0 hL0 hC0
    go_enter Try.func6, Try.ntmps6
    go_wp2
    go_ret
    exact ⟨rfl, Below.refl _ _⟩
  obtain ⟨r0, r1, r2, hS, hI⟩ := both_ReadUvarint y0 v1 (by omega) hV1
  have HS := Lib.hid hS
  have HI := Lib.hid hI
  clear hS hI
  have HO_aB_0 := Lib.hid hR0
  have HC0 := Lib.hid hC0
  clear hR0 hC0 hL0
  clear hV1
  have HA_0 := Lib.hid (Below.refl W0.heap.size W0)
  go_enter Try.func6, Try.ntmps6
  go_wp2_with fail
  refine (toByteS_any a0 l0 c0 y0 _ (HO_aB_0.out.more (Nat.le_refl _)) (by omega)).mono ?_
  rintro e W1 ⟨A__t0, c__t0, rfl, hown, hb⟩
  have HO__t0_1 := Lib.hid hown
  clear hown
  have HB_0 := Lib.hid hb
  clear hb
  have HZ_0 := Lib.hid HB_0.out.size
  have HA_1 := Lib.hid (HA_0.out.trans (HB_0.out.mono (Nat.le_refl _)))
  have HO_aB_1 := Lib.hid (HO_aB_0.out.below HB_0.out (Nat.le_refl _))
  go_wp2_with fail
  refine (HS.out A__t0 l0 c__t0 _ (HO__t0_1.out.cap.1) (HO__t0_1.out.rd.more (Nat.le_refl _))).mono ?_
  rintro e W2 ⟨rfl, hb⟩
  have HB_1 := Lib.hid hb
  clear hb
  have HZ_1 := Lib.hid HB_1.out.size
  have HA_2 := Lib.hid (HA_1.out.trans (HB_1.out.mono HZ_0.out))
  have HO_aB_2 := Lib.hid (HO_aB_1.out.below HB_1.out HZ_0.out)
  go_wp2_with fail
  refine (toByteS_any a0 l0 c0 y0 _ (HO_aB_2.out.more (Nat.le_trans HZ_0.out HZ_1.out)) (by omega)).mono ?_
  rintro e W3 ⟨A_x0, c_x0, rfl, hown, hb⟩
  have HO_x0_3 := Lib.hid hown
  clear hown
  have HB_2 := Lib.hid hb
  clear hb
  have HZ_2 := Lib.hid HB_2.out.size
  have HA_3 := Lib.hid (HA_2.out.trans (HB_2.out.mono (Nat.le_trans HZ_0.out HZ_1.out)))
  have HO_aB_3 := Lib.hid (HO_aB_2.out.below HB_2.out (Nat.le_trans HZ_0.out HZ_1.out))
  go_wp2_with fail
  refine (HI.out A_x0 l0 c_x0 _ (HO_x0_3.out.cap.1) (HO_x0_3.out.rd.more (Nat.le_refl _))).mono ?_
  rintro e W4 ⟨rfl, hb⟩
  have HB_3 := Lib.hid hb
  clear hb
  have HZ_3 := Lib.hid HB_3.out.size
  have HA_4 := Lib.hid (HA_3.out.trans (HB_3.out.mono (Nat.le_trans (Nat.le_trans HZ_0.out HZ_1.out) HZ_2.out)))
  have HO_aB_4 := Lib.hid (HO_aB_3.out.below HB_3.out (Nat.le_trans (Nat.le_trans HZ_0.out HZ_1.out) HZ_2.out))
  have HO_x0_4 := Lib.hid (HO_x0_3.out.below HB_3.out (Nat.le_refl _))
  go_wp2_with fail
  refine (toByteS_any a0 l0 c0 y0 _ (HO_aB_4.out.more (Nat.le_trans (Nat.le_trans (Nat.le_trans HZ_0.out HZ_1.out) HZ_2.out) HZ_3.out)) (by omega)).mono ?_
  rintro e W5 ⟨A__t1, c__t1, rfl, hown, hb⟩
  have HO__t1_5 := Lib.hid hown
  clear hown
  have HB_4 := Lib.hid hb
  clear hb
  have HZ_4 := Lib.hid HB_4.out.size
  have HA_5 := Lib.hid (HA_4.out.trans (HB_4.out.mono (Nat.le_trans (Nat.le_trans (Nat.le_trans HZ_0.out HZ_1.out) HZ_2.out) HZ_3.out)))
  have HO_x0_5 := Lib.hid (HO_x0_4.out.below HB_4.out HZ_3.out)
  go_wp2_with fail
  refine (eqByteS_same _ _ A_x0 A__t1 l0 c_x0 c__t1 y0 _ HO_x0_5.out.rd HO__t1_5.out.rd (by omega)).mono ?_
  rintro e W6 ⟨rfl, hb⟩
  have HB_5 := Lib.hid hb
  clear hb
  have HZ_5 := Lib.hid (HB_5.out.below 0).size
  have HA_6 := Lib.hid (HA_5.out.trans (HB_5.out.below _))
  go_wp2
  go_ret
  exact ⟨rfl, HA_6.out⟩
theorem FnExactAppendUvarint_walk (W0 : World) (a0 : Option Addr) (l0 c0 : Nat) (z0 : List Int) (w0 : SL.IsRow .u8 W0 a0 l0 c0 z0) (v1 : Int) (hv1 : (Lit.int .i64 v1).wf = true) :
    Calls Try.prog 5 #[.slice a0 l0 c0, .int .i64 v1] W0 fun e w' => e = .returned (.bool true) ∧ Below W0.heap.size W0 w' := by
  have hR0 := rd_of_row w0
  have hC0 := row_cap w0
  have hL0 := hR0.len
  generalize z0.take l0 = y0 at hR0 hL0
  clear w0
  have hV1 : -9223372036854775808 ≤ v1 ∧ v1 ≤ 9223372036854775807 := by simpa [Lit.wf, IntKind.min, IntKind.max, IntKind.signed, IntKind.bits] using hv1
  clear hv1
  by_cases hg0 : 1048576 < l0
  · have hg : 1048576 < (l0 : Int) := by omega
    clear hR0 hL0 hC0
    go_enter Try.func5, Try.ntmps5
    go_wp2
    go_ret
    exact ⟨rfl, Below.refl _ _⟩
  obtain ⟨r0, hlen0, hS, hI⟩ := both_AppendUvarint y0 v1 (by omega) hV1
  have HS := Lib.hid hS
  have HI := Lib.hid hI
  clear hS hI
  have HO_aB_0 := Lib.hid hR0
  have HC0 := Lib.hid hC0
  clear hR0 hC0 hL0
  clear hV1
  have HA_0 := Lib.hid (Below.refl W0.heap.size W0)
  go_enter Try.func5, Try.ntmps5
  go_wp2_with fail
  refine (toByteS_any a0 l0 c0 y0 _ (HO_aB_0.out.more (Nat.le_refl _)) (by omega)).mono ?_
  rintro e W1 ⟨A__t0, c__t0, rfl, hown, hb⟩
  have HO__t0_1 := Lib.hid hown
  clear hown
  have HB_0 := Lib.hid hb
  clear hb
  have HZ_0 := Lib.hid HB_0.out.size
  have HA_1 := Lib.hid (HA_0.out.trans (HB_0.out.mono (Nat.le_refl _)))
  have HO_aB_1 := Lib.hid (HO_aB_0.out.below HB_0.out (Nat.le_refl _))
  go_wp2_with fail
  refine (HS.out A__t0 l0 c__t0 _ (HO__t0_1.out.cap.1) (HO__t0_1.out.rd.more (Nat.le_refl _))).mono ?_
  rintro e W2 ⟨A_w0, c_w0, rfl, ho0, hb⟩
  have HO_w0_2 := Lib.hid ho0
  clear ho0
  have HB_1 := Lib.hid hb
  clear hb
  have HZ_1 := Lib.hid HB_1.out.size
  have HA_2 := Lib.hid (HA_1.out.trans (HB_1.out.mono HZ_0.out))
  have HO_aB_2 := Lib.hid (HO_aB_1.out.below HB_1.out HZ_0.out)
  go_wp2_with fail
  refine (toByteS_any a0 l0 c0 y0 _ (HO_aB_2.out.more (Nat.le_trans HZ_0.out HZ_1.out)) (by omega)).mono ?_
  rintro e W3 ⟨A_x0, c_x0, rfl, hown, hb⟩
  have HO_x0_3 := Lib.hid hown
  clear hown
  have HB_2 := Lib.hid hb
  clear hb
  have HZ_2 := Lib.hid HB_2.out.size
  have HA_3 := Lib.hid (HA_2.out.trans (HB_2.out.mono (Nat.le_trans HZ_0.out HZ_1.out)))
  have HO_aB_3 := Lib.hid (HO_aB_2.out.below HB_2.out (Nat.le_trans HZ_0.out HZ_1.out))
  have HO_w0_3 := Lib.hid (HO_w0_2.out.below HB_2.out (Nat.le_refl _))
  go_wp2_with fail
  refine (HI.out A_x0 l0 c_x0 _ (HO_x0_3.out.cap.1) (HO_x0_3.out.rd.more (Nat.le_refl _))).mono ?_
  rintro e W4 ⟨A_g0, c_g0, rfl, ho0, hb⟩
  have HO_g0_4 := Lib.hid ho0
  clear ho0
  have HB_3 := Lib.hid hb
  clear hb
  have HZ_3 := Lib.hid HB_3.out.size
  have HA_4 := Lib.hid (HA_3.out.trans (HB_3.out.mono (Nat.le_trans (Nat.le_trans HZ_0.out HZ_1.out) HZ_2.out)))
  have HO_aB_4 := Lib.hid (HO_aB_3.out.below HB_3.out (Nat.le_trans (Nat.le_trans HZ_0.out HZ_1.out) HZ_2.out))
  have HO_w0_4 := Lib.hid (HO_w0_3.out.below HB_3.out HZ_2.out)
  have HO_x0_4 := Lib.hid (HO_x0_3.out.below HB_3.out (Nat.le_refl _))
  go_wp2_with fail
  refine (eqByteS_same _ _ A_g0 A_w0 r0.length c_g0 c_w0 r0 _ HO_g0_4.out.rd HO_w0_4.out.rd (by omega)).mono ?_
  rintro e W5 ⟨rfl, hb⟩
  have HB_4 := Lib.hid hb
  clear hb
  have HZ_4 := Lib.hid (HB_4.out.below 0).size
  have HA_5 := Lib.hid (HA_4.out.trans (HB_4.out.below _))
  have HO_aB_5 := Lib.hid (HO_aB_4.out.same HB_4.out)
  have HO_w0_5 := Lib.hid (HO_w0_4.out.same HB_4.out)
  have HO_x0_5 := Lib.hid (HO_x0_4.out.same HB_4.out)
  have HO_g0_5 := Lib.hid (HO_g0_4.out.same HB_4.out)
  go_wp2_with fail
  refine (toByteS_any a0 l0 c0 y0 _ (HO_aB_5.out.more (Nat.le_trans (Nat.le_trans (Nat.le_trans (Nat.le_trans HZ_0.out HZ_1.out) HZ_2.out) HZ_3.out) HZ_4.out)) (by omega)).mono ?_
  rintro e W6 ⟨A__t1, c__t1, rfl, hown, hb⟩
  have HO__t1_6 := Lib.hid hown
  clear hown
  have HB_5 := Lib.hid hb
  clear hb
  have HZ_5 := Lib.hid HB_5.out.size
  have HA_6 := Lib.hid (HA_5.out.trans (HB_5.out.mono (Nat.le_trans (Nat.le_trans (Nat.le_trans (Nat.le_trans HZ_0.out HZ_1.out) HZ_2.out) HZ_3.out) HZ_4.out)))
  have HO_aB_6 := Lib.hid (HO_aB_5.out.below HB_5.out (Nat.le_trans (Nat.le_trans (Nat.le_trans (Nat.le_trans HZ_0.out HZ_1.out) HZ_2.out) HZ_3.out) HZ_4.out))
  have HO_w0_6 := Lib.hid (HO_w0_5.out.below HB_5.out (Nat.le_trans (Nat.le_trans HZ_2.out HZ_3.out) HZ_4.out))
  have HO_x0_6 := Lib.hid (HO_x0_5.out.below HB_5.out (Nat.le_trans HZ_3.out HZ_4.out))
  have HO_g0_6 := Lib.hid (HO_g0_5.out.below HB_5.out HZ_4.out)
  go_wp2_with fail
  refine (eqByteS_same _ _ A_x0 A__t1 l0 c_x0 c__t1 y0 _ HO_x0_6.out.rd HO__t1_6.out.rd (by omega)).mono ?_
  rintro e W7 ⟨rfl, hb⟩
  have HB_6 := Lib.hid hb
  clear hb
  have HZ_6 := Lib.hid (HB_6.out.below 0).size
  have HA_7 := Lib.hid (HA_6.out.trans (HB_6.out.below _))
  have HO_aB_7 := Lib.hid (HO_aB_6.out.same HB_6.out)
  have HO_w0_7 := Lib.hid (HO_w0_6.out.same HB_6.out)
  have HO_x0_7 := Lib.hid (HO_x0_6.out.same HB_6.out)
  have HO_g0_7 := Lib.hid (HO_g0_6.out.same HB_6.out)
  go_wp2_with fail
  refine (markByteS_any _ _ A_x0 l0 c_x0 y0 1 _ HO_x0_7.out (by omega) (by omega) (by omega)).mono ?_
  rintro e W8 ⟨rfl, hown, hb⟩
  have HO_x0_8 := Lib.hid hown
  clear hown
  have HB_7 := Lib.hid hb
  clear hb
  have HZ_7 := Lib.hid HB_7.out.size
  have HA_8 := Lib.hid (HA_7.out.trans (HB_7.out.below (Nat.le_trans HZ_0.out HZ_1.out) (Nat.le_trans (Nat.le_trans (Nat.le_trans (Nat.le_trans (Nat.le_trans (Nat.le_trans HZ_0.out HZ_1.out) HZ_2.out) HZ_3.out) HZ_4.out) HZ_5.out) HZ_6.out)))
  have HO_aB_8 := Lib.hid (HO_aB_7.out.fr HB_7.out (Nat.le_trans HZ_0.out HZ_1.out) (Nat.le_trans (Nat.le_trans (Nat.le_trans (Nat.le_trans (Nat.le_trans (Nat.le_trans HZ_0.out HZ_1.out) HZ_2.out) HZ_3.out) HZ_4.out) HZ_5.out) HZ_6.out))
  have HO_w0_8 := Lib.hid (HO_w0_7.out.fr HB_7.out (.inl (Nat.le_refl _)))
  have HO_g0_8 := Lib.hid (HO_g0_7.out.fr HB_7.out (.inr (Nat.le_refl _)))
  go_wp2_with fail
  refine (eqByteS_same _ _ A_g0 A_w0 r0.length c_g0 c_w0 r0 _ HO_g0_8.out.rd HO_w0_8.out.rd (by omega)).mono ?_
  rintro e W9 ⟨rfl, hb⟩
  have HB_8 := Lib.hid hb
  clear hb
  have HZ_8 := Lib.hid (HB_8.out.below 0).size
  have HA_9 := Lib.hid (HA_8.out.trans (HB_8.out.below _))
  have HO_aB_9 := Lib.hid (HO_aB_8.out.same HB_8.out)
  have HO_w0_9 := Lib.hid (HO_w0_8.out.same HB_8.out)
  have HO_g0_9 := Lib.hid (HO_g0_8.out.same HB_8.out)
  go_wp2_with fail
  refine (markByteS_any _ _ A_g0 r0.length c_g0 r0 1 _ HO_g0_9.out (by omega) (by omega) (by omega)).mono ?_
  rintro e W10 ⟨rfl, hown, hb⟩
  have HO_g0_10 := Lib.hid hown
  clear hown
  have HB_9 := Lib.hid hb
  clear hb
  have HZ_9 := Lib.hid HB_9.out.size
  have HA_10 := Lib.hid (HA_9.out.trans (HB_9.out.below (Nat.le_trans (Nat.le_trans HZ_0.out HZ_1.out) HZ_2.out) (Nat.le_trans (Nat.le_trans (Nat.le_trans (Nat.le_trans (Nat.le_trans (Nat.le_trans (Nat.le_trans (Nat.le_trans HZ_0.out HZ_1.out) HZ_2.out) HZ_3.out) HZ_4.out) HZ_5.out) HZ_6.out) HZ_7.out) HZ_8.out)))
  have HO_aB_10 := Lib.hid (HO_aB_9.out.fr HB_9.out (Nat.le_trans (Nat.le_trans HZ_0.out HZ_1.out) HZ_2.out) (Nat.le_trans (Nat.le_trans (Nat.le_trans (Nat.le_trans (Nat.le_trans (Nat.le_trans (Nat.le_trans (Nat.le_trans HZ_0.out HZ_1.out) HZ_2.out) HZ_3.out) HZ_4.out) HZ_5.out) HZ_6.out) HZ_7.out) HZ_8.out))
  have HO_w0_10 := Lib.hid (HO_w0_9.out.fr HB_9.out (.inl HZ_2.out))
  go_wp2_with fail
  refine (heldByteS_marks _ A_g0 r0.length c_g0 1 _ HO_g0_10.out.rd (by omega) (by omega) (by omega)).mono ?_
  rintro e W11 ⟨rfl, rfl⟩
  go_wp2_with fail
  refine (toByteS_any a0 l0 c0 y0 _ (HO_aB_10.out.more (Nat.le_trans (Nat.le_trans (Nat.le_trans (Nat.le_trans (Nat.le_trans (Nat.le_trans (Nat.le_trans (Nat.le_trans (Nat.le_trans HZ_0.out HZ_1.out) HZ_2.out) HZ_3.out) HZ_4.out) HZ_5.out) HZ_6.out) HZ_7.out) HZ_8.out) HZ_9.out)) (by omega)).mono ?_
  rintro e W11 ⟨A__t2, c__t2, rfl, hown, hb⟩
  have HO__t2_11 := Lib.hid hown
  clear hown
  have HB_10 := Lib.hid hb
  clear hb
  have HZ_10 := Lib.hid HB_10.out.size
  have HA_11 := Lib.hid (HA_10.out.trans (HB_10.out.mono (Nat.le_trans (Nat.le_trans (Nat.le_trans (Nat.le_trans (Nat.le_trans (Nat.le_trans (Nat.le_trans (Nat.le_trans (Nat.le_trans HZ_0.out HZ_1.out) HZ_2.out) HZ_3.out) HZ_4.out) HZ_5.out) HZ_6.out) HZ_7.out) HZ_8.out) HZ_9.out)))
  have HO_w0_11 := Lib.hid (HO_w0_10.out.below HB_10.out (Nat.le_trans (Nat.le_trans (Nat.le_trans (Nat.le_trans (Nat.le_trans (Nat.le_trans (Nat.le_trans HZ_2.out HZ_3.out) HZ_4.out) HZ_5.out) HZ_6.out) HZ_7.out) HZ_8.out) HZ_9.out))
  have HO_g0_11 := Lib.hid (HO_g0_10.out.below HB_10.out (Nat.le_trans (Nat.le_trans (Nat.le_trans (Nat.le_trans (Nat.le_trans HZ_4.out HZ_5.out) HZ_6.out) HZ_7.out) HZ_8.out) HZ_9.out))
  go_wp2_with fail
  refine (HI.out A__t2 l0 c__t2 _ (HO__t2_11.out.cap.1) (HO__t2_11.out.rd.more (Nat.le_refl _))).mono ?_
  rintro e W12 ⟨A_h0, c_h0, rfl, ho0, hb⟩
  have HO_h0_12 := Lib.hid ho0
  clear ho0
  have HB_11 := Lib.hid hb
  clear hb
  have HZ_11 := Lib.hid HB_11.out.size
  have HA_12 := Lib.hid (HA_11.out.trans (HB_11.out.mono (Nat.le_trans (Nat.le_trans (Nat.le_trans (Nat.le_trans (Nat.le_trans (Nat.le_trans (Nat.le_trans (Nat.le_trans (Nat.le_trans (Nat.le_trans HZ_0.out HZ_1.out) HZ_2.out) HZ_3.out) HZ_4.out) HZ_5.out) HZ_6.out) HZ_7.out) HZ_8.out) HZ_9.out) HZ_10.out)))
  have HO_w0_12 := Lib.hid (HO_w0_11.out.below HB_11.out (Nat.le_trans (Nat.le_trans (Nat.le_trans (Nat.le_trans (Nat.le_trans (Nat.le_trans (Nat.le_trans (Nat.le_trans HZ_2.out HZ_3.out) HZ_4.out) HZ_5.out) HZ_6.out) HZ_7.out) HZ_8.out) HZ_9.out) HZ_10.out))
  have HO_g0_12 := Lib.hid (HO_g0_11.out.below HB_11.out (Nat.le_trans (Nat.le_trans (Nat.le_trans (Nat.le_trans (Nat.le_trans (Nat.le_trans HZ_4.out HZ_5.out) HZ_6.out) HZ_7.out) HZ_8.out) HZ_9.out) HZ_10.out))
  go_wp2_with fail
  refine (eqByteS_same _ _ A_h0 A_w0 r0.length c_h0 c_w0 r0 _ HO_h0_12.out.rd HO_w0_12.out.rd (by omega)).mono ?_
  rintro e W13 ⟨rfl, hb⟩
  have HB_12 := Lib.hid hb
  clear hb
  have HZ_12 := Lib.hid (HB_12.out.below 0).size
  have HA_13 := Lib.hid (HA_12.out.trans (HB_12.out.below _))
  have HO_g0_13 := Lib.hid (HO_g0_12.out.same HB_12.out)
  go_wp2_with fail
  refine (heldByteS_marks _ A_g0 r0.length c_g0 1 _ HO_g0_13.out.rd (by omega) (by omega) (by omega)).mono ?_
  rintro e W14 ⟨rfl, rfl⟩
  go_wp2
  go_ret
  exact ⟨rfl, HA_13.out⟩
theorem FnExactAppendBytes_walk (W0 : World) (a0 : Option Addr) (l0 c0 : Nat) (z0 : List Int) (w0 : SL.IsRow .u8 W0 a0 l0 c0 z0) (a1 : Option Addr) (l1 c1 : Nat) (z1 : List Int) (w1 : SL.IsRow .u8 W0 a1 l1 c1 z1) :
    Calls Try.prog 7 #[.slice a0 l0 c0, .slice a1 l1 c1] W0 fun e w' => e = .returned (.bool true) ∧ Below W0.heap.size W0 w' := by
  have hR0 := rd_of_row w0
  have hC0 := row_cap w0
  have hL0 := hR0.len
  generalize z0.take l0 = y0 at hR0 hL0
  clear w0
  have hR1 := rd_of_row w1
  have hC1 := row_cap w1
  have hL1 := hR1.len
  generalize z1.take l1 = y1 at hR1 hL1
  clear w1
  by_cases hg0 : 1048576 < l0
  · have hg : 1048576 < (l0 : Int) := by omega
    clear hR0 hL0 hC0
    clear hR1 hL1 hC1
    go_enter Try.func7, Try.ntmps7
    go_wp2
    go_ret
    exact ⟨rfl, Below.refl _ _⟩
  by_cases hg1 : 1048576 < l1
  · have hg : 1048576 < (l1 : Int) := by omega
    clear hR0 hL0 hC0
    clear hR1 hL1 hC1
    go_enter Try.func7, Try.ntmps7
    go_wp2
    go_ret
    exact ⟨rfl, Below.refl _ _⟩
  obtain ⟨r0, hlen0, hS, hI⟩ := both_AppendBytes y0 y1 (by omega) (by omega)
  have HS := Lib.hid hS
  have HI := Lib.hid hI
  clear hS hI
  have HO_aB_0 := Lib.hid hR0
  have HC0 := Lib.hid hC0
  clear hR0 hC0 hL0
  have HO_aData_0 := Lib.hid hR1
  have HC1 := Lib.hid hC1
  clear hR1 hC1 hL1
  have HA_0 := Lib.hid (Below.refl W0.heap.size W0)
  go_enter Try.func7, Try.ntmps7
  go_wp2_with fail
  refine (toByteS_any a0 l0 c0 y0 _ (HO_aB_0.out.more (Nat.le_refl _)) (by omega)).mono ?_
  rintro e W1 ⟨A__t0, c__t0, rfl, hown, hb⟩
  have HO__t0_1 := Lib.hid hown
  clear hown
  have HB_0 := Lib.hid hb
  clear hb
  have HZ_0 := Lib.hid HB_0.out.size
  have HA_1 := Lib.hid (HA_0.out.trans (HB_0.out.mono (Nat.le_refl _)))
  have HO_aB_1 := Lib.hid (HO_aB_0.out.below HB_0.out (Nat.le_refl _))
  have HO_aData_1 := Lib.hid (HO_aData_0.out.below HB_0.out (Nat.le_refl _))
  go_wp2_with fail
  refine (toByteS_any a1 l1 c1 y1 _ (HO_aData_1.out.more HZ_0.out) (by omega)).mono ?_
  rintro e W2 ⟨A__t1, c__t1, rfl, hown, hb⟩
  have HO__t1_2 := Lib.hid hown
  clear hown
  have HB_1 := Lib.hid hb
  clear hb
  have HZ_1 := Lib.hid HB_1.out.size
  have HA_2 := Lib.hid (HA_1.out.trans (HB_1.out.mono HZ_0.out))
  have HO_aB_2 := Lib.hid (HO_aB_1.out.below HB_1.out HZ_0.out)
  have HO_aData_2 := Lib.hid (HO_aData_1.out.below HB_1.out HZ_0.out)
  have HO__t0_2 := Lib.hid (HO__t0_1.out.below HB_1.out (Nat.le_refl _))
  go_wp2_with fail
  refine (HS.out A__t0 l0 c__t0 A__t1 l1 c__t1 _ (HO__t0_2.out.cap.1) (HO__t0_2.out.rd.more HZ_1.out) (HO__t1_2.out.cap.1) (HO__t1_2.out.rd.more (Nat.le_refl _))).mono ?_
  rintro e W3 ⟨A_w0, c_w0, rfl, ho0, hb⟩
  have HO_w0_3 := Lib.hid ho0
  clear ho0
  have HB_2 := Lib.hid hb
  clear hb
  have HZ_2 := Lib.hid HB_2.out.size
  have HA_3 := Lib.hid (HA_2.out.trans (HB_2.out.mono (Nat.le_trans HZ_0.out HZ_1.out)))
  have HO_aB_3 := Lib.hid (HO_aB_2.out.below HB_2.out (Nat.le_trans HZ_0.out HZ_1.out))
  have HO_aData_3 := Lib.hid (HO_aData_2.out.below HB_2.out (Nat.le_trans HZ_0.out HZ_1.out))
  go_wp2_with fail
  refine (toByteS_any a0 l0 c0 y0 _ (HO_aB_3.out.more (Nat.le_trans (Nat.le_trans HZ_0.out HZ_1.out) HZ_2.out)) (by omega)).mono ?_
  rintro e W4 ⟨A_x0, c_x0, rfl, hown, hb⟩
  have HO_x0_4 := Lib.hid hown
  clear hown
  have HB_3 := Lib.hid hb
  clear hb
  have HZ_3 := Lib.hid HB_3.out.size
  have HA_4 := Lib.hid (HA_3.out.trans (HB_3.out.mono (Nat.le_trans (Nat.le_trans HZ_0.out HZ_1.out) HZ_2.out)))
  have HO_aB_4 := Lib.hid (HO_aB_3.out.below HB_3.out (Nat.le_trans (Nat.le_trans HZ_0.out HZ_1.out) HZ_2.out))
  have HO_aData_4 := Lib.hid (HO_aData_3.out.below HB_3.out (Nat.le_trans (Nat.le_trans HZ_0.out HZ_1.out) HZ_2.out))
  have HO_w0_4 := Lib.hid (HO_w0_3.out.below HB_3.out (Nat.le_refl _))
  go_wp2_with fail
  refine (toByteS_any a1 l1 c1 y1 _ (HO_aData_4.out.more (Nat.le_trans (Nat.le_trans (Nat.le_trans HZ_0.out HZ_1.out) HZ_2.out) HZ_3.out)) (by omega)).mono ?_
  rintro e W5 ⟨A_x1, c_x1, rfl, hown, hb⟩
  have HO_x1_5 := Lib.hid hown
  clear hown
  have HB_4 := Lib.hid hb
  clear hb
  have HZ_4 := Lib.hid HB_4.out.size
  have HA_5 := Lib.hid (HA_4.out.trans (HB_4.out.mono (Nat.le_trans (Nat.le_trans (Nat.le_trans HZ_0.out HZ_1.out) HZ_2.out) HZ_3.out)))
  have HO_aB_5 := Lib.hid (HO_aB_4.out.below HB_4.out (Nat.le_trans (Nat.le_trans (Nat.le_trans HZ_0.out HZ_1.out) HZ_2.out) HZ_3.out))
  have HO_aData_5 := Lib.hid (HO_aData_4.out.below HB_4.out (Nat.le_trans (Nat.le_trans (Nat.le_trans HZ_0.out HZ_1.out) HZ_2.out) HZ_3.out))
  have HO_w0_5 := Lib.hid (HO_w0_4.out.below HB_4.out HZ_3.out)
  have HO_x0_5 := Lib.hid (HO_x0_4.out.below HB_4.out (Nat.le_refl _))
  go_wp2_with fail
  refine (HI.out A_x0 l0 c_x0 A_x1 l1 c_x1 _ (HO_x0_5.out.cap.1) (HO_x0_5.out.rd.more HZ_4.out) (HO_x1_5.out.cap.1) (HO_x1_5.out.rd.more (Nat.le_refl _))).mono ?_
  rintro e W6 ⟨A_g0, c_g0, rfl, ho0, hb⟩
  have HO_g0_6 := Lib.hid ho0
  clear ho0
  have HB_5 := Lib.hid hb
  clear hb
  have HZ_5 := Lib.hid HB_5.out.size
  have HA_6 := Lib.hid (HA_5.out.trans (HB_5.out.mono (Nat.le_trans (Nat.le_trans (Nat.le_trans (Nat.le_trans HZ_0.out HZ_1.out) HZ_2.out) HZ_3.out) HZ_4.out)))
  have HO_aB_6 := Lib.hid (HO_aB_5.out.below HB_5.out (Nat.le_trans (Nat.le_trans (Nat.le_trans (Nat.le_trans HZ_0.out HZ_1.out) HZ_2.out) HZ_3.out) HZ_4.out))
  have HO_aData_6 := Lib.hid (HO_aData_5.out.below HB_5.out (Nat.le_trans (Nat.le_trans (Nat.le_trans (Nat.le_trans HZ_0.out HZ_1.out) HZ_2.out) HZ_3.out) HZ_4.out))
  have HO_w0_6 := Lib.hid (HO_w0_5.out.below HB_5.out (Nat.le_trans HZ_3.out HZ_4.out))
  have HO_x0_6 := Lib.hid (HO_x0_5.out.below HB_5.out HZ_4.out)
  have HO_x1_6 := Lib.hid (HO_x1_5.out.below HB_5.out (Nat.le_refl _))
  go_wp2_with fail
  refine (eqByteS_same _ _ A_g0 A_w0 r0.length c_g0 c_w0 r0 _ HO_g0_6.out.rd HO_w0_6.out.rd (by omega)).mono ?_
  rintro e W7 ⟨rfl, hb⟩
  have HB_6 := Lib.hid hb
  clear hb
  have HZ_6 := Lib.hid (HB_6.out.below 0).size
  have HA_7 := Lib.hid (HA_6.out.trans (HB_6.out.below _))
  have HO_aB_7 := Lib.hid (HO_aB_6.out.same HB_6.out)
  have HO_aData_7 := Lib.hid (HO_aData_6.out.same HB_6.out)
  have HO_w0_7 := Lib.hid (HO_w0_6.out.same HB_6.out)
  have HO_x0_7 := Lib.hid (HO_x0_6.out.same HB_6.out)
  have HO_x1_7 := Lib.hid (HO_x1_6.out.same HB_6.out)
  have HO_g0_7 := Lib.hid (HO_g0_6.out.same HB_6.out)
  go_wp2_with fail
  refine (toByteS_any a0 l0 c0 y0 _ (HO_aB_7.out.more (Nat.le_trans (Nat.le_trans (Nat.le_trans (Nat.le_trans (Nat.le_trans (Nat.le_trans HZ_0.out HZ_1.out) HZ_2.out) HZ_3.out) HZ_4.out) HZ_5.out) HZ_6.out)) (by omega)).mono ?_
  rintro e W8 ⟨A__t2, c__t2, rfl, hown, hb⟩
  have HO__t2_8 := Lib.hid hown
  clear hown
  have HB_7 := Lib.hid hb
  clear hb
  have HZ_7 := Lib.hid HB_7.out.size
  have HA_8 := Lib.hid (HA_7.out.trans (HB_7.out.mono (Nat.le_trans (Nat.le_trans (Nat.le_trans (Nat.le_trans (Nat.le_trans (Nat.le_trans HZ_0.out HZ_1.out) HZ_2.out) HZ_3.out) HZ_4.out) HZ_5.out) HZ_6.out)))
  have HO_aB_8 := Lib.hid (HO_aB_7.out.below HB_7.out (Nat.le_trans (Nat.le_trans (Nat.le_trans (Nat.le_trans (Nat.le_trans (Nat.le_trans HZ_0.out HZ_1.out) HZ_2.out) HZ_3.out) HZ_4.out) HZ_5.out) HZ_6.out))
  have HO_aData_8 := Lib.hid (HO_aData_7.out.below HB_7.out (Nat.le_trans (Nat.le_trans (Nat.le_trans (Nat.le_trans (Nat.le_trans (Nat.le_trans HZ_0.out HZ_1.out) HZ_2.out) HZ_3.out) HZ_4.out) HZ_5.out) HZ_6.out))
  have HO_w0_8 := Lib.hid (HO_w0_7.out.below HB_7.out (Nat.le_trans (Nat.le_trans (Nat.le_trans HZ_3.out HZ_4.out) HZ_5.out) HZ_6.out))
  have HO_x0_8 := Lib.hid (HO_x0_7.out.below HB_7.out (Nat.le_trans (Nat.le_trans HZ_4.out HZ_5.out) HZ_6.out))
  have HO_x1_8 := Lib.hid (HO_x1_7.out.below HB_7.out (Nat.le_trans HZ_5.out HZ_6.out))
  have HO_g0_8 := Lib.hid (HO_g0_7.out.below HB_7.out HZ_6.out)
  go_wp2_with fail
  refine (eqByteS_same _ _ A_x0 A__t2 l0 c_x0 c__t2 y0 _ HO_x0_8.out.rd HO__t2_8.out.rd (by omega)).mono ?_
  rintro e W9 ⟨rfl, hb⟩
  have HB_8 := Lib.hid hb
  clear hb
  have HZ_8 := Lib.hid (HB_8.out.below 0).size
  have HA_9 := Lib.hid (HA_8.out.trans (HB_8.out.below _))
  have HO_aB_9 := Lib.hid (HO_aB_8.out.same HB_8.out)
  have HO_aData_9 := Lib.hid (HO_aData_8.out.same HB_8.out)
  have HO_w0_9 := Lib.hid (HO_w0_8.out.same HB_8.out)
  have HO_x0_9 := Lib.hid (HO_x0_8.out.same HB_8.out)
  have HO_x1_9 := Lib.hid (HO_x1_8.out.same HB_8.out)
  have HO_g0_9 := Lib.hid (HO_g0_8.out.same HB_8.out)
  go_wp2_with fail
  refine (toByteS_any a1 l1 c1 y1 _ (HO_aData_9.out.more (Nat.le_trans (Nat.le_trans (Nat.le_trans (Nat.le_trans (Nat.le_trans (Nat.le_trans (Nat.le_trans (Nat.le_trans HZ_0.out HZ_1.out) HZ_2.out) HZ_3.out) HZ_4.out) HZ_5.out) HZ_6.out) HZ_7.out) HZ_8.out)) (by omega)).mono ?_
  rintro e W10 ⟨A__t3, c__t3, rfl, hown, hb⟩
  have HO__t3_10 := Lib.hid hown
  clear hown
  have HB_9 := Lib.hid hb
  clear hb
  have HZ_9 := Lib.hid HB_9.out.size
  have HA_10 := Lib.hid (HA_9.out.trans (HB_9.out.mono (Nat.le_trans (Nat.le_trans (Nat.le_trans (Nat.le_trans (Nat.le_trans (Nat.le_trans (Nat.le_trans (Nat.le_trans HZ_0.out HZ_1.out) HZ_2.out) HZ_3.out) HZ_4.out) HZ_5.out) HZ_6.out) HZ_7.out) HZ_8.out)))
  have HO_aB_10 := Lib.hid (HO_aB_9.out.below HB_9.out (Nat.le_trans (Nat.le_trans (Nat.le_trans (Nat.le_trans (Nat.le_trans (Nat.le_trans (Nat.le_trans (Nat.le_trans HZ_0.out HZ_1.out) HZ_2.out) HZ_3.out) HZ_4.out) HZ_5.out) HZ_6.out) HZ_7.out) HZ_8.out))
  have HO_aData_10 := Lib.hid (HO_aData_9.out.below HB_9.out (Nat.le_trans (Nat.le_trans (Nat.le_trans (Nat.le_trans (Nat.le_trans (Nat.le_trans (Nat.le_trans (Nat.le_trans HZ_0.out HZ_1.out) HZ_2.out) HZ_3.out) HZ_4.out) HZ_5.out) HZ_6.out) HZ_7.out) HZ_8.out))
  have HO_w0_10 := Lib.hid (HO_w0_9.out.below HB_9.out (Nat.le_trans (Nat.le_trans (Nat.le_trans (Nat.le_trans (Nat.le_trans HZ_3.out HZ_4.out) HZ_5.out) HZ_6.out) HZ_7.out) HZ_8.out))
  have HO_x0_10 := Lib.hid (HO_x0_9.out.below HB_9.out (Nat.le_trans (Nat.le_trans (Nat.le_trans (Nat.le_trans HZ_4.out HZ_5.out) HZ_6.out) HZ_7.out) HZ_8.out))
  have HO_x1_10 := Lib.hid (HO_x1_9.out.below HB_9.out (Nat.le_trans (Nat.le_trans (Nat.le_trans HZ_5.out HZ_6.out) HZ_7.out) HZ_8.out))
  have HO_g0_10 := Lib.hid (HO_g0_9.out.below HB_9.out (Nat.le_trans (Nat.le_trans HZ_6.out HZ_7.out) HZ_8.out))
  go_wp2_with fail
  refine (eqByteS_same _ _ A_x1 A__t3 l1 c_x1 c__t3 y1 _ HO_x1_10.out.rd HO__t3_10.out.rd (by omega)).mono ?_
  rintro e W11 ⟨rfl, hb⟩
  have HB_10 := Lib.hid hb
  clear hb
  have HZ_10 := Lib.hid (HB_10.out.below 0).size
  have HA_11 := Lib.hid (HA_10.out.trans (HB_10.out.below _))
  have HO_aB_11 := Lib.hid (HO_aB_10.out.same HB_10.out)
  have HO_aData_11 := Lib.hid (HO_aData_10.out.same HB_10.out)
  have HO_w0_11 := Lib.hid (HO_w0_10.out.same HB_10.out)
  have HO_x0_11 := Lib.hid (HO_x0_10.out.same HB_10.out)
  have HO_x1_11 := Lib.hid (HO_x1_10.out.same HB_10.out)
  have HO_g0_11 := Lib.hid (HO_g0_10.out.same HB_10.out)
  go_wp2_with fail
  refine (markByteS_any _ _ A_x0 l0 c_x0 y0 1 _ HO_x0_11.out (by omega) (by omega) (by omega)).mono ?_
  rintro e W12 ⟨rfl, hown, hb⟩
  have HO_x0_12 := Lib.hid hown
  clear hown
  have HB_11 := Lib.hid hb
  clear hb
  have HZ_11 := Lib.hid HB_11.out.size
  have HA_12 := Lib.hid (HA_11.out.trans (HB_11.out.below (Nat.le_trans (Nat.le_trans HZ_0.out HZ_1.out) HZ_2.out) (Nat.le_trans (Nat.le_trans (Nat.le_trans (Nat.le_trans (Nat.le_trans (Nat.le_trans (Nat.le_trans (Nat.le_trans (Nat.le_trans (Nat.le_trans HZ_0.out HZ_1.out) HZ_2.out) HZ_3.out) HZ_4.out) HZ_5.out) HZ_6.out) HZ_7.out) HZ_8.out) HZ_9.out) HZ_10.out)))
  have HO_aB_12 := Lib.hid (HO_aB_11.out.fr HB_11.out (Nat.le_trans (Nat.le_trans HZ_0.out HZ_1.out) HZ_2.out) (Nat.le_trans (Nat.le_trans (Nat.le_trans (Nat.le_trans (Nat.le_trans (Nat.le_trans (Nat.le_trans (Nat.le_trans (Nat.le_trans (Nat.le_trans HZ_0.out HZ_1.out) HZ_2.out) HZ_3.out) HZ_4.out) HZ_5.out) HZ_6.out) HZ_7.out) HZ_8.out) HZ_9.out) HZ_10.out))
  have HO_aData_12 := Lib.hid (HO_aData_11.out.fr HB_11.out (Nat.le_trans (Nat.le_trans HZ_0.out HZ_1.out) HZ_2.out) (Nat.le_trans (Nat.le_trans (Nat.le_trans (Nat.le_trans (Nat.le_trans (Nat.le_trans (Nat.le_trans (Nat.le_trans (Nat.le_trans (Nat.le_trans HZ_0.out HZ_1.out) HZ_2.out) HZ_3.out) HZ_4.out) HZ_5.out) HZ_6.out) HZ_7.out) HZ_8.out) HZ_9.out) HZ_10.out))
  have HO_w0_12 := Lib.hid (HO_w0_11.out.fr HB_11.out (.inl (Nat.le_refl _)))
  have HO_x1_12 := Lib.hid (HO_x1_11.out.fr HB_11.out (.inr (Nat.le_refl _)))
  have HO_g0_12 := Lib.hid (HO_g0_11.out.fr HB_11.out (.inr HZ_4.out))
  go_wp2_with fail
  refine (markByteS_any _ _ A_x1 l1 c_x1 y1 (1 + (l0 : Int)) _ HO_x1_12.out (by omega) (by omega) (by omega)).mono ?_
  rintro e W13 ⟨rfl, hown, hb⟩
  have HO_x1_13 := Lib.hid hown
  clear hown
  have HB_12 := Lib.hid hb
  clear hb
  have HZ_12 := Lib.hid HB_12.out.size
  have HA_13 := Lib.hid (HA_12.out.trans (HB_12.out.below (Nat.le_trans (Nat.le_trans (Nat.le_trans HZ_0.out HZ_1.out) HZ_2.out) HZ_3.out) (Nat.le_trans (Nat.le_trans (Nat.le_trans (Nat.le_trans (Nat.le_trans (Nat.le_trans (Nat.le_trans (Nat.le_trans (Nat.le_trans (Nat.le_trans (Nat.le_trans HZ_0.out HZ_1.out) HZ_2.out) HZ_3.out) HZ_4.out) HZ_5.out) HZ_6.out) HZ_7.out) HZ_8.out) HZ_9.out) HZ_10.out) HZ_11.out)))
  have HO_aB_13 := Lib.hid (HO_aB_12.out.fr HB_12.out (Nat.le_trans (Nat.le_trans (Nat.le_trans HZ_0.out HZ_1.out) HZ_2.out) HZ_3.out) (Nat.le_trans (Nat.le_trans (Nat.le_trans (Nat.le_trans (Nat.le_trans (Nat.le_trans (Nat.le_trans (Nat.le_trans (Nat.le_trans (Nat.le_trans (Nat.le_trans HZ_0.out HZ_1.out) HZ_2.out) HZ_3.out) HZ_4.out) HZ_5.out) HZ_6.out) HZ_7.out) HZ_8.out) HZ_9.out) HZ_10.out) HZ_11.out))
  have HO_aData_13 := Lib.hid (HO_aData_12.out.fr HB_12.out (Nat.le_trans (Nat.le_trans (Nat.le_trans HZ_0.out HZ_1.out) HZ_2.out) HZ_3.out) (Nat.le_trans (Nat.le_trans (Nat.le_trans (Nat.le_trans (Nat.le_trans (Nat.le_trans (Nat.le_trans (Nat.le_trans (Nat.le_trans (Nat.le_trans (Nat.le_trans HZ_0.out HZ_1.out) HZ_2.out) HZ_3.out) HZ_4.out) HZ_5.out) HZ_6.out) HZ_7.out) HZ_8.out) HZ_9.out) HZ_10.out) HZ_11.out))
  have HO_w0_13 := Lib.hid (HO_w0_12.out.fr HB_12.out (.inl HZ_3.out))
  have HO_g0_13 := Lib.hid (HO_g0_12.out.fr HB_12.out (.inr (Nat.le_refl _)))
  go_wp2_with fail
  refine (eqByteS_same _ _ A_g0 A_w0 r0.length c_g0 c_w0 r0 _ HO_g0_13.out.rd HO_w0_13.out.rd (by omega)).mono ?_
  rintro e W14 ⟨rfl, hb⟩
  have HB_13 := Lib.hid hb
  clear hb
  have HZ_13 := Lib.hid (HB_13.out.below 0).size
  have HA_14 := Lib.hid (HA_13.out.trans (HB_13.out.below _))
  have HO_aB_14 := Lib.hid (HO_aB_13.out.same HB_13.out)
  have HO_aData_14 := Lib.hid (HO_aData_13.out.same HB_13.out)
  have HO_w0_14 := Lib.hid (HO_w0_13.out.same HB_13.out)
  have HO_g0_14 := Lib.hid (HO_g0_13.out.same HB_13.out)
  go_wp2_with fail
  refine (markByteS_any _ _ A_g0 r0.length c_g0 r0 1 _ HO_g0_14.out (by omega) (by omega) (by omega)).mono ?_
  rintro e W15 ⟨rfl, hown, hb⟩
  have HO_g0_15 := Lib.hid hown
  clear hown
  have HB_14 := Lib.hid hb
  clear hb
  have HZ_14 := Lib.hid HB_14.out.size
  have HA_15 := Lib.hid (HA_14.out.trans (HB_14.out.below (Nat.le_trans (Nat.le_trans (Nat.le_trans (Nat.le_trans HZ_0.out HZ_1.out) HZ_2.out) HZ_3.out) HZ_4.out) (Nat.le_trans (Nat.le_trans (Nat.le_trans (Nat.le_trans (Nat.le_trans (Nat.le_trans (Nat.le_trans (Nat.le_trans (Nat.le_trans (Nat.le_trans (Nat.le_trans (Nat.le_trans (Nat.le_trans HZ_0.out HZ_1.out) HZ_2.out) HZ_3.out) HZ_4.out) HZ_5.out) HZ_6.out) HZ_7.out) HZ_8.out) HZ_9.out) HZ_10.out) HZ_11.out) HZ_12.out) HZ_13.out)))
  have HO_aB_15 := Lib.hid (HO_aB_14.out.fr HB_14.out (Nat.le_trans (Nat.le_trans (Nat.le_trans (Nat.le_trans HZ_0.out HZ_1.out) HZ_2.out) HZ_3.out) HZ_4.out) (Nat.le_trans (Nat.le_trans (Nat.le_trans (Nat.le_trans (Nat.le_trans (Nat.le_trans (Nat.le_trans (Nat.le_trans (Nat.le_trans (Nat.le_trans (Nat.le_trans (Nat.le_trans (Nat.le_trans HZ_0.out HZ_1.out) HZ_2.out) HZ_3.out) HZ_4.out) HZ_5.out) HZ_6.out) HZ_7.out) HZ_8.out) HZ_9.out) HZ_10.out) HZ_11.out) HZ_12.out) HZ_13.out))
  have HO_aData_15 := Lib.hid (HO_aData_14.out.fr HB_14.out (Nat.le_trans (Nat.le_trans (Nat.le_trans (Nat.le_trans HZ_0.out HZ_1.out) HZ_2.out) HZ_3.out) HZ_4.out) (Nat.le_trans (Nat.le_trans (Nat.le_trans (Nat.le_trans (Nat.le_trans (Nat.le_trans (Nat.le_trans (Nat.le_trans (Nat.le_trans (Nat.le_trans (Nat.le_trans (Nat.le_trans (Nat.le_trans HZ_0.out HZ_1.out) HZ_2.out) HZ_3.out) HZ_4.out) HZ_5.out) HZ_6.out) HZ_7.out) HZ_8.out) HZ_9.out) HZ_10.out) HZ_11.out) HZ_12.out) HZ_13.out))
  have HO_w0_15 := Lib.hid (HO_w0_14.out.fr HB_14.out (.inl (Nat.le_trans HZ_3.out HZ_4.out)))
  go_wp2_with fail
  refine (heldByteS_marks _ A_g0 r0.length c_g0 1 _ HO_g0_15.out.rd (by omega) (by omega) (by omega)).mono ?_
  rintro e W16 ⟨rfl, rfl⟩
  go_wp2_with fail
  refine (toByteS_any a0 l0 c0 y0 _ (HO_aB_15.out.more (Nat.le_trans (Nat.le_trans (Nat.le_trans (Nat.le_trans (Nat.le_trans (Nat.le_trans (Nat.le_trans (Nat.le_trans (Nat.le_trans (Nat.le_trans (Nat.le_trans (Nat.le_trans (Nat.le_trans (Nat.le_trans HZ_0.out HZ_1.out) HZ_2.out) HZ_3.out) HZ_4.out) HZ_5.out) HZ_6.out) HZ_7.out) HZ_8.out) HZ_9.out) HZ_10.out) HZ_11.out) HZ_12.out) HZ_13.out) HZ_14.out)) (by omega)).mono ?_
  rintro e W16 ⟨A__t4, c__t4, rfl, hown, hb⟩
  have HO__t4_16 := Lib.hid hown
  clear hown
  have HB_15 := Lib.hid hb
  clear hb
  have HZ_15 := Lib.hid HB_15.out.size
  have HA_16 := Lib.hid (HA_15.out.trans (HB_15.out.mono (Nat.le_trans (Nat.le_trans (Nat.le_trans (Nat.le_trans (Nat.le_trans (Nat.le_trans (Nat.le_trans (Nat.le_trans (Nat.le_trans (Nat.le_trans (Nat.le_trans (Nat.le_trans (Nat.le_trans (Nat.le_trans HZ_0.out HZ_1.out) HZ_2.out) HZ_3.out) HZ_4.out) HZ_5.out) HZ_6.out) HZ_7.out) HZ_8.out) HZ_9.out) HZ_10.out) HZ_11.out) HZ_12.out) HZ_13.out) HZ_14.out)))
  have HO_aData_16 := Lib.hid (HO_aData_15.out.below HB_15.out (Nat.le_trans (Nat.le_trans (Nat.le_trans (Nat.le_trans (Nat.le_trans (Nat.le_trans (Nat.le_trans (Nat.le_trans (Nat.le_trans (Nat.le_trans (Nat.le_trans (Nat.le_trans (Nat.le_trans (Nat.le_trans HZ_0.out HZ_1.out) HZ_2.out) HZ_3.out) HZ_4.out) HZ_5.out) HZ_6.out) HZ_7.out) HZ_8.out) HZ_9.out) HZ_10.out) HZ_11.out) HZ_12.out) HZ_13.out) HZ_14.out))
  have HO_w0_16 := Lib.hid (HO_w0_15.out.below HB_15.out (Nat.le_trans (Nat.le_trans (Nat.le_trans (Nat.le_trans (Nat.le_trans (Nat.le_trans (Nat.le_trans (Nat.le_trans (Nat.le_trans (Nat.le_trans (Nat.le_trans HZ_3.out HZ_4.out) HZ_5.out) HZ_6.out) HZ_7.out) HZ_8.out) HZ_9.out) HZ_10.out) HZ_11.out) HZ_12.out) HZ_13.out) HZ_14.out))
  have HO_g0_16 := Lib.hid (HO_g0_15.out.below HB_15.out (Nat.le_trans (Nat.le_trans (Nat.le_trans (Nat.le_trans (Nat.le_trans (Nat.le_trans (Nat.le_trans (Nat.le_trans HZ_6.out HZ_7.out) HZ_8.out) HZ_9.out) HZ_10.out) HZ_11.out) HZ_12.out) HZ_13.out) HZ_14.out))
  go_wp2_with fail
  refine (toByteS_any a1 l1 c1 y1 _ (HO_aData_16.out.more (Nat.le_trans (Nat.le_trans (Nat.le_trans (Nat.le_trans (Nat.le_trans (Nat.le_trans (Nat.le_trans (Nat.le_trans (Nat.le_trans (Nat.le_trans (Nat.le_trans (Nat.le_trans (Nat.le_trans (Nat.le_trans (Nat.le_trans HZ_0.out HZ_1.out) HZ_2.out) HZ_3.out) HZ_4.out) HZ_5.out) HZ_6.out) HZ_7.out) HZ_8.out) HZ_9.out) HZ_10.out) HZ_11.out) HZ_12.out) HZ_13.out) HZ_14.out) HZ_15.out)) (by omega)).mono ?_
  rintro e W17 ⟨A__t5, c__t5, rfl, hown, hb⟩
  have HO__t5_17 := Lib.hid hown
  clear hown
  have HB_16 := Lib.hid hb
  clear hb
  have HZ_16 := Lib.hid HB_16.out.size
  have HA_17 := Lib.hid (HA_16.out.trans (HB_16.out.mono (Nat.le_trans (Nat.le_trans (Nat.le_trans (Nat.le_trans (Nat.le_trans (Nat.le_trans (Nat.le_trans (Nat.le_trans (Nat.le_trans (Nat.le_trans (Nat.le_trans (Nat.le_trans (Nat.le_trans (Nat.le_trans (Nat.le_trans HZ_0.out HZ_1.out) HZ_2.out) HZ_3.out) HZ_4.out) HZ_5.out) HZ_6.out) HZ_7.out) HZ_8.out) HZ_9.out) HZ_10.out) HZ_11.out) HZ_12.out) HZ_13.out) HZ_14.out) HZ_15.out)))
  have HO_w0_17 := Lib.hid (HO_w0_16.out.below HB_16.out (Nat.le_trans (Nat.le_trans (Nat.le_trans (Nat.le_trans (Nat.le_trans (Nat.le_trans (Nat.le_trans (Nat.le_trans (Nat.le_trans (Nat.le_trans (Nat.le_trans (Nat.le_trans HZ_3.out HZ_4.out) HZ_5.out) HZ_6.out) HZ_7.out) HZ_8.out) HZ_9.out) HZ_10.out) HZ_11.out) HZ_12.out) HZ_13.out) HZ_14.out) HZ_15.out))
  have HO_g0_17 := Lib.hid (HO_g0_16.out.below HB_16.out (Nat.le_trans (Nat.le_trans (Nat.le_trans (Nat.le_trans (Nat.le_trans (Nat.le_trans (Nat.le_trans (Nat.le_trans (Nat.le_trans HZ_6.out HZ_7.out) HZ_8.out) HZ_9.out) HZ_10.out) HZ_11.out) HZ_12.out) HZ_13.out) HZ_14.out) HZ_15.out))
  have HO__t4_17 := Lib.hid (HO__t4_16.out.below HB_16.out (Nat.le_refl _))
  go_wp2_with fail
  refine (HI.out A__t4 l0 c__t4 A__t5 l1 c__t5 _ (HO__t4_17.out.cap.1) (HO__t4_17.out.rd.more HZ_16.out) (HO__t5_17.out.cap.1) (HO__t5_17.out.rd.more (Nat.le_refl _))).mono ?_
  rintro e W18 ⟨A_h0, c_h0, rfl, ho0, hb⟩
  have HO_h0_18 := Lib.hid ho0
  clear ho0
  have HB_17 := Lib.hid hb
  clear hb
  have HZ_17 := Lib.hid HB_17.out.size
  have HA_18 := Lib.hid (HA_17.out.trans (HB_17.out.mono (Nat.le_trans (Nat.le_trans (Nat.le_trans (Nat.le_trans (Nat.le_trans (Nat.le_trans (Nat.le_trans (Nat.le_trans (Nat.le_trans (Nat.le_trans (Nat.le_trans (Nat.le_trans (Nat.le_trans (Nat.le_trans (Nat.le_trans (Nat.le_trans HZ_0.out HZ_1.out) HZ_2.out) HZ_3.out) HZ_4.out) HZ_5.out) HZ_6.out) HZ_7.out) HZ_8.out) HZ_9.out) HZ_10.out) HZ_11.out) HZ_12.out) HZ_13.out) HZ_14.out) HZ_15.out) HZ_16.out)))
  have HO_w0_18 := Lib.hid (HO_w0_17.out.below HB_17.out (Nat.le_trans (Nat.le_trans (Nat.le_trans (Nat.le_trans (Nat.le_trans (Nat.le_trans (Nat.le_trans (Nat.le_trans (Nat.le_trans (Nat.le_trans (Nat.le_trans (Nat.le_trans (Nat.le_trans HZ_3.out HZ_4.out) HZ_5.out) HZ_6.out) HZ_7.out) HZ_8.out) HZ_9.out) HZ_10.out) HZ_11.out) HZ_12.out) HZ_13.out) HZ_14.out) HZ_15.out) HZ_16.out))
  have HO_g0_18 := Lib.hid (HO_g0_17.out.below HB_17.out (Nat.le_trans (Nat.le_trans (Nat.le_trans (Nat.le_trans (Nat.le_trans (Nat.le_trans (Nat.le_trans (Nat.le_trans (Nat.le_trans (Nat.le_trans HZ_6.out HZ_7.out) HZ_8.out) HZ_9.out) HZ_10.out) HZ_11.out) HZ_12.out) HZ_13.out) HZ_14.out) HZ_15.out) HZ_16.out))
  go_wp2_with fail
  refine (eqByteS_same _ _ A_h0 A_w0 r0.length c_h0 c_w0 r0 _ HO_h0_18.out.rd HO_w0_18.out.rd (by omega)).mono ?_
  rintro e W19 ⟨rfl, hb⟩
  have HB_18 := Lib.hid hb
  clear hb
  have HZ_18 := Lib.hid (HB_18.out.below 0).size
  have HA_19 := Lib.hid (HA_18.out.trans (HB_18.out.below _))
  have HO_g0_19 := Lib.hid (HO_g0_18.out.same HB_18.out)
  go_wp2_with fail
  refine (heldByteS_marks _ A_g0 r0.length c_g0 1 _ HO_g0_19.out.rd (by omega) (by omega) (by omega)).mono ?_
  rintro e W20 ⟨rfl, rfl⟩
  go_wp2
  go_ret
  exact ⟨rfl, HA_19.out⟩
theorem FnExactReadBytes_walk (W0 : World) (a0 : Option Addr) (l0 c0 : Nat) (z0 : List Int) (w0 : SL.IsRow .u8 W0 a0 l0 c0 z0) (v1 : Int) (hv1 : (Lit.int .i64 v1).wf = true) (v2 : Int) (hv2 : (Lit.int .i64 v2).wf = true) :
    Calls Try.prog 8 #[.slice a0 l0 c0, .int .i64 v1, .int .i64 v2] W0 fun e w' => e = .returned (.bool true) ∧ Below W0.heap.size W0 w' := by
  have hR0 := rd_of_row w0
  have hC0 := row_cap w0
  have hL0 := hR0.len
  generalize z0.take l0 = y0 at hR0 hL0
  clear w0
  have hV1 : -9223372036854775808 ≤ v1 ∧ v1 ≤ 9223372036854775807 := by simpa [Lit.wf, IntKind.min, IntKind.max, IntKind.signed, IntKind.bits] using hv1
  clear hv1
  have hV2 : -9223372036854775808 ≤ v2 ∧ v2 ≤ 9223372036854775807 := by simpa [Lit.wf, IntKind.min, IntKind.max, IntKind.signed, IntKind.bits] using hv2
  clear hv2
  by_cases hg0 : 1048576 < l0
  · have hg : 1048576 < (l0 : Int) := by omega
    clear hR0 hL0 hC0
    go_enter Try.func8, Try.ntmps8
    go_wp2
    go_ret
    exact ⟨rfl, Below.refl _ _⟩
  obtain ⟨r0, r1, r2, hlen0, hS, hI⟩ := both_ReadBytes y0 v1 v2 (by omega) hV1 hV2
  have HS := Lib.hid hS
  have HI := Lib.hid hI
  clear hS hI
  have HO_aB_0 := Lib.hid hR0
  have HC0 := Lib.hid hC0
  clear hR0 hC0 hL0
  clear hV1
  clear hV2
  have HA_0 := Lib.hid (Below.refl W0.heap.size W0)
  go_enter Try.func8, Try.ntmps8
  go_wp2_with fail
  refine (toByteS_any a0 l0 c0 y0 _ (HO_aB_0.out.more (Nat.le_refl _)) (by omega)).mono ?_
  rintro e W1 ⟨A__t0, c__t0, rfl, hown, hb⟩
  have HO__t0_1 := Lib.hid hown
  clear hown
  have HB_0 := Lib.hid hb
  clear hb
  have HZ_0 := Lib.hid HB_0.out.size
  have HA_1 := Lib.hid (HA_0.out.trans (HB_0.out.mono (Nat.le_refl _)))
  have HO_aB_1 := Lib.hid (HO_aB_0.out.below HB_0.out (Nat.le_refl _))
  go_wp2_with fail
  refine (HS.out A__t0 l0 c__t0 _ (HO__t0_1.out.cap.1) (HO__t0_1.out.rd.more (Nat.le_refl _))).mono ?_
  rintro e W2 ⟨A_w0, c_w0, rfl, ho0, hb⟩
  have HO_w0_2 := Lib.hid ho0
  clear ho0
  have HB_1 := Lib.hid hb
  clear hb
  have HZ_1 := Lib.hid HB_1.out.size
  have HA_2 := Lib.hid (HA_1.out.trans (HB_1.out.mono HZ_0.out))
  have HO_aB_2 := Lib.hid (HO_aB_1.out.below HB_1.out HZ_0.out)
  go_wp2_with fail
  refine (toByteS_any a0 l0 c0 y0 _ (HO_aB_2.out.more (Nat.le_trans HZ_0.out HZ_1.out)) (by omega)).mono ?_
  rintro e W3 ⟨A_x0, c_x0, rfl, hown, hb⟩
  have HO_x0_3 := Lib.hid hown
  clear hown
  have HB_2 := Lib.hid hb
  clear hb
  have HZ_2 := Lib.hid HB_2.out.size
  have HA_3 := Lib.hid (HA_2.out.trans (HB_2.out.mono (Nat.le_trans HZ_0.out HZ_1.out)))
  have HO_aB_3 := Lib.hid (HO_aB_2.out.below HB_2.out (Nat.le_trans HZ_0.out HZ_1.out))
  have HO_w0_3 := Lib.hid (HO_w0_2.out.below HB_2.out (Nat.le_refl _))
  go_wp2_with fail
  refine (HI.out A_x0 l0 c_x0 _ (HO_x0_3.out.cap.1) (HO_x0_3.out.rd.more (Nat.le_refl _))).mono ?_
  rintro e W4 ⟨A_g0, c_g0, rfl, ho0, hb⟩
  have HO_g0_4 := Lib.hid ho0
  clear ho0
  have HB_3 := Lib.hid hb
  clear hb
  have HZ_3 := Lib.hid HB_3.out.size
  have HA_4 := Lib.hid (HA_3.out.trans (HB_3.out.mono (Nat.le_trans (Nat.le_trans HZ_0.out HZ_1.out) HZ_2.out)))
  have HO_aB_4 := Lib.hid (HO_aB_3.out.below HB_3.out (Nat.le_trans (Nat.le_trans HZ_0.out HZ_1.out) HZ_2.out))
  have HO_w0_4 := Lib.hid (HO_w0_3.out.below HB_3.out HZ_2.out)
  have HO_x0_4 := Lib.hid (HO_x0_3.out.below HB_3.out (Nat.le_refl _))
  go_wp2_with fail
  refine (eqByteS_same _ _ A_g0 A_w0 r0.length c_g0 c_w0 r0 _ HO_g0_4.out.rd HO_w0_4.out.rd (by omega)).mono ?_
  rintro e W5 ⟨rfl, hb⟩
  have HB_4 := Lib.hid hb
  clear hb
  have HZ_4 := Lib.hid (HB_4.out.below 0).size
  have HA_5 := Lib.hid (HA_4.out.trans (HB_4.out.below _))
  have HO_aB_5 := Lib.hid (HO_aB_4.out.same HB_4.out)
  have HO_w0_5 := Lib.hid (HO_w0_4.out.same HB_4.out)
  have HO_x0_5 := Lib.hid (HO_x0_4.out.same HB_4.out)
  have HO_g0_5 := Lib.hid (HO_g0_4.out.same HB_4.out)
  go_wp2_with fail
  refine (toByteS_any a0 l0 c0 y0 _ (HO_aB_5.out.more (Nat.le_trans (Nat.le_trans (Nat.le_trans (Nat.le_trans HZ_0.out HZ_1.out) HZ_2.out) HZ_3.out) HZ_4.out)) (by omega)).mono ?_
  rintro e W6 ⟨A__t1, c__t1, rfl, hown, hb⟩
  have HO__t1_6 := Lib.hid hown
  clear hown
  have HB_5 := Lib.hid hb
  clear hb
  have HZ_5 := Lib.hid HB_5.out.size
  have HA_6 := Lib.hid (HA_5.out.trans (HB_5.out.mono (Nat.le_trans (Nat.le_trans (Nat.le_trans (Nat.le_trans HZ_0.out HZ_1.out) HZ_2.out) HZ_3.out) HZ_4.out)))
  have HO_aB_6 := Lib.hid (HO_aB_5.out.below HB_5.out (Nat.le_trans (Nat.le_trans (Nat.le_trans (Nat.le_trans HZ_0.out HZ_1.out) HZ_2.out) HZ_3.out) HZ_4.out))
  have HO_w0_6 := Lib.hid (HO_w0_5.out.below HB_5.out (Nat.le_trans (Nat.le_trans HZ_2.out HZ_3.out) HZ_4.out))
  have HO_x0_6 := Lib.hid (HO_x0_5.out.below HB_5.out (Nat.le_trans HZ_3.out HZ_4.out))
  have HO_g0_6 := Lib.hid (HO_g0_5.out.below HB_5.out HZ_4.out)
  go_wp2_with fail
  refine (eqByteS_same _ _ A_x0 A__t1 l0 c_x0 c__t1 y0 _ HO_x0_6.out.rd HO__t1_6.out.rd (by omega)).mono ?_
  rintro e W7 ⟨rfl, hb⟩
  have HB_6 := Lib.hid hb
  clear hb
  have HZ_6 := Lib.hid (HB_6.out.below 0).size
  have HA_7 := Lib.hid (HA_6.out.trans (HB_6.out.below _))
  have HO_aB_7 := Lib.hid (HO_aB_6.out.same HB_6.out)
  have HO_w0_7 := Lib.hid (HO_w0_6.out.same HB_6.out)
  have HO_x0_7 := Lib.hid (HO_x0_6.out.same HB_6.out)
  have HO_g0_7 := Lib.hid (HO_g0_6.out.same HB_6.out)
  go_wp2_with fail
  refine (markByteS_any _ _ A_x0 l0 c_x0 y0 1 _ HO_x0_7.out (by omega) (by omega) (by omega)).mono ?_
  rintro e W8 ⟨rfl, hown, hb⟩
  have HO_x0_8 := Lib.hid hown
  clear hown
  have HB_7 := Lib.hid hb
  clear hb
  have HZ_7 := Lib.hid HB_7.out.size
  have HA_8 := Lib.hid (HA_7.out.trans (HB_7.out.below (Nat.le_trans HZ_0.out HZ_1.out) (Nat.le_trans (Nat.le_trans (Nat.le_trans (Nat.le_trans (Nat.le_trans (Nat.le_trans HZ_0.out HZ_1.out) HZ_2.out) HZ_3.out) HZ_4.out) HZ_5.out) HZ_6.out)))
  have HO_aB_8 := Lib.hid (HO_aB_7.out.fr HB_7.out (Nat.le_trans HZ_0.out HZ_1.out) (Nat.le_trans (Nat.le_trans (Nat.le_trans (Nat.le_trans (Nat.le_trans (Nat.le_trans HZ_0.out HZ_1.out) HZ_2.out) HZ_3.out) HZ_4.out) HZ_5.out) HZ_6.out))
  have HO_w0_8 := Lib.hid (HO_w0_7.out.fr HB_7.out (.inl (Nat.le_refl _)))
  have HO_g0_8 := Lib.hid (HO_g0_7.out.fr HB_7.out (.inr (Nat.le_refl _)))
  go_wp2_with fail
  refine (eqByteS_same _ _ A_g0 A_w0 r0.length c_g0 c_w0 r0 _ HO_g0_8.out.rd HO_w0_8.out.rd (by omega)).mono ?_
  rintro e W9 ⟨rfl, hb⟩
  have HB_8 := Lib.hid hb
  clear hb
  have HZ_8 := Lib.hid (HB_8.out.below 0).size
  have HA_9 := Lib.hid (HA_8.out.trans (HB_8.out.below _))
  have HO_aB_9 := Lib.hid (HO_aB_8.out.same HB_8.out)
  have HO_w0_9 := Lib.hid (HO_w0_8.out.same HB_8.out)
  have HO_g0_9 := Lib.hid (HO_g0_8.out.same HB_8.out)
  go_wp2_with fail
  refine (markByteS_any _ _ A_g0 r0.length c_g0 r0 1 _ HO_g0_9.out (by omega) (by omega) (by omega)).mono ?_
  rintro e W10 ⟨rfl, hown, hb⟩
  have HO_g0_10 := Lib.hid hown
  clear hown
  have HB_9 := Lib.hid hb
  clear hb
  have HZ_9 := Lib.hid HB_9.out.size
  have HA_10 := Lib.hid (HA_9.out.trans (HB_9.out.below (Nat.le_trans (Nat.le_trans HZ_0.out HZ_1.out) HZ_2.out) (Nat.le_trans (Nat.le_trans (Nat.le_trans (Nat.le_trans (Nat.le_trans (Nat.le_trans (Nat.le_trans (Nat.le_trans HZ_0.out HZ_1.out) HZ_2.out) HZ_3.out) HZ_4.out) HZ_5.out) HZ_6.out) HZ_7.out) HZ_8.out)))
  have HO_aB_10 := Lib.hid (HO_aB_9.out.fr HB_9.out (Nat.le_trans (Nat.le_trans HZ_0.out HZ_1.out) HZ_2.out) (Nat.le_trans (Nat.le_trans (Nat.le_trans (Nat.le_trans (Nat.le_trans (Nat.le_trans (Nat.le_trans (Nat.le_trans HZ_0.out HZ_1.out) HZ_2.out) HZ_3.out) HZ_4.out) HZ_5.out) HZ_6.out) HZ_7.out) HZ_8.out))
  have HO_w0_10 := Lib.hid (HO_w0_9.out.fr HB_9.out (.inl HZ_2.out))
  go_wp2_with fail
  refine (heldByteS_marks _ A_g0 r0.length c_g0 1 _ HO_g0_10.out.rd (by omega) (by omega) (by omega)).mono ?_
  rintro e W11 ⟨rfl, rfl⟩
  go_wp2_with fail
  refine (toByteS_any a0 l0 c0 y0 _ (HO_aB_10.out.more (Nat.le_trans (Nat.le_trans (Nat.le_trans (Nat.le_trans (Nat.le_trans (Nat.le_trans (Nat.le_trans (Nat.le_trans (Nat.le_trans HZ_0.out HZ_1.out) HZ_2.out) HZ_3.out) HZ_4.out) HZ_5.out) HZ_6.out) HZ_7.out) HZ_8.out) HZ_9.out)) (by omega)).mono ?_
  rintro e W11 ⟨A__t2, c__t2, rfl, hown, hb⟩
  have HO__t2_11 := Lib.hid hown
  clear hown
  have HB_10 := Lib.hid hb
  clear hb
  have HZ_10 := Lib.hid HB_10.out.size
  have HA_11 := Lib.hid (HA_10.out.trans (HB_10.out.mono (Nat.le_trans (Nat.le_trans (Nat.le_trans (Nat.le_trans (Nat.le_trans (Nat.le_trans (Nat.le_trans (Nat.le_trans (Nat.le_trans HZ_0.out HZ_1.out) HZ_2.out) HZ_3.out) HZ_4.out) HZ_5.out) HZ_6.out) HZ_7.out) HZ_8.out) HZ_9.out)))
  have HO_w0_11 := Lib.hid (HO_w0_10.out.below HB_10.out (Nat.le_trans (Nat.le_trans (Nat.le_trans (Nat.le_trans (Nat.le_trans (Nat.le_trans (Nat.le_trans HZ_2.out HZ_3.out) HZ_4.out) HZ_5.out) HZ_6.out) HZ_7.out) HZ_8.out) HZ_9.out))
  have HO_g0_11 := Lib.hid (HO_g0_10.out.below HB_10.out (Nat.le_trans (Nat.le_trans (Nat.le_trans (Nat.le_trans (Nat.le_trans HZ_4.out HZ_5.out) HZ_6.out) HZ_7.out) HZ_8.out) HZ_9.out))
  go_wp2_with fail
  refine (HI.out A__t2 l0 c__t2 _ (HO__t2_11.out.cap.1) (HO__t2_11.out.rd.more (Nat.le_refl _))).mono ?_
  rintro e W12 ⟨A_h0, c_h0, rfl, ho0, hb⟩
  have HO_h0_12 := Lib.hid ho0
  clear ho0
  have HB_11 := Lib.hid hb
  clear hb
  have HZ_11 := Lib.hid HB_11.out.size
  have HA_12 := Lib.hid (HA_11.out.trans (HB_11.out.mono (Nat.le_trans (Nat.le_trans (Nat.le_trans (Nat.le_trans (Nat.le_trans (Nat.le_trans (Nat.le_trans (Nat.le_trans (Nat.le_trans (Nat.le_trans HZ_0.out HZ_1.out) HZ_2.out) HZ_3.out) HZ_4.out) HZ_5.out) HZ_6.out) HZ_7.out) HZ_8.out) HZ_9.out) HZ_10.out)))
  have HO_w0_12 := Lib.hid (HO_w0_11.out.below HB_11.out (Nat.le_trans (Nat.le_trans (Nat.le_trans (Nat.le_trans (Nat.le_trans (Nat.le_trans (Nat.le_trans (Nat.le_trans HZ_2.out HZ_3.out) HZ_4.out) HZ_5.out) HZ_6.out) HZ_7.out) HZ_8.out) HZ_9.out) HZ_10.out))
  have HO_g0_12 := Lib.hid (HO_g0_11.out.below HB_11.out (Nat.le_trans (Nat.le_trans (Nat.le_trans (Nat.le_trans (Nat.le_trans (Nat.le_trans HZ_4.out HZ_5.out) HZ_6.out) HZ_7.out) HZ_8.out) HZ_9.out) HZ_10.out))
  go_wp2_with fail
  refine (eqByteS_same _ _ A_h0 A_w0 r0.length c_h0 c_w0 r0 _ HO_h0_12.out.rd HO_w0_12.out.rd (by omega)).mono ?_
  rintro e W13 ⟨rfl, hb⟩
  have HB_12 := Lib.hid hb
  clear hb
  have HZ_12 := Lib.hid (HB_12.out.below 0).size
  have HA_13 := Lib.hid (HA_12.out.trans (HB_12.out.below _))
  have HO_g0_13 := Lib.hid (HO_g0_12.out.same HB_12.out)
  go_wp2_with fail
  refine (heldByteS_marks _ A_g0 r0.length c_g0 1 _ HO_g0_13.out.rd (by omega) (by omega) (by omega)).mono ?_
  rintro e W14 ⟨rfl, rfl⟩
  go_wp2
  go_ret
  exact ⟨rfl, HA_13.out⟩
theorem FnExactEncodeInts_walk (W0 : World) (a0 : Option Addr) (l0 c0 : Nat) (z0 : List Int) (w0 : SL.IsRow .i64 W0 a0 l0 c0 z0) :
    Calls Try.prog 9 #[.slice a0 l0 c0] W0 fun e w' => e = .returned (.bool true) ∧ Below W0.heap.size W0 w' := by
  have hR0 := rd_of_row w0
  have hC0 := row_cap w0
  have hL0 := hR0.len
  generalize z0.take l0 = y0 at hR0 hL0
  clear w0
  by_cases hg0 : 1048576 < l0
  · have hg : 1048576 < (l0 : Int) := by omega
    clear hR0 hL0 hC0
    go_enter Try.func9, Try.ntmps9
    go_wp2
    go_ret
    exact ⟨rfl, Below.refl _ _⟩
  obtain ⟨r0, hlen0, hS, hI⟩ := both_EncodeInts y0 (by omega)
  have HS := Lib.hid hS
  have HI := Lib.hid hI
  clear hS hI
  have HO_aValues_0 := Lib.hid hR0
  have HC0 := Lib.hid hC0
  clear hR0 hC0 hL0
  have HA_0 := Lib.hid (Below.refl W0.heap.size W0)
  go_enter Try.func9, Try.ntmps9
  go_wp2_with fail
  refine (toIntS_any a0 l0 c0 y0 _ (HO_aValues_0.out.more (Nat.le_refl _)) (by omega)).mono ?_
  rintro e W1 ⟨A__t0, c__t0, rfl, hown, hb⟩
  have HO__t0_1 := Lib.hid hown
  clear hown
  have HB_0 := Lib.hid hb
  clear hb
  have HZ_0 := Lib.hid HB_0.out.size
  have HA_1 := Lib.hid (HA_0.out.trans (HB_0.out.mono (Nat.le_refl _)))
  have HO_aValues_1 := Lib.hid (HO_aValues_0.out.below HB_0.out (Nat.le_refl _))
  go_wp2_with fail
  refine (HS.out A__t0 l0 c__t0 _ (HO__t0_1.out.cap.1) (HO__t0_1.out.rd.more (Nat.le_refl _))).mono ?_
  rintro e W2 ⟨A_w0, c_w0, rfl, ho0, hb⟩
  have HO_w0_2 := Lib.hid ho0
  clear ho0
  have HB_1 := Lib.hid hb
  clear hb
  have HZ_1 := Lib.hid HB_1.out.size
  have HA_2 := Lib.hid (HA_1.out.trans (HB_1.out.mono HZ_0.out))
  have HO_aValues_2 := Lib.hid (HO_aValues_1.out.below HB_1.out HZ_0.out)
  go_wp2_with fail
  refine (toIntS_any a0 l0 c0 y0 _ (HO_aValues_2.out.more (Nat.le_trans HZ_0.out HZ_1.out)) (by omega)).mono ?_
  rintro e W3 ⟨A_x0, c_x0, rfl, hown, hb⟩
  have HO_x0_3 := Lib.hid hown
  clear hown
  have HB_2 := Lib.hid hb
  clear hb
  have HZ_2 := Lib.hid HB_2.out.size
  have HA_3 := Lib.hid (HA_2.out.trans (HB_2.out.mono (Nat.le_trans HZ_0.out HZ_1.out)))
  have HO_aValues_3 := Lib.hid (HO_aValues_2.out.below HB_2.out (Nat.le_trans HZ_0.out HZ_1.out))
  have HO_w0_3 := Lib.hid (HO_w0_2.out.below HB_2.out (Nat.le_refl _))
  go_wp2_with fail
  refine (HI.out A_x0 l0 c_x0 _ (HO_x0_3.out.cap.1) (HO_x0_3.out.rd.more (Nat.le_refl _))).mono ?_
  rintro e W4 ⟨A_g0, c_g0, rfl, ho0, hb⟩
  have HO_g0_4 := Lib.hid ho0
  clear ho0
  have HB_3 := Lib.hid hb
  clear hb
  have HZ_3 := Lib.hid HB_3.out.size
  have HA_4 := Lib.hid (HA_3.out.trans (HB_3.out.mono (Nat.le_trans (Nat.le_trans HZ_0.out HZ_1.out) HZ_2.out)))
  have HO_aValues_4 := Lib.hid (HO_aValues_3.out.below HB_3.out (Nat.le_trans (Nat.le_trans HZ_0.out HZ_1.out) HZ_2.out))
  have HO_w0_4 := Lib.hid (HO_w0_3.out.below HB_3.out HZ_2.out)
  have HO_x0_4 := Lib.hid (HO_x0_3.out.below HB_3.out (Nat.le_refl _))
  go_wp2_with fail
  refine (eqByteS_same _ _ A_g0 A_w0 r0.length c_g0 c_w0 r0 _ HO_g0_4.out.rd HO_w0_4.out.rd (by omega)).mono ?_
  rintro e W5 ⟨rfl, hb⟩
  have HB_4 := Lib.hid hb
  clear hb
  have HZ_4 := Lib.hid (HB_4.out.below 0).size
  have HA_5 := Lib.hid (HA_4.out.trans (HB_4.out.below _))
  have HO_aValues_5 := Lib.hid (HO_aValues_4.out.same HB_4.out)
  have HO_w0_5 := Lib.hid (HO_w0_4.out.same HB_4.out)
  have HO_x0_5 := Lib.hid (HO_x0_4.out.same HB_4.out)
  have HO_g0_5 := Lib.hid (HO_g0_4.out.same HB_4.out)
  go_wp2_with fail
  refine (toIntS_any a0 l0 c0 y0 _ (HO_aValues_5.out.more (Nat.le_trans (Nat.le_trans (Nat.le_trans (Nat.le_trans HZ_0.out HZ_1.out) HZ_2.out) HZ_3.out) HZ_4.out)) (by omega)).mono ?_
  rintro e W6 ⟨A__t1, c__t1, rfl, hown, hb⟩
  have HO__t1_6 := Lib.hid hown
  clear hown
  have HB_5 := Lib.hid hb
  clear hb
  have HZ_5 := Lib.hid HB_5.out.size
  have HA_6 := Lib.hid (HA_5.out.trans (HB_5.out.mono (Nat.le_trans (Nat.le_trans (Nat.le_trans (Nat.le_trans HZ_0.out HZ_1.out) HZ_2.out) HZ_3.out) HZ_4.out)))
  have HO_aValues_6 := Lib.hid (HO_aValues_5.out.below HB_5.out (Nat.le_trans (Nat.le_trans (Nat.le_trans (Nat.le_trans HZ_0.out HZ_1.out) HZ_2.out) HZ_3.out) HZ_4.out))
  have HO_w0_6 := Lib.hid (HO_w0_5.out.below HB_5.out (Nat.le_trans (Nat.le_trans HZ_2.out HZ_3.out) HZ_4.out))
  have HO_x0_6 := Lib.hid (HO_x0_5.out.below HB_5.out (Nat.le_trans HZ_3.out HZ_4.out))
  have HO_g0_6 := Lib.hid (HO_g0_5.out.below HB_5.out HZ_4.out)
  go_wp2_with fail
  refine (eqIntS_same _ _ A_x0 A__t1 l0 c_x0 c__t1 y0 _ HO_x0_6.out.rd HO__t1_6.out.rd (by omega)).mono ?_
  rintro e W7 ⟨rfl, hb⟩
  have HB_6 := Lib.hid hb
  clear hb
  have HZ_6 := Lib.hid (HB_6.out.below 0).size
  have HA_7 := Lib.hid (HA_6.out.trans (HB_6.out.below _))
  have HO_aValues_7 := Lib.hid (HO_aValues_6.out.same HB_6.out)
  have HO_w0_7 := Lib.hid (HO_w0_6.out.same HB_6.out)
  have HO_x0_7 := Lib.hid (HO_x0_6.out.same HB_6.out)
  have HO_g0_7 := Lib.hid (HO_g0_6.out.same HB_6.out)
  go_wp2_with fail
  refine (markIntS_any _ _ A_x0 l0 c_x0 y0 1 _ HO_x0_7.out (by omega) (by omega) (by omega)).mono ?_
  rintro e W8 ⟨rfl, hown, hb⟩
  have HO_x0_8 := Lib.hid hown
  clear hown
  have HB_7 := Lib.hid hb
  clear hb
  have HZ_7 := Lib.hid HB_7.out.size
  have HA_8 := Lib.hid (HA_7.out.trans (HB_7.out.below (Nat.le_trans HZ_0.out HZ_1.out) (Nat.le_trans (Nat.le_trans (Nat.le_trans (Nat.le_trans (Nat.le_trans (Nat.le_trans HZ_0.out HZ_1.out) HZ_2.out) HZ_3.out) HZ_4.out) HZ_5.out) HZ_6.out)))
  have HO_aValues_8 := Lib.hid (HO_aValues_7.out.fr HB_7.out (Nat.le_trans HZ_0.out HZ_1.out) (Nat.le_trans (Nat.le_trans (Nat.le_trans (Nat.le_trans (Nat.le_trans (Nat.le_trans HZ_0.out HZ_1.out) HZ_2.out) HZ_3.out) HZ_4.out) HZ_5.out) HZ_6.out))
  have HO_w0_8 := Lib.hid (HO_w0_7.out.fr HB_7.out (.inl (Nat.le_refl _)))
  have HO_g0_8 := Lib.hid (HO_g0_7.out.fr HB_7.out (.inr (Nat.le_refl _)))
  go_wp2_with fail
  refine (eqByteS_same _ _ A_g0 A_w0 r0.length c_g0 c_w0 r0 _ HO_g0_8.out.rd HO_w0_8.out.rd (by omega)).mono ?_
  rintro e W9 ⟨rfl, hb⟩
  have HB_8 := Lib.hid hb
  clear hb
  have HZ_8 := Lib.hid (HB_8.out.below 0).size
  have HA_9 := Lib.hid (HA_8.out.trans (HB_8.out.below _))
  have HO_aValues_9 := Lib.hid (HO_aValues_8.out.same HB_8.out)
  have HO_w0_9 := Lib.hid (HO_w0_8.out.same HB_8.out)
  have HO_g0_9 := Lib.hid (HO_g0_8.out.same HB_8.out)
  go_wp2_with fail
  refine (markByteS_any _ _ A_g0 r0.length c_g0 r0 1 _ HO_g0_9.out (by omega) (by omega) (by omega)).mono ?_
  rintro e W10 ⟨rfl, hown, hb⟩
  have HO_g0_10 := Lib.hid hown
  clear hown
  have HB_9 := Lib.hid hb
  clear hb
  have HZ_9 := Lib.hid HB_9.out.size
  have HA_10 := Lib.hid (HA_9.out.trans (HB_9.out.below (Nat.le_trans (Nat.le_trans HZ_0.out HZ_1.out) HZ_2.out) (Nat.le_trans (Nat.le_trans (Nat.le_trans (Nat.le_trans (Nat.le_trans (Nat.le_trans (Nat.le_trans (Nat.le_trans HZ_0.out HZ_1.out) HZ_2.out) HZ_3.out) HZ_4.out) HZ_5.out) HZ_6.out) HZ_7.out) HZ_8.out)))
  have HO_aValues_10 := Lib.hid (HO_aValues_9.out.fr HB_9.out (Nat.le_trans (Nat.le_trans HZ_0.out HZ_1.out) HZ_2.out) (Nat.le_trans (Nat.le_trans (Nat.le_trans (Nat.le_trans (Nat.le_trans (Nat.le_trans (Nat.le_trans (Nat.le_trans HZ_0.out HZ_1.out) HZ_2.out) HZ_3.out) HZ_4.out) HZ_5.out) HZ_6.out) HZ_7.out) HZ_8.out))
  have HO_w0_10 := Lib.hid (HO_w0_9.out.fr HB_9.out (.inl HZ_2.out))
  go_wp2_with fail
  refine (heldByteS_marks _ A_g0 r0.length c_g0 1 _ HO_g0_10.out.rd (by omega) (by omega) (by omega)).mono ?_
  rintro e W11 ⟨rfl, rfl⟩
  go_wp2_with fail
  refine (toIntS_any a0 l0 c0 y0 _ (HO_aValues_10.out.more (Nat.le_trans (Nat.le_trans (Nat.le_trans (Nat.le_trans (Nat.le_trans (Nat.le_trans (Nat.le_trans (Nat.le_trans (Nat.le_trans HZ_0.out HZ_1.out) HZ_2.out) HZ_3.out) HZ_4.out) HZ_5.out) HZ_6.out) HZ_7.out) HZ_8.out) HZ_9.out)) (by omega)).mono ?_
  rintro e W11 ⟨A__t2, c__t2, rfl, hown, hb⟩
  have HO__t2_11 := Lib.hid hown
  clear hown
  have HB_10 := Lib.hid hb
  clear hb
  have HZ_10 := Lib.hid HB_10.out.size
  have HA_11 := Lib.hid (HA_10.out.trans (HB_10.out.mono (Nat.le_trans (Nat.le_trans (Nat.le_trans (Nat.le_trans (Nat.le_trans (Nat.le_trans (Nat.le_trans (Nat.le_trans (Nat.le_trans HZ_0.out HZ_1.out) HZ_2.out) HZ_3.out) HZ_4.out) HZ_5.out) HZ_6.out) HZ_7.out) HZ_8.out) HZ_9.out)))
  have HO_w0_11 := Lib.hid (HO_w0_10.out.below HB_10.out (Nat.le_trans (Nat.le_trans (Nat.le_trans (Nat.le_trans (Nat.le_trans (Nat.le_trans (Nat.le_trans HZ_2.out HZ_3.out) HZ_4.out) HZ_5.out) HZ_6.out) HZ_7.out) HZ_8.out) HZ_9.out))
  have HO_g0_11 := Lib.hid (HO_g0_10.out.below HB_10.out (Nat.le_trans (Nat.le_trans (Nat.le_trans (Nat.le_trans (Nat.le_trans HZ_4.out HZ_5.out) HZ_6.out) HZ_7.out) HZ_8.out) HZ_9.out))
  go_wp2_with fail
  refine (HI.out A__t2 l0 c__t2 _ (HO__t2_11.out.cap.1) (HO__t2_11.out.rd.more (Nat.le_refl _))).mono ?_
  rintro e W12 ⟨A_h0, c_h0, rfl, ho0, hb⟩
  have HO_h0_12 := Lib.hid ho0
  clear ho0
  have HB_11 := Lib.hid hb
  clear hb
  have HZ_11 := Lib.hid HB_11.out.size
  have HA_12 := Lib.hid (HA_11.out.trans (HB_11.out.mono (Nat.le_trans (Nat.le_trans (Nat.le_trans (Nat.le_trans (Nat.le_trans (Nat.le_trans (Nat.le_trans (Nat.le_trans (Nat.le_trans (Nat.le_trans HZ_0.out HZ_1.out) HZ_2.out) HZ_3.out) HZ_4.out) HZ_5.out) HZ_6.out) HZ_7.out) HZ_8.out) HZ_9.out) HZ_10.out)))
  have HO_w0_12 := Lib.hid (HO_w0_11.out.below HB_11.out (Nat.le_trans (Nat.le_trans (Nat.le_trans (Nat.le_trans (Nat.le_trans (Nat.le_trans (Nat.le_trans (Nat.le_trans HZ_2.out HZ_3.out) HZ_4.out) HZ_5.out) HZ_6.out) HZ_7.out) HZ_8.out) HZ_9.out) HZ_10.out))
  have HO_g0_12 := Lib.hid (HO_g0_11.out.below HB_11.out (Nat.le_trans (Nat.le_trans (Nat.le_trans (Nat.le_trans (Nat.le_trans (Nat.le_trans HZ_4.out HZ_5.out) HZ_6.out) HZ_7.out) HZ_8.out) HZ_9.out) HZ_10.out))
  go_wp2_with fail
  refine (eqByteS_same _ _ A_h0 A_w0 r0.length c_h0 c_w0 r0 _ HO_h0_12.out.rd HO_w0_12.out.rd (by omega)).mono ?_
  rintro e W13 ⟨rfl, hb⟩
  have HB_12 := Lib.hid hb
  clear hb
  have HZ_12 := Lib.hid (HB_12.out.below 0).size
  have HA_13 := Lib.hid (HA_12.out.trans (HB_12.out.below _))
  have HO_g0_13 := Lib.hid (HO_g0_12.out.same HB_12.out)
  go_wp2_with fail
  refine (heldByteS_marks _ A_g0 r0.length c_g0 1 _ HO_g0_13.out.rd (by omega) (by omega) (by omega)).mono ?_
  rintro e W14 ⟨rfl, rfl⟩
  go_wp2
  go_ret
  exact ⟨rfl, HA_13.out⟩
theorem FnExactDecodeInts_walk (W0 : World) (a0 : Option Addr) (l0 c0 : Nat) (z0 : List Int) (w0 : SL.IsRow .u8 W0 a0 l0 c0 z0) (v1 : Int) (hv1 : (Lit.int .i64 v1).wf = true) (v2 : Int) (hv2 : (Lit.int .i64 v2).wf = true) :
    Calls Try.prog 10 #[.slice a0 l0 c0, .int .i64 v1, .int .i64 v2] W0 fun e w' => e = .returned (.bool true) ∧ Below W0.heap.size W0 w' := by
  have hR0 := rd_of_row w0
  have hC0 := row_cap w0
  have hL0 := hR0.len
  generalize z0.take l0 = y0 at hR0 hL0
  clear w0
  have hV1 : -9223372036854775808 ≤ v1 ∧ v1 ≤ 9223372036854775807 := by simpa [Lit.wf, IntKind.min, IntKind.max, IntKind.signed, IntKind.bits] using hv1
  clear hv1
  have hV2 : -9223372036854775808 ≤ v2 ∧ v2 ≤ 9223372036854775807 := by simpa [Lit.wf, IntKind.min, IntKind.max, IntKind.signed, IntKind.bits] using hv2
  clear hv2
  by_cases hg0 : 1048576 < l0
  · have hg : 1048576 < (l0 : Int) := by omega
    clear hR0 hL0 hC0
    go_enter Try.func10, Try.ntmps10
    go_wp2
    go_ret
    exact ⟨rfl, Below.refl _ _⟩
  obtain ⟨r0, r1, r2, hlen0, hS, hI⟩ := both_DecodeInts y0 v1 v2 (by omega) hV1 hV2
  have HS := Lib.hid hS
  have HI := Lib.hid hI
  clear hS hI
  have HO_aB_0 := Lib.hid hR0
  have HC0 := Lib.hid hC0
  clear hR0 hC0 hL0
  clear hV1
  clear hV2
  have HA_0 := Lib.hid (Below.refl W0.heap.size W0)
  go_enter Try.func10, Try.ntmps10
  go_wp2_with fail
  refine (toByteS_any a0 l0 c0 y0 _ (HO_aB_0.out.more (Nat.le_refl _)) (by omega)).mono ?_
  rintro e W1 ⟨A__t0, c__t0, rfl, hown, hb⟩
  have HO__t0_1 := Lib.hid hown
  clear hown
  have HB_0 := Lib.hid hb
  clear hb
  have HZ_0 := Lib.hid HB_0.out.size
  have HA_1 := Lib.hid (HA_0.out.trans (HB_0.out.mono (Nat.le_refl _)))
  have HO_aB_1 := Lib.hid (HO_aB_0.out.below HB_0.out (Nat.le_refl _))
  go_wp2_with fail
  refine (HS.out A__t0 l0 c__t0 _ (HO__t0_1.out.cap.1) (HO__t0_1.out.rd.more (Nat.le_refl _))).mono ?_
  rintro e W2 ⟨A_w0, c_w0, rfl, ho0, hb⟩
  have HO_w0_2 := Lib.hid ho0
  clear ho0
  have HB_1 := Lib.hid hb
  clear hb
  have HZ_1 := Lib.hid HB_1.out.size
  have HA_2 := Lib.hid (HA_1.out.trans (HB_1.out.mono HZ_0.out))
  have HO_aB_2 := Lib.hid (HO_aB_1.out.below HB_1.out HZ_0.out)
  go_wp2_with fail
  refine (toByteS_any a0 l0 c0 y0 _ (HO_aB_2.out.more (Nat.le_trans HZ_0.out HZ_1.out)) (by omega)).mono ?_
  rintro e W3 ⟨A_x0, c_x0, rfl, hown, hb⟩
  have HO_x0_3 := Lib.hid hown
  clear hown
  have HB_2 := Lib.hid hb
  clear hb
  have HZ_2 := Lib.hid HB_2.out.size
  have HA_3 := Lib.hid (HA_2.out.trans (HB_2.out.mono (Nat.le_trans HZ_0.out HZ_1.out)))
  have HO_aB_3 := Lib.hid (HO_aB_2.out.below HB_2.out (Nat.le_trans HZ_0.out HZ_1.out))
  have HO_w0_3 := Lib.hid (HO_w0_2.out.below HB_2.out (Nat.le_refl _))
  go_wp2_with fail
  refine (HI.out A_x0 l0 c_x0 _ (HO_x0_3.out.cap.1) (HO_x0_3.out.rd.more (Nat.le_refl _))).mono ?_
  rintro e W4 ⟨A_g0, c_g0, rfl, ho0, hb⟩
  have HO_g0_4 := Lib.hid ho0
  clear ho0
  have HB_3 := Lib.hid hb
  clear hb
  have HZ_3 := Lib.hid HB_3.out.size
  have HA_4 := Lib.hid (HA_3.out.trans (HB_3.out.mono (Nat.le_trans (Nat.le_trans HZ_0.out HZ_1.out) HZ_2.out)))
  have HO_aB_4 := Lib.hid (HO_aB_3.out.below HB_3.out (Nat.le_trans (Nat.le_trans HZ_0.out HZ_1.out) HZ_2.out))
  have HO_w0_4 := Lib.hid (HO_w0_3.out.below HB_3.out HZ_2.out)
  have HO_x0_4 := Lib.hid (HO_x0_3.out.below HB_3.out (Nat.le_refl _))
  go_wp2_with fail
  refine (eqIntS_same _ _ A_g0 A_w0 r0.length c_g0 c_w0 r0 _ HO_g0_4.out.rd HO_w0_4.out.rd (by omega)).mono ?_
  rintro e W5 ⟨rfl, hb⟩
  have HB_4 := Lib.hid hb
  clear hb
  have HZ_4 := Lib.hid (HB_4.out.below 0).size
  have HA_5 := Lib.hid (HA_4.out.trans (HB_4.out.below _))
  have HO_aB_5 := Lib.hid (HO_aB_4.out.same HB_4.out)
  have HO_w0_5 := Lib.hid (HO_w0_4.out.same HB_4.out)
  have HO_x0_5 := Lib.hid (HO_x0_4.out.same HB_4.out)
  have HO_g0_5 := Lib.hid (HO_g0_4.out.same HB_4.out)
  go_wp2_with fail
  refine (toByteS_any a0 l0 c0 y0 _ (HO_aB_5.out.more (Nat.le_trans (Nat.le_trans (Nat.le_trans (Nat.le_trans HZ_0.out HZ_1.out) HZ_2.out) HZ_3.out) HZ_4.out)) (by omega)).mono ?_
  rintro e W6 ⟨A__t1, c__t1, rfl, hown, hb⟩
  have HO__t1_6 := Lib.hid hown
  clear hown
  have HB_5 := Lib.hid hb
  clear hb
  have HZ_5 := Lib.hid HB_5.out.size
  have HA_6 := Lib.hid (HA_5.out.trans (HB_5.out.mono (Nat.le_trans (Nat.le_trans (Nat.le_trans (Nat.le_trans HZ_0.out HZ_1.out) HZ_2.out) HZ_3.out) HZ_4.out)))
  have HO_aB_6 := Lib.hid (HO_aB_5.out.below HB_5.out (Nat.le_trans (Nat.le_trans (Nat.le_trans (Nat.le_trans HZ_0.out HZ_1.out) HZ_2.out) HZ_3.out) HZ_4.out))
  have HO_w0_6 := Lib.hid (HO_w0_5.out.below HB_5.out (Nat.le_trans (Nat.le_trans HZ_2.out HZ_3.out) HZ_4.out))
  have HO_x0_6 := Lib.hid (HO_x0_5.out.below HB_5.out (Nat.le_trans HZ_3.out HZ_4.out))
  have HO_g0_6 := Lib.hid (HO_g0_5.out.below HB_5.out HZ_4.out)
  go_wp2_with fail
  refine (eqByteS_same _ _ A_x0 A__t1 l0 c_x0 c__t1 y0 _ HO_x0_6.out.rd HO__t1_6.out.rd (by omega)).mono ?_
  rintro e W7 ⟨rfl, hb⟩
  have HB_6 := Lib.hid hb
  clear hb
  have HZ_6 := Lib.hid (HB_6.out.below 0).size
  have HA_7 := Lib.hid (HA_6.out.trans (HB_6.out.below _))
  have HO_aB_7 := Lib.hid (HO_aB_6.out.same HB_6.out)
  have HO_w0_7 := Lib.hid (HO_w0_6.out.same HB_6.out)
  have HO_x0_7 := Lib.hid (HO_x0_6.out.same HB_6.out)
  have HO_g0_7 := Lib.hid (HO_g0_6.out.same HB_6.out)
  go_wp2_with fail
  refine (markByteS_any _ _ A_x0 l0 c_x0 y0 1 _ HO_x0_7.out (by omega) (by omega) (by omega)).mono ?_
  rintro e W8 ⟨rfl, hown, hb⟩
  have HO_x0_8 := Lib.hid hown
  clear hown
  have HB_7 := Lib.hid hb
  clear hb
  have HZ_7 := Lib.hid HB_7.out.size
  have HA_8 := Lib.hid (HA_7.out.trans (HB_7.out.below (Nat.le_trans HZ_0.out HZ_1.out) (Nat.le_trans (Nat.le_trans (Nat.le_trans (Nat.le_trans (Nat.le_trans (Nat.le_trans HZ_0.out HZ_1.out) HZ_2.out) HZ_3.out) HZ_4.out) HZ_5.out) HZ_6.out)))
  have HO_aB_8 := Lib.hid (HO_aB_7.out.fr HB_7.out (Nat.le_trans HZ_0.out HZ_1.out) (Nat.le_trans (Nat.le_trans (Nat.le_trans (Nat.le_trans (Nat.le_trans (Nat.le_trans HZ_0.out HZ_1.out) HZ_2.out) HZ_3.out) HZ_4.out) HZ_5.out) HZ_6.out))
  have HO_w0_8 := Lib.hid (HO_w0_7.out.fr HB_7.out (.inl (Nat.le_refl _)))
  have HO_g0_8 := Lib.hid (HO_g0_7.out.fr HB_7.out (.inr (Nat.le_refl _)))
  go_wp2_with fail
  refine (eqIntS_same _ _ A_g0 A_w0 r0.length c_g0 c_w0 r0 _ HO_g0_8.out.rd HO_w0_8.out.rd (by omega)).mono ?_
  rintro e W9 ⟨rfl, hb⟩
  have HB_8 := Lib.hid hb
  clear hb
  have HZ_8 := Lib.hid (HB_8.out.below 0).size
  have HA_9 := Lib.hid (HA_8.out.trans (HB_8.out.below _))
  have HO_aB_9 := Lib.hid (HO_aB_8.out.same HB_8.out)
  have HO_w0_9 := Lib.hid (HO_w0_8.out.same HB_8.out)
  have HO_g0_9 := Lib.hid (HO_g0_8.out.same HB_8.out)
  go_wp2_with fail
  refine (markIntS_any _ _ A_g0 r0.length c_g0 r0 1 _ HO_g0_9.out (by omega) (by omega) (by omega)).mono ?_
  rintro e W10 ⟨rfl, hown, hb⟩
  have HO_g0_10 := Lib.hid hown
  clear hown
  have HB_9 := Lib.hid hb
  clear hb
  have HZ_9 := Lib.hid HB_9.out.size
  have HA_10 := Lib.hid (HA_9.out.trans (HB_9.out.below (Nat.le_trans (Nat.le_trans HZ_0.out HZ_1.out) HZ_2.out) (Nat.le_trans (Nat.le_trans (Nat.le_trans (Nat.le_trans (Nat.le_trans (Nat.le_trans (Nat.le_trans (Nat.le_trans HZ_0.out HZ_1.out) HZ_2.out) HZ_3.out) HZ_4.out) HZ_5.out) HZ_6.out) HZ_7.out) HZ_8.out)))
  have HO_aB_10 := Lib.hid (HO_aB_9.out.fr HB_9.out (Nat.le_trans (Nat.le_trans HZ_0.out HZ_1.out) HZ_2.out) (Nat.le_trans (Nat.le_trans (Nat.le_trans (Nat.le_trans (Nat.le_trans (Nat.le_trans (Nat.le_trans (Nat.le_trans HZ_0.out HZ_1.out) HZ_2.out) HZ_3.out) HZ_4.out) HZ_5.out) HZ_6.out) HZ_7.out) HZ_8.out))
  have HO_w0_10 := Lib.hid (HO_w0_9.out.fr HB_9.out (.inl HZ_2.out))
  go_wp2_with fail
  refine (heldIntS_marks _ A_g0 r0.length c_g0 1 _ HO_g0_10.out.rd (by omega) (by omega) (by omega)).mono ?_
  rintro e W11 ⟨rfl, rfl⟩
  go_wp2_with fail
  refine (toByteS_any a0 l0 c0 y0 _ (HO_aB_10.out.more (Nat.le_trans (Nat.le_trans (Nat.le_trans (Nat.le_trans (Nat.le_trans (Nat.le_trans (Nat.le_trans (Nat.le_trans (Nat.le_trans HZ_0.out HZ_1.out) HZ_2.out) HZ_3.out) HZ_4.out) HZ_5.out) HZ_6.out) HZ_7.out) HZ_8.out) HZ_9.out)) (by omega)).mono ?_
  rintro e W11 ⟨A__t2, c__t2, rfl, hown, hb⟩
  have HO__t2_11 := Lib.hid hown
  clear hown
  have HB_10 := Lib.hid hb
  clear hb
  have HZ_10 := Lib.hid HB_10.out.size
  have HA_11 := Lib.hid (HA_10.out.trans (HB_10.out.mono (Nat.le_trans (Nat.le_trans (Nat.le_trans (Nat.le_trans (Nat.le_trans (Nat.le_trans (Nat.le_trans (Nat.le_trans (Nat.le_trans HZ_0.out HZ_1.out) HZ_2.out) HZ_3.out) HZ_4.out) HZ_5.out) HZ_6.out) HZ_7.out) HZ_8.out) HZ_9.out)))
  have HO_w0_11 := Lib.hid (HO_w0_10.out.below HB_10.out (Nat.le_trans (Nat.le_trans (Nat.le_trans (Nat.le_trans (Nat.le_trans (Nat.le_trans (Nat.le_trans HZ_2.out HZ_3.out) HZ_4.out) HZ_5.out) HZ_6.out) HZ_7.out) HZ_8.out) HZ_9.out))
  have HO_g0_11 := Lib.hid (HO_g0_10.out.below HB_10.out (Nat.le_trans (Nat.le_trans (Nat.le_trans (Nat.le_trans (Nat.le_trans HZ_4.out HZ_5.out) HZ_6.out) HZ_7.out) HZ_8.out) HZ_9.out))
  go_wp2_with fail
  refine (HI.out A__t2 l0 c__t2 _ (HO__t2_11.out.cap.1) (HO__t2_11.out.rd.more (Nat.le_refl _))).mono ?_
  rintro e W12 ⟨A_h0, c_h0, rfl, ho0, hb⟩
  have HO_h0_12 := Lib.hid ho0
  clear ho0
  have HB_11 := Lib.hid hb
  clear hb
  have HZ_11 := Lib.hid HB_11.out.size
  have HA_12 := Lib.hid (HA_11.out.trans (HB_11.out.mono (Nat.le_trans (Nat.le_trans (Nat.le_trans (Nat.le_trans (Nat.le_trans (Nat.le_trans (Nat.le_trans (Nat.le_trans (Nat.le_trans (Nat.le_trans HZ_0.out HZ_1.out) HZ_2.out) HZ_3.out) HZ_4.out) HZ_5.out) HZ_6.out) HZ_7.out) HZ_8.out) HZ_9.out) HZ_10.out)))
  have HO_w0_12 := Lib.hid (HO_w0_11.out.below HB_11.out (Nat.le_trans (Nat.le_trans (Nat.le_trans (Nat.le_trans (Nat.le_trans (Nat.le_trans (Nat.le_trans (Nat.le_trans HZ_2.out HZ_3.out) HZ_4.out) HZ_5.out) HZ_6.out) HZ_7.out) HZ_8.out) HZ_9.out) HZ_10.out))
  have HO_g0_12 := Lib.hid (HO_g0_11.out.below HB_11.out (Nat.le_trans (Nat.le_trans (Nat.le_trans (Nat.le_trans (Nat.le_trans (Nat.le_trans HZ_4.out HZ_5.out) HZ_6.out) HZ_7.out) HZ_8.out) HZ_9.out) HZ_10.out))
  go_wp2_with fail
  refine (eqIntS_same _ _ A_h0 A_w0 r0.length c_h0 c_w0 r0 _ HO_h0_12.out.rd HO_w0_12.out.rd (by omega)).mono ?_
  rintro e W13 ⟨rfl, hb⟩
  have HB_12 := Lib.hid hb
  clear hb
  have HZ_12 := Lib.hid (HB_12.out.below 0).size
  have HA_13 := Lib.hid (HA_12.out.trans (HB_12.out.below _))
  have HO_g0_13 := Lib.hid (HO_g0_12.out.same HB_12.out)
  go_wp2_with fail
  refine (heldIntS_marks _ A_g0 r0.length c_g0 1 _ HO_g0_13.out.rd (by omega) (by omega) (by omega)).mono ?_
  rintro e W14 ⟨rfl, rfl⟩
  go_wp2
  go_ret
  exact ⟨rfl, HA_13.out⟩
end Go.Proofs.Ytppajfaneacchaa.W02
