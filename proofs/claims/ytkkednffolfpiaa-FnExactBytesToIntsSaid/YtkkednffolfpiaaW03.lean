/- The walks of the exact laws of chapter 3: each law returns true, and writes into nothing that was there. -/
import Derived.Test.YtkkednffolfpiaaC03U
import Derived.Test.YtkkednffolfpiaaT01
namespace Go.Proofs.Ytkkednffolfpiaa.W03
open Go.RowKit Mem T01 C03U
set_option linter.unusedVariables false
set_option maxHeartbeats 400000
theorem FnExactHash_walk (W0 : World) (a0 : Option Addr) (l0 c0 : Nat) (z0 : List Int) (w0 : SL.IsRow .i64 W0 a0 l0 c0 z0) :
    Calls Try.prog 5 #[.slice a0 l0 c0] W0 fun e w' => e = .returned (.bool true) ∧ Below W0.heap.size W0 w' := by
  have hR0 := rd_of_row w0
  have hC0 := row_cap w0
  have hL0 := hR0.len
  generalize z0.take l0 = y0 at hR0 hL0
  clear w0
  by_cases hg0 : 1048576 < l0
  · have hg : 1048576 < (l0 : Int) := by omega
    clear hR0 hL0 hC0
    go_enter Try.func5, Try.ntmps5
    go_wp2
    go_ret
    exact ⟨rfl, Below.refl _ _⟩
  obtain ⟨r0, hS, hI⟩ := both_Hash y0 (by omega)
  have HS := Lib.hid hS
  have HI := Lib.hid hI
  clear hS hI
  have HO_aValues_0 := Lib.hid hR0
  have HC0 := Lib.hid hC0
  clear hR0 hC0 hL0
  have HA_0 := Lib.hid (Below.refl W0.heap.size W0)
  go_enter Try.func5, Try.ntmps5
  go_wp2_with fail
  refine (toIntS_any a0 l0 c0 y0 _ (HO_aValues_0.out.more (Nat.le_refl _)) (by omega)).mono ?_
  rintro e W1 ⟨A__t0, c__t0, rfl, hown, hb⟩
  have HO__t0_1 := Lib.hid hown
  clear hown
  have HB_0 := Lib.hid hb
  clear hb
  have HZ_0 := Lib.hid HB_0.out.size
  have HA_1 := Lib.hid (HA_0.out.trans (HB_0.out.mono (Nat.le_refl _)))
  have HO_aValues_1 := Lib.hid (HO_aValues_0.out.below HB_0.out (Nat.le_refl _))
  go_wp2_with fail
  refine (HS.out A__t0 l0 c__t0 _ (HO__t0_1.out.cap.1) (HO__t0_1.out.rd.more (Nat.le_refl _))).mono ?_
  rintro e W2 ⟨rfl, hb⟩
  have HB_1 := Lib.hid hb
  clear hb
  have HZ_1 := Lib.hid HB_1.out.size
  have HA_2 := Lib.hid (HA_1.out.trans (HB_1.out.mono HZ_0.out))
  have HO_aValues_2 := Lib.hid (HO_aValues_1.out.below HB_1.out HZ_0.out)
  go_wp2_with fail
  refine (toIntS_any a0 l0 c0 y0 _ (HO_aValues_2.out.more (Nat.le_trans HZ_0.out HZ_1.out)) (by omega)).mono ?_
  rintro e W3 ⟨A_x0, c_x0, rfl, hown, hb⟩
  have HO_x0_3 := Lib.hid hown
  clear hown
  have HB_2 := Lib.hid hb
  clear hb
  have HZ_2 := Lib.hid HB_2.out.size
  have HA_3 := Lib.hid (HA_2.out.trans (HB_2.out.mono (Nat.le_trans HZ_0.out HZ_1.out)))
  have HO_aValues_3 := Lib.hid (HO_aValues_2.out.below HB_2.out (Nat.le_trans HZ_0.out HZ_1.out))
  go_wp2_with fail
  refine (HI.out A_x0 l0 c_x0 _ (HO_x0_3.out.cap.1) (HO_x0_3.out.rd.more (Nat.le_refl _))).mono ?_
  rintro e W4 ⟨rfl, hb⟩
  have HB_3 := Lib.hid hb
  clear hb
  have HZ_3 := Lib.hid HB_3.out.size
  have HA_4 := Lib.hid (HA_3.out.trans (HB_3.out.mono (Nat.le_trans (Nat.le_trans HZ_0.out HZ_1.out) HZ_2.out)))
  have HO_aValues_4 := Lib.hid (HO_aValues_3.out.below HB_3.out (Nat.le_trans (Nat.le_trans HZ_0.out HZ_1.out) HZ_2.out))
  have HO_x0_4 := Lib.hid (HO_x0_3.out.below HB_3.out (Nat.le_refl _))
  go_wp2_with fail
  refine (toIntS_any a0 l0 c0 y0 _ (HO_aValues_4.out.more (Nat.le_trans (Nat.le_trans (Nat.le_trans HZ_0.out HZ_1.out) HZ_2.out) HZ_3.out)) (by omega)).mono ?_
  rintro e W5 ⟨A__t1, c__t1, rfl, hown, hb⟩
  have HO__t1_5 := Lib.hid hown
  clear hown
  have HB_4 := Lib.hid hb
  clear hb
  have HZ_4 := Lib.hid HB_4.out.size
  have HA_5 := Lib.hid (HA_4.out.trans (HB_4.out.mono (Nat.le_trans (Nat.le_trans (Nat.le_trans HZ_0.out HZ_1.out) HZ_2.out) HZ_3.out)))
  have HO_x0_5 := Lib.hid (HO_x0_4.out.below HB_4.out HZ_3.out)
  go_wp2_with fail
  refine (eqIntS_same _ _ A_x0 A__t1 l0 c_x0 c__t1 y0 _ HO_x0_5.out.rd HO__t1_5.out.rd (by omega)).mono ?_
  rintro e W6 ⟨rfl, hb⟩
  have HB_5 := Lib.hid hb
  clear hb
  have HZ_5 := Lib.hid (HB_5.out.below 0).size
  have HA_6 := Lib.hid (HA_5.out.trans (HB_5.out.below _))
  go_wp2
  go_ret
  exact ⟨rfl, HA_6.out⟩
theorem FnExactKeyedHash_walk (W0 : World) (v0 : Int) (hv0 : (Lit.int .i64 v0).wf = true) (a1 : Option Addr) (l1 c1 : Nat) (z1 : List Int) (w1 : SL.IsRow .i64 W0 a1 l1 c1 z1) :
    Calls Try.prog 6 #[.int .i64 v0, .slice a1 l1 c1] W0 fun e w' => e = .returned (.bool true) ∧ Below W0.heap.size W0 w' := by
  have hV0 : -9223372036854775808 ≤ v0 ∧ v0 ≤ 9223372036854775807 := by simpa [Lit.wf, IntKind.min, IntKind.max, IntKind.signed, IntKind.bits] using hv0
  clear hv0
  have hR1 := rd_of_row w1
  have hC1 := row_cap w1
  have hL1 := hR1.len
  generalize z1.take l1 = y1 at hR1 hL1
  clear w1
  by_cases hg1 : 1048576 < l1
  · have hg : 1048576 < (l1 : Int) := by omega
    clear hR1 hL1 hC1
    go_enter Try.func6, Try.ntmps6
    go_wp2
    go_ret
    exact ⟨rfl, Below.refl _ _⟩
  obtain ⟨r0, hS, hI⟩ := both_KeyedHash v0 y1 hV0 (by omega)
  have HS := Lib.hid hS
  have HI := Lib.hid hI
  clear hS hI
  clear hV0
  have HO_aValues_0 := Lib.hid hR1
  have HC1 := Lib.hid hC1
  clear hR1 hC1 hL1
  have HA_0 := Lib.hid (Below.refl W0.heap.size W0)
  go_enter Try.func6, Try.ntmps6
  go_wp2_with fail
  refine (toIntS_any a1 l1 c1 y1 _ (HO_aValues_0.out.more (Nat.le_refl _)) (by omega)).mono ?_
  rintro e W1 ⟨A__t0, c__t0, rfl, hown, hb⟩
  have HO__t0_1 := Lib.hid hown
  clear hown
  have HB_0 := Lib.hid hb
  clear hb
  have HZ_0 := Lib.hid HB_0.out.size
  have HA_1 := Lib.hid (HA_0.out.trans (HB_0.out.mono (Nat.le_refl _)))
  have HO_aValues_1 := Lib.hid (HO_aValues_0.out.below HB_0.out (Nat.le_refl _))
  go_wp2_with fail
  refine (HS.out A__t0 l1 c__t0 _ (HO__t0_1.out.cap.1) (HO__t0_1.out.rd.more (Nat.le_refl _))).mono ?_
  rintro e W2 ⟨rfl, hb⟩
  have HB_1 := Lib.hid hb
  clear hb
  have HZ_1 := Lib.hid HB_1.out.size
  have HA_2 := Lib.hid (HA_1.out.trans (HB_1.out.mono HZ_0.out))
  have HO_aValues_2 := Lib.hid (HO_aValues_1.out.below HB_1.out HZ_0.out)
  go_wp2_with fail
  refine (toIntS_any a1 l1 c1 y1 _ (HO_aValues_2.out.more (Nat.le_trans HZ_0.out HZ_1.out)) (by omega)).mono ?_
  rintro e W3 ⟨A_x1, c_x1, rfl, hown, hb⟩
  have HO_x1_3 := Lib.hid hown
  clear hown
  have HB_2 := Lib.hid hb
  clear hb
  have HZ_2 := Lib.hid HB_2.out.size
  have HA_3 := Lib.hid (HA_2.out.trans (HB_2.out.mono (Nat.le_trans HZ_0.out HZ_1.out)))
  have HO_aValues_3 := Lib.hid (HO_aValues_2.out.below HB_2.out (Nat.le_trans HZ_0.out HZ_1.out))
  go_wp2_with fail
  refine (HI.out A_x1 l1 c_x1 _ (HO_x1_3.out.cap.1) (HO_x1_3.out.rd.more (Nat.le_refl _))).mono ?_
  rintro e W4 ⟨rfl, hb⟩
  have HB_3 := Lib.hid hb
  clear hb
  have HZ_3 := Lib.hid HB_3.out.size
  have HA_4 := Lib.hid (HA_3.out.trans (HB_3.out.mono (Nat.le_trans (Nat.le_trans HZ_0.out HZ_1.out) HZ_2.out)))
  have HO_aValues_4 := Lib.hid (HO_aValues_3.out.below HB_3.out (Nat.le_trans (Nat.le_trans HZ_0.out HZ_1.out) HZ_2.out))
  have HO_x1_4 := Lib.hid (HO_x1_3.out.below HB_3.out (Nat.le_refl _))
  go_wp2_with fail
  refine (toIntS_any a1 l1 c1 y1 _ (HO_aValues_4.out.more (Nat.le_trans (Nat.le_trans (Nat.le_trans HZ_0.out HZ_1.out) HZ_2.out) HZ_3.out)) (by omega)).mono ?_
  rintro e W5 ⟨A__t1, c__t1, rfl, hown, hb⟩
  have HO__t1_5 := Lib.hid hown
  clear hown
  have HB_4 := Lib.hid hb
  clear hb
  have HZ_4 := Lib.hid HB_4.out.size
  have HA_5 := Lib.hid (HA_4.out.trans (HB_4.out.mono (Nat.le_trans (Nat.le_trans (Nat.le_trans HZ_0.out HZ_1.out) HZ_2.out) HZ_3.out)))
  have HO_x1_5 := Lib.hid (HO_x1_4.out.below HB_4.out HZ_3.out)
  go_wp2_with fail
  refine (eqIntS_same _ _ A_x1 A__t1 l1 c_x1 c__t1 y1 _ HO_x1_5.out.rd HO__t1_5.out.rd (by omega)).mono ?_
  rintro e W6 ⟨rfl, hb⟩
  have HB_5 := Lib.hid hb
  clear hb
  have HZ_5 := Lib.hid (HB_5.out.below 0).size
  have HA_6 := Lib.hid (HA_5.out.trans (HB_5.out.below _))
  go_wp2
  go_ret
  exact ⟨rfl, HA_6.out⟩
theorem FnExactIsValidKey_walk (W0 : World) (v0 : Int) (hv0 : (Lit.int .i64 v0).wf = true) :
    Calls Try.prog 7 #[.int .i64 v0] W0 fun e w' => e = .returned (.bool true) ∧ Below W0.heap.size W0 w' := by
  have hV0 : -9223372036854775808 ≤ v0 ∧ v0 ≤ 9223372036854775807 := by simpa [Lit.wf, IntKind.min, IntKind.max, IntKind.signed, IntKind.bits] using hv0
  clear hv0
  obtain ⟨r0, hS, hI⟩ := both_IsValidKey v0 hV0
  have HS := Lib.hid hS
  have HI := Lib.hid hI
  clear hS hI
  clear hV0
  have HA_0 := Lib.hid (Below.refl W0.heap.size W0)
  go_enter Try.func7, Try.ntmps7
  go_wp2_with fail
  refine (HS.out  _ ).mono ?_
  rintro e W1 ⟨rfl, hb⟩
  have HB_0 := Lib.hid hb
  clear hb
  have HZ_0 := Lib.hid HB_0.out.size
  have HA_1 := Lib.hid (HA_0.out.trans (HB_0.out.mono (Nat.le_refl _)))
  go_wp2_with fail
  refine (HI.out  _ ).mono ?_
  rintro e W2 ⟨rfl, hb⟩
  have HB_1 := Lib.hid hb
  clear hb
  have HZ_1 := Lib.hid HB_1.out.size
  have HA_2 := Lib.hid (HA_1.out.trans (HB_1.out.mono HZ_0.out))
  go_wp2
  go_ret
  exact ⟨rfl, HA_2.out⟩
theorem FnExactBytesToInts_walk (W0 : World) (a0 : Option Addr) (l0 c0 : Nat) (z0 : List Int) (w0 : SL.IsRow .u8 W0 a0 l0 c0 z0) :
    Calls Try.prog 8 #[.slice a0 l0 c0] W0 fun e w' => e = .returned (.bool true) ∧ Below W0.heap.size W0 w' := by
  have hR0 := rd_of_row w0
  have hC0 := row_cap w0
  have hL0 := hR0.len
  generalize z0.take l0 = y0 at hR0 hL0
  clear w0
  by_cases hg0 : 1048576 < l0
  · have hg : 1048576 < (l0 : Int) := by omega
    clear hR0 hL0 hC0
    go_enter Try.func8, Try.ntmps8
    go_wp2
    go_ret
    exact ⟨rfl, Below.refl _ _⟩
  obtain ⟨r0, hlen0, hS, hI⟩ := both_BytesToInts y0 (by omega)
  have HS := Lib.hid hS
  have HI := Lib.hid hI
  clear hS hI
  have HO_aB_0 := Lib.hid hR0
  have HC0 := Lib.hid hC0
  clear hR0 hC0 hL0
  have HA_0 := Lib.hid (Below.refl W0.heap.size W0)
  go_enter Try.func8, Try.ntmps8
  go_wp2_with fail
  refine (toByteS_any a0 l0 c0 y0 _ (HO_aB_0.out.more (Nat.le_refl _)) (by omega)).mono ?_
  rintro e W1 ⟨A__t0, c__t0, rfl, hown, hb⟩
  have HO__t0_1 := Lib.hid hown
  clear hown
  have HB_0 := Lib.hid hb
  clear hb
  have HZ_0 := Lib.hid HB_0.out.size
  have HA_1 := Lib.hid (HA_0.out.trans (HB_0.out.mono (Nat.le_refl _)))
  have HO_aB_1 := Lib.hid (HO_aB_0.out.below HB_0.out (Nat.le_refl _))
  go_wp2_with fail
  refine (HS.out A__t0 l0 c__t0 _ (HO__t0_1.out.cap.1) (HO__t0_1.out.rd.more (Nat.le_refl _))).mono ?_
  rintro e W2 ⟨A_w0, c_w0, rfl, ho0, hb⟩
  have HO_w0_2 := Lib.hid ho0
  clear ho0
  have HB_1 := Lib.hid hb
  clear hb
  have HZ_1 := Lib.hid HB_1.out.size
  have HA_2 := Lib.hid (HA_1.out.trans (HB_1.out.mono HZ_0.out))
  have HO_aB_2 := Lib.hid (HO_aB_1.out.below HB_1.out HZ_0.out)
  go_wp2_with fail
  refine (toByteS_any a0 l0 c0 y0 _ (HO_aB_2.out.more (Nat.le_trans HZ_0.out HZ_1.out)) (by omega)).mono ?_
  rintro e W3 ⟨A_x0, c_x0, rfl, hown, hb⟩
  have HO_x0_3 := Lib.hid hown
  clear hown
  have HB_2 := Lib.hid hb
  clear hb
  have HZ_2 := Lib.hid HB_2.out.size
  have HA_3 := Lib.hid (HA_2.out.trans (HB_2.out.mono (Nat.le_trans HZ_0.out HZ_1.out)))
  have HO_aB_3 := Lib.hid (HO_aB_2.out.below HB_2.out (Nat.le_trans HZ_0.out HZ_1.out))
  have HO_w0_3 := Lib.hid (HO_w0_2.out.below HB_2.out (Nat.le_refl _))
  go_wp2_with fail
  refine (HI.out A_x0 l0 c_x0 _ (HO_x0_3.out.cap.1) (HO_x0_3.out.rd.more (Nat.le_refl _))).mono ?_
  rintro e W4 ⟨A_g0, c_g0, rfl, ho0, hb⟩
  have HO_g0_4 := Lib.hid ho0
  clear ho0
  have HB_3 := Lib.hid hb
  clear hb
  have HZ_3 := Lib.hid HB_3.out.size
  have HA_4 := Lib.hid (HA_3.out.trans (HB_3.out.mono (Nat.le_trans (Nat.le_trans HZ_0.out HZ_1.out) HZ_2.out)))
  have HO_aB_4 := Lib.hid (HO_aB_3.out.below HB_3.out (Nat.le_trans (Nat.le_trans HZ_0.out HZ_1.out) HZ_2.out))
  have HO_w0_4 := Lib.hid (HO_w0_3.out.below HB_3.out HZ_2.out)
  have HO_x0_4 := Lib.hid (HO_x0_3.out.below HB_3.out (Nat.le_refl _))
  go_wp2_with fail
  refine (eqIntS_same _ _ A_g0 A_w0 r0.length c_g0 c_w0 r0 _ HO_g0_4.out.rd HO_w0_4.out.rd (by omega)).mono ?_
  rintro e W5 ⟨rfl, hb⟩
  have HB_4 := Lib.hid hb
  clear hb
  have HZ_4 := Lib.hid (HB_4.out.below 0).size
  have HA_5 := Lib.hid (HA_4.out.trans (HB_4.out.below _))
  have HO_aB_5 := Lib.hid (HO_aB_4.out.same HB_4.out)
  have HO_w0_5 := Lib.hid (HO_w0_4.out.same HB_4.out)
  have HO_x0_5 := Lib.hid (HO_x0_4.out.same HB_4.out)
  have HO_g0_5 := Lib.hid (HO_g0_4.out.same HB_4.out)
  go_wp2_with fail
  refine (toByteS_any a0 l0 c0 y0 _ (HO_aB_5.out.more (Nat.le_trans (Nat.le_trans (Nat.le_trans (Nat.le_trans HZ_0.out HZ_1.out) HZ_2.out) HZ_3.out) HZ_4.out)) (by omega)).mono ?_
  rintro e W6 ⟨A__t1, c__t1, rfl, hown, hb⟩
  have HO__t1_6 := Lib.hid hown
  clear hown
  have HB_5 := Lib.hid hb
  clear hb
  have HZ_5 := Lib.hid HB_5.out.size
  have HA_6 := Lib.hid (HA_5.out.trans (HB_5.out.mono (Nat.le_trans (Nat.le_trans (Nat.le_trans (Nat.le_trans HZ_0.out HZ_1.out) HZ_2.out) HZ_3.out) HZ_4.out)))
  have HO_aB_6 := Lib.hid (HO_aB_5.out.below HB_5.out (Nat.le_trans (Nat.le_trans (Nat.le_trans (Nat.le_trans HZ_0.out HZ_1.out) HZ_2.out) HZ_3.out) HZ_4.out))
  have HO_w0_6 := Lib.hid (HO_w0_5.out.below HB_5.out (Nat.le_trans (Nat.le_trans HZ_2.out HZ_3.out) HZ_4.out))
  have HO_x0_6 := Lib.hid (HO_x0_5.out.below HB_5.out (Nat.le_trans HZ_3.out HZ_4.out))
  have HO_g0_6 := Lib.hid (HO_g0_5.out.below HB_5.out HZ_4.out)
  go_wp2_with fail
  refine (eqByteS_same _ _ A_x0 A__t1 l0 c_x0 c__t1 y0 _ HO_x0_6.out.rd HO__t1_6.out.rd (by omega)).mono ?_
  rintro e W7 ⟨rfl, hb⟩
  have HB_6 := Lib.hid hb
  clear hb
  have HZ_6 := Lib.hid (HB_6.out.below 0).size
  have HA_7 := Lib.hid (HA_6.out.trans (HB_6.out.below _))
  have HO_aB_7 := Lib.hid (HO_aB_6.out.same HB_6.out)
  have HO_w0_7 := Lib.hid (HO_w0_6.out.same HB_6.out)
  have HO_x0_7 := Lib.hid (HO_x0_6.out.same HB_6.out)
  have HO_g0_7 := Lib.hid (HO_g0_6.out.same HB_6.out)
  go_wp2_with fail
  refine (markByteS_any _ _ A_x0 l0 c_x0 y0 1 _ HO_x0_7.out (by omega) (by omega) (by omega)).mono ?_
  rintro e W8 ⟨rfl, hown, hb⟩
  have HO_x0_8 := Lib.hid hown
  clear hown
  have HB_7 := Lib.hid hb
  clear hb
  have HZ_7 := Lib.hid HB_7.out.size
  have HA_8 := Lib.hid (HA_7.out.trans (HB_7.out.below (Nat.le_trans HZ_0.out HZ_1.out) (Nat.le_trans (Nat.le_trans (Nat.le_trans (Nat.le_trans (Nat.le_trans (Nat.le_trans HZ_0.out HZ_1.out) HZ_2.out) HZ_3.out) HZ_4.out) HZ_5.out) HZ_6.out)))
  have HO_aB_8 := Lib.hid (HO_aB_7.out.fr HB_7.out (Nat.le_trans HZ_0.out HZ_1.out) (Nat.le_trans (Nat.le_trans (Nat.le_trans (Nat.le_trans (Nat.le_trans (Nat.le_trans HZ_0.out HZ_1.out) HZ_2.out) HZ_3.out) HZ_4.out) HZ_5.out) HZ_6.out))
  have HO_w0_8 := Lib.hid (HO_w0_7.out.fr HB_7.out (.inl (Nat.le_refl _)))
  have HO_g0_8 := Lib.hid (HO_g0_7.out.fr HB_7.out (.inr (Nat.le_refl _)))
  go_wp2_with fail
  refine (eqIntS_same _ _ A_g0 A_w0 r0.length c_g0 c_w0 r0 _ HO_g0_8.out.rd HO_w0_8.out.rd (by omega)).mono ?_
  rintro e W9 ⟨rfl, hb⟩
  have HB_8 := Lib.hid hb
  clear hb
  have HZ_8 := Lib.hid (HB_8.out.below 0).size
  have HA_9 := Lib.hid (HA_8.out.trans (HB_8.out.below _))
  have HO_aB_9 := Lib.hid (HO_aB_8.out.same HB_8.out)
  have HO_w0_9 := Lib.hid (HO_w0_8.out.same HB_8.out)
  have HO_g0_9 := Lib.hid (HO_g0_8.out.same HB_8.out)
  go_wp2_with fail
  refine (markIntS_any _ _ A_g0 r0.length c_g0 r0 1 _ HO_g0_9.out (by omega) (by omega) (by omega)).mono ?_
  rintro e W10 ⟨rfl, hown, hb⟩
  have HO_g0_10 := Lib.hid hown
  clear hown
  have HB_9 := Lib.hid hb
  clear hb
  have HZ_9 := Lib.hid HB_9.out.size
  have HA_10 := Lib.hid (HA_9.out.trans (HB_9.out.below (Nat.le_trans (Nat.le_trans HZ_0.out HZ_1.out) HZ_2.out) (Nat.le_trans (Nat.le_trans (Nat.le_trans (Nat.le_trans (Nat.le_trans (Nat.le_trans (Nat.le_trans (Nat.le_trans HZ_0.out HZ_1.out) HZ_2.out) HZ_3.out) HZ_4.out) HZ_5.out) HZ_6.out) HZ_7.out) HZ_8.out)))
  have HO_aB_10 := Lib.hid (HO_aB_9.out.fr HB_9.out (Nat.le_trans (Nat.le_trans HZ_0.out HZ_1.out) HZ_2.out) (Nat.le_trans (Nat.le_trans (Nat.le_trans (Nat.le_trans (Nat.le_trans (Nat.le_trans (Nat.le_trans (Nat.le_trans HZ_0.out HZ_1.out) HZ_2.out) HZ_3.out) HZ_4.out) HZ_5.out) HZ_6.out) HZ_7.out) HZ_8.out))
  have HO_w0_10 := Lib.hid (HO_w0_9.out.fr HB_9.out (.inl HZ_2.out))
  go_wp2_with fail
  refine (heldIntS_marks _ A_g0 r0.length c_g0 1 _ HO_g0_10.out.rd (by omega) (by omega) (by omega)).mono ?_
  rintro e W11 ⟨rfl, rfl⟩
  go_wp2_with fail
  refine (toByteS_any a0 l0 c0 y0 _ (HO_aB_10.out.more (Nat.le_trans (Nat.le_trans (Nat.le_trans (Nat.le_trans (Nat.le_trans (Nat.le_trans (Nat.le_trans (Nat.le_trans (Nat.le_trans HZ_0.out HZ_1.out) HZ_2.out) HZ_3.out) HZ_4.out) HZ_5.out) HZ_6.out) HZ_7.out) HZ_8.out) HZ_9.out)) (by omega)).mono ?_
  rintro e W11 ⟨A__t2, c__t2, rfl, hown, hb⟩
  have HO__t2_11 := Lib.hid hown
  clear hown
  have HB_10 := Lib.hid hb
  clear hb
  have HZ_10 := Lib.hid HB_10.out.size
  have HA_11 := Lib.hid (HA_10.out.trans (HB_10.out.mono (Nat.le_trans (Nat.le_trans (Nat.le_trans (Nat.le_trans (Nat.le_trans (Nat.le_trans (Nat.le_trans (Nat.le_trans (Nat.le_trans HZ_0.out HZ_1.out) HZ_2.out) HZ_3.out) HZ_4.out) HZ_5.out) HZ_6.out) HZ_7.out) HZ_8.out) HZ_9.out)))
  have HO_w0_11 := Lib.hid (HO_w0_10.out.below HB_10.out (Nat.le_trans (Nat.le_trans (Nat.le_trans (Nat.le_trans (Nat.le_trans (Nat.le_trans (Nat.le_trans HZ_2.out HZ_3.out) HZ_4.out) HZ_5.out) HZ_6.out) HZ_7.out) HZ_8.out) HZ_9.out))
  have HO_g0_11 := Lib.hid (HO_g0_10.out.below HB_10.out (Nat.le_trans (Nat.le_trans (Nat.le_trans (Nat.le_trans (Nat.le_trans HZ_4.out HZ_5.out) HZ_6.out) HZ_7.out) HZ_8.out) HZ_9.out))
  go_wp2_with fail
  refine (HI.out A__t2 l0 c__t2 _ (HO__t2_11.out.cap.1) (HO__t2_11.out.rd.more (Nat.le_refl _))).mono ?_
  rintro e W12 ⟨A_h0, c_h0, rfl, ho0, hb⟩
  have HO_h0_12 := Lib.hid ho0
  clear ho0
  have HB_11 := Lib.hid hb
  clear hb
  have HZ_11 := Lib.hid HB_11.out.size
  have HA_12 := Lib.hid (HA_11.out.trans (HB_11.out.mono (Nat.le_trans (Nat.le_trans (Nat.le_trans (Nat.le_trans (Nat.le_trans (Nat.le_trans (Nat.le_trans (Nat.le_trans (Nat.le_trans (Nat.le_trans HZ_0.out HZ_1.out) HZ_2.out) HZ_3.out) HZ_4.out) HZ_5.out) HZ_6.out) HZ_7.out) HZ_8.out) HZ_9.out) HZ_10.out)))
  have HO_w0_12 := Lib.hid (HO_w0_11.out.below HB_11.out (Nat.le_trans (Nat.le_trans (Nat.le_trans (Nat.le_trans (Nat.le_trans (Nat.le_trans (Nat.le_trans (Nat.le_trans HZ_2.out HZ_3.out) HZ_4.out) HZ_5.out) HZ_6.out) HZ_7.out) HZ_8.out) HZ_9.out) HZ_10.out))
  have HO_g0_12 := Lib.hid (HO_g0_11.out.below HB_11.out (Nat.le_trans (Nat.le_trans (Nat.le_trans (Nat.le_trans (Nat.le_trans (Nat.le_trans HZ_4.out HZ_5.out) HZ_6.out) HZ_7.out) HZ_8.out) HZ_9.out) HZ_10.out))
  go_wp2_with fail
  refine (eqIntS_same _ _ A_h0 A_w0 r0.length c_h0 c_w0 r0 _ HO_h0_12.out.rd HO_w0_12.out.rd (by omega)).mono ?_
  rintro e W13 ⟨rfl, hb⟩
  have HB_12 := Lib.hid hb
  clear hb
  have HZ_12 := Lib.hid (HB_12.out.below 0).size
  have HA_13 := Lib.hid (HA_12.out.trans (HB_12.out.below _))
  have HO_g0_13 := Lib.hid (HO_g0_12.out.same HB_12.out)
  go_wp2_with fail
  refine (heldIntS_marks _ A_g0 r0.length c_g0 1 _ HO_g0_13.out.rd (by omega) (by omega) (by omega)).mono ?_
  rintro e W14 ⟨rfl, rfl⟩
  go_wp2
  go_ret
  exact ⟨rfl, HA_13.out⟩
theorem FnExactEncrypt_walk (W0 : World) (v0 : Int) (hv0 : (Lit.int .i64 v0).wf = true) (a1 : Option Addr) (l1 c1 : Nat) (z1 : List Int) (w1 : SL.IsRow .u8 W0 a1 l1 c1 z1) :
    Calls Try.prog 9 #[.int .i64 v0, .slice a1 l1 c1] W0 fun e w' => e = .returned (.bool true) ∧ Below W0.heap.size W0 w' := by
  have hV0 : -9223372036854775808 ≤ v0 ∧ v0 ≤ 9223372036854775807 := by simpa [Lit.wf, IntKind.min, IntKind.max, IntKind.signed, IntKind.bits] using hv0
  clear hv0
  have hR1 := rd_of_row w1
  have hC1 := row_cap w1
  have hL1 := hR1.len
  generalize z1.take l1 = y1 at hR1 hL1
  clear w1
  by_cases hg1 : 1048576 < l1
  · have hg : 1048576 < (l1 : Int) := by omega
    clear hR1 hL1 hC1
    go_enter Try.func9, Try.ntmps9
    go_wp2
    go_ret
    exact ⟨rfl, Below.refl _ _⟩
  obtain ⟨r0, hlen0, hS, hI⟩ := both_Encrypt v0 y1 hV0 (by omega)
  have HS := Lib.hid hS
  have HI := Lib.hid hI
  clear hS hI
  clear hV0
  have HO_aPlaintext_0 := Lib.hid hR1
  have HC1 := Lib.hid hC1
  clear hR1 hC1 hL1
  have HA_0 := Lib.hid (Below.refl W0.heap.size W0)
  go_enter Try.func9, Try.ntmps9
  go_wp2_with fail
  refine (toByteS_any a1 l1 c1 y1 _ (HO_aPlaintext_0.out.more (Nat.le_refl _)) (by omega)).mono ?_
  rintro e W1 ⟨A__t0, c__t0, rfl, hown, hb⟩
  have HO__t0_1 := Lib.hid hown
  clear hown
  have HB_0 := Lib.hid hb
  clear hb
  have HZ_0 := Lib.hid HB_0.out.size
  have HA_1 := Lib.hid (HA_0.out.trans (HB_0.out.mono (Nat.le_refl _)))
  have HO_aPlaintext_1 := Lib.hid (HO_aPlaintext_0.out.below HB_0.out (Nat.le_refl _))
  go_wp2_with fail
  refine (HS.out A__t0 l1 c__t0 _ (HO__t0_1.out.cap.1) (HO__t0_1.out.rd.more (Nat.le_refl _))).mono ?_
  rintro e W2 ⟨A_w0, c_w0, rfl, ho0, hb⟩
  have HO_w0_2 := Lib.hid ho0
  clear ho0
  have HB_1 := Lib.hid hb
  clear hb
  have HZ_1 := Lib.hid HB_1.out.size
  have HA_2 := Lib.hid (HA_1.out.trans (HB_1.out.mono HZ_0.out))
  have HO_aPlaintext_2 := Lib.hid (HO_aPlaintext_1.out.below HB_1.out HZ_0.out)
  go_wp2_with fail
  refine (toByteS_any a1 l1 c1 y1 _ (HO_aPlaintext_2.out.more (Nat.le_trans HZ_0.out HZ_1.out)) (by omega)).mono ?_
  rintro e W3 ⟨A_x1, c_x1, rfl, hown, hb⟩
  have HO_x1_3 := Lib.hid hown
  clear hown
  have HB_2 := Lib.hid hb
  clear hb
  have HZ_2 := Lib.hid HB_2.out.size
  have HA_3 := Lib.hid (HA_2.out.trans (HB_2.out.mono (Nat.le_trans HZ_0.out HZ_1.out)))
  have HO_aPlaintext_3 := Lib.hid (HO_aPlaintext_2.out.below HB_2.out (Nat.le_trans HZ_0.out HZ_1.out))
  have HO_w0_3 := Lib.hid (HO_w0_2.out.below HB_2.out (Nat.le_refl _))
  go_wp2_with fail
  refine (HI.out A_x1 l1 c_x1 _ (HO_x1_3.out.cap.1) (HO_x1_3.out.rd.more (Nat.le_refl _))).mono ?_
  rintro e W4 ⟨A_g0, c_g0, rfl, ho0, hb⟩
  have HO_g0_4 := Lib.hid ho0
  clear ho0
  have HB_3 := Lib.hid hb
  clear hb
  have HZ_3 := Lib.hid HB_3.out.size
  have HA_4 := Lib.hid (HA_3.out.trans (HB_3.out.mono (Nat.le_trans (Nat.le_trans HZ_0.out HZ_1.out) HZ_2.out)))
  have HO_aPlaintext_4 := Lib.hid (HO_aPlaintext_3.out.below HB_3.out (Nat.le_trans (Nat.le_trans HZ_0.out HZ_1.out) HZ_2.out))
  have HO_w0_4 := Lib.hid (HO_w0_3.out.below HB_3.out HZ_2.out)
  have HO_x1_4 := Lib.hid (HO_x1_3.out.below HB_3.out (Nat.le_refl _))
  go_wp2_with fail
  refine (eqByteS_same _ _ A_g0 A_w0 r0.length c_g0 c_w0 r0 _ HO_g0_4.out.rd HO_w0_4.out.rd (by omega)).mono ?_
  rintro e W5 ⟨rfl, hb⟩
  have HB_4 := Lib.hid hb
  clear hb
  have HZ_4 := Lib.hid (HB_4.out.below 0).size
  have HA_5 := Lib.hid (HA_4.out.trans (HB_4.out.below _))
  have HO_aPlaintext_5 := Lib.hid (HO_aPlaintext_4.out.same HB_4.out)
  have HO_w0_5 := Lib.hid (HO_w0_4.out.same HB_4.out)
  have HO_x1_5 := Lib.hid (HO_x1_4.out.same HB_4.out)
  have HO_g0_5 := Lib.hid (HO_g0_4.out.same HB_4.out)
  go_wp2_with fail
  refine (toByteS_any a1 l1 c1 y1 _ (HO_aPlaintext_5.out.more (Nat.le_trans (Nat.le_trans (Nat.le_trans (Nat.le_trans HZ_0.out HZ_1.out) HZ_2.out) HZ_3.out) HZ_4.out)) (by omega)).mono ?_
  rintro e W6 ⟨A__t1, c__t1, rfl, hown, hb⟩
  have HO__t1_6 := Lib.hid hown
  clear hown
  have HB_5 := Lib.hid hb
  clear hb
  have HZ_5 := Lib.hid HB_5.out.size
  have HA_6 := Lib.hid (HA_5.out.trans (HB_5.out.mono (Nat.le_trans (Nat.le_trans (Nat.le_trans (Nat.le_trans HZ_0.out HZ_1.out) HZ_2.out) HZ_3.out) HZ_4.out)))
  have HO_aPlaintext_6 := Lib.hid (HO_aPlaintext_5.out.below HB_5.out (Nat.le_trans (Nat.le_trans (Nat.le_trans (Nat.le_trans HZ_0.out HZ_1.out) HZ_2.out) HZ_3.out) HZ_4.out))
  have HO_w0_6 := Lib.hid (HO_w0_5.out.below HB_5.out (Nat.le_trans (Nat.le_trans HZ_2.out HZ_3.out) HZ_4.out))
  have HO_x1_6 := Lib.hid (HO_x1_5.out.below HB_5.out (Nat.le_trans HZ_3.out HZ_4.out))
  have HO_g0_6 := Lib.hid (HO_g0_5.out.below HB_5.out HZ_4.out)
  go_wp2_with fail
  refine (eqByteS_same _ _ A_x1 A__t1 l1 c_x1 c__t1 y1 _ HO_x1_6.out.rd HO__t1_6.out.rd (by omega)).mono ?_
  rintro e W7 ⟨rfl, hb⟩
  have HB_6 := Lib.hid hb
  clear hb
  have HZ_6 := Lib.hid (HB_6.out.below 0).size
  have HA_7 := Lib.hid (HA_6.out.trans (HB_6.out.below _))
  have HO_aPlaintext_7 := Lib.hid (HO_aPlaintext_6.out.same HB_6.out)
  have HO_w0_7 := Lib.hid (HO_w0_6.out.same HB_6.out)
  have HO_x1_7 := Lib.hid (HO_x1_6.out.same HB_6.out)
  have HO_g0_7 := Lib.hid (HO_g0_6.out.same HB_6.out)
  go_wp2_with fail
  refine (markByteS_any _ _ A_x1 l1 c_x1 y1 1 _ HO_x1_7.out (by omega) (by omega) (by omega)).mono ?_
  rintro e W8 ⟨rfl, hown, hb⟩
  have HO_x1_8 := Lib.hid hown
  clear hown
  have HB_7 := Lib.hid hb
  clear hb
  have HZ_7 := Lib.hid HB_7.out.size
  have HA_8 := Lib.hid (HA_7.out.trans (HB_7.out.below (Nat.le_trans HZ_0.out HZ_1.out) (Nat.le_trans (Nat.le_trans (Nat.le_trans (Nat.le_trans (Nat.le_trans (Nat.le_trans HZ_0.out HZ_1.out) HZ_2.out) HZ_3.out) HZ_4.out) HZ_5.out) HZ_6.out)))
  have HO_aPlaintext_8 := Lib.hid (HO_aPlaintext_7.out.fr HB_7.out (Nat.le_trans HZ_0.out HZ_1.out) (Nat.le_trans (Nat.le_trans (Nat.le_trans (Nat.le_trans (Nat.le_trans (Nat.le_trans HZ_0.out HZ_1.out) HZ_2.out) HZ_3.out) HZ_4.out) HZ_5.out) HZ_6.out))
  have HO_w0_8 := Lib.hid (HO_w0_7.out.fr HB_7.out (.inl (Nat.le_refl _)))
  have HO_g0_8 := Lib.hid (HO_g0_7.out.fr HB_7.out (.inr (Nat.le_refl _)))
  go_wp2_with fail
  refine (eqByteS_same _ _ A_g0 A_w0 r0.length c_g0 c_w0 r0 _ HO_g0_8.out.rd HO_w0_8.out.rd (by omega)).mono ?_
  rintro e W9 ⟨rfl, hb⟩
  have HB_8 := Lib.hid hb
  clear hb
  have HZ_8 := Lib.hid (HB_8.out.below 0).size
  have HA_9 := Lib.hid (HA_8.out.trans (HB_8.out.below _))
  have HO_aPlaintext_9 := Lib.hid (HO_aPlaintext_8.out.same HB_8.out)
  have HO_w0_9 := Lib.hid (HO_w0_8.out.same HB_8.out)
  have HO_g0_9 := Lib.hid (HO_g0_8.out.same HB_8.out)
  go_wp2_with fail
  refine (markByteS_any _ _ A_g0 r0.length c_g0 r0 1 _ HO_g0_9.out (by omega) (by omega) (by omega)).mono ?_
  rintro e W10 ⟨rfl, hown, hb⟩
  have HO_g0_10 := Lib.hid hown
  clear hown
  have HB_9 := Lib.hid hb
  clear hb
  have HZ_9 := Lib.hid HB_9.out.size
  have HA_10 := Lib.hid (HA_9.out.trans (HB_9.out.below (Nat.le_trans (Nat.le_trans HZ_0.out HZ_1.out) HZ_2.out) (Nat.le_trans (Nat.le_trans (Nat.le_trans (Nat.le_trans (Nat.le_trans (Nat.le_trans (Nat.le_trans (Nat.le_trans HZ_0.out HZ_1.out) HZ_2.out) HZ_3.out) HZ_4.out) HZ_5.out) HZ_6.out) HZ_7.out) HZ_8.out)))
  have HO_aPlaintext_10 := Lib.hid (HO_aPlaintext_9.out.fr HB_9.out (Nat.le_trans (Nat.le_trans HZ_0.out HZ_1.out) HZ_2.out) (Nat.le_trans (Nat.le_trans (Nat.le_trans (Nat.le_trans (Nat.le_trans (Nat.le_trans (Nat.le_trans (Nat.le_trans HZ_0.out HZ_1.out) HZ_2.out) HZ_3.out) HZ_4.out) HZ_5.out) HZ_6.out) HZ_7.out) HZ_8.out))
  have HO_w0_10 := Lib.hid (HO_w0_9.out.fr HB_9.out (.inl HZ_2.out))
  go_wp2_with fail
  refine (heldByteS_marks _ A_g0 r0.length c_g0 1 _ HO_g0_10.out.rd (by omega) (by omega) (by omega)).mono ?_
  rintro e W11 ⟨rfl, rfl⟩
  go_wp2_with fail
  refine (toByteS_any a1 l1 c1 y1 _ (HO_aPlaintext_10.out.more (Nat.le_trans (Nat.le_trans (Nat.le_trans (Nat.le_trans (Nat.le_trans (Nat.le_trans (Nat.le_trans (Nat.le_trans (Nat.le_trans HZ_0.out HZ_1.out) HZ_2.out) HZ_3.out) HZ_4.out) HZ_5.out) HZ_6.out) HZ_7.out) HZ_8.out) HZ_9.out)) (by omega)).mono ?_
  rintro e W11 ⟨A__t2, c__t2, rfl, hown, hb⟩
  have HO__t2_11 := Lib.hid hown
  clear hown
  have HB_10 := Lib.hid hb
  clear hb
  have HZ_10 := Lib.hid HB_10.out.size
  have HA_11 := Lib.hid (HA_10.out.trans (HB_10.out.mono (Nat.le_trans (Nat.le_trans (Nat.le_trans (Nat.le_trans (Nat.le_trans (Nat.le_trans (Nat.le_trans (Nat.le_trans (Nat.le_trans HZ_0.out HZ_1.out) HZ_2.out) HZ_3.out) HZ_4.out) HZ_5.out) HZ_6.out) HZ_7.out) HZ_8.out) HZ_9.out)))
  have HO_w0_11 := Lib.hid (HO_w0_10.out.below HB_10.out (Nat.le_trans (Nat.le_trans (Nat.le_trans (Nat.le_trans (Nat.le_trans (Nat.le_trans (Nat.le_trans HZ_2.out HZ_3.out) HZ_4.out) HZ_5.out) HZ_6.out) HZ_7.out) HZ_8.out) HZ_9.out))
  have HO_g0_11 := Lib.hid (HO_g0_10.out.below HB_10.out (Nat.le_trans (Nat.le_trans (Nat.le_trans (Nat.le_trans (Nat.le_trans HZ_4.out HZ_5.out) HZ_6.out) HZ_7.out) HZ_8.out) HZ_9.out))
  go_wp2_with fail
  refine (HI.out A__t2 l1 c__t2 _ (HO__t2_11.out.cap.1) (HO__t2_11.out.rd.more (Nat.le_refl _))).mono ?_
  rintro e W12 ⟨A_h0, c_h0, rfl, ho0, hb⟩
  have HO_h0_12 := Lib.hid ho0
  clear ho0
  have HB_11 := Lib.hid hb
  clear hb
  have HZ_11 := Lib.hid HB_11.out.size
  have HA_12 := Lib.hid (HA_11.out.trans (HB_11.out.mono (Nat.le_trans (Nat.le_trans (Nat.le_trans (Nat.le_trans (Nat.le_trans (Nat.le_trans (Nat.le_trans (Nat.le_trans (Nat.le_trans (Nat.le_trans HZ_0.out HZ_1.out) HZ_2.out) HZ_3.out) HZ_4.out) HZ_5.out) HZ_6.out) HZ_7.out) HZ_8.out) HZ_9.out) HZ_10.out)))
  have HO_w0_12 := Lib.hid (HO_w0_11.out.below HB_11.out (Nat.le_trans (Nat.le_trans (Nat.le_trans (Nat.le_trans (Nat.le_trans (Nat.le_trans (Nat.le_trans (Nat.le_trans HZ_2.out HZ_3.out) HZ_4.out) HZ_5.out) HZ_6.out) HZ_7.out) HZ_8.out) HZ_9.out) HZ_10.out))
  have HO_g0_12 := Lib.hid (HO_g0_11.out.below HB_11.out (Nat.le_trans (Nat.le_trans (Nat.le_trans (Nat.le_trans (Nat.le_trans (Nat.le_trans HZ_4.out HZ_5.out) HZ_6.out) HZ_7.out) HZ_8.out) HZ_9.out) HZ_10.out))
  go_wp2_with fail
  refine (eqByteS_same _ _ A_h0 A_w0 r0.length c_h0 c_w0 r0 _ HO_h0_12.out.rd HO_w0_12.out.rd (by omega)).mono ?_
  rintro e W13 ⟨rfl, hb⟩
  have HB_12 := Lib.hid hb
  clear hb
  have HZ_12 := Lib.hid (HB_12.out.below 0).size
  have HA_13 := Lib.hid (HA_12.out.trans (HB_12.out.below _))
  have HO_g0_13 := Lib.hid (HO_g0_12.out.same HB_12.out)
  go_wp2_with fail
  refine (heldByteS_marks _ A_g0 r0.length c_g0 1 _ HO_g0_13.out.rd (by omega) (by omega) (by omega)).mono ?_
  rintro e W14 ⟨rfl, rfl⟩
  go_wp2
  go_ret
  exact ⟨rfl, HA_13.out⟩
theorem FnExactDecrypt_walk (W0 : World) (v0 : Int) (hv0 : (Lit.int .i64 v0).wf = true) (a1 : Option Addr) (l1 c1 : Nat) (z1 : List Int) (w1 : SL.IsRow .u8 W0 a1 l1 c1 z1) :
    Calls Try.prog 10 #[.int .i64 v0, .slice a1 l1 c1] W0 fun e w' => e = .returned (.bool true) ∧ Below W0.heap.size W0 w' := by
  have hV0 : -9223372036854775808 ≤ v0 ∧ v0 ≤ 9223372036854775807 := by simpa [Lit.wf, IntKind.min, IntKind.max, IntKind.signed, IntKind.bits] using hv0
  clear hv0
  have hR1 := rd_of_row w1
  have hC1 := row_cap w1
  have hL1 := hR1.len
  generalize z1.take l1 = y1 at hR1 hL1
  clear w1
  by_cases hg1 : 1048576 < l1
  · have hg : 1048576 < (l1 : Int) := by omega
    clear hR1 hL1 hC1
    go_enter Try.func10, Try.ntmps10
    go_wp2
    go_ret
    exact ⟨rfl, Below.refl _ _⟩
  obtain ⟨r0, hlen0, hS, hI⟩ := both_Decrypt v0 y1 hV0 (by omega)
  have HS := Lib.hid hS
  have HI := Lib.hid hI
  clear hS hI
  clear hV0
  have HO_aCiphertext_0 := Lib.hid hR1
  have HC1 := Lib.hid hC1
  clear hR1 hC1 hL1
  have HA_0 := Lib.hid (Below.refl W0.heap.size W0)
  go_enter Try.func10, Try.ntmps10
  go_wp2_with fail
  refine (toByteS_any a1 l1 c1 y1 _ (HO_aCiphertext_0.out.more (Nat.le_refl _)) (by omega)).mono ?_
  rintro e W1 ⟨A__t0, c__t0, rfl, hown, hb⟩
  have HO__t0_1 := Lib.hid hown
  clear hown
  have HB_0 := Lib.hid hb
  clear hb
  have HZ_0 := Lib.hid HB_0.out.size
  have HA_1 := Lib.hid (HA_0.out.trans (HB_0.out.mono (Nat.le_refl _)))
  have HO_aCiphertext_1 := Lib.hid (HO_aCiphertext_0.out.below HB_0.out (Nat.le_refl _))
  go_wp2_with fail
  refine (HS.out A__t0 l1 c__t0 _ (HO__t0_1.out.cap.1) (HO__t0_1.out.rd.more (Nat.le_refl _))).mono ?_
  rintro e W2 ⟨A_w0, c_w0, rfl, ho0, hb⟩
  have HO_w0_2 := Lib.hid ho0
  clear ho0
  have HB_1 := Lib.hid hb
  clear hb
  have HZ_1 := Lib.hid HB_1.out.size
  have HA_2 := Lib.hid (HA_1.out.trans (HB_1.out.mono HZ_0.out))
  have HO_aCiphertext_2 := Lib.hid (HO_aCiphertext_1.out.below HB_1.out HZ_0.out)
  go_wp2_with fail
  refine (toByteS_any a1 l1 c1 y1 _ (HO_aCiphertext_2.out.more (Nat.le_trans HZ_0.out HZ_1.out)) (by omega)).mono ?_
  rintro e W3 ⟨A_x1, c_x1, rfl, hown, hb⟩
  have HO_x1_3 := Lib.hid hown
  clear hown
  have HB_2 := Lib.hid hb
  clear hb
  have HZ_2 := Lib.hid HB_2.out.size
  have HA_3 := Lib.hid (HA_2.out.trans (HB_2.out.mono (Nat.le_trans HZ_0.out HZ_1.out)))
  have HO_aCiphertext_3 := Lib.hid (HO_aCiphertext_2.out.below HB_2.out (Nat.le_trans HZ_0.out HZ_1.out))
  have HO_w0_3 := Lib.hid (HO_w0_2.out.below HB_2.out (Nat.le_refl _))
  go_wp2_with fail
  refine (HI.out A_x1 l1 c_x1 _ (HO_x1_3.out.cap.1) (HO_x1_3.out.rd.more (Nat.le_refl _))).mono ?_
  rintro e W4 ⟨A_g0, c_g0, rfl, ho0, hb⟩
  have HO_g0_4 := Lib.hid ho0
  clear ho0
  have HB_3 := Lib.hid hb
  clear hb
  have HZ_3 := Lib.hid HB_3.out.size
  have HA_4 := Lib.hid (HA_3.out.trans (HB_3.out.mono (Nat.le_trans (Nat.le_trans HZ_0.out HZ_1.out) HZ_2.out)))
  have HO_aCiphertext_4 := Lib.hid (HO_aCiphertext_3.out.below HB_3.out (Nat.le_trans (Nat.le_trans HZ_0.out HZ_1.out) HZ_2.out))
  have HO_w0_4 := Lib.hid (HO_w0_3.out.below HB_3.out HZ_2.out)
  have HO_x1_4 := Lib.hid (HO_x1_3.out.below HB_3.out (Nat.le_refl _))
  go_wp2_with fail
  refine (eqByteS_same _ _ A_g0 A_w0 r0.length c_g0 c_w0 r0 _ HO_g0_4.out.rd HO_w0_4.out.rd (by omega)).mono ?_
  rintro e W5 ⟨rfl, hb⟩
  have HB_4 := Lib.hid hb
  clear hb
  have HZ_4 := Lib.hid (HB_4.out.below 0).size
  have HA_5 := Lib.hid (HA_4.out.trans (HB_4.out.below _))
  have HO_aCiphertext_5 := Lib.hid (HO_aCiphertext_4.out.same HB_4.out)
  have HO_w0_5 := Lib.hid (HO_w0_4.out.same HB_4.out)
  have HO_x1_5 := Lib.hid (HO_x1_4.out.same HB_4.out)
  have HO_g0_5 := Lib.hid (HO_g0_4.out.same HB_4.out)
  go_wp2_with fail
  refine (toByteS_any a1 l1 c1 y1 _ (HO_aCiphertext_5.out.more (Nat.le_trans (Nat.le_trans (Nat.le_trans (Nat.le_trans HZ_0.out HZ_1.out) HZ_2.out) HZ_3.out) HZ_4.out)) (by omega)).mono ?_
  rintro e W6 ⟨A__t1, c__t1, rfl, hown, hb⟩
  have HO__t1_6 := Lib.hid hown
  clear hown
  have HB_5 := Lib.hid hb
  clear hb
  have HZ_5 := Lib.hid HB_5.out.size
  have HA_6 := Lib.hid (HA_5.out.trans (HB_5.out.mono (Nat.le_trans (Nat.le_trans (Nat.le_trans (Nat.le_trans HZ_0.out HZ_1.out) HZ_2.out) HZ_3.out) HZ_4.out)))
  have HO_aCiphertext_6 := Lib.hid (HO_aCiphertext_5.out.below HB_5.out (Nat.le_trans (Nat.le_trans (Nat.le_trans (Nat.le_trans HZ_0.out HZ_1.out) HZ_2.out) HZ_3.out) HZ_4.out))
  have HO_w0_6 := Lib.hid (HO_w0_5.out.below HB_5.out (Nat.le_trans (Nat.le_trans HZ_2.out HZ_3.out) HZ_4.out))
  have HO_x1_6 := Lib.hid (HO_x1_5.out.below HB_5.out (Nat.le_trans HZ_3.out HZ_4.out))
  have HO_g0_6 := Lib.hid (HO_g0_5.out.below HB_5.out HZ_4.out)
  go_wp2_with fail
  refine (eqByteS_same _ _ A_x1 A__t1 l1 c_x1 c__t1 y1 _ HO_x1_6.out.rd HO__t1_6.out.rd (by omega)).mono ?_
  rintro e W7 ⟨rfl, hb⟩
  have HB_6 := Lib.hid hb
  clear hb
  have HZ_6 := Lib.hid (HB_6.out.below 0).size
  have HA_7 := Lib.hid (HA_6.out.trans (HB_6.out.below _))
  have HO_aCiphertext_7 := Lib.hid (HO_aCiphertext_6.out.same HB_6.out)
  have HO_w0_7 := Lib.hid (HO_w0_6.out.same HB_6.out)
  have HO_x1_7 := Lib.hid (HO_x1_6.out.same HB_6.out)
  have HO_g0_7 := Lib.hid (HO_g0_6.out.same HB_6.out)
  go_wp2_with fail
  refine (markByteS_any _ _ A_x1 l1 c_x1 y1 1 _ HO_x1_7.out (by omega) (by omega) (by omega)).mono ?_
  rintro e W8 ⟨rfl, hown, hb⟩
  have HO_x1_8 := Lib.hid hown
  clear hown
  have HB_7 := Lib.hid hb
  clear hb
  have HZ_7 := Lib.hid HB_7.out.size
  have HA_8 := Lib.hid (HA_7.out.trans (HB_7.out.below (Nat.le_trans HZ_0.out HZ_1.out) (Nat.le_trans (Nat.le_trans (Nat.le_trans (Nat.le_trans (Nat.le_trans (Nat.le_trans HZ_0.out HZ_1.out) HZ_2.out) HZ_3.out) HZ_4.out) HZ_5.out) HZ_6.out)))
  have HO_aCiphertext_8 := Lib.hid (HO_aCiphertext_7.out.fr HB_7.out (Nat.le_trans HZ_0.out HZ_1.out) (Nat.le_trans (Nat.le_trans (Nat.le_trans (Nat.le_trans (Nat.le_trans (Nat.le_trans HZ_0.out HZ_1.out) HZ_2.out) HZ_3.out) HZ_4.out) HZ_5.out) HZ_6.out))
  have HO_w0_8 := Lib.hid (HO_w0_7.out.fr HB_7.out (.inl (Nat.le_refl _)))
  have HO_g0_8 := Lib.hid (HO_g0_7.out.fr HB_7.out (.inr (Nat.le_refl _)))
  go_wp2_with fail
  refine (eqByteS_same _ _ A_g0 A_w0 r0.length c_g0 c_w0 r0 _ HO_g0_8.out.rd HO_w0_8.out.rd (by omega)).mono ?_
  rintro e W9 ⟨rfl, hb⟩
  have HB_8 := Lib.hid hb
  clear hb
  have HZ_8 := Lib.hid (HB_8.out.below 0).size
  have HA_9 := Lib.hid (HA_8.out.trans (HB_8.out.below _))
  have HO_aCiphertext_9 := Lib.hid (HO_aCiphertext_8.out.same HB_8.out)
  have HO_w0_9 := Lib.hid (HO_w0_8.out.same HB_8.out)
  have HO_g0_9 := Lib.hid (HO_g0_8.out.same HB_8.out)
  go_wp2_with fail
  refine (markByteS_any _ _ A_g0 r0.length c_g0 r0 1 _ HO_g0_9.out (by omega) (by omega) (by omega)).mono ?_
  rintro e W10 ⟨rfl, hown, hb⟩
  have HO_g0_10 := Lib.hid hown
  clear hown
  have HB_9 := Lib.hid hb
  clear hb
  have HZ_9 := Lib.hid HB_9.out.size
  have HA_10 := Lib.hid (HA_9.out.trans (HB_9.out.below (Nat.le_trans (Nat.le_trans HZ_0.out HZ_1.out) HZ_2.out) (Nat.le_trans (Nat.le_trans (Nat.le_trans (Nat.le_trans (Nat.le_trans (Nat.le_trans (Nat.le_trans (Nat.le_trans HZ_0.out HZ_1.out) HZ_2.out) HZ_3.out) HZ_4.out) HZ_5.out) HZ_6.out) HZ_7.out) HZ_8.out)))
  have HO_aCiphertext_10 := Lib.hid (HO_aCiphertext_9.out.fr HB_9.out (Nat.le_trans (Nat.le_trans HZ_0.out HZ_1.out) HZ_2.out) (Nat.le_trans (Nat.le_trans (Nat.le_trans (Nat.le_trans (Nat.le_trans (Nat.le_trans (Nat.le_trans (Nat.le_trans HZ_0.out HZ_1.out) HZ_2.out) HZ_3.out) HZ_4.out) HZ_5.out) HZ_6.out) HZ_7.out) HZ_8.out))
  have HO_w0_10 := Lib.hid (HO_w0_9.out.fr HB_9.out (.inl HZ_2.out))
  go_wp2_with fail
  refine (heldByteS_marks _ A_g0 r0.length c_g0 1 _ HO_g0_10.out.rd (by omega) (by omega) (by omega)).mono ?_
  rintro e W11 ⟨rfl, rfl⟩
  go_wp2_with fail
  refine (toByteS_any a1 l1 c1 y1 _ (HO_aCiphertext_10.out.more (Nat.le_trans (Nat.le_trans (Nat.le_trans (Nat.le_trans (Nat.le_trans (Nat.le_trans (Nat.le_trans (Nat.le_trans (Nat.le_trans HZ_0.out HZ_1.out) HZ_2.out) HZ_3.out) HZ_4.out) HZ_5.out) HZ_6.out) HZ_7.out) HZ_8.out) HZ_9.out)) (by omega)).mono ?_
  rintro e W11 ⟨A__t2, c__t2, rfl, hown, hb⟩
  have HO__t2_11 := Lib.hid hown
  clear hown
  have HB_10 := Lib.hid hb
  clear hb
  have HZ_10 := Lib.hid HB_10.out.size
  have HA_11 := Lib.hid (HA_10.out.trans (HB_10.out.mono (Nat.le_trans (Nat.le_trans (Nat.le_trans (Nat.le_trans (Nat.le_trans (Nat.le_trans (Nat.le_trans (Nat.le_trans (Nat.le_trans HZ_0.out HZ_1.out) HZ_2.out) HZ_3.out) HZ_4.out) HZ_5.out) HZ_6.out) HZ_7.out) HZ_8.out) HZ_9.out)))
  have HO_w0_11 := Lib.hid (HO_w0_10.out.below HB_10.out (Nat.le_trans (Nat.le_trans (Nat.le_trans (Nat.le_trans (Nat.le_trans (Nat.le_trans (Nat.le_trans HZ_2.out HZ_3.out) HZ_4.out) HZ_5.out) HZ_6.out) HZ_7.out) HZ_8.out) HZ_9.out))
  have HO_g0_11 := Lib.hid (HO_g0_10.out.below HB_10.out (Nat.le_trans (Nat.le_trans (Nat.le_trans (Nat.le_trans (Nat.le_trans HZ_4.out HZ_5.out) HZ_6.out) HZ_7.out) HZ_8.out) HZ_9.out))
  go_wp2_with fail
  refine (HI.out A__t2 l1 c__t2 _ (HO__t2_11.out.cap.1) (HO__t2_11.out.rd.more (Nat.le_refl _))).mono ?_
  rintro e W12 ⟨A_h0, c_h0, rfl, ho0, hb⟩
  have HO_h0_12 := Lib.hid ho0
  clear ho0
  have HB_11 := Lib.hid hb
  clear hb
  have HZ_11 := Lib.hid HB_11.out.size
  have HA_12 := Lib.hid (HA_11.out.trans (HB_11.out.mono (Nat.le_trans (Nat.le_trans (Nat.le_trans (Nat.le_trans (Nat.le_trans (Nat.le_trans (Nat.le_trans (Nat.le_trans (Nat.le_trans (Nat.le_trans HZ_0.out HZ_1.out) HZ_2.out) HZ_3.out) HZ_4.out) HZ_5.out) HZ_6.out) HZ_7.out) HZ_8.out) HZ_9.out) HZ_10.out)))
  have HO_w0_12 := Lib.hid (HO_w0_11.out.below HB_11.out (Nat.le_trans (Nat.le_trans (Nat.le_trans (Nat.le_trans (Nat.le_trans (Nat.le_trans (Nat.le_trans (Nat.le_trans HZ_2.out HZ_3.out) HZ_4.out) HZ_5.out) HZ_6.out) HZ_7.out) HZ_8.out) HZ_9.out) HZ_10.out))
  have HO_g0_12 := Lib.hid (HO_g0_11.out.below HB_11.out (Nat.le_trans (Nat.le_trans (Nat.le_trans (Nat.le_trans (Nat.le_trans (Nat.le_trans HZ_4.out HZ_5.out) HZ_6.out) HZ_7.out) HZ_8.out) HZ_9.out) HZ_10.out))
  go_wp2_with fail
  refine (eqByteS_same _ _ A_h0 A_w0 r0.length c_h0 c_w0 r0 _ HO_h0_12.out.rd HO_w0_12.out.rd (by omega)).mono ?_
  rintro e W13 ⟨rfl, hb⟩
  have HB_12 := Lib.hid hb
  clear hb
  have HZ_12 := Lib.hid (HB_12.out.below 0).size
  have HA_13 := Lib.hid (HA_12.out.trans (HB_12.out.below _))
  have HO_g0_13 := Lib.hid (HO_g0_12.out.same HB_12.out)
  go_wp2_with fail
  refine (heldByteS_marks _ A_g0 r0.length c_g0 1 _ HO_g0_13.out.rd (by omega) (by omega) (by omega)).mono ?_
  rintro e W14 ⟨rfl, rfl⟩
  go_wp2
  go_ret
  exact ⟨rfl, HA_13.out⟩
theorem FnExactDeriveFromString_walk (W0 : World) (v0 : Int) (hv0 : (Lit.int .i64 v0).wf = true) (v1 : ByteArray) (hv1 : v1.size ≤ maxLen) :
    Calls Try.prog 11 #[.int .i64 v0, .string v1] W0 fun e w' => e = .returned (.bool true) ∧ Below W0.heap.size W0 w' := by
  have hV0 : -9223372036854775808 ≤ v0 ∧ v0 ≤ 9223372036854775807 := by simpa [Lit.wf, IntKind.min, IntKind.max, IntKind.signed, IntKind.bits] using hv0
  clear hv0
  by_cases hg1 : 1048576 < v1.size
  · have hg : 1048576 < (v1.size : Int) := by omega
    go_enter Try.func11, Try.ntmps11
    go_wp2
    go_ret
    exact ⟨rfl, Below.refl _ _⟩
  obtain ⟨r0, hS, hI⟩ := both_DeriveFromString v0 v1 hV0 (by omega)
  have HS := Lib.hid hS
  have HI := Lib.hid hI
  clear hS hI
  clear hV0
  clear hv1
  have HA_0 := Lib.hid (Below.refl W0.heap.size W0)
  go_enter Try.func11, Try.ntmps11
  go_wp2_with fail
  refine (HS.out  _ ).mono ?_
  rintro e W1 ⟨rfl, hb⟩
  have HB_0 := Lib.hid hb
  clear hb
  have HZ_0 := Lib.hid HB_0.out.size
  have HA_1 := Lib.hid (HA_0.out.trans (HB_0.out.mono (Nat.le_refl _)))
  go_wp2_with fail
  refine (HI.out  _ ).mono ?_
  rintro e W2 ⟨rfl, hb⟩
  have HB_1 := Lib.hid hb
  clear hb
  have HZ_1 := Lib.hid HB_1.out.size
  have HA_2 := Lib.hid (HA_1.out.trans (HB_1.out.mono HZ_0.out))
  go_wp2
  go_ret
  exact ⟨rfl, HA_2.out⟩
theorem FnExactEqualInts_walk (W0 : World) (a0 : Option Addr) (l0 c0 : Nat) (z0 : List Int) (w0 : SL.IsRow .i64 W0 a0 l0 c0 z0) (a1 : Option Addr) (l1 c1 : Nat) (z1 : List Int) (w1 : SL.IsRow .i64 W0 a1 l1 c1 z1) :
    Calls Try.prog 12 #[.slice a0 l0 c0, .slice a1 l1 c1] W0 fun e w' => e = .returned (.bool true) ∧ Below W0.heap.size W0 w' := by
  have hR0 := rd_of_row w0
  have hC0 := row_cap w0
  have hL0 := hR0.len
  generalize z0.take l0 = y0 at hR0 hL0
  clear w0
  have hR1 := rd_of_row w1
  have hC1 := row_cap w1
  have hL1 := hR1.len
  generalize z1.take l1 = y1 at hR1 hL1
  clear w1
  by_cases hg0 : 1048576 < l0
  · have hg : 1048576 < (l0 : Int) := by omega
    clear hR0 hL0 hC0
    clear hR1 hL1 hC1
    go_enter Try.func12, Try.ntmps12
    go_wp2
    go_ret
    exact ⟨rfl, Below.refl _ _⟩
  by_cases hg1 : 1048576 < l1
  · have hg : 1048576 < (l1 : Int) := by omega
    clear hR0 hL0 hC0
    clear hR1 hL1 hC1
    go_enter Try.func12, Try.ntmps12
    go_wp2
    go_ret
    exact ⟨rfl, Below.refl _ _⟩
  obtain ⟨r0, hS, hI⟩ := both_EqualInts y0 y1 (by omega) (by omega)
  have HS := Lib.hid hS
  have HI := Lib.hid hI
  clear hS hI
  have HO_aA_0 := Lib.hid hR0
  have HC0 := Lib.hid hC0
  clear hR0 hC0 hL0
  have HO_aB_0 := Lib.hid hR1
  have HC1 := Lib.hid hC1
  clear hR1 hC1 hL1
  have HA_0 := Lib.hid (Below.refl W0.heap.size W0)
  go_enter Try.func12, Try.ntmps12
  go_wp2_with fail
  refine (toIntS_any a0 l0 c0 y0 _ (HO_aA_0.out.more (Nat.le_refl _)) (by omega)).mono ?_
  rintro e W1 ⟨A__t0, c__t0, rfl, hown, hb⟩
  have HO__t0_1 := Lib.hid hown
  clear hown
  have HB_0 := Lib.hid hb
  clear hb
  have HZ_0 := Lib.hid HB_0.out.size
  have HA_1 := Lib.hid (HA_0.out.trans (HB_0.out.mono (Nat.le_refl _)))
  have HO_aA_1 := Lib.hid (HO_aA_0.out.below HB_0.out (Nat.le_refl _))
  have HO_aB_1 := Lib.hid (HO_aB_0.out.below HB_0.out (Nat.le_refl _))
  go_wp2_with fail
  refine (toIntS_any a1 l1 c1 y1 _ (HO_aB_1.out.more HZ_0.out) (by omega)).mono ?_
  rintro e W2 ⟨A__t1, c__t1, rfl, hown, hb⟩
  have HO__t1_2 := Lib.hid hown
  clear hown
  have HB_1 := Lib.hid hb
  clear hb
  have HZ_1 := Lib.hid HB_1.out.size
  have HA_2 := Lib.hid (HA_1.out.trans (HB_1.out.mono HZ_0.out))
  have HO_aA_2 := Lib.hid (HO_aA_1.out.below HB_1.out HZ_0.out)
  have HO_aB_2 := Lib.hid (HO_aB_1.out.below HB_1.out HZ_0.out)
  have HO__t0_2 := Lib.hid (HO__t0_1.out.below HB_1.out (Nat.le_refl _))
  go_wp2_with fail
  refine (HS.out A__t0 l0 c__t0 A__t1 l1 c__t1 _ (HO__t0_2.out.cap.1) (HO__t0_2.out.rd.more HZ_1.out) (HO__t1_2.out.cap.1) (HO__t1_2.out.rd.more (Nat.le_refl _))).mono ?_
  rintro e W3 ⟨rfl, hb⟩
  have HB_2 := Lib.hid hb
  clear hb
  have HZ_2 := Lib.hid HB_2.out.size
  have HA_3 := Lib.hid (HA_2.out.trans (HB_2.out.mono (Nat.le_trans HZ_0.out HZ_1.out)))
  have HO_aA_3 := Lib.hid (HO_aA_2.out.below HB_2.out (Nat.le_trans HZ_0.out HZ_1.out))
  have HO_aB_3 := Lib.hid (HO_aB_2.out.below HB_2.out (Nat.le_trans HZ_0.out HZ_1.out))
  go_wp2_with fail
  refine (toIntS_any a0 l0 c0 y0 _ (HO_aA_3.out.more (Nat.le_trans (Nat.le_trans HZ_0.out HZ_1.out) HZ_2.out)) (by omega)).mono ?_
  rintro e W4 ⟨A_x0, c_x0, rfl, hown, hb⟩
  have HO_x0_4 := Lib.hid hown
  clear hown
  have HB_3 := Lib.hid hb
  clear hb
  have HZ_3 := Lib.hid HB_3.out.size
  have HA_4 := Lib.hid (HA_3.out.trans (HB_3.out.mono (Nat.le_trans (Nat.le_trans HZ_0.out HZ_1.out) HZ_2.out)))
  have HO_aA_4 := Lib.hid (HO_aA_3.out.below HB_3.out (Nat.le_trans (Nat.le_trans HZ_0.out HZ_1.out) HZ_2.out))
  have HO_aB_4 := Lib.hid (HO_aB_3.out.below HB_3.out (Nat.le_trans (Nat.le_trans HZ_0.out HZ_1.out) HZ_2.out))
  go_wp2_with fail
  refine (toIntS_any a1 l1 c1 y1 _ (HO_aB_4.out.more (Nat.le_trans (Nat.le_trans (Nat.le_trans HZ_0.out HZ_1.out) HZ_2.out) HZ_3.out)) (by omega)).mono ?_
  rintro e W5 ⟨A_x1, c_x1, rfl, hown, hb⟩
  have HO_x1_5 := Lib.hid hown
  clear hown
  have HB_4 := Lib.hid hb
  clear hb
  have HZ_4 := Lib.hid HB_4.out.size
  have HA_5 := Lib.hid (HA_4.out.trans (HB_4.out.mono (Nat.le_trans (Nat.le_trans (Nat.le_trans HZ_0.out HZ_1.out) HZ_2.out) HZ_3.out)))
  have HO_aA_5 := Lib.hid (HO_aA_4.out.below HB_4.out (Nat.le_trans (Nat.le_trans (Nat.le_trans HZ_0.out HZ_1.out) HZ_2.out) HZ_3.out))
  have HO_aB_5 := Lib.hid (HO_aB_4.out.below HB_4.out (Nat.le_trans (Nat.le_trans (Nat.le_trans HZ_0.out HZ_1.out) HZ_2.out) HZ_3.out))
  have HO_x0_5 := Lib.hid (HO_x0_4.out.below HB_4.out (Nat.le_refl _))
  go_wp2_with fail
  refine (HI.out A_x0 l0 c_x0 A_x1 l1 c_x1 _ (HO_x0_5.out.cap.1) (HO_x0_5.out.rd.more HZ_4.out) (HO_x1_5.out.cap.1) (HO_x1_5.out.rd.more (Nat.le_refl _))).mono ?_
  rintro e W6 ⟨rfl, hb⟩
  have HB_5 := Lib.hid hb
  clear hb
  have HZ_5 := Lib.hid HB_5.out.size
  have HA_6 := Lib.hid (HA_5.out.trans (HB_5.out.mono (Nat.le_trans (Nat.le_trans (Nat.le_trans (Nat.le_trans HZ_0.out HZ_1.out) HZ_2.out) HZ_3.out) HZ_4.out)))
  have HO_aA_6 := Lib.hid (HO_aA_5.out.below HB_5.out (Nat.le_trans (Nat.le_trans (Nat.le_trans (Nat.le_trans HZ_0.out HZ_1.out) HZ_2.out) HZ_3.out) HZ_4.out))
  have HO_aB_6 := Lib.hid (HO_aB_5.out.below HB_5.out (Nat.le_trans (Nat.le_trans (Nat.le_trans (Nat.le_trans HZ_0.out HZ_1.out) HZ_2.out) HZ_3.out) HZ_4.out))
  have HO_x0_6 := Lib.hid (HO_x0_5.out.below HB_5.out HZ_4.out)
  have HO_x1_6 := Lib.hid (HO_x1_5.out.below HB_5.out (Nat.le_refl _))
  go_wp2_with fail
  refine (toIntS_any a0 l0 c0 y0 _ (HO_aA_6.out.more (Nat.le_trans (Nat.le_trans (Nat.le_trans (Nat.le_trans (Nat.le_trans HZ_0.out HZ_1.out) HZ_2.out) HZ_3.out) HZ_4.out) HZ_5.out)) (by omega)).mono ?_
  rintro e W7 ⟨A__t2, c__t2, rfl, hown, hb⟩
  have HO__t2_7 := Lib.hid hown
  clear hown
  have HB_6 := Lib.hid hb
  clear hb
  have HZ_6 := Lib.hid HB_6.out.size
  have HA_7 := Lib.hid (HA_6.out.trans (HB_6.out.mono (Nat.le_trans (Nat.le_trans (Nat.le_trans (Nat.le_trans (Nat.le_trans HZ_0.out HZ_1.out) HZ_2.out) HZ_3.out) HZ_4.out) HZ_5.out)))
  have HO_aB_7 := Lib.hid (HO_aB_6.out.below HB_6.out (Nat.le_trans (Nat.le_trans (Nat.le_trans (Nat.le_trans (Nat.le_trans HZ_0.out HZ_1.out) HZ_2.out) HZ_3.out) HZ_4.out) HZ_5.out))
  have HO_x0_7 := Lib.hid (HO_x0_6.out.below HB_6.out (Nat.le_trans HZ_4.out HZ_5.out))
  have HO_x1_7 := Lib.hid (HO_x1_6.out.below HB_6.out HZ_5.out)
  go_wp2_with fail
  refine (eqIntS_same _ _ A_x0 A__t2 l0 c_x0 c__t2 y0 _ HO_x0_7.out.rd HO__t2_7.out.rd (by omega)).mono ?_
  rintro e W8 ⟨rfl, hb⟩
  have HB_7 := Lib.hid hb
  clear hb
  have HZ_7 := Lib.hid (HB_7.out.below 0).size
  have HA_8 := Lib.hid (HA_7.out.trans (HB_7.out.below _))
  have HO_aB_8 := Lib.hid (HO_aB_7.out.same HB_7.out)
  have HO_x1_8 := Lib.hid (HO_x1_7.out.same HB_7.out)
  go_wp2_with fail
  refine (toIntS_any a1 l1 c1 y1 _ (HO_aB_8.out.more (Nat.le_trans (Nat.le_trans (Nat.le_trans (Nat.le_trans (Nat.le_trans (Nat.le_trans (Nat.le_trans HZ_0.out HZ_1.out) HZ_2.out) HZ_3.out) HZ_4.out) HZ_5.out) HZ_6.out) HZ_7.out)) (by omega)).mono ?_
  rintro e W9 ⟨A__t3, c__t3, rfl, hown, hb⟩
  have HO__t3_9 := Lib.hid hown
  clear hown
  have HB_8 := Lib.hid hb
  clear hb
  have HZ_8 := Lib.hid HB_8.out.size
  have HA_9 := Lib.hid (HA_8.out.trans (HB_8.out.mono (Nat.le_trans (Nat.le_trans (Nat.le_trans (Nat.le_trans (Nat.le_trans (Nat.le_trans (Nat.le_trans HZ_0.out HZ_1.out) HZ_2.out) HZ_3.out) HZ_4.out) HZ_5.out) HZ_6.out) HZ_7.out)))
  have HO_x1_9 := Lib.hid (HO_x1_8.out.below HB_8.out (Nat.le_trans (Nat.le_trans HZ_5.out HZ_6.out) HZ_7.out))
  go_wp2_with fail
  refine (eqIntS_same _ _ A_x1 A__t3 l1 c_x1 c__t3 y1 _ HO_x1_9.out.rd HO__t3_9.out.rd (by omega)).mono ?_
  rintro e W10 ⟨rfl, hb⟩
  have HB_9 := Lib.hid hb
  clear hb
  have HZ_9 := Lib.hid (HB_9.out.below 0).size
  have HA_10 := Lib.hid (HA_9.out.trans (HB_9.out.below _))
  go_wp2
  go_ret
  exact ⟨rfl, HA_10.out⟩
end Go.Proofs.Ytkkednffolfpiaa.W03
