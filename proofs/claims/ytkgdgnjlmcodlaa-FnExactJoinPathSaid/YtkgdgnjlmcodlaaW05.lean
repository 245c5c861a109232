/- The walks of the exact laws of chapter 5: each law returns true, and writes into nothing that was there. -/
import Derived.Test.YtkgdgnjlmcodlaaC05U
import Derived.Test.YtkgdgnjlmcodlaaT01
import Derived.Test.YtkgdgnjlmcodlaaT04
import Derived.Test.YtkgdgnjlmcodlaaT05
namespace Go.Proofs.Ytkgdgnjlmcodlaa.W05
open Go.RowKit Mem MemS M04 T01 T04 T05 C05U
set_option linter.unusedVariables false
set_option maxRecDepth 100000
set_option maxHeartbeats 400000
theorem FnExactIsPath_walk (W0 : World) (a0 : Option Addr) (l0 c0 : Nat) (z0 : List ByteArray) (w0 : RowS W0 a0 l0 c0 z0) :
    Calls Try.prog 3 #[.slice a0 l0 c0] W0 fun e w' => e = .returned (.bool true) ∧ Below W0.heap.size W0 w' := by
  have hR0 := rdS_of_row w0
  have hC0 := rowS_cap w0
  have hM0 := rowS_le w0
  have hL0 := hR0.len
  generalize z0.take l0 = y0 at hR0 hL0
  clear w0
  obtain ⟨q0, hq0⟩ : ∃ q, szS 1048576 y0 = q := ⟨_, rfl⟩
  have hQ0 := fun w1 (h : RdS w1 W0.heap.size a0 l0 y0) => szStringS_any _ a0 l0 c0 y0 1048576 w1 h (by omega) (by omega) hM0
  rw [hq0] at hQ0
  have HQ0 := Lib.hid (hQ0 W0 hR0)
  clear hQ0 hM0
  by_cases hn0 : q0 < 0
  · clear hq0 hR0 hL0 hC0
    go_enter Try.func3, Try.ntmps3
    go_wp2_with fail
    refine HQ0.out.mono ?_
    rintro e w1 ⟨rfl, rfl⟩
    go_wp2
    go_ret
    exact ⟨rfl, Below.refl _ _⟩
  have hs0 := szS_le (by omega) (show 0 ≤ szS 1048576 y0 by omega)
  rw [hq0] at hs0
  clear hq0
  have hY0 : y0.length ≤ 1048576 ∧ ∀ s ∈ y0, s.size ≤ 1048576 := ⟨by have := hs0.2.1; omega, fun s hs => by have := hs0.2.2 s hs; omega⟩
  have hl0 : l0 ≤ 1048576 := by have := hY0.1; omega
  have hs0 := hs0.1
  obtain ⟨r0, hS, hI⟩ := both_IsPath y0 hY0
  have HS := Lib.hid hS
  have HI := Lib.hid hI
  clear hS hI
  have HO_aP_0 := Lib.hid hR0
  have HC0 := Lib.hid hC0
  clear hR0 hC0 hL0 hY0
  have HA_0 := Lib.hid (Below.refl W0.heap.size W0)
  go_enter Try.func3, Try.ntmps3
  go_wp2_with fail
  refine HQ0.out.mono ?_
  rintro e w1 ⟨rfl, rfl⟩
  go_wp2_with fail
  refine (toStringS_any a0 l0 c0 y0 _ (HO_aP_0.out.more (Nat.le_refl _)) (by omega)).mono ?_
  rintro e W1 ⟨A__t0, c__t0, rfl, hown, hb⟩
  have HO__t0_1 := Lib.hid hown
  clear hown
  have HB_0 := Lib.hid hb
  clear hb
  have HZ_0 := Lib.hid HB_0.out.size
  have HA_1 := Lib.hid (HA_0.out.trans (HB_0.out.mono (Nat.le_refl _)))
  have HO_aP_1 := Lib.hid (HO_aP_0.out.below HB_0.out (Nat.le_refl _))
  go_wp2_with fail
  refine (HS.out A__t0 l0 c__t0 _ (HO__t0_1.out.cap.1) (HO__t0_1.out.rd.more (Nat.le_refl _))).mono ?_
  rintro e W2 ⟨rfl, hb⟩
  have HB_1 := Lib.hid hb
  clear hb
  have HZ_1 := Lib.hid HB_1.out.size
  have HA_2 := Lib.hid (HA_1.out.trans (HB_1.out.mono HZ_0.out))
  have HO_aP_2 := Lib.hid (HO_aP_1.out.below HB_1.out HZ_0.out)
  go_wp2_with fail
  refine (toStringS_any a0 l0 c0 y0 _ (HO_aP_2.out.more (Nat.le_trans HZ_0.out HZ_1.out)) (by omega)).mono ?_
  rintro e W3 ⟨A_x0, c_x0, rfl, hown, hb⟩
  have HO_x0_3 := Lib.hid hown
  clear hown
  have HB_2 := Lib.hid hb
  clear hb
  have HZ_2 := Lib.hid HB_2.out.size
  have HA_3 := Lib.hid (HA_2.out.trans (HB_2.out.mono (Nat.le_trans HZ_0.out HZ_1.out)))
  have HO_aP_3 := Lib.hid (HO_aP_2.out.below HB_2.out (Nat.le_trans HZ_0.out HZ_1.out))
  go_wp2_with fail
  refine (HI.out A_x0 l0 c_x0 _ (HO_x0_3.out.cap.1) (HO_x0_3.out.rd.more (Nat.le_refl _))).mono ?_
  rintro e W4 ⟨rfl, hb⟩
  have HB_3 := Lib.hid hb
  clear hb
  have HZ_3 := Lib.hid HB_3.out.size
  have HA_4 := Lib.hid (HA_3.out.trans (HB_3.out.mono (Nat.le_trans (Nat.le_trans HZ_0.out HZ_1.out) HZ_2.out)))
  have HO_aP_4 := Lib.hid (HO_aP_3.out.below HB_3.out (Nat.le_trans (Nat.le_trans HZ_0.out HZ_1.out) HZ_2.out))
  have HO_x0_4 := Lib.hid (HO_x0_3.out.below HB_3.out (Nat.le_refl _))
  go_wp2_with fail
  refine (toStringS_any a0 l0 c0 y0 _ (HO_aP_4.out.more (Nat.le_trans (Nat.le_trans (Nat.le_trans HZ_0.out HZ_1.out) HZ_2.out) HZ_3.out)) (by omega)).mono ?_
  rintro e W5 ⟨A__t1, c__t1, rfl, hown, hb⟩
  have HO__t1_5 := Lib.hid hown
  clear hown
  have HB_4 := Lib.hid hb
  clear hb
  have HZ_4 := Lib.hid HB_4.out.size
  have HA_5 := Lib.hid (HA_4.out.trans (HB_4.out.mono (Nat.le_trans (Nat.le_trans (Nat.le_trans HZ_0.out HZ_1.out) HZ_2.out) HZ_3.out)))
  have HO_x0_5 := Lib.hid (HO_x0_4.out.below HB_4.out HZ_3.out)
  go_wp2_with fail
  refine (eqStringS_same _ _ A_x0 A__t1 l0 c_x0 c__t1 y0 _ HO_x0_5.out.rd HO__t1_5.out.rd (by omega)).mono ?_
  rintro e W6 ⟨rfl, hb⟩
  have HB_5 := Lib.hid hb
  clear hb
  have HZ_5 := Lib.hid (HB_5.out.below 0).size
  have HA_6 := Lib.hid (HA_5.out.trans (HB_5.out.below _))
  go_wp2
  go_ret
  exact ⟨rfl, HA_6.out⟩
theorem FnExactFormatPath_walk (W0 : World) (a0 : Option Addr) (l0 c0 : Nat) (z0 : List ByteArray) (w0 : RowS W0 a0 l0 c0 z0) :
    Calls Try.prog 4 #[.slice a0 l0 c0] W0 fun e w' => e = .returned (.bool true) ∧ Below W0.heap.size W0 w' := by
  have hR0 := rdS_of_row w0
  have hC0 := rowS_cap w0
  have hM0 := rowS_le w0
  have hL0 := hR0.len
  generalize z0.take l0 = y0 at hR0 hL0
  clear w0
  obtain ⟨q0, hq0⟩ : ∃ q, szS 1048576 y0 = q := ⟨_, rfl⟩
  have hQ0 := fun w1 (h : RdS w1 W0.heap.size a0 l0 y0) => szStringS_any _ a0 l0 c0 y0 1048576 w1 h (by omega) (by omega) hM0
  rw [hq0] at hQ0
  have HQ0 := Lib.hid (hQ0 W0 hR0)
  clear hQ0 hM0
  by_cases hn0 : q0 < 0
  · clear hq0 hR0 hL0 hC0
    go_enter Try.func4, Try.ntmps4
    go_wp2_with fail
    refine HQ0.out.mono ?_
    rintro e w1 ⟨rfl, rfl⟩
    go_wp2
    go_ret
    exact ⟨rfl, Below.refl _ _⟩
  have hs0 := szS_le (by omega) (show 0 ≤ szS 1048576 y0 by omega)
  rw [hq0] at hs0
  clear hq0
  have hY0 : y0.length ≤ 1048576 ∧ ∀ s ∈ y0, s.size ≤ 1048576 := ⟨by have := hs0.2.1; omega, fun s hs => by have := hs0.2.2 s hs; omega⟩
  have hl0 : l0 ≤ 1048576 := by have := hY0.1; omega
  have hs0 := hs0.1
  obtain ⟨r0, hS, hI⟩ := both_FormatPath y0 hY0
  have HS := Lib.hid hS
  have HI := Lib.hid hI
  clear hS hI
  have HO_aP_0 := Lib.hid hR0
  have HC0 := Lib.hid hC0
  clear hR0 hC0 hL0 hY0
  have HA_0 := Lib.hid (Below.refl W0.heap.size W0)
  go_enter Try.func4, Try.ntmps4
  go_wp2_with fail
  refine HQ0.out.mono ?_
  rintro e w1 ⟨rfl, rfl⟩
  go_wp2_with fail
  refine (toStringS_any a0 l0 c0 y0 _ (HO_aP_0.out.more (Nat.le_refl _)) (by omega)).mono ?_
  rintro e W1 ⟨A__t0, c__t0, rfl, hown, hb⟩
  have HO__t0_1 := Lib.hid hown
  clear hown
  have HB_0 := Lib.hid hb
  clear hb
  have HZ_0 := Lib.hid HB_0.out.size
  have HA_1 := Lib.hid (HA_0.out.trans (HB_0.out.mono (Nat.le_refl _)))
  have HO_aP_1 := Lib.hid (HO_aP_0.out.below HB_0.out (Nat.le_refl _))
  go_wp2_with fail
  refine (HS.out A__t0 l0 c__t0 _ (HO__t0_1.out.cap.1) (HO__t0_1.out.rd.more (Nat.le_refl _))).mono ?_
  rintro e W2 ⟨rfl, hb⟩
  have HB_1 := Lib.hid hb
  clear hb
  have HZ_1 := Lib.hid HB_1.out.size
  have HA_2 := Lib.hid (HA_1.out.trans (HB_1.out.mono HZ_0.out))
  have HO_aP_2 := Lib.hid (HO_aP_1.out.below HB_1.out HZ_0.out)
  go_wp2_with fail
  refine (toStringS_any a0 l0 c0 y0 _ (HO_aP_2.out.more (Nat.le_trans HZ_0.out HZ_1.out)) (by omega)).mono ?_
  rintro e W3 ⟨A_x0, c_x0, rfl, hown, hb⟩
  have HO_x0_3 := Lib.hid hown
  clear hown
  have HB_2 := Lib.hid hb
  clear hb
  have HZ_2 := Lib.hid HB_2.out.size
  have HA_3 := Lib.hid (HA_2.out.trans (HB_2.out.mono (Nat.le_trans HZ_0.out HZ_1.out)))
  have HO_aP_3 := Lib.hid (HO_aP_2.out.below HB_2.out (Nat.le_trans HZ_0.out HZ_1.out))
  go_wp2_with fail
  refine (HI.out A_x0 l0 c_x0 _ (HO_x0_3.out.cap.1) (HO_x0_3.out.rd.more (Nat.le_refl _))).mono ?_
  rintro e W4 ⟨rfl, hb⟩
  have HB_3 := Lib.hid hb
  clear hb
  have HZ_3 := Lib.hid HB_3.out.size
  have HA_4 := Lib.hid (HA_3.out.trans (HB_3.out.mono (Nat.le_trans (Nat.le_trans HZ_0.out HZ_1.out) HZ_2.out)))
  have HO_aP_4 := Lib.hid (HO_aP_3.out.below HB_3.out (Nat.le_trans (Nat.le_trans HZ_0.out HZ_1.out) HZ_2.out))
  have HO_x0_4 := Lib.hid (HO_x0_3.out.below HB_3.out (Nat.le_refl _))
  go_wp2_with fail
  refine (toStringS_any a0 l0 c0 y0 _ (HO_aP_4.out.more (Nat.le_trans (Nat.le_trans (Nat.le_trans HZ_0.out HZ_1.out) HZ_2.out) HZ_3.out)) (by omega)).mono ?_
  rintro e W5 ⟨A__t1, c__t1, rfl, hown, hb⟩
  have HO__t1_5 := Lib.hid hown
  clear hown
  have HB_4 := Lib.hid hb
  clear hb
  have HZ_4 := Lib.hid HB_4.out.size
  have HA_5 := Lib.hid (HA_4.out.trans (HB_4.out.mono (Nat.le_trans (Nat.le_trans (Nat.le_trans HZ_0.out HZ_1.out) HZ_2.out) HZ_3.out)))
  have HO_x0_5 := Lib.hid (HO_x0_4.out.below HB_4.out HZ_3.out)
  go_wp2_with fail
  refine (eqStringS_same _ _ A_x0 A__t1 l0 c_x0 c__t1 y0 _ HO_x0_5.out.rd HO__t1_5.out.rd (by omega)).mono ?_
  rintro e W6 ⟨rfl, hb⟩
  have HB_5 := Lib.hid hb
  clear hb
  have HZ_5 := Lib.hid (HB_5.out.below 0).size
  have HA_6 := Lib.hid (HA_5.out.trans (HB_5.out.below _))
  go_wp2
  go_ret
  exact ⟨rfl, HA_6.out⟩
theorem FnExactParentOf_walk (W0 : World) (a0 : Option Addr) (l0 c0 : Nat) (z0 : List ByteArray) (w0 : RowS W0 a0 l0 c0 z0) :
    Calls Try.prog 5 #[.slice a0 l0 c0] W0 fun e w' => e = .returned (.bool true) ∧ Below W0.heap.size W0 w' := by
  have hR0 := rdS_of_row w0
  have hC0 := rowS_cap w0
  have hM0 := rowS_le w0
  have hL0 := hR0.len
  generalize z0.take l0 = y0 at hR0 hL0
  clear w0
  obtain ⟨q0, hq0⟩ : ∃ q, szS 1048576 y0 = q := ⟨_, rfl⟩
  have hQ0 := fun w1 (h : RdS w1 W0.heap.size a0 l0 y0) => szStringS_any _ a0 l0 c0 y0 1048576 w1 h (by omega) (by omega) hM0
  rw [hq0] at hQ0
  have HQ0 := Lib.hid (hQ0 W0 hR0)
  clear hQ0 hM0
  by_cases hn0 : q0 < 0
  · clear hq0 hR0 hL0 hC0
    go_enter Try.func5, Try.ntmps5
    go_wp2_with fail
    refine HQ0.out.mono ?_
    rintro e w1 ⟨rfl, rfl⟩
    go_wp2
    go_ret
    exact ⟨rfl, Below.refl _ _⟩
  have hs0 := szS_le (by omega) (show 0 ≤ szS 1048576 y0 by omega)
  rw [hq0] at hs0
  clear hq0
  have hY0 : y0.length ≤ 1048576 ∧ ∀ s ∈ y0, s.size ≤ 1048576 := ⟨by have := hs0.2.1; omega, fun s hs => by have := hs0.2.2 s hs; omega⟩
  have hl0 : l0 ≤ 1048576 := by have := hY0.1; omega
  have hs0 := hs0.1
  obtain ⟨r0, r1, hlen0, hS, hI⟩ := both_ParentOf y0 hY0
  have HS := Lib.hid hS
  have HI := Lib.hid hI
  clear hS hI
  have HO_aP_0 := Lib.hid hR0
  have HC0 := Lib.hid hC0
  clear hR0 hC0 hL0 hY0
  have HA_0 := Lib.hid (Below.refl W0.heap.size W0)
  go_enter Try.func5, Try.ntmps5
  go_wp2_with fail
  refine HQ0.out.mono ?_
  rintro e w1 ⟨rfl, rfl⟩
  go_wp2_with fail
  refine (toStringS_any a0 l0 c0 y0 _ (HO_aP_0.out.more (Nat.le_refl _)) (by omega)).mono ?_
  rintro e W1 ⟨A__t0, c__t0, rfl, hown, hb⟩
  have HO__t0_1 := Lib.hid hown
  clear hown
  have HB_0 := Lib.hid hb
  clear hb
  have HZ_0 := Lib.hid HB_0.out.size
  have HA_1 := Lib.hid (HA_0.out.trans (HB_0.out.mono (Nat.le_refl _)))
  have HO_aP_1 := Lib.hid (HO_aP_0.out.below HB_0.out (Nat.le_refl _))
  go_wp2_with fail
  refine (HS.out A__t0 l0 c__t0 _ (HO__t0_1.out.cap.1) (HO__t0_1.out.rd.more (Nat.le_refl _))).mono ?_
  rintro e W2 ⟨A_w0, c_w0, rfl, ho0, hb⟩
  have HO_w0_2 := Lib.hid ho0
  clear ho0
  have HB_1 := Lib.hid hb
  clear hb
  have HZ_1 := Lib.hid HB_1.out.size
  have HA_2 := Lib.hid (HA_1.out.trans (HB_1.out.mono HZ_0.out))
  have HO_aP_2 := Lib.hid (HO_aP_1.out.below HB_1.out HZ_0.out)
  go_wp2_with fail
  refine (toStringS_any a0 l0 c0 y0 _ (HO_aP_2.out.more (Nat.le_trans HZ_0.out HZ_1.out)) (by omega)).mono ?_
  rintro e W3 ⟨A_x0, c_x0, rfl, hown, hb⟩
  have HO_x0_3 := Lib.hid hown
  clear hown
  have HB_2 := Lib.hid hb
  clear hb
  have HZ_2 := Lib.hid HB_2.out.size
  have HA_3 := Lib.hid (HA_2.out.trans (HB_2.out.mono (Nat.le_trans HZ_0.out HZ_1.out)))
  have HO_aP_3 := Lib.hid (HO_aP_2.out.below HB_2.out (Nat.le_trans HZ_0.out HZ_1.out))
  have HO_w0_3 := Lib.hid (HO_w0_2.out.below HB_2.out (Nat.le_refl _))
  go_wp2_with fail
  refine (HI.out A_x0 l0 c_x0 _ (HO_x0_3.out.cap.1) (HO_x0_3.out.rd.more (Nat.le_refl _))).mono ?_
  rintro e W4 ⟨A_g0, c_g0, rfl, ho0, hb⟩
  have HO_g0_4 := Lib.hid ho0
  clear ho0
  have HB_3 := Lib.hid hb
  clear hb
  have HZ_3 := Lib.hid HB_3.out.size
  have HA_4 := Lib.hid (HA_3.out.trans (HB_3.out.mono (Nat.le_trans (Nat.le_trans HZ_0.out HZ_1.out) HZ_2.out)))
  have HO_aP_4 := Lib.hid (HO_aP_3.out.below HB_3.out (Nat.le_trans (Nat.le_trans HZ_0.out HZ_1.out) HZ_2.out))
  have HO_w0_4 := Lib.hid (HO_w0_3.out.below HB_3.out HZ_2.out)
  have HO_x0_4 := Lib.hid (HO_x0_3.out.below HB_3.out (Nat.le_refl _))
  go_wp2_with fail
  refine (eqStringS_same _ _ A_g0 A_w0 r0.length c_g0 c_w0 r0 _ HO_g0_4.out.rd HO_w0_4.out.rd (by omega)).mono ?_
  rintro e W5 ⟨rfl, hb⟩
  have HB_4 := Lib.hid hb
  clear hb
  have HZ_4 := Lib.hid (HB_4.out.below 0).size
  have HA_5 := Lib.hid (HA_4.out.trans (HB_4.out.below _))
  have HO_aP_5 := Lib.hid (HO_aP_4.out.same HB_4.out)
  have HO_w0_5 := Lib.hid (HO_w0_4.out.same HB_4.out)
  have HO_x0_5 := Lib.hid (HO_x0_4.out.same HB_4.out)
  have HO_g0_5 := Lib.hid (HO_g0_4.out.same HB_4.out)
  go_wp2_with fail
  refine (toStringS_any a0 l0 c0 y0 _ (HO_aP_5.out.more (Nat.le_trans (Nat.le_trans (Nat.le_trans (Nat.le_trans HZ_0.out HZ_1.out) HZ_2.out) HZ_3.out) HZ_4.out)) (by omega)).mono ?_
  rintro e W6 ⟨A__t1, c__t1, rfl, hown, hb⟩
  have HO__t1_6 := Lib.hid hown
  clear hown
  have HB_5 := Lib.hid hb
  clear hb
  have HZ_5 := Lib.hid HB_5.out.size
  have HA_6 := Lib.hid (HA_5.out.trans (HB_5.out.mono (Nat.le_trans (Nat.le_trans (Nat.le_trans (Nat.le_trans HZ_0.out HZ_1.out) HZ_2.out) HZ_3.out) HZ_4.out)))
  have HO_aP_6 := Lib.hid (HO_aP_5.out.below HB_5.out (Nat.le_trans (Nat.le_trans (Nat.le_trans (Nat.le_trans HZ_0.out HZ_1.out) HZ_2.out) HZ_3.out) HZ_4.out))
  have HO_w0_6 := Lib.hid (HO_w0_5.out.below HB_5.out (Nat.le_trans (Nat.le_trans HZ_2.out HZ_3.out) HZ_4.out))
  have HO_x0_6 := Lib.hid (HO_x0_5.out.below HB_5.out (Nat.le_trans HZ_3.out HZ_4.out))
  have HO_g0_6 := Lib.hid (HO_g0_5.out.below HB_5.out HZ_4.out)
  go_wp2_with fail
  refine (eqStringS_same _ _ A_x0 A__t1 l0 c_x0 c__t1 y0 _ HO_x0_6.out.rd HO__t1_6.out.rd (by omega)).mono ?_
  rintro e W7 ⟨rfl, hb⟩
  have HB_6 := Lib.hid hb
  clear hb
  have HZ_6 := Lib.hid (HB_6.out.below 0).size
  have HA_7 := Lib.hid (HA_6.out.trans (HB_6.out.below _))
  have HO_aP_7 := Lib.hid (HO_aP_6.out.same HB_6.out)
  have HO_w0_7 := Lib.hid (HO_w0_6.out.same HB_6.out)
  have HO_x0_7 := Lib.hid (HO_x0_6.out.same HB_6.out)
  have HO_g0_7 := Lib.hid (HO_g0_6.out.same HB_6.out)
  go_wp2_with fail
  refine (markStringS_any _ _ A_x0 l0 c_x0 y0 1 _ HO_x0_7.out (by omega) (by omega) (by omega)).mono ?_
  rintro e W8 ⟨rfl, hown, hb⟩
  have HO_x0_8 := Lib.hid hown
  clear hown
  have HB_7 := Lib.hid hb
  clear hb
  have HZ_7 := Lib.hid HB_7.out.size
  have HA_8 := Lib.hid (HA_7.out.trans (HB_7.out.below (Nat.le_trans HZ_0.out HZ_1.out) (Nat.le_trans (Nat.le_trans (Nat.le_trans (Nat.le_trans (Nat.le_trans (Nat.le_trans HZ_0.out HZ_1.out) HZ_2.out) HZ_3.out) HZ_4.out) HZ_5.out) HZ_6.out)))
  have HO_aP_8 := Lib.hid (HO_aP_7.out.fr HB_7.out (Nat.le_trans HZ_0.out HZ_1.out) (Nat.le_trans (Nat.le_trans (Nat.le_trans (Nat.le_trans (Nat.le_trans (Nat.le_trans HZ_0.out HZ_1.out) HZ_2.out) HZ_3.out) HZ_4.out) HZ_5.out) HZ_6.out))
  have HO_w0_8 := Lib.hid (HO_w0_7.out.fr HB_7.out (.inl (Nat.le_refl _)))
  have HO_g0_8 := Lib.hid (HO_g0_7.out.fr HB_7.out (.inr (Nat.le_refl _)))
  go_wp2_with fail
  refine (eqStringS_same _ _ A_g0 A_w0 r0.length c_g0 c_w0 r0 _ HO_g0_8.out.rd HO_w0_8.out.rd (by omega)).mono ?_
  rintro e W9 ⟨rfl, hb⟩
  have HB_8 := Lib.hid hb
  clear hb
  have HZ_8 := Lib.hid (HB_8.out.below 0).size
  have HA_9 := Lib.hid (HA_8.out.trans (HB_8.out.below _))
  have HO_aP_9 := Lib.hid (HO_aP_8.out.same HB_8.out)
  have HO_w0_9 := Lib.hid (HO_w0_8.out.same HB_8.out)
  have HO_g0_9 := Lib.hid (HO_g0_8.out.same HB_8.out)
  go_wp2_with fail
  refine (markStringS_any _ _ A_g0 r0.length c_g0 r0 1 _ HO_g0_9.out (by omega) (by omega) (by omega)).mono ?_
  rintro e W10 ⟨rfl, hown, hb⟩
  have HO_g0_10 := Lib.hid hown
  clear hown
  have HB_9 := Lib.hid hb
  clear hb
  have HZ_9 := Lib.hid HB_9.out.size
  have HA_10 := Lib.hid (HA_9.out.trans (HB_9.out.below (Nat.le_trans (Nat.le_trans HZ_0.out HZ_1.out) HZ_2.out) (Nat.le_trans (Nat.le_trans (Nat.le_trans (Nat.le_trans (Nat.le_trans (Nat.le_trans (Nat.le_trans (Nat.le_trans HZ_0.out HZ_1.out) HZ_2.out) HZ_3.out) HZ_4.out) HZ_5.out) HZ_6.out) HZ_7.out) HZ_8.out)))
  have HO_aP_10 := Lib.hid (HO_aP_9.out.fr HB_9.out (Nat.le_trans (Nat.le_trans HZ_0.out HZ_1.out) HZ_2.out) (Nat.le_trans (Nat.le_trans (Nat.le_trans (Nat.le_trans (Nat.le_trans (Nat.le_trans (Nat.le_trans (Nat.le_trans HZ_0.out HZ_1.out) HZ_2.out) HZ_3.out) HZ_4.out) HZ_5.out) HZ_6.out) HZ_7.out) HZ_8.out))
  have HO_w0_10 := Lib.hid (HO_w0_9.out.fr HB_9.out (.inl HZ_2.out))
  go_wp2_with fail
  refine (heldStringS_marks _ A_g0 r0.length c_g0 1 _ (HO_g0_10.out.rd.more (Nat.le_trans (Nat.le_trans (Nat.le_trans (Nat.le_trans (Nat.le_trans HZ_4.out HZ_5.out) HZ_6.out) HZ_7.out) HZ_8.out) HZ_9.out)) (Nat.le_refl _) (by omega) (by omega) (by omega)).mono ?_
  rintro e W11 ⟨rfl, hb⟩
  have HB_10 := Lib.hid hb
  clear hb
  have HZ_10 := Lib.hid HB_10.out.size
  have HA_11 := Lib.hid (HA_10.out.trans (HB_10.out.mono (Nat.le_trans (Nat.le_trans (Nat.le_trans (Nat.le_trans (Nat.le_trans (Nat.le_trans (Nat.le_trans (Nat.le_trans (Nat.le_trans HZ_0.out HZ_1.out) HZ_2.out) HZ_3.out) HZ_4.out) HZ_5.out) HZ_6.out) HZ_7.out) HZ_8.out) HZ_9.out)))
  have HO_aP_11 := Lib.hid (HO_aP_10.out.below HB_10.out (Nat.le_trans (Nat.le_trans (Nat.le_trans (Nat.le_trans (Nat.le_trans (Nat.le_trans (Nat.le_trans (Nat.le_trans (Nat.le_trans HZ_0.out HZ_1.out) HZ_2.out) HZ_3.out) HZ_4.out) HZ_5.out) HZ_6.out) HZ_7.out) HZ_8.out) HZ_9.out))
  have HO_w0_11 := Lib.hid (HO_w0_10.out.below HB_10.out (Nat.le_trans (Nat.le_trans (Nat.le_trans (Nat.le_trans (Nat.le_trans (Nat.le_trans (Nat.le_trans HZ_2.out HZ_3.out) HZ_4.out) HZ_5.out) HZ_6.out) HZ_7.out) HZ_8.out) HZ_9.out))
  have HO_g0_11 := Lib.hid (HO_g0_10.out.below HB_10.out (Nat.le_trans (Nat.le_trans (Nat.le_trans (Nat.le_trans (Nat.le_trans HZ_4.out HZ_5.out) HZ_6.out) HZ_7.out) HZ_8.out) HZ_9.out))
  go_wp2_with fail
  refine (toStringS_any a0 l0 c0 y0 _ (HO_aP_11.out.more (Nat.le_trans (Nat.le_trans (Nat.le_trans (Nat.le_trans (Nat.le_trans (Nat.le_trans (Nat.le_trans (Nat.le_trans (Nat.le_trans (Nat.le_trans HZ_0.out HZ_1.out) HZ_2.out) HZ_3.out) HZ_4.out) HZ_5.out) HZ_6.out) HZ_7.out) HZ_8.out) HZ_9.out) HZ_10.out)) (by omega)).mono ?_
  rintro e W12 ⟨A__t2, c__t2, rfl, hown, hb⟩
  have HO__t2_12 := Lib.hid hown
  clear hown
  have HB_11 := Lib.hid hb
  clear hb
  have HZ_11 := Lib.hid HB_11.out.size
  have HA_12 := Lib.hid (HA_11.out.trans (HB_11.out.mono (Nat.le_trans (Nat.le_trans (Nat.le_trans (Nat.le_trans (Nat.le_trans (Nat.le_trans (Nat.le_trans (Nat.le_trans (Nat.le_trans (Nat.le_trans HZ_0.out HZ_1.out) HZ_2.out) HZ_3.out) HZ_4.out) HZ_5.out) HZ_6.out) HZ_7.out) HZ_8.out) HZ_9.out) HZ_10.out)))
  have HO_w0_12 := Lib.hid (HO_w0_11.out.below HB_11.out (Nat.le_trans (Nat.le_trans (Nat.le_trans (Nat.le_trans (Nat.le_trans (Nat.le_trans (Nat.le_trans (Nat.le_trans HZ_2.out HZ_3.out) HZ_4.out) HZ_5.out) HZ_6.out) HZ_7.out) HZ_8.out) HZ_9.out) HZ_10.out))
  have HO_g0_12 := Lib.hid (HO_g0_11.out.below HB_11.out (Nat.le_trans (Nat.le_trans (Nat.le_trans (Nat.le_trans (Nat.le_trans (Nat.le_trans HZ_4.out HZ_5.out) HZ_6.out) HZ_7.out) HZ_8.out) HZ_9.out) HZ_10.out))
  go_wp2_with fail
  refine (HI.out A__t2 l0 c__t2 _ (HO__t2_12.out.cap.1) (HO__t2_12.out.rd.more (Nat.le_refl _))).mono ?_
  rintro e W13 ⟨A_h0, c_h0, rfl, ho0, hb⟩
  have HO_h0_13 := Lib.hid ho0
  clear ho0
  have HB_12 := Lib.hid hb
  clear hb
  have HZ_12 := Lib.hid HB_12.out.size
  have HA_13 := Lib.hid (HA_12.out.trans (HB_12.out.mono (Nat.le_trans (Nat.le_trans (Nat.le_trans (Nat.le_trans (Nat.le_trans (Nat.le_trans (Nat.le_trans (Nat.le_trans (Nat.le_trans (Nat.le_trans (Nat.le_trans HZ_0.out HZ_1.out) HZ_2.out) HZ_3.out) HZ_4.out) HZ_5.out) HZ_6.out) HZ_7.out) HZ_8.out) HZ_9.out) HZ_10.out) HZ_11.out)))
  have HO_w0_13 := Lib.hid (HO_w0_12.out.below HB_12.out (Nat.le_trans (Nat.le_trans (Nat.le_trans (Nat.le_trans (Nat.le_trans (Nat.le_trans (Nat.le_trans (Nat.le_trans (Nat.le_trans HZ_2.out HZ_3.out) HZ_4.out) HZ_5.out) HZ_6.out) HZ_7.out) HZ_8.out) HZ_9.out) HZ_10.out) HZ_11.out))
  have HO_g0_13 := Lib.hid (HO_g0_12.out.below HB_12.out (Nat.le_trans (Nat.le_trans (Nat.le_trans (Nat.le_trans (Nat.le_trans (Nat.le_trans (Nat.le_trans HZ_4.out HZ_5.out) HZ_6.out) HZ_7.out) HZ_8.out) HZ_9.out) HZ_10.out) HZ_11.out))
  go_wp2_with fail
  refine (eqStringS_same _ _ A_h0 A_w0 r0.length c_h0 c_w0 r0 _ HO_h0_13.out.rd HO_w0_13.out.rd (by omega)).mono ?_
  rintro e W14 ⟨rfl, hb⟩
  have HB_13 := Lib.hid hb
  clear hb
  have HZ_13 := Lib.hid (HB_13.out.below 0).size
  have HA_14 := Lib.hid (HA_13.out.trans (HB_13.out.below _))
  have HO_g0_14 := Lib.hid (HO_g0_13.out.same HB_13.out)
  go_wp2_with fail
  refine (heldStringS_marks _ A_g0 r0.length c_g0 1 _ (HO_g0_14.out.rd.more (Nat.le_trans (Nat.le_trans (Nat.le_trans (Nat.le_trans (Nat.le_trans (Nat.le_trans (Nat.le_trans (Nat.le_trans (Nat.le_trans HZ_4.out HZ_5.out) HZ_6.out) HZ_7.out) HZ_8.out) HZ_9.out) HZ_10.out) HZ_11.out) HZ_12.out) HZ_13.out)) (Nat.le_refl _) (by omega) (by omega) (by omega)).mono ?_
  rintro e W15 ⟨rfl, hb⟩
  have HB_14 := Lib.hid hb
  clear hb
  have HZ_14 := Lib.hid HB_14.out.size
  have HA_15 := Lib.hid (HA_14.out.trans (HB_14.out.mono (Nat.le_trans (Nat.le_trans (Nat.le_trans (Nat.le_trans (Nat.le_trans (Nat.le_trans (Nat.le_trans (Nat.le_trans (Nat.le_trans (Nat.le_trans (Nat.le_trans (Nat.le_trans (Nat.le_trans HZ_0.out HZ_1.out) HZ_2.out) HZ_3.out) HZ_4.out) HZ_5.out) HZ_6.out) HZ_7.out) HZ_8.out) HZ_9.out) HZ_10.out) HZ_11.out) HZ_12.out) HZ_13.out)))
  go_wp2
  go_ret
  exact ⟨rfl, HA_15.out⟩
theorem FnExactJoinPath_walk (W0 : World) (a0 : Option Addr) (l0 c0 : Nat) (z0 : List ByteArray) (w0 : RowS W0 a0 l0 c0 z0) (v1 : ByteArray) (hv1 : v1.size ≤ maxLen) :
    Calls Try.prog 6 #[.slice a0 l0 c0, .string v1] W0 fun e w' => e = .returned (.bool true) ∧ Below W0.heap.size W0 w' := by
  have hR0 := rdS_of_row w0
  have hC0 := rowS_cap w0
  have hM0 := rowS_le w0
  have hL0 := hR0.len
  generalize z0.take l0 = y0 at hR0 hL0
  clear w0
  by_cases hg1 : 1048576 < v1.size
  · have hg : 1048576 < (v1.size : Int) := by omega
    clear hR0 hL0 hC0
    go_enter Try.func6, Try.ntmps6
    go_wp2
    go_ret
    exact ⟨rfl, Below.refl _ _⟩
  obtain ⟨q0, hq0⟩ : ∃ q, szS 1048576 y0 = q := ⟨_, rfl⟩
  have hQ0 := fun w1 (h : RdS w1 W0.heap.size a0 l0 y0) => szStringS_any _ a0 l0 c0 y0 1048576 w1 h (by omega) (by omega) hM0
  rw [hq0] at hQ0
  have HQ0 := Lib.hid (hQ0 W0 hR0)
  clear hQ0 hM0
  by_cases hn0 : q0 < 0
  · clear hq0 hR0 hL0 hC0
    go_enter Try.func6, Try.ntmps6
    go_wp2_with fail
    refine HQ0.out.mono ?_
    rintro e w1 ⟨rfl, rfl⟩
    go_wp2
    go_ret
    exact ⟨rfl, Below.refl _ _⟩
  have hs0 := szS_le (by omega) (show 0 ≤ szS 1048576 y0 by omega)
  rw [hq0] at hs0
  clear hq0
  have hY0 : y0.length ≤ 1048576 ∧ ∀ s ∈ y0, s.size ≤ 1048576 := ⟨by have := hs0.2.1; omega, fun s hs => by have := hs0.2.2 s hs; omega⟩
  have hl0 : l0 ≤ 1048576 := by have := hY0.1; omega
  have hs0 := hs0.1
  obtain ⟨r0, r1, hlen0, hS, hI⟩ := both_JoinPath y0 v1 hY0 (by omega)
  have HS := Lib.hid hS
  have HI := Lib.hid hI
  clear hS hI
  have HO_aP_0 := Lib.hid hR0
  have HC0 := Lib.hid hC0
  clear hR0 hC0 hL0 hY0
  clear hv1
  have HA_0 := Lib.hid (Below.refl W0.heap.size W0)
  go_enter Try.func6, Try.ntmps6
  go_wp2_with fail
  refine HQ0.out.mono ?_
  rintro e w1 ⟨rfl, rfl⟩
  go_wp2_with fail
  refine (toStringS_any a0 l0 c0 y0 _ (HO_aP_0.out.more (Nat.le_refl _)) (by omega)).mono ?_
  rintro e W1 ⟨A__t0, c__t0, rfl, hown, hb⟩
  have HO__t0_1 := Lib.hid hown
  clear hown
  have HB_0 := Lib.hid hb
  clear hb
  have HZ_0 := Lib.hid HB_0.out.size
  have HA_1 := Lib.hid (HA_0.out.trans (HB_0.out.mono (Nat.le_refl _)))
  have HO_aP_1 := Lib.hid (HO_aP_0.out.below HB_0.out (Nat.le_refl _))
  go_wp2_with fail
  refine (HS.out A__t0 l0 c__t0 _ (HO__t0_1.out.cap.1) (HO__t0_1.out.rd.more (Nat.le_refl _))).mono ?_
  rintro e W2 ⟨A_w0, c_w0, rfl, ho0, hb⟩
  have HO_w0_2 := Lib.hid ho0
  clear ho0
  have HB_1 := Lib.hid hb
  clear hb
  have HZ_1 := Lib.hid HB_1.out.size
  have HA_2 := Lib.hid (HA_1.out.trans (HB_1.out.mono HZ_0.out))
  have HO_aP_2 := Lib.hid (HO_aP_1.out.below HB_1.out HZ_0.out)
  go_wp2_with fail
  refine (toStringS_any a0 l0 c0 y0 _ (HO_aP_2.out.more (Nat.le_trans HZ_0.out HZ_1.out)) (by omega)).mono ?_
  rintro e W3 ⟨A_x0, c_x0, rfl, hown, hb⟩
  have HO_x0_3 := Lib.hid hown
  clear hown
  have HB_2 := Lib.hid hb
  clear hb
  have HZ_2 := Lib.hid HB_2.out.size
  have HA_3 := Lib.hid (HA_2.out.trans (HB_2.out.mono (Nat.le_trans HZ_0.out HZ_1.out)))
  have HO_aP_3 := Lib.hid (HO_aP_2.out.below HB_2.out (Nat.le_trans HZ_0.out HZ_1.out))
  have HO_w0_3 := Lib.hid (HO_w0_2.out.below HB_2.out (Nat.le_refl _))
  go_wp2_with fail
  refine (HI.out A_x0 l0 c_x0 _ (HO_x0_3.out.cap.1) (HO_x0_3.out.rd.more (Nat.le_refl _))).mono ?_
  rintro e W4 ⟨A_g0, c_g0, rfl, ho0, hb⟩
  have HO_g0_4 := Lib.hid ho0
  clear ho0
  have HB_3 := Lib.hid hb
  clear hb
  have HZ_3 := Lib.hid HB_3.out.size
  have HA_4 := Lib.hid (HA_3.out.trans (HB_3.out.mono (Nat.le_trans (Nat.le_trans HZ_0.out HZ_1.out) HZ_2.out)))
  have HO_aP_4 := Lib.hid (HO_aP_3.out.below HB_3.out (Nat.le_trans (Nat.le_trans HZ_0.out HZ_1.out) HZ_2.out))
  have HO_w0_4 := Lib.hid (HO_w0_3.out.below HB_3.out HZ_2.out)
  have HO_x0_4 := Lib.hid (HO_x0_3.out.below HB_3.out (Nat.le_refl _))
  go_wp2_with fail
  refine (eqStringS_same _ _ A_g0 A_w0 r0.length c_g0 c_w0 r0 _ HO_g0_4.out.rd HO_w0_4.out.rd (by omega)).mono ?_
  rintro e W5 ⟨rfl, hb⟩
  have HB_4 := Lib.hid hb
  clear hb
  have HZ_4 := Lib.hid (HB_4.out.below 0).size
  have HA_5 := Lib.hid (HA_4.out.trans (HB_4.out.below _))
  have HO_aP_5 := Lib.hid (HO_aP_4.out.same HB_4.out)
  have HO_w0_5 := Lib.hid (HO_w0_4.out.same HB_4.out)
  have HO_x0_5 := Lib.hid (HO_x0_4.out.same HB_4.out)
  have HO_g0_5 := Lib.hid (HO_g0_4.out.same HB_4.out)
  go_wp2_with fail
  refine (toStringS_any a0 l0 c0 y0 _ (HO_aP_5.out.more (Nat.le_trans (Nat.le_trans (Nat.le_trans (Nat.le_trans HZ_0.out HZ_1.out) HZ_2.out) HZ_3.out) HZ_4.out)) (by omega)).mono ?_
  rintro e W6 ⟨A__t1, c__t1, rfl, hown, hb⟩
  have HO__t1_6 := Lib.hid hown
  clear hown
  have HB_5 := Lib.hid hb
  clear hb
  have HZ_5 := Lib.hid HB_5.out.size
  have HA_6 := Lib.hid (HA_5.out.trans (HB_5.out.mono (Nat.le_trans (Nat.le_trans (Nat.le_trans (Nat.le_trans HZ_0.out HZ_1.out) HZ_2.out) HZ_3.out) HZ_4.out)))
  have HO_aP_6 := Lib.hid (HO_aP_5.out.below HB_5.out (Nat.le_trans (Nat.le_trans (Nat.le_trans (Nat.le_trans HZ_0.out HZ_1.out) HZ_2.out) HZ_3.out) HZ_4.out))
  have HO_w0_6 := Lib.hid (HO_w0_5.out.below HB_5.out (Nat.le_trans (Nat.le_trans HZ_2.out HZ_3.out) HZ_4.out))
  have HO_x0_6 := Lib.hid (HO_x0_5.out.below HB_5.out (Nat.le_trans HZ_3.out HZ_4.out))
  have HO_g0_6 := Lib.hid (HO_g0_5.out.below HB_5.out HZ_4.out)
  go_wp2_with fail
  refine (eqStringS_same _ _ A_x0 A__t1 l0 c_x0 c__t1 y0 _ HO_x0_6.out.rd HO__t1_6.out.rd (by omega)).mono ?_
  rintro e W7 ⟨rfl, hb⟩
  have HB_6 := Lib.hid hb
  clear hb
  have HZ_6 := Lib.hid (HB_6.out.below 0).size
  have HA_7 := Lib.hid (HA_6.out.trans (HB_6.out.below _))
  have HO_aP_7 := Lib.hid (HO_aP_6.out.same HB_6.out)
  have HO_w0_7 := Lib.hid (HO_w0_6.out.same HB_6.out)
  have HO_x0_7 := Lib.hid (HO_x0_6.out.same HB_6.out)
  have HO_g0_7 := Lib.hid (HO_g0_6.out.same HB_6.out)
  go_wp2_with fail
  refine (markStringS_any _ _ A_x0 l0 c_x0 y0 1 _ HO_x0_7.out (by omega) (by omega) (by omega)).mono ?_
  rintro e W8 ⟨rfl, hown, hb⟩
  have HO_x0_8 := Lib.hid hown
  clear hown
  have HB_7 := Lib.hid hb
  clear hb
  have HZ_7 := Lib.hid HB_7.out.size
  have HA_8 := Lib.hid (HA_7.out.trans (HB_7.out.below (Nat.le_trans HZ_0.out HZ_1.out) (Nat.le_trans (Nat.le_trans (Nat.le_trans (Nat.le_trans (Nat.le_trans (Nat.le_trans HZ_0.out HZ_1.out) HZ_2.out) HZ_3.out) HZ_4.out) HZ_5.out) HZ_6.out)))
  have HO_aP_8 := Lib.hid (HO_aP_7.out.fr HB_7.out (Nat.le_trans HZ_0.out HZ_1.out) (Nat.le_trans (Nat.le_trans (Nat.le_trans (Nat.le_trans (Nat.le_trans (Nat.le_trans HZ_0.out HZ_1.out) HZ_2.out) HZ_3.out) HZ_4.out) HZ_5.out) HZ_6.out))
  have HO_w0_8 := Lib.hid (HO_w0_7.out.fr HB_7.out (.inl (Nat.le_refl _)))
  have HO_g0_8 := Lib.hid (HO_g0_7.out.fr HB_7.out (.inr (Nat.le_refl _)))
  go_wp2_with fail
  refine (eqStringS_same _ _ A_g0 A_w0 r0.length c_g0 c_w0 r0 _ HO_g0_8.out.rd HO_w0_8.out.rd (by omega)).mono ?_
  rintro e W9 ⟨rfl, hb⟩
  have HB_8 := Lib.hid hb
  clear hb
  have HZ_8 := Lib.hid (HB_8.out.below 0).size
  have HA_9 := Lib.hid (HA_8.out.trans (HB_8.out.below _))
  have HO_aP_9 := Lib.hid (HO_aP_8.out.same HB_8.out)
  have HO_w0_9 := Lib.hid (HO_w0_8.out.same HB_8.out)
  have HO_g0_9 := Lib.hid (HO_g0_8.out.same HB_8.out)
  go_wp2_with fail
  refine (markStringS_any _ _ A_g0 r0.length c_g0 r0 1 _ HO_g0_9.out (by omega) (by omega) (by omega)).mono ?_
  rintro e W10 ⟨rfl, hown, hb⟩
  have HO_g0_10 := Lib.hid hown
  clear hown
  have HB_9 := Lib.hid hb
  clear hb
  have HZ_9 := Lib.hid HB_9.out.size
  have HA_10 := Lib.hid (HA_9.out.trans (HB_9.out.below (Nat.le_trans (Nat.le_trans HZ_0.out HZ_1.out) HZ_2.out) (Nat.le_trans (Nat.le_trans (Nat.le_trans (Nat.le_trans (Nat.le_trans (Nat.le_trans (Nat.le_trans (Nat.le_trans HZ_0.out HZ_1.out) HZ_2.out) HZ_3.out) HZ_4.out) HZ_5.out) HZ_6.out) HZ_7.out) HZ_8.out)))
  have HO_aP_10 := Lib.hid (HO_aP_9.out.fr HB_9.out (Nat.le_trans (Nat.le_trans HZ_0.out HZ_1.out) HZ_2.out) (Nat.le_trans (Nat.le_trans (Nat.le_trans (Nat.le_trans (Nat.le_trans (Nat.le_trans (Nat.le_trans (Nat.le_trans HZ_0.out HZ_1.out) HZ_2.out) HZ_3.out) HZ_4.out) HZ_5.out) HZ_6.out) HZ_7.out) HZ_8.out))
  have HO_w0_10 := Lib.hid (HO_w0_9.out.fr HB_9.out (.inl HZ_2.out))
  go_wp2_with fail
  refine (heldStringS_marks _ A_g0 r0.length c_g0 1 _ (HO_g0_10.out.rd.more (Nat.le_trans (Nat.le_trans (Nat.le_trans (Nat.le_trans (Nat.le_trans HZ_4.out HZ_5.out) HZ_6.out) HZ_7.out) HZ_8.out) HZ_9.out)) (Nat.le_refl _) (by omega) (by omega) (by omega)).mono ?_
  rintro e W11 ⟨rfl, hb⟩
  have HB_10 := Lib.hid hb
  clear hb
  have HZ_10 := Lib.hid HB_10.out.size
  have HA_11 := Lib.hid (HA_10.out.trans (HB_10.out.mono (Nat.le_trans (Nat.le_trans (Nat.le_trans (Nat.le_trans (Nat.le_trans (Nat.le_trans (Nat.le_trans (Nat.le_trans (Nat.le_trans HZ_0.out HZ_1.out) HZ_2.out) HZ_3.out) HZ_4.out) HZ_5.out) HZ_6.out) HZ_7.out) HZ_8.out) HZ_9.out)))
  have HO_aP_11 := Lib.hid (HO_aP_10.out.below HB_10.out (Nat.le_trans (Nat.le_trans (Nat.le_trans (Nat.le_trans (Nat.le_trans (Nat.le_trans (Nat.le_trans (Nat.le_trans (Nat.le_trans HZ_0.out HZ_1.out) HZ_2.out) HZ_3.out) HZ_4.out) HZ_5.out) HZ_6.out) HZ_7.out) HZ_8.out) HZ_9.out))
  have HO_w0_11 := Lib.hid (HO_w0_10.out.below HB_10.out (Nat.le_trans (Nat.le_trans (Nat.le_trans (Nat.le_trans (Nat.le_trans (Nat.le_trans (Nat.le_trans HZ_2.out HZ_3.out) HZ_4.out) HZ_5.out) HZ_6.out) HZ_7.out) HZ_8.out) HZ_9.out))
  have HO_g0_11 := Lib.hid (HO_g0_10.out.below HB_10.out (Nat.le_trans (Nat.le_trans (Nat.le_trans (Nat.le_trans (Nat.le_trans HZ_4.out HZ_5.out) HZ_6.out) HZ_7.out) HZ_8.out) HZ_9.out))
  go_wp2_with fail
  refine (toStringS_any a0 l0 c0 y0 _ (HO_aP_11.out.more (Nat.le_trans (Nat.le_trans (Nat.le_trans (Nat.le_trans (Nat.le_trans (Nat.le_trans (Nat.le_trans (Nat.le_trans (Nat.le_trans (Nat.le_trans HZ_0.out HZ_1.out) HZ_2.out) HZ_3.out) HZ_4.out) HZ_5.out) HZ_6.out) HZ_7.out) HZ_8.out) HZ_9.out) HZ_10.out)) (by omega)).mono ?_
  rintro e W12 ⟨A__t2, c__t2, rfl, hown, hb⟩
  have HO__t2_12 := Lib.hid hown
  clear hown
  have HB_11 := Lib.hid hb
  clear hb
  have HZ_11 := Lib.hid HB_11.out.size
  have HA_12 := Lib.hid (HA_11.out.trans (HB_11.out.mono (Nat.le_trans (Nat.le_trans (Nat.le_trans (Nat.le_trans (Nat.le_trans (Nat.le_trans (Nat.le_trans (Nat.le_trans (Nat.le_trans (Nat.le_trans HZ_0.out HZ_1.out) HZ_2.out) HZ_3.out) HZ_4.out) HZ_5.out) HZ_6.out) HZ_7.out) HZ_8.out) HZ_9.out) HZ_10.out)))
  have HO_w0_12 := Lib.hid (HO_w0_11.out.below HB_11.out (Nat.le_trans (Nat.le_trans (Nat.le_trans (Nat.le_trans (Nat.le_trans (Nat.le_trans (Nat.le_trans (Nat.le_trans HZ_2.out HZ_3.out) HZ_4.out) HZ_5.out) HZ_6.out) HZ_7.out) HZ_8.out) HZ_9.out) HZ_10.out))
  have HO_g0_12 := Lib.hid (HO_g0_11.out.below HB_11.out (Nat.le_trans (Nat.le_trans (Nat.le_trans (Nat.le_trans (Nat.le_trans (Nat.le_trans HZ_4.out HZ_5.out) HZ_6.out) HZ_7.out) HZ_8.out) HZ_9.out) HZ_10.out))
  go_wp2_with fail
  refine (HI.out A__t2 l0 c__t2 _ (HO__t2_12.out.cap.1) (HO__t2_12.out.rd.more (Nat.le_refl _))).mono ?_
  rintro e W13 ⟨A_h0, c_h0, rfl, ho0, hb⟩
  have HO_h0_13 := Lib.hid ho0
  clear ho0
  have HB_12 := Lib.hid hb
  clear hb
  have HZ_12 := Lib.hid HB_12.out.size
  have HA_13 := Lib.hid (HA_12.out.trans (HB_12.out.mono (Nat.le_trans (Nat.le_trans (Nat.le_trans (Nat.le_trans (Nat.le_trans (Nat.le_trans (Nat.le_trans (Nat.le_trans (Nat.le_trans (Nat.le_trans (Nat.le_trans HZ_0.out HZ_1.out) HZ_2.out) HZ_3.out) HZ_4.out) HZ_5.out) HZ_6.out) HZ_7.out) HZ_8.out) HZ_9.out) HZ_10.out) HZ_11.out)))
  have HO_w0_13 := Lib.hid (HO_w0_12.out.below HB_12.out (Nat.le_trans (Nat.le_trans (Nat.le_trans (Nat.le_trans (Nat.le_trans (Nat.le_trans (Nat.le_trans (Nat.le_trans (Nat.le_trans HZ_2.out HZ_3.out) HZ_4.out) HZ_5.out) HZ_6.out) HZ_7.out) HZ_8.out) HZ_9.out) HZ_10.out) HZ_11.out))
  have HO_g0_13 := Lib.hid (HO_g0_12.out.below HB_12.out (Nat.le_trans (Nat.le_trans (Nat.le_trans (Nat.le_trans (Nat.le_trans (Nat.le_trans (Nat.le_trans HZ_4.out HZ_5.out) HZ_6.out) HZ_7.out) HZ_8.out) HZ_9.out) HZ_10.out) HZ_11.out))
  go_wp2_with fail
  refine (eqStringS_same _ _ A_h0 A_w0 r0.length c_h0 c_w0 r0 _ HO_h0_13.out.rd HO_w0_13.out.rd (by omega)).mono ?_
  rintro e W14 ⟨rfl, hb⟩
  have HB_13 := Lib.hid hb
  clear hb
  have HZ_13 := Lib.hid (HB_13.out.below 0).size
  have HA_14 := Lib.hid (HA_13.out.trans (HB_13.out.below _))
  have HO_g0_14 := Lib.hid (HO_g0_13.out.same HB_13.out)
  go_wp2_with fail
  refine (heldStringS_marks _ A_g0 r0.length c_g0 1 _ (HO_g0_14.out.rd.more (Nat.le_trans (Nat.le_trans (Nat.le_trans (Nat.le_trans (Nat.le_trans (Nat.le_trans (Nat.le_trans (Nat.le_trans (Nat.le_trans HZ_4.out HZ_5.out) HZ_6.out) HZ_7.out) HZ_8.out) HZ_9.out) HZ_10.out) HZ_11.out) HZ_12.out) HZ_13.out)) (Nat.le_refl _) (by omega) (by omega) (by omega)).mono ?_
  rintro e W15 ⟨rfl, hb⟩
  have HB_14 := Lib.hid hb
  clear hb
  have HZ_14 := Lib.hid HB_14.out.size
  have HA_15 := Lib.hid (HA_14.out.trans (HB_14.out.mono (Nat.le_trans (Nat.le_trans (Nat.le_trans (Nat.le_trans (Nat.le_trans (Nat.le_trans (Nat.le_trans (Nat.le_trans (Nat.le_trans (Nat.le_trans (Nat.le_trans (Nat.le_trans (Nat.le_trans HZ_0.out HZ_1.out) HZ_2.out) HZ_3.out) HZ_4.out) HZ_5.out) HZ_6.out) HZ_7.out) HZ_8.out) HZ_9.out) HZ_10.out) HZ_11.out) HZ_12.out) HZ_13.out)))
  go_wp2
  go_ret
  exact ⟨rfl, HA_15.out⟩
theorem FnExactIsBelow_walk (W0 : World) (a0 : Option Addr) (l0 c0 : Nat) (z0 : List ByteArray) (w0 : RowS W0 a0 l0 c0 z0) (a1 : Option Addr) (l1 c1 : Nat) (z1 : List ByteArray) (w1 : RowS W0 a1 l1 c1 z1) :
    Calls Try.prog 7 #[.slice a0 l0 c0, .slice a1 l1 c1] W0 fun e w' => e = .returned (.bool true) ∧ Below W0.heap.size W0 w' := by
  have hR0 := rdS_of_row w0
  have hC0 := rowS_cap w0
  have hM0 := rowS_le w0
  have hL0 := hR0.len
  generalize z0.take l0 = y0 at hR0 hL0
  clear w0
  have hR1 := rdS_of_row w1
  have hC1 := rowS_cap w1
  have hM1 := rowS_le w1
  have hL1 := hR1.len
  generalize z1.take l1 = y1 at hR1 hL1
  clear w1
  obtain ⟨q0, hq0⟩ : ∃ q, szS 1048576 y0 = q := ⟨_, rfl⟩
  have hQ0 := fun w1 (h : RdS w1 W0.heap.size a0 l0 y0) => szStringS_any _ a0 l0 c0 y0 1048576 w1 h (by omega) (by omega) hM0
  rw [hq0] at hQ0
  have HQ0 := Lib.hid (hQ0 W0 hR0)
  clear hQ0 hM0
  by_cases hn0 : q0 < 0
  · clear hq0 hR0 hL0 hC0 hR1 hL1 hC1
    go_enter Try.func7, Try.ntmps7
    go_wp2_with fail
    refine HQ0.out.mono ?_
    rintro e w1 ⟨rfl, rfl⟩
    go_wp2
    go_ret
    exact ⟨rfl, Below.refl _ _⟩
  have hs0 := szS_le (by omega) (show 0 ≤ szS 1048576 y0 by omega)
  rw [hq0] at hs0
  clear hq0
  have hY0 : y0.length ≤ 1048576 ∧ ∀ s ∈ y0, s.size ≤ 1048576 := ⟨by have := hs0.2.1; omega, fun s hs => by have := hs0.2.2 s hs; omega⟩
  have hl0 : l0 ≤ 1048576 := by have := hY0.1; omega
  have hs0 := hs0.1
  obtain ⟨q1, hq1⟩ : ∃ q, szS q0 y1 = q := ⟨_, rfl⟩
  have hQ1 := fun w1 (h : RdS w1 W0.heap.size a1 l1 y1) => szStringS_any _ a1 l1 c1 y1 q0 w1 h (by omega) (by omega) hM1
  rw [hq1] at hQ1
  have HQ1 := Lib.hid (hQ1 W0 hR1)
  clear hQ1 hM1
  by_cases hn1 : q1 < 0
  · clear hq1 hR0 hL0 hC0 hR1 hL1 hC1
    go_enter Try.func7, Try.ntmps7
    go_wp2_with fail
    refine HQ0.out.mono ?_
    rintro e w1 ⟨rfl, rfl⟩
    go_wp2_with fail
    refine HQ1.out.mono ?_
    rintro e w1 ⟨rfl, rfl⟩
    go_wp2
    go_ret
    exact ⟨rfl, Below.refl _ _⟩
  have hs1 := szS_le (by omega) (show 0 ≤ szS q0 y1 by omega)
  rw [hq1] at hs1
  clear hq1
  have hY1 : y1.length ≤ 1048576 ∧ ∀ s ∈ y1, s.size ≤ 1048576 := ⟨by have := hs1.2.1; omega, fun s hs => by have := hs1.2.2 s hs; omega⟩
  have hl1 : l1 ≤ 1048576 := by have := hY1.1; omega
  have hs1 := hs1.1
  obtain ⟨r0, hS, hI⟩ := both_IsBelow y0 y1 hY0 hY1
  have HS := Lib.hid hS
  have HI := Lib.hid hI
  clear hS hI
  have HO_aP_0 := Lib.hid hR0
  have HC0 := Lib.hid hC0
  clear hR0 hC0 hL0 hY0
  have HO_aQ_0 := Lib.hid hR1
  have HC1 := Lib.hid hC1
  clear hR1 hC1 hL1 hY1
  have HA_0 := Lib.hid (Below.refl W0.heap.size W0)
  go_enter Try.func7, Try.ntmps7
  go_wp2_with fail
  refine HQ0.out.mono ?_
  rintro e w1 ⟨rfl, rfl⟩
  go_wp2_with fail
  refine HQ1.out.mono ?_
  rintro e w1 ⟨rfl, rfl⟩
  go_wp2_with fail
  refine (toStringS_any a0 l0 c0 y0 _ (HO_aP_0.out.more (Nat.le_refl _)) (by omega)).mono ?_
  rintro e W1 ⟨A__t0, c__t0, rfl, hown, hb⟩
  have HO__t0_1 := Lib.hid hown
  clear hown
  have HB_0 := Lib.hid hb
  clear hb
  have HZ_0 := Lib.hid HB_0.out.size
  have HA_1 := Lib.hid (HA_0.out.trans (HB_0.out.mono (Nat.le_refl _)))
  have HO_aP_1 := Lib.hid (HO_aP_0.out.below HB_0.out (Nat.le_refl _))
  have HO_aQ_1 := Lib.hid (HO_aQ_0.out.below HB_0.out (Nat.le_refl _))
  go_wp2_with fail
  refine (toStringS_any a1 l1 c1 y1 _ (HO_aQ_1.out.more HZ_0.out) (by omega)).mono ?_
  rintro e W2 ⟨A__t1, c__t1, rfl, hown, hb⟩
  have HO__t1_2 := Lib.hid hown
  clear hown
  have HB_1 := Lib.hid hb
  clear hb
  have HZ_1 := Lib.hid HB_1.out.size
  have HA_2 := Lib.hid (HA_1.out.trans (HB_1.out.mono HZ_0.out))
  have HO_aP_2 := Lib.hid (HO_aP_1.out.below HB_1.out HZ_0.out)
  have HO_aQ_2 := Lib.hid (HO_aQ_1.out.below HB_1.out HZ_0.out)
  have HO__t0_2 := Lib.hid (HO__t0_1.out.below HB_1.out (Nat.le_refl _))
  go_wp2_with fail
  refine (HS.out A__t0 l0 c__t0 A__t1 l1 c__t1 _ (HO__t0_2.out.cap.1) (HO__t0_2.out.rd.more HZ_1.out) (HO__t1_2.out.cap.1) (HO__t1_2.out.rd.more (Nat.le_refl _))).mono ?_
  rintro e W3 ⟨rfl, hb⟩
  have HB_2 := Lib.hid hb
  clear hb
  have HZ_2 := Lib.hid HB_2.out.size
  have HA_3 := Lib.hid (HA_2.out.trans (HB_2.out.mono (Nat.le_trans HZ_0.out HZ_1.out)))
  have HO_aP_3 := Lib.hid (HO_aP_2.out.below HB_2.out (Nat.le_trans HZ_0.out HZ_1.out))
  have HO_aQ_3 := Lib.hid (HO_aQ_2.out.below HB_2.out (Nat.le_trans HZ_0.out HZ_1.out))
  go_wp2_with fail
  refine (toStringS_any a0 l0 c0 y0 _ (HO_aP_3.out.more (Nat.le_trans (Nat.le_trans HZ_0.out HZ_1.out) HZ_2.out)) (by omega)).mono ?_
  rintro e W4 ⟨A_x0, c_x0, rfl, hown, hb⟩
  have HO_x0_4 := Lib.hid hown
  clear hown
  have HB_3 := Lib.hid hb
  clear hb
  have HZ_3 := Lib.hid HB_3.out.size
  have HA_4 := Lib.hid (HA_3.out.trans (HB_3.out.mono (Nat.le_trans (Nat.le_trans HZ_0.out HZ_1.out) HZ_2.out)))
  have HO_aP_4 := Lib.hid (HO_aP_3.out.below HB_3.out (Nat.le_trans (Nat.le_trans HZ_0.out HZ_1.out) HZ_2.out))
  have HO_aQ_4 := Lib.hid (HO_aQ_3.out.below HB_3.out (Nat.le_trans (Nat.le_trans HZ_0.out HZ_1.out) HZ_2.out))
  go_wp2_with fail
  refine (toStringS_any a1 l1 c1 y1 _ (HO_aQ_4.out.more (Nat.le_trans (Nat.le_trans (Nat.le_trans HZ_0.out HZ_1.out) HZ_2.out) HZ_3.out)) (by omega)).mono ?_
  rintro e W5 ⟨A_x1, c_x1, rfl, hown, hb⟩
  have HO_x1_5 := Lib.hid hown
  clear hown
  have HB_4 := Lib.hid hb
  clear hb
  have HZ_4 := Lib.hid HB_4.out.size
  have HA_5 := Lib.hid (HA_4.out.trans (HB_4.out.mono (Nat.le_trans (Nat.le_trans (Nat.le_trans HZ_0.out HZ_1.out) HZ_2.out) HZ_3.out)))
  have HO_aP_5 := Lib.hid (HO_aP_4.out.below HB_4.out (Nat.le_trans (Nat.le_trans (Nat.le_trans HZ_0.out HZ_1.out) HZ_2.out) HZ_3.out))
  have HO_aQ_5 := Lib.hid (HO_aQ_4.out.below HB_4.out (Nat.le_trans (Nat.le_trans (Nat.le_trans HZ_0.out HZ_1.out) HZ_2.out) HZ_3.out))
  have HO_x0_5 := Lib.hid (HO_x0_4.out.below HB_4.out (Nat.le_refl _))
  go_wp2_with fail
  refine (HI.out A_x0 l0 c_x0 A_x1 l1 c_x1 _ (HO_x0_5.out.cap.1) (HO_x0_5.out.rd.more HZ_4.out) (HO_x1_5.out.cap.1) (HO_x1_5.out.rd.more (Nat.le_refl _))).mono ?_
  rintro e W6 ⟨rfl, hb⟩
  have HB_5 := Lib.hid hb
  clear hb
  have HZ_5 := Lib.hid HB_5.out.size
  have HA_6 := Lib.hid (HA_5.out.trans (HB_5.out.mono (Nat.le_trans (Nat.le_trans (Nat.le_trans (Nat.le_trans HZ_0.out HZ_1.out) HZ_2.out) HZ_3.out) HZ_4.out)))
  have HO_aP_6 := Lib.hid (HO_aP_5.out.below HB_5.out (Nat.le_trans (Nat.le_trans (Nat.le_trans (Nat.le_trans HZ_0.out HZ_1.out) HZ_2.out) HZ_3.out) HZ_4.out))
  have HO_aQ_6 := Lib.hid (HO_aQ_5.out.below HB_5.out (Nat.le_trans (Nat.le_trans (Nat.le_trans (Nat.le_trans HZ_0.out HZ_1.out) HZ_2.out) HZ_3.out) HZ_4.out))
  have HO_x0_6 := Lib.hid (HO_x0_5.out.below HB_5.out HZ_4.out)
  have HO_x1_6 := Lib.hid (HO_x1_5.out.below HB_5.out (Nat.le_refl _))
  go_wp2_with fail
  refine (toStringS_any a0 l0 c0 y0 _ (HO_aP_6.out.more (Nat.le_trans (Nat.le_trans (Nat.le_trans (Nat.le_trans (Nat.le_trans HZ_0.out HZ_1.out) HZ_2.out) HZ_3.out) HZ_4.out) HZ_5.out)) (by omega)).mono ?_
  rintro e W7 ⟨A__t2, c__t2, rfl, hown, hb⟩
  have HO__t2_7 := Lib.hid hown
  clear hown
  have HB_6 := Lib.hid hb
  clear hb
  have HZ_6 := Lib.hid HB_6.out.size
  have HA_7 := Lib.hid (HA_6.out.trans (HB_6.out.mono (Nat.le_trans (Nat.le_trans (Nat.le_trans (Nat.le_trans (Nat.le_trans HZ_0.out HZ_1.out) HZ_2.out) HZ_3.out) HZ_4.out) HZ_5.out)))
  have HO_aQ_7 := Lib.hid (HO_aQ_6.out.below HB_6.out (Nat.le_trans (Nat.le_trans (Nat.le_trans (Nat.le_trans (Nat.le_trans HZ_0.out HZ_1.out) HZ_2.out) HZ_3.out) HZ_4.out) HZ_5.out))
  have HO_x0_7 := Lib.hid (HO_x0_6.out.below HB_6.out (Nat.le_trans HZ_4.out HZ_5.out))
  have HO_x1_7 := Lib.hid (HO_x1_6.out.below HB_6.out HZ_5.out)
  go_wp2_with fail
  refine (eqStringS_same _ _ A_x0 A__t2 l0 c_x0 c__t2 y0 _ HO_x0_7.out.rd HO__t2_7.out.rd (by omega)).mono ?_
  rintro e W8 ⟨rfl, hb⟩
  have HB_7 := Lib.hid hb
  clear hb
  have HZ_7 := Lib.hid (HB_7.out.below 0).size
  have HA_8 := Lib.hid (HA_7.out.trans (HB_7.out.below _))
  have HO_aQ_8 := Lib.hid (HO_aQ_7.out.same HB_7.out)
  have HO_x1_8 := Lib.hid (HO_x1_7.out.same HB_7.out)
  go_wp2_with fail
  refine (toStringS_any a1 l1 c1 y1 _ (HO_aQ_8.out.more (Nat.le_trans (Nat.le_trans (Nat.le_trans (Nat.le_trans (Nat.le_trans (Nat.le_trans (Nat.le_trans HZ_0.out HZ_1.out) HZ_2.out) HZ_3.out) HZ_4.out) HZ_5.out) HZ_6.out) HZ_7.out)) (by omega)).mono ?_
  rintro e W9 ⟨A__t3, c__t3, rfl, hown, hb⟩
  have HO__t3_9 := Lib.hid hown
  clear hown
  have HB_8 := Lib.hid hb
  clear hb
  have HZ_8 := Lib.hid HB_8.out.size
  have HA_9 := Lib.hid (HA_8.out.trans (HB_8.out.mono (Nat.le_trans (Nat.le_trans (Nat.le_trans (Nat.le_trans (Nat.le_trans (Nat.le_trans (Nat.le_trans HZ_0.out HZ_1.out) HZ_2.out) HZ_3.out) HZ_4.out) HZ_5.out) HZ_6.out) HZ_7.out)))
  have HO_x1_9 := Lib.hid (HO_x1_8.out.below HB_8.out (Nat.le_trans (Nat.le_trans HZ_5.out HZ_6.out) HZ_7.out))
  go_wp2_with fail
  refine (eqStringS_same _ _ A_x1 A__t3 l1 c_x1 c__t3 y1 _ HO_x1_9.out.rd HO__t3_9.out.rd (by omega)).mono ?_
  rintro e W10 ⟨rfl, hb⟩
  have HB_9 := Lib.hid hb
  clear hb
  have HZ_9 := Lib.hid (HB_9.out.below 0).size
  have HA_10 := Lib.hid (HA_9.out.trans (HB_9.out.below _))
  go_wp2
  go_ret
  exact ⟨rfl, HA_10.out⟩
theorem FnExactSamePath_walk (W0 : World) (a0 : Option Addr) (l0 c0 : Nat) (z0 : List ByteArray) (w0 : RowS W0 a0 l0 c0 z0) (a1 : Option Addr) (l1 c1 : Nat) (z1 : List ByteArray) (w1 : RowS W0 a1 l1 c1 z1) :
    Calls Try.prog 8 #[.slice a0 l0 c0, .slice a1 l1 c1] W0 fun e w' => e = .returned (.bool true) ∧ Below W0.heap.size W0 w' := by
  have hR0 := rdS_of_row w0
  have hC0 := rowS_cap w0
  have hM0 := rowS_le w0
  have hL0 := hR0.len
  generalize z0.take l0 = y0 at hR0 hL0
  clear w0
  have hR1 := rdS_of_row w1
  have hC1 := rowS_cap w1
  have hM1 := rowS_le w1
  have hL1 := hR1.len
  generalize z1.take l1 = y1 at hR1 hL1
  clear w1
  obtain ⟨q0, hq0⟩ : ∃ q, szS 1048576 y0 = q := ⟨_, rfl⟩
  have hQ0 := fun w1 (h : RdS w1 W0.heap.size a0 l0 y0) => szStringS_any _ a0 l0 c0 y0 1048576 w1 h (by omega) (by omega) hM0
  rw [hq0] at hQ0
  have HQ0 := Lib.hid (hQ0 W0 hR0)
  clear hQ0 hM0
  by_cases hn0 : q0 < 0
  · clear hq0 hR0 hL0 hC0 hR1 hL1 hC1
    go_enter Try.func8, Try.ntmps8
    go_wp2_with fail
    refine HQ0.out.mono ?_
    rintro e w1 ⟨rfl, rfl⟩
    go_wp2
    go_ret
    exact ⟨rfl, Below.refl _ _⟩
  have hs0 := szS_le (by omega) (show 0 ≤ szS 1048576 y0 by omega)
  rw [hq0] at hs0
  clear hq0
  have hY0 : y0.length ≤ 1048576 ∧ ∀ s ∈ y0, s.size ≤ 1048576 := ⟨by have := hs0.2.1; omega, fun s hs => by have := hs0.2.2 s hs; omega⟩
  have hl0 : l0 ≤ 1048576 := by have := hY0.1; omega
  have hs0 := hs0.1
  obtain ⟨q1, hq1⟩ : ∃ q, szS q0 y1 = q := ⟨_, rfl⟩
  have hQ1 := fun w1 (h : RdS w1 W0.heap.size a1 l1 y1) => szStringS_any _ a1 l1 c1 y1 q0 w1 h (by omega) (by omega) hM1
  rw [hq1] at hQ1
  have HQ1 := Lib.hid (hQ1 W0 hR1)
  clear hQ1 hM1
  by_cases hn1 : q1 < 0
  · clear hq1 hR0 hL0 hC0 hR1 hL1 hC1
    go_enter Try.func8, Try.ntmps8
    go_wp2_with fail
    refine HQ0.out.mono ?_
    rintro e w1 ⟨rfl, rfl⟩
    go_wp2_with fail
    refine HQ1.out.mono ?_
    rintro e w1 ⟨rfl, rfl⟩
    go_wp2
    go_ret
    exact ⟨rfl, Below.refl _ _⟩
  have hs1 := szS_le (by omega) (show 0 ≤ szS q0 y1 by omega)
  rw [hq1] at hs1
  clear hq1
  have hY1 : y1.length ≤ 1048576 ∧ ∀ s ∈ y1, s.size ≤ 1048576 := ⟨by have := hs1.2.1; omega, fun s hs => by have := hs1.2.2 s hs; omega⟩
  have hl1 : l1 ≤ 1048576 := by have := hY1.1; omega
  have hs1 := hs1.1
  obtain ⟨r0, hS, hI⟩ := both_SamePath y0 y1 hY0 hY1
  have HS := Lib.hid hS
  have HI := Lib.hid hI
  clear hS hI
  have HO_aP_0 := Lib.hid hR0
  have HC0 := Lib.hid hC0
  clear hR0 hC0 hL0 hY0
  have HO_aQ_0 := Lib.hid hR1
  have HC1 := Lib.hid hC1
  clear hR1 hC1 hL1 hY1
  have HA_0 := Lib.hid (Below.refl W0.heap.size W0)
  go_enter Try.func8, Try.ntmps8
  go_wp2_with fail
  refine HQ0.out.mono ?_
  rintro e w1 ⟨rfl, rfl⟩
  go_wp2_with fail
  refine HQ1.out.mono ?_
  rintro e w1 ⟨rfl, rfl⟩
  go_wp2_with fail
  refine (toStringS_any a0 l0 c0 y0 _ (HO_aP_0.out.more (Nat.le_refl _)) (by omega)).mono ?_
  rintro e W1 ⟨A__t0, c__t0, rfl, hown, hb⟩
  have HO__t0_1 := Lib.hid hown
  clear hown
  have HB_0 := Lib.hid hb
  clear hb
  have HZ_0 := Lib.hid HB_0.out.size
  have HA_1 := Lib.hid (HA_0.out.trans (HB_0.out.mono (Nat.le_refl _)))
  have HO_aP_1 := Lib.hid (HO_aP_0.out.below HB_0.out (Nat.le_refl _))
  have HO_aQ_1 := Lib.hid (HO_aQ_0.out.below HB_0.out (Nat.le_refl _))
  go_wp2_with fail
  refine (toStringS_any a1 l1 c1 y1 _ (HO_aQ_1.out.more HZ_0.out) (by omega)).mono ?_
  rintro e W2 ⟨A__t1, c__t1, rfl, hown, hb⟩
  have HO__t1_2 := Lib.hid hown
  clear hown
  have HB_1 := Lib.hid hb
  clear hb
  have HZ_1 := Lib.hid HB_1.out.size
  have HA_2 := Lib.hid (HA_1.out.trans (HB_1.out.mono HZ_0.out))
  have HO_aP_2 := Lib.hid (HO_aP_1.out.below HB_1.out HZ_0.out)
  have HO_aQ_2 := Lib.hid (HO_aQ_1.out.below HB_1.out HZ_0.out)
  have HO__t0_2 := Lib.hid (HO__t0_1.out.below HB_1.out (Nat.le_refl _))
  go_wp2_with fail
  refine (HS.out A__t0 l0 c__t0 A__t1 l1 c__t1 _ (HO__t0_2.out.cap.1) (HO__t0_2.out.rd.more HZ_1.out) (HO__t1_2.out.cap.1) (HO__t1_2.out.rd.more (Nat.le_refl _))).mono ?_
  rintro e W3 ⟨rfl, hb⟩
  have HB_2 := Lib.hid hb
  clear hb
  have HZ_2 := Lib.hid HB_2.out.size
  have HA_3 := Lib.hid (HA_2.out.trans (HB_2.out.mono (Nat.le_trans HZ_0.out HZ_1.out)))
  have HO_aP_3 := Lib.hid (HO_aP_2.out.below HB_2.out (Nat.le_trans HZ_0.out HZ_1.out))
  have HO_aQ_3 := Lib.hid (HO_aQ_2.out.below HB_2.out (Nat.le_trans HZ_0.out HZ_1.out))
  go_wp2_with fail
  refine (toStringS_any a0 l0 c0 y0 _ (HO_aP_3.out.more (Nat.le_trans (Nat.le_trans HZ_0.out HZ_1.out) HZ_2.out)) (by omega)).mono ?_
  rintro e W4 ⟨A_x0, c_x0, rfl, hown, hb⟩
  have HO_x0_4 := Lib.hid hown
  clear hown
  have HB_3 := Lib.hid hb
  clear hb
  have HZ_3 := Lib.hid HB_3.out.size
  have HA_4 := Lib.hid (HA_3.out.trans (HB_3.out.mono (Nat.le_trans (Nat.le_trans HZ_0.out HZ_1.out) HZ_2.out)))
  have HO_aP_4 := Lib.hid (HO_aP_3.out.below HB_3.out (Nat.le_trans (Nat.le_trans HZ_0.out HZ_1.out) HZ_2.out))
  have HO_aQ_4 := Lib.hid (HO_aQ_3.out.below HB_3.out (Nat.le_trans (Nat.le_trans HZ_0.out HZ_1.out) HZ_2.out))
  go_wp2_with fail
  refine (toStringS_any a1 l1 c1 y1 _ (HO_aQ_4.out.more (Nat.le_trans (Nat.le_trans (Nat.le_trans HZ_0.out HZ_1.out) HZ_2.out) HZ_3.out)) (by omega)).mono ?_
  rintro e W5 ⟨A_x1, c_x1, rfl, hown, hb⟩
  have HO_x1_5 := Lib.hid hown
  clear hown
  have HB_4 := Lib.hid hb
  clear hb
  have HZ_4 := Lib.hid HB_4.out.size
  have HA_5 := Lib.hid (HA_4.out.trans (HB_4.out.mono (Nat.le_trans (Nat.le_trans (Nat.le_trans HZ_0.out HZ_1.out) HZ_2.out) HZ_3.out)))
  have HO_aP_5 := Lib.hid (HO_aP_4.out.below HB_4.out (Nat.le_trans (Nat.le_trans (Nat.le_trans HZ_0.out HZ_1.out) HZ_2.out) HZ_3.out))
  have HO_aQ_5 := Lib.hid (HO_aQ_4.out.below HB_4.out (Nat.le_trans (Nat.le_trans (Nat.le_trans HZ_0.out HZ_1.out) HZ_2.out) HZ_3.out))
  have HO_x0_5 := Lib.hid (HO_x0_4.out.below HB_4.out (Nat.le_refl _))
  go_wp2_with fail
  refine (HI.out A_x0 l0 c_x0 A_x1 l1 c_x1 _ (HO_x0_5.out.cap.1) (HO_x0_5.out.rd.more HZ_4.out) (HO_x1_5.out.cap.1) (HO_x1_5.out.rd.more (Nat.le_refl _))).mono ?_
  rintro e W6 ⟨rfl, hb⟩
  have HB_5 := Lib.hid hb
  clear hb
  have HZ_5 := Lib.hid HB_5.out.size
  have HA_6 := Lib.hid (HA_5.out.trans (HB_5.out.mono (Nat.le_trans (Nat.le_trans (Nat.le_trans (Nat.le_trans HZ_0.out HZ_1.out) HZ_2.out) HZ_3.out) HZ_4.out)))
  have HO_aP_6 := Lib.hid (HO_aP_5.out.below HB_5.out (Nat.le_trans (Nat.le_trans (Nat.le_trans (Nat.le_trans HZ_0.out HZ_1.out) HZ_2.out) HZ_3.out) HZ_4.out))
  have HO_aQ_6 := Lib.hid (HO_aQ_5.out.below HB_5.out (Nat.le_trans (Nat.le_trans (Nat.le_trans (Nat.le_trans HZ_0.out HZ_1.out) HZ_2.out) HZ_3.out) HZ_4.out))
  have HO_x0_6 := Lib.hid (HO_x0_5.out.below HB_5.out HZ_4.out)
  have HO_x1_6 := Lib.hid (HO_x1_5.out.below HB_5.out (Nat.le_refl _))
  go_wp2_with fail
  refine (toStringS_any a0 l0 c0 y0 _ (HO_aP_6.out.more (Nat.le_trans (Nat.le_trans (Nat.le_trans (Nat.le_trans (Nat.le_trans HZ_0.out HZ_1.out) HZ_2.out) HZ_3.out) HZ_4.out) HZ_5.out)) (by omega)).mono ?_
  rintro e W7 ⟨A__t2, c__t2, rfl, hown, hb⟩
  have HO__t2_7 := Lib.hid hown
  clear hown
  have HB_6 := Lib.hid hb
  clear hb
  have HZ_6 := Lib.hid HB_6.out.size
  have HA_7 := Lib.hid (HA_6.out.trans (HB_6.out.mono (Nat.le_trans (Nat.le_trans (Nat.le_trans (Nat.le_trans (Nat.le_trans HZ_0.out HZ_1.out) HZ_2.out) HZ_3.out) HZ_4.out) HZ_5.out)))
  have HO_aQ_7 := Lib.hid (HO_aQ_6.out.below HB_6.out (Nat.le_trans (Nat.le_trans (Nat.le_trans (Nat.le_trans (Nat.le_trans HZ_0.out HZ_1.out) HZ_2.out) HZ_3.out) HZ_4.out) HZ_5.out))
  have HO_x0_7 := Lib.hid (HO_x0_6.out.below HB_6.out (Nat.le_trans HZ_4.out HZ_5.out))
  have HO_x1_7 := Lib.hid (HO_x1_6.out.below HB_6.out HZ_5.out)
  go_wp2_with fail
  refine (eqStringS_same _ _ A_x0 A__t2 l0 c_x0 c__t2 y0 _ HO_x0_7.out.rd HO__t2_7.out.rd (by omega)).mono ?_
  rintro e W8 ⟨rfl, hb⟩
  have HB_7 := Lib.hid hb
  clear hb
  have HZ_7 := Lib.hid (HB_7.out.below 0).size
  have HA_8 := Lib.hid (HA_7.out.trans (HB_7.out.below _))
  have HO_aQ_8 := Lib.hid (HO_aQ_7.out.same HB_7.out)
  have HO_x1_8 := Lib.hid (HO_x1_7.out.same HB_7.out)
  go_wp2_with fail
  refine (toStringS_any a1 l1 c1 y1 _ (HO_aQ_8.out.more (Nat.le_trans (Nat.le_trans (Nat.le_trans (Nat.le_trans (Nat.le_trans (Nat.le_trans (Nat.le_trans HZ_0.out HZ_1.out) HZ_2.out) HZ_3.out) HZ_4.out) HZ_5.out) HZ_6.out) HZ_7.out)) (by omega)).mono ?_
  rintro e W9 ⟨A__t3, c__t3, rfl, hown, hb⟩
  have HO__t3_9 := Lib.hid hown
  clear hown
  have HB_8 := Lib.hid hb
  clear hb
  have HZ_8 := Lib.hid HB_8.out.size
  have HA_9 := Lib.hid (HA_8.out.trans (HB_8.out.mono (Nat.le_trans (Nat.le_trans (Nat.le_trans (Nat.le_trans (Nat.le_trans (Nat.le_trans (Nat.le_trans HZ_0.out HZ_1.out) HZ_2.out) HZ_3.out) HZ_4.out) HZ_5.out) HZ_6.out) HZ_7.out)))
  have HO_x1_9 := Lib.hid (HO_x1_8.out.below HB_8.out (Nat.le_trans (Nat.le_trans HZ_5.out HZ_6.out) HZ_7.out))
  go_wp2_with fail
  refine (eqStringS_same _ _ A_x1 A__t3 l1 c_x1 c__t3 y1 _ HO_x1_9.out.rd HO__t3_9.out.rd (by omega)).mono ?_
  rintro e W10 ⟨rfl, hb⟩
  have HB_9 := Lib.hid hb
  clear hb
  have HZ_9 := Lib.hid (HB_9.out.below 0).size
  have HA_10 := Lib.hid (HA_9.out.trans (HB_9.out.below _))
  go_wp2
  go_ret
  exact ⟨rfl, HA_10.out⟩
end Go.Proofs.Ytkgdgnjlmcodlaa.W05
