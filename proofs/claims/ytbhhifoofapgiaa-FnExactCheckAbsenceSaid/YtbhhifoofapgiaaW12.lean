/- The walks of the exact laws of chapter 12: each law returns true, and writes into nothing that was there. -/
import Derived.Test.YtbhhifoofapgiaaC12U
import Derived.Test.YtbhhifoofapgiaaT08
import Derived.Test.YtbhhifoofapgiaaT11
import Derived.Test.YtbhhifoofapgiaaT12
import Derived.Test.YtbhhifoofapgiaaT01
import Derived.Deep.RegionHeld3
namespace Go.Proofs.Ytbhhifoofapgiaa.W12
open Go.RowKit Mem MemS Rep RW R08 R11 R12 Q08 C12U T01 T04 T05 T08 T11 T12S T12
set_option linter.unusedVariables false
set_option maxRecDepth 100000
set_option maxHeartbeats 4000000
theorem FnExactProveAbsence_walk (W0 : World) (a0 : Option Addr) (l0 c0 : Nat) (y0 : List Entry) (w0 : Rds REntry W0 (Lt W0.heap.size) a0 l0 y0) (hC0 : l0 ≤ c0) (hM0 : c0 ≤ maxLen) (v1 : ByteArray) (hv1 : v1.size ≤ maxLen) :
    Calls Try.prog 3 #[.slice a0 l0 c0, .string v1] W0 fun e w' => e = .returned (.bool true) ∧ Below W0.heap.size W0 w' := by
  have hR0 : FRdEntry W0 W0.heap.size a0 l0 y0 := w0
  have hL0 := hR0.len
  clear w0
  by_cases hg1 : 1048576 < v1.size
  · have hg : 1048576 < (v1.size : Int) := by omega
    clear hR0 hL0 hC0 hM0
    go_enter Try.func3, Try.ntmps3
    go_wp2
    go_ret
    exact ⟨rfl, (Below.refl _ _)⟩
  have HA_0 := Lib.hid (show Below W0.heap.size W0 W0 from Below.refl _ _)
  have HO_aList_0 := Lib.hid (hR0.below HA_0.out (Nat.le_refl _))
  have HC0 := Lib.hid hC0
  have HM0 := Lib.hid hM0
  clear hR0
  go_enter Try.func3, Try.ntmps3
  by_cases hn_aList : 1048576 < (totR totEntry y0 : Int)
  · have HN := Lib.hid hn_aList
    clear hn_aList
    go_wp2_with fail
    refine (szEntryS_any _ a0 l0 c0 y0 1048576 _ (HO_aList_0.out.more HA_0.out.size) (Nat.le_refl _) (by omega) (by omega) (Nat.le_trans HC0.out HM0.out)).mono ?_
    rw [if_pos HN.out]
    rintro e W_1 ⟨rfl, hb⟩
    have HAe := Lib.hid (HA_0.out.trans (hb.mono HA_0.out.size))
    clear hb
    go_wp2
    go_ret
    exact ⟨rfl, HAe.out⟩
  have hY0 : totR totEntry y0 ≤ 1048576 := by omega
  have hYl0 := totR_len totEntry y0
  have HN_aList := Lib.hid hn_aList
  clear hn_aList
  go_wp2_with fail
  refine (szEntryS_any _ a0 l0 c0 y0 1048576 _ (HO_aList_0.out.more HA_0.out.size) (Nat.le_refl _) (by omega) (by omega) (Nat.le_trans HC0.out HM0.out)).mono ?_
  rw [if_neg (show ¬ 1048576 < (totR totEntry y0 : Int) by have := HN_aList.out; omega)]
  rintro e W_1 ⟨rfl, hb⟩
  obtain ⟨qq0, hqq0⟩ : ∃ x, x = 1048576 - (totR totEntry y0 : Int) := ⟨_, rfl⟩
  rw [← hqq0]
  have hqq0l : 0 ≤ qq0 ∧ qq0 ≤ 1048576 := by have := HN_aList.out; omega
  have hqq0n : ¬ qq0 < 0 := by omega
  clear hqq0
  have HB_0 := Lib.hid hb
  have HZ_0 := Lib.hid HB_0.out.size
  have HA_1 := Lib.hid (HA_0.out.trans (HB_0.out.mono HA_0.out.size))
  have HO_aList_1 := Lib.hid (HO_aList_0.out.below HB_0.out HA_0.out.size)
  clear hb
  obtain ⟨r0, r1, hlen0, hS, hI⟩ := both_ProveAbsence y0 v1 hY0 (by omega)
  have HS := Lib.hid hS
  have HI := Lib.hid hI
  clear hS hI
  have hcnt0 := cntGap_le r0
  have hcy0 := cntR_le totEntry fullEntry fullEntry_le y0
  go_wp2_with fail
  refine (toEntryS_any a0 l0 c0 y0 _ (HO_aList_1.out.more HA_1.out.size) (by omega)).mono ?_
  rintro e W_2 ⟨A__t0, c__t0, rfl, hown, hb⟩
  have HO__t0_2 := Lib.hid hown
  have HB_1 := Lib.hid hb
  have HZ_1 := Lib.hid HB_1.out.size
  have HA_2 := Lib.hid (HA_1.out.trans (HB_1.out.mono HA_1.out.size))
  have HO_aList_2 := Lib.hid (HO_aList_1.out.below HB_1.out HA_1.out.size)
  clear hb hown
  go_wp2_with fail
  refine (HS.out A__t0 l0 c__t0 _ (HO__t0_2.out.cap.1) (HO__t0_2.out.rd.more (Nat.le_refl _))).mono ?_
  rintro e W_3 ⟨cs_w0, rfl, ho0, hb⟩
  obtain ⟨A_w0_4, n_w0_4, c_w0_4, A_w0_8, n_w0_8, c_w0_8, A_w0_10, n_w0_10, c_w0_10, A_w0_12, n_w0_12, c_w0_12, rfl⟩ := RGap_shape ho0
  have HO_w0_3 := Lib.hid (RGap.more (RGap.keep ho0 fun i hi => Below.heap_alloc W_3 (.cells #[(.int .i64 r0.at_), (.string r0.before.label), (.int .i64 r0.before.kind), (.int .i64 r0.before.value), (.slice A_w0_4 n_w0_4 c_w0_4), (.string r0.after.label), (.int .i64 r0.after.kind), (.int .i64 r0.after.value), (.slice A_w0_8 n_w0_8 c_w0_8), (.int .i64 r0.left.at_), (.slice A_w0_10 n_w0_10 c_w0_10), (.int .i64 r0.right.at_), (.slice A_w0_12 n_w0_12 c_w0_12)] 31) i hi) (P' := Lt (W_3.alloc (.cells #[(.int .i64 r0.at_), (.string r0.before.label), (.int .i64 r0.before.kind), (.int .i64 r0.before.value), (.slice A_w0_4 n_w0_4 c_w0_4), (.string r0.after.label), (.int .i64 r0.after.kind), (.int .i64 r0.after.value), (.slice A_w0_8 n_w0_8 c_w0_8), (.int .i64 r0.left.at_), (.slice A_w0_10 n_w0_10 c_w0_10), (.int .i64 r0.right.at_), (.slice A_w0_12 n_w0_12 c_w0_12)] 31)).heap.size) fun i hi => Nat.lt_of_lt_of_le hi (by simp))
  have hb2 := hb.alloc hb.size (.cells #[(.int .i64 r0.at_), (.string r0.before.label), (.int .i64 r0.before.kind), (.int .i64 r0.before.value), (.slice A_w0_4 n_w0_4 c_w0_4), (.string r0.after.label), (.int .i64 r0.after.kind), (.int .i64 r0.after.value), (.slice A_w0_8 n_w0_8 c_w0_8), (.int .i64 r0.left.at_), (.slice A_w0_10 n_w0_10 c_w0_10), (.int .i64 r0.right.at_), (.slice A_w0_12 n_w0_12 c_w0_12)] 31)
  have HB_2 := Lib.hid hb2
  have HQ_3 := Lib.hid hb.size
  have HZ_2 := Lib.hid HB_2.out.size
  have HA_3 := Lib.hid (HA_2.out.trans (HB_2.out.mono HA_2.out.size))
  have HO_aList_3 := Lib.hid (HO_aList_2.out.below HB_2.out HA_2.out.size)
  clear hb ho0
  have HX_w0_3 := Lib.hid (show Box (W_3.alloc (.cells #[(.int .i64 r0.at_), (.string r0.before.label), (.int .i64 r0.before.kind), (.int .i64 r0.before.value), (.slice A_w0_4 n_w0_4 c_w0_4), (.string r0.after.label), (.int .i64 r0.after.kind), (.int .i64 r0.after.value), (.slice A_w0_8 n_w0_8 c_w0_8), (.int .i64 r0.left.at_), (.slice A_w0_10 n_w0_10 c_w0_10), (.int .i64 r0.right.at_), (.slice A_w0_12 n_w0_12 c_w0_12)] 31)) W_3.heap.size [(.int .i64 r0.at_), (.string r0.before.label), (.int .i64 r0.before.kind), (.int .i64 r0.before.value), (.slice A_w0_4 n_w0_4 c_w0_4), (.string r0.after.label), (.int .i64 r0.after.kind), (.int .i64 r0.after.value), (.slice A_w0_8 n_w0_8 c_w0_8), (.int .i64 r0.left.at_), (.slice A_w0_10 n_w0_10 c_w0_10), (.int .i64 r0.right.at_), (.slice A_w0_12 n_w0_12 c_w0_12)] from Box.new W_3 #[(.int .i64 r0.at_), (.string r0.before.label), (.int .i64 r0.before.kind), (.int .i64 r0.before.value), (.slice A_w0_4 n_w0_4 c_w0_4), (.string r0.after.label), (.int .i64 r0.after.kind), (.int .i64 r0.after.value), (.slice A_w0_8 n_w0_8 c_w0_8), (.int .i64 r0.left.at_), (.slice A_w0_10 n_w0_10 c_w0_10), (.int .i64 r0.right.at_), (.slice A_w0_12 n_w0_12 c_w0_12)] 31)
  go_wp2_with fail
  refine (toEntryS_any a0 l0 c0 y0 _ (HO_aList_3.out.more HA_3.out.size) (by omega)).mono ?_
  rintro e W_4 ⟨A_x0, c_x0, rfl, hown, hb⟩
  have HO_x0_4 := Lib.hid hown
  have HB_3 := Lib.hid hb
  have HZ_3 := Lib.hid HB_3.out.size
  have HA_4 := Lib.hid (HA_3.out.trans (HB_3.out.mono HA_3.out.size))
  have HO_aList_4 := Lib.hid (HO_aList_3.out.below HB_3.out HA_3.out.size)
  have HO_w0_4 := Lib.hid (RGap.keep HO_w0_3.out fun i hi => HB_3.out.block i (Nat.lt_of_lt_of_le hi (Nat.le_refl _)))
  have HX_w0_4 := Lib.hid (HX_w0_3.out.below HB_3.out HX_w0_3.out.lt)
  clear hb hown
  go_wp2_with fail
  refine (HI.out A_x0 l0 c_x0 _ (HO_x0_4.out.cap.1) (HO_x0_4.out.rd.more (Nat.le_refl _))).mono ?_
  rintro e W_5 ⟨cs_g0, rfl, ho0, hb⟩
  obtain ⟨A_g0_4, n_g0_4, c_g0_4, A_g0_8, n_g0_8, c_g0_8, A_g0_10, n_g0_10, c_g0_10, A_g0_12, n_g0_12, c_g0_12, rfl⟩ := RGap_shape ho0.rd
  have HO_g0_5 := Lib.hid (ho0.alloc (.cells #[(.int .i64 r0.at_), (.string r0.before.label), (.int .i64 r0.before.kind), (.int .i64 r0.before.value), (.slice A_g0_4 n_g0_4 c_g0_4), (.string r0.after.label), (.int .i64 r0.after.kind), (.int .i64 r0.after.value), (.slice A_g0_8 n_g0_8 c_g0_8), (.int .i64 r0.left.at_), (.slice A_g0_10 n_g0_10 c_g0_10), (.int .i64 r0.right.at_), (.slice A_g0_12 n_g0_12 c_g0_12)] 31))
  have HT_5 := Lib.hid (show W_5.heap.size ≤ (W_5.alloc (.cells #[(.int .i64 r0.at_), (.string r0.before.label), (.int .i64 r0.before.kind), (.int .i64 r0.before.value), (.slice A_g0_4 n_g0_4 c_g0_4), (.string r0.after.label), (.int .i64 r0.after.kind), (.int .i64 r0.after.value), (.slice A_g0_8 n_g0_8 c_g0_8), (.int .i64 r0.left.at_), (.slice A_g0_10 n_g0_10 c_g0_10), (.int .i64 r0.right.at_), (.slice A_g0_12 n_g0_12 c_g0_12)] 31)).heap.size by simp)
  have hb4 := hb.alloc hb.size (.cells #[(.int .i64 r0.at_), (.string r0.before.label), (.int .i64 r0.before.kind), (.int .i64 r0.before.value), (.slice A_g0_4 n_g0_4 c_g0_4), (.string r0.after.label), (.int .i64 r0.after.kind), (.int .i64 r0.after.value), (.slice A_g0_8 n_g0_8 c_g0_8), (.int .i64 r0.left.at_), (.slice A_g0_10 n_g0_10 c_g0_10), (.int .i64 r0.right.at_), (.slice A_g0_12 n_g0_12 c_g0_12)] 31)
  have HB_4 := Lib.hid hb4
  have HQ_5 := Lib.hid hb.size
  have HZ_4 := Lib.hid HB_4.out.size
  have HA_5 := Lib.hid (HA_4.out.trans (HB_4.out.mono HA_4.out.size))
  have HO_aList_5 := Lib.hid (HO_aList_4.out.below HB_4.out HA_4.out.size)
  have HO_w0_5 := Lib.hid (RGap.keep HO_w0_4.out fun i hi => HB_4.out.block i (Nat.lt_of_lt_of_le hi HZ_3.out))
  have HO_x0_5 := Lib.hid (HO_x0_4.out.below HB_4.out (Nat.le_refl _))
  have HX_w0_5 := Lib.hid (HX_w0_4.out.below HB_4.out HX_w0_4.out.lt)
  clear hb ho0
  have HX_g0_5 := Lib.hid (show Box (W_5.alloc (.cells #[(.int .i64 r0.at_), (.string r0.before.label), (.int .i64 r0.before.kind), (.int .i64 r0.before.value), (.slice A_g0_4 n_g0_4 c_g0_4), (.string r0.after.label), (.int .i64 r0.after.kind), (.int .i64 r0.after.value), (.slice A_g0_8 n_g0_8 c_g0_8), (.int .i64 r0.left.at_), (.slice A_g0_10 n_g0_10 c_g0_10), (.int .i64 r0.right.at_), (.slice A_g0_12 n_g0_12 c_g0_12)] 31)) W_5.heap.size [(.int .i64 r0.at_), (.string r0.before.label), (.int .i64 r0.before.kind), (.int .i64 r0.before.value), (.slice A_g0_4 n_g0_4 c_g0_4), (.string r0.after.label), (.int .i64 r0.after.kind), (.int .i64 r0.after.value), (.slice A_g0_8 n_g0_8 c_g0_8), (.int .i64 r0.left.at_), (.slice A_g0_10 n_g0_10 c_g0_10), (.int .i64 r0.right.at_), (.slice A_g0_12 n_g0_12 c_g0_12)] from Box.new W_5 #[(.int .i64 r0.at_), (.string r0.before.label), (.int .i64 r0.before.kind), (.int .i64 r0.before.value), (.slice A_g0_4 n_g0_4 c_g0_4), (.string r0.after.label), (.int .i64 r0.after.kind), (.int .i64 r0.after.value), (.slice A_g0_8 n_g0_8 c_g0_8), (.int .i64 r0.left.at_), (.slice A_g0_10 n_g0_10 c_g0_10), (.int .i64 r0.right.at_), (.slice A_g0_12 n_g0_12 c_g0_12)] 31)
  have x_g0_0 := HX_g0_5.out.cell (j := 0) rfl
  have x_g0_1 := HX_g0_5.out.cell (j := 1) rfl
  have x_g0_2 := HX_g0_5.out.cell (j := 2) rfl
  have x_g0_3 := HX_g0_5.out.cell (j := 3) rfl
  have x_g0_4 := HX_g0_5.out.cell (j := 4) rfl
  have x_g0_5 := HX_g0_5.out.cell (j := 5) rfl
  have x_g0_6 := HX_g0_5.out.cell (j := 6) rfl
  have x_g0_7 := HX_g0_5.out.cell (j := 7) rfl
  have x_g0_8 := HX_g0_5.out.cell (j := 8) rfl
  have x_g0_9 := HX_g0_5.out.cell (j := 9) rfl
  have x_g0_10 := HX_g0_5.out.cell (j := 10) rfl
  have x_g0_11 := HX_g0_5.out.cell (j := 11) rfl
  have x_g0_12 := HX_g0_5.out.cell (j := 12) rfl
  have x_w0_0 := HX_w0_5.out.cell (j := 0) rfl
  have x_w0_1 := HX_w0_5.out.cell (j := 1) rfl
  have x_w0_2 := HX_w0_5.out.cell (j := 2) rfl
  have x_w0_3 := HX_w0_5.out.cell (j := 3) rfl
  have x_w0_4 := HX_w0_5.out.cell (j := 4) rfl
  have x_w0_5 := HX_w0_5.out.cell (j := 5) rfl
  have x_w0_6 := HX_w0_5.out.cell (j := 6) rfl
  have x_w0_7 := HX_w0_5.out.cell (j := 7) rfl
  have x_w0_8 := HX_w0_5.out.cell (j := 8) rfl
  have x_w0_9 := HX_w0_5.out.cell (j := 9) rfl
  have x_w0_10 := HX_w0_5.out.cell (j := 10) rfl
  have x_w0_11 := HX_w0_5.out.cell (j := 11) rfl
  have x_w0_12 := HX_w0_5.out.cell (j := 12) rfl
  go_wp2_with fail
  refine (eqGap_same _ _ [(.int .i64 r0.at_), (.string r0.before.label), (.int .i64 r0.before.kind), (.int .i64 r0.before.value), (.slice A_g0_4 n_g0_4 c_g0_4), (.string r0.after.label), (.int .i64 r0.after.kind), (.int .i64 r0.after.value), (.slice A_g0_8 n_g0_8 c_g0_8), (.int .i64 r0.left.at_), (.slice A_g0_10 n_g0_10 c_g0_10), (.int .i64 r0.right.at_), (.slice A_g0_12 n_g0_12 c_g0_12)] [(.int .i64 r0.at_), (.string r0.before.label), (.int .i64 r0.before.kind), (.int .i64 r0.before.value), (.slice A_w0_4 n_w0_4 c_w0_4), (.string r0.after.label), (.int .i64 r0.after.kind), (.int .i64 r0.after.value), (.slice A_w0_8 n_w0_8 c_w0_8), (.int .i64 r0.left.at_), (.slice A_w0_10 n_w0_10 c_w0_10), (.int .i64 r0.right.at_), (.slice A_w0_12 n_w0_12 c_w0_12)] r0 _ (RGap.more HO_g0_5.out.rd fun i hi => Nat.lt_of_lt_of_le hi (Nat.le_trans HT_5.out (Nat.le_refl _))) (RGap.more HO_w0_5.out fun i hi => Nat.lt_of_lt_of_le hi (Nat.le_trans HZ_3.out HZ_4.out)) (Nat.le_refl _) (Nat.le_refl _) (by omega)).mono ?_
  rintro e W_6 ⟨rfl, hb⟩
  have HB_5 := Lib.hid hb
  have HZ_5 := Lib.hid HB_5.out.size
  have HA_6 := Lib.hid (HA_5.out.trans (HB_5.out.mono HA_5.out.size))
  have HO_aList_6 := Lib.hid (HO_aList_5.out.below HB_5.out HA_5.out.size)
  have HO_w0_6 := Lib.hid (RGap.keep HO_w0_5.out fun i hi => HB_5.out.block i (Nat.lt_of_lt_of_le hi (Nat.le_trans HZ_3.out HZ_4.out)))
  have HO_x0_6 := Lib.hid (HO_x0_5.out.below HB_5.out HZ_4.out)
  have HO_g0_6 := Lib.hid (HO_g0_5.out.below HB_5.out (Nat.le_trans HT_5.out (Nat.le_refl _)))
  have HX_w0_6 := Lib.hid (HX_w0_5.out.below HB_5.out HX_w0_5.out.lt)
  have HX_g0_6 := Lib.hid (HX_g0_5.out.below HB_5.out HX_g0_5.out.lt)
  clear hb
  clear x_g0_0 x_g0_1 x_g0_2 x_g0_3 x_g0_4 x_g0_5 x_g0_6 x_g0_7 x_g0_8 x_g0_9 x_g0_10 x_g0_11 x_g0_12 x_w0_0 x_w0_1 x_w0_2 x_w0_3 x_w0_4 x_w0_5 x_w0_6 x_w0_7 x_w0_8 x_w0_9 x_w0_10 x_w0_11 x_w0_12
  go_wp2_with fail
  refine (toEntryS_any a0 l0 c0 y0 _ (HO_aList_6.out.more HA_6.out.size) (by omega)).mono ?_
  rintro e W_7 ⟨A__t1, c__t1, rfl, hown, hb⟩
  have HO__t1_7 := Lib.hid hown
  have HB_6 := Lib.hid hb
  have HZ_6 := Lib.hid HB_6.out.size
  have HA_7 := Lib.hid (HA_6.out.trans (HB_6.out.mono HA_6.out.size))
  have HO_aList_7 := Lib.hid (HO_aList_6.out.below HB_6.out HA_6.out.size)
  have HO_w0_7 := Lib.hid (RGap.keep HO_w0_6.out fun i hi => HB_6.out.block i (Nat.lt_of_lt_of_le hi (Nat.le_trans (Nat.le_trans HZ_3.out HZ_4.out) HZ_5.out)))
  have HO_x0_7 := Lib.hid (HO_x0_6.out.below HB_6.out (Nat.le_trans HZ_4.out HZ_5.out))
  have HO_g0_7 := Lib.hid (HO_g0_6.out.below HB_6.out (Nat.le_trans HT_5.out HZ_5.out))
  have HX_w0_7 := Lib.hid (HX_w0_6.out.below HB_6.out HX_w0_6.out.lt)
  have HX_g0_7 := Lib.hid (HX_g0_6.out.below HB_6.out HX_g0_6.out.lt)
  clear hb hown
  go_wp2_with fail
  refine (eqEntryS_same _ _ A_x0 A__t1 l0 c_x0 c__t1 y0 _ (HO_x0_7.out.rd.more (Nat.le_trans (Nat.le_trans HZ_4.out HZ_5.out) HZ_6.out)) (HO__t1_7.out.rd.more (Nat.le_refl _)) (Nat.le_refl _) (Nat.le_refl _) (by omega)).mono ?_
  rintro e W_8 ⟨rfl, hb⟩
  have HB_7 := Lib.hid hb
  have HZ_7 := Lib.hid HB_7.out.size
  have HA_8 := Lib.hid (HA_7.out.trans (HB_7.out.mono HA_7.out.size))
  have HO_aList_8 := Lib.hid (HO_aList_7.out.below HB_7.out HA_7.out.size)
  have HO_w0_8 := Lib.hid (RGap.keep HO_w0_7.out fun i hi => HB_7.out.block i (Nat.lt_of_lt_of_le hi (Nat.le_trans (Nat.le_trans (Nat.le_trans HZ_3.out HZ_4.out) HZ_5.out) HZ_6.out)))
  have HO_x0_8 := Lib.hid (HO_x0_7.out.below HB_7.out (Nat.le_trans (Nat.le_trans HZ_4.out HZ_5.out) HZ_6.out))
  have HO_g0_8 := Lib.hid (HO_g0_7.out.below HB_7.out (Nat.le_trans HT_5.out (Nat.le_trans HZ_5.out HZ_6.out)))
  have HX_w0_8 := Lib.hid (HX_w0_7.out.below HB_7.out HX_w0_7.out.lt)
  have HX_g0_8 := Lib.hid (HX_g0_7.out.below HB_7.out HX_g0_7.out.lt)
  clear hb
  go_wp2_with fail
  refine (markEntryS_any _ _ A_x0 l0 c_x0 y0 1 _ HO_x0_8.out (by omega) (by omega) (by omega)).mono ?_
  rintro e W_9 ⟨rfl, hown, hb⟩
  have HO_x0_9 := Lib.hid hown
  clear hown
  have HB_8 := Lib.hid hb
  have HZ_8 := Lib.hid HB_8.out.size
  have HA_9 := Lib.hid (HA_8.out.trans (HB_8.out.below HA_3.out.size HA_8.out.size))
  have HO_aList_9 := Lib.hid (HO_aList_8.out.fr HB_8.out HA_3.out.size HA_8.out.size)
  have HO_w0_9 := Lib.hid (RGap.keep HO_w0_8.out fun i hi => HB_8.out.block i (Nat.lt_of_lt_of_le hi (Nat.le_trans (Nat.le_trans (Nat.le_trans (Nat.le_trans HZ_3.out HZ_4.out) HZ_5.out) HZ_6.out) HZ_7.out)) (.inl (Nat.lt_of_lt_of_le hi (Nat.le_refl _))))
  have HO_g0_9 := Lib.hid (HO_g0_8.out.fr HB_8.out (.inr (Nat.le_refl _)))
  have HX_w0_9 := Lib.hid (HX_w0_8.out.keep (HB_8.out.block _ HX_w0_8.out.lt (.inl (Nat.lt_of_lt_of_le HX_w0_3.out.lt (Nat.le_refl _)))))
  have HX_g0_9 := Lib.hid (HX_g0_8.out.keep (HB_8.out.block _ HX_g0_8.out.lt (.inr (Nat.le_trans (Nat.le_refl _) HQ_5.out))))
  clear hb
  have x_g0_0 := HX_g0_9.out.cell (j := 0) rfl
  have x_g0_1 := HX_g0_9.out.cell (j := 1) rfl
  have x_g0_2 := HX_g0_9.out.cell (j := 2) rfl
  have x_g0_3 := HX_g0_9.out.cell (j := 3) rfl
  have x_g0_4 := HX_g0_9.out.cell (j := 4) rfl
  have x_g0_5 := HX_g0_9.out.cell (j := 5) rfl
  have x_g0_6 := HX_g0_9.out.cell (j := 6) rfl
  have x_g0_7 := HX_g0_9.out.cell (j := 7) rfl
  have x_g0_8 := HX_g0_9.out.cell (j := 8) rfl
  have x_g0_9 := HX_g0_9.out.cell (j := 9) rfl
  have x_g0_10 := HX_g0_9.out.cell (j := 10) rfl
  have x_g0_11 := HX_g0_9.out.cell (j := 11) rfl
  have x_g0_12 := HX_g0_9.out.cell (j := 12) rfl
  have x_w0_0 := HX_w0_9.out.cell (j := 0) rfl
  have x_w0_1 := HX_w0_9.out.cell (j := 1) rfl
  have x_w0_2 := HX_w0_9.out.cell (j := 2) rfl
  have x_w0_3 := HX_w0_9.out.cell (j := 3) rfl
  have x_w0_4 := HX_w0_9.out.cell (j := 4) rfl
  have x_w0_5 := HX_w0_9.out.cell (j := 5) rfl
  have x_w0_6 := HX_w0_9.out.cell (j := 6) rfl
  have x_w0_7 := HX_w0_9.out.cell (j := 7) rfl
  have x_w0_8 := HX_w0_9.out.cell (j := 8) rfl
  have x_w0_9 := HX_w0_9.out.cell (j := 9) rfl
  have x_w0_10 := HX_w0_9.out.cell (j := 10) rfl
  have x_w0_11 := HX_w0_9.out.cell (j := 11) rfl
  have x_w0_12 := HX_w0_9.out.cell (j := 12) rfl
  go_wp2_with fail
  refine (eqGap_same _ _ [(.int .i64 r0.at_), (.string r0.before.label), (.int .i64 r0.before.kind), (.int .i64 r0.before.value), (.slice A_g0_4 n_g0_4 c_g0_4), (.string r0.after.label), (.int .i64 r0.after.kind), (.int .i64 r0.after.value), (.slice A_g0_8 n_g0_8 c_g0_8), (.int .i64 r0.left.at_), (.slice A_g0_10 n_g0_10 c_g0_10), (.int .i64 r0.right.at_), (.slice A_g0_12 n_g0_12 c_g0_12)] [(.int .i64 r0.at_), (.string r0.before.label), (.int .i64 r0.before.kind), (.int .i64 r0.before.value), (.slice A_w0_4 n_w0_4 c_w0_4), (.string r0.after.label), (.int .i64 r0.after.kind), (.int .i64 r0.after.value), (.slice A_w0_8 n_w0_8 c_w0_8), (.int .i64 r0.left.at_), (.slice A_w0_10 n_w0_10 c_w0_10), (.int .i64 r0.right.at_), (.slice A_w0_12 n_w0_12 c_w0_12)] r0 _ (RGap.more HO_g0_9.out.rd fun i hi => Nat.lt_of_lt_of_le hi (Nat.le_trans HT_5.out (Nat.le_trans (Nat.le_trans (Nat.le_trans HZ_5.out HZ_6.out) HZ_7.out) HZ_8.out))) (RGap.more HO_w0_9.out fun i hi => Nat.lt_of_lt_of_le hi (Nat.le_trans (Nat.le_trans (Nat.le_trans (Nat.le_trans (Nat.le_trans HZ_3.out HZ_4.out) HZ_5.out) HZ_6.out) HZ_7.out) HZ_8.out)) (Nat.le_refl _) (Nat.le_refl _) (by omega)).mono ?_
  rintro e W_10 ⟨rfl, hb⟩
  have HB_9 := Lib.hid hb
  have HZ_9 := Lib.hid HB_9.out.size
  have HA_10 := Lib.hid (HA_9.out.trans (HB_9.out.mono HA_9.out.size))
  have HO_aList_10 := Lib.hid (HO_aList_9.out.below HB_9.out HA_9.out.size)
  have HO_w0_10 := Lib.hid (RGap.keep HO_w0_9.out fun i hi => HB_9.out.block i (Nat.lt_of_lt_of_le hi (Nat.le_trans (Nat.le_trans (Nat.le_trans (Nat.le_trans (Nat.le_trans HZ_3.out HZ_4.out) HZ_5.out) HZ_6.out) HZ_7.out) HZ_8.out)))
  have HO_g0_10 := Lib.hid (HO_g0_9.out.below HB_9.out (Nat.le_trans HT_5.out (Nat.le_trans (Nat.le_trans (Nat.le_trans HZ_5.out HZ_6.out) HZ_7.out) HZ_8.out)))
  have HX_w0_10 := Lib.hid (HX_w0_9.out.below HB_9.out HX_w0_9.out.lt)
  have HX_g0_10 := Lib.hid (HX_g0_9.out.below HB_9.out HX_g0_9.out.lt)
  clear hb
  clear x_g0_0 x_g0_1 x_g0_2 x_g0_3 x_g0_4 x_g0_5 x_g0_6 x_g0_7 x_g0_8 x_g0_9 x_g0_10 x_g0_11 x_g0_12 x_w0_0 x_w0_1 x_w0_2 x_w0_3 x_w0_4 x_w0_5 x_w0_6 x_w0_7 x_w0_8 x_w0_9 x_w0_10 x_w0_11 x_w0_12
  have x_g0_0 := HX_g0_10.out.cell (j := 0) rfl
  have x_g0_1 := HX_g0_10.out.cell (j := 1) rfl
  have x_g0_2 := HX_g0_10.out.cell (j := 2) rfl
  have x_g0_3 := HX_g0_10.out.cell (j := 3) rfl
  have x_g0_4 := HX_g0_10.out.cell (j := 4) rfl
  have x_g0_5 := HX_g0_10.out.cell (j := 5) rfl
  have x_g0_6 := HX_g0_10.out.cell (j := 6) rfl
  have x_g0_7 := HX_g0_10.out.cell (j := 7) rfl
  have x_g0_8 := HX_g0_10.out.cell (j := 8) rfl
  have x_g0_9 := HX_g0_10.out.cell (j := 9) rfl
  have x_g0_10 := HX_g0_10.out.cell (j := 10) rfl
  have x_g0_11 := HX_g0_10.out.cell (j := 11) rfl
  have x_g0_12 := HX_g0_10.out.cell (j := 12) rfl
  go_wp2_with fail
  refine (markGap_any _ _ [(.int .i64 r0.at_), (.string r0.before.label), (.int .i64 r0.before.kind), (.int .i64 r0.before.value), (.slice A_g0_4 n_g0_4 c_g0_4), (.string r0.after.label), (.int .i64 r0.after.kind), (.int .i64 r0.after.value), (.slice A_g0_8 n_g0_8 c_g0_8), (.int .i64 r0.left.at_), (.slice A_g0_10 n_g0_10 c_g0_10), (.int .i64 r0.right.at_), (.slice A_g0_12 n_g0_12 c_g0_12)] r0 1 _ HO_g0_10.out (Nat.le_trans HT_5.out (Nat.le_trans (Nat.le_trans (Nat.le_trans (Nat.le_trans HZ_5.out HZ_6.out) HZ_7.out) HZ_8.out) HZ_9.out)) (by omega) (by omega) (by omega)).mono ?_
  rintro e W_11 ⟨rfl, hown, hb⟩
  have HO_g0_11 := Lib.hid hown
  clear hown
  have HB_10 := Lib.hid hb
  have HZ_10 := Lib.hid HB_10.out.size
  have HA_11 := Lib.hid (HA_10.out.trans (HB_10.out.below HA_4.out.size HA_10.out.size))
  have HO_aList_11 := Lib.hid (HO_aList_10.out.fr HB_10.out HA_4.out.size HA_10.out.size)
  have HO_w0_11 := Lib.hid (RGap.keep HO_w0_10.out fun i hi => HB_10.out.block i (Nat.lt_of_lt_of_le hi (Nat.le_trans (Nat.le_trans (Nat.le_trans (Nat.le_trans (Nat.le_trans (Nat.le_trans HZ_3.out HZ_4.out) HZ_5.out) HZ_6.out) HZ_7.out) HZ_8.out) HZ_9.out)) (.inl (Nat.lt_of_lt_of_le hi HZ_3.out)))
  have HX_w0_11 := Lib.hid (HX_w0_10.out.keep (HB_10.out.block _ HX_w0_10.out.lt (.inl (Nat.lt_of_lt_of_le HX_w0_3.out.lt HZ_3.out))))
  have HX_g0_11 := Lib.hid (HX_g0_10.out.keep (HB_10.out.block _ HX_g0_10.out.lt (.inr (Nat.le_refl _))))
  clear hb
  clear x_g0_0 x_g0_1 x_g0_2 x_g0_3 x_g0_4 x_g0_5 x_g0_6 x_g0_7 x_g0_8 x_g0_9 x_g0_10 x_g0_11 x_g0_12
  have x_g0_0 := HX_g0_11.out.cell (j := 0) rfl
  have x_g0_1 := HX_g0_11.out.cell (j := 1) rfl
  have x_g0_2 := HX_g0_11.out.cell (j := 2) rfl
  have x_g0_3 := HX_g0_11.out.cell (j := 3) rfl
  have x_g0_4 := HX_g0_11.out.cell (j := 4) rfl
  have x_g0_5 := HX_g0_11.out.cell (j := 5) rfl
  have x_g0_6 := HX_g0_11.out.cell (j := 6) rfl
  have x_g0_7 := HX_g0_11.out.cell (j := 7) rfl
  have x_g0_8 := HX_g0_11.out.cell (j := 8) rfl
  have x_g0_9 := HX_g0_11.out.cell (j := 9) rfl
  have x_g0_10 := HX_g0_11.out.cell (j := 10) rfl
  have x_g0_11 := HX_g0_11.out.cell (j := 11) rfl
  have x_g0_12 := HX_g0_11.out.cell (j := 12) rfl
  go_wp2_with fail
  refine (heldGap_marks _ [(.int .i64 r0.at_), (.string r0.before.label), (.int .i64 r0.before.kind), (.int .i64 r0.before.value), (.slice A_g0_4 n_g0_4 c_g0_4), (.string r0.after.label), (.int .i64 r0.after.kind), (.int .i64 r0.after.value), (.slice A_g0_8 n_g0_8 c_g0_8), (.int .i64 r0.left.at_), (.slice A_g0_10 n_g0_10 c_g0_10), (.int .i64 r0.right.at_), (.slice A_g0_12 n_g0_12 c_g0_12)] r0 1 _ (RGap.more HO_g0_11.out.rd fun i hi => Nat.lt_of_lt_of_le hi (Nat.le_trans HT_5.out (Nat.le_trans (Nat.le_trans (Nat.le_trans (Nat.le_trans (Nat.le_trans HZ_5.out HZ_6.out) HZ_7.out) HZ_8.out) HZ_9.out) HZ_10.out))) (Nat.le_refl _) (by omega) (by omega) (by omega)).mono ?_
  rintro e W_12 ⟨rfl, hb⟩
  have HB_11 := Lib.hid hb
  have HZ_11 := Lib.hid HB_11.out.size
  have HA_12 := Lib.hid (HA_11.out.trans (HB_11.out.mono HA_11.out.size))
  have HO_aList_12 := Lib.hid (HO_aList_11.out.below HB_11.out HA_11.out.size)
  have HO_w0_12 := Lib.hid (RGap.keep HO_w0_11.out fun i hi => HB_11.out.block i (Nat.lt_of_lt_of_le hi (Nat.le_trans (Nat.le_trans (Nat.le_trans (Nat.le_trans (Nat.le_trans (Nat.le_trans (Nat.le_trans HZ_3.out HZ_4.out) HZ_5.out) HZ_6.out) HZ_7.out) HZ_8.out) HZ_9.out) HZ_10.out)))
  have HO_g0_12 := Lib.hid (HO_g0_11.out.below HB_11.out (Nat.le_trans HT_5.out (Nat.le_trans (Nat.le_trans (Nat.le_trans (Nat.le_trans (Nat.le_trans HZ_5.out HZ_6.out) HZ_7.out) HZ_8.out) HZ_9.out) HZ_10.out)))
  have HX_w0_12 := Lib.hid (HX_w0_11.out.below HB_11.out HX_w0_11.out.lt)
  have HX_g0_12 := Lib.hid (HX_g0_11.out.below HB_11.out HX_g0_11.out.lt)
  clear hb
  clear x_g0_0 x_g0_1 x_g0_2 x_g0_3 x_g0_4 x_g0_5 x_g0_6 x_g0_7 x_g0_8 x_g0_9 x_g0_10 x_g0_11 x_g0_12
  go_wp2_with fail
  refine (toEntryS_any a0 l0 c0 y0 _ (HO_aList_12.out.more HA_12.out.size) (by omega)).mono ?_
  rintro e W_13 ⟨A__t2, c__t2, rfl, hown, hb⟩
  have HO__t2_13 := Lib.hid hown
  have HB_12 := Lib.hid hb
  have HZ_12 := Lib.hid HB_12.out.size
  have HA_13 := Lib.hid (HA_12.out.trans (HB_12.out.mono HA_12.out.size))
  have HO_w0_13 := Lib.hid (RGap.keep HO_w0_12.out fun i hi => HB_12.out.block i (Nat.lt_of_lt_of_le hi (Nat.le_trans (Nat.le_trans (Nat.le_trans (Nat.le_trans (Nat.le_trans (Nat.le_trans (Nat.le_trans (Nat.le_trans HZ_3.out HZ_4.out) HZ_5.out) HZ_6.out) HZ_7.out) HZ_8.out) HZ_9.out) HZ_10.out) HZ_11.out)))
  have HO_g0_13 := Lib.hid (HO_g0_12.out.below HB_12.out (Nat.le_trans HT_5.out (Nat.le_trans (Nat.le_trans (Nat.le_trans (Nat.le_trans (Nat.le_trans (Nat.le_trans HZ_5.out HZ_6.out) HZ_7.out) HZ_8.out) HZ_9.out) HZ_10.out) HZ_11.out)))
  have HX_w0_13 := Lib.hid (HX_w0_12.out.below HB_12.out HX_w0_12.out.lt)
  have HX_g0_13 := Lib.hid (HX_g0_12.out.below HB_12.out HX_g0_12.out.lt)
  clear hb hown
  go_wp2_with fail
  refine (HI.out A__t2 l0 c__t2 _ (HO__t2_13.out.cap.1) (HO__t2_13.out.rd.more (Nat.le_refl _))).mono ?_
  rintro e W_14 ⟨cs_h0, rfl, ho0, hb⟩
  obtain ⟨A_h0_4, n_h0_4, c_h0_4, A_h0_8, n_h0_8, c_h0_8, A_h0_10, n_h0_10, c_h0_10, A_h0_12, n_h0_12, c_h0_12, rfl⟩ := RGap_shape ho0.rd
  have HO_h0_14 := Lib.hid (ho0.alloc (.cells #[(.int .i64 r0.at_), (.string r0.before.label), (.int .i64 r0.before.kind), (.int .i64 r0.before.value), (.slice A_h0_4 n_h0_4 c_h0_4), (.string r0.after.label), (.int .i64 r0.after.kind), (.int .i64 r0.after.value), (.slice A_h0_8 n_h0_8 c_h0_8), (.int .i64 r0.left.at_), (.slice A_h0_10 n_h0_10 c_h0_10), (.int .i64 r0.right.at_), (.slice A_h0_12 n_h0_12 c_h0_12)] 31))
  have HT_14 := Lib.hid (show W_14.heap.size ≤ (W_14.alloc (.cells #[(.int .i64 r0.at_), (.string r0.before.label), (.int .i64 r0.before.kind), (.int .i64 r0.before.value), (.slice A_h0_4 n_h0_4 c_h0_4), (.string r0.after.label), (.int .i64 r0.after.kind), (.int .i64 r0.after.value), (.slice A_h0_8 n_h0_8 c_h0_8), (.int .i64 r0.left.at_), (.slice A_h0_10 n_h0_10 c_h0_10), (.int .i64 r0.right.at_), (.slice A_h0_12 n_h0_12 c_h0_12)] 31)).heap.size by simp)
  have hb13 := hb.alloc hb.size (.cells #[(.int .i64 r0.at_), (.string r0.before.label), (.int .i64 r0.before.kind), (.int .i64 r0.before.value), (.slice A_h0_4 n_h0_4 c_h0_4), (.string r0.after.label), (.int .i64 r0.after.kind), (.int .i64 r0.after.value), (.slice A_h0_8 n_h0_8 c_h0_8), (.int .i64 r0.left.at_), (.slice A_h0_10 n_h0_10 c_h0_10), (.int .i64 r0.right.at_), (.slice A_h0_12 n_h0_12 c_h0_12)] 31)
  have HB_13 := Lib.hid hb13
  have HQ_14 := Lib.hid hb.size
  have HZ_13 := Lib.hid HB_13.out.size
  have HA_14 := Lib.hid (HA_13.out.trans (HB_13.out.mono HA_13.out.size))
  have HO_w0_14 := Lib.hid (RGap.keep HO_w0_13.out fun i hi => HB_13.out.block i (Nat.lt_of_lt_of_le hi (Nat.le_trans (Nat.le_trans (Nat.le_trans (Nat.le_trans (Nat.le_trans (Nat.le_trans (Nat.le_trans (Nat.le_trans (Nat.le_trans HZ_3.out HZ_4.out) HZ_5.out) HZ_6.out) HZ_7.out) HZ_8.out) HZ_9.out) HZ_10.out) HZ_11.out) HZ_12.out)))
  have HO_g0_14 := Lib.hid (HO_g0_13.out.below HB_13.out (Nat.le_trans HT_5.out (Nat.le_trans (Nat.le_trans (Nat.le_trans (Nat.le_trans (Nat.le_trans (Nat.le_trans (Nat.le_trans HZ_5.out HZ_6.out) HZ_7.out) HZ_8.out) HZ_9.out) HZ_10.out) HZ_11.out) HZ_12.out)))
  have HX_w0_14 := Lib.hid (HX_w0_13.out.below HB_13.out HX_w0_13.out.lt)
  have HX_g0_14 := Lib.hid (HX_g0_13.out.below HB_13.out HX_g0_13.out.lt)
  clear hb ho0
  have HX_h0_14 := Lib.hid (show Box (W_14.alloc (.cells #[(.int .i64 r0.at_), (.string r0.before.label), (.int .i64 r0.before.kind), (.int .i64 r0.before.value), (.slice A_h0_4 n_h0_4 c_h0_4), (.string r0.after.label), (.int .i64 r0.after.kind), (.int .i64 r0.after.value), (.slice A_h0_8 n_h0_8 c_h0_8), (.int .i64 r0.left.at_), (.slice A_h0_10 n_h0_10 c_h0_10), (.int .i64 r0.right.at_), (.slice A_h0_12 n_h0_12 c_h0_12)] 31)) W_14.heap.size [(.int .i64 r0.at_), (.string r0.before.label), (.int .i64 r0.before.kind), (.int .i64 r0.before.value), (.slice A_h0_4 n_h0_4 c_h0_4), (.string r0.after.label), (.int .i64 r0.after.kind), (.int .i64 r0.after.value), (.slice A_h0_8 n_h0_8 c_h0_8), (.int .i64 r0.left.at_), (.slice A_h0_10 n_h0_10 c_h0_10), (.int .i64 r0.right.at_), (.slice A_h0_12 n_h0_12 c_h0_12)] from Box.new W_14 #[(.int .i64 r0.at_), (.string r0.before.label), (.int .i64 r0.before.kind), (.int .i64 r0.before.value), (.slice A_h0_4 n_h0_4 c_h0_4), (.string r0.after.label), (.int .i64 r0.after.kind), (.int .i64 r0.after.value), (.slice A_h0_8 n_h0_8 c_h0_8), (.int .i64 r0.left.at_), (.slice A_h0_10 n_h0_10 c_h0_10), (.int .i64 r0.right.at_), (.slice A_h0_12 n_h0_12 c_h0_12)] 31)
  have x_h0_0 := HX_h0_14.out.cell (j := 0) rfl
  have x_h0_1 := HX_h0_14.out.cell (j := 1) rfl
  have x_h0_2 := HX_h0_14.out.cell (j := 2) rfl
  have x_h0_3 := HX_h0_14.out.cell (j := 3) rfl
  have x_h0_4 := HX_h0_14.out.cell (j := 4) rfl
  have x_h0_5 := HX_h0_14.out.cell (j := 5) rfl
  have x_h0_6 := HX_h0_14.out.cell (j := 6) rfl
  have x_h0_7 := HX_h0_14.out.cell (j := 7) rfl
  have x_h0_8 := HX_h0_14.out.cell (j := 8) rfl
  have x_h0_9 := HX_h0_14.out.cell (j := 9) rfl
  have x_h0_10 := HX_h0_14.out.cell (j := 10) rfl
  have x_h0_11 := HX_h0_14.out.cell (j := 11) rfl
  have x_h0_12 := HX_h0_14.out.cell (j := 12) rfl
  have x_w0_0 := HX_w0_14.out.cell (j := 0) rfl
  have x_w0_1 := HX_w0_14.out.cell (j := 1) rfl
  have x_w0_2 := HX_w0_14.out.cell (j := 2) rfl
  have x_w0_3 := HX_w0_14.out.cell (j := 3) rfl
  have x_w0_4 := HX_w0_14.out.cell (j := 4) rfl
  have x_w0_5 := HX_w0_14.out.cell (j := 5) rfl
  have x_w0_6 := HX_w0_14.out.cell (j := 6) rfl
  have x_w0_7 := HX_w0_14.out.cell (j := 7) rfl
  have x_w0_8 := HX_w0_14.out.cell (j := 8) rfl
  have x_w0_9 := HX_w0_14.out.cell (j := 9) rfl
  have x_w0_10 := HX_w0_14.out.cell (j := 10) rfl
  have x_w0_11 := HX_w0_14.out.cell (j := 11) rfl
  have x_w0_12 := HX_w0_14.out.cell (j := 12) rfl
  go_wp2_with fail
  refine (eqGap_same _ _ [(.int .i64 r0.at_), (.string r0.before.label), (.int .i64 r0.before.kind), (.int .i64 r0.before.value), (.slice A_h0_4 n_h0_4 c_h0_4), (.string r0.after.label), (.int .i64 r0.after.kind), (.int .i64 r0.after.value), (.slice A_h0_8 n_h0_8 c_h0_8), (.int .i64 r0.left.at_), (.slice A_h0_10 n_h0_10 c_h0_10), (.int .i64 r0.right.at_), (.slice A_h0_12 n_h0_12 c_h0_12)] [(.int .i64 r0.at_), (.string r0.before.label), (.int .i64 r0.before.kind), (.int .i64 r0.before.value), (.slice A_w0_4 n_w0_4 c_w0_4), (.string r0.after.label), (.int .i64 r0.after.kind), (.int .i64 r0.after.value), (.slice A_w0_8 n_w0_8 c_w0_8), (.int .i64 r0.left.at_), (.slice A_w0_10 n_w0_10 c_w0_10), (.int .i64 r0.right.at_), (.slice A_w0_12 n_w0_12 c_w0_12)] r0 _ (RGap.more HO_h0_14.out.rd fun i hi => Nat.lt_of_lt_of_le hi (Nat.le_trans HT_14.out (Nat.le_refl _))) (RGap.more HO_w0_14.out fun i hi => Nat.lt_of_lt_of_le hi (Nat.le_trans (Nat.le_trans (Nat.le_trans (Nat.le_trans (Nat.le_trans (Nat.le_trans (Nat.le_trans (Nat.le_trans (Nat.le_trans (Nat.le_trans HZ_3.out HZ_4.out) HZ_5.out) HZ_6.out) HZ_7.out) HZ_8.out) HZ_9.out) HZ_10.out) HZ_11.out) HZ_12.out) HZ_13.out)) (Nat.le_refl _) (Nat.le_refl _) (by omega)).mono ?_
  rintro e W_15 ⟨rfl, hb⟩
  have HB_14 := Lib.hid hb
  have HZ_14 := Lib.hid HB_14.out.size
  have HA_15 := Lib.hid (HA_14.out.trans (HB_14.out.mono HA_14.out.size))
  have HO_g0_15 := Lib.hid (HO_g0_14.out.below HB_14.out (Nat.le_trans HT_5.out (Nat.le_trans (Nat.le_trans (Nat.le_trans (Nat.le_trans (Nat.le_trans (Nat.le_trans (Nat.le_trans (Nat.le_trans HZ_5.out HZ_6.out) HZ_7.out) HZ_8.out) HZ_9.out) HZ_10.out) HZ_11.out) HZ_12.out) HZ_13.out)))
  have HX_g0_15 := Lib.hid (HX_g0_14.out.below HB_14.out HX_g0_14.out.lt)
  clear hb
  clear x_h0_0 x_h0_1 x_h0_2 x_h0_3 x_h0_4 x_h0_5 x_h0_6 x_h0_7 x_h0_8 x_h0_9 x_h0_10 x_h0_11 x_h0_12 x_w0_0 x_w0_1 x_w0_2 x_w0_3 x_w0_4 x_w0_5 x_w0_6 x_w0_7 x_w0_8 x_w0_9 x_w0_10 x_w0_11 x_w0_12
  have x_g0_0 := HX_g0_15.out.cell (j := 0) rfl
  have x_g0_1 := HX_g0_15.out.cell (j := 1) rfl
  have x_g0_2 := HX_g0_15.out.cell (j := 2) rfl
  have x_g0_3 := HX_g0_15.out.cell (j := 3) rfl
  have x_g0_4 := HX_g0_15.out.cell (j := 4) rfl
  have x_g0_5 := HX_g0_15.out.cell (j := 5) rfl
  have x_g0_6 := HX_g0_15.out.cell (j := 6) rfl
  have x_g0_7 := HX_g0_15.out.cell (j := 7) rfl
  have x_g0_8 := HX_g0_15.out.cell (j := 8) rfl
  have x_g0_9 := HX_g0_15.out.cell (j := 9) rfl
  have x_g0_10 := HX_g0_15.out.cell (j := 10) rfl
  have x_g0_11 := HX_g0_15.out.cell (j := 11) rfl
  have x_g0_12 := HX_g0_15.out.cell (j := 12) rfl
  go_wp2_with fail
  refine (heldGap_marks _ [(.int .i64 r0.at_), (.string r0.before.label), (.int .i64 r0.before.kind), (.int .i64 r0.before.value), (.slice A_g0_4 n_g0_4 c_g0_4), (.string r0.after.label), (.int .i64 r0.after.kind), (.int .i64 r0.after.value), (.slice A_g0_8 n_g0_8 c_g0_8), (.int .i64 r0.left.at_), (.slice A_g0_10 n_g0_10 c_g0_10), (.int .i64 r0.right.at_), (.slice A_g0_12 n_g0_12 c_g0_12)] r0 1 _ (RGap.more HO_g0_15.out.rd fun i hi => Nat.lt_of_lt_of_le hi (Nat.le_trans HT_5.out (Nat.le_trans (Nat.le_trans (Nat.le_trans (Nat.le_trans (Nat.le_trans (Nat.le_trans (Nat.le_trans (Nat.le_trans (Nat.le_trans HZ_5.out HZ_6.out) HZ_7.out) HZ_8.out) HZ_9.out) HZ_10.out) HZ_11.out) HZ_12.out) HZ_13.out) HZ_14.out))) (Nat.le_refl _) (by omega) (by omega) (by omega)).mono ?_
  rintro e W_16 ⟨rfl, hb⟩
  have HB_15 := Lib.hid hb
  have HZ_15 := Lib.hid HB_15.out.size
  have HA_16 := Lib.hid (HA_15.out.trans (HB_15.out.mono HA_15.out.size))
  clear hb
  clear x_g0_0 x_g0_1 x_g0_2 x_g0_3 x_g0_4 x_g0_5 x_g0_6 x_g0_7 x_g0_8 x_g0_9 x_g0_10 x_g0_11 x_g0_12
  go_wp2
  go_ret
  exact ⟨rfl, HA_16.out⟩
theorem FnExactCheckAbsence_walk (W0 : World) (v0 : Int) (hv0 : (Lit.int .i64 v0).wf = true) (v1 : Int) (hv1 : (Lit.int .i64 v1).wf = true) (v2 : ByteArray) (hv2 : v2.size ≤ maxLen) (u3_0 u3_1 u3_2 u3_3 u3_4 u3_5 u3_6 u3_7 u3_8 u3_9 u3_10 u3_11 u3_12 : Value) (y3 : Gap) (w3 : RGap.rd W0 (Lt W0.heap.size) [u3_0, u3_1, u3_2, u3_3, u3_4, u3_5, u3_6, u3_7, u3_8, u3_9, u3_10, u3_11, u3_12] y3) :
    Calls Try.prog 4 #[.int .i64 v0, .int .i64 v1, .string v2, .agg #[u3_0, u3_1, u3_2, u3_3, u3_4, u3_5, u3_6, u3_7, u3_8, u3_9, u3_10, u3_11, u3_12]] W0 fun e w' => e = .returned (.bool true) ∧ Below W0.heap.size W0 w' := by
  have hV0 : -9223372036854775808 ≤ v0 ∧ v0 ≤ 9223372036854775807 := by simpa [Lit.wf, IntKind.min, IntKind.max, IntKind.signed, IntKind.bits] using hv0
  clear hv0
  have hV1 : -9223372036854775808 ≤ v1 ∧ v1 ≤ 9223372036854775807 := by simpa [Lit.wf, IntKind.min, IntKind.max, IntKind.signed, IntKind.bits] using hv1
  clear hv1
  by_cases hg2 : 1048576 < v2.size
  · have hg : 1048576 < (v2.size : Int) := by omega
    clear w3
    go_enter Try.func4, Try.ntmps4
    go_wp2
    go_ret
    exact ⟨rfl, ((Below.refl _ _).alloc (by first | (simp; done) | (simp; omega)) _)⟩
  have HA_0 := Lib.hid (show Below W0.heap.size W0 (W0.alloc (.cells #[u3_0, u3_1, u3_2, u3_3, u3_4, u3_5, u3_6, u3_7, u3_8, u3_9, u3_10, u3_11, u3_12] 44)) from (Below.refl _ _).alloc (by first | (simp; done) | (simp; omega)) _)
  have HO_aG_0 := Lib.hid (RGap.keep w3 fun i hi => HA_0.out.block i hi)
  have HX_aG_0 := Lib.hid (show Box (W0.alloc (.cells #[u3_0, u3_1, u3_2, u3_3, u3_4, u3_5, u3_6, u3_7, u3_8, u3_9, u3_10, u3_11, u3_12] 44)) (W0.heap.size) [u3_0, u3_1, u3_2, u3_3, u3_4, u3_5, u3_6, u3_7, u3_8, u3_9, u3_10, u3_11, u3_12] from (show Box (W0.alloc (.cells #[u3_0, u3_1, u3_2, u3_3, u3_4, u3_5, u3_6, u3_7, u3_8, u3_9, u3_10, u3_11, u3_12] 44)) (W0.heap.size) [u3_0, u3_1, u3_2, u3_3, u3_4, u3_5, u3_6, u3_7, u3_8, u3_9, u3_10, u3_11, u3_12] by have h := Box.new W0 #[u3_0, u3_1, u3_2, u3_3, u3_4, u3_5, u3_6, u3_7, u3_8, u3_9, u3_10, u3_11, u3_12] 44; simpa using h))
  clear w3
  go_enter Try.func4, Try.ntmps4
  have x_aG_0 := HX_aG_0.out.cell (j := 0) rfl
  have x_aG_1 := HX_aG_0.out.cell (j := 1) rfl
  have x_aG_2 := HX_aG_0.out.cell (j := 2) rfl
  have x_aG_3 := HX_aG_0.out.cell (j := 3) rfl
  have x_aG_4 := HX_aG_0.out.cell (j := 4) rfl
  have x_aG_5 := HX_aG_0.out.cell (j := 5) rfl
  have x_aG_6 := HX_aG_0.out.cell (j := 6) rfl
  have x_aG_7 := HX_aG_0.out.cell (j := 7) rfl
  have x_aG_8 := HX_aG_0.out.cell (j := 8) rfl
  have x_aG_9 := HX_aG_0.out.cell (j := 9) rfl
  have x_aG_10 := HX_aG_0.out.cell (j := 10) rfl
  have x_aG_11 := HX_aG_0.out.cell (j := 11) rfl
  have x_aG_12 := HX_aG_0.out.cell (j := 12) rfl
  by_cases hn_aG : 1048576 < (totGap y3 : Int)
  · have HN := Lib.hid hn_aG
    clear hn_aG
    go_wp2_with fail
    refine (szGap_any [u3_0, u3_1, u3_2, u3_3, u3_4, u3_5, u3_6, u3_7, u3_8, u3_9, u3_10, u3_11, u3_12] y3 1048576 _ (RGap.more HO_aG_0.out fun i hi => Nat.lt_of_lt_of_le hi HA_0.out.size) (by omega) (by omega)).mono ?_
    rw [if_pos HN.out]
    rintro e W_1 ⟨rfl, hb⟩
    have HAe := Lib.hid (HA_0.out.trans (hb.mono HA_0.out.size))
    clear hb
    go_wp2
    go_ret
    exact ⟨rfl, HAe.out⟩
  have hY3 : totGap y3 ≤ 1048576 := by omega
  have HN_aG := Lib.hid hn_aG
  clear hn_aG
  go_wp2_with fail
  refine (szGap_any [u3_0, u3_1, u3_2, u3_3, u3_4, u3_5, u3_6, u3_7, u3_8, u3_9, u3_10, u3_11, u3_12] y3 1048576 _ (RGap.more HO_aG_0.out fun i hi => Nat.lt_of_lt_of_le hi HA_0.out.size) (by omega) (by omega)).mono ?_
  rw [if_neg (show ¬ 1048576 < (totGap y3 : Int) by have := HN_aG.out; omega)]
  rintro e W_1 ⟨rfl, hb⟩
  obtain ⟨qq0, hqq0⟩ : ∃ x, x = 1048576 - (totGap y3 : Int) := ⟨_, rfl⟩
  rw [← hqq0]
  have hqq0l : 0 ≤ qq0 ∧ qq0 ≤ 1048576 := by have := HN_aG.out; omega
  have hqq0n : ¬ qq0 < 0 := by omega
  clear hqq0
  have HB_0 := Lib.hid hb
  have HZ_0 := Lib.hid HB_0.out.size
  have HA_1 := Lib.hid (HA_0.out.trans (HB_0.out.mono HA_0.out.size))
  have HO_aG_1 := Lib.hid (RGap.keep HO_aG_0.out fun i hi => HB_0.out.block i (Nat.lt_of_lt_of_le hi HA_0.out.size))
  have HX_aG_1 := Lib.hid (HX_aG_0.out.below HB_0.out HX_aG_0.out.lt)
  clear hb
  clear x_aG_0 x_aG_1 x_aG_2 x_aG_3 x_aG_4 x_aG_5 x_aG_6 x_aG_7 x_aG_8 x_aG_9 x_aG_10 x_aG_11 x_aG_12
  have x_aG_0 := HX_aG_1.out.cell (j := 0) rfl
  have x_aG_1 := HX_aG_1.out.cell (j := 1) rfl
  have x_aG_2 := HX_aG_1.out.cell (j := 2) rfl
  have x_aG_3 := HX_aG_1.out.cell (j := 3) rfl
  have x_aG_4 := HX_aG_1.out.cell (j := 4) rfl
  have x_aG_5 := HX_aG_1.out.cell (j := 5) rfl
  have x_aG_6 := HX_aG_1.out.cell (j := 6) rfl
  have x_aG_7 := HX_aG_1.out.cell (j := 7) rfl
  have x_aG_8 := HX_aG_1.out.cell (j := 8) rfl
  have x_aG_9 := HX_aG_1.out.cell (j := 9) rfl
  have x_aG_10 := HX_aG_1.out.cell (j := 10) rfl
  have x_aG_11 := HX_aG_1.out.cell (j := 11) rfl
  have x_aG_12 := HX_aG_1.out.cell (j := 12) rfl
  obtain ⟨r0, hS, hI⟩ := both_CheckAbsence v0 v1 v2 y3 hV0 hV1 (by omega) hY3
  have HS := Lib.hid hS
  have HI := Lib.hid hI
  clear hS hI
  have hcy3 := cntGap_le y3
  go_wp2_with fail
  refine (toGap_any [u3_0, u3_1, u3_2, u3_3, u3_4, u3_5, u3_6, u3_7, u3_8, u3_9, u3_10, u3_11, u3_12] y3 _ (RGap.more HO_aG_1.out fun i hi => Nat.lt_of_lt_of_le hi HA_1.out.size) (by omega)).mono ?_
  rintro e W_2 ⟨cs__t0, rfl, hown, hb⟩
  obtain ⟨A__t0_4, n__t0_4, c__t0_4, A__t0_8, n__t0_8, c__t0_8, A__t0_10, n__t0_10, c__t0_10, A__t0_12, n__t0_12, c__t0_12, rfl⟩ := RGap_shape hown.rd
  have HO__t0_2 := Lib.hid (hown)
  have HB_1 := Lib.hid hb
  have HZ_1 := Lib.hid HB_1.out.size
  have HA_2 := Lib.hid (HA_1.out.trans (HB_1.out.mono HA_1.out.size))
  have HO_aG_2 := Lib.hid (RGap.keep HO_aG_1.out fun i hi => HB_1.out.block i (Nat.lt_of_lt_of_le hi HA_1.out.size))
  have HX_aG_2 := Lib.hid (HX_aG_1.out.below HB_1.out HX_aG_1.out.lt)
  clear hb hown
  go_wp2_with fail
  refine (HS.out [(.int .i64 y3.at_), (.string y3.before.label), (.int .i64 y3.before.kind), (.int .i64 y3.before.value), (.slice A__t0_4 n__t0_4 c__t0_4), (.string y3.after.label), (.int .i64 y3.after.kind), (.int .i64 y3.after.value), (.slice A__t0_8 n__t0_8 c__t0_8), (.int .i64 y3.left.at_), (.slice A__t0_10 n__t0_10 c__t0_10), (.int .i64 y3.right.at_), (.slice A__t0_12 n__t0_12 c__t0_12)] _ (RGap.more HO__t0_2.out.rd fun i hi => Nat.lt_of_lt_of_le hi (Nat.le_refl _))).mono ?_
  rintro e W_3 ⟨rfl, hb⟩
  have HB_2 := Lib.hid hb
  have HZ_2 := Lib.hid HB_2.out.size
  have HA_3 := Lib.hid (HA_2.out.trans (HB_2.out.mono HA_2.out.size))
  have HO_aG_3 := Lib.hid (RGap.keep HO_aG_2.out fun i hi => HB_2.out.block i (Nat.lt_of_lt_of_le hi HA_2.out.size))
  have HX_aG_3 := Lib.hid (HX_aG_2.out.below HB_2.out HX_aG_2.out.lt)
  clear hb
  clear x_aG_0 x_aG_1 x_aG_2 x_aG_3 x_aG_4 x_aG_5 x_aG_6 x_aG_7 x_aG_8 x_aG_9 x_aG_10 x_aG_11 x_aG_12
  have x_aG_0 := HX_aG_3.out.cell (j := 0) rfl
  have x_aG_1 := HX_aG_3.out.cell (j := 1) rfl
  have x_aG_2 := HX_aG_3.out.cell (j := 2) rfl
  have x_aG_3 := HX_aG_3.out.cell (j := 3) rfl
  have x_aG_4 := HX_aG_3.out.cell (j := 4) rfl
  have x_aG_5 := HX_aG_3.out.cell (j := 5) rfl
  have x_aG_6 := HX_aG_3.out.cell (j := 6) rfl
  have x_aG_7 := HX_aG_3.out.cell (j := 7) rfl
  have x_aG_8 := HX_aG_3.out.cell (j := 8) rfl
  have x_aG_9 := HX_aG_3.out.cell (j := 9) rfl
  have x_aG_10 := HX_aG_3.out.cell (j := 10) rfl
  have x_aG_11 := HX_aG_3.out.cell (j := 11) rfl
  have x_aG_12 := HX_aG_3.out.cell (j := 12) rfl
  go_wp2_with fail
  refine (toGap_any [u3_0, u3_1, u3_2, u3_3, u3_4, u3_5, u3_6, u3_7, u3_8, u3_9, u3_10, u3_11, u3_12] y3 _ (RGap.more HO_aG_3.out fun i hi => Nat.lt_of_lt_of_le hi HA_3.out.size) (by omega)).mono ?_
  rintro e W_4 ⟨cs_x3, rfl, hown, hb⟩
  obtain ⟨A_x3_4, n_x3_4, c_x3_4, A_x3_8, n_x3_8, c_x3_8, A_x3_10, n_x3_10, c_x3_10, A_x3_12, n_x3_12, c_x3_12, rfl⟩ := RGap_shape hown.rd
  have HO_x3_4 := Lib.hid (hown.alloc (.cells #[(.int .i64 y3.at_), (.string y3.before.label), (.int .i64 y3.before.kind), (.int .i64 y3.before.value), (.slice A_x3_4 n_x3_4 c_x3_4), (.string y3.after.label), (.int .i64 y3.after.kind), (.int .i64 y3.after.value), (.slice A_x3_8 n_x3_8 c_x3_8), (.int .i64 y3.left.at_), (.slice A_x3_10 n_x3_10 c_x3_10), (.int .i64 y3.right.at_), (.slice A_x3_12 n_x3_12 c_x3_12)] 31))
  have HT_4 := Lib.hid (show W_4.heap.size ≤ (W_4.alloc (.cells #[(.int .i64 y3.at_), (.string y3.before.label), (.int .i64 y3.before.kind), (.int .i64 y3.before.value), (.slice A_x3_4 n_x3_4 c_x3_4), (.string y3.after.label), (.int .i64 y3.after.kind), (.int .i64 y3.after.value), (.slice A_x3_8 n_x3_8 c_x3_8), (.int .i64 y3.left.at_), (.slice A_x3_10 n_x3_10 c_x3_10), (.int .i64 y3.right.at_), (.slice A_x3_12 n_x3_12 c_x3_12)] 31)).heap.size by simp)
  have hb3 := hb.alloc hb.size (.cells #[(.int .i64 y3.at_), (.string y3.before.label), (.int .i64 y3.before.kind), (.int .i64 y3.before.value), (.slice A_x3_4 n_x3_4 c_x3_4), (.string y3.after.label), (.int .i64 y3.after.kind), (.int .i64 y3.after.value), (.slice A_x3_8 n_x3_8 c_x3_8), (.int .i64 y3.left.at_), (.slice A_x3_10 n_x3_10 c_x3_10), (.int .i64 y3.right.at_), (.slice A_x3_12 n_x3_12 c_x3_12)] 31)
  have HB_3 := Lib.hid hb3
  have HQ_4 := Lib.hid hb.size
  have HZ_3 := Lib.hid HB_3.out.size
  have HA_4 := Lib.hid (HA_3.out.trans (HB_3.out.mono HA_3.out.size))
  have HO_aG_4 := Lib.hid (RGap.keep HO_aG_3.out fun i hi => HB_3.out.block i (Nat.lt_of_lt_of_le hi HA_3.out.size))
  have HX_aG_4 := Lib.hid (HX_aG_3.out.below HB_3.out HX_aG_3.out.lt)
  clear hb hown
  have HX_x3_4 := Lib.hid (show Box (W_4.alloc (.cells #[(.int .i64 y3.at_), (.string y3.before.label), (.int .i64 y3.before.kind), (.int .i64 y3.before.value), (.slice A_x3_4 n_x3_4 c_x3_4), (.string y3.after.label), (.int .i64 y3.after.kind), (.int .i64 y3.after.value), (.slice A_x3_8 n_x3_8 c_x3_8), (.int .i64 y3.left.at_), (.slice A_x3_10 n_x3_10 c_x3_10), (.int .i64 y3.right.at_), (.slice A_x3_12 n_x3_12 c_x3_12)] 31)) W_4.heap.size [(.int .i64 y3.at_), (.string y3.before.label), (.int .i64 y3.before.kind), (.int .i64 y3.before.value), (.slice A_x3_4 n_x3_4 c_x3_4), (.string y3.after.label), (.int .i64 y3.after.kind), (.int .i64 y3.after.value), (.slice A_x3_8 n_x3_8 c_x3_8), (.int .i64 y3.left.at_), (.slice A_x3_10 n_x3_10 c_x3_10), (.int .i64 y3.right.at_), (.slice A_x3_12 n_x3_12 c_x3_12)] from Box.new W_4 #[(.int .i64 y3.at_), (.string y3.before.label), (.int .i64 y3.before.kind), (.int .i64 y3.before.value), (.slice A_x3_4 n_x3_4 c_x3_4), (.string y3.after.label), (.int .i64 y3.after.kind), (.int .i64 y3.after.value), (.slice A_x3_8 n_x3_8 c_x3_8), (.int .i64 y3.left.at_), (.slice A_x3_10 n_x3_10 c_x3_10), (.int .i64 y3.right.at_), (.slice A_x3_12 n_x3_12 c_x3_12)] 31)
  clear x_aG_0 x_aG_1 x_aG_2 x_aG_3 x_aG_4 x_aG_5 x_aG_6 x_aG_7 x_aG_8 x_aG_9 x_aG_10 x_aG_11 x_aG_12
  have x_x3_0 := HX_x3_4.out.cell (j := 0) rfl
  have x_x3_1 := HX_x3_4.out.cell (j := 1) rfl
  have x_x3_2 := HX_x3_4.out.cell (j := 2) rfl
  have x_x3_3 := HX_x3_4.out.cell (j := 3) rfl
  have x_x3_4 := HX_x3_4.out.cell (j := 4) rfl
  have x_x3_5 := HX_x3_4.out.cell (j := 5) rfl
  have x_x3_6 := HX_x3_4.out.cell (j := 6) rfl
  have x_x3_7 := HX_x3_4.out.cell (j := 7) rfl
  have x_x3_8 := HX_x3_4.out.cell (j := 8) rfl
  have x_x3_9 := HX_x3_4.out.cell (j := 9) rfl
  have x_x3_10 := HX_x3_4.out.cell (j := 10) rfl
  have x_x3_11 := HX_x3_4.out.cell (j := 11) rfl
  have x_x3_12 := HX_x3_4.out.cell (j := 12) rfl
  go_wp2_with fail
  refine (HI.out [(.int .i64 y3.at_), (.string y3.before.label), (.int .i64 y3.before.kind), (.int .i64 y3.before.value), (.slice A_x3_4 n_x3_4 c_x3_4), (.string y3.after.label), (.int .i64 y3.after.kind), (.int .i64 y3.after.value), (.slice A_x3_8 n_x3_8 c_x3_8), (.int .i64 y3.left.at_), (.slice A_x3_10 n_x3_10 c_x3_10), (.int .i64 y3.right.at_), (.slice A_x3_12 n_x3_12 c_x3_12)] _ (RGap.more HO_x3_4.out.rd fun i hi => Nat.lt_of_lt_of_le hi (Nat.le_trans HT_4.out (Nat.le_refl _)))).mono ?_
  rintro e W_5 ⟨rfl, hb⟩
  have HB_4 := Lib.hid hb
  have HZ_4 := Lib.hid HB_4.out.size
  have HA_5 := Lib.hid (HA_4.out.trans (HB_4.out.mono HA_4.out.size))
  have HO_aG_5 := Lib.hid (RGap.keep HO_aG_4.out fun i hi => HB_4.out.block i (Nat.lt_of_lt_of_le hi HA_4.out.size))
  have HO_x3_5 := Lib.hid (HO_x3_4.out.below HB_4.out (Nat.le_trans HT_4.out (Nat.le_refl _)))
  have HX_aG_5 := Lib.hid (HX_aG_4.out.below HB_4.out HX_aG_4.out.lt)
  have HX_x3_5 := Lib.hid (HX_x3_4.out.below HB_4.out HX_x3_4.out.lt)
  clear hb
  clear x_x3_0 x_x3_1 x_x3_2 x_x3_3 x_x3_4 x_x3_5 x_x3_6 x_x3_7 x_x3_8 x_x3_9 x_x3_10 x_x3_11 x_x3_12
  have x_aG_0 := HX_aG_5.out.cell (j := 0) rfl
  have x_aG_1 := HX_aG_5.out.cell (j := 1) rfl
  have x_aG_2 := HX_aG_5.out.cell (j := 2) rfl
  have x_aG_3 := HX_aG_5.out.cell (j := 3) rfl
  have x_aG_4 := HX_aG_5.out.cell (j := 4) rfl
  have x_aG_5 := HX_aG_5.out.cell (j := 5) rfl
  have x_aG_6 := HX_aG_5.out.cell (j := 6) rfl
  have x_aG_7 := HX_aG_5.out.cell (j := 7) rfl
  have x_aG_8 := HX_aG_5.out.cell (j := 8) rfl
  have x_aG_9 := HX_aG_5.out.cell (j := 9) rfl
  have x_aG_10 := HX_aG_5.out.cell (j := 10) rfl
  have x_aG_11 := HX_aG_5.out.cell (j := 11) rfl
  have x_aG_12 := HX_aG_5.out.cell (j := 12) rfl
  have x_x3_0 := HX_x3_5.out.cell (j := 0) rfl
  have x_x3_1 := HX_x3_5.out.cell (j := 1) rfl
  have x_x3_2 := HX_x3_5.out.cell (j := 2) rfl
  have x_x3_3 := HX_x3_5.out.cell (j := 3) rfl
  have x_x3_4 := HX_x3_5.out.cell (j := 4) rfl
  have x_x3_5 := HX_x3_5.out.cell (j := 5) rfl
  have x_x3_6 := HX_x3_5.out.cell (j := 6) rfl
  have x_x3_7 := HX_x3_5.out.cell (j := 7) rfl
  have x_x3_8 := HX_x3_5.out.cell (j := 8) rfl
  have x_x3_9 := HX_x3_5.out.cell (j := 9) rfl
  have x_x3_10 := HX_x3_5.out.cell (j := 10) rfl
  have x_x3_11 := HX_x3_5.out.cell (j := 11) rfl
  have x_x3_12 := HX_x3_5.out.cell (j := 12) rfl
  have HD_aG := Lib.hid (show RGap.rd W_5.drew (Lt W_5.drew.heap.size) [u3_0, u3_1, u3_2, u3_3, u3_4, u3_5, u3_6, u3_7, u3_8, u3_9, u3_10, u3_11, u3_12] y3 from RGap.keep (RGap.more HO_aG_5.out fun i hi => Nat.lt_of_lt_of_le hi HA_5.out.size) fun i _ => rfl)
  go_wp2_with fail
  go_region_held3 (fun w' => w'.cell? ⟨W0.heap.size, 0, none⟩ = some u3_0 ∧ w'.cell? ⟨W0.heap.size, 1, none⟩ = some u3_1 ∧ w'.cell? ⟨W0.heap.size, 2, none⟩ = some u3_2 ∧ w'.cell? ⟨W0.heap.size, 3, none⟩ = some u3_3 ∧ w'.cell? ⟨W0.heap.size, 4, none⟩ = some u3_4 ∧ w'.cell? ⟨W0.heap.size, 5, none⟩ = some u3_5 ∧ w'.cell? ⟨W0.heap.size, 6, none⟩ = some u3_6 ∧ w'.cell? ⟨W0.heap.size, 7, none⟩ = some u3_7 ∧ w'.cell? ⟨W0.heap.size, 8, none⟩ = some u3_8 ∧ w'.cell? ⟨W0.heap.size, 9, none⟩ = some u3_9 ∧ w'.cell? ⟨W0.heap.size, 10, none⟩ = some u3_10 ∧ w'.cell? ⟨W0.heap.size, 11, none⟩ = some u3_11 ∧ w'.cell? ⟨W0.heap.size, 12, none⟩ = some u3_12 ∧ w'.cell? ⟨W_4.heap.size, 0, none⟩ = some (.int .i64 y3.at_) ∧ w'.cell? ⟨W_4.heap.size, 1, none⟩ = some (.string y3.before.label) ∧ w'.cell? ⟨W_4.heap.size, 2, none⟩ = some (.int .i64 y3.before.kind) ∧ w'.cell? ⟨W_4.heap.size, 3, none⟩ = some (.int .i64 y3.before.value) ∧ w'.cell? ⟨W_4.heap.size, 4, none⟩ = some (.slice A_x3_4 n_x3_4 c_x3_4) ∧ w'.cell? ⟨W_4.heap.size, 5, none⟩ = some (.string y3.after.label) ∧ w'.cell? ⟨W_4.heap.size, 6, none⟩ = some (.int .i64 y3.after.kind) ∧ w'.cell? ⟨W_4.heap.size, 7, none⟩ = some (.int .i64 y3.after.value) ∧ w'.cell? ⟨W_4.heap.size, 8, none⟩ = some (.slice A_x3_8 n_x3_8 c_x3_8) ∧ w'.cell? ⟨W_4.heap.size, 9, none⟩ = some (.int .i64 y3.left.at_) ∧ w'.cell? ⟨W_4.heap.size, 10, none⟩ = some (.slice A_x3_10 n_x3_10 c_x3_10) ∧ w'.cell? ⟨W_4.heap.size, 11, none⟩ = some (.int .i64 y3.right.at_) ∧ w'.cell? ⟨W_4.heap.size, 12, none⟩ = some (.slice A_x3_12 n_x3_12 c_x3_12)) (first | exact ⟨x_aG_0, x_aG_1, x_aG_2, x_aG_3, x_aG_4, x_aG_5, x_aG_6, x_aG_7, x_aG_8, x_aG_9, x_aG_10, x_aG_11, x_aG_12, x_x3_0, x_x3_1, x_x3_2, x_x3_3, x_x3_4, x_x3_5, x_x3_6, x_x3_7, x_x3_8, x_x3_9, x_x3_10, x_x3_11, x_x3_12⟩ | exact ⟨x_aG_0_6, x_aG_1_6, x_aG_2_6, x_aG_3_6, x_aG_4_6, x_aG_5_6, x_aG_6_6, x_aG_7_6, x_aG_8_6, x_aG_9_6, x_aG_10_6, x_aG_11_6, x_aG_12_6, x_x3_0_6, x_x3_1_6, x_x3_2_6, x_x3_3_6, x_x3_4_6, x_x3_5_6, x_x3_6_6, x_x3_7_6, x_x3_8_6, x_x3_9_6, x_x3_10_6, x_x3_11_6, x_x3_12_6⟩ | exact ⟨x_aG_0_7, x_aG_1_7, x_aG_2_7, x_aG_3_7, x_aG_4_7, x_aG_5_7, x_aG_6_7, x_aG_7_7, x_aG_8_7, x_aG_9_7, x_aG_10_7, x_aG_11_7, x_aG_12_7, x_x3_0_7, x_x3_1_7, x_x3_2_7, x_x3_3_7, x_x3_4_7, x_x3_5_7, x_x3_6_7, x_x3_7_7, x_x3_8_7, x_x3_9_7, x_x3_10_7, x_x3_11_7, x_x3_12_7⟩) ((first
    | (go_at_call 18; (with_reducible refine (toGap_any [u3_0, u3_1, u3_2, u3_3, u3_4, u3_5, u3_6, u3_7, u3_8, u3_9, u3_10, u3_11, u3_12] y3 W_5.drew HD_aG.out (by omega)).mono ?_); rintro e W_6 ⟨cs__t1, rfl, hown, hb⟩; obtain ⟨A__t1_4, n__t1_4, c__t1_4, A__t1_8, n__t1_8, c__t1_8, A__t1_10, n__t1_10, c__t1_10, A__t1_12, n__t1_12, c__t1_12, rfl⟩ := RGap_shape hown.rd; have HO__t1_6 := Lib.hid (hown); have HB_5 := Lib.hid (below_drew hb); have HZ_5 := Lib.hid HB_5.out.size; have HA_6 := Lib.hid (HA_5.out.trans (HB_5.out.mono HA_5.out.size)); have HO_aG_6 := Lib.hid (RGap.keep HO_aG_5.out fun i hi => HB_5.out.block i (Nat.lt_of_lt_of_le hi HA_5.out.size)); have HO_x3_6 := Lib.hid (HO_x3_5.out.below HB_5.out (Nat.le_trans HT_4.out HZ_4.out)); have HX_aG_6 := Lib.hid (HX_aG_5.out.below HB_5.out HX_aG_5.out.lt); have HX_x3_6 := Lib.hid (HX_x3_5.out.below HB_5.out HX_x3_5.out.lt); clear hb hown; have x_aG_0_6 := HX_aG_6.out.cell (j := 0) rfl; have x_aG_1_6 := HX_aG_6.out.cell (j := 1) rfl; have x_aG_2_6 := HX_aG_6.out.cell (j := 2) rfl; have x_aG_3_6 := HX_aG_6.out.cell (j := 3) rfl; have x_aG_4_6 := HX_aG_6.out.cell (j := 4) rfl; have x_aG_5_6 := HX_aG_6.out.cell (j := 5) rfl; have x_aG_6_6 := HX_aG_6.out.cell (j := 6) rfl; have x_aG_7_6 := HX_aG_6.out.cell (j := 7) rfl; have x_aG_8_6 := HX_aG_6.out.cell (j := 8) rfl; have x_aG_9_6 := HX_aG_6.out.cell (j := 9) rfl; have x_aG_10_6 := HX_aG_6.out.cell (j := 10) rfl; have x_aG_11_6 := HX_aG_6.out.cell (j := 11) rfl; have x_aG_12_6 := HX_aG_6.out.cell (j := 12) rfl; have x_x3_0_6 := HX_x3_6.out.cell (j := 0) rfl; have x_x3_1_6 := HX_x3_6.out.cell (j := 1) rfl; have x_x3_2_6 := HX_x3_6.out.cell (j := 2) rfl; have x_x3_3_6 := HX_x3_6.out.cell (j := 3) rfl; have x_x3_4_6 := HX_x3_6.out.cell (j := 4) rfl; have x_x3_5_6 := HX_x3_6.out.cell (j := 5) rfl; have x_x3_6_6 := HX_x3_6.out.cell (j := 6) rfl; have x_x3_7_6 := HX_x3_6.out.cell (j := 7) rfl; have x_x3_8_6 := HX_x3_6.out.cell (j := 8) rfl; have x_x3_9_6 := HX_x3_6.out.cell (j := 9) rfl; have x_x3_10_6 := HX_x3_6.out.cell (j := 10) rfl; have x_x3_11_6 := HX_x3_6.out.cell (j := 11) rfl; have x_x3_12_6 := HX_x3_6.out.cell (j := 12) rfl)
    | (go_at_call 11; (with_reducible refine (eqGap_same _ _ [(.int .i64 y3.at_), (.string y3.before.label), (.int .i64 y3.before.kind), (.int .i64 y3.before.value), (.slice A_x3_4 n_x3_4 c_x3_4), (.string y3.after.label), (.int .i64 y3.after.kind), (.int .i64 y3.after.value), (.slice A_x3_8 n_x3_8 c_x3_8), (.int .i64 y3.left.at_), (.slice A_x3_10 n_x3_10 c_x3_10), (.int .i64 y3.right.at_), (.slice A_x3_12 n_x3_12 c_x3_12)] [(.int .i64 y3.at_), (.string y3.before.label), (.int .i64 y3.before.kind), (.int .i64 y3.before.value), (.slice A__t1_4 n__t1_4 c__t1_4), (.string y3.after.label), (.int .i64 y3.after.kind), (.int .i64 y3.after.value), (.slice A__t1_8 n__t1_8 c__t1_8), (.int .i64 y3.left.at_), (.slice A__t1_10 n__t1_10 c__t1_10), (.int .i64 y3.right.at_), (.slice A__t1_12 n__t1_12 c__t1_12)] y3 _ (RGap.more HO_x3_6.out.rd fun i hi => Nat.lt_of_lt_of_le hi (Nat.le_trans HT_4.out (Nat.le_trans HZ_4.out HZ_5.out))) (RGap.more HO__t1_6.out.rd fun i hi => Nat.lt_of_lt_of_le hi (Nat.le_refl _)) (Nat.le_refl _) (Nat.le_refl _) (by omega)).mono ?_); rintro e W_7 ⟨rfl, hb⟩; have HB_6 := Lib.hid hb; have HZ_6 := Lib.hid HB_6.out.size; have HA_7 := Lib.hid (HA_6.out.trans (HB_6.out.mono HA_6.out.size)); have HO_aG_7 := Lib.hid (RGap.keep HO_aG_6.out fun i hi => HB_6.out.block i (Nat.lt_of_lt_of_le hi HA_6.out.size)); have HO_x3_7 := Lib.hid (HO_x3_6.out.below HB_6.out (Nat.le_trans HT_4.out (Nat.le_trans HZ_4.out HZ_5.out))); have HX_aG_7 := Lib.hid (HX_aG_6.out.below HB_6.out HX_aG_6.out.lt); have HX_x3_7 := Lib.hid (HX_x3_6.out.below HB_6.out HX_x3_6.out.lt); clear hb; have x_aG_0_7 := HX_aG_7.out.cell (j := 0) rfl; have x_aG_1_7 := HX_aG_7.out.cell (j := 1) rfl; have x_aG_2_7 := HX_aG_7.out.cell (j := 2) rfl; have x_aG_3_7 := HX_aG_7.out.cell (j := 3) rfl; have x_aG_4_7 := HX_aG_7.out.cell (j := 4) rfl; have x_aG_5_7 := HX_aG_7.out.cell (j := 5) rfl; have x_aG_6_7 := HX_aG_7.out.cell (j := 6) rfl; have x_aG_7_7 := HX_aG_7.out.cell (j := 7) rfl; have x_aG_8_7 := HX_aG_7.out.cell (j := 8) rfl; have x_aG_9_7 := HX_aG_7.out.cell (j := 9) rfl; have x_aG_10_7 := HX_aG_7.out.cell (j := 10) rfl; have x_aG_11_7 := HX_aG_7.out.cell (j := 11) rfl; have x_aG_12_7 := HX_aG_7.out.cell (j := 12) rfl; have x_x3_0_7 := HX_x3_7.out.cell (j := 0) rfl; have x_x3_1_7 := HX_x3_7.out.cell (j := 1) rfl; have x_x3_2_7 := HX_x3_7.out.cell (j := 2) rfl; have x_x3_3_7 := HX_x3_7.out.cell (j := 3) rfl; have x_x3_4_7 := HX_x3_7.out.cell (j := 4) rfl; have x_x3_5_7 := HX_x3_7.out.cell (j := 5) rfl; have x_x3_6_7 := HX_x3_7.out.cell (j := 6) rfl; have x_x3_7_7 := HX_x3_7.out.cell (j := 7) rfl; have x_x3_8_7 := HX_x3_7.out.cell (j := 8) rfl; have x_x3_9_7 := HX_x3_7.out.cell (j := 9) rfl; have x_x3_10_7 := HX_x3_7.out.cell (j := 10) rfl; have x_x3_11_7 := HX_x3_7.out.cell (j := 11) rfl; have x_x3_12_7 := HX_x3_7.out.cell (j := 12) rfl)))
  clear x_aG_0 x_aG_1 x_aG_2 x_aG_3 x_aG_4 x_aG_5 x_aG_6 x_aG_7 x_aG_8 x_aG_9 x_aG_10 x_aG_11 x_aG_12 x_x3_0 x_x3_1 x_x3_2 x_x3_3 x_x3_4 x_x3_5 x_x3_6 x_x3_7 x_x3_8 x_x3_9 x_x3_10 x_x3_11 x_x3_12
  go_wp2
  go_ret
  exact ⟨rfl, HA_7.out⟩
theorem FnExactRankOf_walk (W0 : World) (a0 : Option Addr) (l0 c0 : Nat) (y0 : List Entry) (w0 : Rds REntry W0 (Lt W0.heap.size) a0 l0 y0) (hC0 : l0 ≤ c0) (hM0 : c0 ≤ maxLen) (v1 : ByteArray) (hv1 : v1.size ≤ maxLen) :
    Calls Try.prog 5 #[.slice a0 l0 c0, .string v1] W0 fun e w' => e = .returned (.bool true) ∧ Below W0.heap.size W0 w' := by
  have hR0 : FRdEntry W0 W0.heap.size a0 l0 y0 := w0
  have hL0 := hR0.len
  clear w0
  by_cases hg1 : 1048576 < v1.size
  · have hg : 1048576 < (v1.size : Int) := by omega
    clear hR0 hL0 hC0 hM0
    go_enter Try.func5, Try.ntmps5
    go_wp2
    go_ret
    exact ⟨rfl, (Below.refl _ _)⟩
  have HA_0 := Lib.hid (show Below W0.heap.size W0 W0 from Below.refl _ _)
  have HO_aList_0 := Lib.hid (hR0.below HA_0.out (Nat.le_refl _))
  have HC0 := Lib.hid hC0
  have HM0 := Lib.hid hM0
  clear hR0
  go_enter Try.func5, Try.ntmps5
  by_cases hn_aList : 1048576 < (totR totEntry y0 : Int)
  · have HN := Lib.hid hn_aList
    clear hn_aList
    go_wp2_with fail
    refine (szEntryS_any _ a0 l0 c0 y0 1048576 _ (HO_aList_0.out.more HA_0.out.size) (Nat.le_refl _) (by omega) (by omega) (Nat.le_trans HC0.out HM0.out)).mono ?_
    rw [if_pos HN.out]
    rintro e W_1 ⟨rfl, hb⟩
    have HAe := Lib.hid (HA_0.out.trans (hb.mono HA_0.out.size))
    clear hb
    go_wp2
    go_ret
    exact ⟨rfl, HAe.out⟩
  have hY0 : totR totEntry y0 ≤ 1048576 := by omega
  have hYl0 := totR_len totEntry y0
  have HN_aList := Lib.hid hn_aList
  clear hn_aList
  go_wp2_with fail
  refine (szEntryS_any _ a0 l0 c0 y0 1048576 _ (HO_aList_0.out.more HA_0.out.size) (Nat.le_refl _) (by omega) (by omega) (Nat.le_trans HC0.out HM0.out)).mono ?_
  rw [if_neg (show ¬ 1048576 < (totR totEntry y0 : Int) by have := HN_aList.out; omega)]
  rintro e W_1 ⟨rfl, hb⟩
  obtain ⟨qq0, hqq0⟩ : ∃ x, x = 1048576 - (totR totEntry y0 : Int) := ⟨_, rfl⟩
  rw [← hqq0]
  have hqq0l : 0 ≤ qq0 ∧ qq0 ≤ 1048576 := by have := HN_aList.out; omega
  have hqq0n : ¬ qq0 < 0 := by omega
  clear hqq0
  have HB_0 := Lib.hid hb
  have HZ_0 := Lib.hid HB_0.out.size
  have HA_1 := Lib.hid (HA_0.out.trans (HB_0.out.mono HA_0.out.size))
  have HO_aList_1 := Lib.hid (HO_aList_0.out.below HB_0.out HA_0.out.size)
  clear hb
  obtain ⟨r0, hS, hI⟩ := both_RankOf y0 v1 hY0 (by omega)
  have HS := Lib.hid hS
  have HI := Lib.hid hI
  clear hS hI
  have hcy0 := cntR_le totEntry fullEntry fullEntry_le y0
  go_wp2_with fail
  refine (toEntryS_any a0 l0 c0 y0 _ (HO_aList_1.out.more HA_1.out.size) (by omega)).mono ?_
  rintro e W_2 ⟨A__t0, c__t0, rfl, hown, hb⟩
  have HO__t0_2 := Lib.hid hown
  have HB_1 := Lib.hid hb
  have HZ_1 := Lib.hid HB_1.out.size
  have HA_2 := Lib.hid (HA_1.out.trans (HB_1.out.mono HA_1.out.size))
  have HO_aList_2 := Lib.hid (HO_aList_1.out.below HB_1.out HA_1.out.size)
  clear hb hown
  go_wp2_with fail
  refine (HS.out A__t0 l0 c__t0 _ (HO__t0_2.out.cap.1) (HO__t0_2.out.rd.more (Nat.le_refl _))).mono ?_
  rintro e W_3 ⟨rfl, hb⟩
  have HB_2 := Lib.hid hb
  have HZ_2 := Lib.hid HB_2.out.size
  have HA_3 := Lib.hid (HA_2.out.trans (HB_2.out.mono HA_2.out.size))
  have HO_aList_3 := Lib.hid (HO_aList_2.out.below HB_2.out HA_2.out.size)
  clear hb
  go_wp2_with fail
  refine (toEntryS_any a0 l0 c0 y0 _ (HO_aList_3.out.more HA_3.out.size) (by omega)).mono ?_
  rintro e W_4 ⟨A_x0, c_x0, rfl, hown, hb⟩
  have HO_x0_4 := Lib.hid hown
  have HB_3 := Lib.hid hb
  have HZ_3 := Lib.hid HB_3.out.size
  have HA_4 := Lib.hid (HA_3.out.trans (HB_3.out.mono HA_3.out.size))
  have HO_aList_4 := Lib.hid (HO_aList_3.out.below HB_3.out HA_3.out.size)
  clear hb hown
  go_wp2_with fail
  refine (HI.out A_x0 l0 c_x0 _ (HO_x0_4.out.cap.1) (HO_x0_4.out.rd.more (Nat.le_refl _))).mono ?_
  rintro e W_5 ⟨rfl, hb⟩
  have HB_4 := Lib.hid hb
  have HZ_4 := Lib.hid HB_4.out.size
  have HA_5 := Lib.hid (HA_4.out.trans (HB_4.out.mono HA_4.out.size))
  have HO_aList_5 := Lib.hid (HO_aList_4.out.below HB_4.out HA_4.out.size)
  have HO_x0_5 := Lib.hid (HO_x0_4.out.below HB_4.out (Nat.le_refl _))
  clear hb
  go_wp2_with fail
  refine (toEntryS_any a0 l0 c0 y0 _ (HO_aList_5.out.more HA_5.out.size) (by omega)).mono ?_
  rintro e W_6 ⟨A__t1, c__t1, rfl, hown, hb⟩
  have HO__t1_6 := Lib.hid hown
  have HB_5 := Lib.hid hb
  have HZ_5 := Lib.hid HB_5.out.size
  have HA_6 := Lib.hid (HA_5.out.trans (HB_5.out.mono HA_5.out.size))
  have HO_x0_6 := Lib.hid (HO_x0_5.out.below HB_5.out HZ_4.out)
  clear hb hown
  go_wp2_with fail
  refine (eqEntryS_same _ _ A_x0 A__t1 l0 c_x0 c__t1 y0 _ (HO_x0_6.out.rd.more (Nat.le_trans HZ_4.out HZ_5.out)) (HO__t1_6.out.rd.more (Nat.le_refl _)) (Nat.le_refl _) (Nat.le_refl _) (by omega)).mono ?_
  rintro e W_7 ⟨rfl, hb⟩
  have HB_6 := Lib.hid hb
  have HZ_6 := Lib.hid HB_6.out.size
  have HA_7 := Lib.hid (HA_6.out.trans (HB_6.out.mono HA_6.out.size))
  clear hb
  go_wp2
  go_ret
  exact ⟨rfl, HA_7.out⟩
theorem FnExactEqualGaps_walk (W0 : World) (u0_0 u0_1 u0_2 u0_3 u0_4 u0_5 u0_6 u0_7 u0_8 u0_9 u0_10 u0_11 u0_12 : Value) (y0 : Gap) (w0 : RGap.rd W0 (Lt W0.heap.size) [u0_0, u0_1, u0_2, u0_3, u0_4, u0_5, u0_6, u0_7, u0_8, u0_9, u0_10, u0_11, u0_12] y0) (u1_0 u1_1 u1_2 u1_3 u1_4 u1_5 u1_6 u1_7 u1_8 u1_9 u1_10 u1_11 u1_12 : Value) (y1 : Gap) (w1 : RGap.rd W0 (Lt W0.heap.size) [u1_0, u1_1, u1_2, u1_3, u1_4, u1_5, u1_6, u1_7, u1_8, u1_9, u1_10, u1_11, u1_12] y1) :
    Calls Try.prog 6 #[.agg #[u0_0, u0_1, u0_2, u0_3, u0_4, u0_5, u0_6, u0_7, u0_8, u0_9, u0_10, u0_11, u0_12], .agg #[u1_0, u1_1, u1_2, u1_3, u1_4, u1_5, u1_6, u1_7, u1_8, u1_9, u1_10, u1_11, u1_12]] W0 fun e w' => e = .returned (.bool true) ∧ Below W0.heap.size W0 w' := by
  have HA_0 := Lib.hid (show Below W0.heap.size W0 ((W0.alloc (.cells #[u0_0, u0_1, u0_2, u0_3, u0_4, u0_5, u0_6, u0_7, u0_8, u0_9, u0_10, u0_11, u0_12] 44)).alloc (.cells #[u1_0, u1_1, u1_2, u1_3, u1_4, u1_5, u1_6, u1_7, u1_8, u1_9, u1_10, u1_11, u1_12] 44)) from ((Below.refl _ _).alloc (by first | (simp; done) | (simp; omega)) _).alloc (by first | (simp; done) | (simp; omega)) _)
  have HO_aA_0 := Lib.hid (RGap.keep w0 fun i hi => HA_0.out.block i hi)
  have HX_aA_0 := Lib.hid (show Box ((W0.alloc (.cells #[u0_0, u0_1, u0_2, u0_3, u0_4, u0_5, u0_6, u0_7, u0_8, u0_9, u0_10, u0_11, u0_12] 44)).alloc (.cells #[u1_0, u1_1, u1_2, u1_3, u1_4, u1_5, u1_6, u1_7, u1_8, u1_9, u1_10, u1_11, u1_12] 44)) (W0.heap.size) [u0_0, u0_1, u0_2, u0_3, u0_4, u0_5, u0_6, u0_7, u0_8, u0_9, u0_10, u0_11, u0_12] from (show Box (W0.alloc (.cells #[u0_0, u0_1, u0_2, u0_3, u0_4, u0_5, u0_6, u0_7, u0_8, u0_9, u0_10, u0_11, u0_12] 44)) (W0.heap.size) [u0_0, u0_1, u0_2, u0_3, u0_4, u0_5, u0_6, u0_7, u0_8, u0_9, u0_10, u0_11, u0_12] by have h := Box.new W0 #[u0_0, u0_1, u0_2, u0_3, u0_4, u0_5, u0_6, u0_7, u0_8, u0_9, u0_10, u0_11, u0_12] 44; simpa using h).alloc _)
  have HO_aB_0 := Lib.hid (RGap.keep w1 fun i hi => HA_0.out.block i hi)
  have HX_aB_0 := Lib.hid (show Box ((W0.alloc (.cells #[u0_0, u0_1, u0_2, u0_3, u0_4, u0_5, u0_6, u0_7, u0_8, u0_9, u0_10, u0_11, u0_12] 44)).alloc (.cells #[u1_0, u1_1, u1_2, u1_3, u1_4, u1_5, u1_6, u1_7, u1_8, u1_9, u1_10, u1_11, u1_12] 44)) (W0.heap.size + 1) [u1_0, u1_1, u1_2, u1_3, u1_4, u1_5, u1_6, u1_7, u1_8, u1_9, u1_10, u1_11, u1_12] from (show Box ((W0.alloc (.cells #[u0_0, u0_1, u0_2, u0_3, u0_4, u0_5, u0_6, u0_7, u0_8, u0_9, u0_10, u0_11, u0_12] 44)).alloc (.cells #[u1_0, u1_1, u1_2, u1_3, u1_4, u1_5, u1_6, u1_7, u1_8, u1_9, u1_10, u1_11, u1_12] 44)) (W0.heap.size + 1) [u1_0, u1_1, u1_2, u1_3, u1_4, u1_5, u1_6, u1_7, u1_8, u1_9, u1_10, u1_11, u1_12] by have h := Box.new (W0.alloc (.cells #[u0_0, u0_1, u0_2, u0_3, u0_4, u0_5, u0_6, u0_7, u0_8, u0_9, u0_10, u0_11, u0_12] 44)) #[u1_0, u1_1, u1_2, u1_3, u1_4, u1_5, u1_6, u1_7, u1_8, u1_9, u1_10, u1_11, u1_12] 44; simpa using h))
  clear w0
  clear w1
  go_enter Try.func6, Try.ntmps6
  have x_aA_0 := HX_aA_0.out.cell (j := 0) rfl
  have x_aA_1 := HX_aA_0.out.cell (j := 1) rfl
  have x_aA_2 := HX_aA_0.out.cell (j := 2) rfl
  have x_aA_3 := HX_aA_0.out.cell (j := 3) rfl
  have x_aA_4 := HX_aA_0.out.cell (j := 4) rfl
  have x_aA_5 := HX_aA_0.out.cell (j := 5) rfl
  have x_aA_6 := HX_aA_0.out.cell (j := 6) rfl
  have x_aA_7 := HX_aA_0.out.cell (j := 7) rfl
  have x_aA_8 := HX_aA_0.out.cell (j := 8) rfl
  have x_aA_9 := HX_aA_0.out.cell (j := 9) rfl
  have x_aA_10 := HX_aA_0.out.cell (j := 10) rfl
  have x_aA_11 := HX_aA_0.out.cell (j := 11) rfl
  have x_aA_12 := HX_aA_0.out.cell (j := 12) rfl
  by_cases hn_aA : 1048576 < (totGap y0 : Int)
  · have HN := Lib.hid hn_aA
    clear hn_aA
    go_wp2_with fail
    refine (szGap_any [u0_0, u0_1, u0_2, u0_3, u0_4, u0_5, u0_6, u0_7, u0_8, u0_9, u0_10, u0_11, u0_12] y0 1048576 _ (RGap.more HO_aA_0.out fun i hi => Nat.lt_of_lt_of_le hi HA_0.out.size) (by omega) (by omega)).mono ?_
    rw [if_pos HN.out]
    rintro e W_1 ⟨rfl, hb⟩
    have HAe := Lib.hid (HA_0.out.trans (hb.mono HA_0.out.size))
    clear hb
    go_wp2
    go_ret
    exact ⟨rfl, HAe.out⟩
  have hY0 : totGap y0 ≤ 1048576 := by omega
  have HN_aA := Lib.hid hn_aA
  clear hn_aA
  go_wp2_with fail
  refine (szGap_any [u0_0, u0_1, u0_2, u0_3, u0_4, u0_5, u0_6, u0_7, u0_8, u0_9, u0_10, u0_11, u0_12] y0 1048576 _ (RGap.more HO_aA_0.out fun i hi => Nat.lt_of_lt_of_le hi HA_0.out.size) (by omega) (by omega)).mono ?_
  rw [if_neg (show ¬ 1048576 < (totGap y0 : Int) by have := HN_aA.out; omega)]
  rintro e W_1 ⟨rfl, hb⟩
  obtain ⟨qq0, hqq0⟩ : ∃ x, x = 1048576 - (totGap y0 : Int) := ⟨_, rfl⟩
  rw [← hqq0]
  have hqq0l : 0 ≤ qq0 ∧ qq0 ≤ 1048576 := by have := HN_aA.out; omega
  have hqq0n : ¬ qq0 < 0 := by omega
  clear hqq0
  have HB_0 := Lib.hid hb
  have HZ_0 := Lib.hid HB_0.out.size
  have HA_1 := Lib.hid (HA_0.out.trans (HB_0.out.mono HA_0.out.size))
  have HO_aA_1 := Lib.hid (RGap.keep HO_aA_0.out fun i hi => HB_0.out.block i (Nat.lt_of_lt_of_le hi HA_0.out.size))
  have HO_aB_1 := Lib.hid (RGap.keep HO_aB_0.out fun i hi => HB_0.out.block i (Nat.lt_of_lt_of_le hi HA_0.out.size))
  have HX_aA_1 := Lib.hid (HX_aA_0.out.below HB_0.out HX_aA_0.out.lt)
  have HX_aB_1 := Lib.hid (HX_aB_0.out.below HB_0.out HX_aB_0.out.lt)
  clear hb
  clear x_aA_0 x_aA_1 x_aA_2 x_aA_3 x_aA_4 x_aA_5 x_aA_6 x_aA_7 x_aA_8 x_aA_9 x_aA_10 x_aA_11 x_aA_12
  have x_aB_0 := HX_aB_1.out.cell (j := 0) rfl
  have x_aB_1 := HX_aB_1.out.cell (j := 1) rfl
  have x_aB_2 := HX_aB_1.out.cell (j := 2) rfl
  have x_aB_3 := HX_aB_1.out.cell (j := 3) rfl
  have x_aB_4 := HX_aB_1.out.cell (j := 4) rfl
  have x_aB_5 := HX_aB_1.out.cell (j := 5) rfl
  have x_aB_6 := HX_aB_1.out.cell (j := 6) rfl
  have x_aB_7 := HX_aB_1.out.cell (j := 7) rfl
  have x_aB_8 := HX_aB_1.out.cell (j := 8) rfl
  have x_aB_9 := HX_aB_1.out.cell (j := 9) rfl
  have x_aB_10 := HX_aB_1.out.cell (j := 10) rfl
  have x_aB_11 := HX_aB_1.out.cell (j := 11) rfl
  have x_aB_12 := HX_aB_1.out.cell (j := 12) rfl
  by_cases hn_aB : qq0 < (totGap y1 : Int)
  · have HN := Lib.hid hn_aB
    clear hn_aB
    go_wp2_with fail
    refine (szGap_any [u1_0, u1_1, u1_2, u1_3, u1_4, u1_5, u1_6, u1_7, u1_8, u1_9, u1_10, u1_11, u1_12] y1 qq0 _ (RGap.more HO_aB_1.out fun i hi => Nat.lt_of_lt_of_le hi HA_1.out.size) (by omega) (by omega)).mono ?_
    rw [if_pos HN.out]
    rintro e W_2 ⟨rfl, hb⟩
    have HAe := Lib.hid (HA_1.out.trans (hb.mono HA_1.out.size))
    clear hb
    go_wp2
    go_ret
    exact ⟨rfl, HAe.out⟩
  have hY1 : totGap y1 ≤ 1048576 := by omega
  have HN_aB := Lib.hid hn_aB
  clear hn_aB
  go_wp2_with fail
  refine (szGap_any [u1_0, u1_1, u1_2, u1_3, u1_4, u1_5, u1_6, u1_7, u1_8, u1_9, u1_10, u1_11, u1_12] y1 qq0 _ (RGap.more HO_aB_1.out fun i hi => Nat.lt_of_lt_of_le hi HA_1.out.size) (by omega) (by omega)).mono ?_
  rw [if_neg (show ¬ qq0 < (totGap y1 : Int) by have := HN_aB.out; omega)]
  rintro e W_2 ⟨rfl, hb⟩
  obtain ⟨qq1, hqq1⟩ : ∃ x, x = qq0 - (totGap y1 : Int) := ⟨_, rfl⟩
  rw [← hqq1]
  have hqq1l : 0 ≤ qq1 ∧ qq1 ≤ 1048576 := by have := HN_aB.out; omega
  have hqq1n : ¬ qq1 < 0 := by omega
  clear hqq1
  have HB_1 := Lib.hid hb
  have HZ_1 := Lib.hid HB_1.out.size
  have HA_2 := Lib.hid (HA_1.out.trans (HB_1.out.mono HA_1.out.size))
  have HO_aA_2 := Lib.hid (RGap.keep HO_aA_1.out fun i hi => HB_1.out.block i (Nat.lt_of_lt_of_le hi HA_1.out.size))
  have HO_aB_2 := Lib.hid (RGap.keep HO_aB_1.out fun i hi => HB_1.out.block i (Nat.lt_of_lt_of_le hi HA_1.out.size))
  have HX_aA_2 := Lib.hid (HX_aA_1.out.below HB_1.out HX_aA_1.out.lt)
  have HX_aB_2 := Lib.hid (HX_aB_1.out.below HB_1.out HX_aB_1.out.lt)
  clear hb
  clear x_aB_0 x_aB_1 x_aB_2 x_aB_3 x_aB_4 x_aB_5 x_aB_6 x_aB_7 x_aB_8 x_aB_9 x_aB_10 x_aB_11 x_aB_12
  have x_aA_0 := HX_aA_2.out.cell (j := 0) rfl
  have x_aA_1 := HX_aA_2.out.cell (j := 1) rfl
  have x_aA_2 := HX_aA_2.out.cell (j := 2) rfl
  have x_aA_3 := HX_aA_2.out.cell (j := 3) rfl
  have x_aA_4 := HX_aA_2.out.cell (j := 4) rfl
  have x_aA_5 := HX_aA_2.out.cell (j := 5) rfl
  have x_aA_6 := HX_aA_2.out.cell (j := 6) rfl
  have x_aA_7 := HX_aA_2.out.cell (j := 7) rfl
  have x_aA_8 := HX_aA_2.out.cell (j := 8) rfl
  have x_aA_9 := HX_aA_2.out.cell (j := 9) rfl
  have x_aA_10 := HX_aA_2.out.cell (j := 10) rfl
  have x_aA_11 := HX_aA_2.out.cell (j := 11) rfl
  have x_aA_12 := HX_aA_2.out.cell (j := 12) rfl
  have x_aB_0 := HX_aB_2.out.cell (j := 0) rfl
  have x_aB_1 := HX_aB_2.out.cell (j := 1) rfl
  have x_aB_2 := HX_aB_2.out.cell (j := 2) rfl
  have x_aB_3 := HX_aB_2.out.cell (j := 3) rfl
  have x_aB_4 := HX_aB_2.out.cell (j := 4) rfl
  have x_aB_5 := HX_aB_2.out.cell (j := 5) rfl
  have x_aB_6 := HX_aB_2.out.cell (j := 6) rfl
  have x_aB_7 := HX_aB_2.out.cell (j := 7) rfl
  have x_aB_8 := HX_aB_2.out.cell (j := 8) rfl
  have x_aB_9 := HX_aB_2.out.cell (j := 9) rfl
  have x_aB_10 := HX_aB_2.out.cell (j := 10) rfl
  have x_aB_11 := HX_aB_2.out.cell (j := 11) rfl
  have x_aB_12 := HX_aB_2.out.cell (j := 12) rfl
  have HD_aA := Lib.hid (show RGap.rd W_2.drew (Lt W_2.drew.heap.size) [u0_0, u0_1, u0_2, u0_3, u0_4, u0_5, u0_6, u0_7, u0_8, u0_9, u0_10, u0_11, u0_12] y0 from RGap.keep (RGap.more HO_aA_2.out fun i hi => Nat.lt_of_lt_of_le hi HA_2.out.size) fun i _ => rfl)
  obtain ⟨r0, hS, hI⟩ := both_EqualGaps y0 y1 hY0 hY1
  have HS := Lib.hid hS
  have HI := Lib.hid hI
  clear hS hI
  have hcy0 := cntGap_le y0
  have hcy1 := cntGap_le y1
  go_wp2_with fail
  go_region_held3 (fun w' => w'.cell? ⟨W0.heap.size, 0, none⟩ = some u0_0 ∧ w'.cell? ⟨W0.heap.size, 1, none⟩ = some u0_1 ∧ w'.cell? ⟨W0.heap.size, 2, none⟩ = some u0_2 ∧ w'.cell? ⟨W0.heap.size, 3, none⟩ = some u0_3 ∧ w'.cell? ⟨W0.heap.size, 4, none⟩ = some u0_4 ∧ w'.cell? ⟨W0.heap.size, 5, none⟩ = some u0_5 ∧ w'.cell? ⟨W0.heap.size, 6, none⟩ = some u0_6 ∧ w'.cell? ⟨W0.heap.size, 7, none⟩ = some u0_7 ∧ w'.cell? ⟨W0.heap.size, 8, none⟩ = some u0_8 ∧ w'.cell? ⟨W0.heap.size, 9, none⟩ = some u0_9 ∧ w'.cell? ⟨W0.heap.size, 10, none⟩ = some u0_10 ∧ w'.cell? ⟨W0.heap.size, 11, none⟩ = some u0_11 ∧ w'.cell? ⟨W0.heap.size, 12, none⟩ = some u0_12 ∧ w'.cell? ⟨W0.heap.size + 1, 0, none⟩ = some u1_0 ∧ w'.cell? ⟨W0.heap.size + 1, 1, none⟩ = some u1_1 ∧ w'.cell? ⟨W0.heap.size + 1, 2, none⟩ = some u1_2 ∧ w'.cell? ⟨W0.heap.size + 1, 3, none⟩ = some u1_3 ∧ w'.cell? ⟨W0.heap.size + 1, 4, none⟩ = some u1_4 ∧ w'.cell? ⟨W0.heap.size + 1, 5, none⟩ = some u1_5 ∧ w'.cell? ⟨W0.heap.size + 1, 6, none⟩ = some u1_6 ∧ w'.cell? ⟨W0.heap.size + 1, 7, none⟩ = some u1_7 ∧ w'.cell? ⟨W0.heap.size + 1, 8, none⟩ = some u1_8 ∧ w'.cell? ⟨W0.heap.size + 1, 9, none⟩ = some u1_9 ∧ w'.cell? ⟨W0.heap.size + 1, 10, none⟩ = some u1_10 ∧ w'.cell? ⟨W0.heap.size + 1, 11, none⟩ = some u1_11 ∧ w'.cell? ⟨W0.heap.size + 1, 12, none⟩ = some u1_12) (first | exact ⟨x_aA_0, x_aA_1, x_aA_2, x_aA_3, x_aA_4, x_aA_5, x_aA_6, x_aA_7, x_aA_8, x_aA_9, x_aA_10, x_aA_11, x_aA_12, x_aB_0, x_aB_1, x_aB_2, x_aB_3, x_aB_4, x_aB_5, x_aB_6, x_aB_7, x_aB_8, x_aB_9, x_aB_10, x_aB_11, x_aB_12⟩ | exact ⟨x_aA_0_3, x_aA_1_3, x_aA_2_3, x_aA_3_3, x_aA_4_3, x_aA_5_3, x_aA_6_3, x_aA_7_3, x_aA_8_3, x_aA_9_3, x_aA_10_3, x_aA_11_3, x_aA_12_3, x_aB_0_3, x_aB_1_3, x_aB_2_3, x_aB_3_3, x_aB_4_3, x_aB_5_3, x_aB_6_3, x_aB_7_3, x_aB_8_3, x_aB_9_3, x_aB_10_3, x_aB_11_3, x_aB_12_3⟩ | exact ⟨x_aA_0_4, x_aA_1_4, x_aA_2_4, x_aA_3_4, x_aA_4_4, x_aA_5_4, x_aA_6_4, x_aA_7_4, x_aA_8_4, x_aA_9_4, x_aA_10_4, x_aA_11_4, x_aA_12_4, x_aB_0_4, x_aB_1_4, x_aB_2_4, x_aB_3_4, x_aB_4_4, x_aB_5_4, x_aB_6_4, x_aB_7_4, x_aB_8_4, x_aB_9_4, x_aB_10_4, x_aB_11_4, x_aB_12_4⟩ | exact ⟨x_aA_0_5, x_aA_1_5, x_aA_2_5, x_aA_3_5, x_aA_4_5, x_aA_5_5, x_aA_6_5, x_aA_7_5, x_aA_8_5, x_aA_9_5, x_aA_10_5, x_aA_11_5, x_aA_12_5, x_aB_0_5, x_aB_1_5, x_aB_2_5, x_aB_3_5, x_aB_4_5, x_aB_5_5, x_aB_6_5, x_aB_7_5, x_aB_8_5, x_aB_9_5, x_aB_10_5, x_aB_11_5, x_aB_12_5⟩) ((first
    | (go_at_call 18; (with_reducible refine (toGap_any [u0_0, u0_1, u0_2, u0_3, u0_4, u0_5, u0_6, u0_7, u0_8, u0_9, u0_10, u0_11, u0_12] y0 W_2.drew HD_aA.out (by omega)).mono ?_); rintro e W_3 ⟨cs__t0, rfl, hown, hb⟩; obtain ⟨A__t0_4, n__t0_4, c__t0_4, A__t0_8, n__t0_8, c__t0_8, A__t0_10, n__t0_10, c__t0_10, A__t0_12, n__t0_12, c__t0_12, rfl⟩ := RGap_shape hown.rd; have HO__t0_3 := Lib.hid (hown); have HB_2 := Lib.hid (below_drew hb); have HZ_2 := Lib.hid HB_2.out.size; have HA_3 := Lib.hid (HA_2.out.trans (HB_2.out.mono HA_2.out.size)); have HO_aA_3 := Lib.hid (RGap.keep HO_aA_2.out fun i hi => HB_2.out.block i (Nat.lt_of_lt_of_le hi HA_2.out.size)); have HO_aB_3 := Lib.hid (RGap.keep HO_aB_2.out fun i hi => HB_2.out.block i (Nat.lt_of_lt_of_le hi HA_2.out.size)); have HX_aA_3 := Lib.hid (HX_aA_2.out.below HB_2.out HX_aA_2.out.lt); have HX_aB_3 := Lib.hid (HX_aB_2.out.below HB_2.out HX_aB_2.out.lt); clear hb hown; have x_aA_0_3 := HX_aA_3.out.cell (j := 0) rfl; have x_aA_1_3 := HX_aA_3.out.cell (j := 1) rfl; have x_aA_2_3 := HX_aA_3.out.cell (j := 2) rfl; have x_aA_3_3 := HX_aA_3.out.cell (j := 3) rfl; have x_aA_4_3 := HX_aA_3.out.cell (j := 4) rfl; have x_aA_5_3 := HX_aA_3.out.cell (j := 5) rfl; have x_aA_6_3 := HX_aA_3.out.cell (j := 6) rfl; have x_aA_7_3 := HX_aA_3.out.cell (j := 7) rfl; have x_aA_8_3 := HX_aA_3.out.cell (j := 8) rfl; have x_aA_9_3 := HX_aA_3.out.cell (j := 9) rfl; have x_aA_10_3 := HX_aA_3.out.cell (j := 10) rfl; have x_aA_11_3 := HX_aA_3.out.cell (j := 11) rfl; have x_aA_12_3 := HX_aA_3.out.cell (j := 12) rfl; have x_aB_0_3 := HX_aB_3.out.cell (j := 0) rfl; have x_aB_1_3 := HX_aB_3.out.cell (j := 1) rfl; have x_aB_2_3 := HX_aB_3.out.cell (j := 2) rfl; have x_aB_3_3 := HX_aB_3.out.cell (j := 3) rfl; have x_aB_4_3 := HX_aB_3.out.cell (j := 4) rfl; have x_aB_5_3 := HX_aB_3.out.cell (j := 5) rfl; have x_aB_6_3 := HX_aB_3.out.cell (j := 6) rfl; have x_aB_7_3 := HX_aB_3.out.cell (j := 7) rfl; have x_aB_8_3 := HX_aB_3.out.cell (j := 8) rfl; have x_aB_9_3 := HX_aB_3.out.cell (j := 9) rfl; have x_aB_10_3 := HX_aB_3.out.cell (j := 10) rfl; have x_aB_11_3 := HX_aB_3.out.cell (j := 11) rfl; have x_aB_12_3 := HX_aB_3.out.cell (j := 12) rfl)
    | (go_at_call 18; (with_reducible refine (toGap_any [u1_0, u1_1, u1_2, u1_3, u1_4, u1_5, u1_6, u1_7, u1_8, u1_9, u1_10, u1_11, u1_12] y1 _ (RGap.more HO_aB_3.out fun i hi => Nat.lt_of_lt_of_le hi HA_3.out.size) (by omega)).mono ?_); rintro e W_4 ⟨cs__t1, rfl, hown, hb⟩; obtain ⟨A__t1_4, n__t1_4, c__t1_4, A__t1_8, n__t1_8, c__t1_8, A__t1_10, n__t1_10, c__t1_10, A__t1_12, n__t1_12, c__t1_12, rfl⟩ := RGap_shape hown.rd; have HO__t1_4 := Lib.hid (hown); have HB_3 := Lib.hid hb; have HZ_3 := Lib.hid HB_3.out.size; have HA_4 := Lib.hid (HA_3.out.trans (HB_3.out.mono HA_3.out.size)); have HO_aA_4 := Lib.hid (RGap.keep HO_aA_3.out fun i hi => HB_3.out.block i (Nat.lt_of_lt_of_le hi HA_3.out.size)); have HO_aB_4 := Lib.hid (RGap.keep HO_aB_3.out fun i hi => HB_3.out.block i (Nat.lt_of_lt_of_le hi HA_3.out.size)); have HO__t0_4 := Lib.hid (HO__t0_3.out.below HB_3.out (Nat.le_refl _)); have HX_aA_4 := Lib.hid (HX_aA_3.out.below HB_3.out HX_aA_3.out.lt); have HX_aB_4 := Lib.hid (HX_aB_3.out.below HB_3.out HX_aB_3.out.lt); clear hb hown; have x_aA_0_4 := HX_aA_4.out.cell (j := 0) rfl; have x_aA_1_4 := HX_aA_4.out.cell (j := 1) rfl; have x_aA_2_4 := HX_aA_4.out.cell (j := 2) rfl; have x_aA_3_4 := HX_aA_4.out.cell (j := 3) rfl; have x_aA_4_4 := HX_aA_4.out.cell (j := 4) rfl; have x_aA_5_4 := HX_aA_4.out.cell (j := 5) rfl; have x_aA_6_4 := HX_aA_4.out.cell (j := 6) rfl; have x_aA_7_4 := HX_aA_4.out.cell (j := 7) rfl; have x_aA_8_4 := HX_aA_4.out.cell (j := 8) rfl; have x_aA_9_4 := HX_aA_4.out.cell (j := 9) rfl; have x_aA_10_4 := HX_aA_4.out.cell (j := 10) rfl; have x_aA_11_4 := HX_aA_4.out.cell (j := 11) rfl; have x_aA_12_4 := HX_aA_4.out.cell (j := 12) rfl; have x_aB_0_4 := HX_aB_4.out.cell (j := 0) rfl; have x_aB_1_4 := HX_aB_4.out.cell (j := 1) rfl; have x_aB_2_4 := HX_aB_4.out.cell (j := 2) rfl; have x_aB_3_4 := HX_aB_4.out.cell (j := 3) rfl; have x_aB_4_4 := HX_aB_4.out.cell (j := 4) rfl; have x_aB_5_4 := HX_aB_4.out.cell (j := 5) rfl; have x_aB_6_4 := HX_aB_4.out.cell (j := 6) rfl; have x_aB_7_4 := HX_aB_4.out.cell (j := 7) rfl; have x_aB_8_4 := HX_aB_4.out.cell (j := 8) rfl; have x_aB_9_4 := HX_aB_4.out.cell (j := 9) rfl; have x_aB_10_4 := HX_aB_4.out.cell (j := 10) rfl; have x_aB_11_4 := HX_aB_4.out.cell (j := 11) rfl; have x_aB_12_4 := HX_aB_4.out.cell (j := 12) rfl)
    | (go_at_call 22; (with_reducible refine (HS.out [(.int .i64 y0.at_), (.string y0.before.label), (.int .i64 y0.before.kind), (.int .i64 y0.before.value), (.slice A__t0_4 n__t0_4 c__t0_4), (.string y0.after.label), (.int .i64 y0.after.kind), (.int .i64 y0.after.value), (.slice A__t0_8 n__t0_8 c__t0_8), (.int .i64 y0.left.at_), (.slice A__t0_10 n__t0_10 c__t0_10), (.int .i64 y0.right.at_), (.slice A__t0_12 n__t0_12 c__t0_12)] [(.int .i64 y1.at_), (.string y1.before.label), (.int .i64 y1.before.kind), (.int .i64 y1.before.value), (.slice A__t1_4 n__t1_4 c__t1_4), (.string y1.after.label), (.int .i64 y1.after.kind), (.int .i64 y1.after.value), (.slice A__t1_8 n__t1_8 c__t1_8), (.int .i64 y1.left.at_), (.slice A__t1_10 n__t1_10 c__t1_10), (.int .i64 y1.right.at_), (.slice A__t1_12 n__t1_12 c__t1_12)] _ (RGap.more HO__t0_4.out.rd fun i hi => Nat.lt_of_lt_of_le hi HZ_3.out) (RGap.more HO__t1_4.out.rd fun i hi => Nat.lt_of_lt_of_le hi (Nat.le_refl _))).mono ?_); rintro e W_5 ⟨rfl, hb⟩; have HB_4 := Lib.hid hb; have HZ_4 := Lib.hid HB_4.out.size; have HA_5 := Lib.hid (HA_4.out.trans (HB_4.out.mono HA_4.out.size)); have HO_aA_5 := Lib.hid (RGap.keep HO_aA_4.out fun i hi => HB_4.out.block i (Nat.lt_of_lt_of_le hi HA_4.out.size)); have HO_aB_5 := Lib.hid (RGap.keep HO_aB_4.out fun i hi => HB_4.out.block i (Nat.lt_of_lt_of_le hi HA_4.out.size)); have HX_aA_5 := Lib.hid (HX_aA_4.out.below HB_4.out HX_aA_4.out.lt); have HX_aB_5 := Lib.hid (HX_aB_4.out.below HB_4.out HX_aB_4.out.lt); clear hb; have x_aA_0_5 := HX_aA_5.out.cell (j := 0) rfl; have x_aA_1_5 := HX_aA_5.out.cell (j := 1) rfl; have x_aA_2_5 := HX_aA_5.out.cell (j := 2) rfl; have x_aA_3_5 := HX_aA_5.out.cell (j := 3) rfl; have x_aA_4_5 := HX_aA_5.out.cell (j := 4) rfl; have x_aA_5_5 := HX_aA_5.out.cell (j := 5) rfl; have x_aA_6_5 := HX_aA_5.out.cell (j := 6) rfl; have x_aA_7_5 := HX_aA_5.out.cell (j := 7) rfl; have x_aA_8_5 := HX_aA_5.out.cell (j := 8) rfl; have x_aA_9_5 := HX_aA_5.out.cell (j := 9) rfl; have x_aA_10_5 := HX_aA_5.out.cell (j := 10) rfl; have x_aA_11_5 := HX_aA_5.out.cell (j := 11) rfl; have x_aA_12_5 := HX_aA_5.out.cell (j := 12) rfl; have x_aB_0_5 := HX_aB_5.out.cell (j := 0) rfl; have x_aB_1_5 := HX_aB_5.out.cell (j := 1) rfl; have x_aB_2_5 := HX_aB_5.out.cell (j := 2) rfl; have x_aB_3_5 := HX_aB_5.out.cell (j := 3) rfl; have x_aB_4_5 := HX_aB_5.out.cell (j := 4) rfl; have x_aB_5_5 := HX_aB_5.out.cell (j := 5) rfl; have x_aB_6_5 := HX_aB_5.out.cell (j := 6) rfl; have x_aB_7_5 := HX_aB_5.out.cell (j := 7) rfl; have x_aB_8_5 := HX_aB_5.out.cell (j := 8) rfl; have x_aB_9_5 := HX_aB_5.out.cell (j := 9) rfl; have x_aB_10_5 := HX_aB_5.out.cell (j := 10) rfl; have x_aB_11_5 := HX_aB_5.out.cell (j := 11) rfl; have x_aB_12_5 := HX_aB_5.out.cell (j := 12) rfl)))
  clear x_aA_0 x_aA_1 x_aA_2 x_aA_3 x_aA_4 x_aA_5 x_aA_6 x_aA_7 x_aA_8 x_aA_9 x_aA_10 x_aA_11 x_aA_12 x_aB_0 x_aB_1 x_aB_2 x_aB_3 x_aB_4 x_aB_5 x_aB_6 x_aB_7 x_aB_8 x_aB_9 x_aB_10 x_aB_11 x_aB_12
  have x_aA_0 := HX_aA_5.out.cell (j := 0) rfl
  have x_aA_1 := HX_aA_5.out.cell (j := 1) rfl
  have x_aA_2 := HX_aA_5.out.cell (j := 2) rfl
  have x_aA_3 := HX_aA_5.out.cell (j := 3) rfl
  have x_aA_4 := HX_aA_5.out.cell (j := 4) rfl
  have x_aA_5 := HX_aA_5.out.cell (j := 5) rfl
  have x_aA_6 := HX_aA_5.out.cell (j := 6) rfl
  have x_aA_7 := HX_aA_5.out.cell (j := 7) rfl
  have x_aA_8 := HX_aA_5.out.cell (j := 8) rfl
  have x_aA_9 := HX_aA_5.out.cell (j := 9) rfl
  have x_aA_10 := HX_aA_5.out.cell (j := 10) rfl
  have x_aA_11 := HX_aA_5.out.cell (j := 11) rfl
  have x_aA_12 := HX_aA_5.out.cell (j := 12) rfl
  go_wp2_with fail
  refine (toGap_any [u0_0, u0_1, u0_2, u0_3, u0_4, u0_5, u0_6, u0_7, u0_8, u0_9, u0_10, u0_11, u0_12] y0 _ (RGap.more HO_aA_5.out fun i hi => Nat.lt_of_lt_of_le hi HA_5.out.size) (by omega)).mono ?_
  rintro e W_6 ⟨cs_x0, rfl, hown, hb⟩
  obtain ⟨A_x0_4, n_x0_4, c_x0_4, A_x0_8, n_x0_8, c_x0_8, A_x0_10, n_x0_10, c_x0_10, A_x0_12, n_x0_12, c_x0_12, rfl⟩ := RGap_shape hown.rd
  have HO_x0_6 := Lib.hid (hown.alloc (.cells #[(.int .i64 y0.at_), (.string y0.before.label), (.int .i64 y0.before.kind), (.int .i64 y0.before.value), (.slice A_x0_4 n_x0_4 c_x0_4), (.string y0.after.label), (.int .i64 y0.after.kind), (.int .i64 y0.after.value), (.slice A_x0_8 n_x0_8 c_x0_8), (.int .i64 y0.left.at_), (.slice A_x0_10 n_x0_10 c_x0_10), (.int .i64 y0.right.at_), (.slice A_x0_12 n_x0_12 c_x0_12)] 31))
  have HT_6 := Lib.hid (show W_6.heap.size ≤ (W_6.alloc (.cells #[(.int .i64 y0.at_), (.string y0.before.label), (.int .i64 y0.before.kind), (.int .i64 y0.before.value), (.slice A_x0_4 n_x0_4 c_x0_4), (.string y0.after.label), (.int .i64 y0.after.kind), (.int .i64 y0.after.value), (.slice A_x0_8 n_x0_8 c_x0_8), (.int .i64 y0.left.at_), (.slice A_x0_10 n_x0_10 c_x0_10), (.int .i64 y0.right.at_), (.slice A_x0_12 n_x0_12 c_x0_12)] 31)).heap.size by simp)
  have hb5 := hb.alloc hb.size (.cells #[(.int .i64 y0.at_), (.string y0.before.label), (.int .i64 y0.before.kind), (.int .i64 y0.before.value), (.slice A_x0_4 n_x0_4 c_x0_4), (.string y0.after.label), (.int .i64 y0.after.kind), (.int .i64 y0.after.value), (.slice A_x0_8 n_x0_8 c_x0_8), (.int .i64 y0.left.at_), (.slice A_x0_10 n_x0_10 c_x0_10), (.int .i64 y0.right.at_), (.slice A_x0_12 n_x0_12 c_x0_12)] 31)
  have HB_5 := Lib.hid hb5
  have HQ_6 := Lib.hid hb.size
  have HZ_5 := Lib.hid HB_5.out.size
  have HA_6 := Lib.hid (HA_5.out.trans (HB_5.out.mono HA_5.out.size))
  have HO_aA_6 := Lib.hid (RGap.keep HO_aA_5.out fun i hi => HB_5.out.block i (Nat.lt_of_lt_of_le hi HA_5.out.size))
  have HO_aB_6 := Lib.hid (RGap.keep HO_aB_5.out fun i hi => HB_5.out.block i (Nat.lt_of_lt_of_le hi HA_5.out.size))
  have HX_aA_6 := Lib.hid (HX_aA_5.out.below HB_5.out HX_aA_5.out.lt)
  have HX_aB_6 := Lib.hid (HX_aB_5.out.below HB_5.out HX_aB_5.out.lt)
  clear hb hown
  have HX_x0_6 := Lib.hid (show Box (W_6.alloc (.cells #[(.int .i64 y0.at_), (.string y0.before.label), (.int .i64 y0.before.kind), (.int .i64 y0.before.value), (.slice A_x0_4 n_x0_4 c_x0_4), (.string y0.after.label), (.int .i64 y0.after.kind), (.int .i64 y0.after.value), (.slice A_x0_8 n_x0_8 c_x0_8), (.int .i64 y0.left.at_), (.slice A_x0_10 n_x0_10 c_x0_10), (.int .i64 y0.right.at_), (.slice A_x0_12 n_x0_12 c_x0_12)] 31)) W_6.heap.size [(.int .i64 y0.at_), (.string y0.before.label), (.int .i64 y0.before.kind), (.int .i64 y0.before.value), (.slice A_x0_4 n_x0_4 c_x0_4), (.string y0.after.label), (.int .i64 y0.after.kind), (.int .i64 y0.after.value), (.slice A_x0_8 n_x0_8 c_x0_8), (.int .i64 y0.left.at_), (.slice A_x0_10 n_x0_10 c_x0_10), (.int .i64 y0.right.at_), (.slice A_x0_12 n_x0_12 c_x0_12)] from Box.new W_6 #[(.int .i64 y0.at_), (.string y0.before.label), (.int .i64 y0.before.kind), (.int .i64 y0.before.value), (.slice A_x0_4 n_x0_4 c_x0_4), (.string y0.after.label), (.int .i64 y0.after.kind), (.int .i64 y0.after.value), (.slice A_x0_8 n_x0_8 c_x0_8), (.int .i64 y0.left.at_), (.slice A_x0_10 n_x0_10 c_x0_10), (.int .i64 y0.right.at_), (.slice A_x0_12 n_x0_12 c_x0_12)] 31)
  clear x_aA_0 x_aA_1 x_aA_2 x_aA_3 x_aA_4 x_aA_5 x_aA_6 x_aA_7 x_aA_8 x_aA_9 x_aA_10 x_aA_11 x_aA_12
  have x_aB_0 := HX_aB_6.out.cell (j := 0) rfl
  have x_aB_1 := HX_aB_6.out.cell (j := 1) rfl
  have x_aB_2 := HX_aB_6.out.cell (j := 2) rfl
  have x_aB_3 := HX_aB_6.out.cell (j := 3) rfl
  have x_aB_4 := HX_aB_6.out.cell (j := 4) rfl
  have x_aB_5 := HX_aB_6.out.cell (j := 5) rfl
  have x_aB_6 := HX_aB_6.out.cell (j := 6) rfl
  have x_aB_7 := HX_aB_6.out.cell (j := 7) rfl
  have x_aB_8 := HX_aB_6.out.cell (j := 8) rfl
  have x_aB_9 := HX_aB_6.out.cell (j := 9) rfl
  have x_aB_10 := HX_aB_6.out.cell (j := 10) rfl
  have x_aB_11 := HX_aB_6.out.cell (j := 11) rfl
  have x_aB_12 := HX_aB_6.out.cell (j := 12) rfl
  go_wp2_with fail
  refine (toGap_any [u1_0, u1_1, u1_2, u1_3, u1_4, u1_5, u1_6, u1_7, u1_8, u1_9, u1_10, u1_11, u1_12] y1 _ (RGap.more HO_aB_6.out fun i hi => Nat.lt_of_lt_of_le hi HA_6.out.size) (by omega)).mono ?_
  rintro e W_7 ⟨cs_x1, rfl, hown, hb⟩
  obtain ⟨A_x1_4, n_x1_4, c_x1_4, A_x1_8, n_x1_8, c_x1_8, A_x1_10, n_x1_10, c_x1_10, A_x1_12, n_x1_12, c_x1_12, rfl⟩ := RGap_shape hown.rd
  have HO_x1_7 := Lib.hid (hown.alloc (.cells #[(.int .i64 y1.at_), (.string y1.before.label), (.int .i64 y1.before.kind), (.int .i64 y1.before.value), (.slice A_x1_4 n_x1_4 c_x1_4), (.string y1.after.label), (.int .i64 y1.after.kind), (.int .i64 y1.after.value), (.slice A_x1_8 n_x1_8 c_x1_8), (.int .i64 y1.left.at_), (.slice A_x1_10 n_x1_10 c_x1_10), (.int .i64 y1.right.at_), (.slice A_x1_12 n_x1_12 c_x1_12)] 31))
  have HT_7 := Lib.hid (show W_7.heap.size ≤ (W_7.alloc (.cells #[(.int .i64 y1.at_), (.string y1.before.label), (.int .i64 y1.before.kind), (.int .i64 y1.before.value), (.slice A_x1_4 n_x1_4 c_x1_4), (.string y1.after.label), (.int .i64 y1.after.kind), (.int .i64 y1.after.value), (.slice A_x1_8 n_x1_8 c_x1_8), (.int .i64 y1.left.at_), (.slice A_x1_10 n_x1_10 c_x1_10), (.int .i64 y1.right.at_), (.slice A_x1_12 n_x1_12 c_x1_12)] 31)).heap.size by simp)
  have hb6 := hb.alloc hb.size (.cells #[(.int .i64 y1.at_), (.string y1.before.label), (.int .i64 y1.before.kind), (.int .i64 y1.before.value), (.slice A_x1_4 n_x1_4 c_x1_4), (.string y1.after.label), (.int .i64 y1.after.kind), (.int .i64 y1.after.value), (.slice A_x1_8 n_x1_8 c_x1_8), (.int .i64 y1.left.at_), (.slice A_x1_10 n_x1_10 c_x1_10), (.int .i64 y1.right.at_), (.slice A_x1_12 n_x1_12 c_x1_12)] 31)
  have HB_6 := Lib.hid hb6
  have HQ_7 := Lib.hid hb.size
  have HZ_6 := Lib.hid HB_6.out.size
  have HA_7 := Lib.hid (HA_6.out.trans (HB_6.out.mono HA_6.out.size))
  have HO_aA_7 := Lib.hid (RGap.keep HO_aA_6.out fun i hi => HB_6.out.block i (Nat.lt_of_lt_of_le hi HA_6.out.size))
  have HO_aB_7 := Lib.hid (RGap.keep HO_aB_6.out fun i hi => HB_6.out.block i (Nat.lt_of_lt_of_le hi HA_6.out.size))
  have HO_x0_7 := Lib.hid (HO_x0_6.out.below HB_6.out (Nat.le_trans HT_6.out (Nat.le_refl _)))
  have HX_aA_7 := Lib.hid (HX_aA_6.out.below HB_6.out HX_aA_6.out.lt)
  have HX_aB_7 := Lib.hid (HX_aB_6.out.below HB_6.out HX_aB_6.out.lt)
  have HX_x0_7 := Lib.hid (HX_x0_6.out.below HB_6.out HX_x0_6.out.lt)
  clear hb hown
  have HX_x1_7 := Lib.hid (show Box (W_7.alloc (.cells #[(.int .i64 y1.at_), (.string y1.before.label), (.int .i64 y1.before.kind), (.int .i64 y1.before.value), (.slice A_x1_4 n_x1_4 c_x1_4), (.string y1.after.label), (.int .i64 y1.after.kind), (.int .i64 y1.after.value), (.slice A_x1_8 n_x1_8 c_x1_8), (.int .i64 y1.left.at_), (.slice A_x1_10 n_x1_10 c_x1_10), (.int .i64 y1.right.at_), (.slice A_x1_12 n_x1_12 c_x1_12)] 31)) W_7.heap.size [(.int .i64 y1.at_), (.string y1.before.label), (.int .i64 y1.before.kind), (.int .i64 y1.before.value), (.slice A_x1_4 n_x1_4 c_x1_4), (.string y1.after.label), (.int .i64 y1.after.kind), (.int .i64 y1.after.value), (.slice A_x1_8 n_x1_8 c_x1_8), (.int .i64 y1.left.at_), (.slice A_x1_10 n_x1_10 c_x1_10), (.int .i64 y1.right.at_), (.slice A_x1_12 n_x1_12 c_x1_12)] from Box.new W_7 #[(.int .i64 y1.at_), (.string y1.before.label), (.int .i64 y1.before.kind), (.int .i64 y1.before.value), (.slice A_x1_4 n_x1_4 c_x1_4), (.string y1.after.label), (.int .i64 y1.after.kind), (.int .i64 y1.after.value), (.slice A_x1_8 n_x1_8 c_x1_8), (.int .i64 y1.left.at_), (.slice A_x1_10 n_x1_10 c_x1_10), (.int .i64 y1.right.at_), (.slice A_x1_12 n_x1_12 c_x1_12)] 31)
  clear x_aB_0 x_aB_1 x_aB_2 x_aB_3 x_aB_4 x_aB_5 x_aB_6 x_aB_7 x_aB_8 x_aB_9 x_aB_10 x_aB_11 x_aB_12
  have x_x0_0 := HX_x0_7.out.cell (j := 0) rfl
  have x_x0_1 := HX_x0_7.out.cell (j := 1) rfl
  have x_x0_2 := HX_x0_7.out.cell (j := 2) rfl
  have x_x0_3 := HX_x0_7.out.cell (j := 3) rfl
  have x_x0_4 := HX_x0_7.out.cell (j := 4) rfl
  have x_x0_5 := HX_x0_7.out.cell (j := 5) rfl
  have x_x0_6 := HX_x0_7.out.cell (j := 6) rfl
  have x_x0_7 := HX_x0_7.out.cell (j := 7) rfl
  have x_x0_8 := HX_x0_7.out.cell (j := 8) rfl
  have x_x0_9 := HX_x0_7.out.cell (j := 9) rfl
  have x_x0_10 := HX_x0_7.out.cell (j := 10) rfl
  have x_x0_11 := HX_x0_7.out.cell (j := 11) rfl
  have x_x0_12 := HX_x0_7.out.cell (j := 12) rfl
  have x_x1_0 := HX_x1_7.out.cell (j := 0) rfl
  have x_x1_1 := HX_x1_7.out.cell (j := 1) rfl
  have x_x1_2 := HX_x1_7.out.cell (j := 2) rfl
  have x_x1_3 := HX_x1_7.out.cell (j := 3) rfl
  have x_x1_4 := HX_x1_7.out.cell (j := 4) rfl
  have x_x1_5 := HX_x1_7.out.cell (j := 5) rfl
  have x_x1_6 := HX_x1_7.out.cell (j := 6) rfl
  have x_x1_7 := HX_x1_7.out.cell (j := 7) rfl
  have x_x1_8 := HX_x1_7.out.cell (j := 8) rfl
  have x_x1_9 := HX_x1_7.out.cell (j := 9) rfl
  have x_x1_10 := HX_x1_7.out.cell (j := 10) rfl
  have x_x1_11 := HX_x1_7.out.cell (j := 11) rfl
  have x_x1_12 := HX_x1_7.out.cell (j := 12) rfl
  go_wp2_with fail
  refine (HI.out [(.int .i64 y0.at_), (.string y0.before.label), (.int .i64 y0.before.kind), (.int .i64 y0.before.value), (.slice A_x0_4 n_x0_4 c_x0_4), (.string y0.after.label), (.int .i64 y0.after.kind), (.int .i64 y0.after.value), (.slice A_x0_8 n_x0_8 c_x0_8), (.int .i64 y0.left.at_), (.slice A_x0_10 n_x0_10 c_x0_10), (.int .i64 y0.right.at_), (.slice A_x0_12 n_x0_12 c_x0_12)] [(.int .i64 y1.at_), (.string y1.before.label), (.int .i64 y1.before.kind), (.int .i64 y1.before.value), (.slice A_x1_4 n_x1_4 c_x1_4), (.string y1.after.label), (.int .i64 y1.after.kind), (.int .i64 y1.after.value), (.slice A_x1_8 n_x1_8 c_x1_8), (.int .i64 y1.left.at_), (.slice A_x1_10 n_x1_10 c_x1_10), (.int .i64 y1.right.at_), (.slice A_x1_12 n_x1_12 c_x1_12)] _ (RGap.more HO_x0_7.out.rd fun i hi => Nat.lt_of_lt_of_le hi (Nat.le_trans HT_6.out HZ_6.out)) (RGap.more HO_x1_7.out.rd fun i hi => Nat.lt_of_lt_of_le hi (Nat.le_trans HT_7.out (Nat.le_refl _)))).mono ?_
  rintro e W_8 ⟨rfl, hb⟩
  have HB_7 := Lib.hid hb
  have HZ_7 := Lib.hid HB_7.out.size
  have HA_8 := Lib.hid (HA_7.out.trans (HB_7.out.mono HA_7.out.size))
  have HO_aA_8 := Lib.hid (RGap.keep HO_aA_7.out fun i hi => HB_7.out.block i (Nat.lt_of_lt_of_le hi HA_7.out.size))
  have HO_aB_8 := Lib.hid (RGap.keep HO_aB_7.out fun i hi => HB_7.out.block i (Nat.lt_of_lt_of_le hi HA_7.out.size))
  have HO_x0_8 := Lib.hid (HO_x0_7.out.below HB_7.out (Nat.le_trans HT_6.out HZ_6.out))
  have HO_x1_8 := Lib.hid (HO_x1_7.out.below HB_7.out (Nat.le_trans HT_7.out (Nat.le_refl _)))
  have HX_aA_8 := Lib.hid (HX_aA_7.out.below HB_7.out HX_aA_7.out.lt)
  have HX_aB_8 := Lib.hid (HX_aB_7.out.below HB_7.out HX_aB_7.out.lt)
  have HX_x0_8 := Lib.hid (HX_x0_7.out.below HB_7.out HX_x0_7.out.lt)
  have HX_x1_8 := Lib.hid (HX_x1_7.out.below HB_7.out HX_x1_7.out.lt)
  clear hb
  clear x_x0_0 x_x0_1 x_x0_2 x_x0_3 x_x0_4 x_x0_5 x_x0_6 x_x0_7 x_x0_8 x_x0_9 x_x0_10 x_x0_11 x_x0_12 x_x1_0 x_x1_1 x_x1_2 x_x1_3 x_x1_4 x_x1_5 x_x1_6 x_x1_7 x_x1_8 x_x1_9 x_x1_10 x_x1_11 x_x1_12
  have x_aA_0 := HX_aA_8.out.cell (j := 0) rfl
  have x_aA_1 := HX_aA_8.out.cell (j := 1) rfl
  have x_aA_2 := HX_aA_8.out.cell (j := 2) rfl
  have x_aA_3 := HX_aA_8.out.cell (j := 3) rfl
  have x_aA_4 := HX_aA_8.out.cell (j := 4) rfl
  have x_aA_5 := HX_aA_8.out.cell (j := 5) rfl
  have x_aA_6 := HX_aA_8.out.cell (j := 6) rfl
  have x_aA_7 := HX_aA_8.out.cell (j := 7) rfl
  have x_aA_8 := HX_aA_8.out.cell (j := 8) rfl
  have x_aA_9 := HX_aA_8.out.cell (j := 9) rfl
  have x_aA_10 := HX_aA_8.out.cell (j := 10) rfl
  have x_aA_11 := HX_aA_8.out.cell (j := 11) rfl
  have x_aA_12 := HX_aA_8.out.cell (j := 12) rfl
  have x_x0_0 := HX_x0_8.out.cell (j := 0) rfl
  have x_x0_1 := HX_x0_8.out.cell (j := 1) rfl
  have x_x0_2 := HX_x0_8.out.cell (j := 2) rfl
  have x_x0_3 := HX_x0_8.out.cell (j := 3) rfl
  have x_x0_4 := HX_x0_8.out.cell (j := 4) rfl
  have x_x0_5 := HX_x0_8.out.cell (j := 5) rfl
  have x_x0_6 := HX_x0_8.out.cell (j := 6) rfl
  have x_x0_7 := HX_x0_8.out.cell (j := 7) rfl
  have x_x0_8 := HX_x0_8.out.cell (j := 8) rfl
  have x_x0_9 := HX_x0_8.out.cell (j := 9) rfl
  have x_x0_10 := HX_x0_8.out.cell (j := 10) rfl
  have x_x0_11 := HX_x0_8.out.cell (j := 11) rfl
  have x_x0_12 := HX_x0_8.out.cell (j := 12) rfl
  have HD_aA := Lib.hid (show RGap.rd W_8.drew (Lt W_8.drew.heap.size) [u0_0, u0_1, u0_2, u0_3, u0_4, u0_5, u0_6, u0_7, u0_8, u0_9, u0_10, u0_11, u0_12] y0 from RGap.keep (RGap.more HO_aA_8.out fun i hi => Nat.lt_of_lt_of_le hi HA_8.out.size) fun i _ => rfl)
  go_wp2_with fail
  go_region_held3 (fun w' => w'.cell? ⟨W0.heap.size, 0, none⟩ = some u0_0 ∧ w'.cell? ⟨W0.heap.size, 1, none⟩ = some u0_1 ∧ w'.cell? ⟨W0.heap.size, 2, none⟩ = some u0_2 ∧ w'.cell? ⟨W0.heap.size, 3, none⟩ = some u0_3 ∧ w'.cell? ⟨W0.heap.size, 4, none⟩ = some u0_4 ∧ w'.cell? ⟨W0.heap.size, 5, none⟩ = some u0_5 ∧ w'.cell? ⟨W0.heap.size, 6, none⟩ = some u0_6 ∧ w'.cell? ⟨W0.heap.size, 7, none⟩ = some u0_7 ∧ w'.cell? ⟨W0.heap.size, 8, none⟩ = some u0_8 ∧ w'.cell? ⟨W0.heap.size, 9, none⟩ = some u0_9 ∧ w'.cell? ⟨W0.heap.size, 10, none⟩ = some u0_10 ∧ w'.cell? ⟨W0.heap.size, 11, none⟩ = some u0_11 ∧ w'.cell? ⟨W0.heap.size, 12, none⟩ = some u0_12 ∧ w'.cell? ⟨W_6.heap.size, 0, none⟩ = some (.int .i64 y0.at_) ∧ w'.cell? ⟨W_6.heap.size, 1, none⟩ = some (.string y0.before.label) ∧ w'.cell? ⟨W_6.heap.size, 2, none⟩ = some (.int .i64 y0.before.kind) ∧ w'.cell? ⟨W_6.heap.size, 3, none⟩ = some (.int .i64 y0.before.value) ∧ w'.cell? ⟨W_6.heap.size, 4, none⟩ = some (.slice A_x0_4 n_x0_4 c_x0_4) ∧ w'.cell? ⟨W_6.heap.size, 5, none⟩ = some (.string y0.after.label) ∧ w'.cell? ⟨W_6.heap.size, 6, none⟩ = some (.int .i64 y0.after.kind) ∧ w'.cell? ⟨W_6.heap.size, 7, none⟩ = some (.int .i64 y0.after.value) ∧ w'.cell? ⟨W_6.heap.size, 8, none⟩ = some (.slice A_x0_8 n_x0_8 c_x0_8) ∧ w'.cell? ⟨W_6.heap.size, 9, none⟩ = some (.int .i64 y0.left.at_) ∧ w'.cell? ⟨W_6.heap.size, 10, none⟩ = some (.slice A_x0_10 n_x0_10 c_x0_10) ∧ w'.cell? ⟨W_6.heap.size, 11, none⟩ = some (.int .i64 y0.right.at_) ∧ w'.cell? ⟨W_6.heap.size, 12, none⟩ = some (.slice A_x0_12 n_x0_12 c_x0_12)) (first | exact ⟨x_aA_0, x_aA_1, x_aA_2, x_aA_3, x_aA_4, x_aA_5, x_aA_6, x_aA_7, x_aA_8, x_aA_9, x_aA_10, x_aA_11, x_aA_12, x_x0_0, x_x0_1, x_x0_2, x_x0_3, x_x0_4, x_x0_5, x_x0_6, x_x0_7, x_x0_8, x_x0_9, x_x0_10, x_x0_11, x_x0_12⟩ | exact ⟨x_aA_0_9, x_aA_1_9, x_aA_2_9, x_aA_3_9, x_aA_4_9, x_aA_5_9, x_aA_6_9, x_aA_7_9, x_aA_8_9, x_aA_9_9, x_aA_10_9, x_aA_11_9, x_aA_12_9, x_x0_0_9, x_x0_1_9, x_x0_2_9, x_x0_3_9, x_x0_4_9, x_x0_5_9, x_x0_6_9, x_x0_7_9, x_x0_8_9, x_x0_9_9, x_x0_10_9, x_x0_11_9, x_x0_12_9⟩ | exact ⟨x_aA_0_10, x_aA_1_10, x_aA_2_10, x_aA_3_10, x_aA_4_10, x_aA_5_10, x_aA_6_10, x_aA_7_10, x_aA_8_10, x_aA_9_10, x_aA_10_10, x_aA_11_10, x_aA_12_10, x_x0_0_10, x_x0_1_10, x_x0_2_10, x_x0_3_10, x_x0_4_10, x_x0_5_10, x_x0_6_10, x_x0_7_10, x_x0_8_10, x_x0_9_10, x_x0_10_10, x_x0_11_10, x_x0_12_10⟩) ((first
    | (go_at_call 18; (with_reducible refine (toGap_any [u0_0, u0_1, u0_2, u0_3, u0_4, u0_5, u0_6, u0_7, u0_8, u0_9, u0_10, u0_11, u0_12] y0 W_8.drew HD_aA.out (by omega)).mono ?_); rintro e W_9 ⟨cs__t2, rfl, hown, hb⟩; obtain ⟨A__t2_4, n__t2_4, c__t2_4, A__t2_8, n__t2_8, c__t2_8, A__t2_10, n__t2_10, c__t2_10, A__t2_12, n__t2_12, c__t2_12, rfl⟩ := RGap_shape hown.rd; have HO__t2_9 := Lib.hid (hown); have HB_8 := Lib.hid (below_drew hb); have HZ_8 := Lib.hid HB_8.out.size; have HA_9 := Lib.hid (HA_8.out.trans (HB_8.out.mono HA_8.out.size)); have HO_aA_9 := Lib.hid (RGap.keep HO_aA_8.out fun i hi => HB_8.out.block i (Nat.lt_of_lt_of_le hi HA_8.out.size)); have HO_aB_9 := Lib.hid (RGap.keep HO_aB_8.out fun i hi => HB_8.out.block i (Nat.lt_of_lt_of_le hi HA_8.out.size)); have HO_x0_9 := Lib.hid (HO_x0_8.out.below HB_8.out (Nat.le_trans HT_6.out (Nat.le_trans HZ_6.out HZ_7.out))); have HO_x1_9 := Lib.hid (HO_x1_8.out.below HB_8.out (Nat.le_trans HT_7.out HZ_7.out)); have HX_aA_9 := Lib.hid (HX_aA_8.out.below HB_8.out HX_aA_8.out.lt); have HX_aB_9 := Lib.hid (HX_aB_8.out.below HB_8.out HX_aB_8.out.lt); have HX_x0_9 := Lib.hid (HX_x0_8.out.below HB_8.out HX_x0_8.out.lt); have HX_x1_9 := Lib.hid (HX_x1_8.out.below HB_8.out HX_x1_8.out.lt); clear hb hown; have x_aA_0_9 := HX_aA_9.out.cell (j := 0) rfl; have x_aA_1_9 := HX_aA_9.out.cell (j := 1) rfl; have x_aA_2_9 := HX_aA_9.out.cell (j := 2) rfl; have x_aA_3_9 := HX_aA_9.out.cell (j := 3) rfl; have x_aA_4_9 := HX_aA_9.out.cell (j := 4) rfl; have x_aA_5_9 := HX_aA_9.out.cell (j := 5) rfl; have x_aA_6_9 := HX_aA_9.out.cell (j := 6) rfl; have x_aA_7_9 := HX_aA_9.out.cell (j := 7) rfl; have x_aA_8_9 := HX_aA_9.out.cell (j := 8) rfl; have x_aA_9_9 := HX_aA_9.out.cell (j := 9) rfl; have x_aA_10_9 := HX_aA_9.out.cell (j := 10) rfl; have x_aA_11_9 := HX_aA_9.out.cell (j := 11) rfl; have x_aA_12_9 := HX_aA_9.out.cell (j := 12) rfl; have x_x0_0_9 := HX_x0_9.out.cell (j := 0) rfl; have x_x0_1_9 := HX_x0_9.out.cell (j := 1) rfl; have x_x0_2_9 := HX_x0_9.out.cell (j := 2) rfl; have x_x0_3_9 := HX_x0_9.out.cell (j := 3) rfl; have x_x0_4_9 := HX_x0_9.out.cell (j := 4) rfl; have x_x0_5_9 := HX_x0_9.out.cell (j := 5) rfl; have x_x0_6_9 := HX_x0_9.out.cell (j := 6) rfl; have x_x0_7_9 := HX_x0_9.out.cell (j := 7) rfl; have x_x0_8_9 := HX_x0_9.out.cell (j := 8) rfl; have x_x0_9_9 := HX_x0_9.out.cell (j := 9) rfl; have x_x0_10_9 := HX_x0_9.out.cell (j := 10) rfl; have x_x0_11_9 := HX_x0_9.out.cell (j := 11) rfl; have x_x0_12_9 := HX_x0_9.out.cell (j := 12) rfl)
    | (go_at_call 11; (with_reducible refine (eqGap_same _ _ [(.int .i64 y0.at_), (.string y0.before.label), (.int .i64 y0.before.kind), (.int .i64 y0.before.value), (.slice A_x0_4 n_x0_4 c_x0_4), (.string y0.after.label), (.int .i64 y0.after.kind), (.int .i64 y0.after.value), (.slice A_x0_8 n_x0_8 c_x0_8), (.int .i64 y0.left.at_), (.slice A_x0_10 n_x0_10 c_x0_10), (.int .i64 y0.right.at_), (.slice A_x0_12 n_x0_12 c_x0_12)] [(.int .i64 y0.at_), (.string y0.before.label), (.int .i64 y0.before.kind), (.int .i64 y0.before.value), (.slice A__t2_4 n__t2_4 c__t2_4), (.string y0.after.label), (.int .i64 y0.after.kind), (.int .i64 y0.after.value), (.slice A__t2_8 n__t2_8 c__t2_8), (.int .i64 y0.left.at_), (.slice A__t2_10 n__t2_10 c__t2_10), (.int .i64 y0.right.at_), (.slice A__t2_12 n__t2_12 c__t2_12)] y0 _ (RGap.more HO_x0_9.out.rd fun i hi => Nat.lt_of_lt_of_le hi (Nat.le_trans HT_6.out (Nat.le_trans (Nat.le_trans HZ_6.out HZ_7.out) HZ_8.out))) (RGap.more HO__t2_9.out.rd fun i hi => Nat.lt_of_lt_of_le hi (Nat.le_refl _)) (Nat.le_refl _) (Nat.le_refl _) (by omega)).mono ?_); rintro e W_10 ⟨rfl, hb⟩; have HB_9 := Lib.hid hb; have HZ_9 := Lib.hid HB_9.out.size; have HA_10 := Lib.hid (HA_9.out.trans (HB_9.out.mono HA_9.out.size)); have HO_aA_10 := Lib.hid (RGap.keep HO_aA_9.out fun i hi => HB_9.out.block i (Nat.lt_of_lt_of_le hi HA_9.out.size)); have HO_aB_10 := Lib.hid (RGap.keep HO_aB_9.out fun i hi => HB_9.out.block i (Nat.lt_of_lt_of_le hi HA_9.out.size)); have HO_x0_10 := Lib.hid (HO_x0_9.out.below HB_9.out (Nat.le_trans HT_6.out (Nat.le_trans (Nat.le_trans HZ_6.out HZ_7.out) HZ_8.out))); have HO_x1_10 := Lib.hid (HO_x1_9.out.below HB_9.out (Nat.le_trans HT_7.out (Nat.le_trans HZ_7.out HZ_8.out))); have HX_aA_10 := Lib.hid (HX_aA_9.out.below HB_9.out HX_aA_9.out.lt); have HX_aB_10 := Lib.hid (HX_aB_9.out.below HB_9.out HX_aB_9.out.lt); have HX_x0_10 := Lib.hid (HX_x0_9.out.below HB_9.out HX_x0_9.out.lt); have HX_x1_10 := Lib.hid (HX_x1_9.out.below HB_9.out HX_x1_9.out.lt); clear hb; have x_aA_0_10 := HX_aA_10.out.cell (j := 0) rfl; have x_aA_1_10 := HX_aA_10.out.cell (j := 1) rfl; have x_aA_2_10 := HX_aA_10.out.cell (j := 2) rfl; have x_aA_3_10 := HX_aA_10.out.cell (j := 3) rfl; have x_aA_4_10 := HX_aA_10.out.cell (j := 4) rfl; have x_aA_5_10 := HX_aA_10.out.cell (j := 5) rfl; have x_aA_6_10 := HX_aA_10.out.cell (j := 6) rfl; have x_aA_7_10 := HX_aA_10.out.cell (j := 7) rfl; have x_aA_8_10 := HX_aA_10.out.cell (j := 8) rfl; have x_aA_9_10 := HX_aA_10.out.cell (j := 9) rfl; have x_aA_10_10 := HX_aA_10.out.cell (j := 10) rfl; have x_aA_11_10 := HX_aA_10.out.cell (j := 11) rfl; have x_aA_12_10 := HX_aA_10.out.cell (j := 12) rfl; have x_x0_0_10 := HX_x0_10.out.cell (j := 0) rfl; have x_x0_1_10 := HX_x0_10.out.cell (j := 1) rfl; have x_x0_2_10 := HX_x0_10.out.cell (j := 2) rfl; have x_x0_3_10 := HX_x0_10.out.cell (j := 3) rfl; have x_x0_4_10 := HX_x0_10.out.cell (j := 4) rfl; have x_x0_5_10 := HX_x0_10.out.cell (j := 5) rfl; have x_x0_6_10 := HX_x0_10.out.cell (j := 6) rfl; have x_x0_7_10 := HX_x0_10.out.cell (j := 7) rfl; have x_x0_8_10 := HX_x0_10.out.cell (j := 8) rfl; have x_x0_9_10 := HX_x0_10.out.cell (j := 9) rfl; have x_x0_10_10 := HX_x0_10.out.cell (j := 10) rfl; have x_x0_11_10 := HX_x0_10.out.cell (j := 11) rfl; have x_x0_12_10 := HX_x0_10.out.cell (j := 12) rfl)))
  clear x_aA_0 x_aA_1 x_aA_2 x_aA_3 x_aA_4 x_aA_5 x_aA_6 x_aA_7 x_aA_8 x_aA_9 x_aA_10 x_aA_11 x_aA_12 x_x0_0 x_x0_1 x_x0_2 x_x0_3 x_x0_4 x_x0_5 x_x0_6 x_x0_7 x_x0_8 x_x0_9 x_x0_10 x_x0_11 x_x0_12
  have x_aB_0 := HX_aB_10.out.cell (j := 0) rfl
  have x_aB_1 := HX_aB_10.out.cell (j := 1) rfl
  have x_aB_2 := HX_aB_10.out.cell (j := 2) rfl
  have x_aB_3 := HX_aB_10.out.cell (j := 3) rfl
  have x_aB_4 := HX_aB_10.out.cell (j := 4) rfl
  have x_aB_5 := HX_aB_10.out.cell (j := 5) rfl
  have x_aB_6 := HX_aB_10.out.cell (j := 6) rfl
  have x_aB_7 := HX_aB_10.out.cell (j := 7) rfl
  have x_aB_8 := HX_aB_10.out.cell (j := 8) rfl
  have x_aB_9 := HX_aB_10.out.cell (j := 9) rfl
  have x_aB_10 := HX_aB_10.out.cell (j := 10) rfl
  have x_aB_11 := HX_aB_10.out.cell (j := 11) rfl
  have x_aB_12 := HX_aB_10.out.cell (j := 12) rfl
  have x_x1_0 := HX_x1_10.out.cell (j := 0) rfl
  have x_x1_1 := HX_x1_10.out.cell (j := 1) rfl
  have x_x1_2 := HX_x1_10.out.cell (j := 2) rfl
  have x_x1_3 := HX_x1_10.out.cell (j := 3) rfl
  have x_x1_4 := HX_x1_10.out.cell (j := 4) rfl
  have x_x1_5 := HX_x1_10.out.cell (j := 5) rfl
  have x_x1_6 := HX_x1_10.out.cell (j := 6) rfl
  have x_x1_7 := HX_x1_10.out.cell (j := 7) rfl
  have x_x1_8 := HX_x1_10.out.cell (j := 8) rfl
  have x_x1_9 := HX_x1_10.out.cell (j := 9) rfl
  have x_x1_10 := HX_x1_10.out.cell (j := 10) rfl
  have x_x1_11 := HX_x1_10.out.cell (j := 11) rfl
  have x_x1_12 := HX_x1_10.out.cell (j := 12) rfl
  have HD_aB := Lib.hid (show RGap.rd W_10.drew (Lt W_10.drew.heap.size) [u1_0, u1_1, u1_2, u1_3, u1_4, u1_5, u1_6, u1_7, u1_8, u1_9, u1_10, u1_11, u1_12] y1 from RGap.keep (RGap.more HO_aB_10.out fun i hi => Nat.lt_of_lt_of_le hi HA_10.out.size) fun i _ => rfl)
  go_wp2_with fail
  go_region_held3 (fun w' => w'.cell? ⟨W0.heap.size + 1, 0, none⟩ = some u1_0 ∧ w'.cell? ⟨W0.heap.size + 1, 1, none⟩ = some u1_1 ∧ w'.cell? ⟨W0.heap.size + 1, 2, none⟩ = some u1_2 ∧ w'.cell? ⟨W0.heap.size + 1, 3, none⟩ = some u1_3 ∧ w'.cell? ⟨W0.heap.size + 1, 4, none⟩ = some u1_4 ∧ w'.cell? ⟨W0.heap.size + 1, 5, none⟩ = some u1_5 ∧ w'.cell? ⟨W0.heap.size + 1, 6, none⟩ = some u1_6 ∧ w'.cell? ⟨W0.heap.size + 1, 7, none⟩ = some u1_7 ∧ w'.cell? ⟨W0.heap.size + 1, 8, none⟩ = some u1_8 ∧ w'.cell? ⟨W0.heap.size + 1, 9, none⟩ = some u1_9 ∧ w'.cell? ⟨W0.heap.size + 1, 10, none⟩ = some u1_10 ∧ w'.cell? ⟨W0.heap.size + 1, 11, none⟩ = some u1_11 ∧ w'.cell? ⟨W0.heap.size + 1, 12, none⟩ = some u1_12 ∧ w'.cell? ⟨W_7.heap.size, 0, none⟩ = some (.int .i64 y1.at_) ∧ w'.cell? ⟨W_7.heap.size, 1, none⟩ = some (.string y1.before.label) ∧ w'.cell? ⟨W_7.heap.size, 2, none⟩ = some (.int .i64 y1.before.kind) ∧ w'.cell? ⟨W_7.heap.size, 3, none⟩ = some (.int .i64 y1.before.value) ∧ w'.cell? ⟨W_7.heap.size, 4, none⟩ = some (.slice A_x1_4 n_x1_4 c_x1_4) ∧ w'.cell? ⟨W_7.heap.size, 5, none⟩ = some (.string y1.after.label) ∧ w'.cell? ⟨W_7.heap.size, 6, none⟩ = some (.int .i64 y1.after.kind) ∧ w'.cell? ⟨W_7.heap.size, 7, none⟩ = some (.int .i64 y1.after.value) ∧ w'.cell? ⟨W_7.heap.size, 8, none⟩ = some (.slice A_x1_8 n_x1_8 c_x1_8) ∧ w'.cell? ⟨W_7.heap.size, 9, none⟩ = some (.int .i64 y1.left.at_) ∧ w'.cell? ⟨W_7.heap.size, 10, none⟩ = some (.slice A_x1_10 n_x1_10 c_x1_10) ∧ w'.cell? ⟨W_7.heap.size, 11, none⟩ = some (.int .i64 y1.right.at_) ∧ w'.cell? ⟨W_7.heap.size, 12, none⟩ = some (.slice A_x1_12 n_x1_12 c_x1_12)) (first | exact ⟨x_aB_0, x_aB_1, x_aB_2, x_aB_3, x_aB_4, x_aB_5, x_aB_6, x_aB_7, x_aB_8, x_aB_9, x_aB_10, x_aB_11, x_aB_12, x_x1_0, x_x1_1, x_x1_2, x_x1_3, x_x1_4, x_x1_5, x_x1_6, x_x1_7, x_x1_8, x_x1_9, x_x1_10, x_x1_11, x_x1_12⟩ | exact ⟨x_aB_0_11, x_aB_1_11, x_aB_2_11, x_aB_3_11, x_aB_4_11, x_aB_5_11, x_aB_6_11, x_aB_7_11, x_aB_8_11, x_aB_9_11, x_aB_10_11, x_aB_11_11, x_aB_12_11, x_x1_0_11, x_x1_1_11, x_x1_2_11, x_x1_3_11, x_x1_4_11, x_x1_5_11, x_x1_6_11, x_x1_7_11, x_x1_8_11, x_x1_9_11, x_x1_10_11, x_x1_11_11, x_x1_12_11⟩ | exact ⟨x_aB_0_12, x_aB_1_12, x_aB_2_12, x_aB_3_12, x_aB_4_12, x_aB_5_12, x_aB_6_12, x_aB_7_12, x_aB_8_12, x_aB_9_12, x_aB_10_12, x_aB_11_12, x_aB_12_12, x_x1_0_12, x_x1_1_12, x_x1_2_12, x_x1_3_12, x_x1_4_12, x_x1_5_12, x_x1_6_12, x_x1_7_12, x_x1_8_12, x_x1_9_12, x_x1_10_12, x_x1_11_12, x_x1_12_12⟩) ((first
    | (go_at_call 18; (with_reducible refine (toGap_any [u1_0, u1_1, u1_2, u1_3, u1_4, u1_5, u1_6, u1_7, u1_8, u1_9, u1_10, u1_11, u1_12] y1 W_10.drew HD_aB.out (by omega)).mono ?_); rintro e W_11 ⟨cs__t3, rfl, hown, hb⟩; obtain ⟨A__t3_4, n__t3_4, c__t3_4, A__t3_8, n__t3_8, c__t3_8, A__t3_10, n__t3_10, c__t3_10, A__t3_12, n__t3_12, c__t3_12, rfl⟩ := RGap_shape hown.rd; have HO__t3_11 := Lib.hid (hown); have HB_10 := Lib.hid (below_drew hb); have HZ_10 := Lib.hid HB_10.out.size; have HA_11 := Lib.hid (HA_10.out.trans (HB_10.out.mono HA_10.out.size)); have HO_aB_11 := Lib.hid (RGap.keep HO_aB_10.out fun i hi => HB_10.out.block i (Nat.lt_of_lt_of_le hi HA_10.out.size)); have HO_x1_11 := Lib.hid (HO_x1_10.out.below HB_10.out (Nat.le_trans HT_7.out (Nat.le_trans (Nat.le_trans HZ_7.out HZ_8.out) HZ_9.out))); have HX_aB_11 := Lib.hid (HX_aB_10.out.below HB_10.out HX_aB_10.out.lt); have HX_x1_11 := Lib.hid (HX_x1_10.out.below HB_10.out HX_x1_10.out.lt); clear hb hown; have x_aB_0_11 := HX_aB_11.out.cell (j := 0) rfl; have x_aB_1_11 := HX_aB_11.out.cell (j := 1) rfl; have x_aB_2_11 := HX_aB_11.out.cell (j := 2) rfl; have x_aB_3_11 := HX_aB_11.out.cell (j := 3) rfl; have x_aB_4_11 := HX_aB_11.out.cell (j := 4) rfl; have x_aB_5_11 := HX_aB_11.out.cell (j := 5) rfl; have x_aB_6_11 := HX_aB_11.out.cell (j := 6) rfl; have x_aB_7_11 := HX_aB_11.out.cell (j := 7) rfl; have x_aB_8_11 := HX_aB_11.out.cell (j := 8) rfl; have x_aB_9_11 := HX_aB_11.out.cell (j := 9) rfl; have x_aB_10_11 := HX_aB_11.out.cell (j := 10) rfl; have x_aB_11_11 := HX_aB_11.out.cell (j := 11) rfl; have x_aB_12_11 := HX_aB_11.out.cell (j := 12) rfl; have x_x1_0_11 := HX_x1_11.out.cell (j := 0) rfl; have x_x1_1_11 := HX_x1_11.out.cell (j := 1) rfl; have x_x1_2_11 := HX_x1_11.out.cell (j := 2) rfl; have x_x1_3_11 := HX_x1_11.out.cell (j := 3) rfl; have x_x1_4_11 := HX_x1_11.out.cell (j := 4) rfl; have x_x1_5_11 := HX_x1_11.out.cell (j := 5) rfl; have x_x1_6_11 := HX_x1_11.out.cell (j := 6) rfl; have x_x1_7_11 := HX_x1_11.out.cell (j := 7) rfl; have x_x1_8_11 := HX_x1_11.out.cell (j := 8) rfl; have x_x1_9_11 := HX_x1_11.out.cell (j := 9) rfl; have x_x1_10_11 := HX_x1_11.out.cell (j := 10) rfl; have x_x1_11_11 := HX_x1_11.out.cell (j := 11) rfl; have x_x1_12_11 := HX_x1_11.out.cell (j := 12) rfl)
    | (go_at_call 11; (with_reducible refine (eqGap_same _ _ [(.int .i64 y1.at_), (.string y1.before.label), (.int .i64 y1.before.kind), (.int .i64 y1.before.value), (.slice A_x1_4 n_x1_4 c_x1_4), (.string y1.after.label), (.int .i64 y1.after.kind), (.int .i64 y1.after.value), (.slice A_x1_8 n_x1_8 c_x1_8), (.int .i64 y1.left.at_), (.slice A_x1_10 n_x1_10 c_x1_10), (.int .i64 y1.right.at_), (.slice A_x1_12 n_x1_12 c_x1_12)] [(.int .i64 y1.at_), (.string y1.before.label), (.int .i64 y1.before.kind), (.int .i64 y1.before.value), (.slice A__t3_4 n__t3_4 c__t3_4), (.string y1.after.label), (.int .i64 y1.after.kind), (.int .i64 y1.after.value), (.slice A__t3_8 n__t3_8 c__t3_8), (.int .i64 y1.left.at_), (.slice A__t3_10 n__t3_10 c__t3_10), (.int .i64 y1.right.at_), (.slice A__t3_12 n__t3_12 c__t3_12)] y1 _ (RGap.more HO_x1_11.out.rd fun i hi => Nat.lt_of_lt_of_le hi (Nat.le_trans HT_7.out (Nat.le_trans (Nat.le_trans (Nat.le_trans HZ_7.out HZ_8.out) HZ_9.out) HZ_10.out))) (RGap.more HO__t3_11.out.rd fun i hi => Nat.lt_of_lt_of_le hi (Nat.le_refl _)) (Nat.le_refl _) (Nat.le_refl _) (by omega)).mono ?_); rintro e W_12 ⟨rfl, hb⟩; have HB_11 := Lib.hid hb; have HZ_11 := Lib.hid HB_11.out.size; have HA_12 := Lib.hid (HA_11.out.trans (HB_11.out.mono HA_11.out.size)); have HO_aB_12 := Lib.hid (RGap.keep HO_aB_11.out fun i hi => HB_11.out.block i (Nat.lt_of_lt_of_le hi HA_11.out.size)); have HO_x1_12 := Lib.hid (HO_x1_11.out.below HB_11.out (Nat.le_trans HT_7.out (Nat.le_trans (Nat.le_trans (Nat.le_trans HZ_7.out HZ_8.out) HZ_9.out) HZ_10.out))); have HX_aB_12 := Lib.hid (HX_aB_11.out.below HB_11.out HX_aB_11.out.lt); have HX_x1_12 := Lib.hid (HX_x1_11.out.below HB_11.out HX_x1_11.out.lt); clear hb; have x_aB_0_12 := HX_aB_12.out.cell (j := 0) rfl; have x_aB_1_12 := HX_aB_12.out.cell (j := 1) rfl; have x_aB_2_12 := HX_aB_12.out.cell (j := 2) rfl; have x_aB_3_12 := HX_aB_12.out.cell (j := 3) rfl; have x_aB_4_12 := HX_aB_12.out.cell (j := 4) rfl; have x_aB_5_12 := HX_aB_12.out.cell (j := 5) rfl; have x_aB_6_12 := HX_aB_12.out.cell (j := 6) rfl; have x_aB_7_12 := HX_aB_12.out.cell (j := 7) rfl; have x_aB_8_12 := HX_aB_12.out.cell (j := 8) rfl; have x_aB_9_12 := HX_aB_12.out.cell (j := 9) rfl; have x_aB_10_12 := HX_aB_12.out.cell (j := 10) rfl; have x_aB_11_12 := HX_aB_12.out.cell (j := 11) rfl; have x_aB_12_12 := HX_aB_12.out.cell (j := 12) rfl; have x_x1_0_12 := HX_x1_12.out.cell (j := 0) rfl; have x_x1_1_12 := HX_x1_12.out.cell (j := 1) rfl; have x_x1_2_12 := HX_x1_12.out.cell (j := 2) rfl; have x_x1_3_12 := HX_x1_12.out.cell (j := 3) rfl; have x_x1_4_12 := HX_x1_12.out.cell (j := 4) rfl; have x_x1_5_12 := HX_x1_12.out.cell (j := 5) rfl; have x_x1_6_12 := HX_x1_12.out.cell (j := 6) rfl; have x_x1_7_12 := HX_x1_12.out.cell (j := 7) rfl; have x_x1_8_12 := HX_x1_12.out.cell (j := 8) rfl; have x_x1_9_12 := HX_x1_12.out.cell (j := 9) rfl; have x_x1_10_12 := HX_x1_12.out.cell (j := 10) rfl; have x_x1_11_12 := HX_x1_12.out.cell (j := 11) rfl; have x_x1_12_12 := HX_x1_12.out.cell (j := 12) rfl)))
  clear x_aB_0 x_aB_1 x_aB_2 x_aB_3 x_aB_4 x_aB_5 x_aB_6 x_aB_7 x_aB_8 x_aB_9 x_aB_10 x_aB_11 x_aB_12 x_x1_0 x_x1_1 x_x1_2 x_x1_3 x_x1_4 x_x1_5 x_x1_6 x_x1_7 x_x1_8 x_x1_9 x_x1_10 x_x1_11 x_x1_12
  go_wp2
  go_ret
  exact ⟨rfl, HA_12.out⟩
end Go.Proofs.Ytbhhifoofapgiaa.W12
