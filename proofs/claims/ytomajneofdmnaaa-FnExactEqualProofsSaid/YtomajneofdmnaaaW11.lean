/- The walks of the exact laws of chapter 11: each law returns true, and writes into nothing that was there. -/
import Derived.Test.YtomajneofdmnaaaC11U
import Derived.Test.YtomajneofdmnaaaT08
import Derived.Test.YtomajneofdmnaaaT11
import Derived.Test.YtomajneofdmnaaaT01
import Derived.Deep.RegionHeld3
namespace Go.Proofs.Ytomajneofdmnaaa.W11
open Go.RowKit Mem MemS Rep RW R08 R11 Q08 C11U T01 T04 T05 T08 T11
set_option linter.unusedVariables false
set_option maxRecDepth 100000
set_option maxHeartbeats 4000000
theorem FnExactProveEntry_walk (W0 : World) (a0 : Option Addr) (l0 c0 : Nat) (y0 : List Entry) (w0 : Rds REntry W0 (Lt W0.heap.size) a0 l0 y0) (hC0 : l0 ≤ c0) (hM0 : c0 ≤ maxLen) (v1 : ByteArray) (hv1 : v1.size ≤ maxLen) :
    Calls Try.prog 3 #[.slice a0 l0 c0, .string v1] W0 fun e w' => e = .returned (.bool true) ∧ Below W0.heap.size W0 w' := by
  have hR0 : FRdEntry W0 W0.heap.size a0 l0 y0 := w0
  have hL0 := hR0.len
  clear w0
  by_cases hg1 : 1048576 < v1.size
  · have hg : 1048576 < (v1.size : Int) := by omega
    clear hR0 hL0 hC0 hM0
    go_enter Try.func3, Try.ntmps3
    go_wp2
    go_ret
    exact ⟨rfl, (Below.refl _ _)⟩
  have HA_0 := Lib.hid (show Below W0.heap.size W0 W0 from Below.refl _ _)
  have HO_aList_0 := Lib.hid (hR0.below HA_0.out (Nat.le_refl _))
  have HC0 := Lib.hid hC0
  have HM0 := Lib.hid hM0
  clear hR0
  go_enter Try.func3, Try.ntmps3
  by_cases hn_aList : 1048576 < (totR totEntry y0 : Int)
  · have HN := Lib.hid hn_aList
    clear hn_aList
    go_wp2_with fail
    refine (szEntryS_any _ a0 l0 c0 y0 1048576 _ (HO_aList_0.out.more HA_0.out.size) (Nat.le_refl _) (by omega) (by omega) (Nat.le_trans HC0.out HM0.out)).mono ?_
    rw [if_pos HN.out]
    rintro e W_1 ⟨rfl, hb⟩
    have HAe := Lib.hid (HA_0.out.trans (hb.mono HA_0.out.size))
    clear hb
    go_wp2
    go_ret
    exact ⟨rfl, HAe.out⟩
  have hY0 : totR totEntry y0 ≤ 1048576 := by omega
  have hYl0 := totR_len totEntry y0
  have HN_aList := Lib.hid hn_aList
  clear hn_aList
  go_wp2_with fail
  refine (szEntryS_any _ a0 l0 c0 y0 1048576 _ (HO_aList_0.out.more HA_0.out.size) (Nat.le_refl _) (by omega) (by omega) (Nat.le_trans HC0.out HM0.out)).mono ?_
  rw [if_neg (show ¬ 1048576 < (totR totEntry y0 : Int) by have := HN_aList.out; omega)]
  rintro e W_1 ⟨rfl, hb⟩
  obtain ⟨qq0, hqq0⟩ : ∃ x, x = 1048576 - (totR totEntry y0 : Int) := ⟨_, rfl⟩
  rw [← hqq0]
  have hqq0l : 0 ≤ qq0 ∧ qq0 ≤ 1048576 := by have := HN_aList.out; omega
  have hqq0n : ¬ qq0 < 0 := by omega
  clear hqq0
  have HB_0 := Lib.hid hb
  have HZ_0 := Lib.hid HB_0.out.size
  have HA_1 := Lib.hid (HA_0.out.trans (HB_0.out.mono HA_0.out.size))
  have HO_aList_1 := Lib.hid (HO_aList_0.out.below HB_0.out HA_0.out.size)
  clear hb
  obtain ⟨r0, r1, hlen0, hS, hI⟩ := both_ProveEntry y0 v1 hY0 (by omega)
  have HS := Lib.hid hS
  have HI := Lib.hid hI
  clear hS hI
  have hcnt0 := cntProof_le r0
  have hcy0 := cntR_le totEntry fullEntry fullEntry_le y0
  go_wp2_with fail
  refine (toEntryS_any a0 l0 c0 y0 _ (HO_aList_1.out.more HA_1.out.size) (by omega)).mono ?_
  rintro e W_2 ⟨A__t0, c__t0, rfl, hown, hb⟩
  have HO__t0_2 := Lib.hid hown
  have HB_1 := Lib.hid hb
  have HZ_1 := Lib.hid HB_1.out.size
  have HA_2 := Lib.hid (HA_1.out.trans (HB_1.out.mono HA_1.out.size))
  have HO_aList_2 := Lib.hid (HO_aList_1.out.below HB_1.out HA_1.out.size)
  clear hb hown
  go_wp2_with fail
  refine (HS.out A__t0 l0 c__t0 _ (HO__t0_2.out.cap.1) (HO__t0_2.out.rd.more (Nat.le_refl _))).mono ?_
  rintro e W_3 ⟨cs_w0, rfl, ho0, hb⟩
  obtain ⟨A_w0_1, n_w0_1, c_w0_1, rfl⟩ := RProof_shape ho0
  have HO_w0_3 := Lib.hid (RProof.more (RProof.keep ho0 fun i hi => Below.heap_alloc W_3 (.cells #[(.int .i64 r0.at_), (.slice A_w0_1 n_w0_1 c_w0_1)] 26) i hi) (P' := Lt (W_3.alloc (.cells #[(.int .i64 r0.at_), (.slice A_w0_1 n_w0_1 c_w0_1)] 26)).heap.size) fun i hi => Nat.lt_of_lt_of_le hi (by simp))
  have hb2 := hb.alloc hb.size (.cells #[(.int .i64 r0.at_), (.slice A_w0_1 n_w0_1 c_w0_1)] 26)
  have HB_2 := Lib.hid hb2
  have HQ_3 := Lib.hid hb.size
  have HZ_2 := Lib.hid HB_2.out.size
  have HA_3 := Lib.hid (HA_2.out.trans (HB_2.out.mono HA_2.out.size))
  have HO_aList_3 := Lib.hid (HO_aList_2.out.below HB_2.out HA_2.out.size)
  clear hb ho0
  have HX_w0_3 := Lib.hid (show Box (W_3.alloc (.cells #[(.int .i64 r0.at_), (.slice A_w0_1 n_w0_1 c_w0_1)] 26)) W_3.heap.size [(.int .i64 r0.at_), (.slice A_w0_1 n_w0_1 c_w0_1)] from Box.new W_3 #[(.int .i64 r0.at_), (.slice A_w0_1 n_w0_1 c_w0_1)] 26)
  go_wp2_with fail
  refine (toEntryS_any a0 l0 c0 y0 _ (HO_aList_3.out.more HA_3.out.size) (by omega)).mono ?_
  rintro e W_4 ⟨A_x0, c_x0, rfl, hown, hb⟩
  have HO_x0_4 := Lib.hid hown
  have HB_3 := Lib.hid hb
  have HZ_3 := Lib.hid HB_3.out.size
  have HA_4 := Lib.hid (HA_3.out.trans (HB_3.out.mono HA_3.out.size))
  have HO_aList_4 := Lib.hid (HO_aList_3.out.below HB_3.out HA_3.out.size)
  have HO_w0_4 := Lib.hid (RProof.keep HO_w0_3.out fun i hi => HB_3.out.block i (Nat.lt_of_lt_of_le hi (Nat.le_refl _)))
  have HX_w0_4 := Lib.hid (HX_w0_3.out.below HB_3.out HX_w0_3.out.lt)
  clear hb hown
  go_wp2_with fail
  refine (HI.out A_x0 l0 c_x0 _ (HO_x0_4.out.cap.1) (HO_x0_4.out.rd.more (Nat.le_refl _))).mono ?_
  rintro e W_5 ⟨cs_g0, rfl, ho0, hb⟩
  obtain ⟨A_g0_1, n_g0_1, c_g0_1, rfl⟩ := RProof_shape ho0.rd
  have HO_g0_5 := Lib.hid (ho0.alloc (.cells #[(.int .i64 r0.at_), (.slice A_g0_1 n_g0_1 c_g0_1)] 26))
  have HT_5 := Lib.hid (show W_5.heap.size ≤ (W_5.alloc (.cells #[(.int .i64 r0.at_), (.slice A_g0_1 n_g0_1 c_g0_1)] 26)).heap.size by simp)
  have hb4 := hb.alloc hb.size (.cells #[(.int .i64 r0.at_), (.slice A_g0_1 n_g0_1 c_g0_1)] 26)
  have HB_4 := Lib.hid hb4
  have HQ_5 := Lib.hid hb.size
  have HZ_4 := Lib.hid HB_4.out.size
  have HA_5 := Lib.hid (HA_4.out.trans (HB_4.out.mono HA_4.out.size))
  have HO_aList_5 := Lib.hid (HO_aList_4.out.below HB_4.out HA_4.out.size)
  have HO_w0_5 := Lib.hid (RProof.keep HO_w0_4.out fun i hi => HB_4.out.block i (Nat.lt_of_lt_of_le hi HZ_3.out))
  have HO_x0_5 := Lib.hid (HO_x0_4.out.below HB_4.out (Nat.le_refl _))
  have HX_w0_5 := Lib.hid (HX_w0_4.out.below HB_4.out HX_w0_4.out.lt)
  clear hb ho0
  have HX_g0_5 := Lib.hid (show Box (W_5.alloc (.cells #[(.int .i64 r0.at_), (.slice A_g0_1 n_g0_1 c_g0_1)] 26)) W_5.heap.size [(.int .i64 r0.at_), (.slice A_g0_1 n_g0_1 c_g0_1)] from Box.new W_5 #[(.int .i64 r0.at_), (.slice A_g0_1 n_g0_1 c_g0_1)] 26)
  have x_g0_0 := HX_g0_5.out.cell (j := 0) rfl
  have x_g0_1 := HX_g0_5.out.cell (j := 1) rfl
  have x_w0_0 := HX_w0_5.out.cell (j := 0) rfl
  have x_w0_1 := HX_w0_5.out.cell (j := 1) rfl
  go_wp2_with fail
  refine (eqProof_same _ _ [(.int .i64 r0.at_), (.slice A_g0_1 n_g0_1 c_g0_1)] [(.int .i64 r0.at_), (.slice A_w0_1 n_w0_1 c_w0_1)] r0 _ (RProof.more HO_g0_5.out.rd fun i hi => Nat.lt_of_lt_of_le hi (Nat.le_trans HT_5.out (Nat.le_refl _))) (RProof.more HO_w0_5.out fun i hi => Nat.lt_of_lt_of_le hi (Nat.le_trans HZ_3.out HZ_4.out)) (Nat.le_refl _) (Nat.le_refl _) (by omega)).mono ?_
  rintro e W_6 ⟨rfl, hb⟩
  have HB_5 := Lib.hid hb
  have HZ_5 := Lib.hid HB_5.out.size
  have HA_6 := Lib.hid (HA_5.out.trans (HB_5.out.mono HA_5.out.size))
  have HO_aList_6 := Lib.hid (HO_aList_5.out.below HB_5.out HA_5.out.size)
  have HO_w0_6 := Lib.hid (RProof.keep HO_w0_5.out fun i hi => HB_5.out.block i (Nat.lt_of_lt_of_le hi (Nat.le_trans HZ_3.out HZ_4.out)))
  have HO_x0_6 := Lib.hid (HO_x0_5.out.below HB_5.out HZ_4.out)
  have HO_g0_6 := Lib.hid (HO_g0_5.out.below HB_5.out (Nat.le_trans HT_5.out (Nat.le_refl _)))
  have HX_w0_6 := Lib.hid (HX_w0_5.out.below HB_5.out HX_w0_5.out.lt)
  have HX_g0_6 := Lib.hid (HX_g0_5.out.below HB_5.out HX_g0_5.out.lt)
  clear hb
  clear x_g0_0 x_g0_1 x_w0_0 x_w0_1
  go_wp2_with fail
  refine (toEntryS_any a0 l0 c0 y0 _ (HO_aList_6.out.more HA_6.out.size) (by omega)).mono ?_
  rintro e W_7 ⟨A__t1, c__t1, rfl, hown, hb⟩
  have HO__t1_7 := Lib.hid hown
  have HB_6 := Lib.hid hb
  have HZ_6 := Lib.hid HB_6.out.size
  have HA_7 := Lib.hid (HA_6.out.trans (HB_6.out.mono HA_6.out.size))
  have HO_aList_7 := Lib.hid (HO_aList_6.out.below HB_6.out HA_6.out.size)
  have HO_w0_7 := Lib.hid (RProof.keep HO_w0_6.out fun i hi => HB_6.out.block i (Nat.lt_of_lt_of_le hi (Nat.le_trans (Nat.le_trans HZ_3.out HZ_4.out) HZ_5.out)))
  have HO_x0_7 := Lib.hid (HO_x0_6.out.below HB_6.out (Nat.le_trans HZ_4.out HZ_5.out))
  have HO_g0_7 := Lib.hid (HO_g0_6.out.below HB_6.out (Nat.le_trans HT_5.out HZ_5.out))
  have HX_w0_7 := Lib.hid (HX_w0_6.out.below HB_6.out HX_w0_6.out.lt)
  have HX_g0_7 := Lib.hid (HX_g0_6.out.below HB_6.out HX_g0_6.out.lt)
  clear hb hown
  go_wp2_with fail
  refine (eqEntryS_same _ _ A_x0 A__t1 l0 c_x0 c__t1 y0 _ (HO_x0_7.out.rd.more (Nat.le_trans (Nat.le_trans HZ_4.out HZ_5.out) HZ_6.out)) (HO__t1_7.out.rd.more (Nat.le_refl _)) (Nat.le_refl _) (Nat.le_refl _) (by omega)).mono ?_
  rintro e W_8 ⟨rfl, hb⟩
  have HB_7 := Lib.hid hb
  have HZ_7 := Lib.hid HB_7.out.size
  have HA_8 := Lib.hid (HA_7.out.trans (HB_7.out.mono HA_7.out.size))
  have HO_aList_8 := Lib.hid (HO_aList_7.out.below HB_7.out HA_7.out.size)
  have HO_w0_8 := Lib.hid (RProof.keep HO_w0_7.out fun i hi => HB_7.out.block i (Nat.lt_of_lt_of_le hi (Nat.le_trans (Nat.le_trans (Nat.le_trans HZ_3.out HZ_4.out) HZ_5.out) HZ_6.out)))
  have HO_x0_8 := Lib.hid (HO_x0_7.out.below HB_7.out (Nat.le_trans (Nat.le_trans HZ_4.out HZ_5.out) HZ_6.out))
  have HO_g0_8 := Lib.hid (HO_g0_7.out.below HB_7.out (Nat.le_trans HT_5.out (Nat.le_trans HZ_5.out HZ_6.out)))
  have HX_w0_8 := Lib.hid (HX_w0_7.out.below HB_7.out HX_w0_7.out.lt)
  have HX_g0_8 := Lib.hid (HX_g0_7.out.below HB_7.out HX_g0_7.out.lt)
  clear hb
  go_wp2_with fail
  refine (markEntryS_any _ _ A_x0 l0 c_x0 y0 1 _ HO_x0_8.out (by omega) (by omega) (by omega)).mono ?_
  rintro e W_9 ⟨rfl, hown, hb⟩
  have HO_x0_9 := Lib.hid hown
  clear hown
  have HB_8 := Lib.hid hb
  have HZ_8 := Lib.hid HB_8.out.size
  have HA_9 := Lib.hid (HA_8.out.trans (HB_8.out.below HA_3.out.size HA_8.out.size))
  have HO_aList_9 := Lib.hid (HO_aList_8.out.fr HB_8.out HA_3.out.size HA_8.out.size)
  have HO_w0_9 := Lib.hid (RProof.keep HO_w0_8.out fun i hi => HB_8.out.block i (Nat.lt_of_lt_of_le hi (Nat.le_trans (Nat.le_trans (Nat.le_trans (Nat.le_trans HZ_3.out HZ_4.out) HZ_5.out) HZ_6.out) HZ_7.out)) (.inl (Nat.lt_of_lt_of_le hi (Nat.le_refl _))))
  have HO_g0_9 := Lib.hid (HO_g0_8.out.fr HB_8.out (.inr (Nat.le_refl _)))
  have HX_w0_9 := Lib.hid (HX_w0_8.out.keep (HB_8.out.block _ HX_w0_8.out.lt (.inl (Nat.lt_of_lt_of_le HX_w0_3.out.lt (Nat.le_refl _)))))
  have HX_g0_9 := Lib.hid (HX_g0_8.out.keep (HB_8.out.block _ HX_g0_8.out.lt (.inr (Nat.le_trans (Nat.le_refl _) HQ_5.out))))
  clear hb
  have x_g0_0 := HX_g0_9.out.cell (j := 0) rfl
  have x_g0_1 := HX_g0_9.out.cell (j := 1) rfl
  have x_w0_0 := HX_w0_9.out.cell (j := 0) rfl
  have x_w0_1 := HX_w0_9.out.cell (j := 1) rfl
  go_wp2_with fail
  refine (eqProof_same _ _ [(.int .i64 r0.at_), (.slice A_g0_1 n_g0_1 c_g0_1)] [(.int .i64 r0.at_), (.slice A_w0_1 n_w0_1 c_w0_1)] r0 _ (RProof.more HO_g0_9.out.rd fun i hi => Nat.lt_of_lt_of_le hi (Nat.le_trans HT_5.out (Nat.le_trans (Nat.le_trans (Nat.le_trans HZ_5.out HZ_6.out) HZ_7.out) HZ_8.out))) (RProof.more HO_w0_9.out fun i hi => Nat.lt_of_lt_of_le hi (Nat.le_trans (Nat.le_trans (Nat.le_trans (Nat.le_trans (Nat.le_trans HZ_3.out HZ_4.out) HZ_5.out) HZ_6.out) HZ_7.out) HZ_8.out)) (Nat.le_refl _) (Nat.le_refl _) (by omega)).mono ?_
  rintro e W_10 ⟨rfl, hb⟩
  have HB_9 := Lib.hid hb
  have HZ_9 := Lib.hid HB_9.out.size
  have HA_10 := Lib.hid (HA_9.out.trans (HB_9.out.mono HA_9.out.size))
  have HO_aList_10 := Lib.hid (HO_aList_9.out.below HB_9.out HA_9.out.size)
  have HO_w0_10 := Lib.hid (RProof.keep HO_w0_9.out fun i hi => HB_9.out.block i (Nat.lt_of_lt_of_le hi (Nat.le_trans (Nat.le_trans (Nat.le_trans (Nat.le_trans (Nat.le_trans HZ_3.out HZ_4.out) HZ_5.out) HZ_6.out) HZ_7.out) HZ_8.out)))
  have HO_g0_10 := Lib.hid (HO_g0_9.out.below HB_9.out (Nat.le_trans HT_5.out (Nat.le_trans (Nat.le_trans (Nat.le_trans HZ_5.out HZ_6.out) HZ_7.out) HZ_8.out)))
  have HX_w0_10 := Lib.hid (HX_w0_9.out.below HB_9.out HX_w0_9.out.lt)
  have HX_g0_10 := Lib.hid (HX_g0_9.out.below HB_9.out HX_g0_9.out.lt)
  clear hb
  clear x_g0_0 x_g0_1 x_w0_0 x_w0_1
  have x_g0_0 := HX_g0_10.out.cell (j := 0) rfl
  have x_g0_1 := HX_g0_10.out.cell (j := 1) rfl
  go_wp2_with fail
  refine (markProof_any _ _ [(.int .i64 r0.at_), (.slice A_g0_1 n_g0_1 c_g0_1)] r0 1 _ HO_g0_10.out (Nat.le_trans HT_5.out (Nat.le_trans (Nat.le_trans (Nat.le_trans (Nat.le_trans HZ_5.out HZ_6.out) HZ_7.out) HZ_8.out) HZ_9.out)) (by omega) (by omega) (by omega)).mono ?_
  rintro e W_11 ⟨rfl, hown, hb⟩
  have HO_g0_11 := Lib.hid hown
  clear hown
  have HB_10 := Lib.hid hb
  have HZ_10 := Lib.hid HB_10.out.size
  have HA_11 := Lib.hid (HA_10.out.trans (HB_10.out.below HA_4.out.size HA_10.out.size))
  have HO_aList_11 := Lib.hid (HO_aList_10.out.fr HB_10.out HA_4.out.size HA_10.out.size)
  have HO_w0_11 := Lib.hid (RProof.keep HO_w0_10.out fun i hi => HB_10.out.block i (Nat.lt_of_lt_of_le hi (Nat.le_trans (Nat.le_trans (Nat.le_trans (Nat.le_trans (Nat.le_trans (Nat.le_trans HZ_3.out HZ_4.out) HZ_5.out) HZ_6.out) HZ_7.out) HZ_8.out) HZ_9.out)) (.inl (Nat.lt_of_lt_of_le hi HZ_3.out)))
  have HX_w0_11 := Lib.hid (HX_w0_10.out.keep (HB_10.out.block _ HX_w0_10.out.lt (.inl (Nat.lt_of_lt_of_le HX_w0_3.out.lt HZ_3.out))))
  have HX_g0_11 := Lib.hid (HX_g0_10.out.keep (HB_10.out.block _ HX_g0_10.out.lt (.inr (Nat.le_refl _))))
  clear hb
  clear x_g0_0 x_g0_1
  have x_g0_0 := HX_g0_11.out.cell (j := 0) rfl
  have x_g0_1 := HX_g0_11.out.cell (j := 1) rfl
  go_wp2_with fail
  refine (heldProof_marks _ [(.int .i64 r0.at_), (.slice A_g0_1 n_g0_1 c_g0_1)] r0 1 _ (RProof.more HO_g0_11.out.rd fun i hi => Nat.lt_of_lt_of_le hi (Nat.le_trans HT_5.out (Nat.le_trans (Nat.le_trans (Nat.le_trans (Nat.le_trans (Nat.le_trans HZ_5.out HZ_6.out) HZ_7.out) HZ_8.out) HZ_9.out) HZ_10.out))) (Nat.le_refl _) (by omega) (by omega) (by omega)).mono ?_
  rintro e W_12 ⟨rfl, hb⟩
  have HB_11 := Lib.hid hb
  have HZ_11 := Lib.hid HB_11.out.size
  have HA_12 := Lib.hid (HA_11.out.trans (HB_11.out.mono HA_11.out.size))
  have HO_aList_12 := Lib.hid (HO_aList_11.out.below HB_11.out HA_11.out.size)
  have HO_w0_12 := Lib.hid (RProof.keep HO_w0_11.out fun i hi => HB_11.out.block i (Nat.lt_of_lt_of_le hi (Nat.le_trans (Nat.le_trans (Nat.le_trans (Nat.le_trans (Nat.le_trans (Nat.le_trans (Nat.le_trans HZ_3.out HZ_4.out) HZ_5.out) HZ_6.out) HZ_7.out) HZ_8.out) HZ_9.out) HZ_10.out)))
  have HO_g0_12 := Lib.hid (HO_g0_11.out.below HB_11.out (Nat.le_trans HT_5.out (Nat.le_trans (Nat.le_trans (Nat.le_trans (Nat.le_trans (Nat.le_trans HZ_5.out HZ_6.out) HZ_7.out) HZ_8.out) HZ_9.out) HZ_10.out)))
  have HX_w0_12 := Lib.hid (HX_w0_11.out.below HB_11.out HX_w0_11.out.lt)
  have HX_g0_12 := Lib.hid (HX_g0_11.out.below HB_11.out HX_g0_11.out.lt)
  clear hb
  clear x_g0_0 x_g0_1
  go_wp2_with fail
  refine (toEntryS_any a0 l0 c0 y0 _ (HO_aList_12.out.more HA_12.out.size) (by omega)).mono ?_
  rintro e W_13 ⟨A__t2, c__t2, rfl, hown, hb⟩
  have HO__t2_13 := Lib.hid hown
  have HB_12 := Lib.hid hb
  have HZ_12 := Lib.hid HB_12.out.size
  have HA_13 := Lib.hid (HA_12.out.trans (HB_12.out.mono HA_12.out.size))
  have HO_w0_13 := Lib.hid (RProof.keep HO_w0_12.out fun i hi => HB_12.out.block i (Nat.lt_of_lt_of_le hi (Nat.le_trans (Nat.le_trans (Nat.le_trans (Nat.le_trans (Nat.le_trans (Nat.le_trans (Nat.le_trans (Nat.le_trans HZ_3.out HZ_4.out) HZ_5.out) HZ_6.out) HZ_7.out) HZ_8.out) HZ_9.out) HZ_10.out) HZ_11.out)))
  have HO_g0_13 := Lib.hid (HO_g0_12.out.below HB_12.out (Nat.le_trans HT_5.out (Nat.le_trans (Nat.le_trans (Nat.le_trans (Nat.le_trans (Nat.le_trans (Nat.le_trans HZ_5.out HZ_6.out) HZ_7.out) HZ_8.out) HZ_9.out) HZ_10.out) HZ_11.out)))
  have HX_w0_13 := Lib.hid (HX_w0_12.out.below HB_12.out HX_w0_12.out.lt)
  have HX_g0_13 := Lib.hid (HX_g0_12.out.below HB_12.out HX_g0_12.out.lt)
  clear hb hown
  go_wp2_with fail
  refine (HI.out A__t2 l0 c__t2 _ (HO__t2_13.out.cap.1) (HO__t2_13.out.rd.more (Nat.le_refl _))).mono ?_
  rintro e W_14 ⟨cs_h0, rfl, ho0, hb⟩
  obtain ⟨A_h0_1, n_h0_1, c_h0_1, rfl⟩ := RProof_shape ho0.rd
  have HO_h0_14 := Lib.hid (ho0.alloc (.cells #[(.int .i64 r0.at_), (.slice A_h0_1 n_h0_1 c_h0_1)] 26))
  have HT_14 := Lib.hid (show W_14.heap.size ≤ (W_14.alloc (.cells #[(.int .i64 r0.at_), (.slice A_h0_1 n_h0_1 c_h0_1)] 26)).heap.size by simp)
  have hb13 := hb.alloc hb.size (.cells #[(.int .i64 r0.at_), (.slice A_h0_1 n_h0_1 c_h0_1)] 26)
  have HB_13 := Lib.hid hb13
  have HQ_14 := Lib.hid hb.size
  have HZ_13 := Lib.hid HB_13.out.size
  have HA_14 := Lib.hid (HA_13.out.trans (HB_13.out.mono HA_13.out.size))
  have HO_w0_14 := Lib.hid (RProof.keep HO_w0_13.out fun i hi => HB_13.out.block i (Nat.lt_of_lt_of_le hi (Nat.le_trans (Nat.le_trans (Nat.le_trans (Nat.le_trans (Nat.le_trans (Nat.le_trans (Nat.le_trans (Nat.le_trans (Nat.le_trans HZ_3.out HZ_4.out) HZ_5.out) HZ_6.out) HZ_7.out) HZ_8.out) HZ_9.out) HZ_10.out) HZ_11.out) HZ_12.out)))
  have HO_g0_14 := Lib.hid (HO_g0_13.out.below HB_13.out (Nat.le_trans HT_5.out (Nat.le_trans (Nat.le_trans (Nat.le_trans (Nat.le_trans (Nat.le_trans (Nat.le_trans (Nat.le_trans HZ_5.out HZ_6.out) HZ_7.out) HZ_8.out) HZ_9.out) HZ_10.out) HZ_11.out) HZ_12.out)))
  have HX_w0_14 := Lib.hid (HX_w0_13.out.below HB_13.out HX_w0_13.out.lt)
  have HX_g0_14 := Lib.hid (HX_g0_13.out.below HB_13.out HX_g0_13.out.lt)
  clear hb ho0
  have HX_h0_14 := Lib.hid (show Box (W_14.alloc (.cells #[(.int .i64 r0.at_), (.slice A_h0_1 n_h0_1 c_h0_1)] 26)) W_14.heap.size [(.int .i64 r0.at_), (.slice A_h0_1 n_h0_1 c_h0_1)] from Box.new W_14 #[(.int .i64 r0.at_), (.slice A_h0_1 n_h0_1 c_h0_1)] 26)
  have x_h0_0 := HX_h0_14.out.cell (j := 0) rfl
  have x_h0_1 := HX_h0_14.out.cell (j := 1) rfl
  have x_w0_0 := HX_w0_14.out.cell (j := 0) rfl
  have x_w0_1 := HX_w0_14.out.cell (j := 1) rfl
  go_wp2_with fail
  refine (eqProof_same _ _ [(.int .i64 r0.at_), (.slice A_h0_1 n_h0_1 c_h0_1)] [(.int .i64 r0.at_), (.slice A_w0_1 n_w0_1 c_w0_1)] r0 _ (RProof.more HO_h0_14.out.rd fun i hi => Nat.lt_of_lt_of_le hi (Nat.le_trans HT_14.out (Nat.le_refl _))) (RProof.more HO_w0_14.out fun i hi => Nat.lt_of_lt_of_le hi (Nat.le_trans (Nat.le_trans (Nat.le_trans (Nat.le_trans (Nat.le_trans (Nat.le_trans (Nat.le_trans (Nat.le_trans (Nat.le_trans (Nat.le_trans HZ_3.out HZ_4.out) HZ_5.out) HZ_6.out) HZ_7.out) HZ_8.out) HZ_9.out) HZ_10.out) HZ_11.out) HZ_12.out) HZ_13.out)) (Nat.le_refl _) (Nat.le_refl _) (by omega)).mono ?_
  rintro e W_15 ⟨rfl, hb⟩
  have HB_14 := Lib.hid hb
  have HZ_14 := Lib.hid HB_14.out.size
  have HA_15 := Lib.hid (HA_14.out.trans (HB_14.out.mono HA_14.out.size))
  have HO_g0_15 := Lib.hid (HO_g0_14.out.below HB_14.out (Nat.le_trans HT_5.out (Nat.le_trans (Nat.le_trans (Nat.le_trans (Nat.le_trans (Nat.le_trans (Nat.le_trans (Nat.le_trans (Nat.le_trans HZ_5.out HZ_6.out) HZ_7.out) HZ_8.out) HZ_9.out) HZ_10.out) HZ_11.out) HZ_12.out) HZ_13.out)))
  have HX_g0_15 := Lib.hid (HX_g0_14.out.below HB_14.out HX_g0_14.out.lt)
  clear hb
  clear x_h0_0 x_h0_1 x_w0_0 x_w0_1
  have x_g0_0 := HX_g0_15.out.cell (j := 0) rfl
  have x_g0_1 := HX_g0_15.out.cell (j := 1) rfl
  go_wp2_with fail
  refine (heldProof_marks _ [(.int .i64 r0.at_), (.slice A_g0_1 n_g0_1 c_g0_1)] r0 1 _ (RProof.more HO_g0_15.out.rd fun i hi => Nat.lt_of_lt_of_le hi (Nat.le_trans HT_5.out (Nat.le_trans (Nat.le_trans (Nat.le_trans (Nat.le_trans (Nat.le_trans (Nat.le_trans (Nat.le_trans (Nat.le_trans (Nat.le_trans HZ_5.out HZ_6.out) HZ_7.out) HZ_8.out) HZ_9.out) HZ_10.out) HZ_11.out) HZ_12.out) HZ_13.out) HZ_14.out))) (Nat.le_refl _) (by omega) (by omega) (by omega)).mono ?_
  rintro e W_16 ⟨rfl, hb⟩
  have HB_15 := Lib.hid hb
  have HZ_15 := Lib.hid HB_15.out.size
  have HA_16 := Lib.hid (HA_15.out.trans (HB_15.out.mono HA_15.out.size))
  clear hb
  clear x_g0_0 x_g0_1
  go_wp2
  go_ret
  exact ⟨rfl, HA_16.out⟩
theorem FnExactCheckEntry_walk (W0 : World) (v0 : Int) (hv0 : (Lit.int .i64 v0).wf = true) (v1 : Int) (hv1 : (Lit.int .i64 v1).wf = true) (u2_0 u2_1 u2_2 u2_3 : Value) (y2 : Entry) (w2 : REntry.rd W0 (Lt W0.heap.size) [u2_0, u2_1, u2_2, u2_3] y2) (u3_0 u3_1 : Value) (y3 : Proof) (w3 : RProof.rd W0 (Lt W0.heap.size) [u3_0, u3_1] y3) :
    Calls Try.prog 4 #[.int .i64 v0, .int .i64 v1, .agg #[u2_0, u2_1, u2_2, u2_3], .agg #[u3_0, u3_1]] W0 fun e w' => e = .returned (.bool true) ∧ Below W0.heap.size W0 w' := by
  have hV0 : -9223372036854775808 ≤ v0 ∧ v0 ≤ 9223372036854775807 := by simpa [Lit.wf, IntKind.min, IntKind.max, IntKind.signed, IntKind.bits] using hv0
  clear hv0
  have hV1 : -9223372036854775808 ≤ v1 ∧ v1 ≤ 9223372036854775807 := by simpa [Lit.wf, IntKind.min, IntKind.max, IntKind.signed, IntKind.bits] using hv1
  clear hv1
  have HA_0 := Lib.hid (show Below W0.heap.size W0 ((W0.alloc (.cells #[u2_0, u2_1, u2_2, u2_3] 38)).alloc (.cells #[u3_0, u3_1] 39)) from ((Below.refl _ _).alloc (by first | (simp; done) | (simp; omega)) _).alloc (by first | (simp; done) | (simp; omega)) _)
  have HO_aE_0 := Lib.hid (REntry.keep w2 fun i hi => HA_0.out.block i hi)
  have HX_aE_0 := Lib.hid (show Box ((W0.alloc (.cells #[u2_0, u2_1, u2_2, u2_3] 38)).alloc (.cells #[u3_0, u3_1] 39)) (W0.heap.size) [u2_0, u2_1, u2_2, u2_3] from (show Box (W0.alloc (.cells #[u2_0, u2_1, u2_2, u2_3] 38)) (W0.heap.size) [u2_0, u2_1, u2_2, u2_3] by have h := Box.new W0 #[u2_0, u2_1, u2_2, u2_3] 38; simpa using h).alloc _)
  have HO_aP_0 := Lib.hid (RProof.keep w3 fun i hi => HA_0.out.block i hi)
  have HX_aP_0 := Lib.hid (show Box ((W0.alloc (.cells #[u2_0, u2_1, u2_2, u2_3] 38)).alloc (.cells #[u3_0, u3_1] 39)) (W0.heap.size + 1) [u3_0, u3_1] from (show Box ((W0.alloc (.cells #[u2_0, u2_1, u2_2, u2_3] 38)).alloc (.cells #[u3_0, u3_1] 39)) (W0.heap.size + 1) [u3_0, u3_1] by have h := Box.new (W0.alloc (.cells #[u2_0, u2_1, u2_2, u2_3] 38)) #[u3_0, u3_1] 39; simpa using h))
  clear w2
  clear w3
  go_enter Try.func4, Try.ntmps4
  have x_aE_0 := HX_aE_0.out.cell (j := 0) rfl
  have x_aE_1 := HX_aE_0.out.cell (j := 1) rfl
  have x_aE_2 := HX_aE_0.out.cell (j := 2) rfl
  have x_aE_3 := HX_aE_0.out.cell (j := 3) rfl
  by_cases hn_aE : 1048576 < (totEntry y2 : Int)
  · have HN := Lib.hid hn_aE
    clear hn_aE
    go_wp2_with fail
    refine (szEntry_any [u2_0, u2_1, u2_2, u2_3] y2 1048576 _ (REntry.more HO_aE_0.out fun i hi => Nat.lt_of_lt_of_le hi HA_0.out.size) (by omega) (by omega)).mono ?_
    rw [if_pos HN.out]
    rintro e W_1 ⟨rfl, hb⟩
    have HAe := Lib.hid (HA_0.out.trans (hb.mono HA_0.out.size))
    clear hb
    go_wp2
    go_ret
    exact ⟨rfl, HAe.out⟩
  have hY2 : totEntry y2 ≤ 1048576 := by omega
  have HN_aE := Lib.hid hn_aE
  clear hn_aE
  go_wp2_with fail
  refine (szEntry_any [u2_0, u2_1, u2_2, u2_3] y2 1048576 _ (REntry.more HO_aE_0.out fun i hi => Nat.lt_of_lt_of_le hi HA_0.out.size) (by omega) (by omega)).mono ?_
  rw [if_neg (show ¬ 1048576 < (totEntry y2 : Int) by have := HN_aE.out; omega)]
  rintro e W_1 ⟨rfl, hb⟩
  obtain ⟨qq0, hqq0⟩ : ∃ x, x = 1048576 - (totEntry y2 : Int) := ⟨_, rfl⟩
  rw [← hqq0]
  have hqq0l : 0 ≤ qq0 ∧ qq0 ≤ 1048576 := by have := HN_aE.out; omega
  have hqq0n : ¬ qq0 < 0 := by omega
  clear hqq0
  have HB_0 := Lib.hid hb
  have HZ_0 := Lib.hid HB_0.out.size
  have HA_1 := Lib.hid (HA_0.out.trans (HB_0.out.mono HA_0.out.size))
  have HO_aE_1 := Lib.hid (REntry.keep HO_aE_0.out fun i hi => HB_0.out.block i (Nat.lt_of_lt_of_le hi HA_0.out.size))
  have HO_aP_1 := Lib.hid (RProof.keep HO_aP_0.out fun i hi => HB_0.out.block i (Nat.lt_of_lt_of_le hi HA_0.out.size))
  have HX_aE_1 := Lib.hid (HX_aE_0.out.below HB_0.out HX_aE_0.out.lt)
  have HX_aP_1 := Lib.hid (HX_aP_0.out.below HB_0.out HX_aP_0.out.lt)
  clear hb
  clear x_aE_0 x_aE_1 x_aE_2 x_aE_3
  have x_aP_0 := HX_aP_1.out.cell (j := 0) rfl
  have x_aP_1 := HX_aP_1.out.cell (j := 1) rfl
  by_cases hn_aP : qq0 < (totProof y3 : Int)
  · have HN := Lib.hid hn_aP
    clear hn_aP
    go_wp2_with fail
    refine (szProof_any [u3_0, u3_1] y3 qq0 _ (RProof.more HO_aP_1.out fun i hi => Nat.lt_of_lt_of_le hi HA_1.out.size) (by omega) (by omega)).mono ?_
    rw [if_pos HN.out]
    rintro e W_2 ⟨rfl, hb⟩
    have HAe := Lib.hid (HA_1.out.trans (hb.mono HA_1.out.size))
    clear hb
    go_wp2
    go_ret
    exact ⟨rfl, HAe.out⟩
  have hY3 : totProof y3 ≤ 1048576 := by omega
  have HN_aP := Lib.hid hn_aP
  clear hn_aP
  go_wp2_with fail
  refine (szProof_any [u3_0, u3_1] y3 qq0 _ (RProof.more HO_aP_1.out fun i hi => Nat.lt_of_lt_of_le hi HA_1.out.size) (by omega) (by omega)).mono ?_
  rw [if_neg (show ¬ qq0 < (totProof y3 : Int) by have := HN_aP.out; omega)]
  rintro e W_2 ⟨rfl, hb⟩
  obtain ⟨qq1, hqq1⟩ : ∃ x, x = qq0 - (totProof y3 : Int) := ⟨_, rfl⟩
  rw [← hqq1]
  have hqq1l : 0 ≤ qq1 ∧ qq1 ≤ 1048576 := by have := HN_aP.out; omega
  have hqq1n : ¬ qq1 < 0 := by omega
  clear hqq1
  have HB_1 := Lib.hid hb
  have HZ_1 := Lib.hid HB_1.out.size
  have HA_2 := Lib.hid (HA_1.out.trans (HB_1.out.mono HA_1.out.size))
  have HO_aE_2 := Lib.hid (REntry.keep HO_aE_1.out fun i hi => HB_1.out.block i (Nat.lt_of_lt_of_le hi HA_1.out.size))
  have HO_aP_2 := Lib.hid (RProof.keep HO_aP_1.out fun i hi => HB_1.out.block i (Nat.lt_of_lt_of_le hi HA_1.out.size))
  have HX_aE_2 := Lib.hid (HX_aE_1.out.below HB_1.out HX_aE_1.out.lt)
  have HX_aP_2 := Lib.hid (HX_aP_1.out.below HB_1.out HX_aP_1.out.lt)
  clear hb
  clear x_aP_0 x_aP_1
  have x_aE_0 := HX_aE_2.out.cell (j := 0) rfl
  have x_aE_1 := HX_aE_2.out.cell (j := 1) rfl
  have x_aE_2 := HX_aE_2.out.cell (j := 2) rfl
  have x_aE_3 := HX_aE_2.out.cell (j := 3) rfl
  have x_aP_0 := HX_aP_2.out.cell (j := 0) rfl
  have x_aP_1 := HX_aP_2.out.cell (j := 1) rfl
  have HD_aE := Lib.hid (show REntry.rd W_2.drew (Lt W_2.drew.heap.size) [u2_0, u2_1, u2_2, u2_3] y2 from REntry.keep (REntry.more HO_aE_2.out fun i hi => Nat.lt_of_lt_of_le hi HA_2.out.size) fun i _ => rfl)
  obtain ⟨r0, hS, hI⟩ := both_CheckEntry v0 v1 y2 y3 hV0 hV1 hY2 hY3
  have HS := Lib.hid hS
  have HI := Lib.hid hI
  clear hS hI
  have hcy2 := cntEntry_le y2
  have hcy3 := cntProof_le y3
  go_wp2_with fail
  go_region_held3 (fun w' => w'.cell? ⟨W0.heap.size, 0, none⟩ = some u2_0 ∧ w'.cell? ⟨W0.heap.size, 1, none⟩ = some u2_1 ∧ w'.cell? ⟨W0.heap.size, 2, none⟩ = some u2_2 ∧ w'.cell? ⟨W0.heap.size, 3, none⟩ = some u2_3 ∧ w'.cell? ⟨W0.heap.size + 1, 0, none⟩ = some u3_0 ∧ w'.cell? ⟨W0.heap.size + 1, 1, none⟩ = some u3_1) (first | exact ⟨x_aE_0, x_aE_1, x_aE_2, x_aE_3, x_aP_0, x_aP_1⟩ | exact ⟨x_aE_0_3, x_aE_1_3, x_aE_2_3, x_aE_3_3, x_aP_0_3, x_aP_1_3⟩ | exact ⟨x_aE_0_4, x_aE_1_4, x_aE_2_4, x_aE_3_4, x_aP_0_4, x_aP_1_4⟩ | exact ⟨x_aE_0_5, x_aE_1_5, x_aE_2_5, x_aE_3_5, x_aP_0_5, x_aP_1_5⟩) ((first
    | (go_at_call 20; (with_reducible refine (toEntry_any [u2_0, u2_1, u2_2, u2_3] y2 W_2.drew HD_aE.out (by omega)).mono ?_); rintro e W_3 ⟨cs__t0, rfl, hown, hb⟩; obtain ⟨A__t0_3, n__t0_3, c__t0_3, rfl⟩ := REntry_shape hown.rd; have HO__t0_3 := Lib.hid (hown); have HB_2 := Lib.hid (below_drew hb); have HZ_2 := Lib.hid HB_2.out.size; have HA_3 := Lib.hid (HA_2.out.trans (HB_2.out.mono HA_2.out.size)); have HO_aE_3 := Lib.hid (REntry.keep HO_aE_2.out fun i hi => HB_2.out.block i (Nat.lt_of_lt_of_le hi HA_2.out.size)); have HO_aP_3 := Lib.hid (RProof.keep HO_aP_2.out fun i hi => HB_2.out.block i (Nat.lt_of_lt_of_le hi HA_2.out.size)); have HX_aE_3 := Lib.hid (HX_aE_2.out.below HB_2.out HX_aE_2.out.lt); have HX_aP_3 := Lib.hid (HX_aP_2.out.below HB_2.out HX_aP_2.out.lt); clear hb hown; have x_aE_0_3 := HX_aE_3.out.cell (j := 0) rfl; have x_aE_1_3 := HX_aE_3.out.cell (j := 1) rfl; have x_aE_2_3 := HX_aE_3.out.cell (j := 2) rfl; have x_aE_3_3 := HX_aE_3.out.cell (j := 3) rfl; have x_aP_0_3 := HX_aP_3.out.cell (j := 0) rfl; have x_aP_1_3 := HX_aP_3.out.cell (j := 1) rfl)
    | (go_at_call 21; (with_reducible refine (toProof_any [u3_0, u3_1] y3 _ (RProof.more HO_aP_3.out fun i hi => Nat.lt_of_lt_of_le hi HA_3.out.size) (by omega)).mono ?_); rintro e W_4 ⟨cs__t1, rfl, hown, hb⟩; obtain ⟨A__t1_1, n__t1_1, c__t1_1, rfl⟩ := RProof_shape hown.rd; have HO__t1_4 := Lib.hid (hown); have HB_3 := Lib.hid hb; have HZ_3 := Lib.hid HB_3.out.size; have HA_4 := Lib.hid (HA_3.out.trans (HB_3.out.mono HA_3.out.size)); have HO_aE_4 := Lib.hid (REntry.keep HO_aE_3.out fun i hi => HB_3.out.block i (Nat.lt_of_lt_of_le hi HA_3.out.size)); have HO_aP_4 := Lib.hid (RProof.keep HO_aP_3.out fun i hi => HB_3.out.block i (Nat.lt_of_lt_of_le hi HA_3.out.size)); have HO__t0_4 := Lib.hid (HO__t0_3.out.below HB_3.out (Nat.le_refl _)); have HX_aE_4 := Lib.hid (HX_aE_3.out.below HB_3.out HX_aE_3.out.lt); have HX_aP_4 := Lib.hid (HX_aP_3.out.below HB_3.out HX_aP_3.out.lt); clear hb hown; have x_aE_0_4 := HX_aE_4.out.cell (j := 0) rfl; have x_aE_1_4 := HX_aE_4.out.cell (j := 1) rfl; have x_aE_2_4 := HX_aE_4.out.cell (j := 2) rfl; have x_aE_3_4 := HX_aE_4.out.cell (j := 3) rfl; have x_aP_0_4 := HX_aP_4.out.cell (j := 0) rfl; have x_aP_1_4 := HX_aP_4.out.cell (j := 1) rfl)
    | (go_at_call 19; (with_reducible refine (HS.out [(.string y2.label), (.int .i64 y2.kind), (.int .i64 y2.value), (.slice A__t0_3 n__t0_3 c__t0_3)] [(.int .i64 y3.at_), (.slice A__t1_1 n__t1_1 c__t1_1)] _ (REntry.more HO__t0_4.out.rd fun i hi => Nat.lt_of_lt_of_le hi HZ_3.out) (RProof.more HO__t1_4.out.rd fun i hi => Nat.lt_of_lt_of_le hi (Nat.le_refl _))).mono ?_); rintro e W_5 ⟨rfl, hb⟩; have HB_4 := Lib.hid hb; have HZ_4 := Lib.hid HB_4.out.size; have HA_5 := Lib.hid (HA_4.out.trans (HB_4.out.mono HA_4.out.size)); have HO_aE_5 := Lib.hid (REntry.keep HO_aE_4.out fun i hi => HB_4.out.block i (Nat.lt_of_lt_of_le hi HA_4.out.size)); have HO_aP_5 := Lib.hid (RProof.keep HO_aP_4.out fun i hi => HB_4.out.block i (Nat.lt_of_lt_of_le hi HA_4.out.size)); have HX_aE_5 := Lib.hid (HX_aE_4.out.below HB_4.out HX_aE_4.out.lt); have HX_aP_5 := Lib.hid (HX_aP_4.out.below HB_4.out HX_aP_4.out.lt); clear hb; have x_aE_0_5 := HX_aE_5.out.cell (j := 0) rfl; have x_aE_1_5 := HX_aE_5.out.cell (j := 1) rfl; have x_aE_2_5 := HX_aE_5.out.cell (j := 2) rfl; have x_aE_3_5 := HX_aE_5.out.cell (j := 3) rfl; have x_aP_0_5 := HX_aP_5.out.cell (j := 0) rfl; have x_aP_1_5 := HX_aP_5.out.cell (j := 1) rfl)))
  clear x_aE_0 x_aE_1 x_aE_2 x_aE_3 x_aP_0 x_aP_1
  have x_aE_0 := HX_aE_5.out.cell (j := 0) rfl
  have x_aE_1 := HX_aE_5.out.cell (j := 1) rfl
  have x_aE_2 := HX_aE_5.out.cell (j := 2) rfl
  have x_aE_3 := HX_aE_5.out.cell (j := 3) rfl
  go_wp2_with fail
  refine (toEntry_any [u2_0, u2_1, u2_2, u2_3] y2 _ (REntry.more HO_aE_5.out fun i hi => Nat.lt_of_lt_of_le hi HA_5.out.size) (by omega)).mono ?_
  rintro e W_6 ⟨cs_x2, rfl, hown, hb⟩
  obtain ⟨A_x2_3, n_x2_3, c_x2_3, rfl⟩ := REntry_shape hown.rd
  have HO_x2_6 := Lib.hid (hown.alloc (.cells #[(.string y2.label), (.int .i64 y2.kind), (.int .i64 y2.value), (.slice A_x2_3 n_x2_3 c_x2_3)] 43))
  have HT_6 := Lib.hid (show W_6.heap.size ≤ (W_6.alloc (.cells #[(.string y2.label), (.int .i64 y2.kind), (.int .i64 y2.value), (.slice A_x2_3 n_x2_3 c_x2_3)] 43)).heap.size by simp)
  have hb5 := hb.alloc hb.size (.cells #[(.string y2.label), (.int .i64 y2.kind), (.int .i64 y2.value), (.slice A_x2_3 n_x2_3 c_x2_3)] 43)
  have HB_5 := Lib.hid hb5
  have HQ_6 := Lib.hid hb.size
  have HZ_5 := Lib.hid HB_5.out.size
  have HA_6 := Lib.hid (HA_5.out.trans (HB_5.out.mono HA_5.out.size))
  have HO_aE_6 := Lib.hid (REntry.keep HO_aE_5.out fun i hi => HB_5.out.block i (Nat.lt_of_lt_of_le hi HA_5.out.size))
  have HO_aP_6 := Lib.hid (RProof.keep HO_aP_5.out fun i hi => HB_5.out.block i (Nat.lt_of_lt_of_le hi HA_5.out.size))
  have HX_aE_6 := Lib.hid (HX_aE_5.out.below HB_5.out HX_aE_5.out.lt)
  have HX_aP_6 := Lib.hid (HX_aP_5.out.below HB_5.out HX_aP_5.out.lt)
  clear hb hown
  have HX_x2_6 := Lib.hid (show Box (W_6.alloc (.cells #[(.string y2.label), (.int .i64 y2.kind), (.int .i64 y2.value), (.slice A_x2_3 n_x2_3 c_x2_3)] 43)) W_6.heap.size [(.string y2.label), (.int .i64 y2.kind), (.int .i64 y2.value), (.slice A_x2_3 n_x2_3 c_x2_3)] from Box.new W_6 #[(.string y2.label), (.int .i64 y2.kind), (.int .i64 y2.value), (.slice A_x2_3 n_x2_3 c_x2_3)] 43)
  clear x_aE_0 x_aE_1 x_aE_2 x_aE_3
  have x_aP_0 := HX_aP_6.out.cell (j := 0) rfl
  have x_aP_1 := HX_aP_6.out.cell (j := 1) rfl
  go_wp2_with fail
  refine (toProof_any [u3_0, u3_1] y3 _ (RProof.more HO_aP_6.out fun i hi => Nat.lt_of_lt_of_le hi HA_6.out.size) (by omega)).mono ?_
  rintro e W_7 ⟨cs_x3, rfl, hown, hb⟩
  obtain ⟨A_x3_1, n_x3_1, c_x3_1, rfl⟩ := RProof_shape hown.rd
  have HO_x3_7 := Lib.hid (hown.alloc (.cells #[(.int .i64 y3.at_), (.slice A_x3_1 n_x3_1 c_x3_1)] 26))
  have HT_7 := Lib.hid (show W_7.heap.size ≤ (W_7.alloc (.cells #[(.int .i64 y3.at_), (.slice A_x3_1 n_x3_1 c_x3_1)] 26)).heap.size by simp)
  have hb6 := hb.alloc hb.size (.cells #[(.int .i64 y3.at_), (.slice A_x3_1 n_x3_1 c_x3_1)] 26)
  have HB_6 := Lib.hid hb6
  have HQ_7 := Lib.hid hb.size
  have HZ_6 := Lib.hid HB_6.out.size
  have HA_7 := Lib.hid (HA_6.out.trans (HB_6.out.mono HA_6.out.size))
  have HO_aE_7 := Lib.hid (REntry.keep HO_aE_6.out fun i hi => HB_6.out.block i (Nat.lt_of_lt_of_le hi HA_6.out.size))
  have HO_aP_7 := Lib.hid (RProof.keep HO_aP_6.out fun i hi => HB_6.out.block i (Nat.lt_of_lt_of_le hi HA_6.out.size))
  have HO_x2_7 := Lib.hid (HO_x2_6.out.below HB_6.out (Nat.le_trans HT_6.out (Nat.le_refl _)))
  have HX_aE_7 := Lib.hid (HX_aE_6.out.below HB_6.out HX_aE_6.out.lt)
  have HX_aP_7 := Lib.hid (HX_aP_6.out.below HB_6.out HX_aP_6.out.lt)
  have HX_x2_7 := Lib.hid (HX_x2_6.out.below HB_6.out HX_x2_6.out.lt)
  clear hb hown
  have HX_x3_7 := Lib.hid (show Box (W_7.alloc (.cells #[(.int .i64 y3.at_), (.slice A_x3_1 n_x3_1 c_x3_1)] 26)) W_7.heap.size [(.int .i64 y3.at_), (.slice A_x3_1 n_x3_1 c_x3_1)] from Box.new W_7 #[(.int .i64 y3.at_), (.slice A_x3_1 n_x3_1 c_x3_1)] 26)
  clear x_aP_0 x_aP_1
  have x_x2_0 := HX_x2_7.out.cell (j := 0) rfl
  have x_x2_1 := HX_x2_7.out.cell (j := 1) rfl
  have x_x2_2 := HX_x2_7.out.cell (j := 2) rfl
  have x_x2_3 := HX_x2_7.out.cell (j := 3) rfl
  have x_x3_0 := HX_x3_7.out.cell (j := 0) rfl
  have x_x3_1 := HX_x3_7.out.cell (j := 1) rfl
  go_wp2_with fail
  refine (HI.out [(.string y2.label), (.int .i64 y2.kind), (.int .i64 y2.value), (.slice A_x2_3 n_x2_3 c_x2_3)] [(.int .i64 y3.at_), (.slice A_x3_1 n_x3_1 c_x3_1)] _ (REntry.more HO_x2_7.out.rd fun i hi => Nat.lt_of_lt_of_le hi (Nat.le_trans HT_6.out HZ_6.out)) (RProof.more HO_x3_7.out.rd fun i hi => Nat.lt_of_lt_of_le hi (Nat.le_trans HT_7.out (Nat.le_refl _)))).mono ?_
  rintro e W_8 ⟨rfl, hb⟩
  have HB_7 := Lib.hid hb
  have HZ_7 := Lib.hid HB_7.out.size
  have HA_8 := Lib.hid (HA_7.out.trans (HB_7.out.mono HA_7.out.size))
  have HO_aE_8 := Lib.hid (REntry.keep HO_aE_7.out fun i hi => HB_7.out.block i (Nat.lt_of_lt_of_le hi HA_7.out.size))
  have HO_aP_8 := Lib.hid (RProof.keep HO_aP_7.out fun i hi => HB_7.out.block i (Nat.lt_of_lt_of_le hi HA_7.out.size))
  have HO_x2_8 := Lib.hid (HO_x2_7.out.below HB_7.out (Nat.le_trans HT_6.out HZ_6.out))
  have HO_x3_8 := Lib.hid (HO_x3_7.out.below HB_7.out (Nat.le_trans HT_7.out (Nat.le_refl _)))
  have HX_aE_8 := Lib.hid (HX_aE_7.out.below HB_7.out HX_aE_7.out.lt)
  have HX_aP_8 := Lib.hid (HX_aP_7.out.below HB_7.out HX_aP_7.out.lt)
  have HX_x2_8 := Lib.hid (HX_x2_7.out.below HB_7.out HX_x2_7.out.lt)
  have HX_x3_8 := Lib.hid (HX_x3_7.out.below HB_7.out HX_x3_7.out.lt)
  clear hb
  clear x_x2_0 x_x2_1 x_x2_2 x_x2_3 x_x3_0 x_x3_1
  have x_aE_0 := HX_aE_8.out.cell (j := 0) rfl
  have x_aE_1 := HX_aE_8.out.cell (j := 1) rfl
  have x_aE_2 := HX_aE_8.out.cell (j := 2) rfl
  have x_aE_3 := HX_aE_8.out.cell (j := 3) rfl
  have x_x2_0 := HX_x2_8.out.cell (j := 0) rfl
  have x_x2_1 := HX_x2_8.out.cell (j := 1) rfl
  have x_x2_2 := HX_x2_8.out.cell (j := 2) rfl
  have x_x2_3 := HX_x2_8.out.cell (j := 3) rfl
  have HD_aE := Lib.hid (show REntry.rd W_8.drew (Lt W_8.drew.heap.size) [u2_0, u2_1, u2_2, u2_3] y2 from REntry.keep (REntry.more HO_aE_8.out fun i hi => Nat.lt_of_lt_of_le hi HA_8.out.size) fun i _ => rfl)
  go_wp2_with fail
  go_region_held3 (fun w' => w'.cell? ⟨W0.heap.size, 0, none⟩ = some u2_0 ∧ w'.cell? ⟨W0.heap.size, 1, none⟩ = some u2_1 ∧ w'.cell? ⟨W0.heap.size, 2, none⟩ = some u2_2 ∧ w'.cell? ⟨W0.heap.size, 3, none⟩ = some u2_3 ∧ w'.cell? ⟨W_6.heap.size, 0, none⟩ = some (.string y2.label) ∧ w'.cell? ⟨W_6.heap.size, 1, none⟩ = some (.int .i64 y2.kind) ∧ w'.cell? ⟨W_6.heap.size, 2, none⟩ = some (.int .i64 y2.value) ∧ w'.cell? ⟨W_6.heap.size, 3, none⟩ = some (.slice A_x2_3 n_x2_3 c_x2_3)) (first | exact ⟨x_aE_0, x_aE_1, x_aE_2, x_aE_3, x_x2_0, x_x2_1, x_x2_2, x_x2_3⟩ | exact ⟨x_aE_0_9, x_aE_1_9, x_aE_2_9, x_aE_3_9, x_x2_0_9, x_x2_1_9, x_x2_2_9, x_x2_3_9⟩ | exact ⟨x_aE_0_10, x_aE_1_10, x_aE_2_10, x_aE_3_10, x_x2_0_10, x_x2_1_10, x_x2_2_10, x_x2_3_10⟩) ((first
    | (go_at_call 20; (with_reducible refine (toEntry_any [u2_0, u2_1, u2_2, u2_3] y2 W_8.drew HD_aE.out (by omega)).mono ?_); rintro e W_9 ⟨cs__t2, rfl, hown, hb⟩; obtain ⟨A__t2_3, n__t2_3, c__t2_3, rfl⟩ := REntry_shape hown.rd; have HO__t2_9 := Lib.hid (hown); have HB_8 := Lib.hid (below_drew hb); have HZ_8 := Lib.hid HB_8.out.size; have HA_9 := Lib.hid (HA_8.out.trans (HB_8.out.mono HA_8.out.size)); have HO_aE_9 := Lib.hid (REntry.keep HO_aE_8.out fun i hi => HB_8.out.block i (Nat.lt_of_lt_of_le hi HA_8.out.size)); have HO_aP_9 := Lib.hid (RProof.keep HO_aP_8.out fun i hi => HB_8.out.block i (Nat.lt_of_lt_of_le hi HA_8.out.size)); have HO_x2_9 := Lib.hid (HO_x2_8.out.below HB_8.out (Nat.le_trans HT_6.out (Nat.le_trans HZ_6.out HZ_7.out))); have HO_x3_9 := Lib.hid (HO_x3_8.out.below HB_8.out (Nat.le_trans HT_7.out HZ_7.out)); have HX_aE_9 := Lib.hid (HX_aE_8.out.below HB_8.out HX_aE_8.out.lt); have HX_aP_9 := Lib.hid (HX_aP_8.out.below HB_8.out HX_aP_8.out.lt); have HX_x2_9 := Lib.hid (HX_x2_8.out.below HB_8.out HX_x2_8.out.lt); have HX_x3_9 := Lib.hid (HX_x3_8.out.below HB_8.out HX_x3_8.out.lt); clear hb hown; have x_aE_0_9 := HX_aE_9.out.cell (j := 0) rfl; have x_aE_1_9 := HX_aE_9.out.cell (j := 1) rfl; have x_aE_2_9 := HX_aE_9.out.cell (j := 2) rfl; have x_aE_3_9 := HX_aE_9.out.cell (j := 3) rfl; have x_x2_0_9 := HX_x2_9.out.cell (j := 0) rfl; have x_x2_1_9 := HX_x2_9.out.cell (j := 1) rfl; have x_x2_2_9 := HX_x2_9.out.cell (j := 2) rfl; have x_x2_3_9 := HX_x2_9.out.cell (j := 3) rfl)
    | (go_at_call 23; (with_reducible refine (eqEntry_same _ _ [(.string y2.label), (.int .i64 y2.kind), (.int .i64 y2.value), (.slice A_x2_3 n_x2_3 c_x2_3)] [(.string y2.label), (.int .i64 y2.kind), (.int .i64 y2.value), (.slice A__t2_3 n__t2_3 c__t2_3)] y2 _ (REntry.more HO_x2_9.out.rd fun i hi => Nat.lt_of_lt_of_le hi (Nat.le_trans HT_6.out (Nat.le_trans (Nat.le_trans HZ_6.out HZ_7.out) HZ_8.out))) (REntry.more HO__t2_9.out.rd fun i hi => Nat.lt_of_lt_of_le hi (Nat.le_refl _)) (Nat.le_refl _) (Nat.le_refl _) (by omega)).mono ?_); rintro e W_10 ⟨rfl, hb⟩; have HB_9 := Lib.hid hb; have HZ_9 := Lib.hid HB_9.out.size; have HA_10 := Lib.hid (HA_9.out.trans (HB_9.out.mono HA_9.out.size)); have HO_aE_10 := Lib.hid (REntry.keep HO_aE_9.out fun i hi => HB_9.out.block i (Nat.lt_of_lt_of_le hi HA_9.out.size)); have HO_aP_10 := Lib.hid (RProof.keep HO_aP_9.out fun i hi => HB_9.out.block i (Nat.lt_of_lt_of_le hi HA_9.out.size)); have HO_x2_10 := Lib.hid (HO_x2_9.out.below HB_9.out (Nat.le_trans HT_6.out (Nat.le_trans (Nat.le_trans HZ_6.out HZ_7.out) HZ_8.out))); have HO_x3_10 := Lib.hid (HO_x3_9.out.below HB_9.out (Nat.le_trans HT_7.out (Nat.le_trans HZ_7.out HZ_8.out))); have HX_aE_10 := Lib.hid (HX_aE_9.out.below HB_9.out HX_aE_9.out.lt); have HX_aP_10 := Lib.hid (HX_aP_9.out.below HB_9.out HX_aP_9.out.lt); have HX_x2_10 := Lib.hid (HX_x2_9.out.below HB_9.out HX_x2_9.out.lt); have HX_x3_10 := Lib.hid (HX_x3_9.out.below HB_9.out HX_x3_9.out.lt); clear hb; have x_aE_0_10 := HX_aE_10.out.cell (j := 0) rfl; have x_aE_1_10 := HX_aE_10.out.cell (j := 1) rfl; have x_aE_2_10 := HX_aE_10.out.cell (j := 2) rfl; have x_aE_3_10 := HX_aE_10.out.cell (j := 3) rfl; have x_x2_0_10 := HX_x2_10.out.cell (j := 0) rfl; have x_x2_1_10 := HX_x2_10.out.cell (j := 1) rfl; have x_x2_2_10 := HX_x2_10.out.cell (j := 2) rfl; have x_x2_3_10 := HX_x2_10.out.cell (j := 3) rfl)))
  clear x_aE_0 x_aE_1 x_aE_2 x_aE_3 x_x2_0 x_x2_1 x_x2_2 x_x2_3
  have x_aP_0 := HX_aP_10.out.cell (j := 0) rfl
  have x_aP_1 := HX_aP_10.out.cell (j := 1) rfl
  have x_x3_0 := HX_x3_10.out.cell (j := 0) rfl
  have x_x3_1 := HX_x3_10.out.cell (j := 1) rfl
  have HD_aP := Lib.hid (show RProof.rd W_10.drew (Lt W_10.drew.heap.size) [u3_0, u3_1] y3 from RProof.keep (RProof.more HO_aP_10.out fun i hi => Nat.lt_of_lt_of_le hi HA_10.out.size) fun i _ => rfl)
  go_wp2_with fail
  go_region_held3 (fun w' => w'.cell? ⟨W0.heap.size + 1, 0, none⟩ = some u3_0 ∧ w'.cell? ⟨W0.heap.size + 1, 1, none⟩ = some u3_1 ∧ w'.cell? ⟨W_7.heap.size, 0, none⟩ = some (.int .i64 y3.at_) ∧ w'.cell? ⟨W_7.heap.size, 1, none⟩ = some (.slice A_x3_1 n_x3_1 c_x3_1)) (first | exact ⟨x_aP_0, x_aP_1, x_x3_0, x_x3_1⟩ | exact ⟨x_aP_0_11, x_aP_1_11, x_x3_0_11, x_x3_1_11⟩ | exact ⟨x_aP_0_12, x_aP_1_12, x_x3_0_12, x_x3_1_12⟩) ((first
    | (go_at_call 21; (with_reducible refine (toProof_any [u3_0, u3_1] y3 W_10.drew HD_aP.out (by omega)).mono ?_); rintro e W_11 ⟨cs__t3, rfl, hown, hb⟩; obtain ⟨A__t3_1, n__t3_1, c__t3_1, rfl⟩ := RProof_shape hown.rd; have HO__t3_11 := Lib.hid (hown); have HB_10 := Lib.hid (below_drew hb); have HZ_10 := Lib.hid HB_10.out.size; have HA_11 := Lib.hid (HA_10.out.trans (HB_10.out.mono HA_10.out.size)); have HO_aP_11 := Lib.hid (RProof.keep HO_aP_10.out fun i hi => HB_10.out.block i (Nat.lt_of_lt_of_le hi HA_10.out.size)); have HO_x3_11 := Lib.hid (HO_x3_10.out.below HB_10.out (Nat.le_trans HT_7.out (Nat.le_trans (Nat.le_trans HZ_7.out HZ_8.out) HZ_9.out))); have HX_aP_11 := Lib.hid (HX_aP_10.out.below HB_10.out HX_aP_10.out.lt); have HX_x3_11 := Lib.hid (HX_x3_10.out.below HB_10.out HX_x3_10.out.lt); clear hb hown; have x_aP_0_11 := HX_aP_11.out.cell (j := 0) rfl; have x_aP_1_11 := HX_aP_11.out.cell (j := 1) rfl; have x_x3_0_11 := HX_x3_11.out.cell (j := 0) rfl; have x_x3_1_11 := HX_x3_11.out.cell (j := 1) rfl)
    | (go_at_call 12; (with_reducible refine (eqProof_same _ _ [(.int .i64 y3.at_), (.slice A_x3_1 n_x3_1 c_x3_1)] [(.int .i64 y3.at_), (.slice A__t3_1 n__t3_1 c__t3_1)] y3 _ (RProof.more HO_x3_11.out.rd fun i hi => Nat.lt_of_lt_of_le hi (Nat.le_trans HT_7.out (Nat.le_trans (Nat.le_trans (Nat.le_trans HZ_7.out HZ_8.out) HZ_9.out) HZ_10.out))) (RProof.more HO__t3_11.out.rd fun i hi => Nat.lt_of_lt_of_le hi (Nat.le_refl _)) (Nat.le_refl _) (Nat.le_refl _) (by omega)).mono ?_); rintro e W_12 ⟨rfl, hb⟩; have HB_11 := Lib.hid hb; have HZ_11 := Lib.hid HB_11.out.size; have HA_12 := Lib.hid (HA_11.out.trans (HB_11.out.mono HA_11.out.size)); have HO_aP_12 := Lib.hid (RProof.keep HO_aP_11.out fun i hi => HB_11.out.block i (Nat.lt_of_lt_of_le hi HA_11.out.size)); have HO_x3_12 := Lib.hid (HO_x3_11.out.below HB_11.out (Nat.le_trans HT_7.out (Nat.le_trans (Nat.le_trans (Nat.le_trans HZ_7.out HZ_8.out) HZ_9.out) HZ_10.out))); have HX_aP_12 := Lib.hid (HX_aP_11.out.below HB_11.out HX_aP_11.out.lt); have HX_x3_12 := Lib.hid (HX_x3_11.out.below HB_11.out HX_x3_11.out.lt); clear hb; have x_aP_0_12 := HX_aP_12.out.cell (j := 0) rfl; have x_aP_1_12 := HX_aP_12.out.cell (j := 1) rfl; have x_x3_0_12 := HX_x3_12.out.cell (j := 0) rfl; have x_x3_1_12 := HX_x3_12.out.cell (j := 1) rfl)))
  clear x_aP_0 x_aP_1 x_x3_0 x_x3_1
  go_wp2
  go_ret
  exact ⟨rfl, HA_12.out⟩
theorem FnExactCheckAll_walk (W0 : World) (v0 : Int) (hv0 : (Lit.int .i64 v0).wf = true) (a1 : Option Addr) (l1 c1 : Nat) (y1 : List Entry) (w1 : Rds REntry W0 (Lt W0.heap.size) a1 l1 y1) (hC1 : l1 ≤ c1) (hM1 : c1 ≤ maxLen) :
    Calls Try.prog 5 #[.int .i64 v0, .slice a1 l1 c1] W0 fun e w' => e = .returned (.bool true) ∧ Below W0.heap.size W0 w' := by
  have hV0 : -9223372036854775808 ≤ v0 ∧ v0 ≤ 9223372036854775807 := by simpa [Lit.wf, IntKind.min, IntKind.max, IntKind.signed, IntKind.bits] using hv0
  clear hv0
  have hR1 : FRdEntry W0 W0.heap.size a1 l1 y1 := w1
  have hL1 := hR1.len
  clear w1
  have HA_0 := Lib.hid (show Below W0.heap.size W0 W0 from Below.refl _ _)
  have HO_aList_0 := Lib.hid (hR1.below HA_0.out (Nat.le_refl _))
  have HC1 := Lib.hid hC1
  have HM1 := Lib.hid hM1
  clear hR1
  go_enter Try.func5, Try.ntmps5
  by_cases hn_aList : 1048576 < (totR totEntry y1 : Int)
  · have HN := Lib.hid hn_aList
    clear hn_aList
    go_wp2_with fail
    refine (szEntryS_any _ a1 l1 c1 y1 1048576 _ (HO_aList_0.out.more HA_0.out.size) (Nat.le_refl _) (by omega) (by omega) (Nat.le_trans HC1.out HM1.out)).mono ?_
    rw [if_pos HN.out]
    rintro e W_1 ⟨rfl, hb⟩
    have HAe := Lib.hid (HA_0.out.trans (hb.mono HA_0.out.size))
    clear hb
    go_wp2
    go_ret
    exact ⟨rfl, HAe.out⟩
  have hY1 : totR totEntry y1 ≤ 1048576 := by omega
  have hYl1 := totR_len totEntry y1
  have HN_aList := Lib.hid hn_aList
  clear hn_aList
  go_wp2_with fail
  refine (szEntryS_any _ a1 l1 c1 y1 1048576 _ (HO_aList_0.out.more HA_0.out.size) (Nat.le_refl _) (by omega) (by omega) (Nat.le_trans HC1.out HM1.out)).mono ?_
  rw [if_neg (show ¬ 1048576 < (totR totEntry y1 : Int) by have := HN_aList.out; omega)]
  rintro e W_1 ⟨rfl, hb⟩
  obtain ⟨qq0, hqq0⟩ : ∃ x, x = 1048576 - (totR totEntry y1 : Int) := ⟨_, rfl⟩
  rw [← hqq0]
  have hqq0l : 0 ≤ qq0 ∧ qq0 ≤ 1048576 := by have := HN_aList.out; omega
  have hqq0n : ¬ qq0 < 0 := by omega
  clear hqq0
  have HB_0 := Lib.hid hb
  have HZ_0 := Lib.hid HB_0.out.size
  have HA_1 := Lib.hid (HA_0.out.trans (HB_0.out.mono HA_0.out.size))
  have HO_aList_1 := Lib.hid (HO_aList_0.out.below HB_0.out HA_0.out.size)
  clear hb
  obtain ⟨r0, hS, hI⟩ := both_CheckAll v0 y1 hV0 hY1
  have HS := Lib.hid hS
  have HI := Lib.hid hI
  clear hS hI
  have hcy1 := cntR_le totEntry fullEntry fullEntry_le y1
  go_wp2_with fail
  refine (toEntryS_any a1 l1 c1 y1 _ (HO_aList_1.out.more HA_1.out.size) (by omega)).mono ?_
  rintro e W_2 ⟨A__t0, c__t0, rfl, hown, hb⟩
  have HO__t0_2 := Lib.hid hown
  have HB_1 := Lib.hid hb
  have HZ_1 := Lib.hid HB_1.out.size
  have HA_2 := Lib.hid (HA_1.out.trans (HB_1.out.mono HA_1.out.size))
  have HO_aList_2 := Lib.hid (HO_aList_1.out.below HB_1.out HA_1.out.size)
  clear hb hown
  go_wp2_with fail
  refine (HS.out A__t0 l1 c__t0 _ (HO__t0_2.out.cap.1) (HO__t0_2.out.rd.more (Nat.le_refl _))).mono ?_
  rintro e W_3 ⟨rfl, hb⟩
  have HB_2 := Lib.hid hb
  have HZ_2 := Lib.hid HB_2.out.size
  have HA_3 := Lib.hid (HA_2.out.trans (HB_2.out.mono HA_2.out.size))
  have HO_aList_3 := Lib.hid (HO_aList_2.out.below HB_2.out HA_2.out.size)
  clear hb
  go_wp2_with fail
  refine (toEntryS_any a1 l1 c1 y1 _ (HO_aList_3.out.more HA_3.out.size) (by omega)).mono ?_
  rintro e W_4 ⟨A_x1, c_x1, rfl, hown, hb⟩
  have HO_x1_4 := Lib.hid hown
  have HB_3 := Lib.hid hb
  have HZ_3 := Lib.hid HB_3.out.size
  have HA_4 := Lib.hid (HA_3.out.trans (HB_3.out.mono HA_3.out.size))
  have HO_aList_4 := Lib.hid (HO_aList_3.out.below HB_3.out HA_3.out.size)
  clear hb hown
  go_wp2_with fail
  refine (HI.out A_x1 l1 c_x1 _ (HO_x1_4.out.cap.1) (HO_x1_4.out.rd.more (Nat.le_refl _))).mono ?_
  rintro e W_5 ⟨rfl, hb⟩
  have HB_4 := Lib.hid hb
  have HZ_4 := Lib.hid HB_4.out.size
  have HA_5 := Lib.hid (HA_4.out.trans (HB_4.out.mono HA_4.out.size))
  have HO_aList_5 := Lib.hid (HO_aList_4.out.below HB_4.out HA_4.out.size)
  have HO_x1_5 := Lib.hid (HO_x1_4.out.below HB_4.out (Nat.le_refl _))
  clear hb
  go_wp2_with fail
  refine (toEntryS_any a1 l1 c1 y1 _ (HO_aList_5.out.more HA_5.out.size) (by omega)).mono ?_
  rintro e W_6 ⟨A__t1, c__t1, rfl, hown, hb⟩
  have HO__t1_6 := Lib.hid hown
  have HB_5 := Lib.hid hb
  have HZ_5 := Lib.hid HB_5.out.size
  have HA_6 := Lib.hid (HA_5.out.trans (HB_5.out.mono HA_5.out.size))
  have HO_x1_6 := Lib.hid (HO_x1_5.out.below HB_5.out HZ_4.out)
  clear hb hown
  go_wp2_with fail
  refine (eqEntryS_same _ _ A_x1 A__t1 l1 c_x1 c__t1 y1 _ (HO_x1_6.out.rd.more (Nat.le_trans HZ_4.out HZ_5.out)) (HO__t1_6.out.rd.more (Nat.le_refl _)) (Nat.le_refl _) (Nat.le_refl _) (by omega)).mono ?_
  rintro e W_7 ⟨rfl, hb⟩
  have HB_6 := Lib.hid hb
  have HZ_6 := Lib.hid HB_6.out.size
  have HA_7 := Lib.hid (HA_6.out.trans (HB_6.out.mono HA_6.out.size))
  clear hb
  go_wp2
  go_ret
  exact ⟨rfl, HA_7.out⟩
theorem FnExactSizeOfProof_walk (W0 : World) (u0_0 u0_1 : Value) (y0 : Proof) (w0 : RProof.rd W0 (Lt W0.heap.size) [u0_0, u0_1] y0) :
    Calls Try.prog 6 #[.agg #[u0_0, u0_1]] W0 fun e w' => e = .returned (.bool true) ∧ Below W0.heap.size W0 w' := by
  have HA_0 := Lib.hid (show Below W0.heap.size W0 (W0.alloc (.cells #[u0_0, u0_1] 39)) from (Below.refl _ _).alloc (by first | (simp; done) | (simp; omega)) _)
  have HO_aP_0 := Lib.hid (RProof.keep w0 fun i hi => HA_0.out.block i hi)
  have HX_aP_0 := Lib.hid (show Box (W0.alloc (.cells #[u0_0, u0_1] 39)) (W0.heap.size) [u0_0, u0_1] from (show Box (W0.alloc (.cells #[u0_0, u0_1] 39)) (W0.heap.size) [u0_0, u0_1] by have h := Box.new W0 #[u0_0, u0_1] 39; simpa using h))
  clear w0
  go_enter Try.func6, Try.ntmps6
  have x_aP_0 := HX_aP_0.out.cell (j := 0) rfl
  have x_aP_1 := HX_aP_0.out.cell (j := 1) rfl
  by_cases hn_aP : 1048576 < (totProof y0 : Int)
  · have HN := Lib.hid hn_aP
    clear hn_aP
    go_wp2_with fail
    refine (szProof_any [u0_0, u0_1] y0 1048576 _ (RProof.more HO_aP_0.out fun i hi => Nat.lt_of_lt_of_le hi HA_0.out.size) (by omega) (by omega)).mono ?_
    rw [if_pos HN.out]
    rintro e W_1 ⟨rfl, hb⟩
    have HAe := Lib.hid (HA_0.out.trans (hb.mono HA_0.out.size))
    clear hb
    go_wp2
    go_ret
    exact ⟨rfl, HAe.out⟩
  have hY0 : totProof y0 ≤ 1048576 := by omega
  have HN_aP := Lib.hid hn_aP
  clear hn_aP
  go_wp2_with fail
  refine (szProof_any [u0_0, u0_1] y0 1048576 _ (RProof.more HO_aP_0.out fun i hi => Nat.lt_of_lt_of_le hi HA_0.out.size) (by omega) (by omega)).mono ?_
  rw [if_neg (show ¬ 1048576 < (totProof y0 : Int) by have := HN_aP.out; omega)]
  rintro e W_1 ⟨rfl, hb⟩
  obtain ⟨qq0, hqq0⟩ : ∃ x, x = 1048576 - (totProof y0 : Int) := ⟨_, rfl⟩
  rw [← hqq0]
  have hqq0l : 0 ≤ qq0 ∧ qq0 ≤ 1048576 := by have := HN_aP.out; omega
  have hqq0n : ¬ qq0 < 0 := by omega
  clear hqq0
  have HB_0 := Lib.hid hb
  have HZ_0 := Lib.hid HB_0.out.size
  have HA_1 := Lib.hid (HA_0.out.trans (HB_0.out.mono HA_0.out.size))
  have HO_aP_1 := Lib.hid (RProof.keep HO_aP_0.out fun i hi => HB_0.out.block i (Nat.lt_of_lt_of_le hi HA_0.out.size))
  have HX_aP_1 := Lib.hid (HX_aP_0.out.below HB_0.out HX_aP_0.out.lt)
  clear hb
  clear x_aP_0 x_aP_1
  have x_aP_0 := HX_aP_1.out.cell (j := 0) rfl
  have x_aP_1 := HX_aP_1.out.cell (j := 1) rfl
  obtain ⟨r0, hS, hI⟩ := both_SizeOfProof y0 hY0
  have HS := Lib.hid hS
  have HI := Lib.hid hI
  clear hS hI
  have hcy0 := cntProof_le y0
  go_wp2_with fail
  refine (toProof_any [u0_0, u0_1] y0 _ (RProof.more HO_aP_1.out fun i hi => Nat.lt_of_lt_of_le hi HA_1.out.size) (by omega)).mono ?_
  rintro e W_2 ⟨cs__t0, rfl, hown, hb⟩
  obtain ⟨A__t0_1, n__t0_1, c__t0_1, rfl⟩ := RProof_shape hown.rd
  have HO__t0_2 := Lib.hid (hown)
  have HB_1 := Lib.hid hb
  have HZ_1 := Lib.hid HB_1.out.size
  have HA_2 := Lib.hid (HA_1.out.trans (HB_1.out.mono HA_1.out.size))
  have HO_aP_2 := Lib.hid (RProof.keep HO_aP_1.out fun i hi => HB_1.out.block i (Nat.lt_of_lt_of_le hi HA_1.out.size))
  have HX_aP_2 := Lib.hid (HX_aP_1.out.below HB_1.out HX_aP_1.out.lt)
  clear hb hown
  go_wp2_with fail
  refine (HS.out [(.int .i64 y0.at_), (.slice A__t0_1 n__t0_1 c__t0_1)] _ (RProof.more HO__t0_2.out.rd fun i hi => Nat.lt_of_lt_of_le hi (Nat.le_refl _))).mono ?_
  rintro e W_3 ⟨rfl, hb⟩
  have HB_2 := Lib.hid hb
  have HZ_2 := Lib.hid HB_2.out.size
  have HA_3 := Lib.hid (HA_2.out.trans (HB_2.out.mono HA_2.out.size))
  have HO_aP_3 := Lib.hid (RProof.keep HO_aP_2.out fun i hi => HB_2.out.block i (Nat.lt_of_lt_of_le hi HA_2.out.size))
  have HX_aP_3 := Lib.hid (HX_aP_2.out.below HB_2.out HX_aP_2.out.lt)
  clear hb
  clear x_aP_0 x_aP_1
  have x_aP_0 := HX_aP_3.out.cell (j := 0) rfl
  have x_aP_1 := HX_aP_3.out.cell (j := 1) rfl
  go_wp2_with fail
  refine (toProof_any [u0_0, u0_1] y0 _ (RProof.more HO_aP_3.out fun i hi => Nat.lt_of_lt_of_le hi HA_3.out.size) (by omega)).mono ?_
  rintro e W_4 ⟨cs_x0, rfl, hown, hb⟩
  obtain ⟨A_x0_1, n_x0_1, c_x0_1, rfl⟩ := RProof_shape hown.rd
  have HO_x0_4 := Lib.hid (hown.alloc (.cells #[(.int .i64 y0.at_), (.slice A_x0_1 n_x0_1 c_x0_1)] 26))
  have HT_4 := Lib.hid (show W_4.heap.size ≤ (W_4.alloc (.cells #[(.int .i64 y0.at_), (.slice A_x0_1 n_x0_1 c_x0_1)] 26)).heap.size by simp)
  have hb3 := hb.alloc hb.size (.cells #[(.int .i64 y0.at_), (.slice A_x0_1 n_x0_1 c_x0_1)] 26)
  have HB_3 := Lib.hid hb3
  have HQ_4 := Lib.hid hb.size
  have HZ_3 := Lib.hid HB_3.out.size
  have HA_4 := Lib.hid (HA_3.out.trans (HB_3.out.mono HA_3.out.size))
  have HO_aP_4 := Lib.hid (RProof.keep HO_aP_3.out fun i hi => HB_3.out.block i (Nat.lt_of_lt_of_le hi HA_3.out.size))
  have HX_aP_4 := Lib.hid (HX_aP_3.out.below HB_3.out HX_aP_3.out.lt)
  clear hb hown
  have HX_x0_4 := Lib.hid (show Box (W_4.alloc (.cells #[(.int .i64 y0.at_), (.slice A_x0_1 n_x0_1 c_x0_1)] 26)) W_4.heap.size [(.int .i64 y0.at_), (.slice A_x0_1 n_x0_1 c_x0_1)] from Box.new W_4 #[(.int .i64 y0.at_), (.slice A_x0_1 n_x0_1 c_x0_1)] 26)
  clear x_aP_0 x_aP_1
  have x_x0_0 := HX_x0_4.out.cell (j := 0) rfl
  have x_x0_1 := HX_x0_4.out.cell (j := 1) rfl
  go_wp2_with fail
  refine (HI.out [(.int .i64 y0.at_), (.slice A_x0_1 n_x0_1 c_x0_1)] _ (RProof.more HO_x0_4.out.rd fun i hi => Nat.lt_of_lt_of_le hi (Nat.le_trans HT_4.out (Nat.le_refl _)))).mono ?_
  rintro e W_5 ⟨rfl, hb⟩
  have HB_4 := Lib.hid hb
  have HZ_4 := Lib.hid HB_4.out.size
  have HA_5 := Lib.hid (HA_4.out.trans (HB_4.out.mono HA_4.out.size))
  have HO_aP_5 := Lib.hid (RProof.keep HO_aP_4.out fun i hi => HB_4.out.block i (Nat.lt_of_lt_of_le hi HA_4.out.size))
  have HO_x0_5 := Lib.hid (HO_x0_4.out.below HB_4.out (Nat.le_trans HT_4.out (Nat.le_refl _)))
  have HX_aP_5 := Lib.hid (HX_aP_4.out.below HB_4.out HX_aP_4.out.lt)
  have HX_x0_5 := Lib.hid (HX_x0_4.out.below HB_4.out HX_x0_4.out.lt)
  clear hb
  clear x_x0_0 x_x0_1
  have x_aP_0 := HX_aP_5.out.cell (j := 0) rfl
  have x_aP_1 := HX_aP_5.out.cell (j := 1) rfl
  have x_x0_0 := HX_x0_5.out.cell (j := 0) rfl
  have x_x0_1 := HX_x0_5.out.cell (j := 1) rfl
  have HD_aP := Lib.hid (show RProof.rd W_5.drew (Lt W_5.drew.heap.size) [u0_0, u0_1] y0 from RProof.keep (RProof.more HO_aP_5.out fun i hi => Nat.lt_of_lt_of_le hi HA_5.out.size) fun i _ => rfl)
  go_wp2_with fail
  go_region_held3 (fun w' => w'.cell? ⟨W0.heap.size, 0, none⟩ = some u0_0 ∧ w'.cell? ⟨W0.heap.size, 1, none⟩ = some u0_1 ∧ w'.cell? ⟨W_4.heap.size, 0, none⟩ = some (.int .i64 y0.at_) ∧ w'.cell? ⟨W_4.heap.size, 1, none⟩ = some (.slice A_x0_1 n_x0_1 c_x0_1)) (first | exact ⟨x_aP_0, x_aP_1, x_x0_0, x_x0_1⟩ | exact ⟨x_aP_0_6, x_aP_1_6, x_x0_0_6, x_x0_1_6⟩ | exact ⟨x_aP_0_7, x_aP_1_7, x_x0_0_7, x_x0_1_7⟩) ((first
    | (go_at_call 21; (with_reducible refine (toProof_any [u0_0, u0_1] y0 W_5.drew HD_aP.out (by omega)).mono ?_); rintro e W_6 ⟨cs__t1, rfl, hown, hb⟩; obtain ⟨A__t1_1, n__t1_1, c__t1_1, rfl⟩ := RProof_shape hown.rd; have HO__t1_6 := Lib.hid (hown); have HB_5 := Lib.hid (below_drew hb); have HZ_5 := Lib.hid HB_5.out.size; have HA_6 := Lib.hid (HA_5.out.trans (HB_5.out.mono HA_5.out.size)); have HO_aP_6 := Lib.hid (RProof.keep HO_aP_5.out fun i hi => HB_5.out.block i (Nat.lt_of_lt_of_le hi HA_5.out.size)); have HO_x0_6 := Lib.hid (HO_x0_5.out.below HB_5.out (Nat.le_trans HT_4.out HZ_4.out)); have HX_aP_6 := Lib.hid (HX_aP_5.out.below HB_5.out HX_aP_5.out.lt); have HX_x0_6 := Lib.hid (HX_x0_5.out.below HB_5.out HX_x0_5.out.lt); clear hb hown; have x_aP_0_6 := HX_aP_6.out.cell (j := 0) rfl; have x_aP_1_6 := HX_aP_6.out.cell (j := 1) rfl; have x_x0_0_6 := HX_x0_6.out.cell (j := 0) rfl; have x_x0_1_6 := HX_x0_6.out.cell (j := 1) rfl)
    | (go_at_call 12; (with_reducible refine (eqProof_same _ _ [(.int .i64 y0.at_), (.slice A_x0_1 n_x0_1 c_x0_1)] [(.int .i64 y0.at_), (.slice A__t1_1 n__t1_1 c__t1_1)] y0 _ (RProof.more HO_x0_6.out.rd fun i hi => Nat.lt_of_lt_of_le hi (Nat.le_trans HT_4.out (Nat.le_trans HZ_4.out HZ_5.out))) (RProof.more HO__t1_6.out.rd fun i hi => Nat.lt_of_lt_of_le hi (Nat.le_refl _)) (Nat.le_refl _) (Nat.le_refl _) (by omega)).mono ?_); rintro e W_7 ⟨rfl, hb⟩; have HB_6 := Lib.hid hb; have HZ_6 := Lib.hid HB_6.out.size; have HA_7 := Lib.hid (HA_6.out.trans (HB_6.out.mono HA_6.out.size)); have HO_aP_7 := Lib.hid (RProof.keep HO_aP_6.out fun i hi => HB_6.out.block i (Nat.lt_of_lt_of_le hi HA_6.out.size)); have HO_x0_7 := Lib.hid (HO_x0_6.out.below HB_6.out (Nat.le_trans HT_4.out (Nat.le_trans HZ_4.out HZ_5.out))); have HX_aP_7 := Lib.hid (HX_aP_6.out.below HB_6.out HX_aP_6.out.lt); have HX_x0_7 := Lib.hid (HX_x0_6.out.below HB_6.out HX_x0_6.out.lt); clear hb; have x_aP_0_7 := HX_aP_7.out.cell (j := 0) rfl; have x_aP_1_7 := HX_aP_7.out.cell (j := 1) rfl; have x_x0_0_7 := HX_x0_7.out.cell (j := 0) rfl; have x_x0_1_7 := HX_x0_7.out.cell (j := 1) rfl)))
  clear x_aP_0 x_aP_1 x_x0_0 x_x0_1
  go_wp2
  go_ret
  exact ⟨rfl, HA_7.out⟩
theorem FnExactEqualProofs_walk (W0 : World) (u0_0 u0_1 : Value) (y0 : Proof) (w0 : RProof.rd W0 (Lt W0.heap.size) [u0_0, u0_1] y0) (u1_0 u1_1 : Value) (y1 : Proof) (w1 : RProof.rd W0 (Lt W0.heap.size) [u1_0, u1_1] y1) :
    Calls Try.prog 7 #[.agg #[u0_0, u0_1], .agg #[u1_0, u1_1]] W0 fun e w' => e = .returned (.bool true) ∧ Below W0.heap.size W0 w' := by
  have HA_0 := Lib.hid (show Below W0.heap.size W0 ((W0.alloc (.cells #[u0_0, u0_1] 39)).alloc (.cells #[u1_0, u1_1] 39)) from ((Below.refl _ _).alloc (by first | (simp; done) | (simp; omega)) _).alloc (by first | (simp; done) | (simp; omega)) _)
  have HO_aA_0 := Lib.hid (RProof.keep w0 fun i hi => HA_0.out.block i hi)
  have HX_aA_0 := Lib.hid (show Box ((W0.alloc (.cells #[u0_0, u0_1] 39)).alloc (.cells #[u1_0, u1_1] 39)) (W0.heap.size) [u0_0, u0_1] from (show Box (W0.alloc (.cells #[u0_0, u0_1] 39)) (W0.heap.size) [u0_0, u0_1] by have h := Box.new W0 #[u0_0, u0_1] 39; simpa using h).alloc _)
  have HO_aB_0 := Lib.hid (RProof.keep w1 fun i hi => HA_0.out.block i hi)
  have HX_aB_0 := Lib.hid (show Box ((W0.alloc (.cells #[u0_0, u0_1] 39)).alloc (.cells #[u1_0, u1_1] 39)) (W0.heap.size + 1) [u1_0, u1_1] from (show Box ((W0.alloc (.cells #[u0_0, u0_1] 39)).alloc (.cells #[u1_0, u1_1] 39)) (W0.heap.size + 1) [u1_0, u1_1] by have h := Box.new (W0.alloc (.cells #[u0_0, u0_1] 39)) #[u1_0, u1_1] 39; simpa using h))
  clear w0
  clear w1
  go_enter Try.func7, Try.ntmps7
  have x_aA_0 := HX_aA_0.out.cell (j := 0) rfl
  have x_aA_1 := HX_aA_0.out.cell (j := 1) rfl
  by_cases hn_aA : 1048576 < (totProof y0 : Int)
  · have HN := Lib.hid hn_aA
    clear hn_aA
    go_wp2_with fail
    refine (szProof_any [u0_0, u0_1] y0 1048576 _ (RProof.more HO_aA_0.out fun i hi => Nat.lt_of_lt_of_le hi HA_0.out.size) (by omega) (by omega)).mono ?_
    rw [if_pos HN.out]
    rintro e W_1 ⟨rfl, hb⟩
    have HAe := Lib.hid (HA_0.out.trans (hb.mono HA_0.out.size))
    clear hb
    go_wp2
    go_ret
    exact ⟨rfl, HAe.out⟩
  have hY0 : totProof y0 ≤ 1048576 := by omega
  have HN_aA := Lib.hid hn_aA
  clear hn_aA
  go_wp2_with fail
  refine (szProof_any [u0_0, u0_1] y0 1048576 _ (RProof.more HO_aA_0.out fun i hi => Nat.lt_of_lt_of_le hi HA_0.out.size) (by omega) (by omega)).mono ?_
  rw [if_neg (show ¬ 1048576 < (totProof y0 : Int) by have := HN_aA.out; omega)]
  rintro e W_1 ⟨rfl, hb⟩
  obtain ⟨qq0, hqq0⟩ : ∃ x, x = 1048576 - (totProof y0 : Int) := ⟨_, rfl⟩
  rw [← hqq0]
  have hqq0l : 0 ≤ qq0 ∧ qq0 ≤ 1048576 := by have := HN_aA.out; omega
  have hqq0n : ¬ qq0 < 0 := by omega
  clear hqq0
  have HB_0 := Lib.hid hb
  have HZ_0 := Lib.hid HB_0.out.size
  have HA_1 := Lib.hid (HA_0.out.trans (HB_0.out.mono HA_0.out.size))
  have HO_aA_1 := Lib.hid (RProof.keep HO_aA_0.out fun i hi => HB_0.out.block i (Nat.lt_of_lt_of_le hi HA_0.out.size))
  have HO_aB_1 := Lib.hid (RProof.keep HO_aB_0.out fun i hi => HB_0.out.block i (Nat.lt_of_lt_of_le hi HA_0.out.size))
  have HX_aA_1 := Lib.hid (HX_aA_0.out.below HB_0.out HX_aA_0.out.lt)
  have HX_aB_1 := Lib.hid (HX_aB_0.out.below HB_0.out HX_aB_0.out.lt)
  clear hb
  clear x_aA_0 x_aA_1
  have x_aB_0 := HX_aB_1.out.cell (j := 0) rfl
  have x_aB_1 := HX_aB_1.out.cell (j := 1) rfl
  by_cases hn_aB : qq0 < (totProof y1 : Int)
  · have HN := Lib.hid hn_aB
    clear hn_aB
    go_wp2_with fail
    refine (szProof_any [u1_0, u1_1] y1 qq0 _ (RProof.more HO_aB_1.out fun i hi => Nat.lt_of_lt_of_le hi HA_1.out.size) (by omega) (by omega)).mono ?_
    rw [if_pos HN.out]
    rintro e W_2 ⟨rfl, hb⟩
    have HAe := Lib.hid (HA_1.out.trans (hb.mono HA_1.out.size))
    clear hb
    go_wp2
    go_ret
    exact ⟨rfl, HAe.out⟩
  have hY1 : totProof y1 ≤ 1048576 := by omega
  have HN_aB := Lib.hid hn_aB
  clear hn_aB
  go_wp2_with fail
  refine (szProof_any [u1_0, u1_1] y1 qq0 _ (RProof.more HO_aB_1.out fun i hi => Nat.lt_of_lt_of_le hi HA_1.out.size) (by omega) (by omega)).mono ?_
  rw [if_neg (show ¬ qq0 < (totProof y1 : Int) by have := HN_aB.out; omega)]
  rintro e W_2 ⟨rfl, hb⟩
  obtain ⟨qq1, hqq1⟩ : ∃ x, x = qq0 - (totProof y1 : Int) := ⟨_, rfl⟩
  rw [← hqq1]
  have hqq1l : 0 ≤ qq1 ∧ qq1 ≤ 1048576 := by have := HN_aB.out; omega
  have hqq1n : ¬ qq1 < 0 := by omega
  clear hqq1
  have HB_1 := Lib.hid hb
  have HZ_1 := Lib.hid HB_1.out.size
  have HA_2 := Lib.hid (HA_1.out.trans (HB_1.out.mono HA_1.out.size))
  have HO_aA_2 := Lib.hid (RProof.keep HO_aA_1.out fun i hi => HB_1.out.block i (Nat.lt_of_lt_of_le hi HA_1.out.size))
  have HO_aB_2 := Lib.hid (RProof.keep HO_aB_1.out fun i hi => HB_1.out.block i (Nat.lt_of_lt_of_le hi HA_1.out.size))
  have HX_aA_2 := Lib.hid (HX_aA_1.out.below HB_1.out HX_aA_1.out.lt)
  have HX_aB_2 := Lib.hid (HX_aB_1.out.below HB_1.out HX_aB_1.out.lt)
  clear hb
  clear x_aB_0 x_aB_1
  have x_aA_0 := HX_aA_2.out.cell (j := 0) rfl
  have x_aA_1 := HX_aA_2.out.cell (j := 1) rfl
  have x_aB_0 := HX_aB_2.out.cell (j := 0) rfl
  have x_aB_1 := HX_aB_2.out.cell (j := 1) rfl
  have HD_aA := Lib.hid (show RProof.rd W_2.drew (Lt W_2.drew.heap.size) [u0_0, u0_1] y0 from RProof.keep (RProof.more HO_aA_2.out fun i hi => Nat.lt_of_lt_of_le hi HA_2.out.size) fun i _ => rfl)
  obtain ⟨r0, hS, hI⟩ := both_EqualProofs y0 y1 hY0 hY1
  have HS := Lib.hid hS
  have HI := Lib.hid hI
  clear hS hI
  have hcy0 := cntProof_le y0
  have hcy1 := cntProof_le y1
  go_wp2_with fail
  go_region_held3 (fun w' => w'.cell? ⟨W0.heap.size, 0, none⟩ = some u0_0 ∧ w'.cell? ⟨W0.heap.size, 1, none⟩ = some u0_1 ∧ w'.cell? ⟨W0.heap.size + 1, 0, none⟩ = some u1_0 ∧ w'.cell? ⟨W0.heap.size + 1, 1, none⟩ = some u1_1) (first | exact ⟨x_aA_0, x_aA_1, x_aB_0, x_aB_1⟩ | exact ⟨x_aA_0_3, x_aA_1_3, x_aB_0_3, x_aB_1_3⟩ | exact ⟨x_aA_0_4, x_aA_1_4, x_aB_0_4, x_aB_1_4⟩ | exact ⟨x_aA_0_5, x_aA_1_5, x_aB_0_5, x_aB_1_5⟩) ((first
    | (go_at_call 21; (with_reducible refine (toProof_any [u0_0, u0_1] y0 W_2.drew HD_aA.out (by omega)).mono ?_); rintro e W_3 ⟨cs__t0, rfl, hown, hb⟩; obtain ⟨A__t0_1, n__t0_1, c__t0_1, rfl⟩ := RProof_shape hown.rd; have HO__t0_3 := Lib.hid (hown); have HB_2 := Lib.hid (below_drew hb); have HZ_2 := Lib.hid HB_2.out.size; have HA_3 := Lib.hid (HA_2.out.trans (HB_2.out.mono HA_2.out.size)); have HO_aA_3 := Lib.hid (RProof.keep HO_aA_2.out fun i hi => HB_2.out.block i (Nat.lt_of_lt_of_le hi HA_2.out.size)); have HO_aB_3 := Lib.hid (RProof.keep HO_aB_2.out fun i hi => HB_2.out.block i (Nat.lt_of_lt_of_le hi HA_2.out.size)); have HX_aA_3 := Lib.hid (HX_aA_2.out.below HB_2.out HX_aA_2.out.lt); have HX_aB_3 := Lib.hid (HX_aB_2.out.below HB_2.out HX_aB_2.out.lt); clear hb hown; have x_aA_0_3 := HX_aA_3.out.cell (j := 0) rfl; have x_aA_1_3 := HX_aA_3.out.cell (j := 1) rfl; have x_aB_0_3 := HX_aB_3.out.cell (j := 0) rfl; have x_aB_1_3 := HX_aB_3.out.cell (j := 1) rfl)
    | (go_at_call 21; (with_reducible refine (toProof_any [u1_0, u1_1] y1 _ (RProof.more HO_aB_3.out fun i hi => Nat.lt_of_lt_of_le hi HA_3.out.size) (by omega)).mono ?_); rintro e W_4 ⟨cs__t1, rfl, hown, hb⟩; obtain ⟨A__t1_1, n__t1_1, c__t1_1, rfl⟩ := RProof_shape hown.rd; have HO__t1_4 := Lib.hid (hown); have HB_3 := Lib.hid hb; have HZ_3 := Lib.hid HB_3.out.size; have HA_4 := Lib.hid (HA_3.out.trans (HB_3.out.mono HA_3.out.size)); have HO_aA_4 := Lib.hid (RProof.keep HO_aA_3.out fun i hi => HB_3.out.block i (Nat.lt_of_lt_of_le hi HA_3.out.size)); have HO_aB_4 := Lib.hid (RProof.keep HO_aB_3.out fun i hi => HB_3.out.block i (Nat.lt_of_lt_of_le hi HA_3.out.size)); have HO__t0_4 := Lib.hid (HO__t0_3.out.below HB_3.out (Nat.le_refl _)); have HX_aA_4 := Lib.hid (HX_aA_3.out.below HB_3.out HX_aA_3.out.lt); have HX_aB_4 := Lib.hid (HX_aB_3.out.below HB_3.out HX_aB_3.out.lt); clear hb hown; have x_aA_0_4 := HX_aA_4.out.cell (j := 0) rfl; have x_aA_1_4 := HX_aA_4.out.cell (j := 1) rfl; have x_aB_0_4 := HX_aB_4.out.cell (j := 0) rfl; have x_aB_1_4 := HX_aB_4.out.cell (j := 1) rfl)
    | (go_at_call 28; (with_reducible refine (HS.out [(.int .i64 y0.at_), (.slice A__t0_1 n__t0_1 c__t0_1)] [(.int .i64 y1.at_), (.slice A__t1_1 n__t1_1 c__t1_1)] _ (RProof.more HO__t0_4.out.rd fun i hi => Nat.lt_of_lt_of_le hi HZ_3.out) (RProof.more HO__t1_4.out.rd fun i hi => Nat.lt_of_lt_of_le hi (Nat.le_refl _))).mono ?_); rintro e W_5 ⟨rfl, hb⟩; have HB_4 := Lib.hid hb; have HZ_4 := Lib.hid HB_4.out.size; have HA_5 := Lib.hid (HA_4.out.trans (HB_4.out.mono HA_4.out.size)); have HO_aA_5 := Lib.hid (RProof.keep HO_aA_4.out fun i hi => HB_4.out.block i (Nat.lt_of_lt_of_le hi HA_4.out.size)); have HO_aB_5 := Lib.hid (RProof.keep HO_aB_4.out fun i hi => HB_4.out.block i (Nat.lt_of_lt_of_le hi HA_4.out.size)); have HX_aA_5 := Lib.hid (HX_aA_4.out.below HB_4.out HX_aA_4.out.lt); have HX_aB_5 := Lib.hid (HX_aB_4.out.below HB_4.out HX_aB_4.out.lt); clear hb; have x_aA_0_5 := HX_aA_5.out.cell (j := 0) rfl; have x_aA_1_5 := HX_aA_5.out.cell (j := 1) rfl; have x_aB_0_5 := HX_aB_5.out.cell (j := 0) rfl; have x_aB_1_5 := HX_aB_5.out.cell (j := 1) rfl)))
  clear x_aA_0 x_aA_1 x_aB_0 x_aB_1
  have x_aA_0 := HX_aA_5.out.cell (j := 0) rfl
  have x_aA_1 := HX_aA_5.out.cell (j := 1) rfl
  go_wp2_with fail
  refine (toProof_any [u0_0, u0_1] y0 _ (RProof.more HO_aA_5.out fun i hi => Nat.lt_of_lt_of_le hi HA_5.out.size) (by omega)).mono ?_
  rintro e W_6 ⟨cs_x0, rfl, hown, hb⟩
  obtain ⟨A_x0_1, n_x0_1, c_x0_1, rfl⟩ := RProof_shape hown.rd
  have HO_x0_6 := Lib.hid (hown.alloc (.cells #[(.int .i64 y0.at_), (.slice A_x0_1 n_x0_1 c_x0_1)] 26))
  have HT_6 := Lib.hid (show W_6.heap.size ≤ (W_6.alloc (.cells #[(.int .i64 y0.at_), (.slice A_x0_1 n_x0_1 c_x0_1)] 26)).heap.size by simp)
  have hb5 := hb.alloc hb.size (.cells #[(.int .i64 y0.at_), (.slice A_x0_1 n_x0_1 c_x0_1)] 26)
  have HB_5 := Lib.hid hb5
  have HQ_6 := Lib.hid hb.size
  have HZ_5 := Lib.hid HB_5.out.size
  have HA_6 := Lib.hid (HA_5.out.trans (HB_5.out.mono HA_5.out.size))
  have HO_aA_6 := Lib.hid (RProof.keep HO_aA_5.out fun i hi => HB_5.out.block i (Nat.lt_of_lt_of_le hi HA_5.out.size))
  have HO_aB_6 := Lib.hid (RProof.keep HO_aB_5.out fun i hi => HB_5.out.block i (Nat.lt_of_lt_of_le hi HA_5.out.size))
  have HX_aA_6 := Lib.hid (HX_aA_5.out.below HB_5.out HX_aA_5.out.lt)
  have HX_aB_6 := Lib.hid (HX_aB_5.out.below HB_5.out HX_aB_5.out.lt)
  clear hb hown
  have HX_x0_6 := Lib.hid (show Box (W_6.alloc (.cells #[(.int .i64 y0.at_), (.slice A_x0_1 n_x0_1 c_x0_1)] 26)) W_6.heap.size [(.int .i64 y0.at_), (.slice A_x0_1 n_x0_1 c_x0_1)] from Box.new W_6 #[(.int .i64 y0.at_), (.slice A_x0_1 n_x0_1 c_x0_1)] 26)
  clear x_aA_0 x_aA_1
  have x_aB_0 := HX_aB_6.out.cell (j := 0) rfl
  have x_aB_1 := HX_aB_6.out.cell (j := 1) rfl
  go_wp2_with fail
  refine (toProof_any [u1_0, u1_1] y1 _ (RProof.more HO_aB_6.out fun i hi => Nat.lt_of_lt_of_le hi HA_6.out.size) (by omega)).mono ?_
  rintro e W_7 ⟨cs_x1, rfl, hown, hb⟩
  obtain ⟨A_x1_1, n_x1_1, c_x1_1, rfl⟩ := RProof_shape hown.rd
  have HO_x1_7 := Lib.hid (hown.alloc (.cells #[(.int .i64 y1.at_), (.slice A_x1_1 n_x1_1 c_x1_1)] 26))
  have HT_7 := Lib.hid (show W_7.heap.size ≤ (W_7.alloc (.cells #[(.int .i64 y1.at_), (.slice A_x1_1 n_x1_1 c_x1_1)] 26)).heap.size by simp)
  have hb6 := hb.alloc hb.size (.cells #[(.int .i64 y1.at_), (.slice A_x1_1 n_x1_1 c_x1_1)] 26)
  have HB_6 := Lib.hid hb6
  have HQ_7 := Lib.hid hb.size
  have HZ_6 := Lib.hid HB_6.out.size
  have HA_7 := Lib.hid (HA_6.out.trans (HB_6.out.mono HA_6.out.size))
  have HO_aA_7 := Lib.hid (RProof.keep HO_aA_6.out fun i hi => HB_6.out.block i (Nat.lt_of_lt_of_le hi HA_6.out.size))
  have HO_aB_7 := Lib.hid (RProof.keep HO_aB_6.out fun i hi => HB_6.out.block i (Nat.lt_of_lt_of_le hi HA_6.out.size))
  have HO_x0_7 := Lib.hid (HO_x0_6.out.below HB_6.out (Nat.le_trans HT_6.out (Nat.le_refl _)))
  have HX_aA_7 := Lib.hid (HX_aA_6.out.below HB_6.out HX_aA_6.out.lt)
  have HX_aB_7 := Lib.hid (HX_aB_6.out.below HB_6.out HX_aB_6.out.lt)
  have HX_x0_7 := Lib.hid (HX_x0_6.out.below HB_6.out HX_x0_6.out.lt)
  clear hb hown
  have HX_x1_7 := Lib.hid (show Box (W_7.alloc (.cells #[(.int .i64 y1.at_), (.slice A_x1_1 n_x1_1 c_x1_1)] 26)) W_7.heap.size [(.int .i64 y1.at_), (.slice A_x1_1 n_x1_1 c_x1_1)] from Box.new W_7 #[(.int .i64 y1.at_), (.slice A_x1_1 n_x1_1 c_x1_1)] 26)
  clear x_aB_0 x_aB_1
  have x_x0_0 := HX_x0_7.out.cell (j := 0) rfl
  have x_x0_1 := HX_x0_7.out.cell (j := 1) rfl
  have x_x1_0 := HX_x1_7.out.cell (j := 0) rfl
  have x_x1_1 := HX_x1_7.out.cell (j := 1) rfl
  go_wp2_with fail
  refine (HI.out [(.int .i64 y0.at_), (.slice A_x0_1 n_x0_1 c_x0_1)] [(.int .i64 y1.at_), (.slice A_x1_1 n_x1_1 c_x1_1)] _ (RProof.more HO_x0_7.out.rd fun i hi => Nat.lt_of_lt_of_le hi (Nat.le_trans HT_6.out HZ_6.out)) (RProof.more HO_x1_7.out.rd fun i hi => Nat.lt_of_lt_of_le hi (Nat.le_trans HT_7.out (Nat.le_refl _)))).mono ?_
  rintro e W_8 ⟨rfl, hb⟩
  have HB_7 := Lib.hid hb
  have HZ_7 := Lib.hid HB_7.out.size
  have HA_8 := Lib.hid (HA_7.out.trans (HB_7.out.mono HA_7.out.size))
  have HO_aA_8 := Lib.hid (RProof.keep HO_aA_7.out fun i hi => HB_7.out.block i (Nat.lt_of_lt_of_le hi HA_7.out.size))
  have HO_aB_8 := Lib.hid (RProof.keep HO_aB_7.out fun i hi => HB_7.out.block i (Nat.lt_of_lt_of_le hi HA_7.out.size))
  have HO_x0_8 := Lib.hid (HO_x0_7.out.below HB_7.out (Nat.le_trans HT_6.out HZ_6.out))
  have HO_x1_8 := Lib.hid (HO_x1_7.out.below HB_7.out (Nat.le_trans HT_7.out (Nat.le_refl _)))
  have HX_aA_8 := Lib.hid (HX_aA_7.out.below HB_7.out HX_aA_7.out.lt)
  have HX_aB_8 := Lib.hid (HX_aB_7.out.below HB_7.out HX_aB_7.out.lt)
  have HX_x0_8 := Lib.hid (HX_x0_7.out.below HB_7.out HX_x0_7.out.lt)
  have HX_x1_8 := Lib.hid (HX_x1_7.out.below HB_7.out HX_x1_7.out.lt)
  clear hb
  clear x_x0_0 x_x0_1 x_x1_0 x_x1_1
  have x_aA_0 := HX_aA_8.out.cell (j := 0) rfl
  have x_aA_1 := HX_aA_8.out.cell (j := 1) rfl
  have x_x0_0 := HX_x0_8.out.cell (j := 0) rfl
  have x_x0_1 := HX_x0_8.out.cell (j := 1) rfl
  have HD_aA := Lib.hid (show RProof.rd W_8.drew (Lt W_8.drew.heap.size) [u0_0, u0_1] y0 from RProof.keep (RProof.more HO_aA_8.out fun i hi => Nat.lt_of_lt_of_le hi HA_8.out.size) fun i _ => rfl)
  go_wp2_with fail
  go_region_held3 (fun w' => w'.cell? ⟨W0.heap.size, 0, none⟩ = some u0_0 ∧ w'.cell? ⟨W0.heap.size, 1, none⟩ = some u0_1 ∧ w'.cell? ⟨W_6.heap.size, 0, none⟩ = some (.int .i64 y0.at_) ∧ w'.cell? ⟨W_6.heap.size, 1, none⟩ = some (.slice A_x0_1 n_x0_1 c_x0_1)) (first | exact ⟨x_aA_0, x_aA_1, x_x0_0, x_x0_1⟩ | exact ⟨x_aA_0_9, x_aA_1_9, x_x0_0_9, x_x0_1_9⟩ | exact ⟨x_aA_0_10, x_aA_1_10, x_x0_0_10, x_x0_1_10⟩) ((first
    | (go_at_call 21; (with_reducible refine (toProof_any [u0_0, u0_1] y0 W_8.drew HD_aA.out (by omega)).mono ?_); rintro e W_9 ⟨cs__t2, rfl, hown, hb⟩; obtain ⟨A__t2_1, n__t2_1, c__t2_1, rfl⟩ := RProof_shape hown.rd; have HO__t2_9 := Lib.hid (hown); have HB_8 := Lib.hid (below_drew hb); have HZ_8 := Lib.hid HB_8.out.size; have HA_9 := Lib.hid (HA_8.out.trans (HB_8.out.mono HA_8.out.size)); have HO_aA_9 := Lib.hid (RProof.keep HO_aA_8.out fun i hi => HB_8.out.block i (Nat.lt_of_lt_of_le hi HA_8.out.size)); have HO_aB_9 := Lib.hid (RProof.keep HO_aB_8.out fun i hi => HB_8.out.block i (Nat.lt_of_lt_of_le hi HA_8.out.size)); have HO_x0_9 := Lib.hid (HO_x0_8.out.below HB_8.out (Nat.le_trans HT_6.out (Nat.le_trans HZ_6.out HZ_7.out))); have HO_x1_9 := Lib.hid (HO_x1_8.out.below HB_8.out (Nat.le_trans HT_7.out HZ_7.out)); have HX_aA_9 := Lib.hid (HX_aA_8.out.below HB_8.out HX_aA_8.out.lt); have HX_aB_9 := Lib.hid (HX_aB_8.out.below HB_8.out HX_aB_8.out.lt); have HX_x0_9 := Lib.hid (HX_x0_8.out.below HB_8.out HX_x0_8.out.lt); have HX_x1_9 := Lib.hid (HX_x1_8.out.below HB_8.out HX_x1_8.out.lt); clear hb hown; have x_aA_0_9 := HX_aA_9.out.cell (j := 0) rfl; have x_aA_1_9 := HX_aA_9.out.cell (j := 1) rfl; have x_x0_0_9 := HX_x0_9.out.cell (j := 0) rfl; have x_x0_1_9 := HX_x0_9.out.cell (j := 1) rfl)
    | (go_at_call 12; (with_reducible refine (eqProof_same _ _ [(.int .i64 y0.at_), (.slice A_x0_1 n_x0_1 c_x0_1)] [(.int .i64 y0.at_), (.slice A__t2_1 n__t2_1 c__t2_1)] y0 _ (RProof.more HO_x0_9.out.rd fun i hi => Nat.lt_of_lt_of_le hi (Nat.le_trans HT_6.out (Nat.le_trans (Nat.le_trans HZ_6.out HZ_7.out) HZ_8.out))) (RProof.more HO__t2_9.out.rd fun i hi => Nat.lt_of_lt_of_le hi (Nat.le_refl _)) (Nat.le_refl _) (Nat.le_refl _) (by omega)).mono ?_); rintro e W_10 ⟨rfl, hb⟩; have HB_9 := Lib.hid hb; have HZ_9 := Lib.hid HB_9.out.size; have HA_10 := Lib.hid (HA_9.out.trans (HB_9.out.mono HA_9.out.size)); have HO_aA_10 := Lib.hid (RProof.keep HO_aA_9.out fun i hi => HB_9.out.block i (Nat.lt_of_lt_of_le hi HA_9.out.size)); have HO_aB_10 := Lib.hid (RProof.keep HO_aB_9.out fun i hi => HB_9.out.block i (Nat.lt_of_lt_of_le hi HA_9.out.size)); have HO_x0_10 := Lib.hid (HO_x0_9.out.below HB_9.out (Nat.le_trans HT_6.out (Nat.le_trans (Nat.le_trans HZ_6.out HZ_7.out) HZ_8.out))); have HO_x1_10 := Lib.hid (HO_x1_9.out.below HB_9.out (Nat.le_trans HT_7.out (Nat.le_trans HZ_7.out HZ_8.out))); have HX_aA_10 := Lib.hid (HX_aA_9.out.below HB_9.out HX_aA_9.out.lt); have HX_aB_10 := Lib.hid (HX_aB_9.out.below HB_9.out HX_aB_9.out.lt); have HX_x0_10 := Lib.hid (HX_x0_9.out.below HB_9.out HX_x0_9.out.lt); have HX_x1_10 := Lib.hid (HX_x1_9.out.below HB_9.out HX_x1_9.out.lt); clear hb; have x_aA_0_10 := HX_aA_10.out.cell (j := 0) rfl; have x_aA_1_10 := HX_aA_10.out.cell (j := 1) rfl; have x_x0_0_10 := HX_x0_10.out.cell (j := 0) rfl; have x_x0_1_10 := HX_x0_10.out.cell (j := 1) rfl)))
  clear x_aA_0 x_aA_1 x_x0_0 x_x0_1
  have x_aB_0 := HX_aB_10.out.cell (j := 0) rfl
  have x_aB_1 := HX_aB_10.out.cell (j := 1) rfl
  have x_x1_0 := HX_x1_10.out.cell (j := 0) rfl
  have x_x1_1 := HX_x1_10.out.cell (j := 1) rfl
  have HD_aB := Lib.hid (show RProof.rd W_10.drew (Lt W_10.drew.heap.size) [u1_0, u1_1] y1 from RProof.keep (RProof.more HO_aB_10.out fun i hi => Nat.lt_of_lt_of_le hi HA_10.out.size) fun i _ => rfl)
  go_wp2_with fail
  go_region_held3 (fun w' => w'.cell? ⟨W0.heap.size + 1, 0, none⟩ = some u1_0 ∧ w'.cell? ⟨W0.heap.size + 1, 1, none⟩ = some u1_1 ∧ w'.cell? ⟨W_7.heap.size, 0, none⟩ = some (.int .i64 y1.at_) ∧ w'.cell? ⟨W_7.heap.size, 1, none⟩ = some (.slice A_x1_1 n_x1_1 c_x1_1)) (first | exact ⟨x_aB_0, x_aB_1, x_x1_0, x_x1_1⟩ | exact ⟨x_aB_0_11, x_aB_1_11, x_x1_0_11, x_x1_1_11⟩ | exact ⟨x_aB_0_12, x_aB_1_12, x_x1_0_12, x_x1_1_12⟩) ((first
    | (go_at_call 21; (with_reducible refine (toProof_any [u1_0, u1_1] y1 W_10.drew HD_aB.out (by omega)).mono ?_); rintro e W_11 ⟨cs__t3, rfl, hown, hb⟩; obtain ⟨A__t3_1, n__t3_1, c__t3_1, rfl⟩ := RProof_shape hown.rd; have HO__t3_11 := Lib.hid (hown); have HB_10 := Lib.hid (below_drew hb); have HZ_10 := Lib.hid HB_10.out.size; have HA_11 := Lib.hid (HA_10.out.trans (HB_10.out.mono HA_10.out.size)); have HO_aB_11 := Lib.hid (RProof.keep HO_aB_10.out fun i hi => HB_10.out.block i (Nat.lt_of_lt_of_le hi HA_10.out.size)); have HO_x1_11 := Lib.hid (HO_x1_10.out.below HB_10.out (Nat.le_trans HT_7.out (Nat.le_trans (Nat.le_trans HZ_7.out HZ_8.out) HZ_9.out))); have HX_aB_11 := Lib.hid (HX_aB_10.out.below HB_10.out HX_aB_10.out.lt); have HX_x1_11 := Lib.hid (HX_x1_10.out.below HB_10.out HX_x1_10.out.lt); clear hb hown; have x_aB_0_11 := HX_aB_11.out.cell (j := 0) rfl; have x_aB_1_11 := HX_aB_11.out.cell (j := 1) rfl; have x_x1_0_11 := HX_x1_11.out.cell (j := 0) rfl; have x_x1_1_11 := HX_x1_11.out.cell (j := 1) rfl)
    | (go_at_call 12; (with_reducible refine (eqProof_same _ _ [(.int .i64 y1.at_), (.slice A_x1_1 n_x1_1 c_x1_1)] [(.int .i64 y1.at_), (.slice A__t3_1 n__t3_1 c__t3_1)] y1 _ (RProof.more HO_x1_11.out.rd fun i hi => Nat.lt_of_lt_of_le hi (Nat.le_trans HT_7.out (Nat.le_trans (Nat.le_trans (Nat.le_trans HZ_7.out HZ_8.out) HZ_9.out) HZ_10.out))) (RProof.more HO__t3_11.out.rd fun i hi => Nat.lt_of_lt_of_le hi (Nat.le_refl _)) (Nat.le_refl _) (Nat.le_refl _) (by omega)).mono ?_); rintro e W_12 ⟨rfl, hb⟩; have HB_11 := Lib.hid hb; have HZ_11 := Lib.hid HB_11.out.size; have HA_12 := Lib.hid (HA_11.out.trans (HB_11.out.mono HA_11.out.size)); have HO_aB_12 := Lib.hid (RProof.keep HO_aB_11.out fun i hi => HB_11.out.block i (Nat.lt_of_lt_of_le hi HA_11.out.size)); have HO_x1_12 := Lib.hid (HO_x1_11.out.below HB_11.out (Nat.le_trans HT_7.out (Nat.le_trans (Nat.le_trans (Nat.le_trans HZ_7.out HZ_8.out) HZ_9.out) HZ_10.out))); have HX_aB_12 := Lib.hid (HX_aB_11.out.below HB_11.out HX_aB_11.out.lt); have HX_x1_12 := Lib.hid (HX_x1_11.out.below HB_11.out HX_x1_11.out.lt); clear hb; have x_aB_0_12 := HX_aB_12.out.cell (j := 0) rfl; have x_aB_1_12 := HX_aB_12.out.cell (j := 1) rfl; have x_x1_0_12 := HX_x1_12.out.cell (j := 0) rfl; have x_x1_1_12 := HX_x1_12.out.cell (j := 1) rfl)))
  clear x_aB_0 x_aB_1 x_x1_0 x_x1_1
  go_wp2
  go_ret
  exact ⟨rfl, HA_12.out⟩
end Go.Proofs.Ytomajneofdmnaaa.W11
