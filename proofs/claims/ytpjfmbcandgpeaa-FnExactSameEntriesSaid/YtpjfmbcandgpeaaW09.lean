/- The walks of the exact laws of chapter 9: each law returns true, and writes into nothing that was there. -/
import Derived.Test.YtpjfmbcandgpeaaC09U
import Derived.Test.YtpjfmbcandgpeaaT08
import Derived.Test.YtpjfmbcandgpeaaT01
import Derived.Deep.RegionHeld3
namespace Go.Proofs.Ytpjfmbcandgpeaa.W09
open Go.RowKit Mem MemS Rep RW R08 Q08 C09U T01 T04 T05 T08
set_option linter.unusedVariables false
set_option maxRecDepth 100000
set_option maxHeartbeats 4000000
theorem FnExactAreEntries_walk (W0 : World) (a0 : Option Addr) (l0 c0 : Nat) (y0 : List Entry) (w0 : Rds REntry W0 (Lt W0.heap.size) a0 l0 y0) (hC0 : l0 ≤ c0) (hM0 : c0 ≤ maxLen) :
    Calls Try.prog 4 #[.slice a0 l0 c0] W0 fun e w' => e = .returned (.bool true) ∧ Below W0.heap.size W0 w' := by
  have hR0 : FRdEntry W0 W0.heap.size a0 l0 y0 := w0
  have hL0 := hR0.len
  clear w0
  have HA_0 := Lib.hid (show Below W0.heap.size W0 W0 from Below.refl _ _)
  have HO_aList_0 := Lib.hid (hR0.below HA_0.out (Nat.le_refl _))
  have HC0 := Lib.hid hC0
  have HM0 := Lib.hid hM0
  clear hR0
  go_enter Try.func4, Try.ntmps4
  by_cases hn_aList : 1048576 < (totR totEntry y0 : Int)
  · have HN := Lib.hid hn_aList
    clear hn_aList
    go_wp2_with fail
    refine (szEntryS_any _ a0 l0 c0 y0 1048576 _ (HO_aList_0.out.more HA_0.out.size) (Nat.le_refl _) (by omega) (by omega) (Nat.le_trans HC0.out HM0.out)).mono ?_
    rw [if_pos HN.out]
    rintro e W_1 ⟨rfl, hb⟩
    have HAe := Lib.hid (HA_0.out.trans (hb.mono HA_0.out.size))
    clear hb
    go_wp2
    go_ret
    exact ⟨rfl, HAe.out⟩
  have hY0 : totR totEntry y0 ≤ 1048576 := by omega
  have hYl0 := totR_len totEntry y0
  have HN_aList := Lib.hid hn_aList
  clear hn_aList
  go_wp2_with fail
  refine (szEntryS_any _ a0 l0 c0 y0 1048576 _ (HO_aList_0.out.more HA_0.out.size) (Nat.le_refl _) (by omega) (by omega) (Nat.le_trans HC0.out HM0.out)).mono ?_
  rw [if_neg (show ¬ 1048576 < (totR totEntry y0 : Int) by have := HN_aList.out; omega)]
  rintro e W_1 ⟨rfl, hb⟩
  obtain ⟨qq0, hqq0⟩ : ∃ x, x = 1048576 - (totR totEntry y0 : Int) := ⟨_, rfl⟩
  rw [← hqq0]
  have hqq0l : 0 ≤ qq0 ∧ qq0 ≤ 1048576 := by have := HN_aList.out; omega
  have hqq0n : ¬ qq0 < 0 := by omega
  clear hqq0
  have HB_0 := Lib.hid hb
  have HZ_0 := Lib.hid HB_0.out.size
  have HA_1 := Lib.hid (HA_0.out.trans (HB_0.out.mono HA_0.out.size))
  have HO_aList_1 := Lib.hid (HO_aList_0.out.below HB_0.out HA_0.out.size)
  clear hb
  obtain ⟨r0, hS, hI⟩ := both_AreEntries y0 hY0
  have HS := Lib.hid hS
  have HI := Lib.hid hI
  clear hS hI
  have hcy0 := cntR_le totEntry fullEntry fullEntry_le y0
  go_wp2_with fail
  refine (toEntryS_any a0 l0 c0 y0 _ (HO_aList_1.out.more HA_1.out.size) (by omega)).mono ?_
  rintro e W_2 ⟨A__t0, c__t0, rfl, hown, hb⟩
  have HO__t0_2 := Lib.hid hown
  have HB_1 := Lib.hid hb
  have HZ_1 := Lib.hid HB_1.out.size
  have HA_2 := Lib.hid (HA_1.out.trans (HB_1.out.mono HA_1.out.size))
  have HO_aList_2 := Lib.hid (HO_aList_1.out.below HB_1.out HA_1.out.size)
  clear hb hown
  go_wp2_with fail
  refine (HS.out A__t0 l0 c__t0 _ (HO__t0_2.out.cap.1) (HO__t0_2.out.rd.more (Nat.le_refl _))).mono ?_
  rintro e W_3 ⟨rfl, hb⟩
  have HB_2 := Lib.hid hb
  have HZ_2 := Lib.hid HB_2.out.size
  have HA_3 := Lib.hid (HA_2.out.trans (HB_2.out.mono HA_2.out.size))
  have HO_aList_3 := Lib.hid (HO_aList_2.out.below HB_2.out HA_2.out.size)
  clear hb
  go_wp2_with fail
  refine (toEntryS_any a0 l0 c0 y0 _ (HO_aList_3.out.more HA_3.out.size) (by omega)).mono ?_
  rintro e W_4 ⟨A_x0, c_x0, rfl, hown, hb⟩
  have HO_x0_4 := Lib.hid hown
  have HB_3 := Lib.hid hb
  have HZ_3 := Lib.hid HB_3.out.size
  have HA_4 := Lib.hid (HA_3.out.trans (HB_3.out.mono HA_3.out.size))
  have HO_aList_4 := Lib.hid (HO_aList_3.out.below HB_3.out HA_3.out.size)
  clear hb hown
  go_wp2_with fail
  refine (HI.out A_x0 l0 c_x0 _ (HO_x0_4.out.cap.1) (HO_x0_4.out.rd.more (Nat.le_refl _))).mono ?_
  rintro e W_5 ⟨rfl, hb⟩
  have HB_4 := Lib.hid hb
  have HZ_4 := Lib.hid HB_4.out.size
  have HA_5 := Lib.hid (HA_4.out.trans (HB_4.out.mono HA_4.out.size))
  have HO_aList_5 := Lib.hid (HO_aList_4.out.below HB_4.out HA_4.out.size)
  have HO_x0_5 := Lib.hid (HO_x0_4.out.below HB_4.out (Nat.le_refl _))
  clear hb
  go_wp2_with fail
  refine (toEntryS_any a0 l0 c0 y0 _ (HO_aList_5.out.more HA_5.out.size) (by omega)).mono ?_
  rintro e W_6 ⟨A__t1, c__t1, rfl, hown, hb⟩
  have HO__t1_6 := Lib.hid hown
  have HB_5 := Lib.hid hb
  have HZ_5 := Lib.hid HB_5.out.size
  have HA_6 := Lib.hid (HA_5.out.trans (HB_5.out.mono HA_5.out.size))
  have HO_x0_6 := Lib.hid (HO_x0_5.out.below HB_5.out HZ_4.out)
  clear hb hown
  go_wp2_with fail
  refine (eqEntryS_same _ _ A_x0 A__t1 l0 c_x0 c__t1 y0 _ (HO_x0_6.out.rd.more (Nat.le_trans HZ_4.out HZ_5.out)) (HO__t1_6.out.rd.more (Nat.le_refl _)) (Nat.le_refl _) (Nat.le_refl _) (by omega)).mono ?_
  rintro e W_7 ⟨rfl, hb⟩
  have HB_6 := Lib.hid hb
  have HZ_6 := Lib.hid HB_6.out.size
  have HA_7 := Lib.hid (HA_6.out.trans (HB_6.out.mono HA_6.out.size))
  clear hb
  go_wp2
  go_ret
  exact ⟨rfl, HA_7.out⟩
theorem FnExactFindEntry_walk (W0 : World) (a0 : Option Addr) (l0 c0 : Nat) (y0 : List Entry) (w0 : Rds REntry W0 (Lt W0.heap.size) a0 l0 y0) (hC0 : l0 ≤ c0) (hM0 : c0 ≤ maxLen) (v1 : ByteArray) (hv1 : v1.size ≤ maxLen) :
    Calls Try.prog 5 #[.slice a0 l0 c0, .string v1] W0 fun e w' => e = .returned (.bool true) ∧ Below W0.heap.size W0 w' := by
  have hR0 : FRdEntry W0 W0.heap.size a0 l0 y0 := w0
  have hL0 := hR0.len
  clear w0
  by_cases hg1 : 1048576 < v1.size
  · have hg : 1048576 < (v1.size : Int) := by omega
    clear hR0 hL0 hC0 hM0
    go_enter Try.func5, Try.ntmps5
    go_wp2
    go_ret
    exact ⟨rfl, (Below.refl _ _)⟩
  have HA_0 := Lib.hid (show Below W0.heap.size W0 W0 from Below.refl _ _)
  have HO_aList_0 := Lib.hid (hR0.below HA_0.out (Nat.le_refl _))
  have HC0 := Lib.hid hC0
  have HM0 := Lib.hid hM0
  clear hR0
  go_enter Try.func5, Try.ntmps5
  by_cases hn_aList : 1048576 < (totR totEntry y0 : Int)
  · have HN := Lib.hid hn_aList
    clear hn_aList
    go_wp2_with fail
    refine (szEntryS_any _ a0 l0 c0 y0 1048576 _ (HO_aList_0.out.more HA_0.out.size) (Nat.le_refl _) (by omega) (by omega) (Nat.le_trans HC0.out HM0.out)).mono ?_
    rw [if_pos HN.out]
    rintro e W_1 ⟨rfl, hb⟩
    have HAe := Lib.hid (HA_0.out.trans (hb.mono HA_0.out.size))
    clear hb
    go_wp2
    go_ret
    exact ⟨rfl, HAe.out⟩
  have hY0 : totR totEntry y0 ≤ 1048576 := by omega
  have hYl0 := totR_len totEntry y0
  have HN_aList := Lib.hid hn_aList
  clear hn_aList
  go_wp2_with fail
  refine (szEntryS_any _ a0 l0 c0 y0 1048576 _ (HO_aList_0.out.more HA_0.out.size) (Nat.le_refl _) (by omega) (by omega) (Nat.le_trans HC0.out HM0.out)).mono ?_
  rw [if_neg (show ¬ 1048576 < (totR totEntry y0 : Int) by have := HN_aList.out; omega)]
  rintro e W_1 ⟨rfl, hb⟩
  obtain ⟨qq0, hqq0⟩ : ∃ x, x = 1048576 - (totR totEntry y0 : Int) := ⟨_, rfl⟩
  rw [← hqq0]
  have hqq0l : 0 ≤ qq0 ∧ qq0 ≤ 1048576 := by have := HN_aList.out; omega
  have hqq0n : ¬ qq0 < 0 := by omega
  clear hqq0
  have HB_0 := Lib.hid hb
  have HZ_0 := Lib.hid HB_0.out.size
  have HA_1 := Lib.hid (HA_0.out.trans (HB_0.out.mono HA_0.out.size))
  have HO_aList_1 := Lib.hid (HO_aList_0.out.below HB_0.out HA_0.out.size)
  clear hb
  obtain ⟨r0, hS, hI⟩ := both_FindEntry y0 v1 hY0 (by omega)
  have HS := Lib.hid hS
  have HI := Lib.hid hI
  clear hS hI
  have hcy0 := cntR_le totEntry fullEntry fullEntry_le y0
  go_wp2_with fail
  refine (toEntryS_any a0 l0 c0 y0 _ (HO_aList_1.out.more HA_1.out.size) (by omega)).mono ?_
  rintro e W_2 ⟨A__t0, c__t0, rfl, hown, hb⟩
  have HO__t0_2 := Lib.hid hown
  have HB_1 := Lib.hid hb
  have HZ_1 := Lib.hid HB_1.out.size
  have HA_2 := Lib.hid (HA_1.out.trans (HB_1.out.mono HA_1.out.size))
  have HO_aList_2 := Lib.hid (HO_aList_1.out.below HB_1.out HA_1.out.size)
  clear hb hown
  go_wp2_with fail
  refine (HS.out A__t0 l0 c__t0 _ (HO__t0_2.out.cap.1) (HO__t0_2.out.rd.more (Nat.le_refl _))).mono ?_
  rintro e W_3 ⟨rfl, hb⟩
  have HB_2 := Lib.hid hb
  have HZ_2 := Lib.hid HB_2.out.size
  have HA_3 := Lib.hid (HA_2.out.trans (HB_2.out.mono HA_2.out.size))
  have HO_aList_3 := Lib.hid (HO_aList_2.out.below HB_2.out HA_2.out.size)
  clear hb
  go_wp2_with fail
  refine (toEntryS_any a0 l0 c0 y0 _ (HO_aList_3.out.more HA_3.out.size) (by omega)).mono ?_
  rintro e W_4 ⟨A_x0, c_x0, rfl, hown, hb⟩
  have HO_x0_4 := Lib.hid hown
  have HB_3 := Lib.hid hb
  have HZ_3 := Lib.hid HB_3.out.size
  have HA_4 := Lib.hid (HA_3.out.trans (HB_3.out.mono HA_3.out.size))
  have HO_aList_4 := Lib.hid (HO_aList_3.out.below HB_3.out HA_3.out.size)
  clear hb hown
  go_wp2_with fail
  refine (HI.out A_x0 l0 c_x0 _ (HO_x0_4.out.cap.1) (HO_x0_4.out.rd.more (Nat.le_refl _))).mono ?_
  rintro e W_5 ⟨rfl, hb⟩
  have HB_4 := Lib.hid hb
  have HZ_4 := Lib.hid HB_4.out.size
  have HA_5 := Lib.hid (HA_4.out.trans (HB_4.out.mono HA_4.out.size))
  have HO_aList_5 := Lib.hid (HO_aList_4.out.below HB_4.out HA_4.out.size)
  have HO_x0_5 := Lib.hid (HO_x0_4.out.below HB_4.out (Nat.le_refl _))
  clear hb
  go_wp2_with fail
  refine (toEntryS_any a0 l0 c0 y0 _ (HO_aList_5.out.more HA_5.out.size) (by omega)).mono ?_
  rintro e W_6 ⟨A__t1, c__t1, rfl, hown, hb⟩
  have HO__t1_6 := Lib.hid hown
  have HB_5 := Lib.hid hb
  have HZ_5 := Lib.hid HB_5.out.size
  have HA_6 := Lib.hid (HA_5.out.trans (HB_5.out.mono HA_5.out.size))
  have HO_x0_6 := Lib.hid (HO_x0_5.out.below HB_5.out HZ_4.out)
  clear hb hown
  go_wp2_with fail
  refine (eqEntryS_same _ _ A_x0 A__t1 l0 c_x0 c__t1 y0 _ (HO_x0_6.out.rd.more (Nat.le_trans HZ_4.out HZ_5.out)) (HO__t1_6.out.rd.more (Nat.le_refl _)) (Nat.le_refl _) (Nat.le_refl _) (by omega)).mono ?_
  rintro e W_7 ⟨rfl, hb⟩
  have HB_6 := Lib.hid hb
  have HZ_6 := Lib.hid HB_6.out.size
  have HA_7 := Lib.hid (HA_6.out.trans (HB_6.out.mono HA_6.out.size))
  clear hb
  go_wp2
  go_ret
  exact ⟨rfl, HA_7.out⟩
theorem FnExactPutEntry_walk (W0 : World) (a0 : Option Addr) (l0 c0 : Nat) (y0 : List Entry) (w0 : Rds REntry W0 (Lt W0.heap.size) a0 l0 y0) (hC0 : l0 ≤ c0) (hM0 : c0 ≤ maxLen) (u1_0 u1_1 u1_2 u1_3 : Value) (y1 : Entry) (w1 : REntry.rd W0 (Lt W0.heap.size) [u1_0, u1_1, u1_2, u1_3] y1) :
    Calls Try.prog 6 #[.slice a0 l0 c0, .agg #[u1_0, u1_1, u1_2, u1_3]] W0 fun e w' => e = .returned (.bool true) ∧ Below W0.heap.size W0 w' := by
  have hR0 : FRdEntry W0 W0.heap.size a0 l0 y0 := w0
  have hL0 := hR0.len
  clear w0
  have HA_0 := Lib.hid (show Below W0.heap.size W0 (W0.alloc (.cells #[u1_0, u1_1, u1_2, u1_3] 47)) from (Below.refl _ _).alloc (by first | (simp; done) | (simp; omega)) _)
  have HO_aList_0 := Lib.hid (hR0.below HA_0.out (Nat.le_refl _))
  have HC0 := Lib.hid hC0
  have HM0 := Lib.hid hM0
  have HO_aE_0 := Lib.hid (REntry.keep w1 fun i hi => HA_0.out.block i hi)
  have HX_aE_0 := Lib.hid (show Box (W0.alloc (.cells #[u1_0, u1_1, u1_2, u1_3] 47)) (W0.heap.size) [u1_0, u1_1, u1_2, u1_3] from (show Box (W0.alloc (.cells #[u1_0, u1_1, u1_2, u1_3] 47)) (W0.heap.size) [u1_0, u1_1, u1_2, u1_3] by have h := Box.new W0 #[u1_0, u1_1, u1_2, u1_3] 47; simpa using h))
  clear hR0
  clear w1
  go_enter Try.func6, Try.ntmps6
  by_cases hn_aList : 1048576 < (totR totEntry y0 : Int)
  · have HN := Lib.hid hn_aList
    clear hn_aList
    go_wp2_with fail
    refine (szEntryS_any _ a0 l0 c0 y0 1048576 _ (HO_aList_0.out.more HA_0.out.size) (Nat.le_refl _) (by omega) (by omega) (Nat.le_trans HC0.out HM0.out)).mono ?_
    rw [if_pos HN.out]
    rintro e W_1 ⟨rfl, hb⟩
    have HAe := Lib.hid (HA_0.out.trans (hb.mono HA_0.out.size))
    clear hb
    go_wp2
    go_ret
    exact ⟨rfl, HAe.out⟩
  have hY0 : totR totEntry y0 ≤ 1048576 := by omega
  have hYl0 := totR_len totEntry y0
  have HN_aList := Lib.hid hn_aList
  clear hn_aList
  go_wp2_with fail
  refine (szEntryS_any _ a0 l0 c0 y0 1048576 _ (HO_aList_0.out.more HA_0.out.size) (Nat.le_refl _) (by omega) (by omega) (Nat.le_trans HC0.out HM0.out)).mono ?_
  rw [if_neg (show ¬ 1048576 < (totR totEntry y0 : Int) by have := HN_aList.out; omega)]
  rintro e W_1 ⟨rfl, hb⟩
  obtain ⟨qq0, hqq0⟩ : ∃ x, x = 1048576 - (totR totEntry y0 : Int) := ⟨_, rfl⟩
  rw [← hqq0]
  have hqq0l : 0 ≤ qq0 ∧ qq0 ≤ 1048576 := by have := HN_aList.out; omega
  have hqq0n : ¬ qq0 < 0 := by omega
  clear hqq0
  have HB_0 := Lib.hid hb
  have HZ_0 := Lib.hid HB_0.out.size
  have HA_1 := Lib.hid (HA_0.out.trans (HB_0.out.mono HA_0.out.size))
  have HO_aList_1 := Lib.hid (HO_aList_0.out.below HB_0.out HA_0.out.size)
  have HO_aE_1 := Lib.hid (REntry.keep HO_aE_0.out fun i hi => HB_0.out.block i (Nat.lt_of_lt_of_le hi HA_0.out.size))
  have HX_aE_1 := Lib.hid (HX_aE_0.out.below HB_0.out HX_aE_0.out.lt)
  clear hb
  have x_aE_0 := HX_aE_1.out.cell (j := 0) rfl
  have x_aE_1 := HX_aE_1.out.cell (j := 1) rfl
  have x_aE_2 := HX_aE_1.out.cell (j := 2) rfl
  have x_aE_3 := HX_aE_1.out.cell (j := 3) rfl
  by_cases hn_aE : qq0 < (totEntry y1 : Int)
  · have HN := Lib.hid hn_aE
    clear hn_aE
    go_wp2_with fail
    refine (szEntry_any [u1_0, u1_1, u1_2, u1_3] y1 qq0 _ (REntry.more HO_aE_1.out fun i hi => Nat.lt_of_lt_of_le hi HA_1.out.size) (by omega) (by omega)).mono ?_
    rw [if_pos HN.out]
    rintro e W_2 ⟨rfl, hb⟩
    have HAe := Lib.hid (HA_1.out.trans (hb.mono HA_1.out.size))
    clear hb
    go_wp2
    go_ret
    exact ⟨rfl, HAe.out⟩
  have hY1 : totEntry y1 ≤ 1048576 := by omega
  have HN_aE := Lib.hid hn_aE
  clear hn_aE
  go_wp2_with fail
  refine (szEntry_any [u1_0, u1_1, u1_2, u1_3] y1 qq0 _ (REntry.more HO_aE_1.out fun i hi => Nat.lt_of_lt_of_le hi HA_1.out.size) (by omega) (by omega)).mono ?_
  rw [if_neg (show ¬ qq0 < (totEntry y1 : Int) by have := HN_aE.out; omega)]
  rintro e W_2 ⟨rfl, hb⟩
  obtain ⟨qq1, hqq1⟩ : ∃ x, x = qq0 - (totEntry y1 : Int) := ⟨_, rfl⟩
  rw [← hqq1]
  have hqq1l : 0 ≤ qq1 ∧ qq1 ≤ 1048576 := by have := HN_aE.out; omega
  have hqq1n : ¬ qq1 < 0 := by omega
  clear hqq1
  have HB_1 := Lib.hid hb
  have HZ_1 := Lib.hid HB_1.out.size
  have HA_2 := Lib.hid (HA_1.out.trans (HB_1.out.mono HA_1.out.size))
  have HO_aList_2 := Lib.hid (HO_aList_1.out.below HB_1.out HA_1.out.size)
  have HO_aE_2 := Lib.hid (REntry.keep HO_aE_1.out fun i hi => HB_1.out.block i (Nat.lt_of_lt_of_le hi HA_1.out.size))
  have HX_aE_2 := Lib.hid (HX_aE_1.out.below HB_1.out HX_aE_1.out.lt)
  clear hb
  clear x_aE_0 x_aE_1 x_aE_2 x_aE_3
  have x_aE_0 := HX_aE_2.out.cell (j := 0) rfl
  have x_aE_1 := HX_aE_2.out.cell (j := 1) rfl
  have x_aE_2 := HX_aE_2.out.cell (j := 2) rfl
  have x_aE_3 := HX_aE_2.out.cell (j := 3) rfl
  have HD_aList := Lib.hid ((HO_aList_2.out.more HA_2.out.size).same (w' := W_2.drew) ⟨rfl, rfl, rfl, rfl⟩)
  obtain ⟨r0, r1, hlen0, hS, hI⟩ := both_PutEntry y0 y1 hY0 hY1
  have HS := Lib.hid hS
  have HI := Lib.hid hI
  clear hS hI
  have hcnt0 := cntR_le totEntry fullEntry fullEntry_le r0
  have htl0 := totR_len totEntry r0
  have hcy0 := cntR_le totEntry fullEntry fullEntry_le y0
  have hcy1 := cntEntry_le y1
  go_wp2_with fail
  go_region_held3 (fun w' => w'.cell? ⟨W0.heap.size, 0, none⟩ = some u1_0 ∧ w'.cell? ⟨W0.heap.size, 1, none⟩ = some u1_1 ∧ w'.cell? ⟨W0.heap.size, 2, none⟩ = some u1_2 ∧ w'.cell? ⟨W0.heap.size, 3, none⟩ = some u1_3) (first | exact ⟨x_aE_0, x_aE_1, x_aE_2, x_aE_3⟩ | exact ⟨x_aE_0_3, x_aE_1_3, x_aE_2_3, x_aE_3_3⟩ | exact ⟨x_aE_0_4, x_aE_1_4, x_aE_2_4, x_aE_3_4⟩ | exact ⟨x_aE_0_5, x_aE_1_5, x_aE_2_5, x_aE_3_5⟩) ((first
    | (go_at_call 27; (with_reducible refine (toEntryS_any a0 l0 c0 y0 _ HD_aList.out (by omega)).mono ?_); rintro e W_3 ⟨A__t0, c__t0, rfl, hown, hb⟩; have HO__t0_3 := Lib.hid hown; have HB_2 := Lib.hid (below_drew hb); have HZ_2 := Lib.hid HB_2.out.size; have HA_3 := Lib.hid (HA_2.out.trans (HB_2.out.mono HA_2.out.size)); have HO_aList_3 := Lib.hid (HO_aList_2.out.below HB_2.out HA_2.out.size); have HO_aE_3 := Lib.hid (REntry.keep HO_aE_2.out fun i hi => HB_2.out.block i (Nat.lt_of_lt_of_le hi HA_2.out.size)); have HX_aE_3 := Lib.hid (HX_aE_2.out.below HB_2.out HX_aE_2.out.lt); clear hb hown; have x_aE_0_3 := HX_aE_3.out.cell (j := 0) rfl; have x_aE_1_3 := HX_aE_3.out.cell (j := 1) rfl; have x_aE_2_3 := HX_aE_3.out.cell (j := 2) rfl; have x_aE_3_3 := HX_aE_3.out.cell (j := 3) rfl)
    | (go_at_call 31; (with_reducible refine (toEntry_any [u1_0, u1_1, u1_2, u1_3] y1 _ (REntry.more HO_aE_3.out fun i hi => Nat.lt_of_lt_of_le hi HA_3.out.size) (by omega)).mono ?_); rintro e W_4 ⟨cs__t1, rfl, hown, hb⟩; obtain ⟨A__t1_3, n__t1_3, c__t1_3, rfl⟩ := REntry_shape hown.rd; have HO__t1_4 := Lib.hid (hown); have HB_3 := Lib.hid hb; have HZ_3 := Lib.hid HB_3.out.size; have HA_4 := Lib.hid (HA_3.out.trans (HB_3.out.mono HA_3.out.size)); have HO_aList_4 := Lib.hid (HO_aList_3.out.below HB_3.out HA_3.out.size); have HO_aE_4 := Lib.hid (REntry.keep HO_aE_3.out fun i hi => HB_3.out.block i (Nat.lt_of_lt_of_le hi HA_3.out.size)); have HO__t0_4 := Lib.hid (HO__t0_3.out.below HB_3.out (Nat.le_refl _)); have HX_aE_4 := Lib.hid (HX_aE_3.out.below HB_3.out HX_aE_3.out.lt); clear hb hown; have x_aE_0_4 := HX_aE_4.out.cell (j := 0) rfl; have x_aE_1_4 := HX_aE_4.out.cell (j := 1) rfl; have x_aE_2_4 := HX_aE_4.out.cell (j := 2) rfl; have x_aE_3_4 := HX_aE_4.out.cell (j := 3) rfl)
    | (go_at_call 14; (with_reducible refine (HS.out A__t0 l0 c__t0 [(.string y1.label), (.int .i64 y1.kind), (.int .i64 y1.value), (.slice A__t1_3 n__t1_3 c__t1_3)] _ (HO__t0_4.out.cap.1) (HO__t0_4.out.rd.more HZ_3.out) (REntry.more HO__t1_4.out.rd fun i hi => Nat.lt_of_lt_of_le hi (Nat.le_refl _))).mono ?_); rintro e W_5 ⟨A_w0, c_w0, rfl, ho0, hb⟩; have HO_w0_5 := Lib.hid ho0; have HB_4 := Lib.hid hb; have HZ_4 := Lib.hid HB_4.out.size; have HA_5 := Lib.hid (HA_4.out.trans (HB_4.out.mono HA_4.out.size)); have HO_aList_5 := Lib.hid (HO_aList_4.out.below HB_4.out HA_4.out.size); have HO_aE_5 := Lib.hid (REntry.keep HO_aE_4.out fun i hi => HB_4.out.block i (Nat.lt_of_lt_of_le hi HA_4.out.size)); have HX_aE_5 := Lib.hid (HX_aE_4.out.below HB_4.out HX_aE_4.out.lt); clear hb ho0; have x_aE_0_5 := HX_aE_5.out.cell (j := 0) rfl; have x_aE_1_5 := HX_aE_5.out.cell (j := 1) rfl; have x_aE_2_5 := HX_aE_5.out.cell (j := 2) rfl; have x_aE_3_5 := HX_aE_5.out.cell (j := 3) rfl)))
  clear x_aE_0 x_aE_1 x_aE_2 x_aE_3
  go_wp2_with fail
  refine (toEntryS_any a0 l0 c0 y0 _ (HO_aList_5.out.more HA_5.out.size) (by omega)).mono ?_
  rintro e W_6 ⟨A_x0, c_x0, rfl, hown, hb⟩
  have HO_x0_6 := Lib.hid hown
  have HB_5 := Lib.hid hb
  have HZ_5 := Lib.hid HB_5.out.size
  have HA_6 := Lib.hid (HA_5.out.trans (HB_5.out.mono HA_5.out.size))
  have HO_aList_6 := Lib.hid (HO_aList_5.out.below HB_5.out HA_5.out.size)
  have HO_aE_6 := Lib.hid (REntry.keep HO_aE_5.out fun i hi => HB_5.out.block i (Nat.lt_of_lt_of_le hi HA_5.out.size))
  have HO_w0_6 := Lib.hid (HO_w0_5.out.below HB_5.out (Nat.le_refl _))
  have HX_aE_6 := Lib.hid (HX_aE_5.out.below HB_5.out HX_aE_5.out.lt)
  clear hb hown
  have x_aE_0 := HX_aE_6.out.cell (j := 0) rfl
  have x_aE_1 := HX_aE_6.out.cell (j := 1) rfl
  have x_aE_2 := HX_aE_6.out.cell (j := 2) rfl
  have x_aE_3 := HX_aE_6.out.cell (j := 3) rfl
  go_wp2_with fail
  refine (toEntry_any [u1_0, u1_1, u1_2, u1_3] y1 _ (REntry.more HO_aE_6.out fun i hi => Nat.lt_of_lt_of_le hi HA_6.out.size) (by omega)).mono ?_
  rintro e W_7 ⟨cs_x1, rfl, hown, hb⟩
  obtain ⟨A_x1_3, n_x1_3, c_x1_3, rfl⟩ := REntry_shape hown.rd
  have HO_x1_7 := Lib.hid (hown.alloc (.cells #[(.string y1.label), (.int .i64 y1.kind), (.int .i64 y1.value), (.slice A_x1_3 n_x1_3 c_x1_3)] 27))
  have HT_7 := Lib.hid (show W_7.heap.size ≤ (W_7.alloc (.cells #[(.string y1.label), (.int .i64 y1.kind), (.int .i64 y1.value), (.slice A_x1_3 n_x1_3 c_x1_3)] 27)).heap.size by simp)
  have hb6 := hb.alloc hb.size (.cells #[(.string y1.label), (.int .i64 y1.kind), (.int .i64 y1.value), (.slice A_x1_3 n_x1_3 c_x1_3)] 27)
  have HB_6 := Lib.hid hb6
  have HQ_7 := Lib.hid hb.size
  have HZ_6 := Lib.hid HB_6.out.size
  have HA_7 := Lib.hid (HA_6.out.trans (HB_6.out.mono HA_6.out.size))
  have HO_aList_7 := Lib.hid (HO_aList_6.out.below HB_6.out HA_6.out.size)
  have HO_aE_7 := Lib.hid (REntry.keep HO_aE_6.out fun i hi => HB_6.out.block i (Nat.lt_of_lt_of_le hi HA_6.out.size))
  have HO_w0_7 := Lib.hid (HO_w0_6.out.below HB_6.out HZ_5.out)
  have HO_x0_7 := Lib.hid (HO_x0_6.out.below HB_6.out (Nat.le_refl _))
  have HX_aE_7 := Lib.hid (HX_aE_6.out.below HB_6.out HX_aE_6.out.lt)
  clear hb hown
  have HX_x1_7 := Lib.hid (show Box (W_7.alloc (.cells #[(.string y1.label), (.int .i64 y1.kind), (.int .i64 y1.value), (.slice A_x1_3 n_x1_3 c_x1_3)] 27)) W_7.heap.size [(.string y1.label), (.int .i64 y1.kind), (.int .i64 y1.value), (.slice A_x1_3 n_x1_3 c_x1_3)] from Box.new W_7 #[(.string y1.label), (.int .i64 y1.kind), (.int .i64 y1.value), (.slice A_x1_3 n_x1_3 c_x1_3)] 27)
  clear x_aE_0 x_aE_1 x_aE_2 x_aE_3
  have x_x1_0 := HX_x1_7.out.cell (j := 0) rfl
  have x_x1_1 := HX_x1_7.out.cell (j := 1) rfl
  have x_x1_2 := HX_x1_7.out.cell (j := 2) rfl
  have x_x1_3 := HX_x1_7.out.cell (j := 3) rfl
  go_wp2_with fail
  refine (HI.out A_x0 l0 c_x0 [(.string y1.label), (.int .i64 y1.kind), (.int .i64 y1.value), (.slice A_x1_3 n_x1_3 c_x1_3)] _ (HO_x0_7.out.cap.1) (HO_x0_7.out.rd.more HZ_6.out) (REntry.more HO_x1_7.out.rd fun i hi => Nat.lt_of_lt_of_le hi (Nat.le_trans HT_7.out (Nat.le_refl _)))).mono ?_
  rintro e W_8 ⟨A_g0, c_g0, rfl, ho0, hb⟩
  have HO_g0_8 := Lib.hid ho0
  have HB_7 := Lib.hid hb
  have HZ_7 := Lib.hid HB_7.out.size
  have HA_8 := Lib.hid (HA_7.out.trans (HB_7.out.mono HA_7.out.size))
  have HO_aList_8 := Lib.hid (HO_aList_7.out.below HB_7.out HA_7.out.size)
  have HO_aE_8 := Lib.hid (REntry.keep HO_aE_7.out fun i hi => HB_7.out.block i (Nat.lt_of_lt_of_le hi HA_7.out.size))
  have HO_w0_8 := Lib.hid (HO_w0_7.out.below HB_7.out (Nat.le_trans HZ_5.out HZ_6.out))
  have HO_x0_8 := Lib.hid (HO_x0_7.out.below HB_7.out HZ_6.out)
  have HO_x1_8 := Lib.hid (HO_x1_7.out.below HB_7.out (Nat.le_trans HT_7.out (Nat.le_refl _)))
  have HX_aE_8 := Lib.hid (HX_aE_7.out.below HB_7.out HX_aE_7.out.lt)
  have HX_x1_8 := Lib.hid (HX_x1_7.out.below HB_7.out HX_x1_7.out.lt)
  clear hb ho0
  clear x_x1_0 x_x1_1 x_x1_2 x_x1_3
  go_wp2_with fail
  refine (eqEntryS_same _ _ A_g0 A_w0 r0.length c_g0 c_w0 r0 _ (HO_g0_8.out.rd.more (Nat.le_refl _)) (HO_w0_8.out.rd.more (Nat.le_trans (Nat.le_trans HZ_5.out HZ_6.out) HZ_7.out)) (Nat.le_refl _) (Nat.le_refl _) (by omega)).mono ?_
  rintro e W_9 ⟨rfl, hb⟩
  have HB_8 := Lib.hid hb
  have HZ_8 := Lib.hid HB_8.out.size
  have HA_9 := Lib.hid (HA_8.out.trans (HB_8.out.mono HA_8.out.size))
  have HO_aList_9 := Lib.hid (HO_aList_8.out.below HB_8.out HA_8.out.size)
  have HO_aE_9 := Lib.hid (REntry.keep HO_aE_8.out fun i hi => HB_8.out.block i (Nat.lt_of_lt_of_le hi HA_8.out.size))
  have HO_w0_9 := Lib.hid (HO_w0_8.out.below HB_8.out (Nat.le_trans (Nat.le_trans HZ_5.out HZ_6.out) HZ_7.out))
  have HO_x0_9 := Lib.hid (HO_x0_8.out.below HB_8.out (Nat.le_trans HZ_6.out HZ_7.out))
  have HO_x1_9 := Lib.hid (HO_x1_8.out.below HB_8.out (Nat.le_trans HT_7.out HZ_7.out))
  have HO_g0_9 := Lib.hid (HO_g0_8.out.below HB_8.out (Nat.le_refl _))
  have HX_aE_9 := Lib.hid (HX_aE_8.out.below HB_8.out HX_aE_8.out.lt)
  have HX_x1_9 := Lib.hid (HX_x1_8.out.below HB_8.out HX_x1_8.out.lt)
  clear hb
  go_wp2_with fail
  refine (toEntryS_any a0 l0 c0 y0 _ (HO_aList_9.out.more HA_9.out.size) (by omega)).mono ?_
  rintro e W_10 ⟨A__t2, c__t2, rfl, hown, hb⟩
  have HO__t2_10 := Lib.hid hown
  have HB_9 := Lib.hid hb
  have HZ_9 := Lib.hid HB_9.out.size
  have HA_10 := Lib.hid (HA_9.out.trans (HB_9.out.mono HA_9.out.size))
  have HO_aList_10 := Lib.hid (HO_aList_9.out.below HB_9.out HA_9.out.size)
  have HO_aE_10 := Lib.hid (REntry.keep HO_aE_9.out fun i hi => HB_9.out.block i (Nat.lt_of_lt_of_le hi HA_9.out.size))
  have HO_w0_10 := Lib.hid (HO_w0_9.out.below HB_9.out (Nat.le_trans (Nat.le_trans (Nat.le_trans HZ_5.out HZ_6.out) HZ_7.out) HZ_8.out))
  have HO_x0_10 := Lib.hid (HO_x0_9.out.below HB_9.out (Nat.le_trans (Nat.le_trans HZ_6.out HZ_7.out) HZ_8.out))
  have HO_x1_10 := Lib.hid (HO_x1_9.out.below HB_9.out (Nat.le_trans HT_7.out (Nat.le_trans HZ_7.out HZ_8.out)))
  have HO_g0_10 := Lib.hid (HO_g0_9.out.below HB_9.out HZ_8.out)
  have HX_aE_10 := Lib.hid (HX_aE_9.out.below HB_9.out HX_aE_9.out.lt)
  have HX_x1_10 := Lib.hid (HX_x1_9.out.below HB_9.out HX_x1_9.out.lt)
  clear hb hown
  go_wp2_with fail
  refine (eqEntryS_same _ _ A_x0 A__t2 l0 c_x0 c__t2 y0 _ (HO_x0_10.out.rd.more (Nat.le_trans (Nat.le_trans (Nat.le_trans HZ_6.out HZ_7.out) HZ_8.out) HZ_9.out)) (HO__t2_10.out.rd.more (Nat.le_refl _)) (Nat.le_refl _) (Nat.le_refl _) (by omega)).mono ?_
  rintro e W_11 ⟨rfl, hb⟩
  have HB_10 := Lib.hid hb
  have HZ_10 := Lib.hid HB_10.out.size
  have HA_11 := Lib.hid (HA_10.out.trans (HB_10.out.mono HA_10.out.size))
  have HO_aList_11 := Lib.hid (HO_aList_10.out.below HB_10.out HA_10.out.size)
  have HO_aE_11 := Lib.hid (REntry.keep HO_aE_10.out fun i hi => HB_10.out.block i (Nat.lt_of_lt_of_le hi HA_10.out.size))
  have HO_w0_11 := Lib.hid (HO_w0_10.out.below HB_10.out (Nat.le_trans (Nat.le_trans (Nat.le_trans (Nat.le_trans HZ_5.out HZ_6.out) HZ_7.out) HZ_8.out) HZ_9.out))
  have HO_x0_11 := Lib.hid (HO_x0_10.out.below HB_10.out (Nat.le_trans (Nat.le_trans (Nat.le_trans HZ_6.out HZ_7.out) HZ_8.out) HZ_9.out))
  have HO_x1_11 := Lib.hid (HO_x1_10.out.below HB_10.out (Nat.le_trans HT_7.out (Nat.le_trans (Nat.le_trans HZ_7.out HZ_8.out) HZ_9.out)))
  have HO_g0_11 := Lib.hid (HO_g0_10.out.below HB_10.out (Nat.le_trans HZ_8.out HZ_9.out))
  have HX_aE_11 := Lib.hid (HX_aE_10.out.below HB_10.out HX_aE_10.out.lt)
  have HX_x1_11 := Lib.hid (HX_x1_10.out.below HB_10.out HX_x1_10.out.lt)
  clear hb
  have x_aE_0 := HX_aE_11.out.cell (j := 0) rfl
  have x_aE_1 := HX_aE_11.out.cell (j := 1) rfl
  have x_aE_2 := HX_aE_11.out.cell (j := 2) rfl
  have x_aE_3 := HX_aE_11.out.cell (j := 3) rfl
  have x_x1_0 := HX_x1_11.out.cell (j := 0) rfl
  have x_x1_1 := HX_x1_11.out.cell (j := 1) rfl
  have x_x1_2 := HX_x1_11.out.cell (j := 2) rfl
  have x_x1_3 := HX_x1_11.out.cell (j := 3) rfl
  have HD_aE := Lib.hid (show REntry.rd W_11.drew (Lt W_11.drew.heap.size) [u1_0, u1_1, u1_2, u1_3] y1 from REntry.keep (REntry.more HO_aE_11.out fun i hi => Nat.lt_of_lt_of_le hi HA_11.out.size) fun i _ => rfl)
  go_wp2_with fail
  go_region_held3 (fun w' => w'.cell? ⟨W0.heap.size, 0, none⟩ = some u1_0 ∧ w'.cell? ⟨W0.heap.size, 1, none⟩ = some u1_1 ∧ w'.cell? ⟨W0.heap.size, 2, none⟩ = some u1_2 ∧ w'.cell? ⟨W0.heap.size, 3, none⟩ = some u1_3 ∧ w'.cell? ⟨W_7.heap.size, 0, none⟩ = some (.string y1.label) ∧ w'.cell? ⟨W_7.heap.size, 1, none⟩ = some (.int .i64 y1.kind) ∧ w'.cell? ⟨W_7.heap.size, 2, none⟩ = some (.int .i64 y1.value) ∧ w'.cell? ⟨W_7.heap.size, 3, none⟩ = some (.slice A_x1_3 n_x1_3 c_x1_3)) (first | exact ⟨x_aE_0, x_aE_1, x_aE_2, x_aE_3, x_x1_0, x_x1_1, x_x1_2, x_x1_3⟩ | exact ⟨x_aE_0_12, x_aE_1_12, x_aE_2_12, x_aE_3_12, x_x1_0_12, x_x1_1_12, x_x1_2_12, x_x1_3_12⟩ | exact ⟨x_aE_0_13, x_aE_1_13, x_aE_2_13, x_aE_3_13, x_x1_0_13, x_x1_1_13, x_x1_2_13, x_x1_3_13⟩) ((first
    | (go_at_call 31; (with_reducible refine (toEntry_any [u1_0, u1_1, u1_2, u1_3] y1 W_11.drew HD_aE.out (by omega)).mono ?_); rintro e W_12 ⟨cs__t3, rfl, hown, hb⟩; obtain ⟨A__t3_3, n__t3_3, c__t3_3, rfl⟩ := REntry_shape hown.rd; have HO__t3_12 := Lib.hid (hown); have HB_11 := Lib.hid (below_drew hb); have HZ_11 := Lib.hid HB_11.out.size; have HA_12 := Lib.hid (HA_11.out.trans (HB_11.out.mono HA_11.out.size)); have HO_aList_12 := Lib.hid (HO_aList_11.out.below HB_11.out HA_11.out.size); have HO_aE_12 := Lib.hid (REntry.keep HO_aE_11.out fun i hi => HB_11.out.block i (Nat.lt_of_lt_of_le hi HA_11.out.size)); have HO_w0_12 := Lib.hid (HO_w0_11.out.below HB_11.out (Nat.le_trans (Nat.le_trans (Nat.le_trans (Nat.le_trans (Nat.le_trans HZ_5.out HZ_6.out) HZ_7.out) HZ_8.out) HZ_9.out) HZ_10.out)); have HO_x0_12 := Lib.hid (HO_x0_11.out.below HB_11.out (Nat.le_trans (Nat.le_trans (Nat.le_trans (Nat.le_trans HZ_6.out HZ_7.out) HZ_8.out) HZ_9.out) HZ_10.out)); have HO_x1_12 := Lib.hid (HO_x1_11.out.below HB_11.out (Nat.le_trans HT_7.out (Nat.le_trans (Nat.le_trans (Nat.le_trans HZ_7.out HZ_8.out) HZ_9.out) HZ_10.out))); have HO_g0_12 := Lib.hid (HO_g0_11.out.below HB_11.out (Nat.le_trans (Nat.le_trans HZ_8.out HZ_9.out) HZ_10.out)); have HX_aE_12 := Lib.hid (HX_aE_11.out.below HB_11.out HX_aE_11.out.lt); have HX_x1_12 := Lib.hid (HX_x1_11.out.below HB_11.out HX_x1_11.out.lt); clear hb hown; have x_aE_0_12 := HX_aE_12.out.cell (j := 0) rfl; have x_aE_1_12 := HX_aE_12.out.cell (j := 1) rfl; have x_aE_2_12 := HX_aE_12.out.cell (j := 2) rfl; have x_aE_3_12 := HX_aE_12.out.cell (j := 3) rfl; have x_x1_0_12 := HX_x1_12.out.cell (j := 0) rfl; have x_x1_1_12 := HX_x1_12.out.cell (j := 1) rfl; have x_x1_2_12 := HX_x1_12.out.cell (j := 2) rfl; have x_x1_3_12 := HX_x1_12.out.cell (j := 3) rfl)
    | (go_at_call 32; (with_reducible refine (eqEntry_same _ _ [(.string y1.label), (.int .i64 y1.kind), (.int .i64 y1.value), (.slice A_x1_3 n_x1_3 c_x1_3)] [(.string y1.label), (.int .i64 y1.kind), (.int .i64 y1.value), (.slice A__t3_3 n__t3_3 c__t3_3)] y1 _ (REntry.more HO_x1_12.out.rd fun i hi => Nat.lt_of_lt_of_le hi (Nat.le_trans HT_7.out (Nat.le_trans (Nat.le_trans (Nat.le_trans (Nat.le_trans HZ_7.out HZ_8.out) HZ_9.out) HZ_10.out) HZ_11.out))) (REntry.more HO__t3_12.out.rd fun i hi => Nat.lt_of_lt_of_le hi (Nat.le_refl _)) (Nat.le_refl _) (Nat.le_refl _) (by omega)).mono ?_); rintro e W_13 ⟨rfl, hb⟩; have HB_12 := Lib.hid hb; have HZ_12 := Lib.hid HB_12.out.size; have HA_13 := Lib.hid (HA_12.out.trans (HB_12.out.mono HA_12.out.size)); have HO_aList_13 := Lib.hid (HO_aList_12.out.below HB_12.out HA_12.out.size); have HO_aE_13 := Lib.hid (REntry.keep HO_aE_12.out fun i hi => HB_12.out.block i (Nat.lt_of_lt_of_le hi HA_12.out.size)); have HO_w0_13 := Lib.hid (HO_w0_12.out.below HB_12.out (Nat.le_trans (Nat.le_trans (Nat.le_trans (Nat.le_trans (Nat.le_trans (Nat.le_trans HZ_5.out HZ_6.out) HZ_7.out) HZ_8.out) HZ_9.out) HZ_10.out) HZ_11.out)); have HO_x0_13 := Lib.hid (HO_x0_12.out.below HB_12.out (Nat.le_trans (Nat.le_trans (Nat.le_trans (Nat.le_trans (Nat.le_trans HZ_6.out HZ_7.out) HZ_8.out) HZ_9.out) HZ_10.out) HZ_11.out)); have HO_x1_13 := Lib.hid (HO_x1_12.out.below HB_12.out (Nat.le_trans HT_7.out (Nat.le_trans (Nat.le_trans (Nat.le_trans (Nat.le_trans HZ_7.out HZ_8.out) HZ_9.out) HZ_10.out) HZ_11.out))); have HO_g0_13 := Lib.hid (HO_g0_12.out.below HB_12.out (Nat.le_trans (Nat.le_trans (Nat.le_trans HZ_8.out HZ_9.out) HZ_10.out) HZ_11.out)); have HX_aE_13 := Lib.hid (HX_aE_12.out.below HB_12.out HX_aE_12.out.lt); have HX_x1_13 := Lib.hid (HX_x1_12.out.below HB_12.out HX_x1_12.out.lt); clear hb; have x_aE_0_13 := HX_aE_13.out.cell (j := 0) rfl; have x_aE_1_13 := HX_aE_13.out.cell (j := 1) rfl; have x_aE_2_13 := HX_aE_13.out.cell (j := 2) rfl; have x_aE_3_13 := HX_aE_13.out.cell (j := 3) rfl; have x_x1_0_13 := HX_x1_13.out.cell (j := 0) rfl; have x_x1_1_13 := HX_x1_13.out.cell (j := 1) rfl; have x_x1_2_13 := HX_x1_13.out.cell (j := 2) rfl; have x_x1_3_13 := HX_x1_13.out.cell (j := 3) rfl)))
  clear x_aE_0 x_aE_1 x_aE_2 x_aE_3 x_x1_0 x_x1_1 x_x1_2 x_x1_3
  go_wp2_with fail
  refine (markEntryS_any _ _ A_x0 l0 c_x0 y0 1 _ HO_x0_13.out (by omega) (by omega) (by omega)).mono ?_
  rintro e W_14 ⟨rfl, hown, hb⟩
  have HO_x0_14 := Lib.hid hown
  clear hown
  have HB_13 := Lib.hid hb
  have HZ_13 := Lib.hid HB_13.out.size
  have HA_14 := Lib.hid (HA_13.out.trans (HB_13.out.below HA_5.out.size HA_13.out.size))
  have HO_aList_14 := Lib.hid (HO_aList_13.out.fr HB_13.out HA_5.out.size HA_13.out.size)
  have HO_aE_14 := Lib.hid (REntry.keep HO_aE_13.out fun i hi => HB_13.out.block i (Nat.lt_of_lt_of_le hi HA_13.out.size) (.inl (Nat.lt_of_lt_of_le hi HA_5.out.size)))
  have HO_w0_14 := Lib.hid (HO_w0_13.out.fr HB_13.out (.inl (Nat.le_refl _)))
  have HO_x1_14 := Lib.hid (HO_x1_13.out.fr HB_13.out (.inr (Nat.le_refl _)))
  have HO_g0_14 := Lib.hid (HO_g0_13.out.fr HB_13.out (.inr HZ_6.out))
  have HX_aE_14 := Lib.hid (HX_aE_13.out.keep (HB_13.out.block _ HX_aE_13.out.lt (.inl (Nat.lt_of_lt_of_le HX_aE_0.out.lt (Nat.le_trans (Nat.le_trans (Nat.le_trans (Nat.le_trans HZ_0.out HZ_1.out) HZ_2.out) HZ_3.out) HZ_4.out)))))
  have HX_x1_14 := Lib.hid (HX_x1_13.out.keep (HB_13.out.block _ HX_x1_13.out.lt (.inr (Nat.le_trans (Nat.le_refl _) HQ_7.out))))
  clear hb
  have x_x1_0 := HX_x1_14.out.cell (j := 0) rfl
  have x_x1_1 := HX_x1_14.out.cell (j := 1) rfl
  have x_x1_2 := HX_x1_14.out.cell (j := 2) rfl
  have x_x1_3 := HX_x1_14.out.cell (j := 3) rfl
  go_wp2_with fail
  refine (markEntry_any _ _ [(.string y1.label), (.int .i64 y1.kind), (.int .i64 y1.value), (.slice A_x1_3 n_x1_3 c_x1_3)] y1 (1 + (cntR fullEntry y0 : Int)) _ HO_x1_14.out (Nat.le_trans HT_7.out (Nat.le_trans (Nat.le_trans (Nat.le_trans (Nat.le_trans (Nat.le_trans (Nat.le_trans HZ_7.out HZ_8.out) HZ_9.out) HZ_10.out) HZ_11.out) HZ_12.out) HZ_13.out)) (by omega) (by omega) (by omega)).mono ?_
  rintro e W_15 ⟨rfl, hown, hb⟩
  have HO_x1_15 := Lib.hid hown
  clear hown
  have HB_14 := Lib.hid hb
  have HZ_14 := Lib.hid HB_14.out.size
  have HA_15 := Lib.hid (HA_14.out.trans (HB_14.out.below HA_6.out.size HA_14.out.size))
  have HO_aList_15 := Lib.hid (HO_aList_14.out.fr HB_14.out HA_6.out.size HA_14.out.size)
  have HO_aE_15 := Lib.hid (REntry.keep HO_aE_14.out fun i hi => HB_14.out.block i (Nat.lt_of_lt_of_le hi HA_14.out.size) (.inl (Nat.lt_of_lt_of_le hi HA_6.out.size)))
  have HO_w0_15 := Lib.hid (HO_w0_14.out.fr HB_14.out (.inl HZ_5.out))
  have HO_g0_15 := Lib.hid (HO_g0_14.out.fr HB_14.out (.inr (Nat.le_trans HT_7.out (Nat.le_refl _))))
  have HX_aE_15 := Lib.hid (HX_aE_14.out.keep (HB_14.out.block _ HX_aE_14.out.lt (.inl (Nat.lt_of_lt_of_le HX_aE_0.out.lt (Nat.le_trans (Nat.le_trans (Nat.le_trans (Nat.le_trans (Nat.le_trans HZ_0.out HZ_1.out) HZ_2.out) HZ_3.out) HZ_4.out) HZ_5.out)))))
  clear hb
  clear x_x1_0 x_x1_1 x_x1_2 x_x1_3
  go_wp2_with fail
  refine (eqEntryS_same _ _ A_g0 A_w0 r0.length c_g0 c_w0 r0 _ (HO_g0_15.out.rd.more (Nat.le_trans (Nat.le_trans (Nat.le_trans (Nat.le_trans (Nat.le_trans (Nat.le_trans HZ_8.out HZ_9.out) HZ_10.out) HZ_11.out) HZ_12.out) HZ_13.out) HZ_14.out)) (HO_w0_15.out.rd.more (Nat.le_trans (Nat.le_trans (Nat.le_trans (Nat.le_trans (Nat.le_trans (Nat.le_trans (Nat.le_trans (Nat.le_trans (Nat.le_trans HZ_5.out HZ_6.out) HZ_7.out) HZ_8.out) HZ_9.out) HZ_10.out) HZ_11.out) HZ_12.out) HZ_13.out) HZ_14.out)) (Nat.le_refl _) (Nat.le_refl _) (by omega)).mono ?_
  rintro e W_16 ⟨rfl, hb⟩
  have HB_15 := Lib.hid hb
  have HZ_15 := Lib.hid HB_15.out.size
  have HA_16 := Lib.hid (HA_15.out.trans (HB_15.out.mono HA_15.out.size))
  have HO_aList_16 := Lib.hid (HO_aList_15.out.below HB_15.out HA_15.out.size)
  have HO_aE_16 := Lib.hid (REntry.keep HO_aE_15.out fun i hi => HB_15.out.block i (Nat.lt_of_lt_of_le hi HA_15.out.size))
  have HO_w0_16 := Lib.hid (HO_w0_15.out.below HB_15.out (Nat.le_trans (Nat.le_trans (Nat.le_trans (Nat.le_trans (Nat.le_trans (Nat.le_trans (Nat.le_trans (Nat.le_trans (Nat.le_trans HZ_5.out HZ_6.out) HZ_7.out) HZ_8.out) HZ_9.out) HZ_10.out) HZ_11.out) HZ_12.out) HZ_13.out) HZ_14.out))
  have HO_g0_16 := Lib.hid (HO_g0_15.out.below HB_15.out (Nat.le_trans (Nat.le_trans (Nat.le_trans (Nat.le_trans (Nat.le_trans (Nat.le_trans HZ_8.out HZ_9.out) HZ_10.out) HZ_11.out) HZ_12.out) HZ_13.out) HZ_14.out))
  have HX_aE_16 := Lib.hid (HX_aE_15.out.below HB_15.out HX_aE_15.out.lt)
  clear hb
  go_wp2_with fail
  refine (markEntryS_any _ _ A_g0 r0.length c_g0 r0 1 _ HO_g0_16.out (by omega) (by omega) (by omega)).mono ?_
  rintro e W_17 ⟨rfl, hown, hb⟩
  have HO_g0_17 := Lib.hid hown
  clear hown
  have HB_16 := Lib.hid hb
  have HZ_16 := Lib.hid HB_16.out.size
  have HA_17 := Lib.hid (HA_16.out.trans (HB_16.out.below HA_7.out.size HA_16.out.size))
  have HO_aList_17 := Lib.hid (HO_aList_16.out.fr HB_16.out HA_7.out.size HA_16.out.size)
  have HO_aE_17 := Lib.hid (REntry.keep HO_aE_16.out fun i hi => HB_16.out.block i (Nat.lt_of_lt_of_le hi HA_16.out.size) (.inl (Nat.lt_of_lt_of_le hi HA_7.out.size)))
  have HO_w0_17 := Lib.hid (HO_w0_16.out.fr HB_16.out (.inl (Nat.le_trans HZ_5.out HZ_6.out)))
  have HX_aE_17 := Lib.hid (HX_aE_16.out.keep (HB_16.out.block _ HX_aE_16.out.lt (.inl (Nat.lt_of_lt_of_le HX_aE_0.out.lt (Nat.le_trans (Nat.le_trans (Nat.le_trans (Nat.le_trans (Nat.le_trans (Nat.le_trans HZ_0.out HZ_1.out) HZ_2.out) HZ_3.out) HZ_4.out) HZ_5.out) HZ_6.out)))))
  clear hb
  go_wp2_with fail
  refine (heldEntryS_marks _ A_g0 r0.length c_g0 r0 1 _ (HO_g0_17.out.rd.more (Nat.le_trans (Nat.le_trans (Nat.le_trans (Nat.le_trans (Nat.le_trans (Nat.le_trans (Nat.le_trans (Nat.le_trans HZ_8.out HZ_9.out) HZ_10.out) HZ_11.out) HZ_12.out) HZ_13.out) HZ_14.out) HZ_15.out) HZ_16.out)) (Nat.le_refl _) (by omega) (by omega) (by omega)).mono ?_
  rintro e W_18 ⟨rfl, hb⟩
  have HB_17 := Lib.hid hb
  have HZ_17 := Lib.hid HB_17.out.size
  have HA_18 := Lib.hid (HA_17.out.trans (HB_17.out.mono HA_17.out.size))
  have HO_aList_18 := Lib.hid (HO_aList_17.out.below HB_17.out HA_17.out.size)
  have HO_aE_18 := Lib.hid (REntry.keep HO_aE_17.out fun i hi => HB_17.out.block i (Nat.lt_of_lt_of_le hi HA_17.out.size))
  have HO_w0_18 := Lib.hid (HO_w0_17.out.below HB_17.out (Nat.le_trans (Nat.le_trans (Nat.le_trans (Nat.le_trans (Nat.le_trans (Nat.le_trans (Nat.le_trans (Nat.le_trans (Nat.le_trans (Nat.le_trans (Nat.le_trans HZ_5.out HZ_6.out) HZ_7.out) HZ_8.out) HZ_9.out) HZ_10.out) HZ_11.out) HZ_12.out) HZ_13.out) HZ_14.out) HZ_15.out) HZ_16.out))
  have HO_g0_18 := Lib.hid (HO_g0_17.out.below HB_17.out (Nat.le_trans (Nat.le_trans (Nat.le_trans (Nat.le_trans (Nat.le_trans (Nat.le_trans (Nat.le_trans (Nat.le_trans HZ_8.out HZ_9.out) HZ_10.out) HZ_11.out) HZ_12.out) HZ_13.out) HZ_14.out) HZ_15.out) HZ_16.out))
  have HX_aE_18 := Lib.hid (HX_aE_17.out.below HB_17.out HX_aE_17.out.lt)
  clear hb
  have x_aE_0 := HX_aE_18.out.cell (j := 0) rfl
  have x_aE_1 := HX_aE_18.out.cell (j := 1) rfl
  have x_aE_2 := HX_aE_18.out.cell (j := 2) rfl
  have x_aE_3 := HX_aE_18.out.cell (j := 3) rfl
  have HD_aList := Lib.hid ((HO_aList_18.out.more HA_18.out.size).same (w' := W_18.drew) ⟨rfl, rfl, rfl, rfl⟩)
  go_wp2_with fail
  go_region_held3 (fun w' => w'.cell? ⟨W0.heap.size, 0, none⟩ = some u1_0 ∧ w'.cell? ⟨W0.heap.size, 1, none⟩ = some u1_1 ∧ w'.cell? ⟨W0.heap.size, 2, none⟩ = some u1_2 ∧ w'.cell? ⟨W0.heap.size, 3, none⟩ = some u1_3) (first | exact ⟨x_aE_0, x_aE_1, x_aE_2, x_aE_3⟩ | exact ⟨x_aE_0_19, x_aE_1_19, x_aE_2_19, x_aE_3_19⟩ | exact ⟨x_aE_0_20, x_aE_1_20, x_aE_2_20, x_aE_3_20⟩ | exact ⟨x_aE_0_21, x_aE_1_21, x_aE_2_21, x_aE_3_21⟩) ((first
    | (go_at_call 27; (with_reducible refine (toEntryS_any a0 l0 c0 y0 _ HD_aList.out (by omega)).mono ?_); rintro e W_19 ⟨A__t4, c__t4, rfl, hown, hb⟩; have HO__t4_19 := Lib.hid hown; have HB_18 := Lib.hid (below_drew hb); have HZ_18 := Lib.hid HB_18.out.size; have HA_19 := Lib.hid (HA_18.out.trans (HB_18.out.mono HA_18.out.size)); have HO_aE_19 := Lib.hid (REntry.keep HO_aE_18.out fun i hi => HB_18.out.block i (Nat.lt_of_lt_of_le hi HA_18.out.size)); have HO_w0_19 := Lib.hid (HO_w0_18.out.below HB_18.out (Nat.le_trans (Nat.le_trans (Nat.le_trans (Nat.le_trans (Nat.le_trans (Nat.le_trans (Nat.le_trans (Nat.le_trans (Nat.le_trans (Nat.le_trans (Nat.le_trans (Nat.le_trans HZ_5.out HZ_6.out) HZ_7.out) HZ_8.out) HZ_9.out) HZ_10.out) HZ_11.out) HZ_12.out) HZ_13.out) HZ_14.out) HZ_15.out) HZ_16.out) HZ_17.out)); have HO_g0_19 := Lib.hid (HO_g0_18.out.below HB_18.out (Nat.le_trans (Nat.le_trans (Nat.le_trans (Nat.le_trans (Nat.le_trans (Nat.le_trans (Nat.le_trans (Nat.le_trans (Nat.le_trans HZ_8.out HZ_9.out) HZ_10.out) HZ_11.out) HZ_12.out) HZ_13.out) HZ_14.out) HZ_15.out) HZ_16.out) HZ_17.out)); have HX_aE_19 := Lib.hid (HX_aE_18.out.below HB_18.out HX_aE_18.out.lt); clear hb hown; have x_aE_0_19 := HX_aE_19.out.cell (j := 0) rfl; have x_aE_1_19 := HX_aE_19.out.cell (j := 1) rfl; have x_aE_2_19 := HX_aE_19.out.cell (j := 2) rfl; have x_aE_3_19 := HX_aE_19.out.cell (j := 3) rfl)
    | (go_at_call 31; (with_reducible refine (toEntry_any [u1_0, u1_1, u1_2, u1_3] y1 _ (REntry.more HO_aE_19.out fun i hi => Nat.lt_of_lt_of_le hi HA_19.out.size) (by omega)).mono ?_); rintro e W_20 ⟨cs__t5, rfl, hown, hb⟩; obtain ⟨A__t5_3, n__t5_3, c__t5_3, rfl⟩ := REntry_shape hown.rd; have HO__t5_20 := Lib.hid (hown); have HB_19 := Lib.hid hb; have HZ_19 := Lib.hid HB_19.out.size; have HA_20 := Lib.hid (HA_19.out.trans (HB_19.out.mono HA_19.out.size)); have HO_aE_20 := Lib.hid (REntry.keep HO_aE_19.out fun i hi => HB_19.out.block i (Nat.lt_of_lt_of_le hi HA_19.out.size)); have HO_w0_20 := Lib.hid (HO_w0_19.out.below HB_19.out (Nat.le_trans (Nat.le_trans (Nat.le_trans (Nat.le_trans (Nat.le_trans (Nat.le_trans (Nat.le_trans (Nat.le_trans (Nat.le_trans (Nat.le_trans (Nat.le_trans (Nat.le_trans (Nat.le_trans HZ_5.out HZ_6.out) HZ_7.out) HZ_8.out) HZ_9.out) HZ_10.out) HZ_11.out) HZ_12.out) HZ_13.out) HZ_14.out) HZ_15.out) HZ_16.out) HZ_17.out) HZ_18.out)); have HO_g0_20 := Lib.hid (HO_g0_19.out.below HB_19.out (Nat.le_trans (Nat.le_trans (Nat.le_trans (Nat.le_trans (Nat.le_trans (Nat.le_trans (Nat.le_trans (Nat.le_trans (Nat.le_trans (Nat.le_trans HZ_8.out HZ_9.out) HZ_10.out) HZ_11.out) HZ_12.out) HZ_13.out) HZ_14.out) HZ_15.out) HZ_16.out) HZ_17.out) HZ_18.out)); have HO__t4_20 := Lib.hid (HO__t4_19.out.below HB_19.out (Nat.le_refl _)); have HX_aE_20 := Lib.hid (HX_aE_19.out.below HB_19.out HX_aE_19.out.lt); clear hb hown; have x_aE_0_20 := HX_aE_20.out.cell (j := 0) rfl; have x_aE_1_20 := HX_aE_20.out.cell (j := 1) rfl; have x_aE_2_20 := HX_aE_20.out.cell (j := 2) rfl; have x_aE_3_20 := HX_aE_20.out.cell (j := 3) rfl)
    | (go_at_call 13; (with_reducible refine (HI.out A__t4 l0 c__t4 [(.string y1.label), (.int .i64 y1.kind), (.int .i64 y1.value), (.slice A__t5_3 n__t5_3 c__t5_3)] _ (HO__t4_20.out.cap.1) (HO__t4_20.out.rd.more HZ_19.out) (REntry.more HO__t5_20.out.rd fun i hi => Nat.lt_of_lt_of_le hi (Nat.le_refl _))).mono ?_); rintro e W_21 ⟨A_h0, c_h0, rfl, ho0, hb⟩; have HO_h0_21 := Lib.hid ho0; have HB_20 := Lib.hid hb; have HZ_20 := Lib.hid HB_20.out.size; have HA_21 := Lib.hid (HA_20.out.trans (HB_20.out.mono HA_20.out.size)); have HO_aE_21 := Lib.hid (REntry.keep HO_aE_20.out fun i hi => HB_20.out.block i (Nat.lt_of_lt_of_le hi HA_20.out.size)); have HO_w0_21 := Lib.hid (HO_w0_20.out.below HB_20.out (Nat.le_trans (Nat.le_trans (Nat.le_trans (Nat.le_trans (Nat.le_trans (Nat.le_trans (Nat.le_trans (Nat.le_trans (Nat.le_trans (Nat.le_trans (Nat.le_trans (Nat.le_trans (Nat.le_trans (Nat.le_trans HZ_5.out HZ_6.out) HZ_7.out) HZ_8.out) HZ_9.out) HZ_10.out) HZ_11.out) HZ_12.out) HZ_13.out) HZ_14.out) HZ_15.out) HZ_16.out) HZ_17.out) HZ_18.out) HZ_19.out)); have HO_g0_21 := Lib.hid (HO_g0_20.out.below HB_20.out (Nat.le_trans (Nat.le_trans (Nat.le_trans (Nat.le_trans (Nat.le_trans (Nat.le_trans (Nat.le_trans (Nat.le_trans (Nat.le_trans (Nat.le_trans (Nat.le_trans HZ_8.out HZ_9.out) HZ_10.out) HZ_11.out) HZ_12.out) HZ_13.out) HZ_14.out) HZ_15.out) HZ_16.out) HZ_17.out) HZ_18.out) HZ_19.out)); have HX_aE_21 := Lib.hid (HX_aE_20.out.below HB_20.out HX_aE_20.out.lt); clear hb ho0; have x_aE_0_21 := HX_aE_21.out.cell (j := 0) rfl; have x_aE_1_21 := HX_aE_21.out.cell (j := 1) rfl; have x_aE_2_21 := HX_aE_21.out.cell (j := 2) rfl; have x_aE_3_21 := HX_aE_21.out.cell (j := 3) rfl)))
  clear x_aE_0 x_aE_1 x_aE_2 x_aE_3
  go_wp2_with fail
  refine (eqEntryS_same _ _ A_h0 A_w0 r0.length c_h0 c_w0 r0 _ (HO_h0_21.out.rd.more (Nat.le_refl _)) (HO_w0_21.out.rd.more (Nat.le_trans (Nat.le_trans (Nat.le_trans (Nat.le_trans (Nat.le_trans (Nat.le_trans (Nat.le_trans (Nat.le_trans (Nat.le_trans (Nat.le_trans (Nat.le_trans (Nat.le_trans (Nat.le_trans (Nat.le_trans (Nat.le_trans HZ_5.out HZ_6.out) HZ_7.out) HZ_8.out) HZ_9.out) HZ_10.out) HZ_11.out) HZ_12.out) HZ_13.out) HZ_14.out) HZ_15.out) HZ_16.out) HZ_17.out) HZ_18.out) HZ_19.out) HZ_20.out)) (Nat.le_refl _) (Nat.le_refl _) (by omega)).mono ?_
  rintro e W_22 ⟨rfl, hb⟩
  have HB_21 := Lib.hid hb
  have HZ_21 := Lib.hid HB_21.out.size
  have HA_22 := Lib.hid (HA_21.out.trans (HB_21.out.mono HA_21.out.size))
  have HO_g0_22 := Lib.hid (HO_g0_21.out.below HB_21.out (Nat.le_trans (Nat.le_trans (Nat.le_trans (Nat.le_trans (Nat.le_trans (Nat.le_trans (Nat.le_trans (Nat.le_trans (Nat.le_trans (Nat.le_trans (Nat.le_trans (Nat.le_trans HZ_8.out HZ_9.out) HZ_10.out) HZ_11.out) HZ_12.out) HZ_13.out) HZ_14.out) HZ_15.out) HZ_16.out) HZ_17.out) HZ_18.out) HZ_19.out) HZ_20.out))
  clear hb
  go_wp2_with fail
  refine (heldEntryS_marks _ A_g0 r0.length c_g0 r0 1 _ (HO_g0_22.out.rd.more (Nat.le_trans (Nat.le_trans (Nat.le_trans (Nat.le_trans (Nat.le_trans (Nat.le_trans (Nat.le_trans (Nat.le_trans (Nat.le_trans (Nat.le_trans (Nat.le_trans (Nat.le_trans (Nat.le_trans HZ_8.out HZ_9.out) HZ_10.out) HZ_11.out) HZ_12.out) HZ_13.out) HZ_14.out) HZ_15.out) HZ_16.out) HZ_17.out) HZ_18.out) HZ_19.out) HZ_20.out) HZ_21.out)) (Nat.le_refl _) (by omega) (by omega) (by omega)).mono ?_
  rintro e W_23 ⟨rfl, hb⟩
  have HB_22 := Lib.hid hb
  have HZ_22 := Lib.hid HB_22.out.size
  have HA_23 := Lib.hid (HA_22.out.trans (HB_22.out.mono HA_22.out.size))
  clear hb
  go_wp2
  go_ret
  exact ⟨rfl, HA_23.out⟩
theorem FnExactDropEntry_walk (W0 : World) (a0 : Option Addr) (l0 c0 : Nat) (y0 : List Entry) (w0 : Rds REntry W0 (Lt W0.heap.size) a0 l0 y0) (hC0 : l0 ≤ c0) (hM0 : c0 ≤ maxLen) (v1 : ByteArray) (hv1 : v1.size ≤ maxLen) :
    Calls Try.prog 7 #[.slice a0 l0 c0, .string v1] W0 fun e w' => e = .returned (.bool true) ∧ Below W0.heap.size W0 w' := by
  have hR0 : FRdEntry W0 W0.heap.size a0 l0 y0 := w0
  have hL0 := hR0.len
  clear w0
  by_cases hg1 : 1048576 < v1.size
  · have hg : 1048576 < (v1.size : Int) := by omega
    clear hR0 hL0 hC0 hM0
    go_enter Try.func7, Try.ntmps7
    go_wp2
    go_ret
    exact ⟨rfl, (Below.refl _ _)⟩
  have HA_0 := Lib.hid (show Below W0.heap.size W0 W0 from Below.refl _ _)
  have HO_aList_0 := Lib.hid (hR0.below HA_0.out (Nat.le_refl _))
  have HC0 := Lib.hid hC0
  have HM0 := Lib.hid hM0
  clear hR0
  go_enter Try.func7, Try.ntmps7
  by_cases hn_aList : 1048576 < (totR totEntry y0 : Int)
  · have HN := Lib.hid hn_aList
    clear hn_aList
    go_wp2_with fail
    refine (szEntryS_any _ a0 l0 c0 y0 1048576 _ (HO_aList_0.out.more HA_0.out.size) (Nat.le_refl _) (by omega) (by omega) (Nat.le_trans HC0.out HM0.out)).mono ?_
    rw [if_pos HN.out]
    rintro e W_1 ⟨rfl, hb⟩
    have HAe := Lib.hid (HA_0.out.trans (hb.mono HA_0.out.size))
    clear hb
    go_wp2
    go_ret
    exact ⟨rfl, HAe.out⟩
  have hY0 : totR totEntry y0 ≤ 1048576 := by omega
  have hYl0 := totR_len totEntry y0
  have HN_aList := Lib.hid hn_aList
  clear hn_aList
  go_wp2_with fail
  refine (szEntryS_any _ a0 l0 c0 y0 1048576 _ (HO_aList_0.out.more HA_0.out.size) (Nat.le_refl _) (by omega) (by omega) (Nat.le_trans HC0.out HM0.out)).mono ?_
  rw [if_neg (show ¬ 1048576 < (totR totEntry y0 : Int) by have := HN_aList.out; omega)]
  rintro e W_1 ⟨rfl, hb⟩
  obtain ⟨qq0, hqq0⟩ : ∃ x, x = 1048576 - (totR totEntry y0 : Int) := ⟨_, rfl⟩
  rw [← hqq0]
  have hqq0l : 0 ≤ qq0 ∧ qq0 ≤ 1048576 := by have := HN_aList.out; omega
  have hqq0n : ¬ qq0 < 0 := by omega
  clear hqq0
  have HB_0 := Lib.hid hb
  have HZ_0 := Lib.hid HB_0.out.size
  have HA_1 := Lib.hid (HA_0.out.trans (HB_0.out.mono HA_0.out.size))
  have HO_aList_1 := Lib.hid (HO_aList_0.out.below HB_0.out HA_0.out.size)
  clear hb
  obtain ⟨r0, r1, hlen0, hS, hI⟩ := both_DropEntry y0 v1 hY0 (by omega)
  have HS := Lib.hid hS
  have HI := Lib.hid hI
  clear hS hI
  have hcnt0 := cntR_le totEntry fullEntry fullEntry_le r0
  have htl0 := totR_len totEntry r0
  have hcy0 := cntR_le totEntry fullEntry fullEntry_le y0
  go_wp2_with fail
  refine (toEntryS_any a0 l0 c0 y0 _ (HO_aList_1.out.more HA_1.out.size) (by omega)).mono ?_
  rintro e W_2 ⟨A__t0, c__t0, rfl, hown, hb⟩
  have HO__t0_2 := Lib.hid hown
  have HB_1 := Lib.hid hb
  have HZ_1 := Lib.hid HB_1.out.size
  have HA_2 := Lib.hid (HA_1.out.trans (HB_1.out.mono HA_1.out.size))
  have HO_aList_2 := Lib.hid (HO_aList_1.out.below HB_1.out HA_1.out.size)
  clear hb hown
  go_wp2_with fail
  refine (HS.out A__t0 l0 c__t0 _ (HO__t0_2.out.cap.1) (HO__t0_2.out.rd.more (Nat.le_refl _))).mono ?_
  rintro e W_3 ⟨A_w0, c_w0, rfl, ho0, hb⟩
  have HO_w0_3 := Lib.hid ho0
  have HB_2 := Lib.hid hb
  have HZ_2 := Lib.hid HB_2.out.size
  have HA_3 := Lib.hid (HA_2.out.trans (HB_2.out.mono HA_2.out.size))
  have HO_aList_3 := Lib.hid (HO_aList_2.out.below HB_2.out HA_2.out.size)
  clear hb ho0
  go_wp2_with fail
  refine (toEntryS_any a0 l0 c0 y0 _ (HO_aList_3.out.more HA_3.out.size) (by omega)).mono ?_
  rintro e W_4 ⟨A_x0, c_x0, rfl, hown, hb⟩
  have HO_x0_4 := Lib.hid hown
  have HB_3 := Lib.hid hb
  have HZ_3 := Lib.hid HB_3.out.size
  have HA_4 := Lib.hid (HA_3.out.trans (HB_3.out.mono HA_3.out.size))
  have HO_aList_4 := Lib.hid (HO_aList_3.out.below HB_3.out HA_3.out.size)
  have HO_w0_4 := Lib.hid (HO_w0_3.out.below HB_3.out (Nat.le_refl _))
  clear hb hown
  go_wp2_with fail
  refine (HI.out A_x0 l0 c_x0 _ (HO_x0_4.out.cap.1) (HO_x0_4.out.rd.more (Nat.le_refl _))).mono ?_
  rintro e W_5 ⟨A_g0, c_g0, rfl, ho0, hb⟩
  have HO_g0_5 := Lib.hid ho0
  have HB_4 := Lib.hid hb
  have HZ_4 := Lib.hid HB_4.out.size
  have HA_5 := Lib.hid (HA_4.out.trans (HB_4.out.mono HA_4.out.size))
  have HO_aList_5 := Lib.hid (HO_aList_4.out.below HB_4.out HA_4.out.size)
  have HO_w0_5 := Lib.hid (HO_w0_4.out.below HB_4.out HZ_3.out)
  have HO_x0_5 := Lib.hid (HO_x0_4.out.below HB_4.out (Nat.le_refl _))
  clear hb ho0
  go_wp2_with fail
  refine (eqEntryS_same _ _ A_g0 A_w0 r0.length c_g0 c_w0 r0 _ (HO_g0_5.out.rd.more (Nat.le_refl _)) (HO_w0_5.out.rd.more (Nat.le_trans HZ_3.out HZ_4.out)) (Nat.le_refl _) (Nat.le_refl _) (by omega)).mono ?_
  rintro e W_6 ⟨rfl, hb⟩
  have HB_5 := Lib.hid hb
  have HZ_5 := Lib.hid HB_5.out.size
  have HA_6 := Lib.hid (HA_5.out.trans (HB_5.out.mono HA_5.out.size))
  have HO_aList_6 := Lib.hid (HO_aList_5.out.below HB_5.out HA_5.out.size)
  have HO_w0_6 := Lib.hid (HO_w0_5.out.below HB_5.out (Nat.le_trans HZ_3.out HZ_4.out))
  have HO_x0_6 := Lib.hid (HO_x0_5.out.below HB_5.out HZ_4.out)
  have HO_g0_6 := Lib.hid (HO_g0_5.out.below HB_5.out (Nat.le_refl _))
  clear hb
  go_wp2_with fail
  refine (toEntryS_any a0 l0 c0 y0 _ (HO_aList_6.out.more HA_6.out.size) (by omega)).mono ?_
  rintro e W_7 ⟨A__t1, c__t1, rfl, hown, hb⟩
  have HO__t1_7 := Lib.hid hown
  have HB_6 := Lib.hid hb
  have HZ_6 := Lib.hid HB_6.out.size
  have HA_7 := Lib.hid (HA_6.out.trans (HB_6.out.mono HA_6.out.size))
  have HO_aList_7 := Lib.hid (HO_aList_6.out.below HB_6.out HA_6.out.size)
  have HO_w0_7 := Lib.hid (HO_w0_6.out.below HB_6.out (Nat.le_trans (Nat.le_trans HZ_3.out HZ_4.out) HZ_5.out))
  have HO_x0_7 := Lib.hid (HO_x0_6.out.below HB_6.out (Nat.le_trans HZ_4.out HZ_5.out))
  have HO_g0_7 := Lib.hid (HO_g0_6.out.below HB_6.out HZ_5.out)
  clear hb hown
  go_wp2_with fail
  refine (eqEntryS_same _ _ A_x0 A__t1 l0 c_x0 c__t1 y0 _ (HO_x0_7.out.rd.more (Nat.le_trans (Nat.le_trans HZ_4.out HZ_5.out) HZ_6.out)) (HO__t1_7.out.rd.more (Nat.le_refl _)) (Nat.le_refl _) (Nat.le_refl _) (by omega)).mono ?_
  rintro e W_8 ⟨rfl, hb⟩
  have HB_7 := Lib.hid hb
  have HZ_7 := Lib.hid HB_7.out.size
  have HA_8 := Lib.hid (HA_7.out.trans (HB_7.out.mono HA_7.out.size))
  have HO_aList_8 := Lib.hid (HO_aList_7.out.below HB_7.out HA_7.out.size)
  have HO_w0_8 := Lib.hid (HO_w0_7.out.below HB_7.out (Nat.le_trans (Nat.le_trans (Nat.le_trans HZ_3.out HZ_4.out) HZ_5.out) HZ_6.out))
  have HO_x0_8 := Lib.hid (HO_x0_7.out.below HB_7.out (Nat.le_trans (Nat.le_trans HZ_4.out HZ_5.out) HZ_6.out))
  have HO_g0_8 := Lib.hid (HO_g0_7.out.below HB_7.out (Nat.le_trans HZ_5.out HZ_6.out))
  clear hb
  go_wp2_with fail
  refine (markEntryS_any _ _ A_x0 l0 c_x0 y0 1 _ HO_x0_8.out (by omega) (by omega) (by omega)).mono ?_
  rintro e W_9 ⟨rfl, hown, hb⟩
  have HO_x0_9 := Lib.hid hown
  clear hown
  have HB_8 := Lib.hid hb
  have HZ_8 := Lib.hid HB_8.out.size
  have HA_9 := Lib.hid (HA_8.out.trans (HB_8.out.below HA_3.out.size HA_8.out.size))
  have HO_aList_9 := Lib.hid (HO_aList_8.out.fr HB_8.out HA_3.out.size HA_8.out.size)
  have HO_w0_9 := Lib.hid (HO_w0_8.out.fr HB_8.out (.inl (Nat.le_refl _)))
  have HO_g0_9 := Lib.hid (HO_g0_8.out.fr HB_8.out (.inr (Nat.le_refl _)))
  clear hb
  go_wp2_with fail
  refine (eqEntryS_same _ _ A_g0 A_w0 r0.length c_g0 c_w0 r0 _ (HO_g0_9.out.rd.more (Nat.le_trans (Nat.le_trans (Nat.le_trans HZ_5.out HZ_6.out) HZ_7.out) HZ_8.out)) (HO_w0_9.out.rd.more (Nat.le_trans (Nat.le_trans (Nat.le_trans (Nat.le_trans (Nat.le_trans HZ_3.out HZ_4.out) HZ_5.out) HZ_6.out) HZ_7.out) HZ_8.out)) (Nat.le_refl _) (Nat.le_refl _) (by omega)).mono ?_
  rintro e W_10 ⟨rfl, hb⟩
  have HB_9 := Lib.hid hb
  have HZ_9 := Lib.hid HB_9.out.size
  have HA_10 := Lib.hid (HA_9.out.trans (HB_9.out.mono HA_9.out.size))
  have HO_aList_10 := Lib.hid (HO_aList_9.out.below HB_9.out HA_9.out.size)
  have HO_w0_10 := Lib.hid (HO_w0_9.out.below HB_9.out (Nat.le_trans (Nat.le_trans (Nat.le_trans (Nat.le_trans (Nat.le_trans HZ_3.out HZ_4.out) HZ_5.out) HZ_6.out) HZ_7.out) HZ_8.out))
  have HO_g0_10 := Lib.hid (HO_g0_9.out.below HB_9.out (Nat.le_trans (Nat.le_trans (Nat.le_trans HZ_5.out HZ_6.out) HZ_7.out) HZ_8.out))
  clear hb
  go_wp2_with fail
  refine (markEntryS_any _ _ A_g0 r0.length c_g0 r0 1 _ HO_g0_10.out (by omega) (by omega) (by omega)).mono ?_
  rintro e W_11 ⟨rfl, hown, hb⟩
  have HO_g0_11 := Lib.hid hown
  clear hown
  have HB_10 := Lib.hid hb
  have HZ_10 := Lib.hid HB_10.out.size
  have HA_11 := Lib.hid (HA_10.out.trans (HB_10.out.below HA_4.out.size HA_10.out.size))
  have HO_aList_11 := Lib.hid (HO_aList_10.out.fr HB_10.out HA_4.out.size HA_10.out.size)
  have HO_w0_11 := Lib.hid (HO_w0_10.out.fr HB_10.out (.inl HZ_3.out))
  clear hb
  go_wp2_with fail
  refine (heldEntryS_marks _ A_g0 r0.length c_g0 r0 1 _ (HO_g0_11.out.rd.more (Nat.le_trans (Nat.le_trans (Nat.le_trans (Nat.le_trans (Nat.le_trans HZ_5.out HZ_6.out) HZ_7.out) HZ_8.out) HZ_9.out) HZ_10.out)) (Nat.le_refl _) (by omega) (by omega) (by omega)).mono ?_
  rintro e W_12 ⟨rfl, hb⟩
  have HB_11 := Lib.hid hb
  have HZ_11 := Lib.hid HB_11.out.size
  have HA_12 := Lib.hid (HA_11.out.trans (HB_11.out.mono HA_11.out.size))
  have HO_aList_12 := Lib.hid (HO_aList_11.out.below HB_11.out HA_11.out.size)
  have HO_w0_12 := Lib.hid (HO_w0_11.out.below HB_11.out (Nat.le_trans (Nat.le_trans (Nat.le_trans (Nat.le_trans (Nat.le_trans (Nat.le_trans (Nat.le_trans HZ_3.out HZ_4.out) HZ_5.out) HZ_6.out) HZ_7.out) HZ_8.out) HZ_9.out) HZ_10.out))
  have HO_g0_12 := Lib.hid (HO_g0_11.out.below HB_11.out (Nat.le_trans (Nat.le_trans (Nat.le_trans (Nat.le_trans (Nat.le_trans HZ_5.out HZ_6.out) HZ_7.out) HZ_8.out) HZ_9.out) HZ_10.out))
  clear hb
  go_wp2_with fail
  refine (toEntryS_any a0 l0 c0 y0 _ (HO_aList_12.out.more HA_12.out.size) (by omega)).mono ?_
  rintro e W_13 ⟨A__t2, c__t2, rfl, hown, hb⟩
  have HO__t2_13 := Lib.hid hown
  have HB_12 := Lib.hid hb
  have HZ_12 := Lib.hid HB_12.out.size
  have HA_13 := Lib.hid (HA_12.out.trans (HB_12.out.mono HA_12.out.size))
  have HO_w0_13 := Lib.hid (HO_w0_12.out.below HB_12.out (Nat.le_trans (Nat.le_trans (Nat.le_trans (Nat.le_trans (Nat.le_trans (Nat.le_trans (Nat.le_trans (Nat.le_trans HZ_3.out HZ_4.out) HZ_5.out) HZ_6.out) HZ_7.out) HZ_8.out) HZ_9.out) HZ_10.out) HZ_11.out))
  have HO_g0_13 := Lib.hid (HO_g0_12.out.below HB_12.out (Nat.le_trans (Nat.le_trans (Nat.le_trans (Nat.le_trans (Nat.le_trans (Nat.le_trans HZ_5.out HZ_6.out) HZ_7.out) HZ_8.out) HZ_9.out) HZ_10.out) HZ_11.out))
  clear hb hown
  go_wp2_with fail
  refine (HI.out A__t2 l0 c__t2 _ (HO__t2_13.out.cap.1) (HO__t2_13.out.rd.more (Nat.le_refl _))).mono ?_
  rintro e W_14 ⟨A_h0, c_h0, rfl, ho0, hb⟩
  have HO_h0_14 := Lib.hid ho0
  have HB_13 := Lib.hid hb
  have HZ_13 := Lib.hid HB_13.out.size
  have HA_14 := Lib.hid (HA_13.out.trans (HB_13.out.mono HA_13.out.size))
  have HO_w0_14 := Lib.hid (HO_w0_13.out.below HB_13.out (Nat.le_trans (Nat.le_trans (Nat.le_trans (Nat.le_trans (Nat.le_trans (Nat.le_trans (Nat.le_trans (Nat.le_trans (Nat.le_trans HZ_3.out HZ_4.out) HZ_5.out) HZ_6.out) HZ_7.out) HZ_8.out) HZ_9.out) HZ_10.out) HZ_11.out) HZ_12.out))
  have HO_g0_14 := Lib.hid (HO_g0_13.out.below HB_13.out (Nat.le_trans (Nat.le_trans (Nat.le_trans (Nat.le_trans (Nat.le_trans (Nat.le_trans (Nat.le_trans HZ_5.out HZ_6.out) HZ_7.out) HZ_8.out) HZ_9.out) HZ_10.out) HZ_11.out) HZ_12.out))
  clear hb ho0
  go_wp2_with fail
  refine (eqEntryS_same _ _ A_h0 A_w0 r0.length c_h0 c_w0 r0 _ (HO_h0_14.out.rd.more (Nat.le_refl _)) (HO_w0_14.out.rd.more (Nat.le_trans (Nat.le_trans (Nat.le_trans (Nat.le_trans (Nat.le_trans (Nat.le_trans (Nat.le_trans (Nat.le_trans (Nat.le_trans (Nat.le_trans HZ_3.out HZ_4.out) HZ_5.out) HZ_6.out) HZ_7.out) HZ_8.out) HZ_9.out) HZ_10.out) HZ_11.out) HZ_12.out) HZ_13.out)) (Nat.le_refl _) (Nat.le_refl _) (by omega)).mono ?_
  rintro e W_15 ⟨rfl, hb⟩
  have HB_14 := Lib.hid hb
  have HZ_14 := Lib.hid HB_14.out.size
  have HA_15 := Lib.hid (HA_14.out.trans (HB_14.out.mono HA_14.out.size))
  have HO_g0_15 := Lib.hid (HO_g0_14.out.below HB_14.out (Nat.le_trans (Nat.le_trans (Nat.le_trans (Nat.le_trans (Nat.le_trans (Nat.le_trans (Nat.le_trans (Nat.le_trans HZ_5.out HZ_6.out) HZ_7.out) HZ_8.out) HZ_9.out) HZ_10.out) HZ_11.out) HZ_12.out) HZ_13.out))
  clear hb
  go_wp2_with fail
  refine (heldEntryS_marks _ A_g0 r0.length c_g0 r0 1 _ (HO_g0_15.out.rd.more (Nat.le_trans (Nat.le_trans (Nat.le_trans (Nat.le_trans (Nat.le_trans (Nat.le_trans (Nat.le_trans (Nat.le_trans (Nat.le_trans HZ_5.out HZ_6.out) HZ_7.out) HZ_8.out) HZ_9.out) HZ_10.out) HZ_11.out) HZ_12.out) HZ_13.out) HZ_14.out)) (Nat.le_refl _) (by omega) (by omega) (by omega)).mono ?_
  rintro e W_16 ⟨rfl, hb⟩
  have HB_15 := Lib.hid hb
  have HZ_15 := Lib.hid HB_15.out.size
  have HA_16 := Lib.hid (HA_15.out.trans (HB_15.out.mono HA_15.out.size))
  clear hb
  go_wp2
  go_ret
  exact ⟨rfl, HA_16.out⟩
theorem FnExactLabelsOf_walk (W0 : World) (a0 : Option Addr) (l0 c0 : Nat) (y0 : List Entry) (w0 : Rds REntry W0 (Lt W0.heap.size) a0 l0 y0) (hC0 : l0 ≤ c0) (hM0 : c0 ≤ maxLen) :
    Calls Try.prog 8 #[.slice a0 l0 c0] W0 fun e w' => e = .returned (.bool true) ∧ Below W0.heap.size W0 w' := by
  have hR0 : FRdEntry W0 W0.heap.size a0 l0 y0 := w0
  have hL0 := hR0.len
  clear w0
  have HA_0 := Lib.hid (show Below W0.heap.size W0 W0 from Below.refl _ _)
  have HO_aList_0 := Lib.hid (hR0.below HA_0.out (Nat.le_refl _))
  have HC0 := Lib.hid hC0
  have HM0 := Lib.hid hM0
  clear hR0
  go_enter Try.func8, Try.ntmps8
  by_cases hn_aList : 1048576 < (totR totEntry y0 : Int)
  · have HN := Lib.hid hn_aList
    clear hn_aList
    go_wp2_with fail
    refine (szEntryS_any _ a0 l0 c0 y0 1048576 _ (HO_aList_0.out.more HA_0.out.size) (Nat.le_refl _) (by omega) (by omega) (Nat.le_trans HC0.out HM0.out)).mono ?_
    rw [if_pos HN.out]
    rintro e W_1 ⟨rfl, hb⟩
    have HAe := Lib.hid (HA_0.out.trans (hb.mono HA_0.out.size))
    clear hb
    go_wp2
    go_ret
    exact ⟨rfl, HAe.out⟩
  have hY0 : totR totEntry y0 ≤ 1048576 := by omega
  have hYl0 := totR_len totEntry y0
  have HN_aList := Lib.hid hn_aList
  clear hn_aList
  go_wp2_with fail
  refine (szEntryS_any _ a0 l0 c0 y0 1048576 _ (HO_aList_0.out.more HA_0.out.size) (Nat.le_refl _) (by omega) (by omega) (Nat.le_trans HC0.out HM0.out)).mono ?_
  rw [if_neg (show ¬ 1048576 < (totR totEntry y0 : Int) by have := HN_aList.out; omega)]
  rintro e W_1 ⟨rfl, hb⟩
  obtain ⟨qq0, hqq0⟩ : ∃ x, x = 1048576 - (totR totEntry y0 : Int) := ⟨_, rfl⟩
  rw [← hqq0]
  have hqq0l : 0 ≤ qq0 ∧ qq0 ≤ 1048576 := by have := HN_aList.out; omega
  have hqq0n : ¬ qq0 < 0 := by omega
  clear hqq0
  have HB_0 := Lib.hid hb
  have HZ_0 := Lib.hid HB_0.out.size
  have HA_1 := Lib.hid (HA_0.out.trans (HB_0.out.mono HA_0.out.size))
  have HO_aList_1 := Lib.hid (HO_aList_0.out.below HB_0.out HA_0.out.size)
  clear hb
  obtain ⟨r0, hlen0, hS, hI⟩ := both_LabelsOf y0 hY0
  have HS := Lib.hid hS
  have HI := Lib.hid hI
  clear hS hI
  have hcy0 := cntR_le totEntry fullEntry fullEntry_le y0
  go_wp2_with fail
  refine (toEntryS_any a0 l0 c0 y0 _ (HO_aList_1.out.more HA_1.out.size) (by omega)).mono ?_
  rintro e W_2 ⟨A__t0, c__t0, rfl, hown, hb⟩
  have HO__t0_2 := Lib.hid hown
  have HB_1 := Lib.hid hb
  have HZ_1 := Lib.hid HB_1.out.size
  have HA_2 := Lib.hid (HA_1.out.trans (HB_1.out.mono HA_1.out.size))
  have HO_aList_2 := Lib.hid (HO_aList_1.out.below HB_1.out HA_1.out.size)
  clear hb hown
  go_wp2_with fail
  refine (HS.out A__t0 l0 c__t0 _ (HO__t0_2.out.cap.1) (HO__t0_2.out.rd.more (Nat.le_refl _))).mono ?_
  rintro e W_3 ⟨A_w0, c_w0, rfl, ho0, hb⟩
  have HO_w0_3 := Lib.hid ho0
  have HB_2 := Lib.hid hb
  have HZ_2 := Lib.hid HB_2.out.size
  have HA_3 := Lib.hid (HA_2.out.trans (HB_2.out.mono HA_2.out.size))
  have HO_aList_3 := Lib.hid (HO_aList_2.out.below HB_2.out HA_2.out.size)
  clear hb ho0
  go_wp2_with fail
  refine (toEntryS_any a0 l0 c0 y0 _ (HO_aList_3.out.more HA_3.out.size) (by omega)).mono ?_
  rintro e W_4 ⟨A_x0, c_x0, rfl, hown, hb⟩
  have HO_x0_4 := Lib.hid hown
  have HB_3 := Lib.hid hb
  have HZ_3 := Lib.hid HB_3.out.size
  have HA_4 := Lib.hid (HA_3.out.trans (HB_3.out.mono HA_3.out.size))
  have HO_aList_4 := Lib.hid (HO_aList_3.out.below HB_3.out HA_3.out.size)
  have HO_w0_4 := Lib.hid (HO_w0_3.out.below HB_3.out (Nat.le_refl _))
  clear hb hown
  go_wp2_with fail
  refine (HI.out A_x0 l0 c_x0 _ (HO_x0_4.out.cap.1) (HO_x0_4.out.rd.more (Nat.le_refl _))).mono ?_
  rintro e W_5 ⟨A_g0, c_g0, rfl, ho0, hb⟩
  have HO_g0_5 := Lib.hid ho0
  have HB_4 := Lib.hid hb
  have HZ_4 := Lib.hid HB_4.out.size
  have HA_5 := Lib.hid (HA_4.out.trans (HB_4.out.mono HA_4.out.size))
  have HO_aList_5 := Lib.hid (HO_aList_4.out.below HB_4.out HA_4.out.size)
  have HO_w0_5 := Lib.hid (HO_w0_4.out.below HB_4.out HZ_3.out)
  have HO_x0_5 := Lib.hid (HO_x0_4.out.below HB_4.out (Nat.le_refl _))
  clear hb ho0
  go_wp2_with fail
  refine (eqStringS_same _ _ A_g0 A_w0 r0.length c_g0 c_w0 r0 _ (HO_g0_5.out.rd.more (Nat.le_refl _)) (HO_w0_5.out.rd.more (Nat.le_trans HZ_3.out HZ_4.out)) (by omega)).mono ?_
  rintro e W_6 ⟨rfl, hb⟩
  have HB_5 := Lib.hid hb
  have HZ_5 := Lib.hid (HB_5.out.below 0).size
  have HA_6 := Lib.hid (HA_5.out.trans (HB_5.out.below _))
  have HO_aList_6 := Lib.hid (HO_aList_5.out.same HB_5.out)
  have HO_w0_6 := Lib.hid (HO_w0_5.out.same HB_5.out)
  have HO_x0_6 := Lib.hid (HO_x0_5.out.same HB_5.out)
  have HO_g0_6 := Lib.hid (HO_g0_5.out.same HB_5.out)
  clear hb
  go_wp2_with fail
  refine (toEntryS_any a0 l0 c0 y0 _ (HO_aList_6.out.more HA_6.out.size) (by omega)).mono ?_
  rintro e W_7 ⟨A__t1, c__t1, rfl, hown, hb⟩
  have HO__t1_7 := Lib.hid hown
  have HB_6 := Lib.hid hb
  have HZ_6 := Lib.hid HB_6.out.size
  have HA_7 := Lib.hid (HA_6.out.trans (HB_6.out.mono HA_6.out.size))
  have HO_aList_7 := Lib.hid (HO_aList_6.out.below HB_6.out HA_6.out.size)
  have HO_w0_7 := Lib.hid (HO_w0_6.out.below HB_6.out (Nat.le_trans (Nat.le_trans HZ_3.out HZ_4.out) HZ_5.out))
  have HO_x0_7 := Lib.hid (HO_x0_6.out.below HB_6.out (Nat.le_trans HZ_4.out HZ_5.out))
  have HO_g0_7 := Lib.hid (HO_g0_6.out.below HB_6.out HZ_5.out)
  clear hb hown
  go_wp2_with fail
  refine (eqEntryS_same _ _ A_x0 A__t1 l0 c_x0 c__t1 y0 _ (HO_x0_7.out.rd.more (Nat.le_trans (Nat.le_trans HZ_4.out HZ_5.out) HZ_6.out)) (HO__t1_7.out.rd.more (Nat.le_refl _)) (Nat.le_refl _) (Nat.le_refl _) (by omega)).mono ?_
  rintro e W_8 ⟨rfl, hb⟩
  have HB_7 := Lib.hid hb
  have HZ_7 := Lib.hid HB_7.out.size
  have HA_8 := Lib.hid (HA_7.out.trans (HB_7.out.mono HA_7.out.size))
  have HO_aList_8 := Lib.hid (HO_aList_7.out.below HB_7.out HA_7.out.size)
  have HO_w0_8 := Lib.hid (HO_w0_7.out.below HB_7.out (Nat.le_trans (Nat.le_trans (Nat.le_trans HZ_3.out HZ_4.out) HZ_5.out) HZ_6.out))
  have HO_x0_8 := Lib.hid (HO_x0_7.out.below HB_7.out (Nat.le_trans (Nat.le_trans HZ_4.out HZ_5.out) HZ_6.out))
  have HO_g0_8 := Lib.hid (HO_g0_7.out.below HB_7.out (Nat.le_trans HZ_5.out HZ_6.out))
  clear hb
  go_wp2_with fail
  refine (markEntryS_any _ _ A_x0 l0 c_x0 y0 1 _ HO_x0_8.out (by omega) (by omega) (by omega)).mono ?_
  rintro e W_9 ⟨rfl, hown, hb⟩
  have HO_x0_9 := Lib.hid hown
  clear hown
  have HB_8 := Lib.hid hb
  have HZ_8 := Lib.hid HB_8.out.size
  have HA_9 := Lib.hid (HA_8.out.trans (HB_8.out.below HA_3.out.size HA_8.out.size))
  have HO_aList_9 := Lib.hid (HO_aList_8.out.fr HB_8.out HA_3.out.size HA_8.out.size)
  have HO_w0_9 := Lib.hid (HO_w0_8.out.fr HB_8.out (.inl (Nat.le_refl _)))
  have HO_g0_9 := Lib.hid (HO_g0_8.out.fr HB_8.out (.inr (Nat.le_refl _)))
  clear hb
  go_wp2_with fail
  refine (eqStringS_same _ _ A_g0 A_w0 r0.length c_g0 c_w0 r0 _ (HO_g0_9.out.rd.more (Nat.le_trans (Nat.le_trans (Nat.le_trans HZ_5.out HZ_6.out) HZ_7.out) HZ_8.out)) (HO_w0_9.out.rd.more (Nat.le_trans (Nat.le_trans (Nat.le_trans (Nat.le_trans (Nat.le_trans HZ_3.out HZ_4.out) HZ_5.out) HZ_6.out) HZ_7.out) HZ_8.out)) (by omega)).mono ?_
  rintro e W_10 ⟨rfl, hb⟩
  have HB_9 := Lib.hid hb
  have HZ_9 := Lib.hid (HB_9.out.below 0).size
  have HA_10 := Lib.hid (HA_9.out.trans (HB_9.out.below _))
  have HO_aList_10 := Lib.hid (HO_aList_9.out.same HB_9.out)
  have HO_w0_10 := Lib.hid (HO_w0_9.out.same HB_9.out)
  have HO_g0_10 := Lib.hid (HO_g0_9.out.same HB_9.out)
  clear hb
  go_wp2_with fail
  refine (markStringS_any _ _ A_g0 r0.length c_g0 r0 1 _ HO_g0_10.out (by omega) (by omega) (by omega)).mono ?_
  rintro e W_11 ⟨rfl, hown, hb⟩
  have HO_g0_11 := Lib.hid hown
  clear hown
  have HB_10 := Lib.hid hb
  have HZ_10 := Lib.hid HB_10.out.size
  have HA_11 := Lib.hid (HA_10.out.trans (HB_10.out.below HA_4.out.size HA_10.out.size))
  have HO_aList_11 := Lib.hid (HO_aList_10.out.fr HB_10.out HA_4.out.size HA_10.out.size)
  have HO_w0_11 := Lib.hid (HO_w0_10.out.fr HB_10.out (.inl HZ_3.out))
  clear hb
  go_wp2_with fail
  refine (heldStringS_marks _ A_g0 r0.length c_g0 1 _ (HO_g0_11.out.rd.more (Nat.le_trans (Nat.le_trans (Nat.le_trans (Nat.le_trans (Nat.le_trans HZ_5.out HZ_6.out) HZ_7.out) HZ_8.out) HZ_9.out) HZ_10.out)) (Nat.le_refl _) (by omega) (by omega) (by omega)).mono ?_
  rintro e W_12 ⟨rfl, hb⟩
  have HB_11 := Lib.hid hb
  have HZ_11 := Lib.hid HB_11.out.size
  have HA_12 := Lib.hid (HA_11.out.trans (HB_11.out.mono HA_11.out.size))
  have HO_aList_12 := Lib.hid (HO_aList_11.out.below HB_11.out HA_11.out.size)
  have HO_w0_12 := Lib.hid (HO_w0_11.out.below HB_11.out (Nat.le_trans (Nat.le_trans (Nat.le_trans (Nat.le_trans (Nat.le_trans (Nat.le_trans (Nat.le_trans HZ_3.out HZ_4.out) HZ_5.out) HZ_6.out) HZ_7.out) HZ_8.out) HZ_9.out) HZ_10.out))
  have HO_g0_12 := Lib.hid (HO_g0_11.out.below HB_11.out (Nat.le_trans (Nat.le_trans (Nat.le_trans (Nat.le_trans (Nat.le_trans HZ_5.out HZ_6.out) HZ_7.out) HZ_8.out) HZ_9.out) HZ_10.out))
  clear hb
  go_wp2_with fail
  refine (toEntryS_any a0 l0 c0 y0 _ (HO_aList_12.out.more HA_12.out.size) (by omega)).mono ?_
  rintro e W_13 ⟨A__t2, c__t2, rfl, hown, hb⟩
  have HO__t2_13 := Lib.hid hown
  have HB_12 := Lib.hid hb
  have HZ_12 := Lib.hid HB_12.out.size
  have HA_13 := Lib.hid (HA_12.out.trans (HB_12.out.mono HA_12.out.size))
  have HO_w0_13 := Lib.hid (HO_w0_12.out.below HB_12.out (Nat.le_trans (Nat.le_trans (Nat.le_trans (Nat.le_trans (Nat.le_trans (Nat.le_trans (Nat.le_trans (Nat.le_trans HZ_3.out HZ_4.out) HZ_5.out) HZ_6.out) HZ_7.out) HZ_8.out) HZ_9.out) HZ_10.out) HZ_11.out))
  have HO_g0_13 := Lib.hid (HO_g0_12.out.below HB_12.out (Nat.le_trans (Nat.le_trans (Nat.le_trans (Nat.le_trans (Nat.le_trans (Nat.le_trans HZ_5.out HZ_6.out) HZ_7.out) HZ_8.out) HZ_9.out) HZ_10.out) HZ_11.out))
  clear hb hown
  go_wp2_with fail
  refine (HI.out A__t2 l0 c__t2 _ (HO__t2_13.out.cap.1) (HO__t2_13.out.rd.more (Nat.le_refl _))).mono ?_
  rintro e W_14 ⟨A_h0, c_h0, rfl, ho0, hb⟩
  have HO_h0_14 := Lib.hid ho0
  have HB_13 := Lib.hid hb
  have HZ_13 := Lib.hid HB_13.out.size
  have HA_14 := Lib.hid (HA_13.out.trans (HB_13.out.mono HA_13.out.size))
  have HO_w0_14 := Lib.hid (HO_w0_13.out.below HB_13.out (Nat.le_trans (Nat.le_trans (Nat.le_trans (Nat.le_trans (Nat.le_trans (Nat.le_trans (Nat.le_trans (Nat.le_trans (Nat.le_trans HZ_3.out HZ_4.out) HZ_5.out) HZ_6.out) HZ_7.out) HZ_8.out) HZ_9.out) HZ_10.out) HZ_11.out) HZ_12.out))
  have HO_g0_14 := Lib.hid (HO_g0_13.out.below HB_13.out (Nat.le_trans (Nat.le_trans (Nat.le_trans (Nat.le_trans (Nat.le_trans (Nat.le_trans (Nat.le_trans HZ_5.out HZ_6.out) HZ_7.out) HZ_8.out) HZ_9.out) HZ_10.out) HZ_11.out) HZ_12.out))
  clear hb ho0
  go_wp2_with fail
  refine (eqStringS_same _ _ A_h0 A_w0 r0.length c_h0 c_w0 r0 _ (HO_h0_14.out.rd.more (Nat.le_refl _)) (HO_w0_14.out.rd.more (Nat.le_trans (Nat.le_trans (Nat.le_trans (Nat.le_trans (Nat.le_trans (Nat.le_trans (Nat.le_trans (Nat.le_trans (Nat.le_trans (Nat.le_trans HZ_3.out HZ_4.out) HZ_5.out) HZ_6.out) HZ_7.out) HZ_8.out) HZ_9.out) HZ_10.out) HZ_11.out) HZ_12.out) HZ_13.out)) (by omega)).mono ?_
  rintro e W_15 ⟨rfl, hb⟩
  have HB_14 := Lib.hid hb
  have HZ_14 := Lib.hid (HB_14.out.below 0).size
  have HA_15 := Lib.hid (HA_14.out.trans (HB_14.out.below _))
  have HO_g0_15 := Lib.hid (HO_g0_14.out.same HB_14.out)
  clear hb
  go_wp2_with fail
  refine (heldStringS_marks _ A_g0 r0.length c_g0 1 _ (HO_g0_15.out.rd.more (Nat.le_trans (Nat.le_trans (Nat.le_trans (Nat.le_trans (Nat.le_trans (Nat.le_trans (Nat.le_trans (Nat.le_trans (Nat.le_trans HZ_5.out HZ_6.out) HZ_7.out) HZ_8.out) HZ_9.out) HZ_10.out) HZ_11.out) HZ_12.out) HZ_13.out) HZ_14.out)) (Nat.le_refl _) (by omega) (by omega) (by omega)).mono ?_
  rintro e W_16 ⟨rfl, hb⟩
  have HB_15 := Lib.hid hb
  have HZ_15 := Lib.hid HB_15.out.size
  have HA_16 := Lib.hid (HA_15.out.trans (HB_15.out.mono HA_15.out.size))
  clear hb
  go_wp2
  go_ret
  exact ⟨rfl, HA_16.out⟩
theorem FnExactAlikeIn_walk (W0 : World) (a0 : Option Addr) (l0 c0 : Nat) (y0 : List Entry) (w0 : Rds REntry W0 (Lt W0.heap.size) a0 l0 y0) (hC0 : l0 ≤ c0) (hM0 : c0 ≤ maxLen) (v1 : ByteArray) (hv1 : v1.size ≤ maxLen) :
    Calls Try.prog 9 #[.slice a0 l0 c0, .string v1] W0 fun e w' => e = .returned (.bool true) ∧ Below W0.heap.size W0 w' := by
  have hR0 : FRdEntry W0 W0.heap.size a0 l0 y0 := w0
  have hL0 := hR0.len
  clear w0
  by_cases hg1 : 1048576 < v1.size
  · have hg : 1048576 < (v1.size : Int) := by omega
    clear hR0 hL0 hC0 hM0
    go_enter Try.func9, Try.ntmps9
    go_wp2
    go_ret
    exact ⟨rfl, (Below.refl _ _)⟩
  have HA_0 := Lib.hid (show Below W0.heap.size W0 W0 from Below.refl _ _)
  have HO_aList_0 := Lib.hid (hR0.below HA_0.out (Nat.le_refl _))
  have HC0 := Lib.hid hC0
  have HM0 := Lib.hid hM0
  clear hR0
  go_enter Try.func9, Try.ntmps9
  by_cases hn_aList : 1048576 < (totR totEntry y0 : Int)
  · have HN := Lib.hid hn_aList
    clear hn_aList
    go_wp2_with fail
    refine (szEntryS_any _ a0 l0 c0 y0 1048576 _ (HO_aList_0.out.more HA_0.out.size) (Nat.le_refl _) (by omega) (by omega) (Nat.le_trans HC0.out HM0.out)).mono ?_
    rw [if_pos HN.out]
    rintro e W_1 ⟨rfl, hb⟩
    have HAe := Lib.hid (HA_0.out.trans (hb.mono HA_0.out.size))
    clear hb
    go_wp2
    go_ret
    exact ⟨rfl, HAe.out⟩
  have hY0 : totR totEntry y0 ≤ 1048576 := by omega
  have hYl0 := totR_len totEntry y0
  have HN_aList := Lib.hid hn_aList
  clear hn_aList
  go_wp2_with fail
  refine (szEntryS_any _ a0 l0 c0 y0 1048576 _ (HO_aList_0.out.more HA_0.out.size) (Nat.le_refl _) (by omega) (by omega) (Nat.le_trans HC0.out HM0.out)).mono ?_
  rw [if_neg (show ¬ 1048576 < (totR totEntry y0 : Int) by have := HN_aList.out; omega)]
  rintro e W_1 ⟨rfl, hb⟩
  obtain ⟨qq0, hqq0⟩ : ∃ x, x = 1048576 - (totR totEntry y0 : Int) := ⟨_, rfl⟩
  rw [← hqq0]
  have hqq0l : 0 ≤ qq0 ∧ qq0 ≤ 1048576 := by have := HN_aList.out; omega
  have hqq0n : ¬ qq0 < 0 := by omega
  clear hqq0
  have HB_0 := Lib.hid hb
  have HZ_0 := Lib.hid HB_0.out.size
  have HA_1 := Lib.hid (HA_0.out.trans (HB_0.out.mono HA_0.out.size))
  have HO_aList_1 := Lib.hid (HO_aList_0.out.below HB_0.out HA_0.out.size)
  clear hb
  obtain ⟨r0, hlen0, hS, hI⟩ := both_AlikeIn y0 v1 hY0 (by omega)
  have HS := Lib.hid hS
  have HI := Lib.hid hI
  clear hS hI
  have hcy0 := cntR_le totEntry fullEntry fullEntry_le y0
  go_wp2_with fail
  refine (toEntryS_any a0 l0 c0 y0 _ (HO_aList_1.out.more HA_1.out.size) (by omega)).mono ?_
  rintro e W_2 ⟨A__t0, c__t0, rfl, hown, hb⟩
  have HO__t0_2 := Lib.hid hown
  have HB_1 := Lib.hid hb
  have HZ_1 := Lib.hid HB_1.out.size
  have HA_2 := Lib.hid (HA_1.out.trans (HB_1.out.mono HA_1.out.size))
  have HO_aList_2 := Lib.hid (HO_aList_1.out.below HB_1.out HA_1.out.size)
  clear hb hown
  go_wp2_with fail
  refine (HS.out A__t0 l0 c__t0 _ (HO__t0_2.out.cap.1) (HO__t0_2.out.rd.more (Nat.le_refl _))).mono ?_
  rintro e W_3 ⟨A_w0, c_w0, rfl, ho0, hb⟩
  have HO_w0_3 := Lib.hid ho0
  have HB_2 := Lib.hid hb
  have HZ_2 := Lib.hid HB_2.out.size
  have HA_3 := Lib.hid (HA_2.out.trans (HB_2.out.mono HA_2.out.size))
  have HO_aList_3 := Lib.hid (HO_aList_2.out.below HB_2.out HA_2.out.size)
  clear hb ho0
  go_wp2_with fail
  refine (toEntryS_any a0 l0 c0 y0 _ (HO_aList_3.out.more HA_3.out.size) (by omega)).mono ?_
  rintro e W_4 ⟨A_x0, c_x0, rfl, hown, hb⟩
  have HO_x0_4 := Lib.hid hown
  have HB_3 := Lib.hid hb
  have HZ_3 := Lib.hid HB_3.out.size
  have HA_4 := Lib.hid (HA_3.out.trans (HB_3.out.mono HA_3.out.size))
  have HO_aList_4 := Lib.hid (HO_aList_3.out.below HB_3.out HA_3.out.size)
  have HO_w0_4 := Lib.hid (HO_w0_3.out.below HB_3.out (Nat.le_refl _))
  clear hb hown
  go_wp2_with fail
  refine (HI.out A_x0 l0 c_x0 _ (HO_x0_4.out.cap.1) (HO_x0_4.out.rd.more (Nat.le_refl _))).mono ?_
  rintro e W_5 ⟨A_g0, c_g0, rfl, ho0, hb⟩
  have HO_g0_5 := Lib.hid ho0
  have HB_4 := Lib.hid hb
  have HZ_4 := Lib.hid HB_4.out.size
  have HA_5 := Lib.hid (HA_4.out.trans (HB_4.out.mono HA_4.out.size))
  have HO_aList_5 := Lib.hid (HO_aList_4.out.below HB_4.out HA_4.out.size)
  have HO_w0_5 := Lib.hid (HO_w0_4.out.below HB_4.out HZ_3.out)
  have HO_x0_5 := Lib.hid (HO_x0_4.out.below HB_4.out (Nat.le_refl _))
  clear hb ho0
  go_wp2_with fail
  refine (eqStringS_same _ _ A_g0 A_w0 r0.length c_g0 c_w0 r0 _ (HO_g0_5.out.rd.more (Nat.le_refl _)) (HO_w0_5.out.rd.more (Nat.le_trans HZ_3.out HZ_4.out)) (by omega)).mono ?_
  rintro e W_6 ⟨rfl, hb⟩
  have HB_5 := Lib.hid hb
  have HZ_5 := Lib.hid (HB_5.out.below 0).size
  have HA_6 := Lib.hid (HA_5.out.trans (HB_5.out.below _))
  have HO_aList_6 := Lib.hid (HO_aList_5.out.same HB_5.out)
  have HO_w0_6 := Lib.hid (HO_w0_5.out.same HB_5.out)
  have HO_x0_6 := Lib.hid (HO_x0_5.out.same HB_5.out)
  have HO_g0_6 := Lib.hid (HO_g0_5.out.same HB_5.out)
  clear hb
  go_wp2_with fail
  refine (toEntryS_any a0 l0 c0 y0 _ (HO_aList_6.out.more HA_6.out.size) (by omega)).mono ?_
  rintro e W_7 ⟨A__t1, c__t1, rfl, hown, hb⟩
  have HO__t1_7 := Lib.hid hown
  have HB_6 := Lib.hid hb
  have HZ_6 := Lib.hid HB_6.out.size
  have HA_7 := Lib.hid (HA_6.out.trans (HB_6.out.mono HA_6.out.size))
  have HO_aList_7 := Lib.hid (HO_aList_6.out.below HB_6.out HA_6.out.size)
  have HO_w0_7 := Lib.hid (HO_w0_6.out.below HB_6.out (Nat.le_trans (Nat.le_trans HZ_3.out HZ_4.out) HZ_5.out))
  have HO_x0_7 := Lib.hid (HO_x0_6.out.below HB_6.out (Nat.le_trans HZ_4.out HZ_5.out))
  have HO_g0_7 := Lib.hid (HO_g0_6.out.below HB_6.out HZ_5.out)
  clear hb hown
  go_wp2_with fail
  refine (eqEntryS_same _ _ A_x0 A__t1 l0 c_x0 c__t1 y0 _ (HO_x0_7.out.rd.more (Nat.le_trans (Nat.le_trans HZ_4.out HZ_5.out) HZ_6.out)) (HO__t1_7.out.rd.more (Nat.le_refl _)) (Nat.le_refl _) (Nat.le_refl _) (by omega)).mono ?_
  rintro e W_8 ⟨rfl, hb⟩
  have HB_7 := Lib.hid hb
  have HZ_7 := Lib.hid HB_7.out.size
  have HA_8 := Lib.hid (HA_7.out.trans (HB_7.out.mono HA_7.out.size))
  have HO_aList_8 := Lib.hid (HO_aList_7.out.below HB_7.out HA_7.out.size)
  have HO_w0_8 := Lib.hid (HO_w0_7.out.below HB_7.out (Nat.le_trans (Nat.le_trans (Nat.le_trans HZ_3.out HZ_4.out) HZ_5.out) HZ_6.out))
  have HO_x0_8 := Lib.hid (HO_x0_7.out.below HB_7.out (Nat.le_trans (Nat.le_trans HZ_4.out HZ_5.out) HZ_6.out))
  have HO_g0_8 := Lib.hid (HO_g0_7.out.below HB_7.out (Nat.le_trans HZ_5.out HZ_6.out))
  clear hb
  go_wp2_with fail
  refine (markEntryS_any _ _ A_x0 l0 c_x0 y0 1 _ HO_x0_8.out (by omega) (by omega) (by omega)).mono ?_
  rintro e W_9 ⟨rfl, hown, hb⟩
  have HO_x0_9 := Lib.hid hown
  clear hown
  have HB_8 := Lib.hid hb
  have HZ_8 := Lib.hid HB_8.out.size
  have HA_9 := Lib.hid (HA_8.out.trans (HB_8.out.below HA_3.out.size HA_8.out.size))
  have HO_aList_9 := Lib.hid (HO_aList_8.out.fr HB_8.out HA_3.out.size HA_8.out.size)
  have HO_w0_9 := Lib.hid (HO_w0_8.out.fr HB_8.out (.inl (Nat.le_refl _)))
  have HO_g0_9 := Lib.hid (HO_g0_8.out.fr HB_8.out (.inr (Nat.le_refl _)))
  clear hb
  go_wp2_with fail
  refine (eqStringS_same _ _ A_g0 A_w0 r0.length c_g0 c_w0 r0 _ (HO_g0_9.out.rd.more (Nat.le_trans (Nat.le_trans (Nat.le_trans HZ_5.out HZ_6.out) HZ_7.out) HZ_8.out)) (HO_w0_9.out.rd.more (Nat.le_trans (Nat.le_trans (Nat.le_trans (Nat.le_trans (Nat.le_trans HZ_3.out HZ_4.out) HZ_5.out) HZ_6.out) HZ_7.out) HZ_8.out)) (by omega)).mono ?_
  rintro e W_10 ⟨rfl, hb⟩
  have HB_9 := Lib.hid hb
  have HZ_9 := Lib.hid (HB_9.out.below 0).size
  have HA_10 := Lib.hid (HA_9.out.trans (HB_9.out.below _))
  have HO_aList_10 := Lib.hid (HO_aList_9.out.same HB_9.out)
  have HO_w0_10 := Lib.hid (HO_w0_9.out.same HB_9.out)
  have HO_g0_10 := Lib.hid (HO_g0_9.out.same HB_9.out)
  clear hb
  go_wp2_with fail
  refine (markStringS_any _ _ A_g0 r0.length c_g0 r0 1 _ HO_g0_10.out (by omega) (by omega) (by omega)).mono ?_
  rintro e W_11 ⟨rfl, hown, hb⟩
  have HO_g0_11 := Lib.hid hown
  clear hown
  have HB_10 := Lib.hid hb
  have HZ_10 := Lib.hid HB_10.out.size
  have HA_11 := Lib.hid (HA_10.out.trans (HB_10.out.below HA_4.out.size HA_10.out.size))
  have HO_aList_11 := Lib.hid (HO_aList_10.out.fr HB_10.out HA_4.out.size HA_10.out.size)
  have HO_w0_11 := Lib.hid (HO_w0_10.out.fr HB_10.out (.inl HZ_3.out))
  clear hb
  go_wp2_with fail
  refine (heldStringS_marks _ A_g0 r0.length c_g0 1 _ (HO_g0_11.out.rd.more (Nat.le_trans (Nat.le_trans (Nat.le_trans (Nat.le_trans (Nat.le_trans HZ_5.out HZ_6.out) HZ_7.out) HZ_8.out) HZ_9.out) HZ_10.out)) (Nat.le_refl _) (by omega) (by omega) (by omega)).mono ?_
  rintro e W_12 ⟨rfl, hb⟩
  have HB_11 := Lib.hid hb
  have HZ_11 := Lib.hid HB_11.out.size
  have HA_12 := Lib.hid (HA_11.out.trans (HB_11.out.mono HA_11.out.size))
  have HO_aList_12 := Lib.hid (HO_aList_11.out.below HB_11.out HA_11.out.size)
  have HO_w0_12 := Lib.hid (HO_w0_11.out.below HB_11.out (Nat.le_trans (Nat.le_trans (Nat.le_trans (Nat.le_trans (Nat.le_trans (Nat.le_trans (Nat.le_trans HZ_3.out HZ_4.out) HZ_5.out) HZ_6.out) HZ_7.out) HZ_8.out) HZ_9.out) HZ_10.out))
  have HO_g0_12 := Lib.hid (HO_g0_11.out.below HB_11.out (Nat.le_trans (Nat.le_trans (Nat.le_trans (Nat.le_trans (Nat.le_trans HZ_5.out HZ_6.out) HZ_7.out) HZ_8.out) HZ_9.out) HZ_10.out))
  clear hb
  go_wp2_with fail
  refine (toEntryS_any a0 l0 c0 y0 _ (HO_aList_12.out.more HA_12.out.size) (by omega)).mono ?_
  rintro e W_13 ⟨A__t2, c__t2, rfl, hown, hb⟩
  have HO__t2_13 := Lib.hid hown
  have HB_12 := Lib.hid hb
  have HZ_12 := Lib.hid HB_12.out.size
  have HA_13 := Lib.hid (HA_12.out.trans (HB_12.out.mono HA_12.out.size))
  have HO_w0_13 := Lib.hid (HO_w0_12.out.below HB_12.out (Nat.le_trans (Nat.le_trans (Nat.le_trans (Nat.le_trans (Nat.le_trans (Nat.le_trans (Nat.le_trans (Nat.le_trans HZ_3.out HZ_4.out) HZ_5.out) HZ_6.out) HZ_7.out) HZ_8.out) HZ_9.out) HZ_10.out) HZ_11.out))
  have HO_g0_13 := Lib.hid (HO_g0_12.out.below HB_12.out (Nat.le_trans (Nat.le_trans (Nat.le_trans (Nat.le_trans (Nat.le_trans (Nat.le_trans HZ_5.out HZ_6.out) HZ_7.out) HZ_8.out) HZ_9.out) HZ_10.out) HZ_11.out))
  clear hb hown
  go_wp2_with fail
  refine (HI.out A__t2 l0 c__t2 _ (HO__t2_13.out.cap.1) (HO__t2_13.out.rd.more (Nat.le_refl _))).mono ?_
  rintro e W_14 ⟨A_h0, c_h0, rfl, ho0, hb⟩
  have HO_h0_14 := Lib.hid ho0
  have HB_13 := Lib.hid hb
  have HZ_13 := Lib.hid HB_13.out.size
  have HA_14 := Lib.hid (HA_13.out.trans (HB_13.out.mono HA_13.out.size))
  have HO_w0_14 := Lib.hid (HO_w0_13.out.below HB_13.out (Nat.le_trans (Nat.le_trans (Nat.le_trans (Nat.le_trans (Nat.le_trans (Nat.le_trans (Nat.le_trans (Nat.le_trans (Nat.le_trans HZ_3.out HZ_4.out) HZ_5.out) HZ_6.out) HZ_7.out) HZ_8.out) HZ_9.out) HZ_10.out) HZ_11.out) HZ_12.out))
  have HO_g0_14 := Lib.hid (HO_g0_13.out.below HB_13.out (Nat.le_trans (Nat.le_trans (Nat.le_trans (Nat.le_trans (Nat.le_trans (Nat.le_trans (Nat.le_trans HZ_5.out HZ_6.out) HZ_7.out) HZ_8.out) HZ_9.out) HZ_10.out) HZ_11.out) HZ_12.out))
  clear hb ho0
  go_wp2_with fail
  refine (eqStringS_same _ _ A_h0 A_w0 r0.length c_h0 c_w0 r0 _ (HO_h0_14.out.rd.more (Nat.le_refl _)) (HO_w0_14.out.rd.more (Nat.le_trans (Nat.le_trans (Nat.le_trans (Nat.le_trans (Nat.le_trans (Nat.le_trans (Nat.le_trans (Nat.le_trans (Nat.le_trans (Nat.le_trans HZ_3.out HZ_4.out) HZ_5.out) HZ_6.out) HZ_7.out) HZ_8.out) HZ_9.out) HZ_10.out) HZ_11.out) HZ_12.out) HZ_13.out)) (by omega)).mono ?_
  rintro e W_15 ⟨rfl, hb⟩
  have HB_14 := Lib.hid hb
  have HZ_14 := Lib.hid (HB_14.out.below 0).size
  have HA_15 := Lib.hid (HA_14.out.trans (HB_14.out.below _))
  have HO_g0_15 := Lib.hid (HO_g0_14.out.same HB_14.out)
  clear hb
  go_wp2_with fail
  refine (heldStringS_marks _ A_g0 r0.length c_g0 1 _ (HO_g0_15.out.rd.more (Nat.le_trans (Nat.le_trans (Nat.le_trans (Nat.le_trans (Nat.le_trans (Nat.le_trans (Nat.le_trans (Nat.le_trans (Nat.le_trans HZ_5.out HZ_6.out) HZ_7.out) HZ_8.out) HZ_9.out) HZ_10.out) HZ_11.out) HZ_12.out) HZ_13.out) HZ_14.out)) (Nat.le_refl _) (by omega) (by omega) (by omega)).mono ?_
  rintro e W_16 ⟨rfl, hb⟩
  have HB_15 := Lib.hid hb
  have HZ_15 := Lib.hid HB_15.out.size
  have HA_16 := Lib.hid (HA_15.out.trans (HB_15.out.mono HA_15.out.size))
  clear hb
  go_wp2
  go_ret
  exact ⟨rfl, HA_16.out⟩
theorem FnExactSameEntries_walk (W0 : World) (a0 : Option Addr) (l0 c0 : Nat) (y0 : List Entry) (w0 : Rds REntry W0 (Lt W0.heap.size) a0 l0 y0) (hC0 : l0 ≤ c0) (hM0 : c0 ≤ maxLen) (a1 : Option Addr) (l1 c1 : Nat) (y1 : List Entry) (w1 : Rds REntry W0 (Lt W0.heap.size) a1 l1 y1) (hC1 : l1 ≤ c1) (hM1 : c1 ≤ maxLen) :
    Calls Try.prog 10 #[.slice a0 l0 c0, .slice a1 l1 c1] W0 fun e w' => e = .returned (.bool true) ∧ Below W0.heap.size W0 w' := by
  have hR0 : FRdEntry W0 W0.heap.size a0 l0 y0 := w0
  have hL0 := hR0.len
  clear w0
  have hR1 : FRdEntry W0 W0.heap.size a1 l1 y1 := w1
  have hL1 := hR1.len
  clear w1
  have HA_0 := Lib.hid (show Below W0.heap.size W0 W0 from Below.refl _ _)
  have HO_aA_0 := Lib.hid (hR0.below HA_0.out (Nat.le_refl _))
  have HC0 := Lib.hid hC0
  have HM0 := Lib.hid hM0
  have HO_aB_0 := Lib.hid (hR1.below HA_0.out (Nat.le_refl _))
  have HC1 := Lib.hid hC1
  have HM1 := Lib.hid hM1
  clear hR0
  clear hR1
  go_enter Try.func10, Try.ntmps10
  by_cases hn_aA : 1048576 < (totR totEntry y0 : Int)
  · have HN := Lib.hid hn_aA
    clear hn_aA
    go_wp2_with fail
    refine (szEntryS_any _ a0 l0 c0 y0 1048576 _ (HO_aA_0.out.more HA_0.out.size) (Nat.le_refl _) (by omega) (by omega) (Nat.le_trans HC0.out HM0.out)).mono ?_
    rw [if_pos HN.out]
    rintro e W_1 ⟨rfl, hb⟩
    have HAe := Lib.hid (HA_0.out.trans (hb.mono HA_0.out.size))
    clear hb
    go_wp2
    go_ret
    exact ⟨rfl, HAe.out⟩
  have hY0 : totR totEntry y0 ≤ 1048576 := by omega
  have hYl0 := totR_len totEntry y0
  have HN_aA := Lib.hid hn_aA
  clear hn_aA
  go_wp2_with fail
  refine (szEntryS_any _ a0 l0 c0 y0 1048576 _ (HO_aA_0.out.more HA_0.out.size) (Nat.le_refl _) (by omega) (by omega) (Nat.le_trans HC0.out HM0.out)).mono ?_
  rw [if_neg (show ¬ 1048576 < (totR totEntry y0 : Int) by have := HN_aA.out; omega)]
  rintro e W_1 ⟨rfl, hb⟩
  obtain ⟨qq0, hqq0⟩ : ∃ x, x = 1048576 - (totR totEntry y0 : Int) := ⟨_, rfl⟩
  rw [← hqq0]
  have hqq0l : 0 ≤ qq0 ∧ qq0 ≤ 1048576 := by have := HN_aA.out; omega
  have hqq0n : ¬ qq0 < 0 := by omega
  clear hqq0
  have HB_0 := Lib.hid hb
  have HZ_0 := Lib.hid HB_0.out.size
  have HA_1 := Lib.hid (HA_0.out.trans (HB_0.out.mono HA_0.out.size))
  have HO_aA_1 := Lib.hid (HO_aA_0.out.below HB_0.out HA_0.out.size)
  have HO_aB_1 := Lib.hid (HO_aB_0.out.below HB_0.out HA_0.out.size)
  clear hb
  by_cases hn_aB : qq0 < (totR totEntry y1 : Int)
  · have HN := Lib.hid hn_aB
    clear hn_aB
    go_wp2_with fail
    refine (szEntryS_any _ a1 l1 c1 y1 qq0 _ (HO_aB_1.out.more HA_1.out.size) (Nat.le_refl _) (by omega) (by omega) (Nat.le_trans HC1.out HM1.out)).mono ?_
    rw [if_pos HN.out]
    rintro e W_2 ⟨rfl, hb⟩
    have HAe := Lib.hid (HA_1.out.trans (hb.mono HA_1.out.size))
    clear hb
    go_wp2
    go_ret
    exact ⟨rfl, HAe.out⟩
  have hY1 : totR totEntry y1 ≤ 1048576 := by omega
  have hYl1 := totR_len totEntry y1
  have HN_aB := Lib.hid hn_aB
  clear hn_aB
  go_wp2_with fail
  refine (szEntryS_any _ a1 l1 c1 y1 qq0 _ (HO_aB_1.out.more HA_1.out.size) (Nat.le_refl _) (by omega) (by omega) (Nat.le_trans HC1.out HM1.out)).mono ?_
  rw [if_neg (show ¬ qq0 < (totR totEntry y1 : Int) by have := HN_aB.out; omega)]
  rintro e W_2 ⟨rfl, hb⟩
  obtain ⟨qq1, hqq1⟩ : ∃ x, x = qq0 - (totR totEntry y1 : Int) := ⟨_, rfl⟩
  rw [← hqq1]
  have hqq1l : 0 ≤ qq1 ∧ qq1 ≤ 1048576 := by have := HN_aB.out; omega
  have hqq1n : ¬ qq1 < 0 := by omega
  clear hqq1
  have HB_1 := Lib.hid hb
  have HZ_1 := Lib.hid HB_1.out.size
  have HA_2 := Lib.hid (HA_1.out.trans (HB_1.out.mono HA_1.out.size))
  have HO_aA_2 := Lib.hid (HO_aA_1.out.below HB_1.out HA_1.out.size)
  have HO_aB_2 := Lib.hid (HO_aB_1.out.below HB_1.out HA_1.out.size)
  clear hb
  obtain ⟨r0, hS, hI⟩ := both_SameEntries y0 y1 hY0 hY1
  have HS := Lib.hid hS
  have HI := Lib.hid hI
  clear hS hI
  have hcy0 := cntR_le totEntry fullEntry fullEntry_le y0
  have hcy1 := cntR_le totEntry fullEntry fullEntry_le y1
  go_wp2_with fail
  refine (toEntryS_any a0 l0 c0 y0 _ (HO_aA_2.out.more HA_2.out.size) (by omega)).mono ?_
  rintro e W_3 ⟨A__t0, c__t0, rfl, hown, hb⟩
  have HO__t0_3 := Lib.hid hown
  have HB_2 := Lib.hid hb
  have HZ_2 := Lib.hid HB_2.out.size
  have HA_3 := Lib.hid (HA_2.out.trans (HB_2.out.mono HA_2.out.size))
  have HO_aA_3 := Lib.hid (HO_aA_2.out.below HB_2.out HA_2.out.size)
  have HO_aB_3 := Lib.hid (HO_aB_2.out.below HB_2.out HA_2.out.size)
  clear hb hown
  go_wp2_with fail
  refine (toEntryS_any a1 l1 c1 y1 _ (HO_aB_3.out.more HA_3.out.size) (by omega)).mono ?_
  rintro e W_4 ⟨A__t1, c__t1, rfl, hown, hb⟩
  have HO__t1_4 := Lib.hid hown
  have HB_3 := Lib.hid hb
  have HZ_3 := Lib.hid HB_3.out.size
  have HA_4 := Lib.hid (HA_3.out.trans (HB_3.out.mono HA_3.out.size))
  have HO_aA_4 := Lib.hid (HO_aA_3.out.below HB_3.out HA_3.out.size)
  have HO_aB_4 := Lib.hid (HO_aB_3.out.below HB_3.out HA_3.out.size)
  have HO__t0_4 := Lib.hid (HO__t0_3.out.below HB_3.out (Nat.le_refl _))
  clear hb hown
  go_wp2_with fail
  refine (HS.out A__t0 l0 c__t0 A__t1 l1 c__t1 _ (HO__t0_4.out.cap.1) (HO__t0_4.out.rd.more HZ_3.out) (HO__t1_4.out.cap.1) (HO__t1_4.out.rd.more (Nat.le_refl _))).mono ?_
  rintro e W_5 ⟨rfl, hb⟩
  have HB_4 := Lib.hid hb
  have HZ_4 := Lib.hid HB_4.out.size
  have HA_5 := Lib.hid (HA_4.out.trans (HB_4.out.mono HA_4.out.size))
  have HO_aA_5 := Lib.hid (HO_aA_4.out.below HB_4.out HA_4.out.size)
  have HO_aB_5 := Lib.hid (HO_aB_4.out.below HB_4.out HA_4.out.size)
  clear hb
  go_wp2_with fail
  refine (toEntryS_any a0 l0 c0 y0 _ (HO_aA_5.out.more HA_5.out.size) (by omega)).mono ?_
  rintro e W_6 ⟨A_x0, c_x0, rfl, hown, hb⟩
  have HO_x0_6 := Lib.hid hown
  have HB_5 := Lib.hid hb
  have HZ_5 := Lib.hid HB_5.out.size
  have HA_6 := Lib.hid (HA_5.out.trans (HB_5.out.mono HA_5.out.size))
  have HO_aA_6 := Lib.hid (HO_aA_5.out.below HB_5.out HA_5.out.size)
  have HO_aB_6 := Lib.hid (HO_aB_5.out.below HB_5.out HA_5.out.size)
  clear hb hown
  go_wp2_with fail
  refine (toEntryS_any a1 l1 c1 y1 _ (HO_aB_6.out.more HA_6.out.size) (by omega)).mono ?_
  rintro e W_7 ⟨A_x1, c_x1, rfl, hown, hb⟩
  have HO_x1_7 := Lib.hid hown
  have HB_6 := Lib.hid hb
  have HZ_6 := Lib.hid HB_6.out.size
  have HA_7 := Lib.hid (HA_6.out.trans (HB_6.out.mono HA_6.out.size))
  have HO_aA_7 := Lib.hid (HO_aA_6.out.below HB_6.out HA_6.out.size)
  have HO_aB_7 := Lib.hid (HO_aB_6.out.below HB_6.out HA_6.out.size)
  have HO_x0_7 := Lib.hid (HO_x0_6.out.below HB_6.out (Nat.le_refl _))
  clear hb hown
  go_wp2_with fail
  refine (HI.out A_x0 l0 c_x0 A_x1 l1 c_x1 _ (HO_x0_7.out.cap.1) (HO_x0_7.out.rd.more HZ_6.out) (HO_x1_7.out.cap.1) (HO_x1_7.out.rd.more (Nat.le_refl _))).mono ?_
  rintro e W_8 ⟨rfl, hb⟩
  have HB_7 := Lib.hid hb
  have HZ_7 := Lib.hid HB_7.out.size
  have HA_8 := Lib.hid (HA_7.out.trans (HB_7.out.mono HA_7.out.size))
  have HO_aA_8 := Lib.hid (HO_aA_7.out.below HB_7.out HA_7.out.size)
  have HO_aB_8 := Lib.hid (HO_aB_7.out.below HB_7.out HA_7.out.size)
  have HO_x0_8 := Lib.hid (HO_x0_7.out.below HB_7.out HZ_6.out)
  have HO_x1_8 := Lib.hid (HO_x1_7.out.below HB_7.out (Nat.le_refl _))
  clear hb
  go_wp2_with fail
  refine (toEntryS_any a0 l0 c0 y0 _ (HO_aA_8.out.more HA_8.out.size) (by omega)).mono ?_
  rintro e W_9 ⟨A__t2, c__t2, rfl, hown, hb⟩
  have HO__t2_9 := Lib.hid hown
  have HB_8 := Lib.hid hb
  have HZ_8 := Lib.hid HB_8.out.size
  have HA_9 := Lib.hid (HA_8.out.trans (HB_8.out.mono HA_8.out.size))
  have HO_aB_9 := Lib.hid (HO_aB_8.out.below HB_8.out HA_8.out.size)
  have HO_x0_9 := Lib.hid (HO_x0_8.out.below HB_8.out (Nat.le_trans HZ_6.out HZ_7.out))
  have HO_x1_9 := Lib.hid (HO_x1_8.out.below HB_8.out HZ_7.out)
  clear hb hown
  go_wp2_with fail
  refine (eqEntryS_same _ _ A_x0 A__t2 l0 c_x0 c__t2 y0 _ (HO_x0_9.out.rd.more (Nat.le_trans (Nat.le_trans HZ_6.out HZ_7.out) HZ_8.out)) (HO__t2_9.out.rd.more (Nat.le_refl _)) (Nat.le_refl _) (Nat.le_refl _) (by omega)).mono ?_
  rintro e W_10 ⟨rfl, hb⟩
  have HB_9 := Lib.hid hb
  have HZ_9 := Lib.hid HB_9.out.size
  have HA_10 := Lib.hid (HA_9.out.trans (HB_9.out.mono HA_9.out.size))
  have HO_aB_10 := Lib.hid (HO_aB_9.out.below HB_9.out HA_9.out.size)
  have HO_x1_10 := Lib.hid (HO_x1_9.out.below HB_9.out (Nat.le_trans HZ_7.out HZ_8.out))
  clear hb
  go_wp2_with fail
  refine (toEntryS_any a1 l1 c1 y1 _ (HO_aB_10.out.more HA_10.out.size) (by omega)).mono ?_
  rintro e W_11 ⟨A__t3, c__t3, rfl, hown, hb⟩
  have HO__t3_11 := Lib.hid hown
  have HB_10 := Lib.hid hb
  have HZ_10 := Lib.hid HB_10.out.size
  have HA_11 := Lib.hid (HA_10.out.trans (HB_10.out.mono HA_10.out.size))
  have HO_x1_11 := Lib.hid (HO_x1_10.out.below HB_10.out (Nat.le_trans (Nat.le_trans HZ_7.out HZ_8.out) HZ_9.out))
  clear hb hown
  go_wp2_with fail
  refine (eqEntryS_same _ _ A_x1 A__t3 l1 c_x1 c__t3 y1 _ (HO_x1_11.out.rd.more (Nat.le_trans (Nat.le_trans (Nat.le_trans HZ_7.out HZ_8.out) HZ_9.out) HZ_10.out)) (HO__t3_11.out.rd.more (Nat.le_refl _)) (Nat.le_refl _) (Nat.le_refl _) (by omega)).mono ?_
  rintro e W_12 ⟨rfl, hb⟩
  have HB_11 := Lib.hid hb
  have HZ_11 := Lib.hid HB_11.out.size
  have HA_12 := Lib.hid (HA_11.out.trans (HB_11.out.mono HA_11.out.size))
  clear hb
  go_wp2
  go_ret
  exact ⟨rfl, HA_12.out⟩
end Go.Proofs.Ytpjfmbcandgpeaa.W09
