/- The walks of the exact laws of chapter 10: each law returns true, and writes into nothing that was there. -/
import Derived.Test.YtcpfdhammhcoaaaC10U
import Derived.Test.YtcpfdhammhcoaaaT08
import Derived.Test.YtcpfdhammhcoaaaT01
import Derived.Deep.RegionHeld3
namespace Go.Proofs.Ytcpfdhammhcoaaa.W10
open Go.RowKit Mem MemS Rep RW R08 Q08 C10U T01 T04 T05 T08
set_option linter.unusedVariables false
set_option maxRecDepth 100000
set_option maxHeartbeats 4000000
theorem FnExactNodeOf_walk (W0 : World) (v0 : Int) (hv0 : (Lit.int .i64 v0).wf = true) (v1 : Int) (hv1 : (Lit.int .i64 v1).wf = true) :
    Calls Try.prog 4 #[.int .i64 v0, .int .i64 v1] W0 fun e w' => e = .returned (.bool true) ∧ Below W0.heap.size W0 w' := by
  have hV0 : -9223372036854775808 ≤ v0 ∧ v0 ≤ 9223372036854775807 := by simpa [Lit.wf, IntKind.min, IntKind.max, IntKind.signed, IntKind.bits] using hv0
  clear hv0
  have hV1 : -9223372036854775808 ≤ v1 ∧ v1 ≤ 9223372036854775807 := by simpa [Lit.wf, IntKind.min, IntKind.max, IntKind.signed, IntKind.bits] using hv1
  clear hv1
  have HA_0 := Lib.hid (show Below W0.heap.size W0 W0 from Below.refl _ _)
  go_enter Try.func4, Try.ntmps4
  obtain ⟨r0, hS, hI⟩ := both_NodeOf v0 v1 hV0 hV1
  have HS := Lib.hid hS
  have HI := Lib.hid hI
  clear hS hI
  go_wp2_with fail
  refine (HS.out  _ ).mono ?_
  rintro e W_1 ⟨rfl, hb⟩
  have HB_0 := Lib.hid hb
  have HZ_0 := Lib.hid HB_0.out.size
  have HA_1 := Lib.hid (HA_0.out.trans (HB_0.out.mono HA_0.out.size))
  clear hb
  go_wp2_with fail
  refine (HI.out  _ ).mono ?_
  rintro e W_2 ⟨rfl, hb⟩
  have HB_1 := Lib.hid hb
  have HZ_1 := Lib.hid HB_1.out.size
  have HA_2 := Lib.hid (HA_1.out.trans (HB_1.out.mono HA_1.out.size))
  clear hb
  go_wp2
  go_ret
  exact ⟨rfl, HA_2.out⟩
theorem FnExactTopOf_walk (W0 : World) (a0 : Option Addr) (l0 c0 : Nat) (z0 : List Int) (w0 : SL.IsRow .i64 W0 a0 l0 c0 z0) :
    Calls Try.prog 5 #[.slice a0 l0 c0] W0 fun e w' => e = .returned (.bool true) ∧ Below W0.heap.size W0 w' := by
  have hR0 := rd_of_row w0
  have hC0 := row_cap w0
  have hL0 := hR0.len
  generalize z0.take l0 = y0 at hR0 hL0
  clear w0
  by_cases hg0 : 1048576 < l0
  · have hg : 1048576 < (l0 : Int) := by omega
    clear hR0 hL0 hC0
    go_enter Try.func5, Try.ntmps5
    go_wp2
    go_ret
    exact ⟨rfl, (Below.refl _ _)⟩
  have HA_0 := Lib.hid (show Below W0.heap.size W0 W0 from Below.refl _ _)
  have HO_aLeaves_0 := Lib.hid (hR0.below HA_0.out (Nat.le_refl _))
  have HC0 := Lib.hid hC0
  clear hR0
  go_enter Try.func5, Try.ntmps5
  obtain ⟨r0, hS, hI⟩ := both_TopOf y0 (by omega)
  have HS := Lib.hid hS
  have HI := Lib.hid hI
  clear hS hI
  go_wp2_with fail
  refine (toIntS_any a0 l0 c0 y0 _ (HO_aLeaves_0.out.more HA_0.out.size) (by omega)).mono ?_
  rintro e W_1 ⟨A__t0, c__t0, rfl, hown, hb⟩
  have HO__t0_1 := Lib.hid hown
  have HB_0 := Lib.hid hb
  have HZ_0 := Lib.hid HB_0.out.size
  have HA_1 := Lib.hid (HA_0.out.trans (HB_0.out.mono HA_0.out.size))
  have HO_aLeaves_1 := Lib.hid (HO_aLeaves_0.out.below HB_0.out HA_0.out.size)
  clear hb hown
  go_wp2_with fail
  refine (HS.out A__t0 l0 c__t0 _ (HO__t0_1.out.cap.1) (HO__t0_1.out.rd.more (Nat.le_refl _))).mono ?_
  rintro e W_2 ⟨rfl, hb⟩
  have HB_1 := Lib.hid hb
  have HZ_1 := Lib.hid HB_1.out.size
  have HA_2 := Lib.hid (HA_1.out.trans (HB_1.out.mono HA_1.out.size))
  have HO_aLeaves_2 := Lib.hid (HO_aLeaves_1.out.below HB_1.out HA_1.out.size)
  clear hb
  go_wp2_with fail
  refine (toIntS_any a0 l0 c0 y0 _ (HO_aLeaves_2.out.more HA_2.out.size) (by omega)).mono ?_
  rintro e W_3 ⟨A_x0, c_x0, rfl, hown, hb⟩
  have HO_x0_3 := Lib.hid hown
  have HB_2 := Lib.hid hb
  have HZ_2 := Lib.hid HB_2.out.size
  have HA_3 := Lib.hid (HA_2.out.trans (HB_2.out.mono HA_2.out.size))
  have HO_aLeaves_3 := Lib.hid (HO_aLeaves_2.out.below HB_2.out HA_2.out.size)
  clear hb hown
  go_wp2_with fail
  refine (HI.out A_x0 l0 c_x0 _ (HO_x0_3.out.cap.1) (HO_x0_3.out.rd.more (Nat.le_refl _))).mono ?_
  rintro e W_4 ⟨rfl, hb⟩
  have HB_3 := Lib.hid hb
  have HZ_3 := Lib.hid HB_3.out.size
  have HA_4 := Lib.hid (HA_3.out.trans (HB_3.out.mono HA_3.out.size))
  have HO_aLeaves_4 := Lib.hid (HO_aLeaves_3.out.below HB_3.out HA_3.out.size)
  have HO_x0_4 := Lib.hid (HO_x0_3.out.below HB_3.out (Nat.le_refl _))
  clear hb
  go_wp2_with fail
  refine (toIntS_any a0 l0 c0 y0 _ (HO_aLeaves_4.out.more HA_4.out.size) (by omega)).mono ?_
  rintro e W_5 ⟨A__t1, c__t1, rfl, hown, hb⟩
  have HO__t1_5 := Lib.hid hown
  have HB_4 := Lib.hid hb
  have HZ_4 := Lib.hid HB_4.out.size
  have HA_5 := Lib.hid (HA_4.out.trans (HB_4.out.mono HA_4.out.size))
  have HO_x0_5 := Lib.hid (HO_x0_4.out.below HB_4.out HZ_3.out)
  clear hb hown
  go_wp2_with fail
  refine (eqIntS_same _ _ A_x0 A__t1 l0 c_x0 c__t1 y0 _ (HO_x0_5.out.rd.more (Nat.le_trans HZ_3.out HZ_4.out)) (HO__t1_5.out.rd.more (Nat.le_refl _)) (by omega)).mono ?_
  rintro e W_6 ⟨rfl, hb⟩
  have HB_5 := Lib.hid hb
  have HZ_5 := Lib.hid (HB_5.out.below 0).size
  have HA_6 := Lib.hid (HA_5.out.trans (HB_5.out.below _))
  clear hb
  go_wp2
  go_ret
  exact ⟨rfl, HA_6.out⟩
theorem FnExactRootOf_walk (W0 : World) (a0 : Option Addr) (l0 c0 : Nat) (y0 : List Entry) (w0 : Rds REntry W0 (Lt W0.heap.size) a0 l0 y0) (hC0 : l0 ≤ c0) (hM0 : c0 ≤ maxLen) :
    Calls Try.prog 6 #[.slice a0 l0 c0] W0 fun e w' => e = .returned (.bool true) ∧ Below W0.heap.size W0 w' := by
  have hR0 : FRdEntry W0 W0.heap.size a0 l0 y0 := w0
  have hL0 := hR0.len
  clear w0
  have HA_0 := Lib.hid (show Below W0.heap.size W0 W0 from Below.refl _ _)
  have HO_aList_0 := Lib.hid (hR0.below HA_0.out (Nat.le_refl _))
  have HC0 := Lib.hid hC0
  have HM0 := Lib.hid hM0
  clear hR0
  go_enter Try.func6, Try.ntmps6
  by_cases hn_aList : 1048576 < (totR totEntry y0 : Int)
  · have HN := Lib.hid hn_aList
    clear hn_aList
    go_wp2_with fail
    refine (szEntryS_any _ a0 l0 c0 y0 1048576 _ (HO_aList_0.out.more HA_0.out.size) (Nat.le_refl _) (by omega) (by omega) (Nat.le_trans HC0.out HM0.out)).mono ?_
    rw [if_pos HN.out]
    rintro e W_1 ⟨rfl, hb⟩
    have HAe := Lib.hid (HA_0.out.trans (hb.mono HA_0.out.size))
    clear hb
    go_wp2
    go_ret
    exact ⟨rfl, HAe.out⟩
  have hY0 : totR totEntry y0 ≤ 1048576 := by omega
  have hYl0 := totR_len totEntry y0
  have HN_aList := Lib.hid hn_aList
  clear hn_aList
  go_wp2_with fail
  refine (szEntryS_any _ a0 l0 c0 y0 1048576 _ (HO_aList_0.out.more HA_0.out.size) (Nat.le_refl _) (by omega) (by omega) (Nat.le_trans HC0.out HM0.out)).mono ?_
  rw [if_neg (show ¬ 1048576 < (totR totEntry y0 : Int) by have := HN_aList.out; omega)]
  rintro e W_1 ⟨rfl, hb⟩
  obtain ⟨qq0, hqq0⟩ : ∃ x, x = 1048576 - (totR totEntry y0 : Int) := ⟨_, rfl⟩
  rw [← hqq0]
  have hqq0l : 0 ≤ qq0 ∧ qq0 ≤ 1048576 := by have := HN_aList.out; omega
  have hqq0n : ¬ qq0 < 0 := by omega
  clear hqq0
  have HB_0 := Lib.hid hb
  have HZ_0 := Lib.hid HB_0.out.size
  have HA_1 := Lib.hid (HA_0.out.trans (HB_0.out.mono HA_0.out.size))
  have HO_aList_1 := Lib.hid (HO_aList_0.out.below HB_0.out HA_0.out.size)
  clear hb
  obtain ⟨r0, hS, hI⟩ := both_RootOf y0 hY0
  have HS := Lib.hid hS
  have HI := Lib.hid hI
  clear hS hI
  have hcy0 := cntR_le totEntry fullEntry fullEntry_le y0
  go_wp2_with fail
  refine (toEntryS_any a0 l0 c0 y0 _ (HO_aList_1.out.more HA_1.out.size) (by omega)).mono ?_
  rintro e W_2 ⟨A__t0, c__t0, rfl, hown, hb⟩
  have HO__t0_2 := Lib.hid hown
  have HB_1 := Lib.hid hb
  have HZ_1 := Lib.hid HB_1.out.size
  have HA_2 := Lib.hid (HA_1.out.trans (HB_1.out.mono HA_1.out.size))
  have HO_aList_2 := Lib.hid (HO_aList_1.out.below HB_1.out HA_1.out.size)
  clear hb hown
  go_wp2_with fail
  refine (HS.out A__t0 l0 c__t0 _ (HO__t0_2.out.cap.1) (HO__t0_2.out.rd.more (Nat.le_refl _))).mono ?_
  rintro e W_3 ⟨rfl, hb⟩
  have HB_2 := Lib.hid hb
  have HZ_2 := Lib.hid HB_2.out.size
  have HA_3 := Lib.hid (HA_2.out.trans (HB_2.out.mono HA_2.out.size))
  have HO_aList_3 := Lib.hid (HO_aList_2.out.below HB_2.out HA_2.out.size)
  clear hb
  go_wp2_with fail
  refine (toEntryS_any a0 l0 c0 y0 _ (HO_aList_3.out.more HA_3.out.size) (by omega)).mono ?_
  rintro e W_4 ⟨A_x0, c_x0, rfl, hown, hb⟩
  have HO_x0_4 := Lib.hid hown
  have HB_3 := Lib.hid hb
  have HZ_3 := Lib.hid HB_3.out.size
  have HA_4 := Lib.hid (HA_3.out.trans (HB_3.out.mono HA_3.out.size))
  have HO_aList_4 := Lib.hid (HO_aList_3.out.below HB_3.out HA_3.out.size)
  clear hb hown
  go_wp2_with fail
  refine (HI.out A_x0 l0 c_x0 _ (HO_x0_4.out.cap.1) (HO_x0_4.out.rd.more (Nat.le_refl _))).mono ?_
  rintro e W_5 ⟨rfl, hb⟩
  have HB_4 := Lib.hid hb
  have HZ_4 := Lib.hid HB_4.out.size
  have HA_5 := Lib.hid (HA_4.out.trans (HB_4.out.mono HA_4.out.size))
  have HO_aList_5 := Lib.hid (HO_aList_4.out.below HB_4.out HA_4.out.size)
  have HO_x0_5 := Lib.hid (HO_x0_4.out.below HB_4.out (Nat.le_refl _))
  clear hb
  go_wp2_with fail
  refine (toEntryS_any a0 l0 c0 y0 _ (HO_aList_5.out.more HA_5.out.size) (by omega)).mono ?_
  rintro e W_6 ⟨A__t1, c__t1, rfl, hown, hb⟩
  have HO__t1_6 := Lib.hid hown
  have HB_5 := Lib.hid hb
  have HZ_5 := Lib.hid HB_5.out.size
  have HA_6 := Lib.hid (HA_5.out.trans (HB_5.out.mono HA_5.out.size))
  have HO_x0_6 := Lib.hid (HO_x0_5.out.below HB_5.out HZ_4.out)
  clear hb hown
  go_wp2_with fail
  refine (eqEntryS_same _ _ A_x0 A__t1 l0 c_x0 c__t1 y0 _ (HO_x0_6.out.rd.more (Nat.le_trans HZ_4.out HZ_5.out)) (HO__t1_6.out.rd.more (Nat.le_refl _)) (Nat.le_refl _) (Nat.le_refl _) (by omega)).mono ?_
  rintro e W_7 ⟨rfl, hb⟩
  have HB_6 := Lib.hid hb
  have HZ_6 := Lib.hid HB_6.out.size
  have HA_7 := Lib.hid (HA_6.out.trans (HB_6.out.mono HA_6.out.size))
  clear hb
  go_wp2
  go_ret
  exact ⟨rfl, HA_7.out⟩
theorem FnExactPathFor_walk (W0 : World) (a0 : Option Addr) (l0 c0 : Nat) (z0 : List Int) (w0 : SL.IsRow .i64 W0 a0 l0 c0 z0) (v1 : Int) (hv1 : (Lit.int .i64 v1).wf = true) :
    Calls Try.prog 7 #[.slice a0 l0 c0, .int .i64 v1] W0 fun e w' => e = .returned (.bool true) ∧ Below W0.heap.size W0 w' := by
  have hR0 := rd_of_row w0
  have hC0 := row_cap w0
  have hL0 := hR0.len
  generalize z0.take l0 = y0 at hR0 hL0
  clear w0
  have hV1 : -9223372036854775808 ≤ v1 ∧ v1 ≤ 9223372036854775807 := by simpa [Lit.wf, IntKind.min, IntKind.max, IntKind.signed, IntKind.bits] using hv1
  clear hv1
  by_cases hg0 : 1048576 < l0
  · have hg : 1048576 < (l0 : Int) := by omega
    clear hR0 hL0 hC0
    go_enter Try.func7, Try.ntmps7
    go_wp2
    go_ret
    exact ⟨rfl, (Below.refl _ _)⟩
  have HA_0 := Lib.hid (show Below W0.heap.size W0 W0 from Below.refl _ _)
  have HO_aLeaves_0 := Lib.hid (hR0.below HA_0.out (Nat.le_refl _))
  have HC0 := Lib.hid hC0
  clear hR0
  go_enter Try.func7, Try.ntmps7
  obtain ⟨r0, hlen0, hS, hI⟩ := both_PathFor y0 v1 (by omega) hV1
  have HS := Lib.hid hS
  have HI := Lib.hid hI
  clear hS hI
  go_wp2_with fail
  refine (toIntS_any a0 l0 c0 y0 _ (HO_aLeaves_0.out.more HA_0.out.size) (by omega)).mono ?_
  rintro e W_1 ⟨A__t0, c__t0, rfl, hown, hb⟩
  have HO__t0_1 := Lib.hid hown
  have HB_0 := Lib.hid hb
  have HZ_0 := Lib.hid HB_0.out.size
  have HA_1 := Lib.hid (HA_0.out.trans (HB_0.out.mono HA_0.out.size))
  have HO_aLeaves_1 := Lib.hid (HO_aLeaves_0.out.below HB_0.out HA_0.out.size)
  clear hb hown
  go_wp2_with fail
  refine (HS.out A__t0 l0 c__t0 _ (HO__t0_1.out.cap.1) (HO__t0_1.out.rd.more (Nat.le_refl _))).mono ?_
  rintro e W_2 ⟨A_w0, c_w0, rfl, ho0, hb⟩
  have HO_w0_2 := Lib.hid ho0
  have HB_1 := Lib.hid hb
  have HZ_1 := Lib.hid HB_1.out.size
  have HA_2 := Lib.hid (HA_1.out.trans (HB_1.out.mono HA_1.out.size))
  have HO_aLeaves_2 := Lib.hid (HO_aLeaves_1.out.below HB_1.out HA_1.out.size)
  clear hb ho0
  go_wp2_with fail
  refine (toIntS_any a0 l0 c0 y0 _ (HO_aLeaves_2.out.more HA_2.out.size) (by omega)).mono ?_
  rintro e W_3 ⟨A_x0, c_x0, rfl, hown, hb⟩
  have HO_x0_3 := Lib.hid hown
  have HB_2 := Lib.hid hb
  have HZ_2 := Lib.hid HB_2.out.size
  have HA_3 := Lib.hid (HA_2.out.trans (HB_2.out.mono HA_2.out.size))
  have HO_aLeaves_3 := Lib.hid (HO_aLeaves_2.out.below HB_2.out HA_2.out.size)
  have HO_w0_3 := Lib.hid (HO_w0_2.out.below HB_2.out (Nat.le_refl _))
  clear hb hown
  go_wp2_with fail
  refine (HI.out A_x0 l0 c_x0 _ (HO_x0_3.out.cap.1) (HO_x0_3.out.rd.more (Nat.le_refl _))).mono ?_
  rintro e W_4 ⟨A_g0, c_g0, rfl, ho0, hb⟩
  have HO_g0_4 := Lib.hid ho0
  have HB_3 := Lib.hid hb
  have HZ_3 := Lib.hid HB_3.out.size
  have HA_4 := Lib.hid (HA_3.out.trans (HB_3.out.mono HA_3.out.size))
  have HO_aLeaves_4 := Lib.hid (HO_aLeaves_3.out.below HB_3.out HA_3.out.size)
  have HO_w0_4 := Lib.hid (HO_w0_3.out.below HB_3.out HZ_2.out)
  have HO_x0_4 := Lib.hid (HO_x0_3.out.below HB_3.out (Nat.le_refl _))
  clear hb ho0
  go_wp2_with fail
  refine (eqIntS_same _ _ A_g0 A_w0 r0.length c_g0 c_w0 r0 _ (HO_g0_4.out.rd.more (Nat.le_refl _)) (HO_w0_4.out.rd.more (Nat.le_trans HZ_2.out HZ_3.out)) (by omega)).mono ?_
  rintro e W_5 ⟨rfl, hb⟩
  have HB_4 := Lib.hid hb
  have HZ_4 := Lib.hid (HB_4.out.below 0).size
  have HA_5 := Lib.hid (HA_4.out.trans (HB_4.out.below _))
  have HO_aLeaves_5 := Lib.hid (HO_aLeaves_4.out.same HB_4.out)
  have HO_w0_5 := Lib.hid (HO_w0_4.out.same HB_4.out)
  have HO_x0_5 := Lib.hid (HO_x0_4.out.same HB_4.out)
  have HO_g0_5 := Lib.hid (HO_g0_4.out.same HB_4.out)
  clear hb
  go_wp2_with fail
  refine (toIntS_any a0 l0 c0 y0 _ (HO_aLeaves_5.out.more HA_5.out.size) (by omega)).mono ?_
  rintro e W_6 ⟨A__t1, c__t1, rfl, hown, hb⟩
  have HO__t1_6 := Lib.hid hown
  have HB_5 := Lib.hid hb
  have HZ_5 := Lib.hid HB_5.out.size
  have HA_6 := Lib.hid (HA_5.out.trans (HB_5.out.mono HA_5.out.size))
  have HO_aLeaves_6 := Lib.hid (HO_aLeaves_5.out.below HB_5.out HA_5.out.size)
  have HO_w0_6 := Lib.hid (HO_w0_5.out.below HB_5.out (Nat.le_trans (Nat.le_trans HZ_2.out HZ_3.out) HZ_4.out))
  have HO_x0_6 := Lib.hid (HO_x0_5.out.below HB_5.out (Nat.le_trans HZ_3.out HZ_4.out))
  have HO_g0_6 := Lib.hid (HO_g0_5.out.below HB_5.out HZ_4.out)
  clear hb hown
  go_wp2_with fail
  refine (eqIntS_same _ _ A_x0 A__t1 l0 c_x0 c__t1 y0 _ (HO_x0_6.out.rd.more (Nat.le_trans (Nat.le_trans HZ_3.out HZ_4.out) HZ_5.out)) (HO__t1_6.out.rd.more (Nat.le_refl _)) (by omega)).mono ?_
  rintro e W_7 ⟨rfl, hb⟩
  have HB_6 := Lib.hid hb
  have HZ_6 := Lib.hid (HB_6.out.below 0).size
  have HA_7 := Lib.hid (HA_6.out.trans (HB_6.out.below _))
  have HO_aLeaves_7 := Lib.hid (HO_aLeaves_6.out.same HB_6.out)
  have HO_w0_7 := Lib.hid (HO_w0_6.out.same HB_6.out)
  have HO_x0_7 := Lib.hid (HO_x0_6.out.same HB_6.out)
  have HO_g0_7 := Lib.hid (HO_g0_6.out.same HB_6.out)
  clear hb
  go_wp2_with fail
  refine (markIntS_any _ _ A_x0 l0 c_x0 y0 1 _ HO_x0_7.out (by omega) (by omega) (by omega)).mono ?_
  rintro e W_8 ⟨rfl, hown, hb⟩
  have HO_x0_8 := Lib.hid hown
  clear hown
  have HB_7 := Lib.hid hb
  have HZ_7 := Lib.hid HB_7.out.size
  have HA_8 := Lib.hid (HA_7.out.trans (HB_7.out.below HA_2.out.size HA_7.out.size))
  have HO_aLeaves_8 := Lib.hid (HO_aLeaves_7.out.fr HB_7.out HA_2.out.size HA_7.out.size)
  have HO_w0_8 := Lib.hid (HO_w0_7.out.fr HB_7.out (.inl (Nat.le_refl _)))
  have HO_g0_8 := Lib.hid (HO_g0_7.out.fr HB_7.out (.inr (Nat.le_refl _)))
  clear hb
  go_wp2_with fail
  refine (eqIntS_same _ _ A_g0 A_w0 r0.length c_g0 c_w0 r0 _ (HO_g0_8.out.rd.more (Nat.le_trans (Nat.le_trans (Nat.le_trans HZ_4.out HZ_5.out) HZ_6.out) HZ_7.out)) (HO_w0_8.out.rd.more (Nat.le_trans (Nat.le_trans (Nat.le_trans (Nat.le_trans (Nat.le_trans HZ_2.out HZ_3.out) HZ_4.out) HZ_5.out) HZ_6.out) HZ_7.out)) (by omega)).mono ?_
  rintro e W_9 ⟨rfl, hb⟩
  have HB_8 := Lib.hid hb
  have HZ_8 := Lib.hid (HB_8.out.below 0).size
  have HA_9 := Lib.hid (HA_8.out.trans (HB_8.out.below _))
  have HO_aLeaves_9 := Lib.hid (HO_aLeaves_8.out.same HB_8.out)
  have HO_w0_9 := Lib.hid (HO_w0_8.out.same HB_8.out)
  have HO_g0_9 := Lib.hid (HO_g0_8.out.same HB_8.out)
  clear hb
  go_wp2_with fail
  refine (markIntS_any _ _ A_g0 r0.length c_g0 r0 1 _ HO_g0_9.out (by omega) (by omega) (by omega)).mono ?_
  rintro e W_10 ⟨rfl, hown, hb⟩
  have HO_g0_10 := Lib.hid hown
  clear hown
  have HB_9 := Lib.hid hb
  have HZ_9 := Lib.hid HB_9.out.size
  have HA_10 := Lib.hid (HA_9.out.trans (HB_9.out.below HA_3.out.size HA_9.out.size))
  have HO_aLeaves_10 := Lib.hid (HO_aLeaves_9.out.fr HB_9.out HA_3.out.size HA_9.out.size)
  have HO_w0_10 := Lib.hid (HO_w0_9.out.fr HB_9.out (.inl HZ_2.out))
  clear hb
  go_wp2_with fail
  refine (heldIntS_marks _ A_g0 r0.length c_g0 1 _ HO_g0_10.out.rd (by omega) (by omega) (by omega)).mono ?_
  rintro e W_11 ⟨rfl, rfl⟩
  go_wp2_with fail
  refine (toIntS_any a0 l0 c0 y0 _ (HO_aLeaves_10.out.more HA_10.out.size) (by omega)).mono ?_
  rintro e W_11 ⟨A__t2, c__t2, rfl, hown, hb⟩
  have HO__t2_11 := Lib.hid hown
  have HB_10 := Lib.hid hb
  have HZ_10 := Lib.hid HB_10.out.size
  have HA_11 := Lib.hid (HA_10.out.trans (HB_10.out.mono HA_10.out.size))
  have HO_w0_11 := Lib.hid (HO_w0_10.out.below HB_10.out (Nat.le_trans (Nat.le_trans (Nat.le_trans (Nat.le_trans (Nat.le_trans (Nat.le_trans (Nat.le_trans HZ_2.out HZ_3.out) HZ_4.out) HZ_5.out) HZ_6.out) HZ_7.out) HZ_8.out) HZ_9.out))
  have HO_g0_11 := Lib.hid (HO_g0_10.out.below HB_10.out (Nat.le_trans (Nat.le_trans (Nat.le_trans (Nat.le_trans (Nat.le_trans HZ_4.out HZ_5.out) HZ_6.out) HZ_7.out) HZ_8.out) HZ_9.out))
  clear hb hown
  go_wp2_with fail
  refine (HI.out A__t2 l0 c__t2 _ (HO__t2_11.out.cap.1) (HO__t2_11.out.rd.more (Nat.le_refl _))).mono ?_
  rintro e W_12 ⟨A_h0, c_h0, rfl, ho0, hb⟩
  have HO_h0_12 := Lib.hid ho0
  have HB_11 := Lib.hid hb
  have HZ_11 := Lib.hid HB_11.out.size
  have HA_12 := Lib.hid (HA_11.out.trans (HB_11.out.mono HA_11.out.size))
  have HO_w0_12 := Lib.hid (HO_w0_11.out.below HB_11.out (Nat.le_trans (Nat.le_trans (Nat.le_trans (Nat.le_trans (Nat.le_trans (Nat.le_trans (Nat.le_trans (Nat.le_trans HZ_2.out HZ_3.out) HZ_4.out) HZ_5.out) HZ_6.out) HZ_7.out) HZ_8.out) HZ_9.out) HZ_10.out))
  have HO_g0_12 := Lib.hid (HO_g0_11.out.below HB_11.out (Nat.le_trans (Nat.le_trans (Nat.le_trans (Nat.le_trans (Nat.le_trans (Nat.le_trans HZ_4.out HZ_5.out) HZ_6.out) HZ_7.out) HZ_8.out) HZ_9.out) HZ_10.out))
  clear hb ho0
  go_wp2_with fail
  refine (eqIntS_same _ _ A_h0 A_w0 r0.length c_h0 c_w0 r0 _ (HO_h0_12.out.rd.more (Nat.le_refl _)) (HO_w0_12.out.rd.more (Nat.le_trans (Nat.le_trans (Nat.le_trans (Nat.le_trans (Nat.le_trans (Nat.le_trans (Nat.le_trans (Nat.le_trans (Nat.le_trans HZ_2.out HZ_3.out) HZ_4.out) HZ_5.out) HZ_6.out) HZ_7.out) HZ_8.out) HZ_9.out) HZ_10.out) HZ_11.out)) (by omega)).mono ?_
  rintro e W_13 ⟨rfl, hb⟩
  have HB_12 := Lib.hid hb
  have HZ_12 := Lib.hid (HB_12.out.below 0).size
  have HA_13 := Lib.hid (HA_12.out.trans (HB_12.out.below _))
  have HO_g0_13 := Lib.hid (HO_g0_12.out.same HB_12.out)
  clear hb
  go_wp2_with fail
  refine (heldIntS_marks _ A_g0 r0.length c_g0 1 _ HO_g0_13.out.rd (by omega) (by omega) (by omega)).mono ?_
  rintro e W_14 ⟨rfl, rfl⟩
  go_wp2
  go_ret
  exact ⟨rfl, HA_13.out⟩
theorem FnExactTopFrom_walk (W0 : World) (v0 : Int) (hv0 : (Lit.int .i64 v0).wf = true) (v1 : Int) (hv1 : (Lit.int .i64 v1).wf = true) (v2 : Int) (hv2 : (Lit.int .i64 v2).wf = true) (a3 : Option Addr) (l3 c3 : Nat) (z3 : List Int) (w3 : SL.IsRow .i64 W0 a3 l3 c3 z3) :
    Calls Try.prog 8 #[.int .i64 v0, .int .i64 v1, .int .i64 v2, .slice a3 l3 c3] W0 fun e w' => e = .returned (.bool true) ∧ Below W0.heap.size W0 w' := by
  have hV0 : -9223372036854775808 ≤ v0 ∧ v0 ≤ 9223372036854775807 := by simpa [Lit.wf, IntKind.min, IntKind.max, IntKind.signed, IntKind.bits] using hv0
  clear hv0
  have hV1 : -9223372036854775808 ≤ v1 ∧ v1 ≤ 9223372036854775807 := by simpa [Lit.wf, IntKind.min, IntKind.max, IntKind.signed, IntKind.bits] using hv1
  clear hv1
  have hV2 : -9223372036854775808 ≤ v2 ∧ v2 ≤ 9223372036854775807 := by simpa [Lit.wf, IntKind.min, IntKind.max, IntKind.signed, IntKind.bits] using hv2
  clear hv2
  have hR3 := rd_of_row w3
  have hC3 := row_cap w3
  have hL3 := hR3.len
  generalize z3.take l3 = y3 at hR3 hL3
  clear w3
  by_cases hg3 : 1048576 < l3
  · have hg : 1048576 < (l3 : Int) := by omega
    clear hR3 hL3 hC3
    go_enter Try.func8, Try.ntmps8
    go_wp2
    go_ret
    exact ⟨rfl, (Below.refl _ _)⟩
  have HA_0 := Lib.hid (show Below W0.heap.size W0 W0 from Below.refl _ _)
  have HO_aPath_0 := Lib.hid (hR3.below HA_0.out (Nat.le_refl _))
  have HC3 := Lib.hid hC3
  clear hR3
  go_enter Try.func8, Try.ntmps8
  obtain ⟨r0, r1, hS, hI⟩ := both_TopFrom v0 v1 v2 y3 hV0 hV1 hV2 (by omega)
  have HS := Lib.hid hS
  have HI := Lib.hid hI
  clear hS hI
  go_wp2_with fail
  refine (toIntS_any a3 l3 c3 y3 _ (HO_aPath_0.out.more HA_0.out.size) (by omega)).mono ?_
  rintro e W_1 ⟨A__t0, c__t0, rfl, hown, hb⟩
  have HO__t0_1 := Lib.hid hown
  have HB_0 := Lib.hid hb
  have HZ_0 := Lib.hid HB_0.out.size
  have HA_1 := Lib.hid (HA_0.out.trans (HB_0.out.mono HA_0.out.size))
  have HO_aPath_1 := Lib.hid (HO_aPath_0.out.below HB_0.out HA_0.out.size)
  clear hb hown
  go_wp2_with fail
  refine (HS.out A__t0 l3 c__t0 _ (HO__t0_1.out.cap.1) (HO__t0_1.out.rd.more (Nat.le_refl _))).mono ?_
  rintro e W_2 ⟨rfl, hb⟩
  have HB_1 := Lib.hid hb
  have HZ_1 := Lib.hid HB_1.out.size
  have HA_2 := Lib.hid (HA_1.out.trans (HB_1.out.mono HA_1.out.size))
  have HO_aPath_2 := Lib.hid (HO_aPath_1.out.below HB_1.out HA_1.out.size)
  clear hb
  go_wp2_with fail
  refine (toIntS_any a3 l3 c3 y3 _ (HO_aPath_2.out.more HA_2.out.size) (by omega)).mono ?_
  rintro e W_3 ⟨A_x3, c_x3, rfl, hown, hb⟩
  have HO_x3_3 := Lib.hid hown
  have HB_2 := Lib.hid hb
  have HZ_2 := Lib.hid HB_2.out.size
  have HA_3 := Lib.hid (HA_2.out.trans (HB_2.out.mono HA_2.out.size))
  have HO_aPath_3 := Lib.hid (HO_aPath_2.out.below HB_2.out HA_2.out.size)
  clear hb hown
  go_wp2_with fail
  refine (HI.out A_x3 l3 c_x3 _ (HO_x3_3.out.cap.1) (HO_x3_3.out.rd.more (Nat.le_refl _))).mono ?_
  rintro e W_4 ⟨rfl, hb⟩
  have HB_3 := Lib.hid hb
  have HZ_3 := Lib.hid HB_3.out.size
  have HA_4 := Lib.hid (HA_3.out.trans (HB_3.out.mono HA_3.out.size))
  have HO_aPath_4 := Lib.hid (HO_aPath_3.out.below HB_3.out HA_3.out.size)
  have HO_x3_4 := Lib.hid (HO_x3_3.out.below HB_3.out (Nat.le_refl _))
  clear hb
  go_wp2_with fail
  refine (toIntS_any a3 l3 c3 y3 _ (HO_aPath_4.out.more HA_4.out.size) (by omega)).mono ?_
  rintro e W_5 ⟨A__t1, c__t1, rfl, hown, hb⟩
  have HO__t1_5 := Lib.hid hown
  have HB_4 := Lib.hid hb
  have HZ_4 := Lib.hid HB_4.out.size
  have HA_5 := Lib.hid (HA_4.out.trans (HB_4.out.mono HA_4.out.size))
  have HO_x3_5 := Lib.hid (HO_x3_4.out.below HB_4.out HZ_3.out)
  clear hb hown
  go_wp2_with fail
  refine (eqIntS_same _ _ A_x3 A__t1 l3 c_x3 c__t1 y3 _ (HO_x3_5.out.rd.more (Nat.le_trans HZ_3.out HZ_4.out)) (HO__t1_5.out.rd.more (Nat.le_refl _)) (by omega)).mono ?_
  rintro e W_6 ⟨rfl, hb⟩
  have HB_5 := Lib.hid hb
  have HZ_5 := Lib.hid (HB_5.out.below 0).size
  have HA_6 := Lib.hid (HA_5.out.trans (HB_5.out.below _))
  clear hb
  go_wp2
  go_ret
  exact ⟨rfl, HA_6.out⟩
theorem FnExactLeavesOf_walk (W0 : World) (a0 : Option Addr) (l0 c0 : Nat) (y0 : List Entry) (w0 : Rds REntry W0 (Lt W0.heap.size) a0 l0 y0) (hC0 : l0 ≤ c0) (hM0 : c0 ≤ maxLen) :
    Calls Try.prog 9 #[.slice a0 l0 c0] W0 fun e w' => e = .returned (.bool true) ∧ Below W0.heap.size W0 w' := by
  have hR0 : FRdEntry W0 W0.heap.size a0 l0 y0 := w0
  have hL0 := hR0.len
  clear w0
  have HA_0 := Lib.hid (show Below W0.heap.size W0 W0 from Below.refl _ _)
  have HO_aList_0 := Lib.hid (hR0.below HA_0.out (Nat.le_refl _))
  have HC0 := Lib.hid hC0
  have HM0 := Lib.hid hM0
  clear hR0
  go_enter Try.func9, Try.ntmps9
  by_cases hn_aList : 1048576 < (totR totEntry y0 : Int)
  · have HN := Lib.hid hn_aList
    clear hn_aList
    go_wp2_with fail
    refine (szEntryS_any _ a0 l0 c0 y0 1048576 _ (HO_aList_0.out.more HA_0.out.size) (Nat.le_refl _) (by omega) (by omega) (Nat.le_trans HC0.out HM0.out)).mono ?_
    rw [if_pos HN.out]
    rintro e W_1 ⟨rfl, hb⟩
    have HAe := Lib.hid (HA_0.out.trans (hb.mono HA_0.out.size))
    clear hb
    go_wp2
    go_ret
    exact ⟨rfl, HAe.out⟩
  have hY0 : totR totEntry y0 ≤ 1048576 := by omega
  have hYl0 := totR_len totEntry y0
  have HN_aList := Lib.hid hn_aList
  clear hn_aList
  go_wp2_with fail
  refine (szEntryS_any _ a0 l0 c0 y0 1048576 _ (HO_aList_0.out.more HA_0.out.size) (Nat.le_refl _) (by omega) (by omega) (Nat.le_trans HC0.out HM0.out)).mono ?_
  rw [if_neg (show ¬ 1048576 < (totR totEntry y0 : Int) by have := HN_aList.out; omega)]
  rintro e W_1 ⟨rfl, hb⟩
  obtain ⟨qq0, hqq0⟩ : ∃ x, x = 1048576 - (totR totEntry y0 : Int) := ⟨_, rfl⟩
  rw [← hqq0]
  have hqq0l : 0 ≤ qq0 ∧ qq0 ≤ 1048576 := by have := HN_aList.out; omega
  have hqq0n : ¬ qq0 < 0 := by omega
  clear hqq0
  have HB_0 := Lib.hid hb
  have HZ_0 := Lib.hid HB_0.out.size
  have HA_1 := Lib.hid (HA_0.out.trans (HB_0.out.mono HA_0.out.size))
  have HO_aList_1 := Lib.hid (HO_aList_0.out.below HB_0.out HA_0.out.size)
  clear hb
  obtain ⟨r0, hlen0, hS, hI⟩ := both_LeavesOf y0 hY0
  have HS := Lib.hid hS
  have HI := Lib.hid hI
  clear hS hI
  have hcy0 := cntR_le totEntry fullEntry fullEntry_le y0
  go_wp2_with fail
  refine (toEntryS_any a0 l0 c0 y0 _ (HO_aList_1.out.more HA_1.out.size) (by omega)).mono ?_
  rintro e W_2 ⟨A__t0, c__t0, rfl, hown, hb⟩
  have HO__t0_2 := Lib.hid hown
  have HB_1 := Lib.hid hb
  have HZ_1 := Lib.hid HB_1.out.size
  have HA_2 := Lib.hid (HA_1.out.trans (HB_1.out.mono HA_1.out.size))
  have HO_aList_2 := Lib.hid (HO_aList_1.out.below HB_1.out HA_1.out.size)
  clear hb hown
  go_wp2_with fail
  refine (HS.out A__t0 l0 c__t0 _ (HO__t0_2.out.cap.1) (HO__t0_2.out.rd.more (Nat.le_refl _))).mono ?_
  rintro e W_3 ⟨A_w0, c_w0, rfl, ho0, hb⟩
  have HO_w0_3 := Lib.hid ho0
  have HB_2 := Lib.hid hb
  have HZ_2 := Lib.hid HB_2.out.size
  have HA_3 := Lib.hid (HA_2.out.trans (HB_2.out.mono HA_2.out.size))
  have HO_aList_3 := Lib.hid (HO_aList_2.out.below HB_2.out HA_2.out.size)
  clear hb ho0
  go_wp2_with fail
  refine (toEntryS_any a0 l0 c0 y0 _ (HO_aList_3.out.more HA_3.out.size) (by omega)).mono ?_
  rintro e W_4 ⟨A_x0, c_x0, rfl, hown, hb⟩
  have HO_x0_4 := Lib.hid hown
  have HB_3 := Lib.hid hb
  have HZ_3 := Lib.hid HB_3.out.size
  have HA_4 := Lib.hid (HA_3.out.trans (HB_3.out.mono HA_3.out.size))
  have HO_aList_4 := Lib.hid (HO_aList_3.out.below HB_3.out HA_3.out.size)
  have HO_w0_4 := Lib.hid (HO_w0_3.out.below HB_3.out (Nat.le_refl _))
  clear hb hown
  go_wp2_with fail
  refine (HI.out A_x0 l0 c_x0 _ (HO_x0_4.out.cap.1) (HO_x0_4.out.rd.more (Nat.le_refl _))).mono ?_
  rintro e W_5 ⟨A_g0, c_g0, rfl, ho0, hb⟩
  have HO_g0_5 := Lib.hid ho0
  have HB_4 := Lib.hid hb
  have HZ_4 := Lib.hid HB_4.out.size
  have HA_5 := Lib.hid (HA_4.out.trans (HB_4.out.mono HA_4.out.size))
  have HO_aList_5 := Lib.hid (HO_aList_4.out.below HB_4.out HA_4.out.size)
  have HO_w0_5 := Lib.hid (HO_w0_4.out.below HB_4.out HZ_3.out)
  have HO_x0_5 := Lib.hid (HO_x0_4.out.below HB_4.out (Nat.le_refl _))
  clear hb ho0
  go_wp2_with fail
  refine (eqIntS_same _ _ A_g0 A_w0 r0.length c_g0 c_w0 r0 _ (HO_g0_5.out.rd.more (Nat.le_refl _)) (HO_w0_5.out.rd.more (Nat.le_trans HZ_3.out HZ_4.out)) (by omega)).mono ?_
  rintro e W_6 ⟨rfl, hb⟩
  have HB_5 := Lib.hid hb
  have HZ_5 := Lib.hid (HB_5.out.below 0).size
  have HA_6 := Lib.hid (HA_5.out.trans (HB_5.out.below _))
  have HO_aList_6 := Lib.hid (HO_aList_5.out.same HB_5.out)
  have HO_w0_6 := Lib.hid (HO_w0_5.out.same HB_5.out)
  have HO_x0_6 := Lib.hid (HO_x0_5.out.same HB_5.out)
  have HO_g0_6 := Lib.hid (HO_g0_5.out.same HB_5.out)
  clear hb
  go_wp2_with fail
  refine (toEntryS_any a0 l0 c0 y0 _ (HO_aList_6.out.more HA_6.out.size) (by omega)).mono ?_
  rintro e W_7 ⟨A__t1, c__t1, rfl, hown, hb⟩
  have HO__t1_7 := Lib.hid hown
  have HB_6 := Lib.hid hb
  have HZ_6 := Lib.hid HB_6.out.size
  have HA_7 := Lib.hid (HA_6.out.trans (HB_6.out.mono HA_6.out.size))
  have HO_aList_7 := Lib.hid (HO_aList_6.out.below HB_6.out HA_6.out.size)
  have HO_w0_7 := Lib.hid (HO_w0_6.out.below HB_6.out (Nat.le_trans (Nat.le_trans HZ_3.out HZ_4.out) HZ_5.out))
  have HO_x0_7 := Lib.hid (HO_x0_6.out.below HB_6.out (Nat.le_trans HZ_4.out HZ_5.out))
  have HO_g0_7 := Lib.hid (HO_g0_6.out.below HB_6.out HZ_5.out)
  clear hb hown
  go_wp2_with fail
  refine (eqEntryS_same _ _ A_x0 A__t1 l0 c_x0 c__t1 y0 _ (HO_x0_7.out.rd.more (Nat.le_trans (Nat.le_trans HZ_4.out HZ_5.out) HZ_6.out)) (HO__t1_7.out.rd.more (Nat.le_refl _)) (Nat.le_refl _) (Nat.le_refl _) (by omega)).mono ?_
  rintro e W_8 ⟨rfl, hb⟩
  have HB_7 := Lib.hid hb
  have HZ_7 := Lib.hid HB_7.out.size
  have HA_8 := Lib.hid (HA_7.out.trans (HB_7.out.mono HA_7.out.size))
  have HO_aList_8 := Lib.hid (HO_aList_7.out.below HB_7.out HA_7.out.size)
  have HO_w0_8 := Lib.hid (HO_w0_7.out.below HB_7.out (Nat.le_trans (Nat.le_trans (Nat.le_trans HZ_3.out HZ_4.out) HZ_5.out) HZ_6.out))
  have HO_x0_8 := Lib.hid (HO_x0_7.out.below HB_7.out (Nat.le_trans (Nat.le_trans HZ_4.out HZ_5.out) HZ_6.out))
  have HO_g0_8 := Lib.hid (HO_g0_7.out.below HB_7.out (Nat.le_trans HZ_5.out HZ_6.out))
  clear hb
  go_wp2_with fail
  refine (markEntryS_any _ _ A_x0 l0 c_x0 y0 1 _ HO_x0_8.out (by omega) (by omega) (by omega)).mono ?_
  rintro e W_9 ⟨rfl, hown, hb⟩
  have HO_x0_9 := Lib.hid hown
  clear hown
  have HB_8 := Lib.hid hb
  have HZ_8 := Lib.hid HB_8.out.size
  have HA_9 := Lib.hid (HA_8.out.trans (HB_8.out.below HA_3.out.size HA_8.out.size))
  have HO_aList_9 := Lib.hid (HO_aList_8.out.fr HB_8.out HA_3.out.size HA_8.out.size)
  have HO_w0_9 := Lib.hid (HO_w0_8.out.fr HB_8.out (.inl (Nat.le_refl _)))
  have HO_g0_9 := Lib.hid (HO_g0_8.out.fr HB_8.out (.inr (Nat.le_refl _)))
  clear hb
  go_wp2_with fail
  refine (eqIntS_same _ _ A_g0 A_w0 r0.length c_g0 c_w0 r0 _ (HO_g0_9.out.rd.more (Nat.le_trans (Nat.le_trans (Nat.le_trans HZ_5.out HZ_6.out) HZ_7.out) HZ_8.out)) (HO_w0_9.out.rd.more (Nat.le_trans (Nat.le_trans (Nat.le_trans (Nat.le_trans (Nat.le_trans HZ_3.out HZ_4.out) HZ_5.out) HZ_6.out) HZ_7.out) HZ_8.out)) (by omega)).mono ?_
  rintro e W_10 ⟨rfl, hb⟩
  have HB_9 := Lib.hid hb
  have HZ_9 := Lib.hid (HB_9.out.below 0).size
  have HA_10 := Lib.hid (HA_9.out.trans (HB_9.out.below _))
  have HO_aList_10 := Lib.hid (HO_aList_9.out.same HB_9.out)
  have HO_w0_10 := Lib.hid (HO_w0_9.out.same HB_9.out)
  have HO_g0_10 := Lib.hid (HO_g0_9.out.same HB_9.out)
  clear hb
  go_wp2_with fail
  refine (markIntS_any _ _ A_g0 r0.length c_g0 r0 1 _ HO_g0_10.out (by omega) (by omega) (by omega)).mono ?_
  rintro e W_11 ⟨rfl, hown, hb⟩
  have HO_g0_11 := Lib.hid hown
  clear hown
  have HB_10 := Lib.hid hb
  have HZ_10 := Lib.hid HB_10.out.size
  have HA_11 := Lib.hid (HA_10.out.trans (HB_10.out.below HA_4.out.size HA_10.out.size))
  have HO_aList_11 := Lib.hid (HO_aList_10.out.fr HB_10.out HA_4.out.size HA_10.out.size)
  have HO_w0_11 := Lib.hid (HO_w0_10.out.fr HB_10.out (.inl HZ_3.out))
  clear hb
  go_wp2_with fail
  refine (heldIntS_marks _ A_g0 r0.length c_g0 1 _ HO_g0_11.out.rd (by omega) (by omega) (by omega)).mono ?_
  rintro e W_12 ⟨rfl, rfl⟩
  go_wp2_with fail
  refine (toEntryS_any a0 l0 c0 y0 _ (HO_aList_11.out.more HA_11.out.size) (by omega)).mono ?_
  rintro e W_12 ⟨A__t2, c__t2, rfl, hown, hb⟩
  have HO__t2_12 := Lib.hid hown
  have HB_11 := Lib.hid hb
  have HZ_11 := Lib.hid HB_11.out.size
  have HA_12 := Lib.hid (HA_11.out.trans (HB_11.out.mono HA_11.out.size))
  have HO_w0_12 := Lib.hid (HO_w0_11.out.below HB_11.out (Nat.le_trans (Nat.le_trans (Nat.le_trans (Nat.le_trans (Nat.le_trans (Nat.le_trans (Nat.le_trans HZ_3.out HZ_4.out) HZ_5.out) HZ_6.out) HZ_7.out) HZ_8.out) HZ_9.out) HZ_10.out))
  have HO_g0_12 := Lib.hid (HO_g0_11.out.below HB_11.out (Nat.le_trans (Nat.le_trans (Nat.le_trans (Nat.le_trans (Nat.le_trans HZ_5.out HZ_6.out) HZ_7.out) HZ_8.out) HZ_9.out) HZ_10.out))
  clear hb hown
  go_wp2_with fail
  refine (HI.out A__t2 l0 c__t2 _ (HO__t2_12.out.cap.1) (HO__t2_12.out.rd.more (Nat.le_refl _))).mono ?_
  rintro e W_13 ⟨A_h0, c_h0, rfl, ho0, hb⟩
  have HO_h0_13 := Lib.hid ho0
  have HB_12 := Lib.hid hb
  have HZ_12 := Lib.hid HB_12.out.size
  have HA_13 := Lib.hid (HA_12.out.trans (HB_12.out.mono HA_12.out.size))
  have HO_w0_13 := Lib.hid (HO_w0_12.out.below HB_12.out (Nat.le_trans (Nat.le_trans (Nat.le_trans (Nat.le_trans (Nat.le_trans (Nat.le_trans (Nat.le_trans (Nat.le_trans HZ_3.out HZ_4.out) HZ_5.out) HZ_6.out) HZ_7.out) HZ_8.out) HZ_9.out) HZ_10.out) HZ_11.out))
  have HO_g0_13 := Lib.hid (HO_g0_12.out.below HB_12.out (Nat.le_trans (Nat.le_trans (Nat.le_trans (Nat.le_trans (Nat.le_trans (Nat.le_trans HZ_5.out HZ_6.out) HZ_7.out) HZ_8.out) HZ_9.out) HZ_10.out) HZ_11.out))
  clear hb ho0
  go_wp2_with fail
  refine (eqIntS_same _ _ A_h0 A_w0 r0.length c_h0 c_w0 r0 _ (HO_h0_13.out.rd.more (Nat.le_refl _)) (HO_w0_13.out.rd.more (Nat.le_trans (Nat.le_trans (Nat.le_trans (Nat.le_trans (Nat.le_trans (Nat.le_trans (Nat.le_trans (Nat.le_trans (Nat.le_trans HZ_3.out HZ_4.out) HZ_5.out) HZ_6.out) HZ_7.out) HZ_8.out) HZ_9.out) HZ_10.out) HZ_11.out) HZ_12.out)) (by omega)).mono ?_
  rintro e W_14 ⟨rfl, hb⟩
  have HB_13 := Lib.hid hb
  have HZ_13 := Lib.hid (HB_13.out.below 0).size
  have HA_14 := Lib.hid (HA_13.out.trans (HB_13.out.below _))
  have HO_g0_14 := Lib.hid (HO_g0_13.out.same HB_13.out)
  clear hb
  go_wp2_with fail
  refine (heldIntS_marks _ A_g0 r0.length c_g0 1 _ HO_g0_14.out.rd (by omega) (by omega) (by omega)).mono ?_
  rintro e W_15 ⟨rfl, rfl⟩
  go_wp2
  go_ret
  exact ⟨rfl, HA_14.out⟩
end Go.Proofs.Ytcpfdhammhcoaaa.W10
