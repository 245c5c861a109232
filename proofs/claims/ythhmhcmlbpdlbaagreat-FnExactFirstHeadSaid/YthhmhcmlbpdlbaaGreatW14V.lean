/- Chapter 14: the first head of a zone: the model's and the program's function give the same; the walk of the exact law. -/
import Derived.Test.YthhmhcmlbpdlbaaGreatC14F
import Derived.Test.YthhmhcmlbpdlbaaGreatC14J
import Derived.Test.YthhmhcmlbpdlbaaGreatQ08
import Derived.Test.YthhmhcmlbpdlbaaGreatT06
import Derived.Test.YthhmhcmlbpdlbaaGreatT08
import Derived.Test.YthhmhcmlbpdlbaaGreatT13
import Derived.Test.YthhmhcmlbpdlbaaGreatT01
import Derived.Test.YthhmhcmlbpdlbaaGreatLD
import Derived.Deep.RegionHeld3
import Derived.Test.YthhmhcmlbpdlbaaGreatRKA
namespace Go.Proofs.YthhmhcmlbpdlbaaGreat.W14V
open Go.RowKit Mem MemS Rep BX RW R06 R08 R13 R14 Q08 M06 M08 M13 M14 C13S C14S C14F C14J T01 T06 T08 T13S T13 RG RGS
open RKA hiding inI64
set_option linter.unusedVariables false
set_option linter.unusedSimpArgs false
set_option maxRecDepth 100000
set_option maxHeartbeats 4000000
theorem rgUp {α : Type} {R : Rep α} {w w' : World} {cs : List Value} {a : α} (h : R.rd w (Lt w.heap.size) cs a) (hb : Below w.heap.size w w') : R.rd w' (Lt w'.heap.size) cs a := R.more (R.keep h fun i hi => hb.block i hi) fun i hi => Nat.lt_of_lt_of_le hi hb.size
theorem both_FirstHead (y0 : Keys) (y1 : Int) (y2 : List Entry) (y3 : Int) (y4 : Int) (hy0 : totKeys y0 ≤ 1048576) (hy1 : -9223372036854775808 ≤ y1 ∧ y1 ≤ 9223372036854775807) (hy2 : totR totEntry y2 ≤ 1048576) (hy3 : -9223372036854775808 ≤ y3 ∧ y3 ≤ 9223372036854775807) (hy4 : -9223372036854775808 ≤ y4 ∧ y4 ≤ 9223372036854775807) : ∃ (r0 : Head) (r1 : Bool), totHead r0 ≤ 1099511627776 ∧ (∀ (u0 : List Value) (A2 : Option Addr) (n2 c2 : Nat) (w : World), RKeys.rd w (Lt w.heap.size) u0 y0 → n2 ≤ c2 → FRdEntry w w.heap.size A2 n2 y2 → Calls Tryz.prog 8 #[.agg u0.toArray, .int .i64 y1, .slice A2 n2 c2, .int .i64 y3, .int .i64 y4] w fun e w' => ∃ (g0 : List Value), e = .returned (.tuple #[.agg (List.toArray g0), .bool r1]) ∧ RHead.rd w' (Lt w'.heap.size) g0 r0 ∧ Below w.heap.size w w') ∧
    (∀ (u0 : List Value) (A2 : Option Addr) (n2 c2 : Nat) (w : World), RKeys.rd w (Lt w.heap.size) u0 y0 → n2 ≤ c2 → FRdEntry w w.heap.size A2 n2 y2 → Calls Tryz.prog 7 #[.agg u0.toArray, .int .i64 y1, .slice A2 n2 c2, .int .i64 y3, .int .i64 y4] w fun e w' => ∃ (g0 : List Value), e = .returned (.tuple #[.agg (List.toArray g0), .bool r1]) ∧ OwnI RHead w' w.heap.size w'.heap.size g0 r0 ∧ Below w.heap.size w w') := by
  have ht : totHead (firstH y0 y1 y2 y3 y4).1 ≤ 1099511627776 := by
    unfold firstH
    split
    · unfold fstH totHead totKeys
      unfold totKeys at hy0
      simp only [List.length_nil]
      omega
    · unfold zeroH totHead totKeys
      simp
  exact ⟨_, _, ht, fun u0 A2 n2 c2 w h hc h2 => (sFirstHead_any u0 y0 y1 A2 n2 c2 y2 y3 y4 w h (RKA.inI64 hy1.1 hy1.2) h2 (RKA.inI64 hy3.1 hy3.2) (RKA.inI64 hy4.1 hy4.2) hy2 hy0).mono fun e w' ⟨g, q1, q2, q3⟩ => ⟨g, q1, q2.rd, q3⟩, fun u0 A2 n2 c2 w h hc h2 => iFirstHead_any u0 y0 y1 A2 n2 c2 y2 y3 y4 w h (RKA.inI64 hy1.1 hy1.2) h2 (RKA.inI64 hy3.1 hy3.2) (RKA.inI64 hy4.1 hy4.2) hy2 hy0⟩
theorem FnExactFirstHead_walk (W0 : World) (u0_0 u0_1 : Value) (y0 : Keys) (w0 : RKeys.rd W0 (Lt W0.heap.size) [u0_0, u0_1] y0) (v1 : Int) (hv1 : (Lit.int .i64 v1).wf = true) (a2 : Option Addr) (l2 c2 : Nat) (y2 : List Entry) (w2 : Rds REntry W0 (Lt W0.heap.size) a2 l2 y2) (hC2 : l2 ≤ c2) (hM2 : c2 ≤ maxLen) (v3 : Int) (hv3 : (Lit.int .i64 v3).wf = true) (v4 : Int) (hv4 : (Lit.int .i64 v4).wf = true) :
    Calls Tryz.prog 4 #[.agg #[u0_0, u0_1], .int .i64 v1, .slice a2 l2 c2, .int .i64 v3, .int .i64 v4] W0 fun e w' => e = .returned (.bool true) ∧ Below W0.heap.size W0 w' := by
  have hV1 : -9223372036854775808 ≤ v1 ∧ v1 ≤ 9223372036854775807 := by simpa [Lit.wf, IntKind.min, IntKind.max, IntKind.signed, IntKind.bits] using hv1
  clear hv1
  have hR2 : FRdEntry W0 W0.heap.size a2 l2 y2 := w2
  have hL2 := hR2.len
  clear w2
  have hV3 : -9223372036854775808 ≤ v3 ∧ v3 ≤ 9223372036854775807 := by simpa [Lit.wf, IntKind.min, IntKind.max, IntKind.signed, IntKind.bits] using hv3
  clear hv3
  have hV4 : -9223372036854775808 ≤ v4 ∧ v4 ≤ 9223372036854775807 := by simpa [Lit.wf, IntKind.min, IntKind.max, IntKind.signed, IntKind.bits] using hv4
  clear hv4
  have HA_0 := Lib.hid (show Below W0.heap.size W0 (W0.alloc (.cells #[u0_0, u0_1] 46)) from (Below.refl _ _).alloc (by first | (simp; done) | (simp; omega)) _)
  have HO_aK_0 := Lib.hid (RKeys.keep w0 fun i hi => HA_0.out.block i hi)
  have HX_aK_0 := Lib.hid (show Box (W0.alloc (.cells #[u0_0, u0_1] 46)) (W0.heap.size) [u0_0, u0_1] from (show Box (W0.alloc (.cells #[u0_0, u0_1] 46)) (W0.heap.size) [u0_0, u0_1] by have h := Box.new W0 #[u0_0, u0_1] 46; simpa using h))
  have HO_aList_0 := Lib.hid (hR2.below HA_0.out (Nat.le_refl _))
  have HC2 := Lib.hid hC2
  have HM2 := Lib.hid hM2
  clear w0
  clear hR2
  go_enter Tryz.func4, Tryz.ntmps4
  have x_aK_0 := HX_aK_0.out.cell (j := 0) rfl
  have x_aK_1 := HX_aK_0.out.cell (j := 1) rfl
  by_cases hn_aK : 1048576 < (totKeys y0 : Int)
  · have HN := Lib.hid hn_aK
    clear hn_aK
    go_wp2_with fail
    refine (szKeys_any [u0_0, u0_1] y0 1048576 _ (RKeys.more HO_aK_0.out fun i hi => Nat.lt_of_lt_of_le hi HA_0.out.size) (by omega) (by omega)).mono ?_
    rw [if_pos HN.out]
    rintro e W_1 ⟨rfl, hb⟩
    have HAe := Lib.hid (HA_0.out.trans (hb.mono HA_0.out.size))
    clear hb
    go_wp2
    go_ret
    exact ⟨rfl, HAe.out⟩
  have hY0 : totKeys y0 ≤ 1048576 := by omega
  have HN_aK := Lib.hid hn_aK
  clear hn_aK
  go_wp2_with fail
  refine (szKeys_any [u0_0, u0_1] y0 1048576 _ (RKeys.more HO_aK_0.out fun i hi => Nat.lt_of_lt_of_le hi HA_0.out.size) (by omega) (by omega)).mono ?_
  rw [if_neg (show ¬ 1048576 < (totKeys y0 : Int) by have := HN_aK.out; omega)]
  rintro e W_1 ⟨rfl, hb⟩
  obtain ⟨qq0, hqq0⟩ : ∃ x, x = 1048576 - (totKeys y0 : Int) := ⟨_, rfl⟩
  rw [← hqq0]
  have hqq0l : 0 ≤ qq0 ∧ qq0 ≤ 1048576 := by have := HN_aK.out; omega
  have hqq0n : ¬ qq0 < 0 := by omega
  clear hqq0
  have HB_0 := Lib.hid hb
  have HZ_0 := Lib.hid HB_0.out.size
  have HA_1 := Lib.hid (HA_0.out.trans (HB_0.out.mono HA_0.out.size))
  have HO_aK_1 := Lib.hid (RKeys.keep HO_aK_0.out fun i hi => HB_0.out.block i (Nat.lt_of_lt_of_le hi HA_0.out.size))
  have HO_aList_1 := Lib.hid (HO_aList_0.out.below HB_0.out HA_0.out.size)
  have HX_aK_1 := Lib.hid (HX_aK_0.out.below HB_0.out HX_aK_0.out.lt)
  clear hb
  clear x_aK_0 x_aK_1
  by_cases hn_aList : qq0 < (totR totEntry y2 : Int)
  · have HN := Lib.hid hn_aList
    clear hn_aList
    go_wp2_with fail
    refine (szEntryS_any _ a2 l2 c2 y2 qq0 _ (HO_aList_1.out.more HA_1.out.size) (Nat.le_refl _) (by omega) (by omega) (Nat.le_trans HC2.out HM2.out)).mono ?_
    rw [if_pos HN.out]
    rintro e W_2 ⟨rfl, hb⟩
    have HAe := Lib.hid (HA_1.out.trans (hb.mono HA_1.out.size))
    clear hb
    go_wp2
    go_ret
    exact ⟨rfl, HAe.out⟩
  have hY2 : totR totEntry y2 ≤ 1048576 := by omega
  have hYl2 := totR_len totEntry y2
  have HN_aList := Lib.hid hn_aList
  clear hn_aList
  go_wp2_with fail
  refine (szEntryS_any _ a2 l2 c2 y2 qq0 _ (HO_aList_1.out.more HA_1.out.size) (Nat.le_refl _) (by omega) (by omega) (Nat.le_trans HC2.out HM2.out)).mono ?_
  rw [if_neg (show ¬ qq0 < (totR totEntry y2 : Int) by have := HN_aList.out; omega)]
  rintro e W_2 ⟨rfl, hb⟩
  obtain ⟨qq1, hqq1⟩ : ∃ x, x = qq0 - (totR totEntry y2 : Int) := ⟨_, rfl⟩
  rw [← hqq1]
  have hqq1l : 0 ≤ qq1 ∧ qq1 ≤ 1048576 := by have := HN_aList.out; omega
  have hqq1n : ¬ qq1 < 0 := by omega
  clear hqq1
  have HB_1 := Lib.hid hb
  have HZ_1 := Lib.hid HB_1.out.size
  have HA_2 := Lib.hid (HA_1.out.trans (HB_1.out.mono HA_1.out.size))
  have HO_aK_2 := Lib.hid (RKeys.keep HO_aK_1.out fun i hi => HB_1.out.block i (Nat.lt_of_lt_of_le hi HA_1.out.size))
  have HO_aList_2 := Lib.hid (HO_aList_1.out.below HB_1.out HA_1.out.size)
  have HX_aK_2 := Lib.hid (HX_aK_1.out.below HB_1.out HX_aK_1.out.lt)
  clear hb
  have x_aK_0 := HX_aK_2.out.cell (j := 0) rfl
  have x_aK_1 := HX_aK_2.out.cell (j := 1) rfl
  obtain ⟨r0, r1, hlen0, hS, hI⟩ := both_FirstHead y0 v1 y2 v3 v4 hY0 hV1 hY2 hV3 hV4
  have HS := Lib.hid hS
  have HI := Lib.hid hI
  clear hS hI
  have hcnt0 := cntHead_le r0
  have hcy0 := cntKeys_le y0
  have hcy2 := cntR_le totEntry fullEntry fullEntry_le y2
  go_wp2_with fail
  refine (toKeys_any [u0_0, u0_1] y0 _ (RKeys.more HO_aK_2.out fun i hi => Nat.lt_of_lt_of_le hi HA_2.out.size) (by omega)).mono ?_
  rintro e W_3 ⟨cs__t0, rfl, hown, hb⟩
  obtain ⟨A__t0_0, n__t0_0, c__t0_0, rfl⟩ := RKeys_shape hown.rd
  have HO__t0_3 := Lib.hid (hown)
  have HB_2 := Lib.hid hb
  have HZ_2 := Lib.hid HB_2.out.size
  have HA_3 := Lib.hid (HA_2.out.trans (HB_2.out.mono HA_2.out.size))
  have HO_aK_3 := Lib.hid (RKeys.keep HO_aK_2.out fun i hi => HB_2.out.block i (Nat.lt_of_lt_of_le hi HA_2.out.size))
  have HO_aList_3 := Lib.hid (HO_aList_2.out.below HB_2.out HA_2.out.size)
  have HX_aK_3 := Lib.hid (HX_aK_2.out.below HB_2.out HX_aK_2.out.lt)
  clear hb hown
  go_wp2_with fail
  refine (toEntryS_any a2 l2 c2 y2 _ (HO_aList_3.out.more HA_3.out.size) (by omega)).mono ?_
  rintro e W_4 ⟨A__t1, c__t1, rfl, hown, hb⟩
  have HO__t1_4 := Lib.hid hown
  have HB_3 := Lib.hid hb
  have HZ_3 := Lib.hid HB_3.out.size
  have HA_4 := Lib.hid (HA_3.out.trans (HB_3.out.mono HA_3.out.size))
  have HO_aK_4 := Lib.hid (RKeys.keep HO_aK_3.out fun i hi => HB_3.out.block i (Nat.lt_of_lt_of_le hi HA_3.out.size))
  have HO_aList_4 := Lib.hid (HO_aList_3.out.below HB_3.out HA_3.out.size)
  have HO__t0_4 := Lib.hid (HO__t0_3.out.below HB_3.out (Nat.le_refl _))
  have HX_aK_4 := Lib.hid (HX_aK_3.out.below HB_3.out HX_aK_3.out.lt)
  clear hb hown
  go_wp2_with fail
  refine (HS.out [(.slice A__t0_0 n__t0_0 c__t0_0), (.int .i64 y0.need)] A__t1 l2 c__t1 _ (RKeys.more HO__t0_4.out.rd fun i hi => Nat.lt_of_lt_of_le hi HZ_3.out) (HO__t1_4.out.cap.1) (HO__t1_4.out.rd.more (Nat.le_refl _))).mono ?_
  rintro e W_5 ⟨cs_w0, rfl, ho0, hb⟩
  obtain ⟨A_w0_8, n_w0_8, c_w0_8, A_w0_10, n_w0_10, c_w0_10, A_w0_13, n_w0_13, c_w0_13, rfl⟩ := RHead_shape ho0
  have HO_w0_5 := Lib.hid (RHead.more (RHead.keep ho0 fun i hi => Below.heap_alloc W_5 (.cells #[(.int .i64 r0.zone), (.int .i64 r0.epoch), (.int .i64 r0.kind), (.int .i64 r0.time), (.int .i64 r0.until_), (.int .i64 r0.count), (.int .i64 r0.root), (.int .i64 r0.prev), (.slice A_w0_8 n_w0_8 c_w0_8), (.int .i64 r0.keys.need), (.slice A_w0_10 n_w0_10 c_w0_10), (.int .i64 r0.heirs.need), (.int .i64 r0.wait), (.slice A_w0_13 n_w0_13 c_w0_13), (.int .i64 r0.judge.need), (.bool r0.frozen)] 31) i hi) (P' := Lt (W_5.alloc (.cells #[(.int .i64 r0.zone), (.int .i64 r0.epoch), (.int .i64 r0.kind), (.int .i64 r0.time), (.int .i64 r0.until_), (.int .i64 r0.count), (.int .i64 r0.root), (.int .i64 r0.prev), (.slice A_w0_8 n_w0_8 c_w0_8), (.int .i64 r0.keys.need), (.slice A_w0_10 n_w0_10 c_w0_10), (.int .i64 r0.heirs.need), (.int .i64 r0.wait), (.slice A_w0_13 n_w0_13 c_w0_13), (.int .i64 r0.judge.need), (.bool r0.frozen)] 31)).heap.size) fun i hi => Nat.lt_of_lt_of_le hi (by simp))
  have hb4 := hb.alloc hb.size (.cells #[(.int .i64 r0.zone), (.int .i64 r0.epoch), (.int .i64 r0.kind), (.int .i64 r0.time), (.int .i64 r0.until_), (.int .i64 r0.count), (.int .i64 r0.root), (.int .i64 r0.prev), (.slice A_w0_8 n_w0_8 c_w0_8), (.int .i64 r0.keys.need), (.slice A_w0_10 n_w0_10 c_w0_10), (.int .i64 r0.heirs.need), (.int .i64 r0.wait), (.slice A_w0_13 n_w0_13 c_w0_13), (.int .i64 r0.judge.need), (.bool r0.frozen)] 31)
  have HB_4 := Lib.hid hb4
  have HQ_5 := Lib.hid hb.size
  have HZ_4 := Lib.hid HB_4.out.size
  have HA_5 := Lib.hid (HA_4.out.trans (HB_4.out.mono HA_4.out.size))
  have HO_aK_5 := Lib.hid (RKeys.keep HO_aK_4.out fun i hi => HB_4.out.block i (Nat.lt_of_lt_of_le hi HA_4.out.size))
  have HO_aList_5 := Lib.hid (HO_aList_4.out.below HB_4.out HA_4.out.size)
  have HX_aK_5 := Lib.hid (HX_aK_4.out.below HB_4.out HX_aK_4.out.lt)
  clear hb ho0
  have HX_w0_5 := Lib.hid (show Box (W_5.alloc (.cells #[(.int .i64 r0.zone), (.int .i64 r0.epoch), (.int .i64 r0.kind), (.int .i64 r0.time), (.int .i64 r0.until_), (.int .i64 r0.count), (.int .i64 r0.root), (.int .i64 r0.prev), (.slice A_w0_8 n_w0_8 c_w0_8), (.int .i64 r0.keys.need), (.slice A_w0_10 n_w0_10 c_w0_10), (.int .i64 r0.heirs.need), (.int .i64 r0.wait), (.slice A_w0_13 n_w0_13 c_w0_13), (.int .i64 r0.judge.need), (.bool r0.frozen)] 31)) W_5.heap.size [(.int .i64 r0.zone), (.int .i64 r0.epoch), (.int .i64 r0.kind), (.int .i64 r0.time), (.int .i64 r0.until_), (.int .i64 r0.count), (.int .i64 r0.root), (.int .i64 r0.prev), (.slice A_w0_8 n_w0_8 c_w0_8), (.int .i64 r0.keys.need), (.slice A_w0_10 n_w0_10 c_w0_10), (.int .i64 r0.heirs.need), (.int .i64 r0.wait), (.slice A_w0_13 n_w0_13 c_w0_13), (.int .i64 r0.judge.need), (.bool r0.frozen)] from Box.new W_5 #[(.int .i64 r0.zone), (.int .i64 r0.epoch), (.int .i64 r0.kind), (.int .i64 r0.time), (.int .i64 r0.until_), (.int .i64 r0.count), (.int .i64 r0.root), (.int .i64 r0.prev), (.slice A_w0_8 n_w0_8 c_w0_8), (.int .i64 r0.keys.need), (.slice A_w0_10 n_w0_10 c_w0_10), (.int .i64 r0.heirs.need), (.int .i64 r0.wait), (.slice A_w0_13 n_w0_13 c_w0_13), (.int .i64 r0.judge.need), (.bool r0.frozen)] 31)
  clear x_aK_0 x_aK_1
  have x_aK_0 := HX_aK_5.out.cell (j := 0) rfl
  have x_aK_1 := HX_aK_5.out.cell (j := 1) rfl
  go_wp2_with (refine LD.wp_new LD.big_Head rfl _ _ rfl rfl rfl rfl rfl rfl ?_)
  refine (toKeys_any [u0_0, u0_1] y0 _ (RKeys.more HO_aK_5.out fun i hi => Nat.lt_of_lt_of_le hi HA_5.out.size) (by omega)).mono ?_
  rintro e W_6 ⟨cs_x0, rfl, hown, hb⟩
  obtain ⟨A_x0_0, n_x0_0, c_x0_0, rfl⟩ := RKeys_shape hown.rd
  have HO_x0_6 := Lib.hid (hown.alloc (.cells #[(.slice A_x0_0 n_x0_0 c_x0_0), (.int .i64 y0.need)] 26))
  have HT_6 := Lib.hid (show W_6.heap.size ≤ (W_6.alloc (.cells #[(.slice A_x0_0 n_x0_0 c_x0_0), (.int .i64 y0.need)] 26)).heap.size by simp)
  have hb5 := hb.alloc hb.size (.cells #[(.slice A_x0_0 n_x0_0 c_x0_0), (.int .i64 y0.need)] 26)
  have HB_5 := Lib.hid hb5
  have HQ_6 := Lib.hid hb.size
  have HZ_5 := Lib.hid HB_5.out.size
  have HA_6 := Lib.hid (HA_5.out.trans (HB_5.out.mono HA_5.out.size))
  have HO_aK_6 := Lib.hid (RKeys.keep HO_aK_5.out fun i hi => HB_5.out.block i (Nat.lt_of_lt_of_le hi HA_5.out.size))
  have HO_aList_6 := Lib.hid (HO_aList_5.out.below HB_5.out HA_5.out.size)
  have HO_w0_6 := Lib.hid (RHead.keep HO_w0_5.out fun i hi => HB_5.out.block i (Nat.lt_of_lt_of_le hi (Nat.le_refl _)))
  have HX_aK_6 := Lib.hid (HX_aK_5.out.below HB_5.out HX_aK_5.out.lt)
  have HX_w0_6 := Lib.hid (HX_w0_5.out.below HB_5.out HX_w0_5.out.lt)
  clear hb hown
  have HX_x0_6 := Lib.hid (show Box (W_6.alloc (.cells #[(.slice A_x0_0 n_x0_0 c_x0_0), (.int .i64 y0.need)] 26)) W_6.heap.size [(.slice A_x0_0 n_x0_0 c_x0_0), (.int .i64 y0.need)] from Box.new W_6 #[(.slice A_x0_0 n_x0_0 c_x0_0), (.int .i64 y0.need)] 26)
  clear x_aK_0 x_aK_1
  go_wp2_with fail
  refine (toEntryS_any a2 l2 c2 y2 _ (HO_aList_6.out.more HA_6.out.size) (by omega)).mono ?_
  rintro e W_7 ⟨A_x2, c_x2, rfl, hown, hb⟩
  have HO_x2_7 := Lib.hid hown
  have HB_6 := Lib.hid hb
  have HZ_6 := Lib.hid HB_6.out.size
  have HA_7 := Lib.hid (HA_6.out.trans (HB_6.out.mono HA_6.out.size))
  have HO_aK_7 := Lib.hid (RKeys.keep HO_aK_6.out fun i hi => HB_6.out.block i (Nat.lt_of_lt_of_le hi HA_6.out.size))
  have HO_aList_7 := Lib.hid (HO_aList_6.out.below HB_6.out HA_6.out.size)
  have HO_w0_7 := Lib.hid (RHead.keep HO_w0_6.out fun i hi => HB_6.out.block i (Nat.lt_of_lt_of_le hi HZ_5.out))
  have HO_x0_7 := Lib.hid (HO_x0_6.out.below HB_6.out (Nat.le_trans HT_6.out (Nat.le_refl _)))
  have HX_aK_7 := Lib.hid (HX_aK_6.out.below HB_6.out HX_aK_6.out.lt)
  have HX_w0_7 := Lib.hid (HX_w0_6.out.below HB_6.out HX_w0_6.out.lt)
  have HX_x0_7 := Lib.hid (HX_x0_6.out.below HB_6.out HX_x0_6.out.lt)
  clear hb hown
  have x_x0_0 := HX_x0_7.out.cell (j := 0) rfl
  have x_x0_1 := HX_x0_7.out.cell (j := 1) rfl
  go_wp2_with fail
  refine (HI.out [(.slice A_x0_0 n_x0_0 c_x0_0), (.int .i64 y0.need)] A_x2 l2 c_x2 _ (RKeys.more HO_x0_7.out.rd fun i hi => Nat.lt_of_lt_of_le hi (Nat.le_trans HT_6.out HZ_6.out)) (HO_x2_7.out.cap.1) (HO_x2_7.out.rd.more (Nat.le_refl _))).mono ?_
  rintro e W_8 ⟨cs_g0, rfl, ho0, hb⟩
  obtain ⟨A_g0_8, n_g0_8, c_g0_8, A_g0_10, n_g0_10, c_g0_10, A_g0_13, n_g0_13, c_g0_13, rfl⟩ := RHead_shape ho0.rd
  have HO_g0_8 := Lib.hid (ho0.alloc (.cells #[(.int .i64 r0.zone), (.int .i64 r0.epoch), (.int .i64 r0.kind), (.int .i64 r0.time), (.int .i64 r0.until_), (.int .i64 r0.count), (.int .i64 r0.root), (.int .i64 r0.prev), (.slice A_g0_8 n_g0_8 c_g0_8), (.int .i64 r0.keys.need), (.slice A_g0_10 n_g0_10 c_g0_10), (.int .i64 r0.heirs.need), (.int .i64 r0.wait), (.slice A_g0_13 n_g0_13 c_g0_13), (.int .i64 r0.judge.need), (.bool r0.frozen)] 31))
  have HT_8 := Lib.hid (show W_8.heap.size ≤ (W_8.alloc (.cells #[(.int .i64 r0.zone), (.int .i64 r0.epoch), (.int .i64 r0.kind), (.int .i64 r0.time), (.int .i64 r0.until_), (.int .i64 r0.count), (.int .i64 r0.root), (.int .i64 r0.prev), (.slice A_g0_8 n_g0_8 c_g0_8), (.int .i64 r0.keys.need), (.slice A_g0_10 n_g0_10 c_g0_10), (.int .i64 r0.heirs.need), (.int .i64 r0.wait), (.slice A_g0_13 n_g0_13 c_g0_13), (.int .i64 r0.judge.need), (.bool r0.frozen)] 31)).heap.size by simp)
  have hb7 := hb.alloc hb.size (.cells #[(.int .i64 r0.zone), (.int .i64 r0.epoch), (.int .i64 r0.kind), (.int .i64 r0.time), (.int .i64 r0.until_), (.int .i64 r0.count), (.int .i64 r0.root), (.int .i64 r0.prev), (.slice A_g0_8 n_g0_8 c_g0_8), (.int .i64 r0.keys.need), (.slice A_g0_10 n_g0_10 c_g0_10), (.int .i64 r0.heirs.need), (.int .i64 r0.wait), (.slice A_g0_13 n_g0_13 c_g0_13), (.int .i64 r0.judge.need), (.bool r0.frozen)] 31)
  have HB_7 := Lib.hid hb7
  have HQ_8 := Lib.hid hb.size
  have HZ_7 := Lib.hid HB_7.out.size
  have HA_8 := Lib.hid (HA_7.out.trans (HB_7.out.mono HA_7.out.size))
  have HO_aK_8 := Lib.hid (RKeys.keep HO_aK_7.out fun i hi => HB_7.out.block i (Nat.lt_of_lt_of_le hi HA_7.out.size))
  have HO_aList_8 := Lib.hid (HO_aList_7.out.below HB_7.out HA_7.out.size)
  have HO_w0_8 := Lib.hid (RHead.keep HO_w0_7.out fun i hi => HB_7.out.block i (Nat.lt_of_lt_of_le hi (Nat.le_trans HZ_5.out HZ_6.out)))
  have HO_x0_8 := Lib.hid (HO_x0_7.out.below HB_7.out (Nat.le_trans HT_6.out HZ_6.out))
  have HO_x2_8 := Lib.hid (HO_x2_7.out.below HB_7.out (Nat.le_refl _))
  have HX_aK_8 := Lib.hid (HX_aK_7.out.below HB_7.out HX_aK_7.out.lt)
  have HX_w0_8 := Lib.hid (HX_w0_7.out.below HB_7.out HX_w0_7.out.lt)
  have HX_x0_8 := Lib.hid (HX_x0_7.out.below HB_7.out HX_x0_7.out.lt)
  clear hb ho0
  have HX_g0_8 := Lib.hid (show Box (W_8.alloc (.cells #[(.int .i64 r0.zone), (.int .i64 r0.epoch), (.int .i64 r0.kind), (.int .i64 r0.time), (.int .i64 r0.until_), (.int .i64 r0.count), (.int .i64 r0.root), (.int .i64 r0.prev), (.slice A_g0_8 n_g0_8 c_g0_8), (.int .i64 r0.keys.need), (.slice A_g0_10 n_g0_10 c_g0_10), (.int .i64 r0.heirs.need), (.int .i64 r0.wait), (.slice A_g0_13 n_g0_13 c_g0_13), (.int .i64 r0.judge.need), (.bool r0.frozen)] 31)) W_8.heap.size [(.int .i64 r0.zone), (.int .i64 r0.epoch), (.int .i64 r0.kind), (.int .i64 r0.time), (.int .i64 r0.until_), (.int .i64 r0.count), (.int .i64 r0.root), (.int .i64 r0.prev), (.slice A_g0_8 n_g0_8 c_g0_8), (.int .i64 r0.keys.need), (.slice A_g0_10 n_g0_10 c_g0_10), (.int .i64 r0.heirs.need), (.int .i64 r0.wait), (.slice A_g0_13 n_g0_13 c_g0_13), (.int .i64 r0.judge.need), (.bool r0.frozen)] from Box.new W_8 #[(.int .i64 r0.zone), (.int .i64 r0.epoch), (.int .i64 r0.kind), (.int .i64 r0.time), (.int .i64 r0.until_), (.int .i64 r0.count), (.int .i64 r0.root), (.int .i64 r0.prev), (.slice A_g0_8 n_g0_8 c_g0_8), (.int .i64 r0.keys.need), (.slice A_g0_10 n_g0_10 c_g0_10), (.int .i64 r0.heirs.need), (.int .i64 r0.wait), (.slice A_g0_13 n_g0_13 c_g0_13), (.int .i64 r0.judge.need), (.bool r0.frozen)] 31)
  clear x_x0_0 x_x0_1
  go_wp2_with (first | (refine LD.wp_ld LD.big_Head rfl _ rfl rfl HX_g0_8.out rfl ?_) | (refine LD.wp_ld LD.big_Head rfl _ rfl rfl HX_w0_8.out rfl ?_) | (refine LD.wp_new LD.big_Head rfl _ _ rfl rfl rfl rfl rfl rfl ?_))
  refine (eqHead_same _ _ [(.int .i64 r0.zone), (.int .i64 r0.epoch), (.int .i64 r0.kind), (.int .i64 r0.time), (.int .i64 r0.until_), (.int .i64 r0.count), (.int .i64 r0.root), (.int .i64 r0.prev), (.slice A_g0_8 n_g0_8 c_g0_8), (.int .i64 r0.keys.need), (.slice A_g0_10 n_g0_10 c_g0_10), (.int .i64 r0.heirs.need), (.int .i64 r0.wait), (.slice A_g0_13 n_g0_13 c_g0_13), (.int .i64 r0.judge.need), (.bool r0.frozen)] [(.int .i64 r0.zone), (.int .i64 r0.epoch), (.int .i64 r0.kind), (.int .i64 r0.time), (.int .i64 r0.until_), (.int .i64 r0.count), (.int .i64 r0.root), (.int .i64 r0.prev), (.slice A_w0_8 n_w0_8 c_w0_8), (.int .i64 r0.keys.need), (.slice A_w0_10 n_w0_10 c_w0_10), (.int .i64 r0.heirs.need), (.int .i64 r0.wait), (.slice A_w0_13 n_w0_13 c_w0_13), (.int .i64 r0.judge.need), (.bool r0.frozen)] r0 _ (RHead.more HO_g0_8.out.rd fun i hi => Nat.lt_of_lt_of_le hi (Nat.le_trans HT_8.out (Nat.le_refl _))) (RHead.more HO_w0_8.out fun i hi => Nat.lt_of_lt_of_le hi (Nat.le_trans (Nat.le_trans HZ_5.out HZ_6.out) HZ_7.out)) (Nat.le_refl _) (Nat.le_refl _) (by omega)).mono ?_
  rintro e W_9 ⟨rfl, hb⟩
  have HB_8 := Lib.hid hb
  have HZ_8 := Lib.hid HB_8.out.size
  have HA_9 := Lib.hid (HA_8.out.trans (HB_8.out.mono HA_8.out.size))
  have HO_aK_9 := Lib.hid (RKeys.keep HO_aK_8.out fun i hi => HB_8.out.block i (Nat.lt_of_lt_of_le hi HA_8.out.size))
  have HO_aList_9 := Lib.hid (HO_aList_8.out.below HB_8.out HA_8.out.size)
  have HO_w0_9 := Lib.hid (RHead.keep HO_w0_8.out fun i hi => HB_8.out.block i (Nat.lt_of_lt_of_le hi (Nat.le_trans (Nat.le_trans HZ_5.out HZ_6.out) HZ_7.out)))
  have HO_x0_9 := Lib.hid (HO_x0_8.out.below HB_8.out (Nat.le_trans HT_6.out (Nat.le_trans HZ_6.out HZ_7.out)))
  have HO_x2_9 := Lib.hid (HO_x2_8.out.below HB_8.out HZ_7.out)
  have HO_g0_9 := Lib.hid (HO_g0_8.out.below HB_8.out (Nat.le_trans HT_8.out (Nat.le_refl _)))
  have HX_aK_9 := Lib.hid (HX_aK_8.out.below HB_8.out HX_aK_8.out.lt)
  have HX_w0_9 := Lib.hid (HX_w0_8.out.below HB_8.out HX_w0_8.out.lt)
  have HX_x0_9 := Lib.hid (HX_x0_8.out.below HB_8.out HX_x0_8.out.lt)
  have HX_g0_9 := Lib.hid (HX_g0_8.out.below HB_8.out HX_g0_8.out.lt)
  clear hb
  go_wp2_with fail
  refine RG.region (tabP [sv (.agg #[(.slice A_x0_0 n_x0_0 c_x0_0), (.int .i64 y0.need)]), sv (.agg #[u0_0, u0_1]), srep RKeys (y0), sv (.bool (true)), sv (.bool (!(true)))]) (by kernel_rfl) (by kernel_rfl) (tab_keep _) ?_ ?_
  · refine steps_cons ?_ (steps_cons ?_ (steps_cons ?_ (steps_cons ?_ (steps_cons ?_ (steps_nil)))))
    · intro aa ww hA K hK
      refine free rfl ?_
      have e14 : aa.tmps.getD 14 undef = .pointer (some ⟨W_6.heap.size, 0, none⟩) := hA.old 14 (by kernel_rfl)
      have cqHX_x0_90 := (hA.bel.cell (p := ⟨W_6.heap.size, 0, none⟩) HX_x0_9.out.lt).trans (HX_x0_9.out.cell (j := 0) rfl)
      have cqHX_x0_91 := (hA.bel.cell (p := ⟨W_6.heap.size, 1, none⟩) HX_x0_9.out.lt).trans (HX_x0_9.out.cell (j := 1) rfl)
      exact gives hK (v := .agg #[(.slice A_x0_0 n_x0_0 c_x0_0), (.int .i64 y0.need)]) (by simp [execOp, Act.eval, e14, cqHX_x0_90, cqHX_x0_91, go_sem]) rfl
    · intro aa ww hA K hK
      refine free rfl ?_
      have e5 : aa.tmps.getD 5 undef = .pointer (some ⟨W0.heap.size, 0, none⟩) := hA.old 5 (by kernel_rfl)
      have cqHX_aK_90 := (hA.bel.cell (p := ⟨W0.heap.size, 0, none⟩) HX_aK_9.out.lt).trans (HX_aK_9.out.cell (j := 0) rfl)
      have cqHX_aK_91 := (hA.bel.cell (p := ⟨W0.heap.size, 1, none⟩) HX_aK_9.out.lt).trans (HX_aK_9.out.cell (j := 1) rfl)
      exact gives hK (v := .agg #[u0_0, u0_1]) (by simp [execOp, Act.eval, e5, cqHX_aK_90, cqHX_aK_91, go_sem]) rfl
    · intro aa ww hA K hK
      refine free rfl ?_
      have e67 : aa.tmps.getD 67 undef = .agg #[u0_0, u0_1] := hA.got 1 67 (by kernel_rfl)
      refine calls hK (by simp [Act.eval, e67, go_sem]) (toKeys_any [u0_0, u0_1] y0 ww (rgUp (RKeys.more HO_aK_9.out fun i hi => Nat.lt_of_lt_of_le hi HA_9.out.size) (RKA.below_drew hA.bel)) (by omega)) ?_
      rintro e w1 ⟨cs9, rfl, hown, hb⟩
      exact ⟨_, rfl, hb, ⟨cs9, rfl, hown.rd⟩⟩
    · intro aa ww hA K hK
      refine free rfl ?_
      have e66 : aa.tmps.getD 66 undef = .agg #[(.slice A_x0_0 n_x0_0 c_x0_0), (.int .i64 y0.need)] := hA.got 0 66 (by kernel_rfl)
      obtain ⟨q68, e68, h68⟩ := hA.got 2 68 (by kernel_rfl)
      refine calls hK (by simp [Act.eval, e66, e68, go_sem]) (eqKeys_same _ _ [(.slice A_x0_0 n_x0_0 c_x0_0), (.int .i64 y0.need)] q68 y0 ww (rgUp (RKeys.more HO_x0_9.out.rd fun i hi => Nat.lt_of_lt_of_le hi (Nat.le_trans HT_6.out (Nat.le_trans (Nat.le_trans HZ_6.out HZ_7.out) HZ_8.out))) (RKA.below_drew hA.bel)) h68 (Nat.le_refl _) (Nat.le_refl _) (by omega)) ?_
      rintro e w1 ⟨rfl, hb⟩
      exact ⟨_, rfl, hb, rfl⟩
    · intro aa ww hA K hK
      refine free rfl ?_
      have e69 : aa.tmps.getD 69 undef = .bool (true) := hA.got 3 69 (by kernel_rfl)
      exact gives hK (v := .bool (!(true))) (by simp [execOp, Act.eval, e69, Op.unary, go_sem]) rfl
  · intro a1 W_10 hb hd hsz hold hgot
    have g70 : a1.tmps.getD 70 undef = .bool false := (hgot 4 70 (by kernel_rfl)).trans (rfl)
    have ea := act_put hd hsz hold [66, 67, 68, 69, 70] rfl
    simp only [List.foldl_cons, List.foldl_nil, g70] at ea
    rename_i K9 hK9
    refine hK9 a1 W_10 ?_
    generalize a1.tmps.getD 66 undef = v66 at ea
    generalize a1.tmps.getD 67 undef = v67 at ea
    generalize a1.tmps.getD 68 undef = v68 at ea
    generalize a1.tmps.getD 69 undef = v69 at ea
    clear hgot hold hsz hd g70
    simp only [Act.put, List.setIfInBounds_toArray, List.set_cons_succ, List.set_cons_zero] at ea
    subst ea
    have hb := RKA.below_drew hb
    have HB_9 := Lib.hid hb
    have HZ_9 := Lib.hid HB_9.out.size
    have HA_10 := Lib.hid (HA_9.out.trans (HB_9.out.mono HA_9.out.size))
    have HO_aK_10 := Lib.hid (RKeys.keep HO_aK_9.out fun i hi => HB_9.out.block i (Nat.lt_of_lt_of_le hi HA_9.out.size))
    have HO_aList_10 := Lib.hid (HO_aList_9.out.below HB_9.out HA_9.out.size)
    have HO_w0_10 := Lib.hid (RHead.keep HO_w0_9.out fun i hi => HB_9.out.block i (Nat.lt_of_lt_of_le hi (Nat.le_trans (Nat.le_trans (Nat.le_trans HZ_5.out HZ_6.out) HZ_7.out) HZ_8.out)))
    have HO_x0_10 := Lib.hid (HO_x0_9.out.below HB_9.out (Nat.le_trans HT_6.out (Nat.le_trans (Nat.le_trans HZ_6.out HZ_7.out) HZ_8.out)))
    have HO_x2_10 := Lib.hid (HO_x2_9.out.below HB_9.out (Nat.le_trans HZ_7.out HZ_8.out))
    have HO_g0_10 := Lib.hid (HO_g0_9.out.below HB_9.out (Nat.le_trans HT_8.out HZ_8.out))
    have HX_aK_10 := Lib.hid (HX_aK_9.out.below HB_9.out HX_aK_9.out.lt)
    have HX_w0_10 := Lib.hid (HX_w0_9.out.below HB_9.out HX_w0_9.out.lt)
    have HX_x0_10 := Lib.hid (HX_x0_9.out.below HB_9.out HX_x0_9.out.lt)
    have HX_g0_10 := Lib.hid (HX_g0_9.out.below HB_9.out HX_g0_9.out.lt)
    clear hb
    go_wp2_with fail
    refine (toEntryS_any a2 l2 c2 y2 _ (HO_aList_10.out.more HA_10.out.size) (by omega)).mono ?_
    rintro e W_11 ⟨A__t3, c__t3, rfl, hown, hb⟩
    have HO__t3_11 := Lib.hid hown
    have HB_10 := Lib.hid hb
    have HZ_10 := Lib.hid HB_10.out.size
    have HA_11 := Lib.hid (HA_10.out.trans (HB_10.out.mono HA_10.out.size))
    have HO_aK_11 := Lib.hid (RKeys.keep HO_aK_10.out fun i hi => HB_10.out.block i (Nat.lt_of_lt_of_le hi HA_10.out.size))
    have HO_aList_11 := Lib.hid (HO_aList_10.out.below HB_10.out HA_10.out.size)
    have HO_w0_11 := Lib.hid (RHead.keep HO_w0_10.out fun i hi => HB_10.out.block i (Nat.lt_of_lt_of_le hi (Nat.le_trans (Nat.le_trans (Nat.le_trans (Nat.le_trans HZ_5.out HZ_6.out) HZ_7.out) HZ_8.out) HZ_9.out)))
    have HO_x0_11 := Lib.hid (HO_x0_10.out.below HB_10.out (Nat.le_trans HT_6.out (Nat.le_trans (Nat.le_trans (Nat.le_trans HZ_6.out HZ_7.out) HZ_8.out) HZ_9.out)))
    have HO_x2_11 := Lib.hid (HO_x2_10.out.below HB_10.out (Nat.le_trans (Nat.le_trans HZ_7.out HZ_8.out) HZ_9.out))
    have HO_g0_11 := Lib.hid (HO_g0_10.out.below HB_10.out (Nat.le_trans HT_8.out (Nat.le_trans HZ_8.out HZ_9.out)))
    have HX_aK_11 := Lib.hid (HX_aK_10.out.below HB_10.out HX_aK_10.out.lt)
    have HX_w0_11 := Lib.hid (HX_w0_10.out.below HB_10.out HX_w0_10.out.lt)
    have HX_x0_11 := Lib.hid (HX_x0_10.out.below HB_10.out HX_x0_10.out.lt)
    have HX_g0_11 := Lib.hid (HX_g0_10.out.below HB_10.out HX_g0_10.out.lt)
    clear hb hown
    go_wp2_with fail
    refine (eqEntryS_same _ _ A_x2 A__t3 l2 c_x2 c__t3 y2 _ (HO_x2_11.out.rd.more (Nat.le_trans (Nat.le_trans (Nat.le_trans HZ_7.out HZ_8.out) HZ_9.out) HZ_10.out)) (HO__t3_11.out.rd.more (Nat.le_refl _)) (Nat.le_refl _) (Nat.le_refl _) (by omega)).mono ?_
    rintro e W_12 ⟨rfl, hb⟩
    have HB_11 := Lib.hid hb
    have HZ_11 := Lib.hid HB_11.out.size
    have HA_12 := Lib.hid (HA_11.out.trans (HB_11.out.mono HA_11.out.size))
    have HO_aK_12 := Lib.hid (RKeys.keep HO_aK_11.out fun i hi => HB_11.out.block i (Nat.lt_of_lt_of_le hi HA_11.out.size))
    have HO_aList_12 := Lib.hid (HO_aList_11.out.below HB_11.out HA_11.out.size)
    have HO_w0_12 := Lib.hid (RHead.keep HO_w0_11.out fun i hi => HB_11.out.block i (Nat.lt_of_lt_of_le hi (Nat.le_trans (Nat.le_trans (Nat.le_trans (Nat.le_trans (Nat.le_trans HZ_5.out HZ_6.out) HZ_7.out) HZ_8.out) HZ_9.out) HZ_10.out)))
    have HO_x0_12 := Lib.hid (HO_x0_11.out.below HB_11.out (Nat.le_trans HT_6.out (Nat.le_trans (Nat.le_trans (Nat.le_trans (Nat.le_trans HZ_6.out HZ_7.out) HZ_8.out) HZ_9.out) HZ_10.out)))
    have HO_x2_12 := Lib.hid (HO_x2_11.out.below HB_11.out (Nat.le_trans (Nat.le_trans (Nat.le_trans HZ_7.out HZ_8.out) HZ_9.out) HZ_10.out))
    have HO_g0_12 := Lib.hid (HO_g0_11.out.below HB_11.out (Nat.le_trans HT_8.out (Nat.le_trans (Nat.le_trans HZ_8.out HZ_9.out) HZ_10.out)))
    have HX_aK_12 := Lib.hid (HX_aK_11.out.below HB_11.out HX_aK_11.out.lt)
    have HX_w0_12 := Lib.hid (HX_w0_11.out.below HB_11.out HX_w0_11.out.lt)
    have HX_x0_12 := Lib.hid (HX_x0_11.out.below HB_11.out HX_x0_11.out.lt)
    have HX_g0_12 := Lib.hid (HX_g0_11.out.below HB_11.out HX_g0_11.out.lt)
    clear hb
    have x_x0_0 := HX_x0_12.out.cell (j := 0) rfl
    have x_x0_1 := HX_x0_12.out.cell (j := 1) rfl
    go_wp2_with fail
    refine (markKeys_any _ _ [(.slice A_x0_0 n_x0_0 c_x0_0), (.int .i64 y0.need)] y0 1 _ HO_x0_12.out (Nat.le_trans HT_6.out (Nat.le_trans (Nat.le_trans (Nat.le_trans (Nat.le_trans (Nat.le_trans HZ_6.out HZ_7.out) HZ_8.out) HZ_9.out) HZ_10.out) HZ_11.out)) (by omega) (by omega) (by omega)).mono ?_
    rintro e W_13 ⟨rfl, hown, hb⟩
    have HO_x0_13 := Lib.hid hown
    clear hown
    have HB_12 := Lib.hid hb
    have HZ_12 := Lib.hid HB_12.out.size
    have HA_13 := Lib.hid (HA_12.out.trans (HB_12.out.below HA_5.out.size HA_12.out.size))
    have HO_aK_13 := Lib.hid (RKeys.keep HO_aK_12.out fun i hi => HB_12.out.block i (Nat.lt_of_lt_of_le hi HA_12.out.size) (.inl (Nat.lt_of_lt_of_le hi HA_5.out.size)))
    have HO_aList_13 := Lib.hid (HO_aList_12.out.fr HB_12.out HA_5.out.size HA_12.out.size)
    have HO_w0_13 := Lib.hid (RHead.keep HO_w0_12.out fun i hi => HB_12.out.block i (Nat.lt_of_lt_of_le hi (Nat.le_trans (Nat.le_trans (Nat.le_trans (Nat.le_trans (Nat.le_trans (Nat.le_trans HZ_5.out HZ_6.out) HZ_7.out) HZ_8.out) HZ_9.out) HZ_10.out) HZ_11.out)) (.inl (Nat.lt_of_lt_of_le hi (Nat.le_refl _))))
    have HO_x2_13 := Lib.hid (HO_x2_12.out.fr HB_12.out (.inr (Nat.le_trans HT_6.out (Nat.le_refl _))))
    have HO_g0_13 := Lib.hid (HO_g0_12.out.fr HB_12.out (.inr (Nat.le_trans HT_6.out HZ_6.out)))
    have HX_aK_13 := Lib.hid (HX_aK_12.out.keep (HB_12.out.block _ HX_aK_12.out.lt (.inl (Nat.lt_of_lt_of_le HX_aK_0.out.lt (Nat.le_trans (Nat.le_trans (Nat.le_trans (Nat.le_trans HZ_0.out HZ_1.out) HZ_2.out) HZ_3.out) HZ_4.out)))))
    have HX_w0_13 := Lib.hid (HX_w0_12.out.keep (HB_12.out.block _ HX_w0_12.out.lt (.inl (Nat.lt_of_lt_of_le HX_w0_5.out.lt (Nat.le_refl _)))))
    have HX_g0_13 := Lib.hid (HX_g0_12.out.keep (HB_12.out.block _ HX_g0_12.out.lt (.inr (Nat.le_trans HT_6.out (Nat.le_trans HZ_6.out HQ_8.out)))))
    clear hb
    clear x_x0_0 x_x0_1
    go_wp2_with fail
    refine (markEntryS_any _ _ A_x2 l2 c_x2 y2 (1 + (cntKeys y0 : Int)) _ HO_x2_13.out (by omega) (by omega) (by omega)).mono ?_
    rintro e W_14 ⟨rfl, hown, hb⟩
    have HO_x2_14 := Lib.hid hown
    clear hown
    have HB_13 := Lib.hid hb
    have HZ_13 := Lib.hid HB_13.out.size
    have HA_14 := Lib.hid (HA_13.out.trans (HB_13.out.below HA_6.out.size HA_13.out.size))
    have HO_aK_14 := Lib.hid (RKeys.keep HO_aK_13.out fun i hi => HB_13.out.block i (Nat.lt_of_lt_of_le hi HA_13.out.size) (.inl (Nat.lt_of_lt_of_le hi HA_6.out.size)))
    have HO_aList_14 := Lib.hid (HO_aList_13.out.fr HB_13.out HA_6.out.size HA_13.out.size)
    have HO_w0_14 := Lib.hid (RHead.keep HO_w0_13.out fun i hi => HB_13.out.block i (Nat.lt_of_lt_of_le hi (Nat.le_trans (Nat.le_trans (Nat.le_trans (Nat.le_trans (Nat.le_trans (Nat.le_trans (Nat.le_trans HZ_5.out HZ_6.out) HZ_7.out) HZ_8.out) HZ_9.out) HZ_10.out) HZ_11.out) HZ_12.out)) (.inl (Nat.lt_of_lt_of_le hi HZ_5.out)))
    have HO_g0_14 := Lib.hid (HO_g0_13.out.fr HB_13.out (.inr (Nat.le_refl _)))
    have HX_aK_14 := Lib.hid (HX_aK_13.out.keep (HB_13.out.block _ HX_aK_13.out.lt (.inl (Nat.lt_of_lt_of_le HX_aK_0.out.lt (Nat.le_trans (Nat.le_trans (Nat.le_trans (Nat.le_trans (Nat.le_trans HZ_0.out HZ_1.out) HZ_2.out) HZ_3.out) HZ_4.out) HZ_5.out)))))
    have HX_w0_14 := Lib.hid (HX_w0_13.out.keep (HB_13.out.block _ HX_w0_13.out.lt (.inl (Nat.lt_of_lt_of_le HX_w0_5.out.lt HZ_5.out))))
    have HX_g0_14 := Lib.hid (HX_g0_13.out.keep (HB_13.out.block _ HX_g0_13.out.lt (.inr (Nat.le_trans (Nat.le_refl _) HQ_8.out))))
    clear hb
    go_wp2_with (first | (refine LD.wp_ld LD.big_Head rfl _ rfl rfl HX_g0_14.out rfl ?_) | (refine LD.wp_ld LD.big_Head rfl _ rfl rfl HX_w0_14.out rfl ?_))
    refine (eqHead_same _ _ [(.int .i64 r0.zone), (.int .i64 r0.epoch), (.int .i64 r0.kind), (.int .i64 r0.time), (.int .i64 r0.until_), (.int .i64 r0.count), (.int .i64 r0.root), (.int .i64 r0.prev), (.slice A_g0_8 n_g0_8 c_g0_8), (.int .i64 r0.keys.need), (.slice A_g0_10 n_g0_10 c_g0_10), (.int .i64 r0.heirs.need), (.int .i64 r0.wait), (.slice A_g0_13 n_g0_13 c_g0_13), (.int .i64 r0.judge.need), (.bool r0.frozen)] [(.int .i64 r0.zone), (.int .i64 r0.epoch), (.int .i64 r0.kind), (.int .i64 r0.time), (.int .i64 r0.until_), (.int .i64 r0.count), (.int .i64 r0.root), (.int .i64 r0.prev), (.slice A_w0_8 n_w0_8 c_w0_8), (.int .i64 r0.keys.need), (.slice A_w0_10 n_w0_10 c_w0_10), (.int .i64 r0.heirs.need), (.int .i64 r0.wait), (.slice A_w0_13 n_w0_13 c_w0_13), (.int .i64 r0.judge.need), (.bool r0.frozen)] r0 _ (RHead.more HO_g0_14.out.rd fun i hi => Nat.lt_of_lt_of_le hi (Nat.le_trans HT_8.out (Nat.le_trans (Nat.le_trans (Nat.le_trans (Nat.le_trans (Nat.le_trans HZ_8.out HZ_9.out) HZ_10.out) HZ_11.out) HZ_12.out) HZ_13.out))) (RHead.more HO_w0_14.out fun i hi => Nat.lt_of_lt_of_le hi (Nat.le_trans (Nat.le_trans (Nat.le_trans (Nat.le_trans (Nat.le_trans (Nat.le_trans (Nat.le_trans (Nat.le_trans HZ_5.out HZ_6.out) HZ_7.out) HZ_8.out) HZ_9.out) HZ_10.out) HZ_11.out) HZ_12.out) HZ_13.out)) (Nat.le_refl _) (Nat.le_refl _) (by omega)).mono ?_
    rintro e W_15 ⟨rfl, hb⟩
    have HB_14 := Lib.hid hb
    have HZ_14 := Lib.hid HB_14.out.size
    have HA_15 := Lib.hid (HA_14.out.trans (HB_14.out.mono HA_14.out.size))
    have HO_aK_15 := Lib.hid (RKeys.keep HO_aK_14.out fun i hi => HB_14.out.block i (Nat.lt_of_lt_of_le hi HA_14.out.size))
    have HO_aList_15 := Lib.hid (HO_aList_14.out.below HB_14.out HA_14.out.size)
    have HO_w0_15 := Lib.hid (RHead.keep HO_w0_14.out fun i hi => HB_14.out.block i (Nat.lt_of_lt_of_le hi (Nat.le_trans (Nat.le_trans (Nat.le_trans (Nat.le_trans (Nat.le_trans (Nat.le_trans (Nat.le_trans (Nat.le_trans HZ_5.out HZ_6.out) HZ_7.out) HZ_8.out) HZ_9.out) HZ_10.out) HZ_11.out) HZ_12.out) HZ_13.out)))
    have HO_g0_15 := Lib.hid (HO_g0_14.out.below HB_14.out (Nat.le_trans HT_8.out (Nat.le_trans (Nat.le_trans (Nat.le_trans (Nat.le_trans (Nat.le_trans HZ_8.out HZ_9.out) HZ_10.out) HZ_11.out) HZ_12.out) HZ_13.out)))
    have HX_aK_15 := Lib.hid (HX_aK_14.out.below HB_14.out HX_aK_14.out.lt)
    have HX_w0_15 := Lib.hid (HX_w0_14.out.below HB_14.out HX_w0_14.out.lt)
    have HX_g0_15 := Lib.hid (HX_g0_14.out.below HB_14.out HX_g0_14.out.lt)
    clear hb
    go_wp2_with (refine LD.wp_ld LD.big_Head rfl _ rfl rfl HX_g0_15.out rfl ?_)
    refine (markHead_any _ _ [(.int .i64 r0.zone), (.int .i64 r0.epoch), (.int .i64 r0.kind), (.int .i64 r0.time), (.int .i64 r0.until_), (.int .i64 r0.count), (.int .i64 r0.root), (.int .i64 r0.prev), (.slice A_g0_8 n_g0_8 c_g0_8), (.int .i64 r0.keys.need), (.slice A_g0_10 n_g0_10 c_g0_10), (.int .i64 r0.heirs.need), (.int .i64 r0.wait), (.slice A_g0_13 n_g0_13 c_g0_13), (.int .i64 r0.judge.need), (.bool r0.frozen)] r0 1 _ HO_g0_15.out (Nat.le_trans HT_8.out (Nat.le_trans (Nat.le_trans (Nat.le_trans (Nat.le_trans (Nat.le_trans (Nat.le_trans HZ_8.out HZ_9.out) HZ_10.out) HZ_11.out) HZ_12.out) HZ_13.out) HZ_14.out)) (by omega) (by omega) (by omega)).mono ?_
    rintro e W_16 ⟨rfl, hown, hb⟩
    have HO_g0_16 := Lib.hid hown
    clear hown
    have HB_15 := Lib.hid hb
    have HZ_15 := Lib.hid HB_15.out.size
    have HA_16 := Lib.hid (HA_15.out.trans (HB_15.out.below HA_7.out.size HA_15.out.size))
    have HO_aK_16 := Lib.hid (RKeys.keep HO_aK_15.out fun i hi => HB_15.out.block i (Nat.lt_of_lt_of_le hi HA_15.out.size) (.inl (Nat.lt_of_lt_of_le hi HA_7.out.size)))
    have HO_aList_16 := Lib.hid (HO_aList_15.out.fr HB_15.out HA_7.out.size HA_15.out.size)
    have HO_w0_16 := Lib.hid (RHead.keep HO_w0_15.out fun i hi => HB_15.out.block i (Nat.lt_of_lt_of_le hi (Nat.le_trans (Nat.le_trans (Nat.le_trans (Nat.le_trans (Nat.le_trans (Nat.le_trans (Nat.le_trans (Nat.le_trans (Nat.le_trans HZ_5.out HZ_6.out) HZ_7.out) HZ_8.out) HZ_9.out) HZ_10.out) HZ_11.out) HZ_12.out) HZ_13.out) HZ_14.out)) (.inl (Nat.lt_of_lt_of_le hi (Nat.le_trans HZ_5.out HZ_6.out))))
    have HX_aK_16 := Lib.hid (HX_aK_15.out.keep (HB_15.out.block _ HX_aK_15.out.lt (.inl (Nat.lt_of_lt_of_le HX_aK_0.out.lt (Nat.le_trans (Nat.le_trans (Nat.le_trans (Nat.le_trans (Nat.le_trans (Nat.le_trans HZ_0.out HZ_1.out) HZ_2.out) HZ_3.out) HZ_4.out) HZ_5.out) HZ_6.out)))))
    have HX_w0_16 := Lib.hid (HX_w0_15.out.keep (HB_15.out.block _ HX_w0_15.out.lt (.inl (Nat.lt_of_lt_of_le HX_w0_5.out.lt (Nat.le_trans HZ_5.out HZ_6.out)))))
    have HX_g0_16 := Lib.hid (HX_g0_15.out.keep (HB_15.out.block _ HX_g0_15.out.lt (.inr (Nat.le_refl _))))
    clear hb
    go_wp2_with (refine LD.wp_ld LD.big_Head rfl _ rfl rfl HX_g0_16.out rfl ?_)
    refine (heldHead_marks _ [(.int .i64 r0.zone), (.int .i64 r0.epoch), (.int .i64 r0.kind), (.int .i64 r0.time), (.int .i64 r0.until_), (.int .i64 r0.count), (.int .i64 r0.root), (.int .i64 r0.prev), (.slice A_g0_8 n_g0_8 c_g0_8), (.int .i64 r0.keys.need), (.slice A_g0_10 n_g0_10 c_g0_10), (.int .i64 r0.heirs.need), (.int .i64 r0.wait), (.slice A_g0_13 n_g0_13 c_g0_13), (.int .i64 r0.judge.need), (.bool r0.frozen)] r0 1 _ (RHead.more HO_g0_16.out.rd fun i hi => Nat.lt_of_lt_of_le hi (Nat.le_trans HT_8.out (Nat.le_trans (Nat.le_trans (Nat.le_trans (Nat.le_trans (Nat.le_trans (Nat.le_trans (Nat.le_trans HZ_8.out HZ_9.out) HZ_10.out) HZ_11.out) HZ_12.out) HZ_13.out) HZ_14.out) HZ_15.out))) (Nat.le_refl _) (by omega) (by omega) (by omega)).mono ?_
    rintro e W_17 ⟨rfl, hb⟩
    have HB_16 := Lib.hid hb
    have HZ_16 := Lib.hid HB_16.out.size
    have HA_17 := Lib.hid (HA_16.out.trans (HB_16.out.mono HA_16.out.size))
    have HO_aK_17 := Lib.hid (RKeys.keep HO_aK_16.out fun i hi => HB_16.out.block i (Nat.lt_of_lt_of_le hi HA_16.out.size))
    have HO_aList_17 := Lib.hid (HO_aList_16.out.below HB_16.out HA_16.out.size)
    have HO_w0_17 := Lib.hid (RHead.keep HO_w0_16.out fun i hi => HB_16.out.block i (Nat.lt_of_lt_of_le hi (Nat.le_trans (Nat.le_trans (Nat.le_trans (Nat.le_trans (Nat.le_trans (Nat.le_trans (Nat.le_trans (Nat.le_trans (Nat.le_trans (Nat.le_trans HZ_5.out HZ_6.out) HZ_7.out) HZ_8.out) HZ_9.out) HZ_10.out) HZ_11.out) HZ_12.out) HZ_13.out) HZ_14.out) HZ_15.out)))
    have HO_g0_17 := Lib.hid (HO_g0_16.out.below HB_16.out (Nat.le_trans HT_8.out (Nat.le_trans (Nat.le_trans (Nat.le_trans (Nat.le_trans (Nat.le_trans (Nat.le_trans (Nat.le_trans HZ_8.out HZ_9.out) HZ_10.out) HZ_11.out) HZ_12.out) HZ_13.out) HZ_14.out) HZ_15.out)))
    have HX_aK_17 := Lib.hid (HX_aK_16.out.below HB_16.out HX_aK_16.out.lt)
    have HX_w0_17 := Lib.hid (HX_w0_16.out.below HB_16.out HX_w0_16.out.lt)
    have HX_g0_17 := Lib.hid (HX_g0_16.out.below HB_16.out HX_g0_16.out.lt)
    clear hb
    have x_aK_0 := HX_aK_17.out.cell (j := 0) rfl
    have x_aK_1 := HX_aK_17.out.cell (j := 1) rfl
    go_wp2_with fail
    refine (toKeys_any [u0_0, u0_1] y0 _ (RKeys.more HO_aK_17.out fun i hi => Nat.lt_of_lt_of_le hi HA_17.out.size) (by omega)).mono ?_
    rintro e W_18 ⟨cs__t4, rfl, hown, hb⟩
    obtain ⟨A__t4_0, n__t4_0, c__t4_0, rfl⟩ := RKeys_shape hown.rd
    have HO__t4_18 := Lib.hid (hown)
    have HB_17 := Lib.hid hb
    have HZ_17 := Lib.hid HB_17.out.size
    have HA_18 := Lib.hid (HA_17.out.trans (HB_17.out.mono HA_17.out.size))
    have HO_aList_18 := Lib.hid (HO_aList_17.out.below HB_17.out HA_17.out.size)
    have HO_w0_18 := Lib.hid (RHead.keep HO_w0_17.out fun i hi => HB_17.out.block i (Nat.lt_of_lt_of_le hi (Nat.le_trans (Nat.le_trans (Nat.le_trans (Nat.le_trans (Nat.le_trans (Nat.le_trans (Nat.le_trans (Nat.le_trans (Nat.le_trans (Nat.le_trans (Nat.le_trans HZ_5.out HZ_6.out) HZ_7.out) HZ_8.out) HZ_9.out) HZ_10.out) HZ_11.out) HZ_12.out) HZ_13.out) HZ_14.out) HZ_15.out) HZ_16.out)))
    have HO_g0_18 := Lib.hid (HO_g0_17.out.below HB_17.out (Nat.le_trans HT_8.out (Nat.le_trans (Nat.le_trans (Nat.le_trans (Nat.le_trans (Nat.le_trans (Nat.le_trans (Nat.le_trans (Nat.le_trans HZ_8.out HZ_9.out) HZ_10.out) HZ_11.out) HZ_12.out) HZ_13.out) HZ_14.out) HZ_15.out) HZ_16.out)))
    have HX_w0_18 := Lib.hid (HX_w0_17.out.below HB_17.out HX_w0_17.out.lt)
    have HX_g0_18 := Lib.hid (HX_g0_17.out.below HB_17.out HX_g0_17.out.lt)
    clear hb hown
    go_wp2_with fail
    refine (toEntryS_any a2 l2 c2 y2 _ (HO_aList_18.out.more HA_18.out.size) (by omega)).mono ?_
    rintro e W_19 ⟨A__t5, c__t5, rfl, hown, hb⟩
    have HO__t5_19 := Lib.hid hown
    have HB_18 := Lib.hid hb
    have HZ_18 := Lib.hid HB_18.out.size
    have HA_19 := Lib.hid (HA_18.out.trans (HB_18.out.mono HA_18.out.size))
    have HO_w0_19 := Lib.hid (RHead.keep HO_w0_18.out fun i hi => HB_18.out.block i (Nat.lt_of_lt_of_le hi (Nat.le_trans (Nat.le_trans (Nat.le_trans (Nat.le_trans (Nat.le_trans (Nat.le_trans (Nat.le_trans (Nat.le_trans (Nat.le_trans (Nat.le_trans (Nat.le_trans (Nat.le_trans HZ_5.out HZ_6.out) HZ_7.out) HZ_8.out) HZ_9.out) HZ_10.out) HZ_11.out) HZ_12.out) HZ_13.out) HZ_14.out) HZ_15.out) HZ_16.out) HZ_17.out)))
    have HO_g0_19 := Lib.hid (HO_g0_18.out.below HB_18.out (Nat.le_trans HT_8.out (Nat.le_trans (Nat.le_trans (Nat.le_trans (Nat.le_trans (Nat.le_trans (Nat.le_trans (Nat.le_trans (Nat.le_trans (Nat.le_trans HZ_8.out HZ_9.out) HZ_10.out) HZ_11.out) HZ_12.out) HZ_13.out) HZ_14.out) HZ_15.out) HZ_16.out) HZ_17.out)))
    have HO__t4_19 := Lib.hid (HO__t4_18.out.below HB_18.out (Nat.le_refl _))
    have HX_w0_19 := Lib.hid (HX_w0_18.out.below HB_18.out HX_w0_18.out.lt)
    have HX_g0_19 := Lib.hid (HX_g0_18.out.below HB_18.out HX_g0_18.out.lt)
    clear hb hown
    go_wp2_with fail
    refine (HI.out [(.slice A__t4_0 n__t4_0 c__t4_0), (.int .i64 y0.need)] A__t5 l2 c__t5 _ (RKeys.more HO__t4_19.out.rd fun i hi => Nat.lt_of_lt_of_le hi HZ_18.out) (HO__t5_19.out.cap.1) (HO__t5_19.out.rd.more (Nat.le_refl _))).mono ?_
    rintro e W_20 ⟨cs_h0, rfl, ho0, hb⟩
    obtain ⟨A_h0_8, n_h0_8, c_h0_8, A_h0_10, n_h0_10, c_h0_10, A_h0_13, n_h0_13, c_h0_13, rfl⟩ := RHead_shape ho0.rd
    have HO_h0_20 := Lib.hid (ho0.alloc (.cells #[(.int .i64 r0.zone), (.int .i64 r0.epoch), (.int .i64 r0.kind), (.int .i64 r0.time), (.int .i64 r0.until_), (.int .i64 r0.count), (.int .i64 r0.root), (.int .i64 r0.prev), (.slice A_h0_8 n_h0_8 c_h0_8), (.int .i64 r0.keys.need), (.slice A_h0_10 n_h0_10 c_h0_10), (.int .i64 r0.heirs.need), (.int .i64 r0.wait), (.slice A_h0_13 n_h0_13 c_h0_13), (.int .i64 r0.judge.need), (.bool r0.frozen)] 31))
    have HT_20 := Lib.hid (show W_20.heap.size ≤ (W_20.alloc (.cells #[(.int .i64 r0.zone), (.int .i64 r0.epoch), (.int .i64 r0.kind), (.int .i64 r0.time), (.int .i64 r0.until_), (.int .i64 r0.count), (.int .i64 r0.root), (.int .i64 r0.prev), (.slice A_h0_8 n_h0_8 c_h0_8), (.int .i64 r0.keys.need), (.slice A_h0_10 n_h0_10 c_h0_10), (.int .i64 r0.heirs.need), (.int .i64 r0.wait), (.slice A_h0_13 n_h0_13 c_h0_13), (.int .i64 r0.judge.need), (.bool r0.frozen)] 31)).heap.size by simp)
    have hb19 := hb.alloc hb.size (.cells #[(.int .i64 r0.zone), (.int .i64 r0.epoch), (.int .i64 r0.kind), (.int .i64 r0.time), (.int .i64 r0.until_), (.int .i64 r0.count), (.int .i64 r0.root), (.int .i64 r0.prev), (.slice A_h0_8 n_h0_8 c_h0_8), (.int .i64 r0.keys.need), (.slice A_h0_10 n_h0_10 c_h0_10), (.int .i64 r0.heirs.need), (.int .i64 r0.wait), (.slice A_h0_13 n_h0_13 c_h0_13), (.int .i64 r0.judge.need), (.bool r0.frozen)] 31)
    have HB_19 := Lib.hid hb19
    have HQ_20 := Lib.hid hb.size
    have HZ_19 := Lib.hid HB_19.out.size
    have HA_20 := Lib.hid (HA_19.out.trans (HB_19.out.mono HA_19.out.size))
    have HO_w0_20 := Lib.hid (RHead.keep HO_w0_19.out fun i hi => HB_19.out.block i (Nat.lt_of_lt_of_le hi (Nat.le_trans (Nat.le_trans (Nat.le_trans (Nat.le_trans (Nat.le_trans (Nat.le_trans (Nat.le_trans (Nat.le_trans (Nat.le_trans (Nat.le_trans (Nat.le_trans (Nat.le_trans (Nat.le_trans HZ_5.out HZ_6.out) HZ_7.out) HZ_8.out) HZ_9.out) HZ_10.out) HZ_11.out) HZ_12.out) HZ_13.out) HZ_14.out) HZ_15.out) HZ_16.out) HZ_17.out) HZ_18.out)))
    have HO_g0_20 := Lib.hid (HO_g0_19.out.below HB_19.out (Nat.le_trans HT_8.out (Nat.le_trans (Nat.le_trans (Nat.le_trans (Nat.le_trans (Nat.le_trans (Nat.le_trans (Nat.le_trans (Nat.le_trans (Nat.le_trans (Nat.le_trans HZ_8.out HZ_9.out) HZ_10.out) HZ_11.out) HZ_12.out) HZ_13.out) HZ_14.out) HZ_15.out) HZ_16.out) HZ_17.out) HZ_18.out)))
    have HX_w0_20 := Lib.hid (HX_w0_19.out.below HB_19.out HX_w0_19.out.lt)
    have HX_g0_20 := Lib.hid (HX_g0_19.out.below HB_19.out HX_g0_19.out.lt)
    clear hb ho0
    have HX_h0_20 := Lib.hid (show Box (W_20.alloc (.cells #[(.int .i64 r0.zone), (.int .i64 r0.epoch), (.int .i64 r0.kind), (.int .i64 r0.time), (.int .i64 r0.until_), (.int .i64 r0.count), (.int .i64 r0.root), (.int .i64 r0.prev), (.slice A_h0_8 n_h0_8 c_h0_8), (.int .i64 r0.keys.need), (.slice A_h0_10 n_h0_10 c_h0_10), (.int .i64 r0.heirs.need), (.int .i64 r0.wait), (.slice A_h0_13 n_h0_13 c_h0_13), (.int .i64 r0.judge.need), (.bool r0.frozen)] 31)) W_20.heap.size [(.int .i64 r0.zone), (.int .i64 r0.epoch), (.int .i64 r0.kind), (.int .i64 r0.time), (.int .i64 r0.until_), (.int .i64 r0.count), (.int .i64 r0.root), (.int .i64 r0.prev), (.slice A_h0_8 n_h0_8 c_h0_8), (.int .i64 r0.keys.need), (.slice A_h0_10 n_h0_10 c_h0_10), (.int .i64 r0.heirs.need), (.int .i64 r0.wait), (.slice A_h0_13 n_h0_13 c_h0_13), (.int .i64 r0.judge.need), (.bool r0.frozen)] from Box.new W_20 #[(.int .i64 r0.zone), (.int .i64 r0.epoch), (.int .i64 r0.kind), (.int .i64 r0.time), (.int .i64 r0.until_), (.int .i64 r0.count), (.int .i64 r0.root), (.int .i64 r0.prev), (.slice A_h0_8 n_h0_8 c_h0_8), (.int .i64 r0.keys.need), (.slice A_h0_10 n_h0_10 c_h0_10), (.int .i64 r0.heirs.need), (.int .i64 r0.wait), (.slice A_h0_13 n_h0_13 c_h0_13), (.int .i64 r0.judge.need), (.bool r0.frozen)] 31)
    clear x_aK_0 x_aK_1
    go_wp2_with (first | (refine LD.wp_ld LD.big_Head rfl _ rfl rfl HX_h0_20.out rfl ?_) | (refine LD.wp_ld LD.big_Head rfl _ rfl rfl HX_w0_20.out rfl ?_) | (refine LD.wp_new LD.big_Head rfl _ _ rfl rfl rfl rfl rfl rfl ?_))
    refine (eqHead_same _ _ [(.int .i64 r0.zone), (.int .i64 r0.epoch), (.int .i64 r0.kind), (.int .i64 r0.time), (.int .i64 r0.until_), (.int .i64 r0.count), (.int .i64 r0.root), (.int .i64 r0.prev), (.slice A_h0_8 n_h0_8 c_h0_8), (.int .i64 r0.keys.need), (.slice A_h0_10 n_h0_10 c_h0_10), (.int .i64 r0.heirs.need), (.int .i64 r0.wait), (.slice A_h0_13 n_h0_13 c_h0_13), (.int .i64 r0.judge.need), (.bool r0.frozen)] [(.int .i64 r0.zone), (.int .i64 r0.epoch), (.int .i64 r0.kind), (.int .i64 r0.time), (.int .i64 r0.until_), (.int .i64 r0.count), (.int .i64 r0.root), (.int .i64 r0.prev), (.slice A_w0_8 n_w0_8 c_w0_8), (.int .i64 r0.keys.need), (.slice A_w0_10 n_w0_10 c_w0_10), (.int .i64 r0.heirs.need), (.int .i64 r0.wait), (.slice A_w0_13 n_w0_13 c_w0_13), (.int .i64 r0.judge.need), (.bool r0.frozen)] r0 _ (RHead.more HO_h0_20.out.rd fun i hi => Nat.lt_of_lt_of_le hi (Nat.le_trans HT_20.out (Nat.le_refl _))) (RHead.more HO_w0_20.out fun i hi => Nat.lt_of_lt_of_le hi (Nat.le_trans (Nat.le_trans (Nat.le_trans (Nat.le_trans (Nat.le_trans (Nat.le_trans (Nat.le_trans (Nat.le_trans (Nat.le_trans (Nat.le_trans (Nat.le_trans (Nat.le_trans (Nat.le_trans (Nat.le_trans HZ_5.out HZ_6.out) HZ_7.out) HZ_8.out) HZ_9.out) HZ_10.out) HZ_11.out) HZ_12.out) HZ_13.out) HZ_14.out) HZ_15.out) HZ_16.out) HZ_17.out) HZ_18.out) HZ_19.out)) (Nat.le_refl _) (Nat.le_refl _) (by omega)).mono ?_
    rintro e W_21 ⟨rfl, hb⟩
    have HB_20 := Lib.hid hb
    have HZ_20 := Lib.hid HB_20.out.size
    have HA_21 := Lib.hid (HA_20.out.trans (HB_20.out.mono HA_20.out.size))
    have HO_g0_21 := Lib.hid (HO_g0_20.out.below HB_20.out (Nat.le_trans HT_8.out (Nat.le_trans (Nat.le_trans (Nat.le_trans (Nat.le_trans (Nat.le_trans (Nat.le_trans (Nat.le_trans (Nat.le_trans (Nat.le_trans (Nat.le_trans (Nat.le_trans HZ_8.out HZ_9.out) HZ_10.out) HZ_11.out) HZ_12.out) HZ_13.out) HZ_14.out) HZ_15.out) HZ_16.out) HZ_17.out) HZ_18.out) HZ_19.out)))
    have HX_g0_21 := Lib.hid (HX_g0_20.out.below HB_20.out HX_g0_20.out.lt)
    clear hb
    go_wp2_with (refine LD.wp_ld LD.big_Head rfl _ rfl rfl HX_g0_21.out rfl ?_)
    refine (heldHead_marks _ [(.int .i64 r0.zone), (.int .i64 r0.epoch), (.int .i64 r0.kind), (.int .i64 r0.time), (.int .i64 r0.until_), (.int .i64 r0.count), (.int .i64 r0.root), (.int .i64 r0.prev), (.slice A_g0_8 n_g0_8 c_g0_8), (.int .i64 r0.keys.need), (.slice A_g0_10 n_g0_10 c_g0_10), (.int .i64 r0.heirs.need), (.int .i64 r0.wait), (.slice A_g0_13 n_g0_13 c_g0_13), (.int .i64 r0.judge.need), (.bool r0.frozen)] r0 1 _ (RHead.more HO_g0_21.out.rd fun i hi => Nat.lt_of_lt_of_le hi (Nat.le_trans HT_8.out (Nat.le_trans (Nat.le_trans (Nat.le_trans (Nat.le_trans (Nat.le_trans (Nat.le_trans (Nat.le_trans (Nat.le_trans (Nat.le_trans (Nat.le_trans (Nat.le_trans (Nat.le_trans HZ_8.out HZ_9.out) HZ_10.out) HZ_11.out) HZ_12.out) HZ_13.out) HZ_14.out) HZ_15.out) HZ_16.out) HZ_17.out) HZ_18.out) HZ_19.out) HZ_20.out))) (Nat.le_refl _) (by omega) (by omega) (by omega)).mono ?_
    rintro e W_22 ⟨rfl, hb⟩
    have HB_21 := Lib.hid hb
    have HZ_21 := Lib.hid HB_21.out.size
    have HA_22 := Lib.hid (HA_21.out.trans (HB_21.out.mono HA_21.out.size))
    clear hb
    go_wp2
    go_ret
    exact ⟨rfl, HA_22.out⟩
end Go.Proofs.YthhmhcmlbpdlbaaGreat.W14V
