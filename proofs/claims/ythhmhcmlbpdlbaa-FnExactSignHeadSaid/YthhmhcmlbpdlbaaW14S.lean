/- The walks of the exact laws of chapter 14: each law returns true, and writes into nothing that was there. -/
import Derived.Test.YthhmhcmlbpdlbaaC14U
import Derived.Test.YthhmhcmlbpdlbaaT06
import Derived.Test.YthhmhcmlbpdlbaaT13
import Derived.Test.YthhmhcmlbpdlbaaT14
import Derived.Test.YthhmhcmlbpdlbaaT01
import Derived.Test.YthhmhcmlbpdlbaaLD
import Derived.Test.YthhmhcmlbpdlbaaOS
import Derived.Deep.RegionHeld3
import Derived.Test.YthhmhcmlbpdlbaaRKA
namespace Go.Proofs.Ythhmhcmlbpdlbaa.W14S
open Go.RowKit Mem MemS Rep BX Flat R06 R07 R13 R14 C14U T01 T06 T13S T13 T14 RG RGS
open RKA hiding inI64
set_option linter.unusedVariables false
set_option linter.unusedSimpArgs false
set_option maxRecDepth 100000
set_option maxHeartbeats 4000000
theorem rgUp {α : Type} {R : Rep α} {w w' : World} {cs : List Value} {a : α} (h : R.rd w (Lt w.heap.size) cs a) (hb : Below w.heap.size w w') : R.rd w' (Lt w'.heap.size) cs a := R.more (R.keep h fun i hi => hb.block i hi) fun i hi => Nat.lt_of_lt_of_le hi hb.size
theorem FnExactSignHead_walk (W0 : World) (a0 : Option Addr) (l0 c0 : Nat) (z0 : List Int) (w0 : SL.IsRow .i64 W0 a0 l0 c0 z0) (u1_0 u1_1 : Value) (y1 : Keys) (w1 : RKeys.rd W0 (Lt W0.heap.size) [u1_0, u1_1] y1) (u2_0 u2_1 u2_2 u2_3 u2_4 u2_5 u2_6 u2_7 u2_8 u2_9 u2_10 u2_11 u2_12 u2_13 u2_14 u2_15 : Value) (y2 : Head) (w2 : RHead.rd W0 (Lt W0.heap.size) [u2_0, u2_1, u2_2, u2_3, u2_4, u2_5, u2_6, u2_7, u2_8, u2_9, u2_10, u2_11, u2_12, u2_13, u2_14, u2_15] y2) :
    Calls Try.prog 4 #[.slice a0 l0 c0, .agg #[u1_0, u1_1], .agg #[u2_0, u2_1, u2_2, u2_3, u2_4, u2_5, u2_6, u2_7, u2_8, u2_9, u2_10, u2_11, u2_12, u2_13, u2_14, u2_15]] W0 fun e w' => e = .returned (.bool true) ∧ Below W0.heap.size W0 w' := by
  have hR0 := rd_of_row w0
  have hC0 := row_cap w0
  have hL0 := hR0.len
  generalize z0.take l0 = y0 at hR0 hL0
  clear w0
  by_cases hg0 : 1048576 < l0
  · have hg : 1048576 < (l0 : Int) := by omega
    clear hR0 hL0 hC0
    clear w1
    clear w2
    go_enter Try.func4, Try.ntmps4
    go_wp2
    go_ret
    exact ⟨rfl, (((Below.refl _ _).alloc (by first | (simp; done) | (simp; omega)) _).alloc (by first | (simp; done) | (simp; omega)) _)⟩
  have HA_0 := Lib.hid (show Below W0.heap.size W0 ((W0.alloc (.cells #[u1_0, u1_1] 24)).alloc (.cells #[u2_0, u2_1, u2_2, u2_3, u2_4, u2_5, u2_6, u2_7, u2_8, u2_9, u2_10, u2_11, u2_12, u2_13, u2_14, u2_15] 32)) from ((Below.refl _ _).alloc (by first | (simp; done) | (simp; omega)) _).alloc (by first | (simp; done) | (simp; omega)) _)
  have HO_aHeld_0 := Lib.hid (hR0.below HA_0.out (Nat.le_refl _))
  have HC0 := Lib.hid hC0
  have HO_aK_0 := Lib.hid (RKeys.keep w1 fun i hi => HA_0.out.block i hi)
  have HX_aK_0 := Lib.hid (show Box ((W0.alloc (.cells #[u1_0, u1_1] 24)).alloc (.cells #[u2_0, u2_1, u2_2, u2_3, u2_4, u2_5, u2_6, u2_7, u2_8, u2_9, u2_10, u2_11, u2_12, u2_13, u2_14, u2_15] 32)) (W0.heap.size) [u1_0, u1_1] from (show Box (W0.alloc (.cells #[u1_0, u1_1] 24)) (W0.heap.size) [u1_0, u1_1] by have h := Box.new W0 #[u1_0, u1_1] 24; simpa using h).alloc _)
  have HO_aH_0 := Lib.hid (RHead.keep w2 fun i hi => HA_0.out.block i hi)
  have HX_aH_0 := Lib.hid (show Box ((W0.alloc (.cells #[u1_0, u1_1] 24)).alloc (.cells #[u2_0, u2_1, u2_2, u2_3, u2_4, u2_5, u2_6, u2_7, u2_8, u2_9, u2_10, u2_11, u2_12, u2_13, u2_14, u2_15] 32)) (W0.heap.size + 1) [u2_0, u2_1, u2_2, u2_3, u2_4, u2_5, u2_6, u2_7, u2_8, u2_9, u2_10, u2_11, u2_12, u2_13, u2_14, u2_15] from (show Box ((W0.alloc (.cells #[u1_0, u1_1] 24)).alloc (.cells #[u2_0, u2_1, u2_2, u2_3, u2_4, u2_5, u2_6, u2_7, u2_8, u2_9, u2_10, u2_11, u2_12, u2_13, u2_14, u2_15] 32)) (W0.heap.size + 1) [u2_0, u2_1, u2_2, u2_3, u2_4, u2_5, u2_6, u2_7, u2_8, u2_9, u2_10, u2_11, u2_12, u2_13, u2_14, u2_15] by have h := Box.new (W0.alloc (.cells #[u1_0, u1_1] 24)) #[u2_0, u2_1, u2_2, u2_3, u2_4, u2_5, u2_6, u2_7, u2_8, u2_9, u2_10, u2_11, u2_12, u2_13, u2_14, u2_15] 32; simpa using h))
  clear hR0
  clear w1
  clear w2
  go_enter Try.func4, Try.ntmps4
  have x_aK_0 := HX_aK_0.out.cell (j := 0) rfl
  have x_aK_1 := HX_aK_0.out.cell (j := 1) rfl
  by_cases hn_aK : 1048576 < (totKeys y1 : Int)
  · have HN := Lib.hid hn_aK
    clear hn_aK
    go_wp2_with fail
    refine (szKeys_any [u1_0, u1_1] y1 1048576 _ (RKeys.more HO_aK_0.out fun i hi => Nat.lt_of_lt_of_le hi HA_0.out.size) (by omega) (by omega)).mono ?_
    rw [if_pos HN.out]
    rintro e W_1 ⟨rfl, hb⟩
    have HAe := Lib.hid (HA_0.out.trans (hb.mono HA_0.out.size))
    clear hb
    go_wp2
    go_ret
    exact ⟨rfl, HAe.out⟩
  have hY1 : totKeys y1 ≤ 1048576 := by omega
  have HN_aK := Lib.hid hn_aK
  clear hn_aK
  go_wp2_with fail
  refine (szKeys_any [u1_0, u1_1] y1 1048576 _ (RKeys.more HO_aK_0.out fun i hi => Nat.lt_of_lt_of_le hi HA_0.out.size) (by omega) (by omega)).mono ?_
  rw [if_neg (show ¬ 1048576 < (totKeys y1 : Int) by have := HN_aK.out; omega)]
  rintro e W_1 ⟨rfl, hb⟩
  obtain ⟨qq0, hqq0⟩ : ∃ x, x = 1048576 - (totKeys y1 : Int) := ⟨_, rfl⟩
  rw [← hqq0]
  have hqq0l : 0 ≤ qq0 ∧ qq0 ≤ 1048576 := by have := HN_aK.out; omega
  have hqq0n : ¬ qq0 < 0 := by omega
  clear hqq0
  have HB_0 := Lib.hid hb
  have HZ_0 := Lib.hid HB_0.out.size
  have HA_1 := Lib.hid (HA_0.out.trans (HB_0.out.mono HA_0.out.size))
  have HO_aHeld_1 := Lib.hid (HO_aHeld_0.out.below HB_0.out HA_0.out.size)
  have HO_aK_1 := Lib.hid (RKeys.keep HO_aK_0.out fun i hi => HB_0.out.block i (Nat.lt_of_lt_of_le hi HA_0.out.size))
  have HO_aH_1 := Lib.hid (RHead.keep HO_aH_0.out fun i hi => HB_0.out.block i (Nat.lt_of_lt_of_le hi HA_0.out.size))
  have HX_aK_1 := Lib.hid (HX_aK_0.out.below HB_0.out HX_aK_0.out.lt)
  have HX_aH_1 := Lib.hid (HX_aH_0.out.below HB_0.out HX_aH_0.out.lt)
  clear hb
  clear x_aK_0 x_aK_1
  by_cases hn_aH : qq0 < (totHead y2 : Int)
  · have HN := Lib.hid hn_aH
    clear hn_aH
    go_wp2_with (refine LD.wp_ld LD.big_lHead rfl _ rfl rfl HX_aH_1.out rfl ?_)
    refine (szHead_any [u2_0, u2_1, u2_2, u2_3, u2_4, u2_5, u2_6, u2_7, u2_8, u2_9, u2_10, u2_11, u2_12, u2_13, u2_14, u2_15] y2 qq0 _ (RHead.more HO_aH_1.out fun i hi => Nat.lt_of_lt_of_le hi HA_1.out.size) (by omega) (by omega)).mono ?_
    rw [if_pos HN.out]
    rintro e W_2 ⟨rfl, hb⟩
    have HAe := Lib.hid (HA_1.out.trans (hb.mono HA_1.out.size))
    clear hb
    go_wp2
    go_ret
    exact ⟨rfl, HAe.out⟩
  have hY2 : totHead y2 ≤ 1048576 := by omega
  have HN_aH := Lib.hid hn_aH
  clear hn_aH
  go_wp2_with (refine LD.wp_ld LD.big_lHead rfl _ rfl rfl HX_aH_1.out rfl ?_)
  refine (szHead_any [u2_0, u2_1, u2_2, u2_3, u2_4, u2_5, u2_6, u2_7, u2_8, u2_9, u2_10, u2_11, u2_12, u2_13, u2_14, u2_15] y2 qq0 _ (RHead.more HO_aH_1.out fun i hi => Nat.lt_of_lt_of_le hi HA_1.out.size) (by omega) (by omega)).mono ?_
  rw [if_neg (show ¬ qq0 < (totHead y2 : Int) by have := HN_aH.out; omega)]
  rintro e W_2 ⟨rfl, hb⟩
  obtain ⟨qq1, hqq1⟩ : ∃ x, x = qq0 - (totHead y2 : Int) := ⟨_, rfl⟩
  rw [← hqq1]
  have hqq1l : 0 ≤ qq1 ∧ qq1 ≤ 1048576 := by have := HN_aH.out; omega
  have hqq1n : ¬ qq1 < 0 := by omega
  clear hqq1
  have HB_1 := Lib.hid hb
  have HZ_1 := Lib.hid HB_1.out.size
  have HA_2 := Lib.hid (HA_1.out.trans (HB_1.out.mono HA_1.out.size))
  have HO_aHeld_2 := Lib.hid (HO_aHeld_1.out.below HB_1.out HA_1.out.size)
  have HO_aK_2 := Lib.hid (RKeys.keep HO_aK_1.out fun i hi => HB_1.out.block i (Nat.lt_of_lt_of_le hi HA_1.out.size))
  have HO_aH_2 := Lib.hid (RHead.keep HO_aH_1.out fun i hi => HB_1.out.block i (Nat.lt_of_lt_of_le hi HA_1.out.size))
  have HX_aK_2 := Lib.hid (HX_aK_1.out.below HB_1.out HX_aK_1.out.lt)
  have HX_aH_2 := Lib.hid (HX_aH_1.out.below HB_1.out HX_aH_1.out.lt)
  clear hb
  obtain ⟨r0, hlen0, hS, hI⟩ := both_SignHead y0 y1 y2 (by omega) hY1 hY2
  have HS := Lib.hid hS
  have HI := Lib.hid hI
  clear hS hI
  have hcnt0 := cntSigned_le r0
  have hcy1 := cntKeys_le y1
  have hcy2 := cntHead_le y2
  go_wp2_with fail
  refine OS.rest_first (fun a0 a w => ∃ (g_w0 : Nat) (A_w0_8 : Option Addr) (n_w0_8 : Nat) (c_w0_8 : Nat) (A_w0_10 : Option Addr) (n_w0_10 : Nat) (c_w0_10 : Nat) (A_w0_13 : Option Addr) (n_w0_13 : Nat) (c_w0_13 : Nat) (A_w0_16 : Option Addr) (n_w0_16 : Nat) (c_w0_16 : Nat) (vv30 vv31 vv32 vv33 vv34 vv35 vv36 : Value), a = ((((((((a0.put (some 30) vv30).put (some 31) vv31).put (some 32) vv32).put (some 33) vv33).put (some 34) vv34).put (some 35) vv35).put (some 36) vv36).put (some 8) (.pointer (some ⟨g_w0, 0, none⟩))) ∧ Below W_2.heap.size W_2 w ∧ Box w g_w0 [(.int .i64 r0.head.zone), (.int .i64 r0.head.epoch), (.int .i64 r0.head.kind), (.int .i64 r0.head.time), (.int .i64 r0.head.until_), (.int .i64 r0.head.count), (.int .i64 r0.head.root), (.int .i64 r0.head.prev), (.slice A_w0_8 n_w0_8 c_w0_8), (.int .i64 r0.head.keys.need), (.slice A_w0_10 n_w0_10 c_w0_10), (.int .i64 r0.head.heirs.need), (.int .i64 r0.head.wait), (.slice A_w0_13 n_w0_13 c_w0_13), (.int .i64 r0.head.judge.need), (.bool r0.head.frozen), (.slice A_w0_16 n_w0_16 c_w0_16)] ∧ W_2.heap.size ≤ g_w0 ∧ RSigned.rd w (Lt w.heap.size) [(.int .i64 r0.head.zone), (.int .i64 r0.head.epoch), (.int .i64 r0.head.kind), (.int .i64 r0.head.time), (.int .i64 r0.head.until_), (.int .i64 r0.head.count), (.int .i64 r0.head.root), (.int .i64 r0.head.prev), (.slice A_w0_8 n_w0_8 c_w0_8), (.int .i64 r0.head.keys.need), (.slice A_w0_10 n_w0_10 c_w0_10), (.int .i64 r0.head.heirs.need), (.int .i64 r0.head.wait), (.slice A_w0_13 n_w0_13 c_w0_13), (.int .i64 r0.head.judge.need), (.bool r0.head.frozen), (.slice A_w0_16 n_w0_16 c_w0_16)] r0) ?_ ?_
  · rintro a9 W_3 ⟨g_w0, A_w0_8, n_w0_8, c_w0_8, A_w0_10, n_w0_10, c_w0_10, A_w0_13, n_w0_13, c_w0_13, A_w0_16, n_w0_16, c_w0_16, vv30, vv31, vv32, vv33, vv34, vv35, vv36, rfl, hbel, hbox, hgb, hrd⟩
    simp only [Act.put, List.setIfInBounds_toArray, List.set_cons_succ, List.set_cons_zero]
    rename_i K9 hK9
    refine hK9 _ _ ?_
    have hb := hbel
    have HO_w0_3 := Lib.hid hrd
    have HX_w0_3 := Lib.hid hbox
    clear hrd hbox
    have HB_2 := Lib.hid hb
    have HZ_2 := Lib.hid HB_2.out.size
    have HA_3 := Lib.hid (HA_2.out.trans (HB_2.out.mono HA_2.out.size))
    have HO_aHeld_3 := Lib.hid (HO_aHeld_2.out.below HB_2.out HA_2.out.size)
    have HO_aK_3 := Lib.hid (RKeys.keep HO_aK_2.out fun i hi => HB_2.out.block i (Nat.lt_of_lt_of_le hi HA_2.out.size))
    have HO_aH_3 := Lib.hid (RHead.keep HO_aH_2.out fun i hi => HB_2.out.block i (Nat.lt_of_lt_of_le hi HA_2.out.size))
    have HX_aK_3 := Lib.hid (HX_aK_2.out.below HB_2.out HX_aK_2.out.lt)
    have HX_aH_3 := Lib.hid (HX_aH_2.out.below HB_2.out HX_aH_2.out.lt)
    clear hb hbel
    go_wp2_with fail
    refine (toIntS_any a0 l0 c0 y0 _ (HO_aHeld_3.out.more HA_3.out.size) (by omega)).mono ?_
    rintro e W_4 ⟨A_x0, c_x0, rfl, hown, hb⟩
    have HO_x0_4 := Lib.hid hown
    have HB_3 := Lib.hid hb
    have HZ_3 := Lib.hid HB_3.out.size
    have HA_4 := Lib.hid (HA_3.out.trans (HB_3.out.mono HA_3.out.size))
    have HO_aHeld_4 := Lib.hid (HO_aHeld_3.out.below HB_3.out HA_3.out.size)
    have HO_aK_4 := Lib.hid (RKeys.keep HO_aK_3.out fun i hi => HB_3.out.block i (Nat.lt_of_lt_of_le hi HA_3.out.size))
    have HO_aH_4 := Lib.hid (RHead.keep HO_aH_3.out fun i hi => HB_3.out.block i (Nat.lt_of_lt_of_le hi HA_3.out.size))
    have HO_w0_4 := Lib.hid (RSigned.keep HO_w0_3.out fun i hi => HB_3.out.block i (Nat.lt_of_lt_of_le hi (Nat.le_refl _)))
    have HX_aK_4 := Lib.hid (HX_aK_3.out.below HB_3.out HX_aK_3.out.lt)
    have HX_aH_4 := Lib.hid (HX_aH_3.out.below HB_3.out HX_aH_3.out.lt)
    have HX_w0_4 := Lib.hid (HX_w0_3.out.below HB_3.out HX_w0_3.out.lt)
    clear hb hown
    have x_aK_0 := HX_aK_4.out.cell (j := 0) rfl
    have x_aK_1 := HX_aK_4.out.cell (j := 1) rfl
    go_wp2_with fail
    refine (toKeys_any [u1_0, u1_1] y1 _ (RKeys.more HO_aK_4.out fun i hi => Nat.lt_of_lt_of_le hi HA_4.out.size) (by omega)).mono ?_
    rintro e W_5 ⟨cs_x1, rfl, hown, hb⟩
    obtain ⟨A_x1_0, n_x1_0, c_x1_0, rfl⟩ := RKeys_shape hown.rd
    have HO_x1_5 := Lib.hid (hown.alloc (.cells #[(.slice A_x1_0 n_x1_0 c_x1_0), (.int .i64 y1.need)] 27))
    have HT_5 := Lib.hid (show W_5.heap.size ≤ (W_5.alloc (.cells #[(.slice A_x1_0 n_x1_0 c_x1_0), (.int .i64 y1.need)] 27)).heap.size by simp)
    have hb4 := hb.alloc hb.size (.cells #[(.slice A_x1_0 n_x1_0 c_x1_0), (.int .i64 y1.need)] 27)
    have HB_4 := Lib.hid hb4
    have HQ_5 := Lib.hid hb.size
    have HZ_4 := Lib.hid HB_4.out.size
    have HA_5 := Lib.hid (HA_4.out.trans (HB_4.out.mono HA_4.out.size))
    have HO_aHeld_5 := Lib.hid (HO_aHeld_4.out.below HB_4.out HA_4.out.size)
    have HO_aK_5 := Lib.hid (RKeys.keep HO_aK_4.out fun i hi => HB_4.out.block i (Nat.lt_of_lt_of_le hi HA_4.out.size))
    have HO_aH_5 := Lib.hid (RHead.keep HO_aH_4.out fun i hi => HB_4.out.block i (Nat.lt_of_lt_of_le hi HA_4.out.size))
    have HO_w0_5 := Lib.hid (RSigned.keep HO_w0_4.out fun i hi => HB_4.out.block i (Nat.lt_of_lt_of_le hi HZ_3.out))
    have HO_x0_5 := Lib.hid (HO_x0_4.out.below HB_4.out (Nat.le_refl _))
    have HX_aK_5 := Lib.hid (HX_aK_4.out.below HB_4.out HX_aK_4.out.lt)
    have HX_aH_5 := Lib.hid (HX_aH_4.out.below HB_4.out HX_aH_4.out.lt)
    have HX_w0_5 := Lib.hid (HX_w0_4.out.below HB_4.out HX_w0_4.out.lt)
    clear hb hown
    have HX_x1_5 := Lib.hid (show Box (W_5.alloc (.cells #[(.slice A_x1_0 n_x1_0 c_x1_0), (.int .i64 y1.need)] 27)) W_5.heap.size [(.slice A_x1_0 n_x1_0 c_x1_0), (.int .i64 y1.need)] from Box.new W_5 #[(.slice A_x1_0 n_x1_0 c_x1_0), (.int .i64 y1.need)] 27)
    clear x_aK_0 x_aK_1
    go_wp2_with (refine LD.wp_ld LD.big_lHead rfl _ rfl rfl HX_aH_5.out rfl ?_)
    refine (toHead_any [u2_0, u2_1, u2_2, u2_3, u2_4, u2_5, u2_6, u2_7, u2_8, u2_9, u2_10, u2_11, u2_12, u2_13, u2_14, u2_15] y2 _ (RHead.more HO_aH_5.out fun i hi => Nat.lt_of_lt_of_le hi HA_5.out.size) (by omega)).mono ?_
    rintro e W_6 ⟨cs_x2, rfl, hown, hb⟩
    obtain ⟨A_x2_8, n_x2_8, c_x2_8, A_x2_10, n_x2_10, c_x2_10, A_x2_13, n_x2_13, c_x2_13, rfl⟩ := RHead_shape hown.rd
    have HO_x2_6 := Lib.hid (hown.alloc (.cells #[(.int .i64 y2.zone), (.int .i64 y2.epoch), (.int .i64 y2.kind), (.int .i64 y2.time), (.int .i64 y2.until_), (.int .i64 y2.count), (.int .i64 y2.root), (.int .i64 y2.prev), (.slice A_x2_8 n_x2_8 c_x2_8), (.int .i64 y2.keys.need), (.slice A_x2_10 n_x2_10 c_x2_10), (.int .i64 y2.heirs.need), (.int .i64 y2.wait), (.slice A_x2_13 n_x2_13 c_x2_13), (.int .i64 y2.judge.need), (.bool y2.frozen)] 35))
    have HT_6 := Lib.hid (show W_6.heap.size ≤ (W_6.alloc (.cells #[(.int .i64 y2.zone), (.int .i64 y2.epoch), (.int .i64 y2.kind), (.int .i64 y2.time), (.int .i64 y2.until_), (.int .i64 y2.count), (.int .i64 y2.root), (.int .i64 y2.prev), (.slice A_x2_8 n_x2_8 c_x2_8), (.int .i64 y2.keys.need), (.slice A_x2_10 n_x2_10 c_x2_10), (.int .i64 y2.heirs.need), (.int .i64 y2.wait), (.slice A_x2_13 n_x2_13 c_x2_13), (.int .i64 y2.judge.need), (.bool y2.frozen)] 35)).heap.size by simp)
    have hb5 := hb.alloc hb.size (.cells #[(.int .i64 y2.zone), (.int .i64 y2.epoch), (.int .i64 y2.kind), (.int .i64 y2.time), (.int .i64 y2.until_), (.int .i64 y2.count), (.int .i64 y2.root), (.int .i64 y2.prev), (.slice A_x2_8 n_x2_8 c_x2_8), (.int .i64 y2.keys.need), (.slice A_x2_10 n_x2_10 c_x2_10), (.int .i64 y2.heirs.need), (.int .i64 y2.wait), (.slice A_x2_13 n_x2_13 c_x2_13), (.int .i64 y2.judge.need), (.bool y2.frozen)] 35)
    have HB_5 := Lib.hid hb5
    have HQ_6 := Lib.hid hb.size
    have HZ_5 := Lib.hid HB_5.out.size
    have HA_6 := Lib.hid (HA_5.out.trans (HB_5.out.mono HA_5.out.size))
    have HO_aHeld_6 := Lib.hid (HO_aHeld_5.out.below HB_5.out HA_5.out.size)
    have HO_aK_6 := Lib.hid (RKeys.keep HO_aK_5.out fun i hi => HB_5.out.block i (Nat.lt_of_lt_of_le hi HA_5.out.size))
    have HO_aH_6 := Lib.hid (RHead.keep HO_aH_5.out fun i hi => HB_5.out.block i (Nat.lt_of_lt_of_le hi HA_5.out.size))
    have HO_w0_6 := Lib.hid (RSigned.keep HO_w0_5.out fun i hi => HB_5.out.block i (Nat.lt_of_lt_of_le hi (Nat.le_trans HZ_3.out HZ_4.out)))
    have HO_x0_6 := Lib.hid (HO_x0_5.out.below HB_5.out HZ_4.out)
    have HO_x1_6 := Lib.hid (HO_x1_5.out.below HB_5.out (Nat.le_trans HT_5.out (Nat.le_refl _)))
    have HX_aK_6 := Lib.hid (HX_aK_5.out.below HB_5.out HX_aK_5.out.lt)
    have HX_aH_6 := Lib.hid (HX_aH_5.out.below HB_5.out HX_aH_5.out.lt)
    have HX_w0_6 := Lib.hid (HX_w0_5.out.below HB_5.out HX_w0_5.out.lt)
    have HX_x1_6 := Lib.hid (HX_x1_5.out.below HB_5.out HX_x1_5.out.lt)
    clear hb hown
    have HX_x2_6 := Lib.hid (show Box (W_6.alloc (.cells #[(.int .i64 y2.zone), (.int .i64 y2.epoch), (.int .i64 y2.kind), (.int .i64 y2.time), (.int .i64 y2.until_), (.int .i64 y2.count), (.int .i64 y2.root), (.int .i64 y2.prev), (.slice A_x2_8 n_x2_8 c_x2_8), (.int .i64 y2.keys.need), (.slice A_x2_10 n_x2_10 c_x2_10), (.int .i64 y2.heirs.need), (.int .i64 y2.wait), (.slice A_x2_13 n_x2_13 c_x2_13), (.int .i64 y2.judge.need), (.bool y2.frozen)] 35)) W_6.heap.size [(.int .i64 y2.zone), (.int .i64 y2.epoch), (.int .i64 y2.kind), (.int .i64 y2.time), (.int .i64 y2.until_), (.int .i64 y2.count), (.int .i64 y2.root), (.int .i64 y2.prev), (.slice A_x2_8 n_x2_8 c_x2_8), (.int .i64 y2.keys.need), (.slice A_x2_10 n_x2_10 c_x2_10), (.int .i64 y2.heirs.need), (.int .i64 y2.wait), (.slice A_x2_13 n_x2_13 c_x2_13), (.int .i64 y2.judge.need), (.bool y2.frozen)] from Box.new W_6 #[(.int .i64 y2.zone), (.int .i64 y2.epoch), (.int .i64 y2.kind), (.int .i64 y2.time), (.int .i64 y2.until_), (.int .i64 y2.count), (.int .i64 y2.root), (.int .i64 y2.prev), (.slice A_x2_8 n_x2_8 c_x2_8), (.int .i64 y2.keys.need), (.slice A_x2_10 n_x2_10 c_x2_10), (.int .i64 y2.heirs.need), (.int .i64 y2.wait), (.slice A_x2_13 n_x2_13 c_x2_13), (.int .i64 y2.judge.need), (.bool y2.frozen)] 35)
    have x_x1_0 := HX_x1_6.out.cell (j := 0) rfl
    have x_x1_1 := HX_x1_6.out.cell (j := 1) rfl
    go_wp2_with (first | (refine LD.wp_ld LD.big_Head rfl _ rfl rfl HX_x2_6.out rfl ?_) | (refine LD.wp_new LD.big_Head rfl _ _ rfl rfl rfl rfl rfl rfl ?_))
    refine (HI.out A_x0 l0 c_x0 [(.slice A_x1_0 n_x1_0 c_x1_0), (.int .i64 y1.need)] [(.int .i64 y2.zone), (.int .i64 y2.epoch), (.int .i64 y2.kind), (.int .i64 y2.time), (.int .i64 y2.until_), (.int .i64 y2.count), (.int .i64 y2.root), (.int .i64 y2.prev), (.slice A_x2_8 n_x2_8 c_x2_8), (.int .i64 y2.keys.need), (.slice A_x2_10 n_x2_10 c_x2_10), (.int .i64 y2.heirs.need), (.int .i64 y2.wait), (.slice A_x2_13 n_x2_13 c_x2_13), (.int .i64 y2.judge.need), (.bool y2.frozen)] _ (HO_x0_6.out.cap.1) (HO_x0_6.out.rd.more (Nat.le_trans HZ_4.out HZ_5.out)) (RKeys.more HO_x1_6.out.rd fun i hi => Nat.lt_of_lt_of_le hi (Nat.le_trans HT_5.out HZ_5.out)) (RHead.more HO_x2_6.out.rd fun i hi => Nat.lt_of_lt_of_le hi (Nat.le_trans HT_6.out (Nat.le_refl _)))).mono ?_
    rintro e W_7 ⟨cs_g0, rfl, ho0, hb⟩
    obtain ⟨A_g0_8, n_g0_8, c_g0_8, A_g0_10, n_g0_10, c_g0_10, A_g0_13, n_g0_13, c_g0_13, A_g0_16, n_g0_16, c_g0_16, rfl⟩ := RSigned_shape ho0.rd
    have HO_g0_7 := Lib.hid (ho0.alloc (.cells #[(.int .i64 r0.head.zone), (.int .i64 r0.head.epoch), (.int .i64 r0.head.kind), (.int .i64 r0.head.time), (.int .i64 r0.head.until_), (.int .i64 r0.head.count), (.int .i64 r0.head.root), (.int .i64 r0.head.prev), (.slice A_g0_8 n_g0_8 c_g0_8), (.int .i64 r0.head.keys.need), (.slice A_g0_10 n_g0_10 c_g0_10), (.int .i64 r0.head.heirs.need), (.int .i64 r0.head.wait), (.slice A_g0_13 n_g0_13 c_g0_13), (.int .i64 r0.head.judge.need), (.bool r0.head.frozen), (.slice A_g0_16 n_g0_16 c_g0_16)] 38))
    have HT_7 := Lib.hid (show W_7.heap.size ≤ (W_7.alloc (.cells #[(.int .i64 r0.head.zone), (.int .i64 r0.head.epoch), (.int .i64 r0.head.kind), (.int .i64 r0.head.time), (.int .i64 r0.head.until_), (.int .i64 r0.head.count), (.int .i64 r0.head.root), (.int .i64 r0.head.prev), (.slice A_g0_8 n_g0_8 c_g0_8), (.int .i64 r0.head.keys.need), (.slice A_g0_10 n_g0_10 c_g0_10), (.int .i64 r0.head.heirs.need), (.int .i64 r0.head.wait), (.slice A_g0_13 n_g0_13 c_g0_13), (.int .i64 r0.head.judge.need), (.bool r0.head.frozen), (.slice A_g0_16 n_g0_16 c_g0_16)] 38)).heap.size by simp)
    have hb6 := hb.alloc hb.size (.cells #[(.int .i64 r0.head.zone), (.int .i64 r0.head.epoch), (.int .i64 r0.head.kind), (.int .i64 r0.head.time), (.int .i64 r0.head.until_), (.int .i64 r0.head.count), (.int .i64 r0.head.root), (.int .i64 r0.head.prev), (.slice A_g0_8 n_g0_8 c_g0_8), (.int .i64 r0.head.keys.need), (.slice A_g0_10 n_g0_10 c_g0_10), (.int .i64 r0.head.heirs.need), (.int .i64 r0.head.wait), (.slice A_g0_13 n_g0_13 c_g0_13), (.int .i64 r0.head.judge.need), (.bool r0.head.frozen), (.slice A_g0_16 n_g0_16 c_g0_16)] 38)
    have HB_6 := Lib.hid hb6
    have HQ_7 := Lib.hid hb.size
    have HZ_6 := Lib.hid HB_6.out.size
    have HA_7 := Lib.hid (HA_6.out.trans (HB_6.out.mono HA_6.out.size))
    have HO_aHeld_7 := Lib.hid (HO_aHeld_6.out.below HB_6.out HA_6.out.size)
    have HO_aK_7 := Lib.hid (RKeys.keep HO_aK_6.out fun i hi => HB_6.out.block i (Nat.lt_of_lt_of_le hi HA_6.out.size))
    have HO_aH_7 := Lib.hid (RHead.keep HO_aH_6.out fun i hi => HB_6.out.block i (Nat.lt_of_lt_of_le hi HA_6.out.size))
    have HO_w0_7 := Lib.hid (RSigned.keep HO_w0_6.out fun i hi => HB_6.out.block i (Nat.lt_of_lt_of_le hi (Nat.le_trans (Nat.le_trans HZ_3.out HZ_4.out) HZ_5.out)))
    have HO_x0_7 := Lib.hid (HO_x0_6.out.below HB_6.out (Nat.le_trans HZ_4.out HZ_5.out))
    have HO_x1_7 := Lib.hid (HO_x1_6.out.below HB_6.out (Nat.le_trans HT_5.out HZ_5.out))
    have HO_x2_7 := Lib.hid (HO_x2_6.out.below HB_6.out (Nat.le_trans HT_6.out (Nat.le_refl _)))
    have HX_aK_7 := Lib.hid (HX_aK_6.out.below HB_6.out HX_aK_6.out.lt)
    have HX_aH_7 := Lib.hid (HX_aH_6.out.below HB_6.out HX_aH_6.out.lt)
    have HX_w0_7 := Lib.hid (HX_w0_6.out.below HB_6.out HX_w0_6.out.lt)
    have HX_x1_7 := Lib.hid (HX_x1_6.out.below HB_6.out HX_x1_6.out.lt)
    have HX_x2_7 := Lib.hid (HX_x2_6.out.below HB_6.out HX_x2_6.out.lt)
    clear hb ho0
    have HX_g0_7 := Lib.hid (show Box (W_7.alloc (.cells #[(.int .i64 r0.head.zone), (.int .i64 r0.head.epoch), (.int .i64 r0.head.kind), (.int .i64 r0.head.time), (.int .i64 r0.head.until_), (.int .i64 r0.head.count), (.int .i64 r0.head.root), (.int .i64 r0.head.prev), (.slice A_g0_8 n_g0_8 c_g0_8), (.int .i64 r0.head.keys.need), (.slice A_g0_10 n_g0_10 c_g0_10), (.int .i64 r0.head.heirs.need), (.int .i64 r0.head.wait), (.slice A_g0_13 n_g0_13 c_g0_13), (.int .i64 r0.head.judge.need), (.bool r0.head.frozen), (.slice A_g0_16 n_g0_16 c_g0_16)] 38)) W_7.heap.size [(.int .i64 r0.head.zone), (.int .i64 r0.head.epoch), (.int .i64 r0.head.kind), (.int .i64 r0.head.time), (.int .i64 r0.head.until_), (.int .i64 r0.head.count), (.int .i64 r0.head.root), (.int .i64 r0.head.prev), (.slice A_g0_8 n_g0_8 c_g0_8), (.int .i64 r0.head.keys.need), (.slice A_g0_10 n_g0_10 c_g0_10), (.int .i64 r0.head.heirs.need), (.int .i64 r0.head.wait), (.slice A_g0_13 n_g0_13 c_g0_13), (.int .i64 r0.head.judge.need), (.bool r0.head.frozen), (.slice A_g0_16 n_g0_16 c_g0_16)] from Box.new W_7 #[(.int .i64 r0.head.zone), (.int .i64 r0.head.epoch), (.int .i64 r0.head.kind), (.int .i64 r0.head.time), (.int .i64 r0.head.until_), (.int .i64 r0.head.count), (.int .i64 r0.head.root), (.int .i64 r0.head.prev), (.slice A_g0_8 n_g0_8 c_g0_8), (.int .i64 r0.head.keys.need), (.slice A_g0_10 n_g0_10 c_g0_10), (.int .i64 r0.head.heirs.need), (.int .i64 r0.head.wait), (.slice A_g0_13 n_g0_13 c_g0_13), (.int .i64 r0.head.judge.need), (.bool r0.head.frozen), (.slice A_g0_16 n_g0_16 c_g0_16)] 38)
    clear x_x1_0 x_x1_1
    go_wp2_with (first | (refine LD.wp_ld LD.big_Signed rfl _ rfl rfl HX_g0_7.out rfl ?_) | (refine LD.wp_ld LD.big_Signed rfl _ rfl rfl HX_w0_7.out rfl ?_) | (refine LD.wp_new LD.big_Signed rfl _ _ rfl rfl rfl rfl rfl rfl ?_))
    refine (eqSigned_same _ _ [(.int .i64 r0.head.zone), (.int .i64 r0.head.epoch), (.int .i64 r0.head.kind), (.int .i64 r0.head.time), (.int .i64 r0.head.until_), (.int .i64 r0.head.count), (.int .i64 r0.head.root), (.int .i64 r0.head.prev), (.slice A_g0_8 n_g0_8 c_g0_8), (.int .i64 r0.head.keys.need), (.slice A_g0_10 n_g0_10 c_g0_10), (.int .i64 r0.head.heirs.need), (.int .i64 r0.head.wait), (.slice A_g0_13 n_g0_13 c_g0_13), (.int .i64 r0.head.judge.need), (.bool r0.head.frozen), (.slice A_g0_16 n_g0_16 c_g0_16)] [(.int .i64 r0.head.zone), (.int .i64 r0.head.epoch), (.int .i64 r0.head.kind), (.int .i64 r0.head.time), (.int .i64 r0.head.until_), (.int .i64 r0.head.count), (.int .i64 r0.head.root), (.int .i64 r0.head.prev), (.slice A_w0_8 n_w0_8 c_w0_8), (.int .i64 r0.head.keys.need), (.slice A_w0_10 n_w0_10 c_w0_10), (.int .i64 r0.head.heirs.need), (.int .i64 r0.head.wait), (.slice A_w0_13 n_w0_13 c_w0_13), (.int .i64 r0.head.judge.need), (.bool r0.head.frozen), (.slice A_w0_16 n_w0_16 c_w0_16)] r0 _ (RSigned.more HO_g0_7.out.rd fun i hi => Nat.lt_of_lt_of_le hi (Nat.le_trans HT_7.out (Nat.le_refl _))) (RSigned.more HO_w0_7.out fun i hi => Nat.lt_of_lt_of_le hi (Nat.le_trans (Nat.le_trans (Nat.le_trans HZ_3.out HZ_4.out) HZ_5.out) HZ_6.out)) (Nat.le_refl _) (Nat.le_refl _) (by omega)).mono ?_
    rintro e W_8 ⟨rfl, hb⟩
    have HB_7 := Lib.hid hb
    have HZ_7 := Lib.hid HB_7.out.size
    have HA_8 := Lib.hid (HA_7.out.trans (HB_7.out.mono HA_7.out.size))
    have HO_aHeld_8 := Lib.hid (HO_aHeld_7.out.below HB_7.out HA_7.out.size)
    have HO_aK_8 := Lib.hid (RKeys.keep HO_aK_7.out fun i hi => HB_7.out.block i (Nat.lt_of_lt_of_le hi HA_7.out.size))
    have HO_aH_8 := Lib.hid (RHead.keep HO_aH_7.out fun i hi => HB_7.out.block i (Nat.lt_of_lt_of_le hi HA_7.out.size))
    have HO_w0_8 := Lib.hid (RSigned.keep HO_w0_7.out fun i hi => HB_7.out.block i (Nat.lt_of_lt_of_le hi (Nat.le_trans (Nat.le_trans (Nat.le_trans HZ_3.out HZ_4.out) HZ_5.out) HZ_6.out)))
    have HO_x0_8 := Lib.hid (HO_x0_7.out.below HB_7.out (Nat.le_trans (Nat.le_trans HZ_4.out HZ_5.out) HZ_6.out))
    have HO_x1_8 := Lib.hid (HO_x1_7.out.below HB_7.out (Nat.le_trans HT_5.out (Nat.le_trans HZ_5.out HZ_6.out)))
    have HO_x2_8 := Lib.hid (HO_x2_7.out.below HB_7.out (Nat.le_trans HT_6.out HZ_6.out))
    have HO_g0_8 := Lib.hid (HO_g0_7.out.below HB_7.out (Nat.le_trans HT_7.out (Nat.le_refl _)))
    have HX_aK_8 := Lib.hid (HX_aK_7.out.below HB_7.out HX_aK_7.out.lt)
    have HX_aH_8 := Lib.hid (HX_aH_7.out.below HB_7.out HX_aH_7.out.lt)
    have HX_w0_8 := Lib.hid (HX_w0_7.out.below HB_7.out HX_w0_7.out.lt)
    have HX_x1_8 := Lib.hid (HX_x1_7.out.below HB_7.out HX_x1_7.out.lt)
    have HX_x2_8 := Lib.hid (HX_x2_7.out.below HB_7.out HX_x2_7.out.lt)
    have HX_g0_8 := Lib.hid (HX_g0_7.out.below HB_7.out HX_g0_7.out.lt)
    clear hb
    go_wp2_with fail
    refine (toIntS_any a0 l0 c0 y0 _ (HO_aHeld_8.out.more HA_8.out.size) (by omega)).mono ?_
    rintro e W_9 ⟨A__t3, c__t3, rfl, hown, hb⟩
    have HO__t3_9 := Lib.hid hown
    have HB_8 := Lib.hid hb
    have HZ_8 := Lib.hid HB_8.out.size
    have HA_9 := Lib.hid (HA_8.out.trans (HB_8.out.mono HA_8.out.size))
    have HO_aHeld_9 := Lib.hid (HO_aHeld_8.out.below HB_8.out HA_8.out.size)
    have HO_aK_9 := Lib.hid (RKeys.keep HO_aK_8.out fun i hi => HB_8.out.block i (Nat.lt_of_lt_of_le hi HA_8.out.size))
    have HO_aH_9 := Lib.hid (RHead.keep HO_aH_8.out fun i hi => HB_8.out.block i (Nat.lt_of_lt_of_le hi HA_8.out.size))
    have HO_w0_9 := Lib.hid (RSigned.keep HO_w0_8.out fun i hi => HB_8.out.block i (Nat.lt_of_lt_of_le hi (Nat.le_trans (Nat.le_trans (Nat.le_trans (Nat.le_trans HZ_3.out HZ_4.out) HZ_5.out) HZ_6.out) HZ_7.out)))
    have HO_x0_9 := Lib.hid (HO_x0_8.out.below HB_8.out (Nat.le_trans (Nat.le_trans (Nat.le_trans HZ_4.out HZ_5.out) HZ_6.out) HZ_7.out))
    have HO_x1_9 := Lib.hid (HO_x1_8.out.below HB_8.out (Nat.le_trans HT_5.out (Nat.le_trans (Nat.le_trans HZ_5.out HZ_6.out) HZ_7.out)))
    have HO_x2_9 := Lib.hid (HO_x2_8.out.below HB_8.out (Nat.le_trans HT_6.out (Nat.le_trans HZ_6.out HZ_7.out)))
    have HO_g0_9 := Lib.hid (HO_g0_8.out.below HB_8.out (Nat.le_trans HT_7.out HZ_7.out))
    have HX_aK_9 := Lib.hid (HX_aK_8.out.below HB_8.out HX_aK_8.out.lt)
    have HX_aH_9 := Lib.hid (HX_aH_8.out.below HB_8.out HX_aH_8.out.lt)
    have HX_w0_9 := Lib.hid (HX_w0_8.out.below HB_8.out HX_w0_8.out.lt)
    have HX_x1_9 := Lib.hid (HX_x1_8.out.below HB_8.out HX_x1_8.out.lt)
    have HX_x2_9 := Lib.hid (HX_x2_8.out.below HB_8.out HX_x2_8.out.lt)
    have HX_g0_9 := Lib.hid (HX_g0_8.out.below HB_8.out HX_g0_8.out.lt)
    clear hb hown
    go_wp2_with fail
    refine (eqIntS_same _ _ A_x0 A__t3 l0 c_x0 c__t3 y0 _ (HO_x0_9.out.rd.more (Nat.le_trans (Nat.le_trans (Nat.le_trans (Nat.le_trans HZ_4.out HZ_5.out) HZ_6.out) HZ_7.out) HZ_8.out)) (HO__t3_9.out.rd.more (Nat.le_refl _)) (by omega)).mono ?_
    rintro e W_10 ⟨rfl, hb⟩
    have HB_9 := Lib.hid hb
    have HZ_9 := Lib.hid (HB_9.out.below 0).size
    have HA_10 := Lib.hid (HA_9.out.trans (HB_9.out.below _))
    have HO_aHeld_10 := Lib.hid (HO_aHeld_9.out.same HB_9.out)
    have HO_aK_10 := Lib.hid (RKeys.keep HO_aK_9.out fun i hi => by rw [HB_9.out.heap])
    have HO_aH_10 := Lib.hid (RHead.keep HO_aH_9.out fun i hi => by rw [HB_9.out.heap])
    have HO_w0_10 := Lib.hid (RSigned.keep HO_w0_9.out fun i hi => by rw [HB_9.out.heap])
    have HO_x0_10 := Lib.hid (HO_x0_9.out.same HB_9.out)
    have HO_x1_10 := Lib.hid (HO_x1_9.out.same HB_9.out)
    have HO_x2_10 := Lib.hid (HO_x2_9.out.same HB_9.out)
    have HO_g0_10 := Lib.hid (HO_g0_9.out.same HB_9.out)
    have HX_aK_10 := Lib.hid (HX_aK_9.out.keep (by rw [HB_9.out.heap]))
    have HX_aH_10 := Lib.hid (HX_aH_9.out.keep (by rw [HB_9.out.heap]))
    have HX_w0_10 := Lib.hid (HX_w0_9.out.keep (by rw [HB_9.out.heap]))
    have HX_x1_10 := Lib.hid (HX_x1_9.out.keep (by rw [HB_9.out.heap]))
    have HX_x2_10 := Lib.hid (HX_x2_9.out.keep (by rw [HB_9.out.heap]))
    have HX_g0_10 := Lib.hid (HX_g0_9.out.keep (by rw [HB_9.out.heap]))
    clear hb
    go_wp2_with fail
    refine RG.region (tabP [sv (.agg #[(.slice A_x1_0 n_x1_0 c_x1_0), (.int .i64 y1.need)]), sv (.agg #[u1_0, u1_1]), srep RKeys (y1), sv (.bool (true)), sv (.bool (!(true)))]) (by kernel_rfl) (by kernel_rfl) (tab_keep _) ?_ ?_
    · refine steps_cons ?_ (steps_cons ?_ (steps_cons ?_ (steps_cons ?_ (steps_cons ?_ (steps_nil)))))
      · intro aa ww hA K hK
        refine free rfl ?_
        have e10 : aa.tmps.getD 10 undef = .pointer (some ⟨W_5.heap.size, 0, none⟩) := hA.old 10 (by kernel_rfl)
        have cqHX_x1_100 := (hA.bel.cell (p := ⟨W_5.heap.size, 0, none⟩) HX_x1_10.out.lt).trans (HX_x1_10.out.cell (j := 0) rfl)
        have cqHX_x1_101 := (hA.bel.cell (p := ⟨W_5.heap.size, 1, none⟩) HX_x1_10.out.lt).trans (HX_x1_10.out.cell (j := 1) rfl)
        exact gives hK (v := .agg #[(.slice A_x1_0 n_x1_0 c_x1_0), (.int .i64 y1.need)]) (by simp [execOp, Act.eval, e10, cqHX_x1_100, cqHX_x1_101, go_sem]) rfl
      · intro aa ww hA K hK
        refine free rfl ?_
        have e4 : aa.tmps.getD 4 undef = .pointer (some ⟨W0.heap.size, 0, none⟩) := hA.old 4 (by kernel_rfl)
        have cqHX_aK_100 := (hA.bel.cell (p := ⟨W0.heap.size, 0, none⟩) HX_aK_10.out.lt).trans (HX_aK_10.out.cell (j := 0) rfl)
        have cqHX_aK_101 := (hA.bel.cell (p := ⟨W0.heap.size, 1, none⟩) HX_aK_10.out.lt).trans (HX_aK_10.out.cell (j := 1) rfl)
        exact gives hK (v := .agg #[u1_0, u1_1]) (by simp [execOp, Act.eval, e4, cqHX_aK_100, cqHX_aK_101, go_sem]) rfl
      · intro aa ww hA K hK
        refine free rfl ?_
        have e57 : aa.tmps.getD 57 undef = .agg #[u1_0, u1_1] := hA.got 1 57 (by kernel_rfl)
        refine calls hK (by simp [Act.eval, e57, go_sem]) (toKeys_any [u1_0, u1_1] y1 ww (rgUp (RKeys.more HO_aK_10.out fun i hi => Nat.lt_of_lt_of_le hi HA_10.out.size) (RKA.below_drew hA.bel)) (by omega)) ?_
        rintro e w1 ⟨cs9, rfl, hown, hb⟩
        exact ⟨_, rfl, hb, ⟨cs9, rfl, hown.rd⟩⟩
      · intro aa ww hA K hK
        refine free rfl ?_
        have e56 : aa.tmps.getD 56 undef = .agg #[(.slice A_x1_0 n_x1_0 c_x1_0), (.int .i64 y1.need)] := hA.got 0 56 (by kernel_rfl)
        obtain ⟨q58, e58, h58⟩ := hA.got 2 58 (by kernel_rfl)
        refine calls hK (by simp [Act.eval, e56, e58, go_sem]) (eqKeys_same _ _ [(.slice A_x1_0 n_x1_0 c_x1_0), (.int .i64 y1.need)] q58 y1 ww (rgUp (RKeys.more HO_x1_10.out.rd fun i hi => Nat.lt_of_lt_of_le hi (Nat.le_trans HT_5.out (Nat.le_trans (Nat.le_trans (Nat.le_trans (Nat.le_trans HZ_5.out HZ_6.out) HZ_7.out) HZ_8.out) HZ_9.out))) (RKA.below_drew hA.bel)) h58 (Nat.le_refl _) (Nat.le_refl _) (by omega)) ?_
        rintro e w1 ⟨rfl, hb⟩
        exact ⟨_, rfl, hb, rfl⟩
      · intro aa ww hA K hK
        refine free rfl ?_
        have e59 : aa.tmps.getD 59 undef = .bool (true) := hA.got 3 59 (by kernel_rfl)
        exact gives hK (v := .bool (!(true))) (by simp [execOp, Act.eval, e59, Op.unary, go_sem]) rfl
    · intro a1 W_11 hb hd hsz hold hgot
      have g60 : a1.tmps.getD 60 undef = .bool false := (hgot 4 60 (by kernel_rfl)).trans (rfl)
      have ea := act_put hd hsz hold [56, 57, 58, 59, 60] rfl
      simp only [List.foldl_cons, List.foldl_nil, g60] at ea
      rename_i K9 hK9
      refine hK9 a1 W_11 ?_
      generalize a1.tmps.getD 56 undef = v56 at ea
      generalize a1.tmps.getD 57 undef = v57 at ea
      generalize a1.tmps.getD 58 undef = v58 at ea
      generalize a1.tmps.getD 59 undef = v59 at ea
      clear hgot hold hsz hd g60
      simp only [Act.put, List.setIfInBounds_toArray, List.set_cons_succ, List.set_cons_zero] at ea
      subst ea
      have hb := RKA.below_drew hb
      have HB_10 := Lib.hid hb
      have HZ_10 := Lib.hid HB_10.out.size
      have HA_11 := Lib.hid (HA_10.out.trans (HB_10.out.mono HA_10.out.size))
      have HO_aHeld_11 := Lib.hid (HO_aHeld_10.out.below HB_10.out HA_10.out.size)
      have HO_aK_11 := Lib.hid (RKeys.keep HO_aK_10.out fun i hi => HB_10.out.block i (Nat.lt_of_lt_of_le hi HA_10.out.size))
      have HO_aH_11 := Lib.hid (RHead.keep HO_aH_10.out fun i hi => HB_10.out.block i (Nat.lt_of_lt_of_le hi HA_10.out.size))
      have HO_w0_11 := Lib.hid (RSigned.keep HO_w0_10.out fun i hi => HB_10.out.block i (Nat.lt_of_lt_of_le hi (Nat.le_trans (Nat.le_trans (Nat.le_trans (Nat.le_trans (Nat.le_trans (Nat.le_trans HZ_3.out HZ_4.out) HZ_5.out) HZ_6.out) HZ_7.out) HZ_8.out) HZ_9.out)))
      have HO_x0_11 := Lib.hid (HO_x0_10.out.below HB_10.out (Nat.le_trans (Nat.le_trans (Nat.le_trans (Nat.le_trans (Nat.le_trans HZ_4.out HZ_5.out) HZ_6.out) HZ_7.out) HZ_8.out) HZ_9.out))
      have HO_x1_11 := Lib.hid (HO_x1_10.out.below HB_10.out (Nat.le_trans HT_5.out (Nat.le_trans (Nat.le_trans (Nat.le_trans (Nat.le_trans HZ_5.out HZ_6.out) HZ_7.out) HZ_8.out) HZ_9.out)))
      have HO_x2_11 := Lib.hid (HO_x2_10.out.below HB_10.out (Nat.le_trans HT_6.out (Nat.le_trans (Nat.le_trans (Nat.le_trans HZ_6.out HZ_7.out) HZ_8.out) HZ_9.out)))
      have HO_g0_11 := Lib.hid (HO_g0_10.out.below HB_10.out (Nat.le_trans HT_7.out (Nat.le_trans (Nat.le_trans HZ_7.out HZ_8.out) HZ_9.out)))
      have HX_aK_11 := Lib.hid (HX_aK_10.out.below HB_10.out HX_aK_10.out.lt)
      have HX_aH_11 := Lib.hid (HX_aH_10.out.below HB_10.out HX_aH_10.out.lt)
      have HX_w0_11 := Lib.hid (HX_w0_10.out.below HB_10.out HX_w0_10.out.lt)
      have HX_x1_11 := Lib.hid (HX_x1_10.out.below HB_10.out HX_x1_10.out.lt)
      have HX_x2_11 := Lib.hid (HX_x2_10.out.below HB_10.out HX_x2_10.out.lt)
      have HX_g0_11 := Lib.hid (HX_g0_10.out.below HB_10.out HX_g0_10.out.lt)
      clear hb
      go_wp2_with fail
      refine RG.region (tabP [sv (.agg #[(.int .i64 y2.zone), (.int .i64 y2.epoch), (.int .i64 y2.kind), (.int .i64 y2.time), (.int .i64 y2.until_), (.int .i64 y2.count), (.int .i64 y2.root), (.int .i64 y2.prev), (.slice A_x2_8 n_x2_8 c_x2_8), (.int .i64 y2.keys.need), (.slice A_x2_10 n_x2_10 c_x2_10), (.int .i64 y2.heirs.need), (.int .i64 y2.wait), (.slice A_x2_13 n_x2_13 c_x2_13), (.int .i64 y2.judge.need), (.bool y2.frozen)]), sv (.agg #[u2_0, u2_1, u2_2, u2_3, u2_4, u2_5, u2_6, u2_7, u2_8, u2_9, u2_10, u2_11, u2_12, u2_13, u2_14, u2_15]), srep RHead (y2), sv (.bool (true)), sv (.bool (!(true)))]) (by kernel_rfl) (by kernel_rfl) (tab_keep _) ?_ ?_
      · refine steps_cons ?_ (steps_cons ?_ (steps_cons ?_ (steps_cons ?_ (steps_cons ?_ (steps_nil)))))
        · intro aa ww hA K hK
          refine free rfl ?_
          have e11 : aa.tmps.getD 11 undef = .pointer (some ⟨W_6.heap.size, 0, none⟩) := hA.old 11 (by kernel_rfl)
          have ldHX_x2_11 := LD.ld_run LD.big_Head (HX_x2_11.out.keep (hA.bel.block (W_6.heap.size) HX_x2_11.out.lt)) rfl
          exact gives hK (v := .agg #[(.int .i64 y2.zone), (.int .i64 y2.epoch), (.int .i64 y2.kind), (.int .i64 y2.time), (.int .i64 y2.until_), (.int .i64 y2.count), (.int .i64 y2.root), (.int .i64 y2.prev), (.slice A_x2_8 n_x2_8 c_x2_8), (.int .i64 y2.keys.need), (.slice A_x2_10 n_x2_10 c_x2_10), (.int .i64 y2.heirs.need), (.int .i64 y2.wait), (.slice A_x2_13 n_x2_13 c_x2_13), (.int .i64 y2.judge.need), (.bool y2.frozen)]) (by simp only [execOp, Act.eval, e11, ldHX_x2_11, Sem.run_bind, Sem.run_pure, Result.andThen_ok]) rfl
        · intro aa ww hA K hK
          refine free rfl ?_
          have e5 : aa.tmps.getD 5 undef = .pointer (some ⟨W0.heap.size + 1, 0, none⟩) := hA.old 5 (by kernel_rfl)
          have ldHX_aH_11 := LD.ld_run LD.big_lHead (HX_aH_11.out.keep (hA.bel.block (W0.heap.size + 1) HX_aH_11.out.lt)) rfl
          exact gives hK (v := .agg #[u2_0, u2_1, u2_2, u2_3, u2_4, u2_5, u2_6, u2_7, u2_8, u2_9, u2_10, u2_11, u2_12, u2_13, u2_14, u2_15]) (by simp only [execOp, Act.eval, e5, ldHX_aH_11, Sem.run_bind, Sem.run_pure, Result.andThen_ok]) rfl
        · intro aa ww hA K hK
          refine free rfl ?_
          have e62 : aa.tmps.getD 62 undef = .agg #[u2_0, u2_1, u2_2, u2_3, u2_4, u2_5, u2_6, u2_7, u2_8, u2_9, u2_10, u2_11, u2_12, u2_13, u2_14, u2_15] := hA.got 1 62 (by kernel_rfl)
          refine calls hK (by simp [Act.eval, e62, go_sem]) (toHead_any [u2_0, u2_1, u2_2, u2_3, u2_4, u2_5, u2_6, u2_7, u2_8, u2_9, u2_10, u2_11, u2_12, u2_13, u2_14, u2_15] y2 ww (rgUp (RHead.more HO_aH_11.out fun i hi => Nat.lt_of_lt_of_le hi HA_11.out.size) (RKA.below_drew hA.bel)) (by omega)) ?_
          rintro e w1 ⟨cs9, rfl, hown, hb⟩
          exact ⟨_, rfl, hb, ⟨cs9, rfl, hown.rd⟩⟩
        · intro aa ww hA K hK
          refine free rfl ?_
          have e61 : aa.tmps.getD 61 undef = .agg #[(.int .i64 y2.zone), (.int .i64 y2.epoch), (.int .i64 y2.kind), (.int .i64 y2.time), (.int .i64 y2.until_), (.int .i64 y2.count), (.int .i64 y2.root), (.int .i64 y2.prev), (.slice A_x2_8 n_x2_8 c_x2_8), (.int .i64 y2.keys.need), (.slice A_x2_10 n_x2_10 c_x2_10), (.int .i64 y2.heirs.need), (.int .i64 y2.wait), (.slice A_x2_13 n_x2_13 c_x2_13), (.int .i64 y2.judge.need), (.bool y2.frozen)] := hA.got 0 61 (by kernel_rfl)
          obtain ⟨q63, e63, h63⟩ := hA.got 2 63 (by kernel_rfl)
          refine calls hK (by simp [Act.eval, e61, e63, go_sem]) (eqHead_same _ _ [(.int .i64 y2.zone), (.int .i64 y2.epoch), (.int .i64 y2.kind), (.int .i64 y2.time), (.int .i64 y2.until_), (.int .i64 y2.count), (.int .i64 y2.root), (.int .i64 y2.prev), (.slice A_x2_8 n_x2_8 c_x2_8), (.int .i64 y2.keys.need), (.slice A_x2_10 n_x2_10 c_x2_10), (.int .i64 y2.heirs.need), (.int .i64 y2.wait), (.slice A_x2_13 n_x2_13 c_x2_13), (.int .i64 y2.judge.need), (.bool y2.frozen)] q63 y2 ww (rgUp (RHead.more HO_x2_11.out.rd fun i hi => Nat.lt_of_lt_of_le hi (Nat.le_trans HT_6.out (Nat.le_trans (Nat.le_trans (Nat.le_trans (Nat.le_trans HZ_6.out HZ_7.out) HZ_8.out) HZ_9.out) HZ_10.out))) (RKA.below_drew hA.bel)) h63 (Nat.le_refl _) (Nat.le_refl _) (by omega)) ?_
          rintro e w1 ⟨rfl, hb⟩
          exact ⟨_, rfl, hb, rfl⟩
        · intro aa ww hA K hK
          refine free rfl ?_
          have e64 : aa.tmps.getD 64 undef = .bool (true) := hA.got 3 64 (by kernel_rfl)
          exact gives hK (v := .bool (!(true))) (by simp [execOp, Act.eval, e64, Op.unary, go_sem]) rfl
      · intro a1 W_12 hb hd hsz hold hgot
        have g65 : a1.tmps.getD 65 undef = .bool false := (hgot 4 65 (by kernel_rfl)).trans (rfl)
        have ea := act_put hd hsz hold [61, 62, 63, 64, 65] rfl
        simp only [List.foldl_cons, List.foldl_nil, g65] at ea
        rename_i K9 hK9
        refine hK9 a1 W_12 ?_
        generalize a1.tmps.getD 61 undef = v61 at ea
        generalize a1.tmps.getD 62 undef = v62 at ea
        generalize a1.tmps.getD 63 undef = v63 at ea
        generalize a1.tmps.getD 64 undef = v64 at ea
        clear hgot hold hsz hd g65
        simp only [Act.put, List.setIfInBounds_toArray, List.set_cons_succ, List.set_cons_zero] at ea
        subst ea
        have hb := RKA.below_drew hb
        have HB_11 := Lib.hid hb
        have HZ_11 := Lib.hid HB_11.out.size
        have HA_12 := Lib.hid (HA_11.out.trans (HB_11.out.mono HA_11.out.size))
        have HO_aHeld_12 := Lib.hid (HO_aHeld_11.out.below HB_11.out HA_11.out.size)
        have HO_aK_12 := Lib.hid (RKeys.keep HO_aK_11.out fun i hi => HB_11.out.block i (Nat.lt_of_lt_of_le hi HA_11.out.size))
        have HO_aH_12 := Lib.hid (RHead.keep HO_aH_11.out fun i hi => HB_11.out.block i (Nat.lt_of_lt_of_le hi HA_11.out.size))
        have HO_w0_12 := Lib.hid (RSigned.keep HO_w0_11.out fun i hi => HB_11.out.block i (Nat.lt_of_lt_of_le hi (Nat.le_trans (Nat.le_trans (Nat.le_trans (Nat.le_trans (Nat.le_trans (Nat.le_trans (Nat.le_trans HZ_3.out HZ_4.out) HZ_5.out) HZ_6.out) HZ_7.out) HZ_8.out) HZ_9.out) HZ_10.out)))
        have HO_x0_12 := Lib.hid (HO_x0_11.out.below HB_11.out (Nat.le_trans (Nat.le_trans (Nat.le_trans (Nat.le_trans (Nat.le_trans (Nat.le_trans HZ_4.out HZ_5.out) HZ_6.out) HZ_7.out) HZ_8.out) HZ_9.out) HZ_10.out))
        have HO_x1_12 := Lib.hid (HO_x1_11.out.below HB_11.out (Nat.le_trans HT_5.out (Nat.le_trans (Nat.le_trans (Nat.le_trans (Nat.le_trans (Nat.le_trans HZ_5.out HZ_6.out) HZ_7.out) HZ_8.out) HZ_9.out) HZ_10.out)))
        have HO_x2_12 := Lib.hid (HO_x2_11.out.below HB_11.out (Nat.le_trans HT_6.out (Nat.le_trans (Nat.le_trans (Nat.le_trans (Nat.le_trans HZ_6.out HZ_7.out) HZ_8.out) HZ_9.out) HZ_10.out)))
        have HO_g0_12 := Lib.hid (HO_g0_11.out.below HB_11.out (Nat.le_trans HT_7.out (Nat.le_trans (Nat.le_trans (Nat.le_trans HZ_7.out HZ_8.out) HZ_9.out) HZ_10.out)))
        have HX_aK_12 := Lib.hid (HX_aK_11.out.below HB_11.out HX_aK_11.out.lt)
        have HX_aH_12 := Lib.hid (HX_aH_11.out.below HB_11.out HX_aH_11.out.lt)
        have HX_w0_12 := Lib.hid (HX_w0_11.out.below HB_11.out HX_w0_11.out.lt)
        have HX_x1_12 := Lib.hid (HX_x1_11.out.below HB_11.out HX_x1_11.out.lt)
        have HX_x2_12 := Lib.hid (HX_x2_11.out.below HB_11.out HX_x2_11.out.lt)
        have HX_g0_12 := Lib.hid (HX_g0_11.out.below HB_11.out HX_g0_11.out.lt)
        clear hb
        go_wp2_with fail
        refine (markIntS_any _ _ A_x0 l0 c_x0 y0 1 _ HO_x0_12.out (by omega) (by omega) (by omega)).mono ?_
        rintro e W_13 ⟨rfl, hown, hb⟩
        have HO_x0_13 := Lib.hid hown
        clear hown
        have HB_12 := Lib.hid hb
        have HZ_12 := Lib.hid HB_12.out.size
        have HA_13 := Lib.hid (HA_12.out.trans (HB_12.out.below HA_3.out.size HA_12.out.size))
        have HO_aHeld_13 := Lib.hid (HO_aHeld_12.out.fr HB_12.out HA_3.out.size HA_12.out.size)
        have HO_aK_13 := Lib.hid (RKeys.keep HO_aK_12.out fun i hi => HB_12.out.block i (Nat.lt_of_lt_of_le hi HA_12.out.size) (.inl (Nat.lt_of_lt_of_le hi HA_3.out.size)))
        have HO_aH_13 := Lib.hid (RHead.keep HO_aH_12.out fun i hi => HB_12.out.block i (Nat.lt_of_lt_of_le hi HA_12.out.size) (.inl (Nat.lt_of_lt_of_le hi HA_3.out.size)))
        have HO_w0_13 := Lib.hid (RSigned.keep HO_w0_12.out fun i hi => HB_12.out.block i (Nat.lt_of_lt_of_le hi (Nat.le_trans (Nat.le_trans (Nat.le_trans (Nat.le_trans (Nat.le_trans (Nat.le_trans (Nat.le_trans (Nat.le_trans HZ_3.out HZ_4.out) HZ_5.out) HZ_6.out) HZ_7.out) HZ_8.out) HZ_9.out) HZ_10.out) HZ_11.out)) (.inl (Nat.lt_of_lt_of_le hi (Nat.le_refl _))))
        have HO_x1_13 := Lib.hid (HO_x1_12.out.fr HB_12.out (.inr (Nat.le_refl _)))
        have HO_x2_13 := Lib.hid (HO_x2_12.out.fr HB_12.out (.inr HZ_4.out))
        have HO_g0_13 := Lib.hid (HO_g0_12.out.fr HB_12.out (.inr (Nat.le_trans HZ_4.out HZ_5.out)))
        have HX_aK_13 := Lib.hid (HX_aK_12.out.keep (HB_12.out.block _ HX_aK_12.out.lt (.inl (Nat.lt_of_lt_of_le HX_aK_0.out.lt (Nat.le_trans (Nat.le_trans HZ_0.out HZ_1.out) HZ_2.out)))))
        have HX_aH_13 := Lib.hid (HX_aH_12.out.keep (HB_12.out.block _ HX_aH_12.out.lt (.inl (Nat.lt_of_lt_of_le HX_aH_0.out.lt (Nat.le_trans (Nat.le_trans HZ_0.out HZ_1.out) HZ_2.out)))))
        have HX_w0_13 := Lib.hid (HX_w0_12.out.keep (HB_12.out.block _ HX_w0_12.out.lt (.inl (Nat.lt_of_lt_of_le HX_w0_3.out.lt (Nat.le_refl _)))))
        have HX_x1_13 := Lib.hid (HX_x1_12.out.keep (HB_12.out.block _ HX_x1_12.out.lt (.inr (Nat.le_trans (Nat.le_refl _) HQ_5.out))))
        have HX_x2_13 := Lib.hid (HX_x2_12.out.keep (HB_12.out.block _ HX_x2_12.out.lt (.inr (Nat.le_trans HZ_4.out HQ_6.out))))
        have HX_g0_13 := Lib.hid (HX_g0_12.out.keep (HB_12.out.block _ HX_g0_12.out.lt (.inr (Nat.le_trans (Nat.le_trans HZ_4.out HZ_5.out) HQ_7.out))))
        clear hb
        have x_x1_0 := HX_x1_13.out.cell (j := 0) rfl
        have x_x1_1 := HX_x1_13.out.cell (j := 1) rfl
        go_wp2_with fail
        refine (markKeys_any _ _ [(.slice A_x1_0 n_x1_0 c_x1_0), (.int .i64 y1.need)] y1 (1 + (l0 : Int)) _ HO_x1_13.out (Nat.le_trans HT_5.out (Nat.le_trans (Nat.le_trans (Nat.le_trans (Nat.le_trans (Nat.le_trans (Nat.le_trans (Nat.le_trans HZ_5.out HZ_6.out) HZ_7.out) HZ_8.out) HZ_9.out) HZ_10.out) HZ_11.out) HZ_12.out)) (by omega) (by omega) (by omega)).mono ?_
        rintro e W_14 ⟨rfl, hown, hb⟩
        have HO_x1_14 := Lib.hid hown
        clear hown
        have HB_13 := Lib.hid hb
        have HZ_13 := Lib.hid HB_13.out.size
        have HA_14 := Lib.hid (HA_13.out.trans (HB_13.out.below HA_4.out.size HA_13.out.size))
        have HO_aHeld_14 := Lib.hid (HO_aHeld_13.out.fr HB_13.out HA_4.out.size HA_13.out.size)
        have HO_aK_14 := Lib.hid (RKeys.keep HO_aK_13.out fun i hi => HB_13.out.block i (Nat.lt_of_lt_of_le hi HA_13.out.size) (.inl (Nat.lt_of_lt_of_le hi HA_4.out.size)))
        have HO_aH_14 := Lib.hid (RHead.keep HO_aH_13.out fun i hi => HB_13.out.block i (Nat.lt_of_lt_of_le hi HA_13.out.size) (.inl (Nat.lt_of_lt_of_le hi HA_4.out.size)))
        have HO_w0_14 := Lib.hid (RSigned.keep HO_w0_13.out fun i hi => HB_13.out.block i (Nat.lt_of_lt_of_le hi (Nat.le_trans (Nat.le_trans (Nat.le_trans (Nat.le_trans (Nat.le_trans (Nat.le_trans (Nat.le_trans (Nat.le_trans (Nat.le_trans HZ_3.out HZ_4.out) HZ_5.out) HZ_6.out) HZ_7.out) HZ_8.out) HZ_9.out) HZ_10.out) HZ_11.out) HZ_12.out)) (.inl (Nat.lt_of_lt_of_le hi HZ_3.out)))
        have HO_x2_14 := Lib.hid (HO_x2_13.out.fr HB_13.out (.inr (Nat.le_trans HT_5.out (Nat.le_refl _))))
        have HO_g0_14 := Lib.hid (HO_g0_13.out.fr HB_13.out (.inr (Nat.le_trans HT_5.out HZ_5.out)))
        have HX_aK_14 := Lib.hid (HX_aK_13.out.keep (HB_13.out.block _ HX_aK_13.out.lt (.inl (Nat.lt_of_lt_of_le HX_aK_0.out.lt (Nat.le_trans (Nat.le_trans (Nat.le_trans HZ_0.out HZ_1.out) HZ_2.out) HZ_3.out)))))
        have HX_aH_14 := Lib.hid (HX_aH_13.out.keep (HB_13.out.block _ HX_aH_13.out.lt (.inl (Nat.lt_of_lt_of_le HX_aH_0.out.lt (Nat.le_trans (Nat.le_trans (Nat.le_trans HZ_0.out HZ_1.out) HZ_2.out) HZ_3.out)))))
        have HX_w0_14 := Lib.hid (HX_w0_13.out.keep (HB_13.out.block _ HX_w0_13.out.lt (.inl (Nat.lt_of_lt_of_le HX_w0_3.out.lt HZ_3.out))))
        have HX_x2_14 := Lib.hid (HX_x2_13.out.keep (HB_13.out.block _ HX_x2_13.out.lt (.inr (Nat.le_trans HT_5.out (Nat.le_trans (Nat.le_refl _) HQ_6.out)))))
        have HX_g0_14 := Lib.hid (HX_g0_13.out.keep (HB_13.out.block _ HX_g0_13.out.lt (.inr (Nat.le_trans HT_5.out (Nat.le_trans HZ_5.out HQ_7.out)))))
        clear hb
        clear x_x1_0 x_x1_1
        go_wp2_with (refine LD.wp_ld LD.big_Head rfl _ rfl rfl HX_x2_14.out rfl ?_)
        refine (markHead_any _ _ [(.int .i64 y2.zone), (.int .i64 y2.epoch), (.int .i64 y2.kind), (.int .i64 y2.time), (.int .i64 y2.until_), (.int .i64 y2.count), (.int .i64 y2.root), (.int .i64 y2.prev), (.slice A_x2_8 n_x2_8 c_x2_8), (.int .i64 y2.keys.need), (.slice A_x2_10 n_x2_10 c_x2_10), (.int .i64 y2.heirs.need), (.int .i64 y2.wait), (.slice A_x2_13 n_x2_13 c_x2_13), (.int .i64 y2.judge.need), (.bool y2.frozen)] y2 (1 + (l0 : Int) + (cntKeys y1 : Int)) _ HO_x2_14.out (Nat.le_trans HT_6.out (Nat.le_trans (Nat.le_trans (Nat.le_trans (Nat.le_trans (Nat.le_trans (Nat.le_trans (Nat.le_trans HZ_6.out HZ_7.out) HZ_8.out) HZ_9.out) HZ_10.out) HZ_11.out) HZ_12.out) HZ_13.out)) (by omega) (by omega) (by omega)).mono ?_
        rintro e W_15 ⟨rfl, hown, hb⟩
        have HO_x2_15 := Lib.hid hown
        clear hown
        have HB_14 := Lib.hid hb
        have HZ_14 := Lib.hid HB_14.out.size
        have HA_15 := Lib.hid (HA_14.out.trans (HB_14.out.below HA_5.out.size HA_14.out.size))
        have HO_aHeld_15 := Lib.hid (HO_aHeld_14.out.fr HB_14.out HA_5.out.size HA_14.out.size)
        have HO_aK_15 := Lib.hid (RKeys.keep HO_aK_14.out fun i hi => HB_14.out.block i (Nat.lt_of_lt_of_le hi HA_14.out.size) (.inl (Nat.lt_of_lt_of_le hi HA_5.out.size)))
        have HO_aH_15 := Lib.hid (RHead.keep HO_aH_14.out fun i hi => HB_14.out.block i (Nat.lt_of_lt_of_le hi HA_14.out.size) (.inl (Nat.lt_of_lt_of_le hi HA_5.out.size)))
        have HO_w0_15 := Lib.hid (RSigned.keep HO_w0_14.out fun i hi => HB_14.out.block i (Nat.lt_of_lt_of_le hi (Nat.le_trans (Nat.le_trans (Nat.le_trans (Nat.le_trans (Nat.le_trans (Nat.le_trans (Nat.le_trans (Nat.le_trans (Nat.le_trans (Nat.le_trans HZ_3.out HZ_4.out) HZ_5.out) HZ_6.out) HZ_7.out) HZ_8.out) HZ_9.out) HZ_10.out) HZ_11.out) HZ_12.out) HZ_13.out)) (.inl (Nat.lt_of_lt_of_le hi (Nat.le_trans HZ_3.out HZ_4.out))))
        have HO_g0_15 := Lib.hid (HO_g0_14.out.fr HB_14.out (.inr (Nat.le_trans HT_6.out (Nat.le_refl _))))
        have HX_aK_15 := Lib.hid (HX_aK_14.out.keep (HB_14.out.block _ HX_aK_14.out.lt (.inl (Nat.lt_of_lt_of_le HX_aK_0.out.lt (Nat.le_trans (Nat.le_trans (Nat.le_trans (Nat.le_trans HZ_0.out HZ_1.out) HZ_2.out) HZ_3.out) HZ_4.out)))))
        have HX_aH_15 := Lib.hid (HX_aH_14.out.keep (HB_14.out.block _ HX_aH_14.out.lt (.inl (Nat.lt_of_lt_of_le HX_aH_0.out.lt (Nat.le_trans (Nat.le_trans (Nat.le_trans (Nat.le_trans HZ_0.out HZ_1.out) HZ_2.out) HZ_3.out) HZ_4.out)))))
        have HX_w0_15 := Lib.hid (HX_w0_14.out.keep (HB_14.out.block _ HX_w0_14.out.lt (.inl (Nat.lt_of_lt_of_le HX_w0_3.out.lt (Nat.le_trans HZ_3.out HZ_4.out)))))
        have HX_g0_15 := Lib.hid (HX_g0_14.out.keep (HB_14.out.block _ HX_g0_14.out.lt (.inr (Nat.le_trans HT_6.out (Nat.le_trans (Nat.le_refl _) HQ_7.out)))))
        clear hb
        go_wp2_with (first | (refine LD.wp_ld LD.big_Signed rfl _ rfl rfl HX_g0_15.out rfl ?_) | (refine LD.wp_ld LD.big_Signed rfl _ rfl rfl HX_w0_15.out rfl ?_))
        refine (eqSigned_same _ _ [(.int .i64 r0.head.zone), (.int .i64 r0.head.epoch), (.int .i64 r0.head.kind), (.int .i64 r0.head.time), (.int .i64 r0.head.until_), (.int .i64 r0.head.count), (.int .i64 r0.head.root), (.int .i64 r0.head.prev), (.slice A_g0_8 n_g0_8 c_g0_8), (.int .i64 r0.head.keys.need), (.slice A_g0_10 n_g0_10 c_g0_10), (.int .i64 r0.head.heirs.need), (.int .i64 r0.head.wait), (.slice A_g0_13 n_g0_13 c_g0_13), (.int .i64 r0.head.judge.need), (.bool r0.head.frozen), (.slice A_g0_16 n_g0_16 c_g0_16)] [(.int .i64 r0.head.zone), (.int .i64 r0.head.epoch), (.int .i64 r0.head.kind), (.int .i64 r0.head.time), (.int .i64 r0.head.until_), (.int .i64 r0.head.count), (.int .i64 r0.head.root), (.int .i64 r0.head.prev), (.slice A_w0_8 n_w0_8 c_w0_8), (.int .i64 r0.head.keys.need), (.slice A_w0_10 n_w0_10 c_w0_10), (.int .i64 r0.head.heirs.need), (.int .i64 r0.head.wait), (.slice A_w0_13 n_w0_13 c_w0_13), (.int .i64 r0.head.judge.need), (.bool r0.head.frozen), (.slice A_w0_16 n_w0_16 c_w0_16)] r0 _ (RSigned.more HO_g0_15.out.rd fun i hi => Nat.lt_of_lt_of_le hi (Nat.le_trans HT_7.out (Nat.le_trans (Nat.le_trans (Nat.le_trans (Nat.le_trans (Nat.le_trans (Nat.le_trans (Nat.le_trans HZ_7.out HZ_8.out) HZ_9.out) HZ_10.out) HZ_11.out) HZ_12.out) HZ_13.out) HZ_14.out))) (RSigned.more HO_w0_15.out fun i hi => Nat.lt_of_lt_of_le hi (Nat.le_trans (Nat.le_trans (Nat.le_trans (Nat.le_trans (Nat.le_trans (Nat.le_trans (Nat.le_trans (Nat.le_trans (Nat.le_trans (Nat.le_trans (Nat.le_trans HZ_3.out HZ_4.out) HZ_5.out) HZ_6.out) HZ_7.out) HZ_8.out) HZ_9.out) HZ_10.out) HZ_11.out) HZ_12.out) HZ_13.out) HZ_14.out)) (Nat.le_refl _) (Nat.le_refl _) (by omega)).mono ?_
        rintro e W_16 ⟨rfl, hb⟩
        have HB_15 := Lib.hid hb
        have HZ_15 := Lib.hid HB_15.out.size
        have HA_16 := Lib.hid (HA_15.out.trans (HB_15.out.mono HA_15.out.size))
        have HO_aHeld_16 := Lib.hid (HO_aHeld_15.out.below HB_15.out HA_15.out.size)
        have HO_aK_16 := Lib.hid (RKeys.keep HO_aK_15.out fun i hi => HB_15.out.block i (Nat.lt_of_lt_of_le hi HA_15.out.size))
        have HO_aH_16 := Lib.hid (RHead.keep HO_aH_15.out fun i hi => HB_15.out.block i (Nat.lt_of_lt_of_le hi HA_15.out.size))
        have HO_w0_16 := Lib.hid (RSigned.keep HO_w0_15.out fun i hi => HB_15.out.block i (Nat.lt_of_lt_of_le hi (Nat.le_trans (Nat.le_trans (Nat.le_trans (Nat.le_trans (Nat.le_trans (Nat.le_trans (Nat.le_trans (Nat.le_trans (Nat.le_trans (Nat.le_trans (Nat.le_trans HZ_3.out HZ_4.out) HZ_5.out) HZ_6.out) HZ_7.out) HZ_8.out) HZ_9.out) HZ_10.out) HZ_11.out) HZ_12.out) HZ_13.out) HZ_14.out)))
        have HO_g0_16 := Lib.hid (HO_g0_15.out.below HB_15.out (Nat.le_trans HT_7.out (Nat.le_trans (Nat.le_trans (Nat.le_trans (Nat.le_trans (Nat.le_trans (Nat.le_trans (Nat.le_trans HZ_7.out HZ_8.out) HZ_9.out) HZ_10.out) HZ_11.out) HZ_12.out) HZ_13.out) HZ_14.out)))
        have HX_aK_16 := Lib.hid (HX_aK_15.out.below HB_15.out HX_aK_15.out.lt)
        have HX_aH_16 := Lib.hid (HX_aH_15.out.below HB_15.out HX_aH_15.out.lt)
        have HX_w0_16 := Lib.hid (HX_w0_15.out.below HB_15.out HX_w0_15.out.lt)
        have HX_g0_16 := Lib.hid (HX_g0_15.out.below HB_15.out HX_g0_15.out.lt)
        clear hb
        go_wp2_with (refine LD.wp_ld LD.big_Signed rfl _ rfl rfl HX_g0_16.out rfl ?_)
        refine (markSigned_any _ _ [(.int .i64 r0.head.zone), (.int .i64 r0.head.epoch), (.int .i64 r0.head.kind), (.int .i64 r0.head.time), (.int .i64 r0.head.until_), (.int .i64 r0.head.count), (.int .i64 r0.head.root), (.int .i64 r0.head.prev), (.slice A_g0_8 n_g0_8 c_g0_8), (.int .i64 r0.head.keys.need), (.slice A_g0_10 n_g0_10 c_g0_10), (.int .i64 r0.head.heirs.need), (.int .i64 r0.head.wait), (.slice A_g0_13 n_g0_13 c_g0_13), (.int .i64 r0.head.judge.need), (.bool r0.head.frozen), (.slice A_g0_16 n_g0_16 c_g0_16)] r0 1 _ HO_g0_16.out (Nat.le_trans HT_7.out (Nat.le_trans (Nat.le_trans (Nat.le_trans (Nat.le_trans (Nat.le_trans (Nat.le_trans (Nat.le_trans (Nat.le_trans HZ_7.out HZ_8.out) HZ_9.out) HZ_10.out) HZ_11.out) HZ_12.out) HZ_13.out) HZ_14.out) HZ_15.out)) (by omega) (by omega) (by omega)).mono ?_
        rintro e W_17 ⟨rfl, hown, hb⟩
        have HO_g0_17 := Lib.hid hown
        clear hown
        have HB_16 := Lib.hid hb
        have HZ_16 := Lib.hid HB_16.out.size
        have HA_17 := Lib.hid (HA_16.out.trans (HB_16.out.below HA_6.out.size HA_16.out.size))
        have HO_aHeld_17 := Lib.hid (HO_aHeld_16.out.fr HB_16.out HA_6.out.size HA_16.out.size)
        have HO_aK_17 := Lib.hid (RKeys.keep HO_aK_16.out fun i hi => HB_16.out.block i (Nat.lt_of_lt_of_le hi HA_16.out.size) (.inl (Nat.lt_of_lt_of_le hi HA_6.out.size)))
        have HO_aH_17 := Lib.hid (RHead.keep HO_aH_16.out fun i hi => HB_16.out.block i (Nat.lt_of_lt_of_le hi HA_16.out.size) (.inl (Nat.lt_of_lt_of_le hi HA_6.out.size)))
        have HO_w0_17 := Lib.hid (RSigned.keep HO_w0_16.out fun i hi => HB_16.out.block i (Nat.lt_of_lt_of_le hi (Nat.le_trans (Nat.le_trans (Nat.le_trans (Nat.le_trans (Nat.le_trans (Nat.le_trans (Nat.le_trans (Nat.le_trans (Nat.le_trans (Nat.le_trans (Nat.le_trans (Nat.le_trans HZ_3.out HZ_4.out) HZ_5.out) HZ_6.out) HZ_7.out) HZ_8.out) HZ_9.out) HZ_10.out) HZ_11.out) HZ_12.out) HZ_13.out) HZ_14.out) HZ_15.out)) (.inl (Nat.lt_of_lt_of_le hi (Nat.le_trans (Nat.le_trans HZ_3.out HZ_4.out) HZ_5.out))))
        have HX_aK_17 := Lib.hid (HX_aK_16.out.keep (HB_16.out.block _ HX_aK_16.out.lt (.inl (Nat.lt_of_lt_of_le HX_aK_0.out.lt (Nat.le_trans (Nat.le_trans (Nat.le_trans (Nat.le_trans (Nat.le_trans HZ_0.out HZ_1.out) HZ_2.out) HZ_3.out) HZ_4.out) HZ_5.out)))))
        have HX_aH_17 := Lib.hid (HX_aH_16.out.keep (HB_16.out.block _ HX_aH_16.out.lt (.inl (Nat.lt_of_lt_of_le HX_aH_0.out.lt (Nat.le_trans (Nat.le_trans (Nat.le_trans (Nat.le_trans (Nat.le_trans HZ_0.out HZ_1.out) HZ_2.out) HZ_3.out) HZ_4.out) HZ_5.out)))))
        have HX_w0_17 := Lib.hid (HX_w0_16.out.keep (HB_16.out.block _ HX_w0_16.out.lt (.inl (Nat.lt_of_lt_of_le HX_w0_3.out.lt (Nat.le_trans (Nat.le_trans HZ_3.out HZ_4.out) HZ_5.out)))))
        have HX_g0_17 := Lib.hid (HX_g0_16.out.keep (HB_16.out.block _ HX_g0_16.out.lt (.inr (Nat.le_refl _))))
        clear hb
        go_wp2_with (refine LD.wp_ld LD.big_Signed rfl _ rfl rfl HX_g0_17.out rfl ?_)
        refine (heldSigned_marks _ [(.int .i64 r0.head.zone), (.int .i64 r0.head.epoch), (.int .i64 r0.head.kind), (.int .i64 r0.head.time), (.int .i64 r0.head.until_), (.int .i64 r0.head.count), (.int .i64 r0.head.root), (.int .i64 r0.head.prev), (.slice A_g0_8 n_g0_8 c_g0_8), (.int .i64 r0.head.keys.need), (.slice A_g0_10 n_g0_10 c_g0_10), (.int .i64 r0.head.heirs.need), (.int .i64 r0.head.wait), (.slice A_g0_13 n_g0_13 c_g0_13), (.int .i64 r0.head.judge.need), (.bool r0.head.frozen), (.slice A_g0_16 n_g0_16 c_g0_16)] r0 1 _ (RSigned.more HO_g0_17.out.rd fun i hi => Nat.lt_of_lt_of_le hi (Nat.le_trans HT_7.out (Nat.le_trans (Nat.le_trans (Nat.le_trans (Nat.le_trans (Nat.le_trans (Nat.le_trans (Nat.le_trans (Nat.le_trans (Nat.le_trans HZ_7.out HZ_8.out) HZ_9.out) HZ_10.out) HZ_11.out) HZ_12.out) HZ_13.out) HZ_14.out) HZ_15.out) HZ_16.out))) (Nat.le_refl _) (by omega) (by omega) (by omega)).mono ?_
        rintro e W_18 ⟨rfl, hb⟩
        have HB_17 := Lib.hid hb
        have HZ_17 := Lib.hid HB_17.out.size
        have HA_18 := Lib.hid (HA_17.out.trans (HB_17.out.mono HA_17.out.size))
        have HO_aHeld_18 := Lib.hid (HO_aHeld_17.out.below HB_17.out HA_17.out.size)
        have HO_aK_18 := Lib.hid (RKeys.keep HO_aK_17.out fun i hi => HB_17.out.block i (Nat.lt_of_lt_of_le hi HA_17.out.size))
        have HO_aH_18 := Lib.hid (RHead.keep HO_aH_17.out fun i hi => HB_17.out.block i (Nat.lt_of_lt_of_le hi HA_17.out.size))
        have HO_w0_18 := Lib.hid (RSigned.keep HO_w0_17.out fun i hi => HB_17.out.block i (Nat.lt_of_lt_of_le hi (Nat.le_trans (Nat.le_trans (Nat.le_trans (Nat.le_trans (Nat.le_trans (Nat.le_trans (Nat.le_trans (Nat.le_trans (Nat.le_trans (Nat.le_trans (Nat.le_trans (Nat.le_trans (Nat.le_trans HZ_3.out HZ_4.out) HZ_5.out) HZ_6.out) HZ_7.out) HZ_8.out) HZ_9.out) HZ_10.out) HZ_11.out) HZ_12.out) HZ_13.out) HZ_14.out) HZ_15.out) HZ_16.out)))
        have HO_g0_18 := Lib.hid (HO_g0_17.out.below HB_17.out (Nat.le_trans HT_7.out (Nat.le_trans (Nat.le_trans (Nat.le_trans (Nat.le_trans (Nat.le_trans (Nat.le_trans (Nat.le_trans (Nat.le_trans (Nat.le_trans HZ_7.out HZ_8.out) HZ_9.out) HZ_10.out) HZ_11.out) HZ_12.out) HZ_13.out) HZ_14.out) HZ_15.out) HZ_16.out)))
        have HX_aK_18 := Lib.hid (HX_aK_17.out.below HB_17.out HX_aK_17.out.lt)
        have HX_aH_18 := Lib.hid (HX_aH_17.out.below HB_17.out HX_aH_17.out.lt)
        have HX_w0_18 := Lib.hid (HX_w0_17.out.below HB_17.out HX_w0_17.out.lt)
        have HX_g0_18 := Lib.hid (HX_g0_17.out.below HB_17.out HX_g0_17.out.lt)
        clear hb
        go_wp2_with fail
        refine OS.rest_first (fun a0 a w => ∃ (g_h0 : Nat) (A_h0_8 : Option Addr) (n_h0_8 : Nat) (c_h0_8 : Nat) (A_h0_10 : Option Addr) (n_h0_10 : Nat) (c_h0_10 : Nat) (A_h0_13 : Option Addr) (n_h0_13 : Nat) (c_h0_13 : Nat) (A_h0_16 : Option Addr) (n_h0_16 : Nat) (c_h0_16 : Nat) (vv94 vv95 vv96 vv97 vv98 vv99 vv100 : Value), a = ((((((((a0.put (some 94) vv94).put (some 95) vv95).put (some 96) vv96).put (some 97) vv97).put (some 98) vv98).put (some 99) vv99).put (some 100) vv100).put (some 16) (.pointer (some ⟨g_h0, 0, none⟩))) ∧ Below W_18.heap.size W_18 w ∧ Box w g_h0 [(.int .i64 r0.head.zone), (.int .i64 r0.head.epoch), (.int .i64 r0.head.kind), (.int .i64 r0.head.time), (.int .i64 r0.head.until_), (.int .i64 r0.head.count), (.int .i64 r0.head.root), (.int .i64 r0.head.prev), (.slice A_h0_8 n_h0_8 c_h0_8), (.int .i64 r0.head.keys.need), (.slice A_h0_10 n_h0_10 c_h0_10), (.int .i64 r0.head.heirs.need), (.int .i64 r0.head.wait), (.slice A_h0_13 n_h0_13 c_h0_13), (.int .i64 r0.head.judge.need), (.bool r0.head.frozen), (.slice A_h0_16 n_h0_16 c_h0_16)] ∧ W_18.heap.size ≤ g_h0 ∧ RSigned.rd w (Lt w.heap.size) [(.int .i64 r0.head.zone), (.int .i64 r0.head.epoch), (.int .i64 r0.head.kind), (.int .i64 r0.head.time), (.int .i64 r0.head.until_), (.int .i64 r0.head.count), (.int .i64 r0.head.root), (.int .i64 r0.head.prev), (.slice A_h0_8 n_h0_8 c_h0_8), (.int .i64 r0.head.keys.need), (.slice A_h0_10 n_h0_10 c_h0_10), (.int .i64 r0.head.heirs.need), (.int .i64 r0.head.wait), (.slice A_h0_13 n_h0_13 c_h0_13), (.int .i64 r0.head.judge.need), (.bool r0.head.frozen), (.slice A_h0_16 n_h0_16 c_h0_16)] r0) ?_ ?_
        · rintro a9 W_19 ⟨g_h0, A_h0_8, n_h0_8, c_h0_8, A_h0_10, n_h0_10, c_h0_10, A_h0_13, n_h0_13, c_h0_13, A_h0_16, n_h0_16, c_h0_16, vv94, vv95, vv96, vv97, vv98, vv99, vv100, rfl, hbel, hbox, hgb, hrd⟩
          simp only [Act.put, List.setIfInBounds_toArray, List.set_cons_succ, List.set_cons_zero]
          rename_i K9 hK9
          refine hK9 _ _ ?_
          have hb := hbel
          have HO_h0_19 := Lib.hid hrd
          have HX_h0_19 := Lib.hid hbox
          clear hrd hbox
          have HB_18 := Lib.hid hb
          have HZ_18 := Lib.hid HB_18.out.size
          have HA_19 := Lib.hid (HA_18.out.trans (HB_18.out.mono HA_18.out.size))
          have HO_w0_19 := Lib.hid (RSigned.keep HO_w0_18.out fun i hi => HB_18.out.block i (Nat.lt_of_lt_of_le hi (Nat.le_trans (Nat.le_trans (Nat.le_trans (Nat.le_trans (Nat.le_trans (Nat.le_trans (Nat.le_trans (Nat.le_trans (Nat.le_trans (Nat.le_trans (Nat.le_trans (Nat.le_trans (Nat.le_trans (Nat.le_trans HZ_3.out HZ_4.out) HZ_5.out) HZ_6.out) HZ_7.out) HZ_8.out) HZ_9.out) HZ_10.out) HZ_11.out) HZ_12.out) HZ_13.out) HZ_14.out) HZ_15.out) HZ_16.out) HZ_17.out)))
          have HO_g0_19 := Lib.hid (HO_g0_18.out.below HB_18.out (Nat.le_trans HT_7.out (Nat.le_trans (Nat.le_trans (Nat.le_trans (Nat.le_trans (Nat.le_trans (Nat.le_trans (Nat.le_trans (Nat.le_trans (Nat.le_trans (Nat.le_trans HZ_7.out HZ_8.out) HZ_9.out) HZ_10.out) HZ_11.out) HZ_12.out) HZ_13.out) HZ_14.out) HZ_15.out) HZ_16.out) HZ_17.out)))
          have HX_w0_19 := Lib.hid (HX_w0_18.out.below HB_18.out HX_w0_18.out.lt)
          have HX_g0_19 := Lib.hid (HX_g0_18.out.below HB_18.out HX_g0_18.out.lt)
          clear hb hbel
          go_wp2_with (first | (refine LD.wp_ld LD.big_Signed rfl _ rfl rfl HX_h0_19.out rfl ?_) | (refine LD.wp_ld LD.big_Signed rfl _ rfl rfl HX_w0_19.out rfl ?_))
          refine (eqSigned_same _ _ [(.int .i64 r0.head.zone), (.int .i64 r0.head.epoch), (.int .i64 r0.head.kind), (.int .i64 r0.head.time), (.int .i64 r0.head.until_), (.int .i64 r0.head.count), (.int .i64 r0.head.root), (.int .i64 r0.head.prev), (.slice A_h0_8 n_h0_8 c_h0_8), (.int .i64 r0.head.keys.need), (.slice A_h0_10 n_h0_10 c_h0_10), (.int .i64 r0.head.heirs.need), (.int .i64 r0.head.wait), (.slice A_h0_13 n_h0_13 c_h0_13), (.int .i64 r0.head.judge.need), (.bool r0.head.frozen), (.slice A_h0_16 n_h0_16 c_h0_16)] [(.int .i64 r0.head.zone), (.int .i64 r0.head.epoch), (.int .i64 r0.head.kind), (.int .i64 r0.head.time), (.int .i64 r0.head.until_), (.int .i64 r0.head.count), (.int .i64 r0.head.root), (.int .i64 r0.head.prev), (.slice A_w0_8 n_w0_8 c_w0_8), (.int .i64 r0.head.keys.need), (.slice A_w0_10 n_w0_10 c_w0_10), (.int .i64 r0.head.heirs.need), (.int .i64 r0.head.wait), (.slice A_w0_13 n_w0_13 c_w0_13), (.int .i64 r0.head.judge.need), (.bool r0.head.frozen), (.slice A_w0_16 n_w0_16 c_w0_16)] r0 _ (RSigned.more HO_h0_19.out fun i hi => Nat.lt_of_lt_of_le hi (Nat.le_refl _)) (RSigned.more HO_w0_19.out fun i hi => Nat.lt_of_lt_of_le hi (Nat.le_trans (Nat.le_trans (Nat.le_trans (Nat.le_trans (Nat.le_trans (Nat.le_trans (Nat.le_trans (Nat.le_trans (Nat.le_trans (Nat.le_trans (Nat.le_trans (Nat.le_trans (Nat.le_trans (Nat.le_trans (Nat.le_trans HZ_3.out HZ_4.out) HZ_5.out) HZ_6.out) HZ_7.out) HZ_8.out) HZ_9.out) HZ_10.out) HZ_11.out) HZ_12.out) HZ_13.out) HZ_14.out) HZ_15.out) HZ_16.out) HZ_17.out) HZ_18.out)) (Nat.le_refl _) (Nat.le_refl _) (by omega)).mono ?_
          rintro e W_20 ⟨rfl, hb⟩
          have HB_19 := Lib.hid hb
          have HZ_19 := Lib.hid HB_19.out.size
          have HA_20 := Lib.hid (HA_19.out.trans (HB_19.out.mono HA_19.out.size))
          have HO_g0_20 := Lib.hid (HO_g0_19.out.below HB_19.out (Nat.le_trans HT_7.out (Nat.le_trans (Nat.le_trans (Nat.le_trans (Nat.le_trans (Nat.le_trans (Nat.le_trans (Nat.le_trans (Nat.le_trans (Nat.le_trans (Nat.le_trans (Nat.le_trans HZ_7.out HZ_8.out) HZ_9.out) HZ_10.out) HZ_11.out) HZ_12.out) HZ_13.out) HZ_14.out) HZ_15.out) HZ_16.out) HZ_17.out) HZ_18.out)))
          have HX_g0_20 := Lib.hid (HX_g0_19.out.below HB_19.out HX_g0_19.out.lt)
          clear hb
          go_wp2_with (refine LD.wp_ld LD.big_Signed rfl _ rfl rfl HX_g0_20.out rfl ?_)
          refine (heldSigned_marks _ [(.int .i64 r0.head.zone), (.int .i64 r0.head.epoch), (.int .i64 r0.head.kind), (.int .i64 r0.head.time), (.int .i64 r0.head.until_), (.int .i64 r0.head.count), (.int .i64 r0.head.root), (.int .i64 r0.head.prev), (.slice A_g0_8 n_g0_8 c_g0_8), (.int .i64 r0.head.keys.need), (.slice A_g0_10 n_g0_10 c_g0_10), (.int .i64 r0.head.heirs.need), (.int .i64 r0.head.wait), (.slice A_g0_13 n_g0_13 c_g0_13), (.int .i64 r0.head.judge.need), (.bool r0.head.frozen), (.slice A_g0_16 n_g0_16 c_g0_16)] r0 1 _ (RSigned.more HO_g0_20.out.rd fun i hi => Nat.lt_of_lt_of_le hi (Nat.le_trans HT_7.out (Nat.le_trans (Nat.le_trans (Nat.le_trans (Nat.le_trans (Nat.le_trans (Nat.le_trans (Nat.le_trans (Nat.le_trans (Nat.le_trans (Nat.le_trans (Nat.le_trans (Nat.le_trans HZ_7.out HZ_8.out) HZ_9.out) HZ_10.out) HZ_11.out) HZ_12.out) HZ_13.out) HZ_14.out) HZ_15.out) HZ_16.out) HZ_17.out) HZ_18.out) HZ_19.out))) (Nat.le_refl _) (by omega) (by omega) (by omega)).mono ?_
          rintro e W_21 ⟨rfl, hb⟩
          have HB_20 := Lib.hid hb
          have HZ_20 := Lib.hid HB_20.out.size
          have HA_21 := Lib.hid (HA_20.out.trans (HB_20.out.mono HA_20.out.size))
          clear hb
          go_wp2
          go_ret
          exact ⟨rfl, HA_21.out⟩
        · intro J9 HJ9
          have HzaK_0 := HX_aK_18
          have hltaK := HX_aK_18.out.lt
          have HzaH_0 := HX_aH_18
          have hltaH := HX_aH_18.out.lt
          have HzB_0 := Lib.hid (Below.refl W_18.heap.size W_18)
          refine wp_region_held (S := (fun w9 => w9.rangeAt (W0.heap.size) 0 [u1_0, u1_1] ∧ w9.rangeAt (W0.heap.size + 1) 0 [u2_0, u2_1, u2_2, u2_3, u2_4, u2_5, u2_6, u2_7, u2_8, u2_9, u2_10, u2_11, u2_12, u2_13, u2_14, u2_15])) (by kernel_rfl) ?_
          change wpAnyH _ _ _ _ _ _ _ _ (World.drew _)
          have hdr : Below W_18.heap.size W_18 W_18.drew := (Below.refl _ _).drew
          have HzaK_1 := Lib.hid (HzaK_0.out.below hdr HzaK_0.out.lt)
          have HzaH_1 := Lib.hid (HzaH_0.out.below hdr HzaH_0.out.lt)
          have HzB_1 := Lib.hid (HzB_0.out.trans (hdr.mono HzB_0.out.size))
          clear hdr
          have hsd : W_18.drew.heap.size = W_18.heap.size := rfl
          refine wpAnyH_take (i := 0) (v := .slice a0 l0 c0) rfl (by kernel_rfl) (by kernel_rfl) (by kernel_rfl) (fun _ _ _ h => absurd h.1 (by simp)) (Or.inl ⟨by rfl, fun w h => ?_⟩) (⟨LD.box_range HzaK_1.out, LD.box_range HzaH_1.out⟩) ?_
          · clear h
            go_simp
          simp only [Act.put, List.getElem_toArray, List.getElem_cons_zero, List.getElem_cons_succ, List.setIfInBounds_toArray, List.set_cons_succ, List.set_cons_zero]
          refine wpAnyH_take (i := 2) rfl (by kernel_rfl) (by kernel_rfl) (by kernel_rfl) (fun _ _ _ h => absurd h.1 (by simp)) (LD.yl LD.big_lKeys (by rfl) _ rfl rfl (fun w9 h9 => h9.1) rfl) (⟨LD.box_range HzaK_1.out, LD.box_range HzaH_1.out⟩) ?_
          simp only [Act.put, List.getElem_toArray, List.getElem_cons_zero, List.getElem_cons_succ, List.setIfInBounds_toArray, List.set_cons_succ, List.set_cons_zero]
          refine wpAnyH_take (i := 4) rfl (by kernel_rfl) (by kernel_rfl) (by kernel_rfl) (fun _ _ _ h => absurd h.1 (by simp)) (LD.yl LD.big_lHead (by rfl) _ rfl rfl (fun w9 h9 => h9.2) rfl) (⟨LD.box_range HzaK_1.out, LD.box_range HzaH_1.out⟩) ?_
          simp only [Act.put, List.getElem_toArray, List.getElem_cons_zero, List.getElem_cons_succ, List.setIfInBounds_toArray, List.set_cons_succ, List.set_cons_zero]
          refine wpAnyH_ready (rs := [1, 7]) (by kernel_rfl) (by simp) ?_
          refine AllReadyH.cons rfl (fun K hK => ?_) ?_
          · refine RGS.free rfl ?_
            try simp only [List.getElem_toArray, List.getElem_cons_zero, List.getElem_cons_succ]
            go_simp
            go_at_call 15
            refine (toIntS_any a0 l0 c0 y0 _ (((HO_aHeld_18.out.more HA_18.out.size).below HzB_1.out (Nat.le_refl _)).more HzB_1.out.size) (by omega)).mono ?_
            rintro e Y1 ⟨A__t6, c__t6, rfl, hown, hb⟩
            have HzaK_2 := Lib.hid (HzaK_1.out.below hb HzaK_1.out.lt)
            have HzaH_2 := Lib.hid (HzaH_1.out.below hb HzaH_1.out.lt)
            have HzB_2 := Lib.hid (HzB_1.out.trans (hb.mono HzB_1.out.size))
            have Hz_t6_2 := Lib.hid hown.rd
            have hcap_t6 := hown.cap.1
            have hsY1 := hb.size
            clear hown hb
            go_simp
            refine hK.out _ _ (⟨LD.box_range HzaK_2.out, LD.box_range HzaH_2.out⟩) (fun _ => ?_)
            clear hK K
            refine wpAnyH_ready (rs := [3, 7]) (by kernel_rfl) (by simp) ?_
            refine AllReadyH.cons rfl (fun K hK => ?_) ?_
            · refine RGS.free rfl ?_
              try simp only [List.getElem_toArray, List.getElem_cons_zero, List.getElem_cons_succ]
              go_simp
              go_at_call 10
              refine (toKeys_any [u1_0, u1_1] y1 _ (rgUp (RKeys.more HO_aK_18.out fun i hi => Nat.lt_of_lt_of_le hi HA_18.out.size) HzB_2.out) (by omega)).mono ?_
              rintro e Y2 ⟨cs9, rfl, hown, hb⟩
              obtain ⟨A__t7_0, n__t7_0, c__t7_0, rfl⟩ := RKeys_shape hown.rd
              have HzaK_3 := Lib.hid (HzaK_2.out.below hb HzaK_2.out.lt)
              have HzaH_3 := Lib.hid (HzaH_2.out.below hb HzaH_2.out.lt)
              have HzB_3 := Lib.hid (HzB_2.out.trans (hb.mono HzB_2.out.size))
              have Hz_t6_3 := Lib.hid ((Hz_t6_2.out.below hb (Nat.le_refl _)).more hb.size)
              have Hz_t7_3 := Lib.hid hown.rd
              have hsY2 := hb.size
              clear hown hb
              go_simp
              refine hK.out _ _ (⟨LD.box_range HzaK_3.out, LD.box_range HzaH_3.out⟩) (fun _ => ?_)
              clear hK K
              refine wpAnyH_ready (rs := [5, 7]) (by kernel_rfl) (by simp) ?_
              refine AllReadyH.cons rfl (fun K hK => ?_) ?_
              · refine RGS.free rfl ?_
                try simp only [List.getElem_toArray, List.getElem_cons_zero, List.getElem_cons_succ]
                go_simp
                go_at_call 16
                refine (toHead_any [u2_0, u2_1, u2_2, u2_3, u2_4, u2_5, u2_6, u2_7, u2_8, u2_9, u2_10, u2_11, u2_12, u2_13, u2_14, u2_15] y2 _ (rgUp (RHead.more HO_aH_18.out fun i hi => Nat.lt_of_lt_of_le hi HA_18.out.size) HzB_3.out) (by omega)).mono ?_
                rintro e Y3 ⟨cs9, rfl, hown, hb⟩
                obtain ⟨A__t8_8, n__t8_8, c__t8_8, A__t8_10, n__t8_10, c__t8_10, A__t8_13, n__t8_13, c__t8_13, rfl⟩ := RHead_shape hown.rd
                have HzaK_4 := Lib.hid (HzaK_3.out.below hb HzaK_3.out.lt)
                have HzaH_4 := Lib.hid (HzaH_3.out.below hb HzaH_3.out.lt)
                have HzB_4 := Lib.hid (HzB_3.out.trans (hb.mono HzB_3.out.size))
                have Hz_t6_4 := Lib.hid ((Hz_t6_3.out.below hb (Nat.le_refl _)).more hb.size)
                have Hz_t7_4 := Lib.hid (rgUp Hz_t7_3.out hb)
                have Hz_t8_4 := Lib.hid hown.rd
                have hsY3 := hb.size
                clear hown hb
                go_simp
                refine hK.out _ _ (⟨LD.box_range HzaK_4.out, LD.box_range HzaH_4.out⟩) (fun _ => ?_)
                clear hK K
                refine wpAnyH_ready (rs := [6, 7]) (by kernel_rfl) (by simp) ?_
                refine AllReadyH.cons rfl (fun K hK => ?_) ?_
                · refine RGS.free rfl ?_
                  try simp only [List.getElem_toArray, List.getElem_cons_zero, List.getElem_cons_succ]
                  go_simp
                  go_at_call 17
                  refine (HI.out A__t6 l0 c__t6 [(.slice A__t7_0 n__t7_0 c__t7_0), (.int .i64 y1.need)] [(.int .i64 y2.zone), (.int .i64 y2.epoch), (.int .i64 y2.kind), (.int .i64 y2.time), (.int .i64 y2.until_), (.int .i64 y2.count), (.int .i64 y2.root), (.int .i64 y2.prev), (.slice A__t8_8 n__t8_8 c__t8_8), (.int .i64 y2.keys.need), (.slice A__t8_10 n__t8_10 c__t8_10), (.int .i64 y2.heirs.need), (.int .i64 y2.wait), (.slice A__t8_13 n__t8_13 c__t8_13), (.int .i64 y2.judge.need), (.bool y2.frozen)] _ hcap_t6 Hz_t6_4.out Hz_t7_4.out Hz_t8_4.out).mono ?_
                  rintro e Y4 ⟨cs9, rfl, hown, hb⟩
                  obtain ⟨A_h0_8, n_h0_8, c_h0_8, A_h0_10, n_h0_10, c_h0_10, A_h0_13, n_h0_13, c_h0_13, A_h0_16, n_h0_16, c_h0_16, rfl⟩ := RSigned_shape hown.rd
                  have HzaK_5 := Lib.hid (HzaK_4.out.below hb HzaK_4.out.lt)
                  have HzaH_5 := Lib.hid (HzaH_4.out.below hb HzaH_4.out.lt)
                  have HzB_5 := Lib.hid (HzB_4.out.trans (hb.mono HzB_4.out.size))
                  have Hz_t6_5 := Lib.hid ((Hz_t6_4.out.below hb (Nat.le_refl _)).more hb.size)
                  have Hz_t7_5 := Lib.hid (rgUp Hz_t7_4.out hb)
                  have Hz_t8_5 := Lib.hid (rgUp Hz_t8_4.out hb)
                  have HzR_5 := Lib.hid (show OwnI RSigned Y4 (Y3.heap.size) (Y4.heap.size) [(.int .i64 r0.head.zone), (.int .i64 r0.head.epoch), (.int .i64 r0.head.kind), (.int .i64 r0.head.time), (.int .i64 r0.head.until_), (.int .i64 r0.head.count), (.int .i64 r0.head.root), (.int .i64 r0.head.prev), (.slice A_h0_8 n_h0_8 c_h0_8), (.int .i64 r0.head.keys.need), (.slice A_h0_10 n_h0_10 c_h0_10), (.int .i64 r0.head.heirs.need), (.int .i64 r0.head.wait), (.slice A_h0_13 n_h0_13 c_h0_13), (.int .i64 r0.head.judge.need), (.bool r0.head.frozen), (.slice A_h0_16 n_h0_16 c_h0_16)] r0 ∧ (Y4.heap.size) ≤ Y4.heap.size from ⟨hown, Nat.le_refl _⟩)
                  have hsY4 := hb.size
                  clear hown hb
                  go_simp
                  refine hK.out _ _ (⟨LD.box_range HzaK_5.out, LD.box_range HzaH_5.out⟩) (fun _ => ?_)
                  clear hK K
                  refine wpAnyH_ready (rs := [7]) (by kernel_rfl) (by simp) ?_
                  refine AllReadyH.cons rfl (fun K hK => ?_) ?_
                  · refine RGS.free rfl ?_
                    try simp only [List.getElem_toArray, List.getElem_cons_zero, List.getElem_cons_succ]
                    go_simp
                    have hal : Below Y4.heap.size Y4 (Y4.alloc (.cells #[.int .i64 0, .int .i64 0, .int .i64 0, .int .i64 0, .int .i64 0, .int .i64 0, .int .i64 0, .int .i64 0, .slice none 0 0, .int .i64 0, .slice none 0 0, .int .i64 0, .int .i64 0, .slice none 0 0, .int .i64 0, .bool false, .slice none 0 0] 38)) := (Below.refl _ _).alloc (Nat.le_refl _) _
                    have HzaK_6 := Lib.hid (HzaK_5.out.below hal HzaK_5.out.lt)
                    have HzaH_6 := Lib.hid (HzaH_5.out.below hal HzaH_5.out.lt)
                    have HzB_6 := Lib.hid (HzB_5.out.trans (hal.mono HzB_5.out.size))
                    have Hz_t6_6 := Lib.hid ((Hz_t6_5.out.below hal (Nat.le_refl _)).more hal.size)
                    have Hz_t7_6 := Lib.hid (rgUp Hz_t7_5.out hal)
                    have Hz_t8_6 := Lib.hid (rgUp Hz_t8_5.out hal)
                    have HzR_6 := Lib.hid (show OwnI RSigned (Y4.alloc (.cells #[.int .i64 0, .int .i64 0, .int .i64 0, .int .i64 0, .int .i64 0, .int .i64 0, .int .i64 0, .int .i64 0, .slice none 0 0, .int .i64 0, .slice none 0 0, .int .i64 0, .int .i64 0, .slice none 0 0, .int .i64 0, .bool false, .slice none 0 0] 38)) (Y3.heap.size) (Y4.heap.size) [(.int .i64 r0.head.zone), (.int .i64 r0.head.epoch), (.int .i64 r0.head.kind), (.int .i64 r0.head.time), (.int .i64 r0.head.until_), (.int .i64 r0.head.count), (.int .i64 r0.head.root), (.int .i64 r0.head.prev), (.slice A_h0_8 n_h0_8 c_h0_8), (.int .i64 r0.head.keys.need), (.slice A_h0_10 n_h0_10 c_h0_10), (.int .i64 r0.head.heirs.need), (.int .i64 r0.head.wait), (.slice A_h0_13 n_h0_13 c_h0_13), (.int .i64 r0.head.judge.need), (.bool r0.head.frozen), (.slice A_h0_16 n_h0_16 c_h0_16)] r0 ∧ (Y4.heap.size) ≤ (Y4.alloc (.cells #[.int .i64 0, .int .i64 0, .int .i64 0, .int .i64 0, .int .i64 0, .int .i64 0, .int .i64 0, .int .i64 0, .slice none 0 0, .int .i64 0, .slice none 0 0, .int .i64 0, .int .i64 0, .slice none 0 0, .int .i64 0, .bool false, .slice none 0 0] 38)).heap.size from (⟨HzR_5.out.1.below hal HzR_5.out.2, Nat.le_trans HzR_5.out.2 hal.size⟩ : _ ∧ _))
                    have HzG_6 := Lib.hid (show Box (Y4.alloc (.cells #[.int .i64 0, .int .i64 0, .int .i64 0, .int .i64 0, .int .i64 0, .int .i64 0, .int .i64 0, .int .i64 0, .slice none 0 0, .int .i64 0, .slice none 0 0, .int .i64 0, .int .i64 0, .slice none 0 0, .int .i64 0, .bool false, .slice none 0 0] 38)) (Y4.heap.size) [.int .i64 0, .int .i64 0, .int .i64 0, .int .i64 0, .int .i64 0, .int .i64 0, .int .i64 0, .int .i64 0, .slice none 0 0, .int .i64 0, .slice none 0 0, .int .i64 0, .int .i64 0, .slice none 0 0, .int .i64 0, .bool false, .slice none 0 0] from Box.new Y4 #[.int .i64 0, .int .i64 0, .int .i64 0, .int .i64 0, .int .i64 0, .int .i64 0, .int .i64 0, .int .i64 0, .slice none 0 0, .int .i64 0, .slice none 0 0, .int .i64 0, .int .i64 0, .slice none 0 0, .int .i64 0, .bool false, .slice none 0 0] 38)
                    obtain ⟨Y5, hY5⟩ : ∃ u9, Y4.alloc (.cells #[.int .i64 0, .int .i64 0, .int .i64 0, .int .i64 0, .int .i64 0, .int .i64 0, .int .i64 0, .int .i64 0, .slice none 0 0, .int .i64 0, .slice none 0 0, .int .i64 0, .int .i64 0, .slice none 0 0, .int .i64 0, .bool false, .slice none 0 0] 38) = u9 := ⟨_, rfl⟩
                    rw [hY5] at HzaK_6 HzaH_6 HzB_6 Hz_t6_6 Hz_t7_6 Hz_t8_6 HzR_6 HzG_6
                    have HY5 := Lib.hid hY5
                    clear hal
                    first | rw [HY5.out] | rw [show (Y4.alloc (.cells #[.int .i64 0, .int .i64 0, .int .i64 0, .int .i64 0, .int .i64 0, .int .i64 0, .int .i64 0, .int .i64 0, .slice none 0 0, .int .i64 0, .slice none 0 0, .int .i64 0, .int .i64 0, .slice none 0 0, .int .i64 0, .bool false, .slice none 0 0] 38)).drew = Y5 from HY5.out]
                    have hsY5 : Y4.heap.size + 1 ≤ Y5.heap.size := by rw [← HY5.out]; simp
                    have hdis : Y4.heap.size < Y3.heap.size ∨ Y4.heap.size ≤ Y4.heap.size := .inr (by omega)
                    refine hK.out _ _ (⟨LD.box_range HzaK_6.out, LD.box_range HzaH_6.out⟩) (fun _ => ?_)
                    clear hK K
                    refine wpAnyH_ready (rs := [8]) (by kernel_rfl) (by simp) ?_
                    refine AllReadyH.cons rfl (fun K hK => ?_) ?_
                    · refine RGS.free rfl ?_
                      try simp only [List.getElem_toArray, List.getElem_cons_zero, List.getElem_cons_succ]
                      obtain ⟨VF, hVF⟩ : ∃ u9, puts Y5 (Y4.heap.size) 0 [(.int .i64 r0.head.zone), (.int .i64 r0.head.epoch), (.int .i64 r0.head.kind), (.int .i64 r0.head.time), (.int .i64 r0.head.until_), (.int .i64 r0.head.count), (.int .i64 r0.head.root), (.int .i64 r0.head.prev), (.slice A_h0_8 n_h0_8 c_h0_8), (.int .i64 r0.head.keys.need), (.slice A_h0_10 n_h0_10 c_h0_10), (.int .i64 r0.head.heirs.need), (.int .i64 r0.head.wait), (.slice A_h0_13 n_h0_13 c_h0_13), (.int .i64 r0.head.judge.need), (.bool r0.head.frozen), (.slice A_h0_16 n_h0_16 c_h0_16)] = u9 := ⟨_, rfl⟩
                      have HbF := Lib.hid (pt_bel hVF HzB_6.out (show W_18.heap.size ≤ Y4.heap.size by omega))
                      have HgF := Lib.hid (show Box VF (Y4.heap.size) [(.int .i64 r0.head.zone), (.int .i64 r0.head.epoch), (.int .i64 r0.head.kind), (.int .i64 r0.head.time), (.int .i64 r0.head.until_), (.int .i64 r0.head.count), (.int .i64 r0.head.root), (.int .i64 r0.head.prev), (.slice A_h0_8 n_h0_8 c_h0_8), (.int .i64 r0.head.keys.need), (.slice A_h0_10 n_h0_10 c_h0_10), (.int .i64 r0.head.heirs.need), (.int .i64 r0.head.wait), (.slice A_h0_13 n_h0_13 c_h0_13), (.int .i64 r0.head.judge.need), (.bool r0.head.frozen), (.slice A_h0_16 n_h0_16 c_h0_16)] from (show Box VF (Y4.heap.size) ([] ++ [(.int .i64 r0.head.zone), (.int .i64 r0.head.epoch), (.int .i64 r0.head.kind), (.int .i64 r0.head.time), (.int .i64 r0.head.until_), (.int .i64 r0.head.count), (.int .i64 r0.head.root), (.int .i64 r0.head.prev), (.slice A_h0_8 n_h0_8 c_h0_8), (.int .i64 r0.head.keys.need), (.slice A_h0_10 n_h0_10 c_h0_10), (.int .i64 r0.head.heirs.need), (.int .i64 r0.head.wait), (.slice A_h0_13 n_h0_13 c_h0_13), (.int .i64 r0.head.judge.need), (.bool r0.head.frozen), (.slice A_h0_16 n_h0_16 c_h0_16)] ++ []) from pt_mid hVF (show Box Y5 (Y4.heap.size) ([] ++ [.int .i64 0, .int .i64 0, .int .i64 0, .int .i64 0, .int .i64 0, .int .i64 0, .int .i64 0, .int .i64 0, .slice none 0 0, .int .i64 0, .slice none 0 0, .int .i64 0, .int .i64 0, .slice none 0 0, .int .i64 0, .bool false, .slice none 0 0] ++ []) from HzG_6.out) rfl rfl))
                      have HrF := Lib.hid (show RSigned.rd VF (Lt VF.heap.size) [(.int .i64 r0.head.zone), (.int .i64 r0.head.epoch), (.int .i64 r0.head.kind), (.int .i64 r0.head.time), (.int .i64 r0.head.until_), (.int .i64 r0.head.count), (.int .i64 r0.head.root), (.int .i64 r0.head.prev), (.slice A_h0_8 n_h0_8 c_h0_8), (.int .i64 r0.head.keys.need), (.slice A_h0_10 n_h0_10 c_h0_10), (.int .i64 r0.head.heirs.need), (.int .i64 r0.head.wait), (.slice A_h0_13 n_h0_13 c_h0_13), (.int .i64 r0.head.judge.need), (.bool r0.head.frozen), (.slice A_h0_16 n_h0_16 c_h0_16)] r0 from RSigned.more (OwnI.keep (w' := VF) HzR_6.out.1 fun i _ h1 h2 => by rw [← hVF]; exact puts_keep (by omega) _ _).rd fun i hi => Nat.lt_of_lt_of_le hi (Nat.le_trans HzR_6.out.2 (by rw [← hVF, puts_size]; exact Nat.le_refl _)))
                      refine LD.op_stV LD.big_Signed _ _ rfl rfl rfl HzG_6.out rfl (by decide) rfl hVF ?_
                      simp only [Act.put, List.getElem_toArray, List.getElem_cons_zero, List.getElem_cons_succ, List.setIfInBounds_toArray, List.set_cons_succ, List.set_cons_zero]
                      have HzaK_7 := Lib.hid (pt_box hVF HzaK_6.out (show (W0.heap.size) ≠ (Y4.heap.size) by omega))
                      have HzaH_7 := Lib.hid (pt_box hVF HzaH_6.out (show (W0.heap.size + 1) ≠ (Y4.heap.size) by omega))
                      have HzB_7 := HbF
                      refine hK.out _ _ (⟨LD.box_range HzaK_7.out, LD.box_range HzaH_7.out⟩) (fun _ => ?_)
                      clear hK K
                      refine wpAnyH_done (by kernel_rfl) ?_ _
                      exact ⟨rfl, HJ9.out _ _ ⟨Y4.heap.size, A_h0_8, n_h0_8, c_h0_8, A_h0_10, n_h0_10, c_h0_10, A_h0_13, n_h0_13, c_h0_13, A_h0_16, n_h0_16, c_h0_16, .slice a0 l0 c0, .slice A__t6 l0 c__t6, .agg #[u1_0, u1_1], .agg #[(.slice A__t7_0 n__t7_0 c__t7_0), (.int .i64 y1.need)], .agg #[u2_0, u2_1, u2_2, u2_3, u2_4, u2_5, u2_6, u2_7, u2_8, u2_9, u2_10, u2_11, u2_12, u2_13, u2_14, u2_15], .agg #[(.int .i64 y2.zone), (.int .i64 y2.epoch), (.int .i64 y2.kind), (.int .i64 y2.time), (.int .i64 y2.until_), (.int .i64 y2.count), (.int .i64 y2.root), (.int .i64 y2.prev), (.slice A__t8_8 n__t8_8 c__t8_8), (.int .i64 y2.keys.need), (.slice A__t8_10 n__t8_10 c__t8_10), (.int .i64 y2.heirs.need), (.int .i64 y2.wait), (.slice A__t8_13 n__t8_13 c__t8_13), (.int .i64 y2.judge.need), (.bool y2.frozen)], .agg #[(.int .i64 r0.head.zone), (.int .i64 r0.head.epoch), (.int .i64 r0.head.kind), (.int .i64 r0.head.time), (.int .i64 r0.head.until_), (.int .i64 r0.head.count), (.int .i64 r0.head.root), (.int .i64 r0.head.prev), (.slice A_h0_8 n_h0_8 c_h0_8), (.int .i64 r0.head.keys.need), (.slice A_h0_10 n_h0_10 c_h0_10), (.int .i64 r0.head.heirs.need), (.int .i64 r0.head.wait), (.slice A_h0_13 n_h0_13 c_h0_13), (.int .i64 r0.head.judge.need), (.bool r0.head.frozen), (.slice A_h0_16 n_h0_16 c_h0_16)], (by first | (simp only [Act.put, List.setIfInBounds_toArray, List.set_cons_succ, List.set_cons_zero] <;> rfl) | rfl), HbF.out, HgF.out, by omega, HrF.out⟩⟩
                    exact AllReadyH.nil
                  exact AllReadyH.nil
                refine AllReadyH.cons rfl (fun K hK => ?_) ?_
                · refine RGS.free rfl ?_
                  try simp only [List.getElem_toArray, List.getElem_cons_zero, List.getElem_cons_succ]
                  go_simp
                  have hal : Below Y3.heap.size Y3 (Y3.alloc (.cells #[.int .i64 0, .int .i64 0, .int .i64 0, .int .i64 0, .int .i64 0, .int .i64 0, .int .i64 0, .int .i64 0, .slice none 0 0, .int .i64 0, .slice none 0 0, .int .i64 0, .int .i64 0, .slice none 0 0, .int .i64 0, .bool false, .slice none 0 0] 38)) := (Below.refl _ _).alloc (Nat.le_refl _) _
                  have HzaK_5 := Lib.hid (HzaK_4.out.below hal HzaK_4.out.lt)
                  have HzaH_5 := Lib.hid (HzaH_4.out.below hal HzaH_4.out.lt)
                  have HzB_5 := Lib.hid (HzB_4.out.trans (hal.mono HzB_4.out.size))
                  have Hz_t6_5 := Lib.hid ((Hz_t6_4.out.below hal (Nat.le_refl _)).more hal.size)
                  have Hz_t7_5 := Lib.hid (rgUp Hz_t7_4.out hal)
                  have Hz_t8_5 := Lib.hid (rgUp Hz_t8_4.out hal)
                  have HzG_5 := Lib.hid (show Box (Y3.alloc (.cells #[.int .i64 0, .int .i64 0, .int .i64 0, .int .i64 0, .int .i64 0, .int .i64 0, .int .i64 0, .int .i64 0, .slice none 0 0, .int .i64 0, .slice none 0 0, .int .i64 0, .int .i64 0, .slice none 0 0, .int .i64 0, .bool false, .slice none 0 0] 38)) (Y3.heap.size) [.int .i64 0, .int .i64 0, .int .i64 0, .int .i64 0, .int .i64 0, .int .i64 0, .int .i64 0, .int .i64 0, .slice none 0 0, .int .i64 0, .slice none 0 0, .int .i64 0, .int .i64 0, .slice none 0 0, .int .i64 0, .bool false, .slice none 0 0] from Box.new Y3 #[.int .i64 0, .int .i64 0, .int .i64 0, .int .i64 0, .int .i64 0, .int .i64 0, .int .i64 0, .int .i64 0, .slice none 0 0, .int .i64 0, .slice none 0 0, .int .i64 0, .int .i64 0, .slice none 0 0, .int .i64 0, .bool false, .slice none 0 0] 38)
                  obtain ⟨Y6, hY6⟩ : ∃ u9, Y3.alloc (.cells #[.int .i64 0, .int .i64 0, .int .i64 0, .int .i64 0, .int .i64 0, .int .i64 0, .int .i64 0, .int .i64 0, .slice none 0 0, .int .i64 0, .slice none 0 0, .int .i64 0, .int .i64 0, .slice none 0 0, .int .i64 0, .bool false, .slice none 0 0] 38) = u9 := ⟨_, rfl⟩
                  rw [hY6] at HzaK_5 HzaH_5 HzB_5 Hz_t6_5 Hz_t7_5 Hz_t8_5 HzG_5
                  have HY6 := Lib.hid hY6
                  clear hal
                  first | rw [HY6.out] | rw [show (Y3.alloc (.cells #[.int .i64 0, .int .i64 0, .int .i64 0, .int .i64 0, .int .i64 0, .int .i64 0, .int .i64 0, .int .i64 0, .slice none 0 0, .int .i64 0, .slice none 0 0, .int .i64 0, .int .i64 0, .slice none 0 0, .int .i64 0, .bool false, .slice none 0 0] 38)).drew = Y6 from HY6.out]
                  have hsY6 : Y3.heap.size + 1 ≤ Y6.heap.size := by rw [← HY6.out]; simp
                  refine hK.out _ _ (⟨LD.box_range HzaK_5.out, LD.box_range HzaH_5.out⟩) (fun _ => ?_)
                  clear hK K
                  refine wpAnyH_ready (rs := [6]) (by kernel_rfl) (by simp) ?_
                  refine AllReadyH.cons rfl (fun K hK => ?_) ?_
                  · refine RGS.free rfl ?_
                    try simp only [List.getElem_toArray, List.getElem_cons_zero, List.getElem_cons_succ]
                    go_simp
                    go_at_call 17
                    refine (HI.out A__t6 l0 c__t6 [(.slice A__t7_0 n__t7_0 c__t7_0), (.int .i64 y1.need)] [(.int .i64 y2.zone), (.int .i64 y2.epoch), (.int .i64 y2.kind), (.int .i64 y2.time), (.int .i64 y2.until_), (.int .i64 y2.count), (.int .i64 y2.root), (.int .i64 y2.prev), (.slice A__t8_8 n__t8_8 c__t8_8), (.int .i64 y2.keys.need), (.slice A__t8_10 n__t8_10 c__t8_10), (.int .i64 y2.heirs.need), (.int .i64 y2.wait), (.slice A__t8_13 n__t8_13 c__t8_13), (.int .i64 y2.judge.need), (.bool y2.frozen)] _ hcap_t6 Hz_t6_5.out Hz_t7_5.out Hz_t8_5.out).mono ?_
                    rintro e Y7 ⟨cs9, rfl, hown, hb⟩
                    obtain ⟨A_h0_8, n_h0_8, c_h0_8, A_h0_10, n_h0_10, c_h0_10, A_h0_13, n_h0_13, c_h0_13, A_h0_16, n_h0_16, c_h0_16, rfl⟩ := RSigned_shape hown.rd
                    have HzaK_6 := Lib.hid (HzaK_5.out.below hb HzaK_5.out.lt)
                    have HzaH_6 := Lib.hid (HzaH_5.out.below hb HzaH_5.out.lt)
                    have HzB_6 := Lib.hid (HzB_5.out.trans (hb.mono HzB_5.out.size))
                    have Hz_t6_6 := Lib.hid ((Hz_t6_5.out.below hb (Nat.le_refl _)).more hb.size)
                    have Hz_t7_6 := Lib.hid (rgUp Hz_t7_5.out hb)
                    have Hz_t8_6 := Lib.hid (rgUp Hz_t8_5.out hb)
                    have HzG_6 := Lib.hid (HzG_5.out.below hb HzG_5.out.lt)
                    have HzR_6 := Lib.hid (show OwnI RSigned Y7 (Y6.heap.size) (Y7.heap.size) [(.int .i64 r0.head.zone), (.int .i64 r0.head.epoch), (.int .i64 r0.head.kind), (.int .i64 r0.head.time), (.int .i64 r0.head.until_), (.int .i64 r0.head.count), (.int .i64 r0.head.root), (.int .i64 r0.head.prev), (.slice A_h0_8 n_h0_8 c_h0_8), (.int .i64 r0.head.keys.need), (.slice A_h0_10 n_h0_10 c_h0_10), (.int .i64 r0.head.heirs.need), (.int .i64 r0.head.wait), (.slice A_h0_13 n_h0_13 c_h0_13), (.int .i64 r0.head.judge.need), (.bool r0.head.frozen), (.slice A_h0_16 n_h0_16 c_h0_16)] r0 ∧ (Y7.heap.size) ≤ Y7.heap.size from ⟨hown, Nat.le_refl _⟩)
                    have hdis : Y3.heap.size < Y6.heap.size ∨ Y7.heap.size ≤ Y3.heap.size := .inl (by omega)
                    have hsY7 := hb.size
                    clear hown hb
                    go_simp
                    refine hK.out _ _ (⟨LD.box_range HzaK_6.out, LD.box_range HzaH_6.out⟩) (fun _ => ?_)
                    clear hK K
                    refine wpAnyH_ready (rs := [8]) (by kernel_rfl) (by simp) ?_
                    refine AllReadyH.cons rfl (fun K hK => ?_) ?_
                    · refine RGS.free rfl ?_
                      try simp only [List.getElem_toArray, List.getElem_cons_zero, List.getElem_cons_succ]
                      obtain ⟨VF, hVF⟩ : ∃ u9, puts Y7 (Y3.heap.size) 0 [(.int .i64 r0.head.zone), (.int .i64 r0.head.epoch), (.int .i64 r0.head.kind), (.int .i64 r0.head.time), (.int .i64 r0.head.until_), (.int .i64 r0.head.count), (.int .i64 r0.head.root), (.int .i64 r0.head.prev), (.slice A_h0_8 n_h0_8 c_h0_8), (.int .i64 r0.head.keys.need), (.slice A_h0_10 n_h0_10 c_h0_10), (.int .i64 r0.head.heirs.need), (.int .i64 r0.head.wait), (.slice A_h0_13 n_h0_13 c_h0_13), (.int .i64 r0.head.judge.need), (.bool r0.head.frozen), (.slice A_h0_16 n_h0_16 c_h0_16)] = u9 := ⟨_, rfl⟩
                      have HbF := Lib.hid (pt_bel hVF HzB_6.out (show W_18.heap.size ≤ Y3.heap.size by omega))
                      have HgF := Lib.hid (show Box VF (Y3.heap.size) [(.int .i64 r0.head.zone), (.int .i64 r0.head.epoch), (.int .i64 r0.head.kind), (.int .i64 r0.head.time), (.int .i64 r0.head.until_), (.int .i64 r0.head.count), (.int .i64 r0.head.root), (.int .i64 r0.head.prev), (.slice A_h0_8 n_h0_8 c_h0_8), (.int .i64 r0.head.keys.need), (.slice A_h0_10 n_h0_10 c_h0_10), (.int .i64 r0.head.heirs.need), (.int .i64 r0.head.wait), (.slice A_h0_13 n_h0_13 c_h0_13), (.int .i64 r0.head.judge.need), (.bool r0.head.frozen), (.slice A_h0_16 n_h0_16 c_h0_16)] from (show Box VF (Y3.heap.size) ([] ++ [(.int .i64 r0.head.zone), (.int .i64 r0.head.epoch), (.int .i64 r0.head.kind), (.int .i64 r0.head.time), (.int .i64 r0.head.until_), (.int .i64 r0.head.count), (.int .i64 r0.head.root), (.int .i64 r0.head.prev), (.slice A_h0_8 n_h0_8 c_h0_8), (.int .i64 r0.head.keys.need), (.slice A_h0_10 n_h0_10 c_h0_10), (.int .i64 r0.head.heirs.need), (.int .i64 r0.head.wait), (.slice A_h0_13 n_h0_13 c_h0_13), (.int .i64 r0.head.judge.need), (.bool r0.head.frozen), (.slice A_h0_16 n_h0_16 c_h0_16)] ++ []) from pt_mid hVF (show Box Y7 (Y3.heap.size) ([] ++ [.int .i64 0, .int .i64 0, .int .i64 0, .int .i64 0, .int .i64 0, .int .i64 0, .int .i64 0, .int .i64 0, .slice none 0 0, .int .i64 0, .slice none 0 0, .int .i64 0, .int .i64 0, .slice none 0 0, .int .i64 0, .bool false, .slice none 0 0] ++ []) from HzG_6.out) rfl rfl))
                      have HrF := Lib.hid (show RSigned.rd VF (Lt VF.heap.size) [(.int .i64 r0.head.zone), (.int .i64 r0.head.epoch), (.int .i64 r0.head.kind), (.int .i64 r0.head.time), (.int .i64 r0.head.until_), (.int .i64 r0.head.count), (.int .i64 r0.head.root), (.int .i64 r0.head.prev), (.slice A_h0_8 n_h0_8 c_h0_8), (.int .i64 r0.head.keys.need), (.slice A_h0_10 n_h0_10 c_h0_10), (.int .i64 r0.head.heirs.need), (.int .i64 r0.head.wait), (.slice A_h0_13 n_h0_13 c_h0_13), (.int .i64 r0.head.judge.need), (.bool r0.head.frozen), (.slice A_h0_16 n_h0_16 c_h0_16)] r0 from RSigned.more (OwnI.keep (w' := VF) HzR_6.out.1 fun i _ h1 h2 => by rw [← hVF]; exact puts_keep (by omega) _ _).rd fun i hi => Nat.lt_of_lt_of_le hi (Nat.le_trans HzR_6.out.2 (by rw [← hVF, puts_size]; exact Nat.le_refl _)))
                      refine LD.op_stV LD.big_Signed _ _ rfl rfl rfl HzG_6.out rfl (by decide) rfl hVF ?_
                      simp only [Act.put, List.getElem_toArray, List.getElem_cons_zero, List.getElem_cons_succ, List.setIfInBounds_toArray, List.set_cons_succ, List.set_cons_zero]
                      have HzaK_7 := Lib.hid (pt_box hVF HzaK_6.out (show (W0.heap.size) ≠ (Y3.heap.size) by omega))
                      have HzaH_7 := Lib.hid (pt_box hVF HzaH_6.out (show (W0.heap.size + 1) ≠ (Y3.heap.size) by omega))
                      have HzB_7 := HbF
                      refine hK.out _ _ (⟨LD.box_range HzaK_7.out, LD.box_range HzaH_7.out⟩) (fun _ => ?_)
                      clear hK K
                      refine wpAnyH_done (by kernel_rfl) ?_ _
                      exact ⟨rfl, HJ9.out _ _ ⟨Y3.heap.size, A_h0_8, n_h0_8, c_h0_8, A_h0_10, n_h0_10, c_h0_10, A_h0_13, n_h0_13, c_h0_13, A_h0_16, n_h0_16, c_h0_16, .slice a0 l0 c0, .slice A__t6 l0 c__t6, .agg #[u1_0, u1_1], .agg #[(.slice A__t7_0 n__t7_0 c__t7_0), (.int .i64 y1.need)], .agg #[u2_0, u2_1, u2_2, u2_3, u2_4, u2_5, u2_6, u2_7, u2_8, u2_9, u2_10, u2_11, u2_12, u2_13, u2_14, u2_15], .agg #[(.int .i64 y2.zone), (.int .i64 y2.epoch), (.int .i64 y2.kind), (.int .i64 y2.time), (.int .i64 y2.until_), (.int .i64 y2.count), (.int .i64 y2.root), (.int .i64 y2.prev), (.slice A__t8_8 n__t8_8 c__t8_8), (.int .i64 y2.keys.need), (.slice A__t8_10 n__t8_10 c__t8_10), (.int .i64 y2.heirs.need), (.int .i64 y2.wait), (.slice A__t8_13 n__t8_13 c__t8_13), (.int .i64 y2.judge.need), (.bool y2.frozen)], .agg #[(.int .i64 r0.head.zone), (.int .i64 r0.head.epoch), (.int .i64 r0.head.kind), (.int .i64 r0.head.time), (.int .i64 r0.head.until_), (.int .i64 r0.head.count), (.int .i64 r0.head.root), (.int .i64 r0.head.prev), (.slice A_h0_8 n_h0_8 c_h0_8), (.int .i64 r0.head.keys.need), (.slice A_h0_10 n_h0_10 c_h0_10), (.int .i64 r0.head.heirs.need), (.int .i64 r0.head.wait), (.slice A_h0_13 n_h0_13 c_h0_13), (.int .i64 r0.head.judge.need), (.bool r0.head.frozen), (.slice A_h0_16 n_h0_16 c_h0_16)], (by first | (simp only [Act.put, List.setIfInBounds_toArray, List.set_cons_succ, List.set_cons_zero] <;> rfl) | rfl), HbF.out, HgF.out, by omega, HrF.out⟩⟩
                    exact AllReadyH.nil
                  exact AllReadyH.nil
                exact AllReadyH.nil
              refine AllReadyH.cons rfl (fun K hK => ?_) ?_
              · refine RGS.free rfl ?_
                try simp only [List.getElem_toArray, List.getElem_cons_zero, List.getElem_cons_succ]
                go_simp
                have hal : Below Y2.heap.size Y2 (Y2.alloc (.cells #[.int .i64 0, .int .i64 0, .int .i64 0, .int .i64 0, .int .i64 0, .int .i64 0, .int .i64 0, .int .i64 0, .slice none 0 0, .int .i64 0, .slice none 0 0, .int .i64 0, .int .i64 0, .slice none 0 0, .int .i64 0, .bool false, .slice none 0 0] 38)) := (Below.refl _ _).alloc (Nat.le_refl _) _
                have HzaK_4 := Lib.hid (HzaK_3.out.below hal HzaK_3.out.lt)
                have HzaH_4 := Lib.hid (HzaH_3.out.below hal HzaH_3.out.lt)
                have HzB_4 := Lib.hid (HzB_3.out.trans (hal.mono HzB_3.out.size))
                have Hz_t6_4 := Lib.hid ((Hz_t6_3.out.below hal (Nat.le_refl _)).more hal.size)
                have Hz_t7_4 := Lib.hid (rgUp Hz_t7_3.out hal)
                have HzG_4 := Lib.hid (show Box (Y2.alloc (.cells #[.int .i64 0, .int .i64 0, .int .i64 0, .int .i64 0, .int .i64 0, .int .i64 0, .int .i64 0, .int .i64 0, .slice none 0 0, .int .i64 0, .slice none 0 0, .int .i64 0, .int .i64 0, .slice none 0 0, .int .i64 0, .bool false, .slice none 0 0] 38)) (Y2.heap.size) [.int .i64 0, .int .i64 0, .int .i64 0, .int .i64 0, .int .i64 0, .int .i64 0, .int .i64 0, .int .i64 0, .slice none 0 0, .int .i64 0, .slice none 0 0, .int .i64 0, .int .i64 0, .slice none 0 0, .int .i64 0, .bool false, .slice none 0 0] from Box.new Y2 #[.int .i64 0, .int .i64 0, .int .i64 0, .int .i64 0, .int .i64 0, .int .i64 0, .int .i64 0, .int .i64 0, .slice none 0 0, .int .i64 0, .slice none 0 0, .int .i64 0, .int .i64 0, .slice none 0 0, .int .i64 0, .bool false, .slice none 0 0] 38)
                obtain ⟨Y8, hY8⟩ : ∃ u9, Y2.alloc (.cells #[.int .i64 0, .int .i64 0, .int .i64 0, .int .i64 0, .int .i64 0, .int .i64 0, .int .i64 0, .int .i64 0, .slice none 0 0, .int .i64 0, .slice none 0 0, .int .i64 0, .int .i64 0, .slice none 0 0, .int .i64 0, .bool false, .slice none 0 0] 38) = u9 := ⟨_, rfl⟩
                rw [hY8] at HzaK_4 HzaH_4 HzB_4 Hz_t6_4 Hz_t7_4 HzG_4
                have HY8 := Lib.hid hY8
                clear hal
                first | rw [HY8.out] | rw [show (Y2.alloc (.cells #[.int .i64 0, .int .i64 0, .int .i64 0, .int .i64 0, .int .i64 0, .int .i64 0, .int .i64 0, .int .i64 0, .slice none 0 0, .int .i64 0, .slice none 0 0, .int .i64 0, .int .i64 0, .slice none 0 0, .int .i64 0, .bool false, .slice none 0 0] 38)).drew = Y8 from HY8.out]
                have hsY8 : Y2.heap.size + 1 ≤ Y8.heap.size := by rw [← HY8.out]; simp
                refine hK.out _ _ (⟨LD.box_range HzaK_4.out, LD.box_range HzaH_4.out⟩) (fun _ => ?_)
                clear hK K
                refine wpAnyH_ready (rs := [5]) (by kernel_rfl) (by simp) ?_
                refine AllReadyH.cons rfl (fun K hK => ?_) ?_
                · refine RGS.free rfl ?_
                  try simp only [List.getElem_toArray, List.getElem_cons_zero, List.getElem_cons_succ]
                  go_simp
                  go_at_call 16
                  refine (toHead_any [u2_0, u2_1, u2_2, u2_3, u2_4, u2_5, u2_6, u2_7, u2_8, u2_9, u2_10, u2_11, u2_12, u2_13, u2_14, u2_15] y2 _ (rgUp (RHead.more HO_aH_18.out fun i hi => Nat.lt_of_lt_of_le hi HA_18.out.size) HzB_4.out) (by omega)).mono ?_
                  rintro e Y9 ⟨cs9, rfl, hown, hb⟩
                  obtain ⟨A__t8_8, n__t8_8, c__t8_8, A__t8_10, n__t8_10, c__t8_10, A__t8_13, n__t8_13, c__t8_13, rfl⟩ := RHead_shape hown.rd
                  have HzaK_5 := Lib.hid (HzaK_4.out.below hb HzaK_4.out.lt)
                  have HzaH_5 := Lib.hid (HzaH_4.out.below hb HzaH_4.out.lt)
                  have HzB_5 := Lib.hid (HzB_4.out.trans (hb.mono HzB_4.out.size))
                  have Hz_t6_5 := Lib.hid ((Hz_t6_4.out.below hb (Nat.le_refl _)).more hb.size)
                  have Hz_t7_5 := Lib.hid (rgUp Hz_t7_4.out hb)
                  have HzG_5 := Lib.hid (HzG_4.out.below hb HzG_4.out.lt)
                  have Hz_t8_5 := Lib.hid hown.rd
                  have hsY9 := hb.size
                  clear hown hb
                  go_simp
                  refine hK.out _ _ (⟨LD.box_range HzaK_5.out, LD.box_range HzaH_5.out⟩) (fun _ => ?_)
                  clear hK K
                  refine wpAnyH_ready (rs := [6]) (by kernel_rfl) (by simp) ?_
                  refine AllReadyH.cons rfl (fun K hK => ?_) ?_
                  · refine RGS.free rfl ?_
                    try simp only [List.getElem_toArray, List.getElem_cons_zero, List.getElem_cons_succ]
                    go_simp
                    go_at_call 17
                    refine (HI.out A__t6 l0 c__t6 [(.slice A__t7_0 n__t7_0 c__t7_0), (.int .i64 y1.need)] [(.int .i64 y2.zone), (.int .i64 y2.epoch), (.int .i64 y2.kind), (.int .i64 y2.time), (.int .i64 y2.until_), (.int .i64 y2.count), (.int .i64 y2.root), (.int .i64 y2.prev), (.slice A__t8_8 n__t8_8 c__t8_8), (.int .i64 y2.keys.need), (.slice A__t8_10 n__t8_10 c__t8_10), (.int .i64 y2.heirs.need), (.int .i64 y2.wait), (.slice A__t8_13 n__t8_13 c__t8_13), (.int .i64 y2.judge.need), (.bool y2.frozen)] _ hcap_t6 Hz_t6_5.out Hz_t7_5.out Hz_t8_5.out).mono ?_
                    rintro e Y10 ⟨cs9, rfl, hown, hb⟩
                    obtain ⟨A_h0_8, n_h0_8, c_h0_8, A_h0_10, n_h0_10, c_h0_10, A_h0_13, n_h0_13, c_h0_13, A_h0_16, n_h0_16, c_h0_16, rfl⟩ := RSigned_shape hown.rd
                    have HzaK_6 := Lib.hid (HzaK_5.out.below hb HzaK_5.out.lt)
                    have HzaH_6 := Lib.hid (HzaH_5.out.below hb HzaH_5.out.lt)
                    have HzB_6 := Lib.hid (HzB_5.out.trans (hb.mono HzB_5.out.size))
                    have Hz_t6_6 := Lib.hid ((Hz_t6_5.out.below hb (Nat.le_refl _)).more hb.size)
                    have Hz_t7_6 := Lib.hid (rgUp Hz_t7_5.out hb)
                    have HzG_6 := Lib.hid (HzG_5.out.below hb HzG_5.out.lt)
                    have Hz_t8_6 := Lib.hid (rgUp Hz_t8_5.out hb)
                    have HzR_6 := Lib.hid (show OwnI RSigned Y10 (Y9.heap.size) (Y10.heap.size) [(.int .i64 r0.head.zone), (.int .i64 r0.head.epoch), (.int .i64 r0.head.kind), (.int .i64 r0.head.time), (.int .i64 r0.head.until_), (.int .i64 r0.head.count), (.int .i64 r0.head.root), (.int .i64 r0.head.prev), (.slice A_h0_8 n_h0_8 c_h0_8), (.int .i64 r0.head.keys.need), (.slice A_h0_10 n_h0_10 c_h0_10), (.int .i64 r0.head.heirs.need), (.int .i64 r0.head.wait), (.slice A_h0_13 n_h0_13 c_h0_13), (.int .i64 r0.head.judge.need), (.bool r0.head.frozen), (.slice A_h0_16 n_h0_16 c_h0_16)] r0 ∧ (Y10.heap.size) ≤ Y10.heap.size from ⟨hown, Nat.le_refl _⟩)
                    have hdis : Y2.heap.size < Y9.heap.size ∨ Y10.heap.size ≤ Y2.heap.size := .inl (by omega)
                    have hsY10 := hb.size
                    clear hown hb
                    go_simp
                    refine hK.out _ _ (⟨LD.box_range HzaK_6.out, LD.box_range HzaH_6.out⟩) (fun _ => ?_)
                    clear hK K
                    refine wpAnyH_ready (rs := [8]) (by kernel_rfl) (by simp) ?_
                    refine AllReadyH.cons rfl (fun K hK => ?_) ?_
                    · refine RGS.free rfl ?_
                      try simp only [List.getElem_toArray, List.getElem_cons_zero, List.getElem_cons_succ]
                      obtain ⟨VF, hVF⟩ : ∃ u9, puts Y10 (Y2.heap.size) 0 [(.int .i64 r0.head.zone), (.int .i64 r0.head.epoch), (.int .i64 r0.head.kind), (.int .i64 r0.head.time), (.int .i64 r0.head.until_), (.int .i64 r0.head.count), (.int .i64 r0.head.root), (.int .i64 r0.head.prev), (.slice A_h0_8 n_h0_8 c_h0_8), (.int .i64 r0.head.keys.need), (.slice A_h0_10 n_h0_10 c_h0_10), (.int .i64 r0.head.heirs.need), (.int .i64 r0.head.wait), (.slice A_h0_13 n_h0_13 c_h0_13), (.int .i64 r0.head.judge.need), (.bool r0.head.frozen), (.slice A_h0_16 n_h0_16 c_h0_16)] = u9 := ⟨_, rfl⟩
                      have HbF := Lib.hid (pt_bel hVF HzB_6.out (show W_18.heap.size ≤ Y2.heap.size by omega))
                      have HgF := Lib.hid (show Box VF (Y2.heap.size) [(.int .i64 r0.head.zone), (.int .i64 r0.head.epoch), (.int .i64 r0.head.kind), (.int .i64 r0.head.time), (.int .i64 r0.head.until_), (.int .i64 r0.head.count), (.int .i64 r0.head.root), (.int .i64 r0.head.prev), (.slice A_h0_8 n_h0_8 c_h0_8), (.int .i64 r0.head.keys.need), (.slice A_h0_10 n_h0_10 c_h0_10), (.int .i64 r0.head.heirs.need), (.int .i64 r0.head.wait), (.slice A_h0_13 n_h0_13 c_h0_13), (.int .i64 r0.head.judge.need), (.bool r0.head.frozen), (.slice A_h0_16 n_h0_16 c_h0_16)] from (show Box VF (Y2.heap.size) ([] ++ [(.int .i64 r0.head.zone), (.int .i64 r0.head.epoch), (.int .i64 r0.head.kind), (.int .i64 r0.head.time), (.int .i64 r0.head.until_), (.int .i64 r0.head.count), (.int .i64 r0.head.root), (.int .i64 r0.head.prev), (.slice A_h0_8 n_h0_8 c_h0_8), (.int .i64 r0.head.keys.need), (.slice A_h0_10 n_h0_10 c_h0_10), (.int .i64 r0.head.heirs.need), (.int .i64 r0.head.wait), (.slice A_h0_13 n_h0_13 c_h0_13), (.int .i64 r0.head.judge.need), (.bool r0.head.frozen), (.slice A_h0_16 n_h0_16 c_h0_16)] ++ []) from pt_mid hVF (show Box Y10 (Y2.heap.size) ([] ++ [.int .i64 0, .int .i64 0, .int .i64 0, .int .i64 0, .int .i64 0, .int .i64 0, .int .i64 0, .int .i64 0, .slice none 0 0, .int .i64 0, .slice none 0 0, .int .i64 0, .int .i64 0, .slice none 0 0, .int .i64 0, .bool false, .slice none 0 0] ++ []) from HzG_6.out) rfl rfl))
                      have HrF := Lib.hid (show RSigned.rd VF (Lt VF.heap.size) [(.int .i64 r0.head.zone), (.int .i64 r0.head.epoch), (.int .i64 r0.head.kind), (.int .i64 r0.head.time), (.int .i64 r0.head.until_), (.int .i64 r0.head.count), (.int .i64 r0.head.root), (.int .i64 r0.head.prev), (.slice A_h0_8 n_h0_8 c_h0_8), (.int .i64 r0.head.keys.need), (.slice A_h0_10 n_h0_10 c_h0_10), (.int .i64 r0.head.heirs.need), (.int .i64 r0.head.wait), (.slice A_h0_13 n_h0_13 c_h0_13), (.int .i64 r0.head.judge.need), (.bool r0.head.frozen), (.slice A_h0_16 n_h0_16 c_h0_16)] r0 from RSigned.more (OwnI.keep (w' := VF) HzR_6.out.1 fun i _ h1 h2 => by rw [← hVF]; exact puts_keep (by omega) _ _).rd fun i hi => Nat.lt_of_lt_of_le hi (Nat.le_trans HzR_6.out.2 (by rw [← hVF, puts_size]; exact Nat.le_refl _)))
                      refine LD.op_stV LD.big_Signed _ _ rfl rfl rfl HzG_6.out rfl (by decide) rfl hVF ?_
                      simp only [Act.put, List.getElem_toArray, List.getElem_cons_zero, List.getElem_cons_succ, List.setIfInBounds_toArray, List.set_cons_succ, List.set_cons_zero]
                      have HzaK_7 := Lib.hid (pt_box hVF HzaK_6.out (show (W0.heap.size) ≠ (Y2.heap.size) by omega))
                      have HzaH_7 := Lib.hid (pt_box hVF HzaH_6.out (show (W0.heap.size + 1) ≠ (Y2.heap.size) by omega))
                      have HzB_7 := HbF
                      refine hK.out _ _ (⟨LD.box_range HzaK_7.out, LD.box_range HzaH_7.out⟩) (fun _ => ?_)
                      clear hK K
                      refine wpAnyH_done (by kernel_rfl) ?_ _
                      exact ⟨rfl, HJ9.out _ _ ⟨Y2.heap.size, A_h0_8, n_h0_8, c_h0_8, A_h0_10, n_h0_10, c_h0_10, A_h0_13, n_h0_13, c_h0_13, A_h0_16, n_h0_16, c_h0_16, .slice a0 l0 c0, .slice A__t6 l0 c__t6, .agg #[u1_0, u1_1], .agg #[(.slice A__t7_0 n__t7_0 c__t7_0), (.int .i64 y1.need)], .agg #[u2_0, u2_1, u2_2, u2_3, u2_4, u2_5, u2_6, u2_7, u2_8, u2_9, u2_10, u2_11, u2_12, u2_13, u2_14, u2_15], .agg #[(.int .i64 y2.zone), (.int .i64 y2.epoch), (.int .i64 y2.kind), (.int .i64 y2.time), (.int .i64 y2.until_), (.int .i64 y2.count), (.int .i64 y2.root), (.int .i64 y2.prev), (.slice A__t8_8 n__t8_8 c__t8_8), (.int .i64 y2.keys.need), (.slice A__t8_10 n__t8_10 c__t8_10), (.int .i64 y2.heirs.need), (.int .i64 y2.wait), (.slice A__t8_13 n__t8_13 c__t8_13), (.int .i64 y2.judge.need), (.bool y2.frozen)], .agg #[(.int .i64 r0.head.zone), (.int .i64 r0.head.epoch), (.int .i64 r0.head.kind), (.int .i64 r0.head.time), (.int .i64 r0.head.until_), (.int .i64 r0.head.count), (.int .i64 r0.head.root), (.int .i64 r0.head.prev), (.slice A_h0_8 n_h0_8 c_h0_8), (.int .i64 r0.head.keys.need), (.slice A_h0_10 n_h0_10 c_h0_10), (.int .i64 r0.head.heirs.need), (.int .i64 r0.head.wait), (.slice A_h0_13 n_h0_13 c_h0_13), (.int .i64 r0.head.judge.need), (.bool r0.head.frozen), (.slice A_h0_16 n_h0_16 c_h0_16)], (by first | (simp only [Act.put, List.setIfInBounds_toArray, List.set_cons_succ, List.set_cons_zero] <;> rfl) | rfl), HbF.out, HgF.out, by omega, HrF.out⟩⟩
                    exact AllReadyH.nil
                  exact AllReadyH.nil
                exact AllReadyH.nil
              exact AllReadyH.nil
            refine AllReadyH.cons rfl (fun K hK => ?_) ?_
            · refine RGS.free rfl ?_
              try simp only [List.getElem_toArray, List.getElem_cons_zero, List.getElem_cons_succ]
              go_simp
              have hal : Below Y1.heap.size Y1 (Y1.alloc (.cells #[.int .i64 0, .int .i64 0, .int .i64 0, .int .i64 0, .int .i64 0, .int .i64 0, .int .i64 0, .int .i64 0, .slice none 0 0, .int .i64 0, .slice none 0 0, .int .i64 0, .int .i64 0, .slice none 0 0, .int .i64 0, .bool false, .slice none 0 0] 38)) := (Below.refl _ _).alloc (Nat.le_refl _) _
              have HzaK_3 := Lib.hid (HzaK_2.out.below hal HzaK_2.out.lt)
              have HzaH_3 := Lib.hid (HzaH_2.out.below hal HzaH_2.out.lt)
              have HzB_3 := Lib.hid (HzB_2.out.trans (hal.mono HzB_2.out.size))
              have Hz_t6_3 := Lib.hid ((Hz_t6_2.out.below hal (Nat.le_refl _)).more hal.size)
              have HzG_3 := Lib.hid (show Box (Y1.alloc (.cells #[.int .i64 0, .int .i64 0, .int .i64 0, .int .i64 0, .int .i64 0, .int .i64 0, .int .i64 0, .int .i64 0, .slice none 0 0, .int .i64 0, .slice none 0 0, .int .i64 0, .int .i64 0, .slice none 0 0, .int .i64 0, .bool false, .slice none 0 0] 38)) (Y1.heap.size) [.int .i64 0, .int .i64 0, .int .i64 0, .int .i64 0, .int .i64 0, .int .i64 0, .int .i64 0, .int .i64 0, .slice none 0 0, .int .i64 0, .slice none 0 0, .int .i64 0, .int .i64 0, .slice none 0 0, .int .i64 0, .bool false, .slice none 0 0] from Box.new Y1 #[.int .i64 0, .int .i64 0, .int .i64 0, .int .i64 0, .int .i64 0, .int .i64 0, .int .i64 0, .int .i64 0, .slice none 0 0, .int .i64 0, .slice none 0 0, .int .i64 0, .int .i64 0, .slice none 0 0, .int .i64 0, .bool false, .slice none 0 0] 38)
              obtain ⟨Y11, hY11⟩ : ∃ u9, Y1.alloc (.cells #[.int .i64 0, .int .i64 0, .int .i64 0, .int .i64 0, .int .i64 0, .int .i64 0, .int .i64 0, .int .i64 0, .slice none 0 0, .int .i64 0, .slice none 0 0, .int .i64 0, .int .i64 0, .slice none 0 0, .int .i64 0, .bool false, .slice none 0 0] 38) = u9 := ⟨_, rfl⟩
              rw [hY11] at HzaK_3 HzaH_3 HzB_3 Hz_t6_3 HzG_3
              have HY11 := Lib.hid hY11
              clear hal
              first | rw [HY11.out] | rw [show (Y1.alloc (.cells #[.int .i64 0, .int .i64 0, .int .i64 0, .int .i64 0, .int .i64 0, .int .i64 0, .int .i64 0, .int .i64 0, .slice none 0 0, .int .i64 0, .slice none 0 0, .int .i64 0, .int .i64 0, .slice none 0 0, .int .i64 0, .bool false, .slice none 0 0] 38)).drew = Y11 from HY11.out]
              have hsY11 : Y1.heap.size + 1 ≤ Y11.heap.size := by rw [← HY11.out]; simp
              refine hK.out _ _ (⟨LD.box_range HzaK_3.out, LD.box_range HzaH_3.out⟩) (fun _ => ?_)
              clear hK K
              refine wpAnyH_ready (rs := [3]) (by kernel_rfl) (by simp) ?_
              refine AllReadyH.cons rfl (fun K hK => ?_) ?_
              · refine RGS.free rfl ?_
                try simp only [List.getElem_toArray, List.getElem_cons_zero, List.getElem_cons_succ]
                go_simp
                go_at_call 10
                refine (toKeys_any [u1_0, u1_1] y1 _ (rgUp (RKeys.more HO_aK_18.out fun i hi => Nat.lt_of_lt_of_le hi HA_18.out.size) HzB_3.out) (by omega)).mono ?_
                rintro e Y12 ⟨cs9, rfl, hown, hb⟩
                obtain ⟨A__t7_0, n__t7_0, c__t7_0, rfl⟩ := RKeys_shape hown.rd
                have HzaK_4 := Lib.hid (HzaK_3.out.below hb HzaK_3.out.lt)
                have HzaH_4 := Lib.hid (HzaH_3.out.below hb HzaH_3.out.lt)
                have HzB_4 := Lib.hid (HzB_3.out.trans (hb.mono HzB_3.out.size))
                have Hz_t6_4 := Lib.hid ((Hz_t6_3.out.below hb (Nat.le_refl _)).more hb.size)
                have HzG_4 := Lib.hid (HzG_3.out.below hb HzG_3.out.lt)
                have Hz_t7_4 := Lib.hid hown.rd
                have hsY12 := hb.size
                clear hown hb
                go_simp
                refine hK.out _ _ (⟨LD.box_range HzaK_4.out, LD.box_range HzaH_4.out⟩) (fun _ => ?_)
                clear hK K
                refine wpAnyH_ready (rs := [5]) (by kernel_rfl) (by simp) ?_
                refine AllReadyH.cons rfl (fun K hK => ?_) ?_
                · refine RGS.free rfl ?_
                  try simp only [List.getElem_toArray, List.getElem_cons_zero, List.getElem_cons_succ]
                  go_simp
                  go_at_call 16
                  refine (toHead_any [u2_0, u2_1, u2_2, u2_3, u2_4, u2_5, u2_6, u2_7, u2_8, u2_9, u2_10, u2_11, u2_12, u2_13, u2_14, u2_15] y2 _ (rgUp (RHead.more HO_aH_18.out fun i hi => Nat.lt_of_lt_of_le hi HA_18.out.size) HzB_4.out) (by omega)).mono ?_
                  rintro e Y13 ⟨cs9, rfl, hown, hb⟩
                  obtain ⟨A__t8_8, n__t8_8, c__t8_8, A__t8_10, n__t8_10, c__t8_10, A__t8_13, n__t8_13, c__t8_13, rfl⟩ := RHead_shape hown.rd
                  have HzaK_5 := Lib.hid (HzaK_4.out.below hb HzaK_4.out.lt)
                  have HzaH_5 := Lib.hid (HzaH_4.out.below hb HzaH_4.out.lt)
                  have HzB_5 := Lib.hid (HzB_4.out.trans (hb.mono HzB_4.out.size))
                  have Hz_t6_5 := Lib.hid ((Hz_t6_4.out.below hb (Nat.le_refl _)).more hb.size)
                  have HzG_5 := Lib.hid (HzG_4.out.below hb HzG_4.out.lt)
                  have Hz_t7_5 := Lib.hid (rgUp Hz_t7_4.out hb)
                  have Hz_t8_5 := Lib.hid hown.rd
                  have hsY13 := hb.size
                  clear hown hb
                  go_simp
                  refine hK.out _ _ (⟨LD.box_range HzaK_5.out, LD.box_range HzaH_5.out⟩) (fun _ => ?_)
                  clear hK K
                  refine wpAnyH_ready (rs := [6]) (by kernel_rfl) (by simp) ?_
                  refine AllReadyH.cons rfl (fun K hK => ?_) ?_
                  · refine RGS.free rfl ?_
                    try simp only [List.getElem_toArray, List.getElem_cons_zero, List.getElem_cons_succ]
                    go_simp
                    go_at_call 17
                    refine (HI.out A__t6 l0 c__t6 [(.slice A__t7_0 n__t7_0 c__t7_0), (.int .i64 y1.need)] [(.int .i64 y2.zone), (.int .i64 y2.epoch), (.int .i64 y2.kind), (.int .i64 y2.time), (.int .i64 y2.until_), (.int .i64 y2.count), (.int .i64 y2.root), (.int .i64 y2.prev), (.slice A__t8_8 n__t8_8 c__t8_8), (.int .i64 y2.keys.need), (.slice A__t8_10 n__t8_10 c__t8_10), (.int .i64 y2.heirs.need), (.int .i64 y2.wait), (.slice A__t8_13 n__t8_13 c__t8_13), (.int .i64 y2.judge.need), (.bool y2.frozen)] _ hcap_t6 Hz_t6_5.out Hz_t7_5.out Hz_t8_5.out).mono ?_
                    rintro e Y14 ⟨cs9, rfl, hown, hb⟩
                    obtain ⟨A_h0_8, n_h0_8, c_h0_8, A_h0_10, n_h0_10, c_h0_10, A_h0_13, n_h0_13, c_h0_13, A_h0_16, n_h0_16, c_h0_16, rfl⟩ := RSigned_shape hown.rd
                    have HzaK_6 := Lib.hid (HzaK_5.out.below hb HzaK_5.out.lt)
                    have HzaH_6 := Lib.hid (HzaH_5.out.below hb HzaH_5.out.lt)
                    have HzB_6 := Lib.hid (HzB_5.out.trans (hb.mono HzB_5.out.size))
                    have Hz_t6_6 := Lib.hid ((Hz_t6_5.out.below hb (Nat.le_refl _)).more hb.size)
                    have HzG_6 := Lib.hid (HzG_5.out.below hb HzG_5.out.lt)
                    have Hz_t7_6 := Lib.hid (rgUp Hz_t7_5.out hb)
                    have Hz_t8_6 := Lib.hid (rgUp Hz_t8_5.out hb)
                    have HzR_6 := Lib.hid (show OwnI RSigned Y14 (Y13.heap.size) (Y14.heap.size) [(.int .i64 r0.head.zone), (.int .i64 r0.head.epoch), (.int .i64 r0.head.kind), (.int .i64 r0.head.time), (.int .i64 r0.head.until_), (.int .i64 r0.head.count), (.int .i64 r0.head.root), (.int .i64 r0.head.prev), (.slice A_h0_8 n_h0_8 c_h0_8), (.int .i64 r0.head.keys.need), (.slice A_h0_10 n_h0_10 c_h0_10), (.int .i64 r0.head.heirs.need), (.int .i64 r0.head.wait), (.slice A_h0_13 n_h0_13 c_h0_13), (.int .i64 r0.head.judge.need), (.bool r0.head.frozen), (.slice A_h0_16 n_h0_16 c_h0_16)] r0 ∧ (Y14.heap.size) ≤ Y14.heap.size from ⟨hown, Nat.le_refl _⟩)
                    have hdis : Y1.heap.size < Y13.heap.size ∨ Y14.heap.size ≤ Y1.heap.size := .inl (by omega)
                    have hsY14 := hb.size
                    clear hown hb
                    go_simp
                    refine hK.out _ _ (⟨LD.box_range HzaK_6.out, LD.box_range HzaH_6.out⟩) (fun _ => ?_)
                    clear hK K
                    refine wpAnyH_ready (rs := [8]) (by kernel_rfl) (by simp) ?_
                    refine AllReadyH.cons rfl (fun K hK => ?_) ?_
                    · refine RGS.free rfl ?_
                      try simp only [List.getElem_toArray, List.getElem_cons_zero, List.getElem_cons_succ]
                      obtain ⟨VF, hVF⟩ : ∃ u9, puts Y14 (Y1.heap.size) 0 [(.int .i64 r0.head.zone), (.int .i64 r0.head.epoch), (.int .i64 r0.head.kind), (.int .i64 r0.head.time), (.int .i64 r0.head.until_), (.int .i64 r0.head.count), (.int .i64 r0.head.root), (.int .i64 r0.head.prev), (.slice A_h0_8 n_h0_8 c_h0_8), (.int .i64 r0.head.keys.need), (.slice A_h0_10 n_h0_10 c_h0_10), (.int .i64 r0.head.heirs.need), (.int .i64 r0.head.wait), (.slice A_h0_13 n_h0_13 c_h0_13), (.int .i64 r0.head.judge.need), (.bool r0.head.frozen), (.slice A_h0_16 n_h0_16 c_h0_16)] = u9 := ⟨_, rfl⟩
                      have HbF := Lib.hid (pt_bel hVF HzB_6.out (show W_18.heap.size ≤ Y1.heap.size by omega))
                      have HgF := Lib.hid (show Box VF (Y1.heap.size) [(.int .i64 r0.head.zone), (.int .i64 r0.head.epoch), (.int .i64 r0.head.kind), (.int .i64 r0.head.time), (.int .i64 r0.head.until_), (.int .i64 r0.head.count), (.int .i64 r0.head.root), (.int .i64 r0.head.prev), (.slice A_h0_8 n_h0_8 c_h0_8), (.int .i64 r0.head.keys.need), (.slice A_h0_10 n_h0_10 c_h0_10), (.int .i64 r0.head.heirs.need), (.int .i64 r0.head.wait), (.slice A_h0_13 n_h0_13 c_h0_13), (.int .i64 r0.head.judge.need), (.bool r0.head.frozen), (.slice A_h0_16 n_h0_16 c_h0_16)] from (show Box VF (Y1.heap.size) ([] ++ [(.int .i64 r0.head.zone), (.int .i64 r0.head.epoch), (.int .i64 r0.head.kind), (.int .i64 r0.head.time), (.int .i64 r0.head.until_), (.int .i64 r0.head.count), (.int .i64 r0.head.root), (.int .i64 r0.head.prev), (.slice A_h0_8 n_h0_8 c_h0_8), (.int .i64 r0.head.keys.need), (.slice A_h0_10 n_h0_10 c_h0_10), (.int .i64 r0.head.heirs.need), (.int .i64 r0.head.wait), (.slice A_h0_13 n_h0_13 c_h0_13), (.int .i64 r0.head.judge.need), (.bool r0.head.frozen), (.slice A_h0_16 n_h0_16 c_h0_16)] ++ []) from pt_mid hVF (show Box Y14 (Y1.heap.size) ([] ++ [.int .i64 0, .int .i64 0, .int .i64 0, .int .i64 0, .int .i64 0, .int .i64 0, .int .i64 0, .int .i64 0, .slice none 0 0, .int .i64 0, .slice none 0 0, .int .i64 0, .int .i64 0, .slice none 0 0, .int .i64 0, .bool false, .slice none 0 0] ++ []) from HzG_6.out) rfl rfl))
                      have HrF := Lib.hid (show RSigned.rd VF (Lt VF.heap.size) [(.int .i64 r0.head.zone), (.int .i64 r0.head.epoch), (.int .i64 r0.head.kind), (.int .i64 r0.head.time), (.int .i64 r0.head.until_), (.int .i64 r0.head.count), (.int .i64 r0.head.root), (.int .i64 r0.head.prev), (.slice A_h0_8 n_h0_8 c_h0_8), (.int .i64 r0.head.keys.need), (.slice A_h0_10 n_h0_10 c_h0_10), (.int .i64 r0.head.heirs.need), (.int .i64 r0.head.wait), (.slice A_h0_13 n_h0_13 c_h0_13), (.int .i64 r0.head.judge.need), (.bool r0.head.frozen), (.slice A_h0_16 n_h0_16 c_h0_16)] r0 from RSigned.more (OwnI.keep (w' := VF) HzR_6.out.1 fun i _ h1 h2 => by rw [← hVF]; exact puts_keep (by omega) _ _).rd fun i hi => Nat.lt_of_lt_of_le hi (Nat.le_trans HzR_6.out.2 (by rw [← hVF, puts_size]; exact Nat.le_refl _)))
                      refine LD.op_stV LD.big_Signed _ _ rfl rfl rfl HzG_6.out rfl (by decide) rfl hVF ?_
                      simp only [Act.put, List.getElem_toArray, List.getElem_cons_zero, List.getElem_cons_succ, List.setIfInBounds_toArray, List.set_cons_succ, List.set_cons_zero]
                      have HzaK_7 := Lib.hid (pt_box hVF HzaK_6.out (show (W0.heap.size) ≠ (Y1.heap.size) by omega))
                      have HzaH_7 := Lib.hid (pt_box hVF HzaH_6.out (show (W0.heap.size + 1) ≠ (Y1.heap.size) by omega))
                      have HzB_7 := HbF
                      refine hK.out _ _ (⟨LD.box_range HzaK_7.out, LD.box_range HzaH_7.out⟩) (fun _ => ?_)
                      clear hK K
                      refine wpAnyH_done (by kernel_rfl) ?_ _
                      exact ⟨rfl, HJ9.out _ _ ⟨Y1.heap.size, A_h0_8, n_h0_8, c_h0_8, A_h0_10, n_h0_10, c_h0_10, A_h0_13, n_h0_13, c_h0_13, A_h0_16, n_h0_16, c_h0_16, .slice a0 l0 c0, .slice A__t6 l0 c__t6, .agg #[u1_0, u1_1], .agg #[(.slice A__t7_0 n__t7_0 c__t7_0), (.int .i64 y1.need)], .agg #[u2_0, u2_1, u2_2, u2_3, u2_4, u2_5, u2_6, u2_7, u2_8, u2_9, u2_10, u2_11, u2_12, u2_13, u2_14, u2_15], .agg #[(.int .i64 y2.zone), (.int .i64 y2.epoch), (.int .i64 y2.kind), (.int .i64 y2.time), (.int .i64 y2.until_), (.int .i64 y2.count), (.int .i64 y2.root), (.int .i64 y2.prev), (.slice A__t8_8 n__t8_8 c__t8_8), (.int .i64 y2.keys.need), (.slice A__t8_10 n__t8_10 c__t8_10), (.int .i64 y2.heirs.need), (.int .i64 y2.wait), (.slice A__t8_13 n__t8_13 c__t8_13), (.int .i64 y2.judge.need), (.bool y2.frozen)], .agg #[(.int .i64 r0.head.zone), (.int .i64 r0.head.epoch), (.int .i64 r0.head.kind), (.int .i64 r0.head.time), (.int .i64 r0.head.until_), (.int .i64 r0.head.count), (.int .i64 r0.head.root), (.int .i64 r0.head.prev), (.slice A_h0_8 n_h0_8 c_h0_8), (.int .i64 r0.head.keys.need), (.slice A_h0_10 n_h0_10 c_h0_10), (.int .i64 r0.head.heirs.need), (.int .i64 r0.head.wait), (.slice A_h0_13 n_h0_13 c_h0_13), (.int .i64 r0.head.judge.need), (.bool r0.head.frozen), (.slice A_h0_16 n_h0_16 c_h0_16)], (by first | (simp only [Act.put, List.setIfInBounds_toArray, List.set_cons_succ, List.set_cons_zero] <;> rfl) | rfl), HbF.out, HgF.out, by omega, HrF.out⟩⟩
                    exact AllReadyH.nil
                  exact AllReadyH.nil
                exact AllReadyH.nil
              exact AllReadyH.nil
            exact AllReadyH.nil
          refine AllReadyH.cons rfl (fun K hK => ?_) ?_
          · refine RGS.free rfl ?_
            try simp only [List.getElem_toArray, List.getElem_cons_zero, List.getElem_cons_succ]
            go_simp
            have hal : Below W_18.drew.heap.size W_18.drew (W_18.drew.alloc (.cells #[.int .i64 0, .int .i64 0, .int .i64 0, .int .i64 0, .int .i64 0, .int .i64 0, .int .i64 0, .int .i64 0, .slice none 0 0, .int .i64 0, .slice none 0 0, .int .i64 0, .int .i64 0, .slice none 0 0, .int .i64 0, .bool false, .slice none 0 0] 38)) := (Below.refl _ _).alloc (Nat.le_refl _) _
            have HzaK_2 := Lib.hid (HzaK_1.out.below hal HzaK_1.out.lt)
            have HzaH_2 := Lib.hid (HzaH_1.out.below hal HzaH_1.out.lt)
            have HzB_2 := Lib.hid (HzB_1.out.trans (hal.mono HzB_1.out.size))
            have HzG_2 := Lib.hid (show Box (W_18.drew.alloc (.cells #[.int .i64 0, .int .i64 0, .int .i64 0, .int .i64 0, .int .i64 0, .int .i64 0, .int .i64 0, .int .i64 0, .slice none 0 0, .int .i64 0, .slice none 0 0, .int .i64 0, .int .i64 0, .slice none 0 0, .int .i64 0, .bool false, .slice none 0 0] 38)) (W_18.drew.heap.size) [.int .i64 0, .int .i64 0, .int .i64 0, .int .i64 0, .int .i64 0, .int .i64 0, .int .i64 0, .int .i64 0, .slice none 0 0, .int .i64 0, .slice none 0 0, .int .i64 0, .int .i64 0, .slice none 0 0, .int .i64 0, .bool false, .slice none 0 0] from Box.new W_18.drew #[.int .i64 0, .int .i64 0, .int .i64 0, .int .i64 0, .int .i64 0, .int .i64 0, .int .i64 0, .int .i64 0, .slice none 0 0, .int .i64 0, .slice none 0 0, .int .i64 0, .int .i64 0, .slice none 0 0, .int .i64 0, .bool false, .slice none 0 0] 38)
            obtain ⟨Y15, hY15⟩ : ∃ u9, W_18.drew.alloc (.cells #[.int .i64 0, .int .i64 0, .int .i64 0, .int .i64 0, .int .i64 0, .int .i64 0, .int .i64 0, .int .i64 0, .slice none 0 0, .int .i64 0, .slice none 0 0, .int .i64 0, .int .i64 0, .slice none 0 0, .int .i64 0, .bool false, .slice none 0 0] 38) = u9 := ⟨_, rfl⟩
            rw [hY15] at HzaK_2 HzaH_2 HzB_2 HzG_2
            have HY15 := Lib.hid hY15
            clear hal
            first | rw [HY15.out] | rw [show (W_18.alloc (.cells #[.int .i64 0, .int .i64 0, .int .i64 0, .int .i64 0, .int .i64 0, .int .i64 0, .int .i64 0, .int .i64 0, .slice none 0 0, .int .i64 0, .slice none 0 0, .int .i64 0, .int .i64 0, .slice none 0 0, .int .i64 0, .bool false, .slice none 0 0] 38)).drew = Y15 from HY15.out]
            have hsY15 : W_18.drew.heap.size + 1 ≤ Y15.heap.size := by rw [← HY15.out]; simp
            refine hK.out _ _ (⟨LD.box_range HzaK_2.out, LD.box_range HzaH_2.out⟩) (fun _ => ?_)
            clear hK K
            refine wpAnyH_ready (rs := [1]) (by kernel_rfl) (by simp) ?_
            refine AllReadyH.cons rfl (fun K hK => ?_) ?_
            · refine RGS.free rfl ?_
              try simp only [List.getElem_toArray, List.getElem_cons_zero, List.getElem_cons_succ]
              go_simp
              go_at_call 15
              refine (toIntS_any a0 l0 c0 y0 _ (((HO_aHeld_18.out.more HA_18.out.size).below HzB_2.out (Nat.le_refl _)).more HzB_2.out.size) (by omega)).mono ?_
              rintro e Y16 ⟨A__t6, c__t6, rfl, hown, hb⟩
              have HzaK_3 := Lib.hid (HzaK_2.out.below hb HzaK_2.out.lt)
              have HzaH_3 := Lib.hid (HzaH_2.out.below hb HzaH_2.out.lt)
              have HzB_3 := Lib.hid (HzB_2.out.trans (hb.mono HzB_2.out.size))
              have HzG_3 := Lib.hid (HzG_2.out.below hb HzG_2.out.lt)
              have Hz_t6_3 := Lib.hid hown.rd
              have hcap_t6 := hown.cap.1
              have hsY16 := hb.size
              clear hown hb
              go_simp
              refine hK.out _ _ (⟨LD.box_range HzaK_3.out, LD.box_range HzaH_3.out⟩) (fun _ => ?_)
              clear hK K
              refine wpAnyH_ready (rs := [3]) (by kernel_rfl) (by simp) ?_
              refine AllReadyH.cons rfl (fun K hK => ?_) ?_
              · refine RGS.free rfl ?_
                try simp only [List.getElem_toArray, List.getElem_cons_zero, List.getElem_cons_succ]
                go_simp
                go_at_call 10
                refine (toKeys_any [u1_0, u1_1] y1 _ (rgUp (RKeys.more HO_aK_18.out fun i hi => Nat.lt_of_lt_of_le hi HA_18.out.size) HzB_3.out) (by omega)).mono ?_
                rintro e Y17 ⟨cs9, rfl, hown, hb⟩
                obtain ⟨A__t7_0, n__t7_0, c__t7_0, rfl⟩ := RKeys_shape hown.rd
                have HzaK_4 := Lib.hid (HzaK_3.out.below hb HzaK_3.out.lt)
                have HzaH_4 := Lib.hid (HzaH_3.out.below hb HzaH_3.out.lt)
                have HzB_4 := Lib.hid (HzB_3.out.trans (hb.mono HzB_3.out.size))
                have HzG_4 := Lib.hid (HzG_3.out.below hb HzG_3.out.lt)
                have Hz_t6_4 := Lib.hid ((Hz_t6_3.out.below hb (Nat.le_refl _)).more hb.size)
                have Hz_t7_4 := Lib.hid hown.rd
                have hsY17 := hb.size
                clear hown hb
                go_simp
                refine hK.out _ _ (⟨LD.box_range HzaK_4.out, LD.box_range HzaH_4.out⟩) (fun _ => ?_)
                clear hK K
                refine wpAnyH_ready (rs := [5]) (by kernel_rfl) (by simp) ?_
                refine AllReadyH.cons rfl (fun K hK => ?_) ?_
                · refine RGS.free rfl ?_
                  try simp only [List.getElem_toArray, List.getElem_cons_zero, List.getElem_cons_succ]
                  go_simp
                  go_at_call 16
                  refine (toHead_any [u2_0, u2_1, u2_2, u2_3, u2_4, u2_5, u2_6, u2_7, u2_8, u2_9, u2_10, u2_11, u2_12, u2_13, u2_14, u2_15] y2 _ (rgUp (RHead.more HO_aH_18.out fun i hi => Nat.lt_of_lt_of_le hi HA_18.out.size) HzB_4.out) (by omega)).mono ?_
                  rintro e Y18 ⟨cs9, rfl, hown, hb⟩
                  obtain ⟨A__t8_8, n__t8_8, c__t8_8, A__t8_10, n__t8_10, c__t8_10, A__t8_13, n__t8_13, c__t8_13, rfl⟩ := RHead_shape hown.rd
                  have HzaK_5 := Lib.hid (HzaK_4.out.below hb HzaK_4.out.lt)
                  have HzaH_5 := Lib.hid (HzaH_4.out.below hb HzaH_4.out.lt)
                  have HzB_5 := Lib.hid (HzB_4.out.trans (hb.mono HzB_4.out.size))
                  have HzG_5 := Lib.hid (HzG_4.out.below hb HzG_4.out.lt)
                  have Hz_t6_5 := Lib.hid ((Hz_t6_4.out.below hb (Nat.le_refl _)).more hb.size)
                  have Hz_t7_5 := Lib.hid (rgUp Hz_t7_4.out hb)
                  have Hz_t8_5 := Lib.hid hown.rd
                  have hsY18 := hb.size
                  clear hown hb
                  go_simp
                  refine hK.out _ _ (⟨LD.box_range HzaK_5.out, LD.box_range HzaH_5.out⟩) (fun _ => ?_)
                  clear hK K
                  refine wpAnyH_ready (rs := [6]) (by kernel_rfl) (by simp) ?_
                  refine AllReadyH.cons rfl (fun K hK => ?_) ?_
                  · refine RGS.free rfl ?_
                    try simp only [List.getElem_toArray, List.getElem_cons_zero, List.getElem_cons_succ]
                    go_simp
                    go_at_call 17
                    refine (HI.out A__t6 l0 c__t6 [(.slice A__t7_0 n__t7_0 c__t7_0), (.int .i64 y1.need)] [(.int .i64 y2.zone), (.int .i64 y2.epoch), (.int .i64 y2.kind), (.int .i64 y2.time), (.int .i64 y2.until_), (.int .i64 y2.count), (.int .i64 y2.root), (.int .i64 y2.prev), (.slice A__t8_8 n__t8_8 c__t8_8), (.int .i64 y2.keys.need), (.slice A__t8_10 n__t8_10 c__t8_10), (.int .i64 y2.heirs.need), (.int .i64 y2.wait), (.slice A__t8_13 n__t8_13 c__t8_13), (.int .i64 y2.judge.need), (.bool y2.frozen)] _ hcap_t6 Hz_t6_5.out Hz_t7_5.out Hz_t8_5.out).mono ?_
                    rintro e Y19 ⟨cs9, rfl, hown, hb⟩
                    obtain ⟨A_h0_8, n_h0_8, c_h0_8, A_h0_10, n_h0_10, c_h0_10, A_h0_13, n_h0_13, c_h0_13, A_h0_16, n_h0_16, c_h0_16, rfl⟩ := RSigned_shape hown.rd
                    have HzaK_6 := Lib.hid (HzaK_5.out.below hb HzaK_5.out.lt)
                    have HzaH_6 := Lib.hid (HzaH_5.out.below hb HzaH_5.out.lt)
                    have HzB_6 := Lib.hid (HzB_5.out.trans (hb.mono HzB_5.out.size))
                    have HzG_6 := Lib.hid (HzG_5.out.below hb HzG_5.out.lt)
                    have Hz_t6_6 := Lib.hid ((Hz_t6_5.out.below hb (Nat.le_refl _)).more hb.size)
                    have Hz_t7_6 := Lib.hid (rgUp Hz_t7_5.out hb)
                    have Hz_t8_6 := Lib.hid (rgUp Hz_t8_5.out hb)
                    have HzR_6 := Lib.hid (show OwnI RSigned Y19 (Y18.heap.size) (Y19.heap.size) [(.int .i64 r0.head.zone), (.int .i64 r0.head.epoch), (.int .i64 r0.head.kind), (.int .i64 r0.head.time), (.int .i64 r0.head.until_), (.int .i64 r0.head.count), (.int .i64 r0.head.root), (.int .i64 r0.head.prev), (.slice A_h0_8 n_h0_8 c_h0_8), (.int .i64 r0.head.keys.need), (.slice A_h0_10 n_h0_10 c_h0_10), (.int .i64 r0.head.heirs.need), (.int .i64 r0.head.wait), (.slice A_h0_13 n_h0_13 c_h0_13), (.int .i64 r0.head.judge.need), (.bool r0.head.frozen), (.slice A_h0_16 n_h0_16 c_h0_16)] r0 ∧ (Y19.heap.size) ≤ Y19.heap.size from ⟨hown, Nat.le_refl _⟩)
                    have hdis : W_18.drew.heap.size < Y18.heap.size ∨ Y19.heap.size ≤ W_18.drew.heap.size := .inl (by omega)
                    have hsY19 := hb.size
                    clear hown hb
                    go_simp
                    refine hK.out _ _ (⟨LD.box_range HzaK_6.out, LD.box_range HzaH_6.out⟩) (fun _ => ?_)
                    clear hK K
                    refine wpAnyH_ready (rs := [8]) (by kernel_rfl) (by simp) ?_
                    refine AllReadyH.cons rfl (fun K hK => ?_) ?_
                    · refine RGS.free rfl ?_
                      try simp only [List.getElem_toArray, List.getElem_cons_zero, List.getElem_cons_succ]
                      obtain ⟨VF, hVF⟩ : ∃ u9, puts Y19 (W_18.drew.heap.size) 0 [(.int .i64 r0.head.zone), (.int .i64 r0.head.epoch), (.int .i64 r0.head.kind), (.int .i64 r0.head.time), (.int .i64 r0.head.until_), (.int .i64 r0.head.count), (.int .i64 r0.head.root), (.int .i64 r0.head.prev), (.slice A_h0_8 n_h0_8 c_h0_8), (.int .i64 r0.head.keys.need), (.slice A_h0_10 n_h0_10 c_h0_10), (.int .i64 r0.head.heirs.need), (.int .i64 r0.head.wait), (.slice A_h0_13 n_h0_13 c_h0_13), (.int .i64 r0.head.judge.need), (.bool r0.head.frozen), (.slice A_h0_16 n_h0_16 c_h0_16)] = u9 := ⟨_, rfl⟩
                      have HbF := Lib.hid (pt_bel hVF HzB_6.out (show W_18.heap.size ≤ W_18.drew.heap.size by omega))
                      have HgF := Lib.hid (show Box VF (W_18.drew.heap.size) [(.int .i64 r0.head.zone), (.int .i64 r0.head.epoch), (.int .i64 r0.head.kind), (.int .i64 r0.head.time), (.int .i64 r0.head.until_), (.int .i64 r0.head.count), (.int .i64 r0.head.root), (.int .i64 r0.head.prev), (.slice A_h0_8 n_h0_8 c_h0_8), (.int .i64 r0.head.keys.need), (.slice A_h0_10 n_h0_10 c_h0_10), (.int .i64 r0.head.heirs.need), (.int .i64 r0.head.wait), (.slice A_h0_13 n_h0_13 c_h0_13), (.int .i64 r0.head.judge.need), (.bool r0.head.frozen), (.slice A_h0_16 n_h0_16 c_h0_16)] from (show Box VF (W_18.drew.heap.size) ([] ++ [(.int .i64 r0.head.zone), (.int .i64 r0.head.epoch), (.int .i64 r0.head.kind), (.int .i64 r0.head.time), (.int .i64 r0.head.until_), (.int .i64 r0.head.count), (.int .i64 r0.head.root), (.int .i64 r0.head.prev), (.slice A_h0_8 n_h0_8 c_h0_8), (.int .i64 r0.head.keys.need), (.slice A_h0_10 n_h0_10 c_h0_10), (.int .i64 r0.head.heirs.need), (.int .i64 r0.head.wait), (.slice A_h0_13 n_h0_13 c_h0_13), (.int .i64 r0.head.judge.need), (.bool r0.head.frozen), (.slice A_h0_16 n_h0_16 c_h0_16)] ++ []) from pt_mid hVF (show Box Y19 (W_18.drew.heap.size) ([] ++ [.int .i64 0, .int .i64 0, .int .i64 0, .int .i64 0, .int .i64 0, .int .i64 0, .int .i64 0, .int .i64 0, .slice none 0 0, .int .i64 0, .slice none 0 0, .int .i64 0, .int .i64 0, .slice none 0 0, .int .i64 0, .bool false, .slice none 0 0] ++ []) from HzG_6.out) rfl rfl))
                      have HrF := Lib.hid (show RSigned.rd VF (Lt VF.heap.size) [(.int .i64 r0.head.zone), (.int .i64 r0.head.epoch), (.int .i64 r0.head.kind), (.int .i64 r0.head.time), (.int .i64 r0.head.until_), (.int .i64 r0.head.count), (.int .i64 r0.head.root), (.int .i64 r0.head.prev), (.slice A_h0_8 n_h0_8 c_h0_8), (.int .i64 r0.head.keys.need), (.slice A_h0_10 n_h0_10 c_h0_10), (.int .i64 r0.head.heirs.need), (.int .i64 r0.head.wait), (.slice A_h0_13 n_h0_13 c_h0_13), (.int .i64 r0.head.judge.need), (.bool r0.head.frozen), (.slice A_h0_16 n_h0_16 c_h0_16)] r0 from RSigned.more (OwnI.keep (w' := VF) HzR_6.out.1 fun i _ h1 h2 => by rw [← hVF]; exact puts_keep (by omega) _ _).rd fun i hi => Nat.lt_of_lt_of_le hi (Nat.le_trans HzR_6.out.2 (by rw [← hVF, puts_size]; exact Nat.le_refl _)))
                      refine LD.op_stV LD.big_Signed _ _ rfl rfl rfl HzG_6.out rfl (by decide) rfl hVF ?_
                      simp only [Act.put, List.getElem_toArray, List.getElem_cons_zero, List.getElem_cons_succ, List.setIfInBounds_toArray, List.set_cons_succ, List.set_cons_zero]
                      have HzaK_7 := Lib.hid (pt_box hVF HzaK_6.out (show (W0.heap.size) ≠ (W_18.drew.heap.size) by omega))
                      have HzaH_7 := Lib.hid (pt_box hVF HzaH_6.out (show (W0.heap.size + 1) ≠ (W_18.drew.heap.size) by omega))
                      have HzB_7 := HbF
                      refine hK.out _ _ (⟨LD.box_range HzaK_7.out, LD.box_range HzaH_7.out⟩) (fun _ => ?_)
                      clear hK K
                      refine wpAnyH_done (by kernel_rfl) ?_ _
                      exact ⟨rfl, HJ9.out _ _ ⟨W_18.drew.heap.size, A_h0_8, n_h0_8, c_h0_8, A_h0_10, n_h0_10, c_h0_10, A_h0_13, n_h0_13, c_h0_13, A_h0_16, n_h0_16, c_h0_16, .slice a0 l0 c0, .slice A__t6 l0 c__t6, .agg #[u1_0, u1_1], .agg #[(.slice A__t7_0 n__t7_0 c__t7_0), (.int .i64 y1.need)], .agg #[u2_0, u2_1, u2_2, u2_3, u2_4, u2_5, u2_6, u2_7, u2_8, u2_9, u2_10, u2_11, u2_12, u2_13, u2_14, u2_15], .agg #[(.int .i64 y2.zone), (.int .i64 y2.epoch), (.int .i64 y2.kind), (.int .i64 y2.time), (.int .i64 y2.until_), (.int .i64 y2.count), (.int .i64 y2.root), (.int .i64 y2.prev), (.slice A__t8_8 n__t8_8 c__t8_8), (.int .i64 y2.keys.need), (.slice A__t8_10 n__t8_10 c__t8_10), (.int .i64 y2.heirs.need), (.int .i64 y2.wait), (.slice A__t8_13 n__t8_13 c__t8_13), (.int .i64 y2.judge.need), (.bool y2.frozen)], .agg #[(.int .i64 r0.head.zone), (.int .i64 r0.head.epoch), (.int .i64 r0.head.kind), (.int .i64 r0.head.time), (.int .i64 r0.head.until_), (.int .i64 r0.head.count), (.int .i64 r0.head.root), (.int .i64 r0.head.prev), (.slice A_h0_8 n_h0_8 c_h0_8), (.int .i64 r0.head.keys.need), (.slice A_h0_10 n_h0_10 c_h0_10), (.int .i64 r0.head.heirs.need), (.int .i64 r0.head.wait), (.slice A_h0_13 n_h0_13 c_h0_13), (.int .i64 r0.head.judge.need), (.bool r0.head.frozen), (.slice A_h0_16 n_h0_16 c_h0_16)], (by first | (simp only [Act.put, List.setIfInBounds_toArray, List.set_cons_succ, List.set_cons_zero] <;> rfl) | rfl), HbF.out, HgF.out, by omega, HrF.out⟩⟩
                    exact AllReadyH.nil
                  exact AllReadyH.nil
                exact AllReadyH.nil
              exact AllReadyH.nil
            exact AllReadyH.nil
          exact AllReadyH.nil
  · intro J9 HJ9
    have HzaK_0 := HX_aK_2
    have hltaK := HX_aK_2.out.lt
    have HzaH_0 := HX_aH_2
    have hltaH := HX_aH_2.out.lt
    have HzB_0 := Lib.hid (Below.refl W_2.heap.size W_2)
    refine wp_region_held (S := (fun w9 => w9.rangeAt (W0.heap.size) 0 [u1_0, u1_1] ∧ w9.rangeAt (W0.heap.size + 1) 0 [u2_0, u2_1, u2_2, u2_3, u2_4, u2_5, u2_6, u2_7, u2_8, u2_9, u2_10, u2_11, u2_12, u2_13, u2_14, u2_15])) (by kernel_rfl) ?_
    change wpAnyH _ _ _ _ _ _ _ _ (World.drew _)
    have hdr : Below W_2.heap.size W_2 W_2.drew := (Below.refl _ _).drew
    have HzaK_1 := Lib.hid (HzaK_0.out.below hdr HzaK_0.out.lt)
    have HzaH_1 := Lib.hid (HzaH_0.out.below hdr HzaH_0.out.lt)
    have HzB_1 := Lib.hid (HzB_0.out.trans (hdr.mono HzB_0.out.size))
    clear hdr
    have hsd : W_2.drew.heap.size = W_2.heap.size := rfl
    refine wpAnyH_take (i := 0) (v := .slice a0 l0 c0) rfl (by kernel_rfl) (by kernel_rfl) (by kernel_rfl) (fun _ _ _ h => absurd h.1 (by simp)) (Or.inl ⟨by rfl, fun w h => ?_⟩) (⟨LD.box_range HzaK_1.out, LD.box_range HzaH_1.out⟩) ?_
    · clear h
      go_simp
    simp only [Act.put, List.getElem_toArray, List.getElem_cons_zero, List.getElem_cons_succ, List.setIfInBounds_toArray, List.set_cons_succ, List.set_cons_zero]
    refine wpAnyH_take (i := 2) rfl (by kernel_rfl) (by kernel_rfl) (by kernel_rfl) (fun _ _ _ h => absurd h.1 (by simp)) (LD.yl LD.big_lKeys (by rfl) _ rfl rfl (fun w9 h9 => h9.1) rfl) (⟨LD.box_range HzaK_1.out, LD.box_range HzaH_1.out⟩) ?_
    simp only [Act.put, List.getElem_toArray, List.getElem_cons_zero, List.getElem_cons_succ, List.setIfInBounds_toArray, List.set_cons_succ, List.set_cons_zero]
    refine wpAnyH_take (i := 4) rfl (by kernel_rfl) (by kernel_rfl) (by kernel_rfl) (fun _ _ _ h => absurd h.1 (by simp)) (LD.yl LD.big_lHead (by rfl) _ rfl rfl (fun w9 h9 => h9.2) rfl) (⟨LD.box_range HzaK_1.out, LD.box_range HzaH_1.out⟩) ?_
    simp only [Act.put, List.getElem_toArray, List.getElem_cons_zero, List.getElem_cons_succ, List.setIfInBounds_toArray, List.set_cons_succ, List.set_cons_zero]
    refine wpAnyH_ready (rs := [1, 7]) (by kernel_rfl) (by simp) ?_
    refine AllReadyH.cons rfl (fun K hK => ?_) ?_
    · refine RGS.free rfl ?_
      try simp only [List.getElem_toArray, List.getElem_cons_zero, List.getElem_cons_succ]
      go_simp
      go_at_call 15
      refine (toIntS_any a0 l0 c0 y0 _ (((HO_aHeld_2.out.more HA_2.out.size).below HzB_1.out (Nat.le_refl _)).more HzB_1.out.size) (by omega)).mono ?_
      rintro e Y1 ⟨A__t0, c__t0, rfl, hown, hb⟩
      have HzaK_2 := Lib.hid (HzaK_1.out.below hb HzaK_1.out.lt)
      have HzaH_2 := Lib.hid (HzaH_1.out.below hb HzaH_1.out.lt)
      have HzB_2 := Lib.hid (HzB_1.out.trans (hb.mono HzB_1.out.size))
      have Hz_t0_2 := Lib.hid hown.rd
      have hcap_t0 := hown.cap.1
      have hsY1 := hb.size
      clear hown hb
      go_simp
      refine hK.out _ _ (⟨LD.box_range HzaK_2.out, LD.box_range HzaH_2.out⟩) (fun _ => ?_)
      clear hK K
      refine wpAnyH_ready (rs := [3, 7]) (by kernel_rfl) (by simp) ?_
      refine AllReadyH.cons rfl (fun K hK => ?_) ?_
      · refine RGS.free rfl ?_
        try simp only [List.getElem_toArray, List.getElem_cons_zero, List.getElem_cons_succ]
        go_simp
        go_at_call 10
        refine (toKeys_any [u1_0, u1_1] y1 _ (rgUp (RKeys.more HO_aK_2.out fun i hi => Nat.lt_of_lt_of_le hi HA_2.out.size) HzB_2.out) (by omega)).mono ?_
        rintro e Y2 ⟨cs9, rfl, hown, hb⟩
        obtain ⟨A__t1_0, n__t1_0, c__t1_0, rfl⟩ := RKeys_shape hown.rd
        have HzaK_3 := Lib.hid (HzaK_2.out.below hb HzaK_2.out.lt)
        have HzaH_3 := Lib.hid (HzaH_2.out.below hb HzaH_2.out.lt)
        have HzB_3 := Lib.hid (HzB_2.out.trans (hb.mono HzB_2.out.size))
        have Hz_t0_3 := Lib.hid ((Hz_t0_2.out.below hb (Nat.le_refl _)).more hb.size)
        have Hz_t1_3 := Lib.hid hown.rd
        have hsY2 := hb.size
        clear hown hb
        go_simp
        refine hK.out _ _ (⟨LD.box_range HzaK_3.out, LD.box_range HzaH_3.out⟩) (fun _ => ?_)
        clear hK K
        refine wpAnyH_ready (rs := [5, 7]) (by kernel_rfl) (by simp) ?_
        refine AllReadyH.cons rfl (fun K hK => ?_) ?_
        · refine RGS.free rfl ?_
          try simp only [List.getElem_toArray, List.getElem_cons_zero, List.getElem_cons_succ]
          go_simp
          go_at_call 16
          refine (toHead_any [u2_0, u2_1, u2_2, u2_3, u2_4, u2_5, u2_6, u2_7, u2_8, u2_9, u2_10, u2_11, u2_12, u2_13, u2_14, u2_15] y2 _ (rgUp (RHead.more HO_aH_2.out fun i hi => Nat.lt_of_lt_of_le hi HA_2.out.size) HzB_3.out) (by omega)).mono ?_
          rintro e Y3 ⟨cs9, rfl, hown, hb⟩
          obtain ⟨A__t2_8, n__t2_8, c__t2_8, A__t2_10, n__t2_10, c__t2_10, A__t2_13, n__t2_13, c__t2_13, rfl⟩ := RHead_shape hown.rd
          have HzaK_4 := Lib.hid (HzaK_3.out.below hb HzaK_3.out.lt)
          have HzaH_4 := Lib.hid (HzaH_3.out.below hb HzaH_3.out.lt)
          have HzB_4 := Lib.hid (HzB_3.out.trans (hb.mono HzB_3.out.size))
          have Hz_t0_4 := Lib.hid ((Hz_t0_3.out.below hb (Nat.le_refl _)).more hb.size)
          have Hz_t1_4 := Lib.hid (rgUp Hz_t1_3.out hb)
          have Hz_t2_4 := Lib.hid hown.rd
          have hsY3 := hb.size
          clear hown hb
          go_simp
          refine hK.out _ _ (⟨LD.box_range HzaK_4.out, LD.box_range HzaH_4.out⟩) (fun _ => ?_)
          clear hK K
          refine wpAnyH_ready (rs := [6, 7]) (by kernel_rfl) (by simp) ?_
          refine AllReadyH.cons rfl (fun K hK => ?_) ?_
          · refine RGS.free rfl ?_
            try simp only [List.getElem_toArray, List.getElem_cons_zero, List.getElem_cons_succ]
            go_simp
            go_at_call 14
            refine (HS.out A__t0 l0 c__t0 [(.slice A__t1_0 n__t1_0 c__t1_0), (.int .i64 y1.need)] [(.int .i64 y2.zone), (.int .i64 y2.epoch), (.int .i64 y2.kind), (.int .i64 y2.time), (.int .i64 y2.until_), (.int .i64 y2.count), (.int .i64 y2.root), (.int .i64 y2.prev), (.slice A__t2_8 n__t2_8 c__t2_8), (.int .i64 y2.keys.need), (.slice A__t2_10 n__t2_10 c__t2_10), (.int .i64 y2.heirs.need), (.int .i64 y2.wait), (.slice A__t2_13 n__t2_13 c__t2_13), (.int .i64 y2.judge.need), (.bool y2.frozen)] _ hcap_t0 Hz_t0_4.out Hz_t1_4.out Hz_t2_4.out).mono ?_
            rintro e Y4 ⟨cs9, rfl, hown, hb⟩
            obtain ⟨A_w0_8, n_w0_8, c_w0_8, A_w0_10, n_w0_10, c_w0_10, A_w0_13, n_w0_13, c_w0_13, A_w0_16, n_w0_16, c_w0_16, rfl⟩ := RSigned_shape hown.rd
            have HzaK_5 := Lib.hid (HzaK_4.out.below hb HzaK_4.out.lt)
            have HzaH_5 := Lib.hid (HzaH_4.out.below hb HzaH_4.out.lt)
            have HzB_5 := Lib.hid (HzB_4.out.trans (hb.mono HzB_4.out.size))
            have Hz_t0_5 := Lib.hid ((Hz_t0_4.out.below hb (Nat.le_refl _)).more hb.size)
            have Hz_t1_5 := Lib.hid (rgUp Hz_t1_4.out hb)
            have Hz_t2_5 := Lib.hid (rgUp Hz_t2_4.out hb)
            have HzR_5 := Lib.hid (show OwnI RSigned Y4 (Y3.heap.size) (Y4.heap.size) [(.int .i64 r0.head.zone), (.int .i64 r0.head.epoch), (.int .i64 r0.head.kind), (.int .i64 r0.head.time), (.int .i64 r0.head.until_), (.int .i64 r0.head.count), (.int .i64 r0.head.root), (.int .i64 r0.head.prev), (.slice A_w0_8 n_w0_8 c_w0_8), (.int .i64 r0.head.keys.need), (.slice A_w0_10 n_w0_10 c_w0_10), (.int .i64 r0.head.heirs.need), (.int .i64 r0.head.wait), (.slice A_w0_13 n_w0_13 c_w0_13), (.int .i64 r0.head.judge.need), (.bool r0.head.frozen), (.slice A_w0_16 n_w0_16 c_w0_16)] r0 ∧ (Y4.heap.size) ≤ Y4.heap.size from ⟨hown, Nat.le_refl _⟩)
            have hsY4 := hb.size
            clear hown hb
            go_simp
            refine hK.out _ _ (⟨LD.box_range HzaK_5.out, LD.box_range HzaH_5.out⟩) (fun _ => ?_)
            clear hK K
            refine wpAnyH_ready (rs := [7]) (by kernel_rfl) (by simp) ?_
            refine AllReadyH.cons rfl (fun K hK => ?_) ?_
            · refine RGS.free rfl ?_
              try simp only [List.getElem_toArray, List.getElem_cons_zero, List.getElem_cons_succ]
              go_simp
              have hal : Below Y4.heap.size Y4 (Y4.alloc (.cells #[.int .i64 0, .int .i64 0, .int .i64 0, .int .i64 0, .int .i64 0, .int .i64 0, .int .i64 0, .int .i64 0, .slice none 0 0, .int .i64 0, .slice none 0 0, .int .i64 0, .int .i64 0, .slice none 0 0, .int .i64 0, .bool false, .slice none 0 0] 38)) := (Below.refl _ _).alloc (Nat.le_refl _) _
              have HzaK_6 := Lib.hid (HzaK_5.out.below hal HzaK_5.out.lt)
              have HzaH_6 := Lib.hid (HzaH_5.out.below hal HzaH_5.out.lt)
              have HzB_6 := Lib.hid (HzB_5.out.trans (hal.mono HzB_5.out.size))
              have Hz_t0_6 := Lib.hid ((Hz_t0_5.out.below hal (Nat.le_refl _)).more hal.size)
              have Hz_t1_6 := Lib.hid (rgUp Hz_t1_5.out hal)
              have Hz_t2_6 := Lib.hid (rgUp Hz_t2_5.out hal)
              have HzR_6 := Lib.hid (show OwnI RSigned (Y4.alloc (.cells #[.int .i64 0, .int .i64 0, .int .i64 0, .int .i64 0, .int .i64 0, .int .i64 0, .int .i64 0, .int .i64 0, .slice none 0 0, .int .i64 0, .slice none 0 0, .int .i64 0, .int .i64 0, .slice none 0 0, .int .i64 0, .bool false, .slice none 0 0] 38)) (Y3.heap.size) (Y4.heap.size) [(.int .i64 r0.head.zone), (.int .i64 r0.head.epoch), (.int .i64 r0.head.kind), (.int .i64 r0.head.time), (.int .i64 r0.head.until_), (.int .i64 r0.head.count), (.int .i64 r0.head.root), (.int .i64 r0.head.prev), (.slice A_w0_8 n_w0_8 c_w0_8), (.int .i64 r0.head.keys.need), (.slice A_w0_10 n_w0_10 c_w0_10), (.int .i64 r0.head.heirs.need), (.int .i64 r0.head.wait), (.slice A_w0_13 n_w0_13 c_w0_13), (.int .i64 r0.head.judge.need), (.bool r0.head.frozen), (.slice A_w0_16 n_w0_16 c_w0_16)] r0 ∧ (Y4.heap.size) ≤ (Y4.alloc (.cells #[.int .i64 0, .int .i64 0, .int .i64 0, .int .i64 0, .int .i64 0, .int .i64 0, .int .i64 0, .int .i64 0, .slice none 0 0, .int .i64 0, .slice none 0 0, .int .i64 0, .int .i64 0, .slice none 0 0, .int .i64 0, .bool false, .slice none 0 0] 38)).heap.size from (⟨HzR_5.out.1.below hal HzR_5.out.2, Nat.le_trans HzR_5.out.2 hal.size⟩ : _ ∧ _))
              have HzG_6 := Lib.hid (show Box (Y4.alloc (.cells #[.int .i64 0, .int .i64 0, .int .i64 0, .int .i64 0, .int .i64 0, .int .i64 0, .int .i64 0, .int .i64 0, .slice none 0 0, .int .i64 0, .slice none 0 0, .int .i64 0, .int .i64 0, .slice none 0 0, .int .i64 0, .bool false, .slice none 0 0] 38)) (Y4.heap.size) [.int .i64 0, .int .i64 0, .int .i64 0, .int .i64 0, .int .i64 0, .int .i64 0, .int .i64 0, .int .i64 0, .slice none 0 0, .int .i64 0, .slice none 0 0, .int .i64 0, .int .i64 0, .slice none 0 0, .int .i64 0, .bool false, .slice none 0 0] from Box.new Y4 #[.int .i64 0, .int .i64 0, .int .i64 0, .int .i64 0, .int .i64 0, .int .i64 0, .int .i64 0, .int .i64 0, .slice none 0 0, .int .i64 0, .slice none 0 0, .int .i64 0, .int .i64 0, .slice none 0 0, .int .i64 0, .bool false, .slice none 0 0] 38)
              obtain ⟨Y5, hY5⟩ : ∃ u9, Y4.alloc (.cells #[.int .i64 0, .int .i64 0, .int .i64 0, .int .i64 0, .int .i64 0, .int .i64 0, .int .i64 0, .int .i64 0, .slice none 0 0, .int .i64 0, .slice none 0 0, .int .i64 0, .int .i64 0, .slice none 0 0, .int .i64 0, .bool false, .slice none 0 0] 38) = u9 := ⟨_, rfl⟩
              rw [hY5] at HzaK_6 HzaH_6 HzB_6 Hz_t0_6 Hz_t1_6 Hz_t2_6 HzR_6 HzG_6
              have HY5 := Lib.hid hY5
              clear hal
              first | rw [HY5.out] | rw [show (Y4.alloc (.cells #[.int .i64 0, .int .i64 0, .int .i64 0, .int .i64 0, .int .i64 0, .int .i64 0, .int .i64 0, .int .i64 0, .slice none 0 0, .int .i64 0, .slice none 0 0, .int .i64 0, .int .i64 0, .slice none 0 0, .int .i64 0, .bool false, .slice none 0 0] 38)).drew = Y5 from HY5.out]
              have hsY5 : Y4.heap.size + 1 ≤ Y5.heap.size := by rw [← HY5.out]; simp
              have hdis : Y4.heap.size < Y3.heap.size ∨ Y4.heap.size ≤ Y4.heap.size := .inr (by omega)
              refine hK.out _ _ (⟨LD.box_range HzaK_6.out, LD.box_range HzaH_6.out⟩) (fun _ => ?_)
              clear hK K
              refine wpAnyH_ready (rs := [8]) (by kernel_rfl) (by simp) ?_
              refine AllReadyH.cons rfl (fun K hK => ?_) ?_
              · refine RGS.free rfl ?_
                try simp only [List.getElem_toArray, List.getElem_cons_zero, List.getElem_cons_succ]
                obtain ⟨VF, hVF⟩ : ∃ u9, puts Y5 (Y4.heap.size) 0 [(.int .i64 r0.head.zone), (.int .i64 r0.head.epoch), (.int .i64 r0.head.kind), (.int .i64 r0.head.time), (.int .i64 r0.head.until_), (.int .i64 r0.head.count), (.int .i64 r0.head.root), (.int .i64 r0.head.prev), (.slice A_w0_8 n_w0_8 c_w0_8), (.int .i64 r0.head.keys.need), (.slice A_w0_10 n_w0_10 c_w0_10), (.int .i64 r0.head.heirs.need), (.int .i64 r0.head.wait), (.slice A_w0_13 n_w0_13 c_w0_13), (.int .i64 r0.head.judge.need), (.bool r0.head.frozen), (.slice A_w0_16 n_w0_16 c_w0_16)] = u9 := ⟨_, rfl⟩
                have HbF := Lib.hid (pt_bel hVF HzB_6.out (show W_2.heap.size ≤ Y4.heap.size by omega))
                have HgF := Lib.hid (show Box VF (Y4.heap.size) [(.int .i64 r0.head.zone), (.int .i64 r0.head.epoch), (.int .i64 r0.head.kind), (.int .i64 r0.head.time), (.int .i64 r0.head.until_), (.int .i64 r0.head.count), (.int .i64 r0.head.root), (.int .i64 r0.head.prev), (.slice A_w0_8 n_w0_8 c_w0_8), (.int .i64 r0.head.keys.need), (.slice A_w0_10 n_w0_10 c_w0_10), (.int .i64 r0.head.heirs.need), (.int .i64 r0.head.wait), (.slice A_w0_13 n_w0_13 c_w0_13), (.int .i64 r0.head.judge.need), (.bool r0.head.frozen), (.slice A_w0_16 n_w0_16 c_w0_16)] from (show Box VF (Y4.heap.size) ([] ++ [(.int .i64 r0.head.zone), (.int .i64 r0.head.epoch), (.int .i64 r0.head.kind), (.int .i64 r0.head.time), (.int .i64 r0.head.until_), (.int .i64 r0.head.count), (.int .i64 r0.head.root), (.int .i64 r0.head.prev), (.slice A_w0_8 n_w0_8 c_w0_8), (.int .i64 r0.head.keys.need), (.slice A_w0_10 n_w0_10 c_w0_10), (.int .i64 r0.head.heirs.need), (.int .i64 r0.head.wait), (.slice A_w0_13 n_w0_13 c_w0_13), (.int .i64 r0.head.judge.need), (.bool r0.head.frozen), (.slice A_w0_16 n_w0_16 c_w0_16)] ++ []) from pt_mid hVF (show Box Y5 (Y4.heap.size) ([] ++ [.int .i64 0, .int .i64 0, .int .i64 0, .int .i64 0, .int .i64 0, .int .i64 0, .int .i64 0, .int .i64 0, .slice none 0 0, .int .i64 0, .slice none 0 0, .int .i64 0, .int .i64 0, .slice none 0 0, .int .i64 0, .bool false, .slice none 0 0] ++ []) from HzG_6.out) rfl rfl))
                have HrF := Lib.hid (show RSigned.rd VF (Lt VF.heap.size) [(.int .i64 r0.head.zone), (.int .i64 r0.head.epoch), (.int .i64 r0.head.kind), (.int .i64 r0.head.time), (.int .i64 r0.head.until_), (.int .i64 r0.head.count), (.int .i64 r0.head.root), (.int .i64 r0.head.prev), (.slice A_w0_8 n_w0_8 c_w0_8), (.int .i64 r0.head.keys.need), (.slice A_w0_10 n_w0_10 c_w0_10), (.int .i64 r0.head.heirs.need), (.int .i64 r0.head.wait), (.slice A_w0_13 n_w0_13 c_w0_13), (.int .i64 r0.head.judge.need), (.bool r0.head.frozen), (.slice A_w0_16 n_w0_16 c_w0_16)] r0 from RSigned.more (OwnI.keep (w' := VF) HzR_6.out.1 fun i _ h1 h2 => by rw [← hVF]; exact puts_keep (by omega) _ _).rd fun i hi => Nat.lt_of_lt_of_le hi (Nat.le_trans HzR_6.out.2 (by rw [← hVF, puts_size]; exact Nat.le_refl _)))
                refine LD.op_stV LD.big_Signed _ _ rfl rfl rfl HzG_6.out rfl (by decide) rfl hVF ?_
                simp only [Act.put, List.getElem_toArray, List.getElem_cons_zero, List.getElem_cons_succ, List.setIfInBounds_toArray, List.set_cons_succ, List.set_cons_zero]
                have HzaK_7 := Lib.hid (pt_box hVF HzaK_6.out (show (W0.heap.size) ≠ (Y4.heap.size) by omega))
                have HzaH_7 := Lib.hid (pt_box hVF HzaH_6.out (show (W0.heap.size + 1) ≠ (Y4.heap.size) by omega))
                have HzB_7 := HbF
                refine hK.out _ _ (⟨LD.box_range HzaK_7.out, LD.box_range HzaH_7.out⟩) (fun _ => ?_)
                clear hK K
                refine wpAnyH_done (by kernel_rfl) ?_ _
                exact ⟨rfl, HJ9.out _ _ ⟨Y4.heap.size, A_w0_8, n_w0_8, c_w0_8, A_w0_10, n_w0_10, c_w0_10, A_w0_13, n_w0_13, c_w0_13, A_w0_16, n_w0_16, c_w0_16, .slice a0 l0 c0, .slice A__t0 l0 c__t0, .agg #[u1_0, u1_1], .agg #[(.slice A__t1_0 n__t1_0 c__t1_0), (.int .i64 y1.need)], .agg #[u2_0, u2_1, u2_2, u2_3, u2_4, u2_5, u2_6, u2_7, u2_8, u2_9, u2_10, u2_11, u2_12, u2_13, u2_14, u2_15], .agg #[(.int .i64 y2.zone), (.int .i64 y2.epoch), (.int .i64 y2.kind), (.int .i64 y2.time), (.int .i64 y2.until_), (.int .i64 y2.count), (.int .i64 y2.root), (.int .i64 y2.prev), (.slice A__t2_8 n__t2_8 c__t2_8), (.int .i64 y2.keys.need), (.slice A__t2_10 n__t2_10 c__t2_10), (.int .i64 y2.heirs.need), (.int .i64 y2.wait), (.slice A__t2_13 n__t2_13 c__t2_13), (.int .i64 y2.judge.need), (.bool y2.frozen)], .agg #[(.int .i64 r0.head.zone), (.int .i64 r0.head.epoch), (.int .i64 r0.head.kind), (.int .i64 r0.head.time), (.int .i64 r0.head.until_), (.int .i64 r0.head.count), (.int .i64 r0.head.root), (.int .i64 r0.head.prev), (.slice A_w0_8 n_w0_8 c_w0_8), (.int .i64 r0.head.keys.need), (.slice A_w0_10 n_w0_10 c_w0_10), (.int .i64 r0.head.heirs.need), (.int .i64 r0.head.wait), (.slice A_w0_13 n_w0_13 c_w0_13), (.int .i64 r0.head.judge.need), (.bool r0.head.frozen), (.slice A_w0_16 n_w0_16 c_w0_16)], (by first | (simp only [Act.put, List.setIfInBounds_toArray, List.set_cons_succ, List.set_cons_zero] <;> rfl) | rfl), HbF.out, HgF.out, by omega, HrF.out⟩⟩
              exact AllReadyH.nil
            exact AllReadyH.nil
          refine AllReadyH.cons rfl (fun K hK => ?_) ?_
          · refine RGS.free rfl ?_
            try simp only [List.getElem_toArray, List.getElem_cons_zero, List.getElem_cons_succ]
            go_simp
            have hal : Below Y3.heap.size Y3 (Y3.alloc (.cells #[.int .i64 0, .int .i64 0, .int .i64 0, .int .i64 0, .int .i64 0, .int .i64 0, .int .i64 0, .int .i64 0, .slice none 0 0, .int .i64 0, .slice none 0 0, .int .i64 0, .int .i64 0, .slice none 0 0, .int .i64 0, .bool false, .slice none 0 0] 38)) := (Below.refl _ _).alloc (Nat.le_refl _) _
            have HzaK_5 := Lib.hid (HzaK_4.out.below hal HzaK_4.out.lt)
            have HzaH_5 := Lib.hid (HzaH_4.out.below hal HzaH_4.out.lt)
            have HzB_5 := Lib.hid (HzB_4.out.trans (hal.mono HzB_4.out.size))
            have Hz_t0_5 := Lib.hid ((Hz_t0_4.out.below hal (Nat.le_refl _)).more hal.size)
            have Hz_t1_5 := Lib.hid (rgUp Hz_t1_4.out hal)
            have Hz_t2_5 := Lib.hid (rgUp Hz_t2_4.out hal)
            have HzG_5 := Lib.hid (show Box (Y3.alloc (.cells #[.int .i64 0, .int .i64 0, .int .i64 0, .int .i64 0, .int .i64 0, .int .i64 0, .int .i64 0, .int .i64 0, .slice none 0 0, .int .i64 0, .slice none 0 0, .int .i64 0, .int .i64 0, .slice none 0 0, .int .i64 0, .bool false, .slice none 0 0] 38)) (Y3.heap.size) [.int .i64 0, .int .i64 0, .int .i64 0, .int .i64 0, .int .i64 0, .int .i64 0, .int .i64 0, .int .i64 0, .slice none 0 0, .int .i64 0, .slice none 0 0, .int .i64 0, .int .i64 0, .slice none 0 0, .int .i64 0, .bool false, .slice none 0 0] from Box.new Y3 #[.int .i64 0, .int .i64 0, .int .i64 0, .int .i64 0, .int .i64 0, .int .i64 0, .int .i64 0, .int .i64 0, .slice none 0 0, .int .i64 0, .slice none 0 0, .int .i64 0, .int .i64 0, .slice none 0 0, .int .i64 0, .bool false, .slice none 0 0] 38)
            obtain ⟨Y6, hY6⟩ : ∃ u9, Y3.alloc (.cells #[.int .i64 0, .int .i64 0, .int .i64 0, .int .i64 0, .int .i64 0, .int .i64 0, .int .i64 0, .int .i64 0, .slice none 0 0, .int .i64 0, .slice none 0 0, .int .i64 0, .int .i64 0, .slice none 0 0, .int .i64 0, .bool false, .slice none 0 0] 38) = u9 := ⟨_, rfl⟩
            rw [hY6] at HzaK_5 HzaH_5 HzB_5 Hz_t0_5 Hz_t1_5 Hz_t2_5 HzG_5
            have HY6 := Lib.hid hY6
            clear hal
            first | rw [HY6.out] | rw [show (Y3.alloc (.cells #[.int .i64 0, .int .i64 0, .int .i64 0, .int .i64 0, .int .i64 0, .int .i64 0, .int .i64 0, .int .i64 0, .slice none 0 0, .int .i64 0, .slice none 0 0, .int .i64 0, .int .i64 0, .slice none 0 0, .int .i64 0, .bool false, .slice none 0 0] 38)).drew = Y6 from HY6.out]
            have hsY6 : Y3.heap.size + 1 ≤ Y6.heap.size := by rw [← HY6.out]; simp
            refine hK.out _ _ (⟨LD.box_range HzaK_5.out, LD.box_range HzaH_5.out⟩) (fun _ => ?_)
            clear hK K
            refine wpAnyH_ready (rs := [6]) (by kernel_rfl) (by simp) ?_
            refine AllReadyH.cons rfl (fun K hK => ?_) ?_
            · refine RGS.free rfl ?_
              try simp only [List.getElem_toArray, List.getElem_cons_zero, List.getElem_cons_succ]
              go_simp
              go_at_call 14
              refine (HS.out A__t0 l0 c__t0 [(.slice A__t1_0 n__t1_0 c__t1_0), (.int .i64 y1.need)] [(.int .i64 y2.zone), (.int .i64 y2.epoch), (.int .i64 y2.kind), (.int .i64 y2.time), (.int .i64 y2.until_), (.int .i64 y2.count), (.int .i64 y2.root), (.int .i64 y2.prev), (.slice A__t2_8 n__t2_8 c__t2_8), (.int .i64 y2.keys.need), (.slice A__t2_10 n__t2_10 c__t2_10), (.int .i64 y2.heirs.need), (.int .i64 y2.wait), (.slice A__t2_13 n__t2_13 c__t2_13), (.int .i64 y2.judge.need), (.bool y2.frozen)] _ hcap_t0 Hz_t0_5.out Hz_t1_5.out Hz_t2_5.out).mono ?_
              rintro e Y7 ⟨cs9, rfl, hown, hb⟩
              obtain ⟨A_w0_8, n_w0_8, c_w0_8, A_w0_10, n_w0_10, c_w0_10, A_w0_13, n_w0_13, c_w0_13, A_w0_16, n_w0_16, c_w0_16, rfl⟩ := RSigned_shape hown.rd
              have HzaK_6 := Lib.hid (HzaK_5.out.below hb HzaK_5.out.lt)
              have HzaH_6 := Lib.hid (HzaH_5.out.below hb HzaH_5.out.lt)
              have HzB_6 := Lib.hid (HzB_5.out.trans (hb.mono HzB_5.out.size))
              have Hz_t0_6 := Lib.hid ((Hz_t0_5.out.below hb (Nat.le_refl _)).more hb.size)
              have Hz_t1_6 := Lib.hid (rgUp Hz_t1_5.out hb)
              have Hz_t2_6 := Lib.hid (rgUp Hz_t2_5.out hb)
              have HzG_6 := Lib.hid (HzG_5.out.below hb HzG_5.out.lt)
              have HzR_6 := Lib.hid (show OwnI RSigned Y7 (Y6.heap.size) (Y7.heap.size) [(.int .i64 r0.head.zone), (.int .i64 r0.head.epoch), (.int .i64 r0.head.kind), (.int .i64 r0.head.time), (.int .i64 r0.head.until_), (.int .i64 r0.head.count), (.int .i64 r0.head.root), (.int .i64 r0.head.prev), (.slice A_w0_8 n_w0_8 c_w0_8), (.int .i64 r0.head.keys.need), (.slice A_w0_10 n_w0_10 c_w0_10), (.int .i64 r0.head.heirs.need), (.int .i64 r0.head.wait), (.slice A_w0_13 n_w0_13 c_w0_13), (.int .i64 r0.head.judge.need), (.bool r0.head.frozen), (.slice A_w0_16 n_w0_16 c_w0_16)] r0 ∧ (Y7.heap.size) ≤ Y7.heap.size from ⟨hown, Nat.le_refl _⟩)
              have hdis : Y3.heap.size < Y6.heap.size ∨ Y7.heap.size ≤ Y3.heap.size := .inl (by omega)
              have hsY7 := hb.size
              clear hown hb
              go_simp
              refine hK.out _ _ (⟨LD.box_range HzaK_6.out, LD.box_range HzaH_6.out⟩) (fun _ => ?_)
              clear hK K
              refine wpAnyH_ready (rs := [8]) (by kernel_rfl) (by simp) ?_
              refine AllReadyH.cons rfl (fun K hK => ?_) ?_
              · refine RGS.free rfl ?_
                try simp only [List.getElem_toArray, List.getElem_cons_zero, List.getElem_cons_succ]
                obtain ⟨VF, hVF⟩ : ∃ u9, puts Y7 (Y3.heap.size) 0 [(.int .i64 r0.head.zone), (.int .i64 r0.head.epoch), (.int .i64 r0.head.kind), (.int .i64 r0.head.time), (.int .i64 r0.head.until_), (.int .i64 r0.head.count), (.int .i64 r0.head.root), (.int .i64 r0.head.prev), (.slice A_w0_8 n_w0_8 c_w0_8), (.int .i64 r0.head.keys.need), (.slice A_w0_10 n_w0_10 c_w0_10), (.int .i64 r0.head.heirs.need), (.int .i64 r0.head.wait), (.slice A_w0_13 n_w0_13 c_w0_13), (.int .i64 r0.head.judge.need), (.bool r0.head.frozen), (.slice A_w0_16 n_w0_16 c_w0_16)] = u9 := ⟨_, rfl⟩
                have HbF := Lib.hid (pt_bel hVF HzB_6.out (show W_2.heap.size ≤ Y3.heap.size by omega))
                have HgF := Lib.hid (show Box VF (Y3.heap.size) [(.int .i64 r0.head.zone), (.int .i64 r0.head.epoch), (.int .i64 r0.head.kind), (.int .i64 r0.head.time), (.int .i64 r0.head.until_), (.int .i64 r0.head.count), (.int .i64 r0.head.root), (.int .i64 r0.head.prev), (.slice A_w0_8 n_w0_8 c_w0_8), (.int .i64 r0.head.keys.need), (.slice A_w0_10 n_w0_10 c_w0_10), (.int .i64 r0.head.heirs.need), (.int .i64 r0.head.wait), (.slice A_w0_13 n_w0_13 c_w0_13), (.int .i64 r0.head.judge.need), (.bool r0.head.frozen), (.slice A_w0_16 n_w0_16 c_w0_16)] from (show Box VF (Y3.heap.size) ([] ++ [(.int .i64 r0.head.zone), (.int .i64 r0.head.epoch), (.int .i64 r0.head.kind), (.int .i64 r0.head.time), (.int .i64 r0.head.until_), (.int .i64 r0.head.count), (.int .i64 r0.head.root), (.int .i64 r0.head.prev), (.slice A_w0_8 n_w0_8 c_w0_8), (.int .i64 r0.head.keys.need), (.slice A_w0_10 n_w0_10 c_w0_10), (.int .i64 r0.head.heirs.need), (.int .i64 r0.head.wait), (.slice A_w0_13 n_w0_13 c_w0_13), (.int .i64 r0.head.judge.need), (.bool r0.head.frozen), (.slice A_w0_16 n_w0_16 c_w0_16)] ++ []) from pt_mid hVF (show Box Y7 (Y3.heap.size) ([] ++ [.int .i64 0, .int .i64 0, .int .i64 0, .int .i64 0, .int .i64 0, .int .i64 0, .int .i64 0, .int .i64 0, .slice none 0 0, .int .i64 0, .slice none 0 0, .int .i64 0, .int .i64 0, .slice none 0 0, .int .i64 0, .bool false, .slice none 0 0] ++ []) from HzG_6.out) rfl rfl))
                have HrF := Lib.hid (show RSigned.rd VF (Lt VF.heap.size) [(.int .i64 r0.head.zone), (.int .i64 r0.head.epoch), (.int .i64 r0.head.kind), (.int .i64 r0.head.time), (.int .i64 r0.head.until_), (.int .i64 r0.head.count), (.int .i64 r0.head.root), (.int .i64 r0.head.prev), (.slice A_w0_8 n_w0_8 c_w0_8), (.int .i64 r0.head.keys.need), (.slice A_w0_10 n_w0_10 c_w0_10), (.int .i64 r0.head.heirs.need), (.int .i64 r0.head.wait), (.slice A_w0_13 n_w0_13 c_w0_13), (.int .i64 r0.head.judge.need), (.bool r0.head.frozen), (.slice A_w0_16 n_w0_16 c_w0_16)] r0 from RSigned.more (OwnI.keep (w' := VF) HzR_6.out.1 fun i _ h1 h2 => by rw [← hVF]; exact puts_keep (by omega) _ _).rd fun i hi => Nat.lt_of_lt_of_le hi (Nat.le_trans HzR_6.out.2 (by rw [← hVF, puts_size]; exact Nat.le_refl _)))
                refine LD.op_stV LD.big_Signed _ _ rfl rfl rfl HzG_6.out rfl (by decide) rfl hVF ?_
                simp only [Act.put, List.getElem_toArray, List.getElem_cons_zero, List.getElem_cons_succ, List.setIfInBounds_toArray, List.set_cons_succ, List.set_cons_zero]
                have HzaK_7 := Lib.hid (pt_box hVF HzaK_6.out (show (W0.heap.size) ≠ (Y3.heap.size) by omega))
                have HzaH_7 := Lib.hid (pt_box hVF HzaH_6.out (show (W0.heap.size + 1) ≠ (Y3.heap.size) by omega))
                have HzB_7 := HbF
                refine hK.out _ _ (⟨LD.box_range HzaK_7.out, LD.box_range HzaH_7.out⟩) (fun _ => ?_)
                clear hK K
                refine wpAnyH_done (by kernel_rfl) ?_ _
                exact ⟨rfl, HJ9.out _ _ ⟨Y3.heap.size, A_w0_8, n_w0_8, c_w0_8, A_w0_10, n_w0_10, c_w0_10, A_w0_13, n_w0_13, c_w0_13, A_w0_16, n_w0_16, c_w0_16, .slice a0 l0 c0, .slice A__t0 l0 c__t0, .agg #[u1_0, u1_1], .agg #[(.slice A__t1_0 n__t1_0 c__t1_0), (.int .i64 y1.need)], .agg #[u2_0, u2_1, u2_2, u2_3, u2_4, u2_5, u2_6, u2_7, u2_8, u2_9, u2_10, u2_11, u2_12, u2_13, u2_14, u2_15], .agg #[(.int .i64 y2.zone), (.int .i64 y2.epoch), (.int .i64 y2.kind), (.int .i64 y2.time), (.int .i64 y2.until_), (.int .i64 y2.count), (.int .i64 y2.root), (.int .i64 y2.prev), (.slice A__t2_8 n__t2_8 c__t2_8), (.int .i64 y2.keys.need), (.slice A__t2_10 n__t2_10 c__t2_10), (.int .i64 y2.heirs.need), (.int .i64 y2.wait), (.slice A__t2_13 n__t2_13 c__t2_13), (.int .i64 y2.judge.need), (.bool y2.frozen)], .agg #[(.int .i64 r0.head.zone), (.int .i64 r0.head.epoch), (.int .i64 r0.head.kind), (.int .i64 r0.head.time), (.int .i64 r0.head.until_), (.int .i64 r0.head.count), (.int .i64 r0.head.root), (.int .i64 r0.head.prev), (.slice A_w0_8 n_w0_8 c_w0_8), (.int .i64 r0.head.keys.need), (.slice A_w0_10 n_w0_10 c_w0_10), (.int .i64 r0.head.heirs.need), (.int .i64 r0.head.wait), (.slice A_w0_13 n_w0_13 c_w0_13), (.int .i64 r0.head.judge.need), (.bool r0.head.frozen), (.slice A_w0_16 n_w0_16 c_w0_16)], (by first | (simp only [Act.put, List.setIfInBounds_toArray, List.set_cons_succ, List.set_cons_zero] <;> rfl) | rfl), HbF.out, HgF.out, by omega, HrF.out⟩⟩
              exact AllReadyH.nil
            exact AllReadyH.nil
          exact AllReadyH.nil
        refine AllReadyH.cons rfl (fun K hK => ?_) ?_
        · refine RGS.free rfl ?_
          try simp only [List.getElem_toArray, List.getElem_cons_zero, List.getElem_cons_succ]
          go_simp
          have hal : Below Y2.heap.size Y2 (Y2.alloc (.cells #[.int .i64 0, .int .i64 0, .int .i64 0, .int .i64 0, .int .i64 0, .int .i64 0, .int .i64 0, .int .i64 0, .slice none 0 0, .int .i64 0, .slice none 0 0, .int .i64 0, .int .i64 0, .slice none 0 0, .int .i64 0, .bool false, .slice none 0 0] 38)) := (Below.refl _ _).alloc (Nat.le_refl _) _
          have HzaK_4 := Lib.hid (HzaK_3.out.below hal HzaK_3.out.lt)
          have HzaH_4 := Lib.hid (HzaH_3.out.below hal HzaH_3.out.lt)
          have HzB_4 := Lib.hid (HzB_3.out.trans (hal.mono HzB_3.out.size))
          have Hz_t0_4 := Lib.hid ((Hz_t0_3.out.below hal (Nat.le_refl _)).more hal.size)
          have Hz_t1_4 := Lib.hid (rgUp Hz_t1_3.out hal)
          have HzG_4 := Lib.hid (show Box (Y2.alloc (.cells #[.int .i64 0, .int .i64 0, .int .i64 0, .int .i64 0, .int .i64 0, .int .i64 0, .int .i64 0, .int .i64 0, .slice none 0 0, .int .i64 0, .slice none 0 0, .int .i64 0, .int .i64 0, .slice none 0 0, .int .i64 0, .bool false, .slice none 0 0] 38)) (Y2.heap.size) [.int .i64 0, .int .i64 0, .int .i64 0, .int .i64 0, .int .i64 0, .int .i64 0, .int .i64 0, .int .i64 0, .slice none 0 0, .int .i64 0, .slice none 0 0, .int .i64 0, .int .i64 0, .slice none 0 0, .int .i64 0, .bool false, .slice none 0 0] from Box.new Y2 #[.int .i64 0, .int .i64 0, .int .i64 0, .int .i64 0, .int .i64 0, .int .i64 0, .int .i64 0, .int .i64 0, .slice none 0 0, .int .i64 0, .slice none 0 0, .int .i64 0, .int .i64 0, .slice none 0 0, .int .i64 0, .bool false, .slice none 0 0] 38)
          obtain ⟨Y8, hY8⟩ : ∃ u9, Y2.alloc (.cells #[.int .i64 0, .int .i64 0, .int .i64 0, .int .i64 0, .int .i64 0, .int .i64 0, .int .i64 0, .int .i64 0, .slice none 0 0, .int .i64 0, .slice none 0 0, .int .i64 0, .int .i64 0, .slice none 0 0, .int .i64 0, .bool false, .slice none 0 0] 38) = u9 := ⟨_, rfl⟩
          rw [hY8] at HzaK_4 HzaH_4 HzB_4 Hz_t0_4 Hz_t1_4 HzG_4
          have HY8 := Lib.hid hY8
          clear hal
          first | rw [HY8.out] | rw [show (Y2.alloc (.cells #[.int .i64 0, .int .i64 0, .int .i64 0, .int .i64 0, .int .i64 0, .int .i64 0, .int .i64 0, .int .i64 0, .slice none 0 0, .int .i64 0, .slice none 0 0, .int .i64 0, .int .i64 0, .slice none 0 0, .int .i64 0, .bool false, .slice none 0 0] 38)).drew = Y8 from HY8.out]
          have hsY8 : Y2.heap.size + 1 ≤ Y8.heap.size := by rw [← HY8.out]; simp
          refine hK.out _ _ (⟨LD.box_range HzaK_4.out, LD.box_range HzaH_4.out⟩) (fun _ => ?_)
          clear hK K
          refine wpAnyH_ready (rs := [5]) (by kernel_rfl) (by simp) ?_
          refine AllReadyH.cons rfl (fun K hK => ?_) ?_
          · refine RGS.free rfl ?_
            try simp only [List.getElem_toArray, List.getElem_cons_zero, List.getElem_cons_succ]
            go_simp
            go_at_call 16
            refine (toHead_any [u2_0, u2_1, u2_2, u2_3, u2_4, u2_5, u2_6, u2_7, u2_8, u2_9, u2_10, u2_11, u2_12, u2_13, u2_14, u2_15] y2 _ (rgUp (RHead.more HO_aH_2.out fun i hi => Nat.lt_of_lt_of_le hi HA_2.out.size) HzB_4.out) (by omega)).mono ?_
            rintro e Y9 ⟨cs9, rfl, hown, hb⟩
            obtain ⟨A__t2_8, n__t2_8, c__t2_8, A__t2_10, n__t2_10, c__t2_10, A__t2_13, n__t2_13, c__t2_13, rfl⟩ := RHead_shape hown.rd
            have HzaK_5 := Lib.hid (HzaK_4.out.below hb HzaK_4.out.lt)
            have HzaH_5 := Lib.hid (HzaH_4.out.below hb HzaH_4.out.lt)
            have HzB_5 := Lib.hid (HzB_4.out.trans (hb.mono HzB_4.out.size))
            have Hz_t0_5 := Lib.hid ((Hz_t0_4.out.below hb (Nat.le_refl _)).more hb.size)
            have Hz_t1_5 := Lib.hid (rgUp Hz_t1_4.out hb)
            have HzG_5 := Lib.hid (HzG_4.out.below hb HzG_4.out.lt)
            have Hz_t2_5 := Lib.hid hown.rd
            have hsY9 := hb.size
            clear hown hb
            go_simp
            refine hK.out _ _ (⟨LD.box_range HzaK_5.out, LD.box_range HzaH_5.out⟩) (fun _ => ?_)
            clear hK K
            refine wpAnyH_ready (rs := [6]) (by kernel_rfl) (by simp) ?_
            refine AllReadyH.cons rfl (fun K hK => ?_) ?_
            · refine RGS.free rfl ?_
              try simp only [List.getElem_toArray, List.getElem_cons_zero, List.getElem_cons_succ]
              go_simp
              go_at_call 14
              refine (HS.out A__t0 l0 c__t0 [(.slice A__t1_0 n__t1_0 c__t1_0), (.int .i64 y1.need)] [(.int .i64 y2.zone), (.int .i64 y2.epoch), (.int .i64 y2.kind), (.int .i64 y2.time), (.int .i64 y2.until_), (.int .i64 y2.count), (.int .i64 y2.root), (.int .i64 y2.prev), (.slice A__t2_8 n__t2_8 c__t2_8), (.int .i64 y2.keys.need), (.slice A__t2_10 n__t2_10 c__t2_10), (.int .i64 y2.heirs.need), (.int .i64 y2.wait), (.slice A__t2_13 n__t2_13 c__t2_13), (.int .i64 y2.judge.need), (.bool y2.frozen)] _ hcap_t0 Hz_t0_5.out Hz_t1_5.out Hz_t2_5.out).mono ?_
              rintro e Y10 ⟨cs9, rfl, hown, hb⟩
              obtain ⟨A_w0_8, n_w0_8, c_w0_8, A_w0_10, n_w0_10, c_w0_10, A_w0_13, n_w0_13, c_w0_13, A_w0_16, n_w0_16, c_w0_16, rfl⟩ := RSigned_shape hown.rd
              have HzaK_6 := Lib.hid (HzaK_5.out.below hb HzaK_5.out.lt)
              have HzaH_6 := Lib.hid (HzaH_5.out.below hb HzaH_5.out.lt)
              have HzB_6 := Lib.hid (HzB_5.out.trans (hb.mono HzB_5.out.size))
              have Hz_t0_6 := Lib.hid ((Hz_t0_5.out.below hb (Nat.le_refl _)).more hb.size)
              have Hz_t1_6 := Lib.hid (rgUp Hz_t1_5.out hb)
              have HzG_6 := Lib.hid (HzG_5.out.below hb HzG_5.out.lt)
              have Hz_t2_6 := Lib.hid (rgUp Hz_t2_5.out hb)
              have HzR_6 := Lib.hid (show OwnI RSigned Y10 (Y9.heap.size) (Y10.heap.size) [(.int .i64 r0.head.zone), (.int .i64 r0.head.epoch), (.int .i64 r0.head.kind), (.int .i64 r0.head.time), (.int .i64 r0.head.until_), (.int .i64 r0.head.count), (.int .i64 r0.head.root), (.int .i64 r0.head.prev), (.slice A_w0_8 n_w0_8 c_w0_8), (.int .i64 r0.head.keys.need), (.slice A_w0_10 n_w0_10 c_w0_10), (.int .i64 r0.head.heirs.need), (.int .i64 r0.head.wait), (.slice A_w0_13 n_w0_13 c_w0_13), (.int .i64 r0.head.judge.need), (.bool r0.head.frozen), (.slice A_w0_16 n_w0_16 c_w0_16)] r0 ∧ (Y10.heap.size) ≤ Y10.heap.size from ⟨hown, Nat.le_refl _⟩)
              have hdis : Y2.heap.size < Y9.heap.size ∨ Y10.heap.size ≤ Y2.heap.size := .inl (by omega)
              have hsY10 := hb.size
              clear hown hb
              go_simp
              refine hK.out _ _ (⟨LD.box_range HzaK_6.out, LD.box_range HzaH_6.out⟩) (fun _ => ?_)
              clear hK K
              refine wpAnyH_ready (rs := [8]) (by kernel_rfl) (by simp) ?_
              refine AllReadyH.cons rfl (fun K hK => ?_) ?_
              · refine RGS.free rfl ?_
                try simp only [List.getElem_toArray, List.getElem_cons_zero, List.getElem_cons_succ]
                obtain ⟨VF, hVF⟩ : ∃ u9, puts Y10 (Y2.heap.size) 0 [(.int .i64 r0.head.zone), (.int .i64 r0.head.epoch), (.int .i64 r0.head.kind), (.int .i64 r0.head.time), (.int .i64 r0.head.until_), (.int .i64 r0.head.count), (.int .i64 r0.head.root), (.int .i64 r0.head.prev), (.slice A_w0_8 n_w0_8 c_w0_8), (.int .i64 r0.head.keys.need), (.slice A_w0_10 n_w0_10 c_w0_10), (.int .i64 r0.head.heirs.need), (.int .i64 r0.head.wait), (.slice A_w0_13 n_w0_13 c_w0_13), (.int .i64 r0.head.judge.need), (.bool r0.head.frozen), (.slice A_w0_16 n_w0_16 c_w0_16)] = u9 := ⟨_, rfl⟩
                have HbF := Lib.hid (pt_bel hVF HzB_6.out (show W_2.heap.size ≤ Y2.heap.size by omega))
                have HgF := Lib.hid (show Box VF (Y2.heap.size) [(.int .i64 r0.head.zone), (.int .i64 r0.head.epoch), (.int .i64 r0.head.kind), (.int .i64 r0.head.time), (.int .i64 r0.head.until_), (.int .i64 r0.head.count), (.int .i64 r0.head.root), (.int .i64 r0.head.prev), (.slice A_w0_8 n_w0_8 c_w0_8), (.int .i64 r0.head.keys.need), (.slice A_w0_10 n_w0_10 c_w0_10), (.int .i64 r0.head.heirs.need), (.int .i64 r0.head.wait), (.slice A_w0_13 n_w0_13 c_w0_13), (.int .i64 r0.head.judge.need), (.bool r0.head.frozen), (.slice A_w0_16 n_w0_16 c_w0_16)] from (show Box VF (Y2.heap.size) ([] ++ [(.int .i64 r0.head.zone), (.int .i64 r0.head.epoch), (.int .i64 r0.head.kind), (.int .i64 r0.head.time), (.int .i64 r0.head.until_), (.int .i64 r0.head.count), (.int .i64 r0.head.root), (.int .i64 r0.head.prev), (.slice A_w0_8 n_w0_8 c_w0_8), (.int .i64 r0.head.keys.need), (.slice A_w0_10 n_w0_10 c_w0_10), (.int .i64 r0.head.heirs.need), (.int .i64 r0.head.wait), (.slice A_w0_13 n_w0_13 c_w0_13), (.int .i64 r0.head.judge.need), (.bool r0.head.frozen), (.slice A_w0_16 n_w0_16 c_w0_16)] ++ []) from pt_mid hVF (show Box Y10 (Y2.heap.size) ([] ++ [.int .i64 0, .int .i64 0, .int .i64 0, .int .i64 0, .int .i64 0, .int .i64 0, .int .i64 0, .int .i64 0, .slice none 0 0, .int .i64 0, .slice none 0 0, .int .i64 0, .int .i64 0, .slice none 0 0, .int .i64 0, .bool false, .slice none 0 0] ++ []) from HzG_6.out) rfl rfl))
                have HrF := Lib.hid (show RSigned.rd VF (Lt VF.heap.size) [(.int .i64 r0.head.zone), (.int .i64 r0.head.epoch), (.int .i64 r0.head.kind), (.int .i64 r0.head.time), (.int .i64 r0.head.until_), (.int .i64 r0.head.count), (.int .i64 r0.head.root), (.int .i64 r0.head.prev), (.slice A_w0_8 n_w0_8 c_w0_8), (.int .i64 r0.head.keys.need), (.slice A_w0_10 n_w0_10 c_w0_10), (.int .i64 r0.head.heirs.need), (.int .i64 r0.head.wait), (.slice A_w0_13 n_w0_13 c_w0_13), (.int .i64 r0.head.judge.need), (.bool r0.head.frozen), (.slice A_w0_16 n_w0_16 c_w0_16)] r0 from RSigned.more (OwnI.keep (w' := VF) HzR_6.out.1 fun i _ h1 h2 => by rw [← hVF]; exact puts_keep (by omega) _ _).rd fun i hi => Nat.lt_of_lt_of_le hi (Nat.le_trans HzR_6.out.2 (by rw [← hVF, puts_size]; exact Nat.le_refl _)))
                refine LD.op_stV LD.big_Signed _ _ rfl rfl rfl HzG_6.out rfl (by decide) rfl hVF ?_
                simp only [Act.put, List.getElem_toArray, List.getElem_cons_zero, List.getElem_cons_succ, List.setIfInBounds_toArray, List.set_cons_succ, List.set_cons_zero]
                have HzaK_7 := Lib.hid (pt_box hVF HzaK_6.out (show (W0.heap.size) ≠ (Y2.heap.size) by omega))
                have HzaH_7 := Lib.hid (pt_box hVF HzaH_6.out (show (W0.heap.size + 1) ≠ (Y2.heap.size) by omega))
                have HzB_7 := HbF
                refine hK.out _ _ (⟨LD.box_range HzaK_7.out, LD.box_range HzaH_7.out⟩) (fun _ => ?_)
                clear hK K
                refine wpAnyH_done (by kernel_rfl) ?_ _
                exact ⟨rfl, HJ9.out _ _ ⟨Y2.heap.size, A_w0_8, n_w0_8, c_w0_8, A_w0_10, n_w0_10, c_w0_10, A_w0_13, n_w0_13, c_w0_13, A_w0_16, n_w0_16, c_w0_16, .slice a0 l0 c0, .slice A__t0 l0 c__t0, .agg #[u1_0, u1_1], .agg #[(.slice A__t1_0 n__t1_0 c__t1_0), (.int .i64 y1.need)], .agg #[u2_0, u2_1, u2_2, u2_3, u2_4, u2_5, u2_6, u2_7, u2_8, u2_9, u2_10, u2_11, u2_12, u2_13, u2_14, u2_15], .agg #[(.int .i64 y2.zone), (.int .i64 y2.epoch), (.int .i64 y2.kind), (.int .i64 y2.time), (.int .i64 y2.until_), (.int .i64 y2.count), (.int .i64 y2.root), (.int .i64 y2.prev), (.slice A__t2_8 n__t2_8 c__t2_8), (.int .i64 y2.keys.need), (.slice A__t2_10 n__t2_10 c__t2_10), (.int .i64 y2.heirs.need), (.int .i64 y2.wait), (.slice A__t2_13 n__t2_13 c__t2_13), (.int .i64 y2.judge.need), (.bool y2.frozen)], .agg #[(.int .i64 r0.head.zone), (.int .i64 r0.head.epoch), (.int .i64 r0.head.kind), (.int .i64 r0.head.time), (.int .i64 r0.head.until_), (.int .i64 r0.head.count), (.int .i64 r0.head.root), (.int .i64 r0.head.prev), (.slice A_w0_8 n_w0_8 c_w0_8), (.int .i64 r0.head.keys.need), (.slice A_w0_10 n_w0_10 c_w0_10), (.int .i64 r0.head.heirs.need), (.int .i64 r0.head.wait), (.slice A_w0_13 n_w0_13 c_w0_13), (.int .i64 r0.head.judge.need), (.bool r0.head.frozen), (.slice A_w0_16 n_w0_16 c_w0_16)], (by first | (simp only [Act.put, List.setIfInBounds_toArray, List.set_cons_succ, List.set_cons_zero] <;> rfl) | rfl), HbF.out, HgF.out, by omega, HrF.out⟩⟩
              exact AllReadyH.nil
            exact AllReadyH.nil
          exact AllReadyH.nil
        exact AllReadyH.nil
      refine AllReadyH.cons rfl (fun K hK => ?_) ?_
      · refine RGS.free rfl ?_
        try simp only [List.getElem_toArray, List.getElem_cons_zero, List.getElem_cons_succ]
        go_simp
        have hal : Below Y1.heap.size Y1 (Y1.alloc (.cells #[.int .i64 0, .int .i64 0, .int .i64 0, .int .i64 0, .int .i64 0, .int .i64 0, .int .i64 0, .int .i64 0, .slice none 0 0, .int .i64 0, .slice none 0 0, .int .i64 0, .int .i64 0, .slice none 0 0, .int .i64 0, .bool false, .slice none 0 0] 38)) := (Below.refl _ _).alloc (Nat.le_refl _) _
        have HzaK_3 := Lib.hid (HzaK_2.out.below hal HzaK_2.out.lt)
        have HzaH_3 := Lib.hid (HzaH_2.out.below hal HzaH_2.out.lt)
        have HzB_3 := Lib.hid (HzB_2.out.trans (hal.mono HzB_2.out.size))
        have Hz_t0_3 := Lib.hid ((Hz_t0_2.out.below hal (Nat.le_refl _)).more hal.size)
        have HzG_3 := Lib.hid (show Box (Y1.alloc (.cells #[.int .i64 0, .int .i64 0, .int .i64 0, .int .i64 0, .int .i64 0, .int .i64 0, .int .i64 0, .int .i64 0, .slice none 0 0, .int .i64 0, .slice none 0 0, .int .i64 0, .int .i64 0, .slice none 0 0, .int .i64 0, .bool false, .slice none 0 0] 38)) (Y1.heap.size) [.int .i64 0, .int .i64 0, .int .i64 0, .int .i64 0, .int .i64 0, .int .i64 0, .int .i64 0, .int .i64 0, .slice none 0 0, .int .i64 0, .slice none 0 0, .int .i64 0, .int .i64 0, .slice none 0 0, .int .i64 0, .bool false, .slice none 0 0] from Box.new Y1 #[.int .i64 0, .int .i64 0, .int .i64 0, .int .i64 0, .int .i64 0, .int .i64 0, .int .i64 0, .int .i64 0, .slice none 0 0, .int .i64 0, .slice none 0 0, .int .i64 0, .int .i64 0, .slice none 0 0, .int .i64 0, .bool false, .slice none 0 0] 38)
        obtain ⟨Y11, hY11⟩ : ∃ u9, Y1.alloc (.cells #[.int .i64 0, .int .i64 0, .int .i64 0, .int .i64 0, .int .i64 0, .int .i64 0, .int .i64 0, .int .i64 0, .slice none 0 0, .int .i64 0, .slice none 0 0, .int .i64 0, .int .i64 0, .slice none 0 0, .int .i64 0, .bool false, .slice none 0 0] 38) = u9 := ⟨_, rfl⟩
        rw [hY11] at HzaK_3 HzaH_3 HzB_3 Hz_t0_3 HzG_3
        have HY11 := Lib.hid hY11
        clear hal
        first | rw [HY11.out] | rw [show (Y1.alloc (.cells #[.int .i64 0, .int .i64 0, .int .i64 0, .int .i64 0, .int .i64 0, .int .i64 0, .int .i64 0, .int .i64 0, .slice none 0 0, .int .i64 0, .slice none 0 0, .int .i64 0, .int .i64 0, .slice none 0 0, .int .i64 0, .bool false, .slice none 0 0] 38)).drew = Y11 from HY11.out]
        have hsY11 : Y1.heap.size + 1 ≤ Y11.heap.size := by rw [← HY11.out]; simp
        refine hK.out _ _ (⟨LD.box_range HzaK_3.out, LD.box_range HzaH_3.out⟩) (fun _ => ?_)
        clear hK K
        refine wpAnyH_ready (rs := [3]) (by kernel_rfl) (by simp) ?_
        refine AllReadyH.cons rfl (fun K hK => ?_) ?_
        · refine RGS.free rfl ?_
          try simp only [List.getElem_toArray, List.getElem_cons_zero, List.getElem_cons_succ]
          go_simp
          go_at_call 10
          refine (toKeys_any [u1_0, u1_1] y1 _ (rgUp (RKeys.more HO_aK_2.out fun i hi => Nat.lt_of_lt_of_le hi HA_2.out.size) HzB_3.out) (by omega)).mono ?_
          rintro e Y12 ⟨cs9, rfl, hown, hb⟩
          obtain ⟨A__t1_0, n__t1_0, c__t1_0, rfl⟩ := RKeys_shape hown.rd
          have HzaK_4 := Lib.hid (HzaK_3.out.below hb HzaK_3.out.lt)
          have HzaH_4 := Lib.hid (HzaH_3.out.below hb HzaH_3.out.lt)
          have HzB_4 := Lib.hid (HzB_3.out.trans (hb.mono HzB_3.out.size))
          have Hz_t0_4 := Lib.hid ((Hz_t0_3.out.below hb (Nat.le_refl _)).more hb.size)
          have HzG_4 := Lib.hid (HzG_3.out.below hb HzG_3.out.lt)
          have Hz_t1_4 := Lib.hid hown.rd
          have hsY12 := hb.size
          clear hown hb
          go_simp
          refine hK.out _ _ (⟨LD.box_range HzaK_4.out, LD.box_range HzaH_4.out⟩) (fun _ => ?_)
          clear hK K
          refine wpAnyH_ready (rs := [5]) (by kernel_rfl) (by simp) ?_
          refine AllReadyH.cons rfl (fun K hK => ?_) ?_
          · refine RGS.free rfl ?_
            try simp only [List.getElem_toArray, List.getElem_cons_zero, List.getElem_cons_succ]
            go_simp
            go_at_call 16
            refine (toHead_any [u2_0, u2_1, u2_2, u2_3, u2_4, u2_5, u2_6, u2_7, u2_8, u2_9, u2_10, u2_11, u2_12, u2_13, u2_14, u2_15] y2 _ (rgUp (RHead.more HO_aH_2.out fun i hi => Nat.lt_of_lt_of_le hi HA_2.out.size) HzB_4.out) (by omega)).mono ?_
            rintro e Y13 ⟨cs9, rfl, hown, hb⟩
            obtain ⟨A__t2_8, n__t2_8, c__t2_8, A__t2_10, n__t2_10, c__t2_10, A__t2_13, n__t2_13, c__t2_13, rfl⟩ := RHead_shape hown.rd
            have HzaK_5 := Lib.hid (HzaK_4.out.below hb HzaK_4.out.lt)
            have HzaH_5 := Lib.hid (HzaH_4.out.below hb HzaH_4.out.lt)
            have HzB_5 := Lib.hid (HzB_4.out.trans (hb.mono HzB_4.out.size))
            have Hz_t0_5 := Lib.hid ((Hz_t0_4.out.below hb (Nat.le_refl _)).more hb.size)
            have HzG_5 := Lib.hid (HzG_4.out.below hb HzG_4.out.lt)
            have Hz_t1_5 := Lib.hid (rgUp Hz_t1_4.out hb)
            have Hz_t2_5 := Lib.hid hown.rd
            have hsY13 := hb.size
            clear hown hb
            go_simp
            refine hK.out _ _ (⟨LD.box_range HzaK_5.out, LD.box_range HzaH_5.out⟩) (fun _ => ?_)
            clear hK K
            refine wpAnyH_ready (rs := [6]) (by kernel_rfl) (by simp) ?_
            refine AllReadyH.cons rfl (fun K hK => ?_) ?_
            · refine RGS.free rfl ?_
              try simp only [List.getElem_toArray, List.getElem_cons_zero, List.getElem_cons_succ]
              go_simp
              go_at_call 14
              refine (HS.out A__t0 l0 c__t0 [(.slice A__t1_0 n__t1_0 c__t1_0), (.int .i64 y1.need)] [(.int .i64 y2.zone), (.int .i64 y2.epoch), (.int .i64 y2.kind), (.int .i64 y2.time), (.int .i64 y2.until_), (.int .i64 y2.count), (.int .i64 y2.root), (.int .i64 y2.prev), (.slice A__t2_8 n__t2_8 c__t2_8), (.int .i64 y2.keys.need), (.slice A__t2_10 n__t2_10 c__t2_10), (.int .i64 y2.heirs.need), (.int .i64 y2.wait), (.slice A__t2_13 n__t2_13 c__t2_13), (.int .i64 y2.judge.need), (.bool y2.frozen)] _ hcap_t0 Hz_t0_5.out Hz_t1_5.out Hz_t2_5.out).mono ?_
              rintro e Y14 ⟨cs9, rfl, hown, hb⟩
              obtain ⟨A_w0_8, n_w0_8, c_w0_8, A_w0_10, n_w0_10, c_w0_10, A_w0_13, n_w0_13, c_w0_13, A_w0_16, n_w0_16, c_w0_16, rfl⟩ := RSigned_shape hown.rd
              have HzaK_6 := Lib.hid (HzaK_5.out.below hb HzaK_5.out.lt)
              have HzaH_6 := Lib.hid (HzaH_5.out.below hb HzaH_5.out.lt)
              have HzB_6 := Lib.hid (HzB_5.out.trans (hb.mono HzB_5.out.size))
              have Hz_t0_6 := Lib.hid ((Hz_t0_5.out.below hb (Nat.le_refl _)).more hb.size)
              have HzG_6 := Lib.hid (HzG_5.out.below hb HzG_5.out.lt)
              have Hz_t1_6 := Lib.hid (rgUp Hz_t1_5.out hb)
              have Hz_t2_6 := Lib.hid (rgUp Hz_t2_5.out hb)
              have HzR_6 := Lib.hid (show OwnI RSigned Y14 (Y13.heap.size) (Y14.heap.size) [(.int .i64 r0.head.zone), (.int .i64 r0.head.epoch), (.int .i64 r0.head.kind), (.int .i64 r0.head.time), (.int .i64 r0.head.until_), (.int .i64 r0.head.count), (.int .i64 r0.head.root), (.int .i64 r0.head.prev), (.slice A_w0_8 n_w0_8 c_w0_8), (.int .i64 r0.head.keys.need), (.slice A_w0_10 n_w0_10 c_w0_10), (.int .i64 r0.head.heirs.need), (.int .i64 r0.head.wait), (.slice A_w0_13 n_w0_13 c_w0_13), (.int .i64 r0.head.judge.need), (.bool r0.head.frozen), (.slice A_w0_16 n_w0_16 c_w0_16)] r0 ∧ (Y14.heap.size) ≤ Y14.heap.size from ⟨hown, Nat.le_refl _⟩)
              have hdis : Y1.heap.size < Y13.heap.size ∨ Y14.heap.size ≤ Y1.heap.size := .inl (by omega)
              have hsY14 := hb.size
              clear hown hb
              go_simp
              refine hK.out _ _ (⟨LD.box_range HzaK_6.out, LD.box_range HzaH_6.out⟩) (fun _ => ?_)
              clear hK K
              refine wpAnyH_ready (rs := [8]) (by kernel_rfl) (by simp) ?_
              refine AllReadyH.cons rfl (fun K hK => ?_) ?_
              · refine RGS.free rfl ?_
                try simp only [List.getElem_toArray, List.getElem_cons_zero, List.getElem_cons_succ]
                obtain ⟨VF, hVF⟩ : ∃ u9, puts Y14 (Y1.heap.size) 0 [(.int .i64 r0.head.zone), (.int .i64 r0.head.epoch), (.int .i64 r0.head.kind), (.int .i64 r0.head.time), (.int .i64 r0.head.until_), (.int .i64 r0.head.count), (.int .i64 r0.head.root), (.int .i64 r0.head.prev), (.slice A_w0_8 n_w0_8 c_w0_8), (.int .i64 r0.head.keys.need), (.slice A_w0_10 n_w0_10 c_w0_10), (.int .i64 r0.head.heirs.need), (.int .i64 r0.head.wait), (.slice A_w0_13 n_w0_13 c_w0_13), (.int .i64 r0.head.judge.need), (.bool r0.head.frozen), (.slice A_w0_16 n_w0_16 c_w0_16)] = u9 := ⟨_, rfl⟩
                have HbF := Lib.hid (pt_bel hVF HzB_6.out (show W_2.heap.size ≤ Y1.heap.size by omega))
                have HgF := Lib.hid (show Box VF (Y1.heap.size) [(.int .i64 r0.head.zone), (.int .i64 r0.head.epoch), (.int .i64 r0.head.kind), (.int .i64 r0.head.time), (.int .i64 r0.head.until_), (.int .i64 r0.head.count), (.int .i64 r0.head.root), (.int .i64 r0.head.prev), (.slice A_w0_8 n_w0_8 c_w0_8), (.int .i64 r0.head.keys.need), (.slice A_w0_10 n_w0_10 c_w0_10), (.int .i64 r0.head.heirs.need), (.int .i64 r0.head.wait), (.slice A_w0_13 n_w0_13 c_w0_13), (.int .i64 r0.head.judge.need), (.bool r0.head.frozen), (.slice A_w0_16 n_w0_16 c_w0_16)] from (show Box VF (Y1.heap.size) ([] ++ [(.int .i64 r0.head.zone), (.int .i64 r0.head.epoch), (.int .i64 r0.head.kind), (.int .i64 r0.head.time), (.int .i64 r0.head.until_), (.int .i64 r0.head.count), (.int .i64 r0.head.root), (.int .i64 r0.head.prev), (.slice A_w0_8 n_w0_8 c_w0_8), (.int .i64 r0.head.keys.need), (.slice A_w0_10 n_w0_10 c_w0_10), (.int .i64 r0.head.heirs.need), (.int .i64 r0.head.wait), (.slice A_w0_13 n_w0_13 c_w0_13), (.int .i64 r0.head.judge.need), (.bool r0.head.frozen), (.slice A_w0_16 n_w0_16 c_w0_16)] ++ []) from pt_mid hVF (show Box Y14 (Y1.heap.size) ([] ++ [.int .i64 0, .int .i64 0, .int .i64 0, .int .i64 0, .int .i64 0, .int .i64 0, .int .i64 0, .int .i64 0, .slice none 0 0, .int .i64 0, .slice none 0 0, .int .i64 0, .int .i64 0, .slice none 0 0, .int .i64 0, .bool false, .slice none 0 0] ++ []) from HzG_6.out) rfl rfl))
                have HrF := Lib.hid (show RSigned.rd VF (Lt VF.heap.size) [(.int .i64 r0.head.zone), (.int .i64 r0.head.epoch), (.int .i64 r0.head.kind), (.int .i64 r0.head.time), (.int .i64 r0.head.until_), (.int .i64 r0.head.count), (.int .i64 r0.head.root), (.int .i64 r0.head.prev), (.slice A_w0_8 n_w0_8 c_w0_8), (.int .i64 r0.head.keys.need), (.slice A_w0_10 n_w0_10 c_w0_10), (.int .i64 r0.head.heirs.need), (.int .i64 r0.head.wait), (.slice A_w0_13 n_w0_13 c_w0_13), (.int .i64 r0.head.judge.need), (.bool r0.head.frozen), (.slice A_w0_16 n_w0_16 c_w0_16)] r0 from RSigned.more (OwnI.keep (w' := VF) HzR_6.out.1 fun i _ h1 h2 => by rw [← hVF]; exact puts_keep (by omega) _ _).rd fun i hi => Nat.lt_of_lt_of_le hi (Nat.le_trans HzR_6.out.2 (by rw [← hVF, puts_size]; exact Nat.le_refl _)))
                refine LD.op_stV LD.big_Signed _ _ rfl rfl rfl HzG_6.out rfl (by decide) rfl hVF ?_
                simp only [Act.put, List.getElem_toArray, List.getElem_cons_zero, List.getElem_cons_succ, List.setIfInBounds_toArray, List.set_cons_succ, List.set_cons_zero]
                have HzaK_7 := Lib.hid (pt_box hVF HzaK_6.out (show (W0.heap.size) ≠ (Y1.heap.size) by omega))
                have HzaH_7 := Lib.hid (pt_box hVF HzaH_6.out (show (W0.heap.size + 1) ≠ (Y1.heap.size) by omega))
                have HzB_7 := HbF
                refine hK.out _ _ (⟨LD.box_range HzaK_7.out, LD.box_range HzaH_7.out⟩) (fun _ => ?_)
                clear hK K
                refine wpAnyH_done (by kernel_rfl) ?_ _
                exact ⟨rfl, HJ9.out _ _ ⟨Y1.heap.size, A_w0_8, n_w0_8, c_w0_8, A_w0_10, n_w0_10, c_w0_10, A_w0_13, n_w0_13, c_w0_13, A_w0_16, n_w0_16, c_w0_16, .slice a0 l0 c0, .slice A__t0 l0 c__t0, .agg #[u1_0, u1_1], .agg #[(.slice A__t1_0 n__t1_0 c__t1_0), (.int .i64 y1.need)], .agg #[u2_0, u2_1, u2_2, u2_3, u2_4, u2_5, u2_6, u2_7, u2_8, u2_9, u2_10, u2_11, u2_12, u2_13, u2_14, u2_15], .agg #[(.int .i64 y2.zone), (.int .i64 y2.epoch), (.int .i64 y2.kind), (.int .i64 y2.time), (.int .i64 y2.until_), (.int .i64 y2.count), (.int .i64 y2.root), (.int .i64 y2.prev), (.slice A__t2_8 n__t2_8 c__t2_8), (.int .i64 y2.keys.need), (.slice A__t2_10 n__t2_10 c__t2_10), (.int .i64 y2.heirs.need), (.int .i64 y2.wait), (.slice A__t2_13 n__t2_13 c__t2_13), (.int .i64 y2.judge.need), (.bool y2.frozen)], .agg #[(.int .i64 r0.head.zone), (.int .i64 r0.head.epoch), (.int .i64 r0.head.kind), (.int .i64 r0.head.time), (.int .i64 r0.head.until_), (.int .i64 r0.head.count), (.int .i64 r0.head.root), (.int .i64 r0.head.prev), (.slice A_w0_8 n_w0_8 c_w0_8), (.int .i64 r0.head.keys.need), (.slice A_w0_10 n_w0_10 c_w0_10), (.int .i64 r0.head.heirs.need), (.int .i64 r0.head.wait), (.slice A_w0_13 n_w0_13 c_w0_13), (.int .i64 r0.head.judge.need), (.bool r0.head.frozen), (.slice A_w0_16 n_w0_16 c_w0_16)], (by first | (simp only [Act.put, List.setIfInBounds_toArray, List.set_cons_succ, List.set_cons_zero] <;> rfl) | rfl), HbF.out, HgF.out, by omega, HrF.out⟩⟩
              exact AllReadyH.nil
            exact AllReadyH.nil
          exact AllReadyH.nil
        exact AllReadyH.nil
      exact AllReadyH.nil
    refine AllReadyH.cons rfl (fun K hK => ?_) ?_
    · refine RGS.free rfl ?_
      try simp only [List.getElem_toArray, List.getElem_cons_zero, List.getElem_cons_succ]
      go_simp
      have hal : Below W_2.drew.heap.size W_2.drew (W_2.drew.alloc (.cells #[.int .i64 0, .int .i64 0, .int .i64 0, .int .i64 0, .int .i64 0, .int .i64 0, .int .i64 0, .int .i64 0, .slice none 0 0, .int .i64 0, .slice none 0 0, .int .i64 0, .int .i64 0, .slice none 0 0, .int .i64 0, .bool false, .slice none 0 0] 38)) := (Below.refl _ _).alloc (Nat.le_refl _) _
      have HzaK_2 := Lib.hid (HzaK_1.out.below hal HzaK_1.out.lt)
      have HzaH_2 := Lib.hid (HzaH_1.out.below hal HzaH_1.out.lt)
      have HzB_2 := Lib.hid (HzB_1.out.trans (hal.mono HzB_1.out.size))
      have HzG_2 := Lib.hid (show Box (W_2.drew.alloc (.cells #[.int .i64 0, .int .i64 0, .int .i64 0, .int .i64 0, .int .i64 0, .int .i64 0, .int .i64 0, .int .i64 0, .slice none 0 0, .int .i64 0, .slice none 0 0, .int .i64 0, .int .i64 0, .slice none 0 0, .int .i64 0, .bool false, .slice none 0 0] 38)) (W_2.drew.heap.size) [.int .i64 0, .int .i64 0, .int .i64 0, .int .i64 0, .int .i64 0, .int .i64 0, .int .i64 0, .int .i64 0, .slice none 0 0, .int .i64 0, .slice none 0 0, .int .i64 0, .int .i64 0, .slice none 0 0, .int .i64 0, .bool false, .slice none 0 0] from Box.new W_2.drew #[.int .i64 0, .int .i64 0, .int .i64 0, .int .i64 0, .int .i64 0, .int .i64 0, .int .i64 0, .int .i64 0, .slice none 0 0, .int .i64 0, .slice none 0 0, .int .i64 0, .int .i64 0, .slice none 0 0, .int .i64 0, .bool false, .slice none 0 0] 38)
      obtain ⟨Y15, hY15⟩ : ∃ u9, W_2.drew.alloc (.cells #[.int .i64 0, .int .i64 0, .int .i64 0, .int .i64 0, .int .i64 0, .int .i64 0, .int .i64 0, .int .i64 0, .slice none 0 0, .int .i64 0, .slice none 0 0, .int .i64 0, .int .i64 0, .slice none 0 0, .int .i64 0, .bool false, .slice none 0 0] 38) = u9 := ⟨_, rfl⟩
      rw [hY15] at HzaK_2 HzaH_2 HzB_2 HzG_2
      have HY15 := Lib.hid hY15
      clear hal
      first | rw [HY15.out] | rw [show (W_2.alloc (.cells #[.int .i64 0, .int .i64 0, .int .i64 0, .int .i64 0, .int .i64 0, .int .i64 0, .int .i64 0, .int .i64 0, .slice none 0 0, .int .i64 0, .slice none 0 0, .int .i64 0, .int .i64 0, .slice none 0 0, .int .i64 0, .bool false, .slice none 0 0] 38)).drew = Y15 from HY15.out]
      have hsY15 : W_2.drew.heap.size + 1 ≤ Y15.heap.size := by rw [← HY15.out]; simp
      refine hK.out _ _ (⟨LD.box_range HzaK_2.out, LD.box_range HzaH_2.out⟩) (fun _ => ?_)
      clear hK K
      refine wpAnyH_ready (rs := [1]) (by kernel_rfl) (by simp) ?_
      refine AllReadyH.cons rfl (fun K hK => ?_) ?_
      · refine RGS.free rfl ?_
        try simp only [List.getElem_toArray, List.getElem_cons_zero, List.getElem_cons_succ]
        go_simp
        go_at_call 15
        refine (toIntS_any a0 l0 c0 y0 _ (((HO_aHeld_2.out.more HA_2.out.size).below HzB_2.out (Nat.le_refl _)).more HzB_2.out.size) (by omega)).mono ?_
        rintro e Y16 ⟨A__t0, c__t0, rfl, hown, hb⟩
        have HzaK_3 := Lib.hid (HzaK_2.out.below hb HzaK_2.out.lt)
        have HzaH_3 := Lib.hid (HzaH_2.out.below hb HzaH_2.out.lt)
        have HzB_3 := Lib.hid (HzB_2.out.trans (hb.mono HzB_2.out.size))
        have HzG_3 := Lib.hid (HzG_2.out.below hb HzG_2.out.lt)
        have Hz_t0_3 := Lib.hid hown.rd
        have hcap_t0 := hown.cap.1
        have hsY16 := hb.size
        clear hown hb
        go_simp
        refine hK.out _ _ (⟨LD.box_range HzaK_3.out, LD.box_range HzaH_3.out⟩) (fun _ => ?_)
        clear hK K
        refine wpAnyH_ready (rs := [3]) (by kernel_rfl) (by simp) ?_
        refine AllReadyH.cons rfl (fun K hK => ?_) ?_
        · refine RGS.free rfl ?_
          try simp only [List.getElem_toArray, List.getElem_cons_zero, List.getElem_cons_succ]
          go_simp
          go_at_call 10
          refine (toKeys_any [u1_0, u1_1] y1 _ (rgUp (RKeys.more HO_aK_2.out fun i hi => Nat.lt_of_lt_of_le hi HA_2.out.size) HzB_3.out) (by omega)).mono ?_
          rintro e Y17 ⟨cs9, rfl, hown, hb⟩
          obtain ⟨A__t1_0, n__t1_0, c__t1_0, rfl⟩ := RKeys_shape hown.rd
          have HzaK_4 := Lib.hid (HzaK_3.out.below hb HzaK_3.out.lt)
          have HzaH_4 := Lib.hid (HzaH_3.out.below hb HzaH_3.out.lt)
          have HzB_4 := Lib.hid (HzB_3.out.trans (hb.mono HzB_3.out.size))
          have HzG_4 := Lib.hid (HzG_3.out.below hb HzG_3.out.lt)
          have Hz_t0_4 := Lib.hid ((Hz_t0_3.out.below hb (Nat.le_refl _)).more hb.size)
          have Hz_t1_4 := Lib.hid hown.rd
          have hsY17 := hb.size
          clear hown hb
          go_simp
          refine hK.out _ _ (⟨LD.box_range HzaK_4.out, LD.box_range HzaH_4.out⟩) (fun _ => ?_)
          clear hK K
          refine wpAnyH_ready (rs := [5]) (by kernel_rfl) (by simp) ?_
          refine AllReadyH.cons rfl (fun K hK => ?_) ?_
          · refine RGS.free rfl ?_
            try simp only [List.getElem_toArray, List.getElem_cons_zero, List.getElem_cons_succ]
            go_simp
            go_at_call 16
            refine (toHead_any [u2_0, u2_1, u2_2, u2_3, u2_4, u2_5, u2_6, u2_7, u2_8, u2_9, u2_10, u2_11, u2_12, u2_13, u2_14, u2_15] y2 _ (rgUp (RHead.more HO_aH_2.out fun i hi => Nat.lt_of_lt_of_le hi HA_2.out.size) HzB_4.out) (by omega)).mono ?_
            rintro e Y18 ⟨cs9, rfl, hown, hb⟩
            obtain ⟨A__t2_8, n__t2_8, c__t2_8, A__t2_10, n__t2_10, c__t2_10, A__t2_13, n__t2_13, c__t2_13, rfl⟩ := RHead_shape hown.rd
            have HzaK_5 := Lib.hid (HzaK_4.out.below hb HzaK_4.out.lt)
            have HzaH_5 := Lib.hid (HzaH_4.out.below hb HzaH_4.out.lt)
            have HzB_5 := Lib.hid (HzB_4.out.trans (hb.mono HzB_4.out.size))
            have HzG_5 := Lib.hid (HzG_4.out.below hb HzG_4.out.lt)
            have Hz_t0_5 := Lib.hid ((Hz_t0_4.out.below hb (Nat.le_refl _)).more hb.size)
            have Hz_t1_5 := Lib.hid (rgUp Hz_t1_4.out hb)
            have Hz_t2_5 := Lib.hid hown.rd
            have hsY18 := hb.size
            clear hown hb
            go_simp
            refine hK.out _ _ (⟨LD.box_range HzaK_5.out, LD.box_range HzaH_5.out⟩) (fun _ => ?_)
            clear hK K
            refine wpAnyH_ready (rs := [6]) (by kernel_rfl) (by simp) ?_
            refine AllReadyH.cons rfl (fun K hK => ?_) ?_
            · refine RGS.free rfl ?_
              try simp only [List.getElem_toArray, List.getElem_cons_zero, List.getElem_cons_succ]
              go_simp
              go_at_call 14
              refine (HS.out A__t0 l0 c__t0 [(.slice A__t1_0 n__t1_0 c__t1_0), (.int .i64 y1.need)] [(.int .i64 y2.zone), (.int .i64 y2.epoch), (.int .i64 y2.kind), (.int .i64 y2.time), (.int .i64 y2.until_), (.int .i64 y2.count), (.int .i64 y2.root), (.int .i64 y2.prev), (.slice A__t2_8 n__t2_8 c__t2_8), (.int .i64 y2.keys.need), (.slice A__t2_10 n__t2_10 c__t2_10), (.int .i64 y2.heirs.need), (.int .i64 y2.wait), (.slice A__t2_13 n__t2_13 c__t2_13), (.int .i64 y2.judge.need), (.bool y2.frozen)] _ hcap_t0 Hz_t0_5.out Hz_t1_5.out Hz_t2_5.out).mono ?_
              rintro e Y19 ⟨cs9, rfl, hown, hb⟩
              obtain ⟨A_w0_8, n_w0_8, c_w0_8, A_w0_10, n_w0_10, c_w0_10, A_w0_13, n_w0_13, c_w0_13, A_w0_16, n_w0_16, c_w0_16, rfl⟩ := RSigned_shape hown.rd
              have HzaK_6 := Lib.hid (HzaK_5.out.below hb HzaK_5.out.lt)
              have HzaH_6 := Lib.hid (HzaH_5.out.below hb HzaH_5.out.lt)
              have HzB_6 := Lib.hid (HzB_5.out.trans (hb.mono HzB_5.out.size))
              have HzG_6 := Lib.hid (HzG_5.out.below hb HzG_5.out.lt)
              have Hz_t0_6 := Lib.hid ((Hz_t0_5.out.below hb (Nat.le_refl _)).more hb.size)
              have Hz_t1_6 := Lib.hid (rgUp Hz_t1_5.out hb)
              have Hz_t2_6 := Lib.hid (rgUp Hz_t2_5.out hb)
              have HzR_6 := Lib.hid (show OwnI RSigned Y19 (Y18.heap.size) (Y19.heap.size) [(.int .i64 r0.head.zone), (.int .i64 r0.head.epoch), (.int .i64 r0.head.kind), (.int .i64 r0.head.time), (.int .i64 r0.head.until_), (.int .i64 r0.head.count), (.int .i64 r0.head.root), (.int .i64 r0.head.prev), (.slice A_w0_8 n_w0_8 c_w0_8), (.int .i64 r0.head.keys.need), (.slice A_w0_10 n_w0_10 c_w0_10), (.int .i64 r0.head.heirs.need), (.int .i64 r0.head.wait), (.slice A_w0_13 n_w0_13 c_w0_13), (.int .i64 r0.head.judge.need), (.bool r0.head.frozen), (.slice A_w0_16 n_w0_16 c_w0_16)] r0 ∧ (Y19.heap.size) ≤ Y19.heap.size from ⟨hown, Nat.le_refl _⟩)
              have hdis : W_2.drew.heap.size < Y18.heap.size ∨ Y19.heap.size ≤ W_2.drew.heap.size := .inl (by omega)
              have hsY19 := hb.size
              clear hown hb
              go_simp
              refine hK.out _ _ (⟨LD.box_range HzaK_6.out, LD.box_range HzaH_6.out⟩) (fun _ => ?_)
              clear hK K
              refine wpAnyH_ready (rs := [8]) (by kernel_rfl) (by simp) ?_
              refine AllReadyH.cons rfl (fun K hK => ?_) ?_
              · refine RGS.free rfl ?_
                try simp only [List.getElem_toArray, List.getElem_cons_zero, List.getElem_cons_succ]
                obtain ⟨VF, hVF⟩ : ∃ u9, puts Y19 (W_2.drew.heap.size) 0 [(.int .i64 r0.head.zone), (.int .i64 r0.head.epoch), (.int .i64 r0.head.kind), (.int .i64 r0.head.time), (.int .i64 r0.head.until_), (.int .i64 r0.head.count), (.int .i64 r0.head.root), (.int .i64 r0.head.prev), (.slice A_w0_8 n_w0_8 c_w0_8), (.int .i64 r0.head.keys.need), (.slice A_w0_10 n_w0_10 c_w0_10), (.int .i64 r0.head.heirs.need), (.int .i64 r0.head.wait), (.slice A_w0_13 n_w0_13 c_w0_13), (.int .i64 r0.head.judge.need), (.bool r0.head.frozen), (.slice A_w0_16 n_w0_16 c_w0_16)] = u9 := ⟨_, rfl⟩
                have HbF := Lib.hid (pt_bel hVF HzB_6.out (show W_2.heap.size ≤ W_2.drew.heap.size by omega))
                have HgF := Lib.hid (show Box VF (W_2.drew.heap.size) [(.int .i64 r0.head.zone), (.int .i64 r0.head.epoch), (.int .i64 r0.head.kind), (.int .i64 r0.head.time), (.int .i64 r0.head.until_), (.int .i64 r0.head.count), (.int .i64 r0.head.root), (.int .i64 r0.head.prev), (.slice A_w0_8 n_w0_8 c_w0_8), (.int .i64 r0.head.keys.need), (.slice A_w0_10 n_w0_10 c_w0_10), (.int .i64 r0.head.heirs.need), (.int .i64 r0.head.wait), (.slice A_w0_13 n_w0_13 c_w0_13), (.int .i64 r0.head.judge.need), (.bool r0.head.frozen), (.slice A_w0_16 n_w0_16 c_w0_16)] from (show Box VF (W_2.drew.heap.size) ([] ++ [(.int .i64 r0.head.zone), (.int .i64 r0.head.epoch), (.int .i64 r0.head.kind), (.int .i64 r0.head.time), (.int .i64 r0.head.until_), (.int .i64 r0.head.count), (.int .i64 r0.head.root), (.int .i64 r0.head.prev), (.slice A_w0_8 n_w0_8 c_w0_8), (.int .i64 r0.head.keys.need), (.slice A_w0_10 n_w0_10 c_w0_10), (.int .i64 r0.head.heirs.need), (.int .i64 r0.head.wait), (.slice A_w0_13 n_w0_13 c_w0_13), (.int .i64 r0.head.judge.need), (.bool r0.head.frozen), (.slice A_w0_16 n_w0_16 c_w0_16)] ++ []) from pt_mid hVF (show Box Y19 (W_2.drew.heap.size) ([] ++ [.int .i64 0, .int .i64 0, .int .i64 0, .int .i64 0, .int .i64 0, .int .i64 0, .int .i64 0, .int .i64 0, .slice none 0 0, .int .i64 0, .slice none 0 0, .int .i64 0, .int .i64 0, .slice none 0 0, .int .i64 0, .bool false, .slice none 0 0] ++ []) from HzG_6.out) rfl rfl))
                have HrF := Lib.hid (show RSigned.rd VF (Lt VF.heap.size) [(.int .i64 r0.head.zone), (.int .i64 r0.head.epoch), (.int .i64 r0.head.kind), (.int .i64 r0.head.time), (.int .i64 r0.head.until_), (.int .i64 r0.head.count), (.int .i64 r0.head.root), (.int .i64 r0.head.prev), (.slice A_w0_8 n_w0_8 c_w0_8), (.int .i64 r0.head.keys.need), (.slice A_w0_10 n_w0_10 c_w0_10), (.int .i64 r0.head.heirs.need), (.int .i64 r0.head.wait), (.slice A_w0_13 n_w0_13 c_w0_13), (.int .i64 r0.head.judge.need), (.bool r0.head.frozen), (.slice A_w0_16 n_w0_16 c_w0_16)] r0 from RSigned.more (OwnI.keep (w' := VF) HzR_6.out.1 fun i _ h1 h2 => by rw [← hVF]; exact puts_keep (by omega) _ _).rd fun i hi => Nat.lt_of_lt_of_le hi (Nat.le_trans HzR_6.out.2 (by rw [← hVF, puts_size]; exact Nat.le_refl _)))
                refine LD.op_stV LD.big_Signed _ _ rfl rfl rfl HzG_6.out rfl (by decide) rfl hVF ?_
                simp only [Act.put, List.getElem_toArray, List.getElem_cons_zero, List.getElem_cons_succ, List.setIfInBounds_toArray, List.set_cons_succ, List.set_cons_zero]
                have HzaK_7 := Lib.hid (pt_box hVF HzaK_6.out (show (W0.heap.size) ≠ (W_2.drew.heap.size) by omega))
                have HzaH_7 := Lib.hid (pt_box hVF HzaH_6.out (show (W0.heap.size + 1) ≠ (W_2.drew.heap.size) by omega))
                have HzB_7 := HbF
                refine hK.out _ _ (⟨LD.box_range HzaK_7.out, LD.box_range HzaH_7.out⟩) (fun _ => ?_)
                clear hK K
                refine wpAnyH_done (by kernel_rfl) ?_ _
                exact ⟨rfl, HJ9.out _ _ ⟨W_2.drew.heap.size, A_w0_8, n_w0_8, c_w0_8, A_w0_10, n_w0_10, c_w0_10, A_w0_13, n_w0_13, c_w0_13, A_w0_16, n_w0_16, c_w0_16, .slice a0 l0 c0, .slice A__t0 l0 c__t0, .agg #[u1_0, u1_1], .agg #[(.slice A__t1_0 n__t1_0 c__t1_0), (.int .i64 y1.need)], .agg #[u2_0, u2_1, u2_2, u2_3, u2_4, u2_5, u2_6, u2_7, u2_8, u2_9, u2_10, u2_11, u2_12, u2_13, u2_14, u2_15], .agg #[(.int .i64 y2.zone), (.int .i64 y2.epoch), (.int .i64 y2.kind), (.int .i64 y2.time), (.int .i64 y2.until_), (.int .i64 y2.count), (.int .i64 y2.root), (.int .i64 y2.prev), (.slice A__t2_8 n__t2_8 c__t2_8), (.int .i64 y2.keys.need), (.slice A__t2_10 n__t2_10 c__t2_10), (.int .i64 y2.heirs.need), (.int .i64 y2.wait), (.slice A__t2_13 n__t2_13 c__t2_13), (.int .i64 y2.judge.need), (.bool y2.frozen)], .agg #[(.int .i64 r0.head.zone), (.int .i64 r0.head.epoch), (.int .i64 r0.head.kind), (.int .i64 r0.head.time), (.int .i64 r0.head.until_), (.int .i64 r0.head.count), (.int .i64 r0.head.root), (.int .i64 r0.head.prev), (.slice A_w0_8 n_w0_8 c_w0_8), (.int .i64 r0.head.keys.need), (.slice A_w0_10 n_w0_10 c_w0_10), (.int .i64 r0.head.heirs.need), (.int .i64 r0.head.wait), (.slice A_w0_13 n_w0_13 c_w0_13), (.int .i64 r0.head.judge.need), (.bool r0.head.frozen), (.slice A_w0_16 n_w0_16 c_w0_16)], (by first | (simp only [Act.put, List.setIfInBounds_toArray, List.set_cons_succ, List.set_cons_zero] <;> rfl) | rfl), HbF.out, HgF.out, by omega, HrF.out⟩⟩
              exact AllReadyH.nil
            exact AllReadyH.nil
          exact AllReadyH.nil
        exact AllReadyH.nil
      exact AllReadyH.nil
    exact AllReadyH.nil
end Go.Proofs.Ythhmhcmlbpdlbaa.W14S
