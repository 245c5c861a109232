/- The walks of the exact laws of chapter 7: each law returns true, and writes into nothing that was there. -/
import Derived.Test.YthhibhnclbnhlaaC07U
import Derived.Test.YthhibhnclbnhlaaT06
import Derived.Test.YthhibhnclbnhlaaT07
import Derived.Deep.RegionHeld3
namespace Go.Proofs.Ythhibhnclbnhlaa.W07
open Go.RowKit Mem MemS Rep Flat R06 R07 T01 T06 T07 C07U
set_option linter.unusedVariables false
set_option maxRecDepth 100000
set_option maxHeartbeats 400000
theorem FnExactTagOf_walk (W0 : World) (v0 : Int) (hv0 : (Lit.int .i64 v0).wf = true) (a1 : Option Addr) (l1 c1 : Nat) (z1 : List Int) (w1 : SL.IsRow .i64 W0 a1 l1 c1 z1) :
    Calls Try.prog 5 #[.int .i64 v0, .slice a1 l1 c1] W0 fun e w' => e = .returned (.bool true) ∧ Below W0.heap.size W0 w' := by
  have hV0 : -9223372036854775808 ≤ v0 ∧ v0 ≤ 9223372036854775807 := by simpa [Lit.wf, IntKind.min, IntKind.max, IntKind.signed, IntKind.bits] using hv0
  clear hv0
  have hR1 := rd_of_row w1
  have hC1 := row_cap w1
  have hL1 := hR1.len
  generalize z1.take l1 = y1 at hR1 hL1
  clear w1
  by_cases hg1 : 1048576 < l1
  · have hg : 1048576 < (l1 : Int) := by omega
    clear hR1 hL1 hC1
    go_enter Try.func5, Try.ntmps5
    go_wp2
    go_ret
    exact ⟨rfl, (Below.refl _ _)⟩
  have HA_0 := Lib.hid (show Below W0.heap.size W0 W0 from Below.refl _ _)
  have HO_aMessage_0 := Lib.hid (hR1.below HA_0.out (Nat.le_refl _))
  have HC1 := Lib.hid hC1
  clear hR1
  go_enter Try.func5, Try.ntmps5
  obtain ⟨r0, hS, hI⟩ := both_TagOf v0 y1 hV0 (by omega)
  have HS := Lib.hid hS
  have HI := Lib.hid hI
  clear hS hI
  go_wp2_with fail
  refine (toIntS_any a1 l1 c1 y1 _ (HO_aMessage_0.out.more HA_0.out.size) (by omega)).mono ?_
  rintro e W_1 ⟨A__t0, c__t0, rfl, hown, hb⟩
  have HO__t0_1 := Lib.hid hown
  have HB_0 := Lib.hid hb
  have HZ_0 := Lib.hid HB_0.out.size
  have HA_1 := Lib.hid (HA_0.out.trans (HB_0.out.mono HA_0.out.size))
  have HO_aMessage_1 := Lib.hid (HO_aMessage_0.out.below HB_0.out HA_0.out.size)
  clear hb hown
  go_wp2_with fail
  refine (HS.out A__t0 l1 c__t0 _ (HO__t0_1.out.cap.1) (HO__t0_1.out.rd.more (Nat.le_refl _))).mono ?_
  rintro e W_2 ⟨rfl, hb⟩
  have HB_1 := Lib.hid hb
  have HZ_1 := Lib.hid HB_1.out.size
  have HA_2 := Lib.hid (HA_1.out.trans (HB_1.out.mono HA_1.out.size))
  have HO_aMessage_2 := Lib.hid (HO_aMessage_1.out.below HB_1.out HA_1.out.size)
  clear hb
  go_wp2_with fail
  refine (toIntS_any a1 l1 c1 y1 _ (HO_aMessage_2.out.more HA_2.out.size) (by omega)).mono ?_
  rintro e W_3 ⟨A_x1, c_x1, rfl, hown, hb⟩
  have HO_x1_3 := Lib.hid hown
  have HB_2 := Lib.hid hb
  have HZ_2 := Lib.hid HB_2.out.size
  have HA_3 := Lib.hid (HA_2.out.trans (HB_2.out.mono HA_2.out.size))
  have HO_aMessage_3 := Lib.hid (HO_aMessage_2.out.below HB_2.out HA_2.out.size)
  clear hb hown
  go_wp2_with fail
  refine (HI.out A_x1 l1 c_x1 _ (HO_x1_3.out.cap.1) (HO_x1_3.out.rd.more (Nat.le_refl _))).mono ?_
  rintro e W_4 ⟨rfl, hb⟩
  have HB_3 := Lib.hid hb
  have HZ_3 := Lib.hid HB_3.out.size
  have HA_4 := Lib.hid (HA_3.out.trans (HB_3.out.mono HA_3.out.size))
  have HO_aMessage_4 := Lib.hid (HO_aMessage_3.out.below HB_3.out HA_3.out.size)
  have HO_x1_4 := Lib.hid (HO_x1_3.out.below HB_3.out (Nat.le_refl _))
  clear hb
  go_wp2_with fail
  refine (toIntS_any a1 l1 c1 y1 _ (HO_aMessage_4.out.more HA_4.out.size) (by omega)).mono ?_
  rintro e W_5 ⟨A__t1, c__t1, rfl, hown, hb⟩
  have HO__t1_5 := Lib.hid hown
  have HB_4 := Lib.hid hb
  have HZ_4 := Lib.hid HB_4.out.size
  have HA_5 := Lib.hid (HA_4.out.trans (HB_4.out.mono HA_4.out.size))
  have HO_x1_5 := Lib.hid (HO_x1_4.out.below HB_4.out HZ_3.out)
  clear hb hown
  go_wp2_with fail
  refine (eqIntS_same _ _ A_x1 A__t1 l1 c_x1 c__t1 y1 _ (HO_x1_5.out.rd.more (Nat.le_trans HZ_3.out HZ_4.out)) (HO__t1_5.out.rd.more (Nat.le_refl _)) (by omega)).mono ?_
  rintro e W_6 ⟨rfl, hb⟩
  have HB_5 := Lib.hid hb
  have HZ_5 := Lib.hid (HB_5.out.below 0).size
  have HA_6 := Lib.hid (HA_5.out.trans (HB_5.out.below _))
  clear hb
  go_wp2
  go_ret
  exact ⟨rfl, HA_6.out⟩
theorem FnExactSignBy_walk (W0 : World) (a0 : Option Addr) (l0 c0 : Nat) (z0 : List Int) (w0 : SL.IsRow .i64 W0 a0 l0 c0 z0) (u1_0 u1_1 : Value) (y1 : Keys) (w1 : RKeys.rd W0 (Lt W0.heap.size) [u1_0, u1_1] y1) (a2 : Option Addr) (l2 c2 : Nat) (z2 : List Int) (w2 : SL.IsRow .i64 W0 a2 l2 c2 z2) :
    Calls Try.prog 6 #[.slice a0 l0 c0, .agg #[u1_0, u1_1], .slice a2 l2 c2] W0 fun e w' => e = .returned (.bool true) ∧ Below W0.heap.size W0 w' := by
  have hR0 := rd_of_row w0
  have hC0 := row_cap w0
  have hL0 := hR0.len
  generalize z0.take l0 = y0 at hR0 hL0
  clear w0
  have hR2 := rd_of_row w2
  have hC2 := row_cap w2
  have hL2 := hR2.len
  generalize z2.take l2 = y2 at hR2 hL2
  clear w2
  by_cases hg0 : 1048576 < l0
  · have hg : 1048576 < (l0 : Int) := by omega
    clear hR0 hL0 hC0
    clear w1
    clear hR2 hL2 hC2
    go_enter Try.func6, Try.ntmps6
    go_wp2
    go_ret
    exact ⟨rfl, ((Below.refl _ _).alloc (by first | (simp; done) | (simp; omega)) _)⟩
  by_cases hg2 : 1048576 < l2
  · have hg : 1048576 < (l2 : Int) := by omega
    clear hR0 hL0 hC0
    clear w1
    clear hR2 hL2 hC2
    go_enter Try.func6, Try.ntmps6
    go_wp2
    go_ret
    exact ⟨rfl, ((Below.refl _ _).alloc (by first | (simp; done) | (simp; omega)) _)⟩
  have HA_0 := Lib.hid (show Below W0.heap.size W0 (W0.alloc (.cells #[u1_0, u1_1] 53)) from (Below.refl _ _).alloc (by first | (simp; done) | (simp; omega)) _)
  have HO_aHeld_0 := Lib.hid (hR0.below HA_0.out (Nat.le_refl _))
  have HC0 := Lib.hid hC0
  have HO_aK_0 := Lib.hid (RKeys.keep w1 fun i hi => HA_0.out.block i hi)
  have HX_aK_0 := Lib.hid (show Box (W0.alloc (.cells #[u1_0, u1_1] 53)) (W0.heap.size) [u1_0, u1_1] from (show Box (W0.alloc (.cells #[u1_0, u1_1] 53)) (W0.heap.size) [u1_0, u1_1] by have h := Box.new W0 #[u1_0, u1_1] 53; simpa using h))
  have HO_aMessage_0 := Lib.hid (hR2.below HA_0.out (Nat.le_refl _))
  have HC2 := Lib.hid hC2
  clear hR0
  clear w1
  clear hR2
  go_enter Try.func6, Try.ntmps6
  have x_aK_0 := HX_aK_0.out.cell (j := 0) rfl
  have x_aK_1 := HX_aK_0.out.cell (j := 1) rfl
  by_cases hn_aK : 1048576 < (totKeys y1 : Int)
  · have HN := Lib.hid hn_aK
    clear hn_aK
    go_wp2_with fail
    refine (szKeys_any [u1_0, u1_1] y1 1048576 _ (RKeys.more HO_aK_0.out fun i hi => Nat.lt_of_lt_of_le hi HA_0.out.size) (by omega) (by omega)).mono ?_
    rw [if_pos HN.out]
    rintro e W_1 ⟨rfl, hb⟩
    have HAe := Lib.hid (HA_0.out.trans (hb.mono HA_0.out.size))
    clear hb
    go_wp2
    go_ret
    exact ⟨rfl, HAe.out⟩
  have hY1 : totKeys y1 ≤ 1048576 := by omega
  have HN_aK := Lib.hid hn_aK
  clear hn_aK
  go_wp2_with fail
  refine (szKeys_any [u1_0, u1_1] y1 1048576 _ (RKeys.more HO_aK_0.out fun i hi => Nat.lt_of_lt_of_le hi HA_0.out.size) (by omega) (by omega)).mono ?_
  rw [if_neg (show ¬ 1048576 < (totKeys y1 : Int) by have := HN_aK.out; omega)]
  rintro e W_1 ⟨rfl, hb⟩
  obtain ⟨qq0, hqq0⟩ : ∃ x, x = 1048576 - (totKeys y1 : Int) := ⟨_, rfl⟩
  rw [← hqq0]
  have hqq0l : 0 ≤ qq0 ∧ qq0 ≤ 1048576 := by have := HN_aK.out; omega
  have hqq0n : ¬ qq0 < 0 := by omega
  clear hqq0
  have HB_0 := Lib.hid hb
  have HZ_0 := Lib.hid HB_0.out.size
  have HA_1 := Lib.hid (HA_0.out.trans (HB_0.out.mono HA_0.out.size))
  have HO_aHeld_1 := Lib.hid (HO_aHeld_0.out.below HB_0.out HA_0.out.size)
  have HO_aK_1 := Lib.hid (RKeys.keep HO_aK_0.out fun i hi => HB_0.out.block i (Nat.lt_of_lt_of_le hi HA_0.out.size))
  have HO_aMessage_1 := Lib.hid (HO_aMessage_0.out.below HB_0.out HA_0.out.size)
  have HX_aK_1 := Lib.hid (HX_aK_0.out.below HB_0.out HX_aK_0.out.lt)
  clear hb
  clear x_aK_0 x_aK_1
  have x_aK_0 := HX_aK_1.out.cell (j := 0) rfl
  have x_aK_1 := HX_aK_1.out.cell (j := 1) rfl
  have HD_aHeld := Lib.hid ((HO_aHeld_1.out.more HA_1.out.size).same (w' := W_1.drew) ⟨rfl, rfl, rfl, rfl⟩)
  obtain ⟨r0, hlen0, hS, hI⟩ := both_SignBy y0 y1 y2 (by omega) hY1 (by omega)
  have HS := Lib.hid hS
  have HI := Lib.hid hI
  clear hS hI
  have hcy1 := cntKeys_le y1
  go_wp2_with fail
  go_region_held3 (fun w' => w'.cell? ⟨W0.heap.size, 0, none⟩ = some u1_0 ∧ w'.cell? ⟨W0.heap.size, 1, none⟩ = some u1_1) (first | exact ⟨x_aK_0, x_aK_1⟩ | exact ⟨x_aK_0_2, x_aK_1_2⟩ | exact ⟨x_aK_0_3, x_aK_1_3⟩ | exact ⟨x_aK_0_4, x_aK_1_4⟩ | exact ⟨x_aK_0_5, x_aK_1_5⟩) ((first
    | (go_at_call 33; (with_reducible refine (toIntS_any a0 l0 c0 y0 _ HD_aHeld.out (by omega)).mono ?_); rintro e W_2 ⟨A__t0, c__t0, rfl, hown, hb⟩; have HO__t0_2 := Lib.hid hown; have HB_1 := Lib.hid (below_drew hb); have HZ_1 := Lib.hid HB_1.out.size; have HA_2 := Lib.hid (HA_1.out.trans (HB_1.out.mono HA_1.out.size)); have HO_aHeld_2 := Lib.hid (HO_aHeld_1.out.below HB_1.out HA_1.out.size); have HO_aK_2 := Lib.hid (RKeys.keep HO_aK_1.out fun i hi => HB_1.out.block i (Nat.lt_of_lt_of_le hi HA_1.out.size)); have HO_aMessage_2 := Lib.hid (HO_aMessage_1.out.below HB_1.out HA_1.out.size); have HX_aK_2 := Lib.hid (HX_aK_1.out.below HB_1.out HX_aK_1.out.lt); clear hb hown; have x_aK_0_2 := HX_aK_2.out.cell (j := 0) rfl; have x_aK_1_2 := HX_aK_2.out.cell (j := 1) rfl)
    | (go_at_call 37; (with_reducible refine (toKeys_any [u1_0, u1_1] y1 _ (RKeys.more HO_aK_2.out fun i hi => Nat.lt_of_lt_of_le hi HA_2.out.size) (by omega)).mono ?_); rintro e W_3 ⟨cs__t1, rfl, hown, hb⟩; obtain ⟨A__t1_0, n__t1_0, c__t1_0, rfl⟩ := RKeys_shape hown.rd; have HO__t1_3 := Lib.hid (hown); have HB_2 := Lib.hid hb; have HZ_2 := Lib.hid HB_2.out.size; have HA_3 := Lib.hid (HA_2.out.trans (HB_2.out.mono HA_2.out.size)); have HO_aHeld_3 := Lib.hid (HO_aHeld_2.out.below HB_2.out HA_2.out.size); have HO_aK_3 := Lib.hid (RKeys.keep HO_aK_2.out fun i hi => HB_2.out.block i (Nat.lt_of_lt_of_le hi HA_2.out.size)); have HO_aMessage_3 := Lib.hid (HO_aMessage_2.out.below HB_2.out HA_2.out.size); have HO__t0_3 := Lib.hid (HO__t0_2.out.below HB_2.out (Nat.le_refl _)); have HX_aK_3 := Lib.hid (HX_aK_2.out.below HB_2.out HX_aK_2.out.lt); clear hb hown; have x_aK_0_3 := HX_aK_3.out.cell (j := 0) rfl; have x_aK_1_3 := HX_aK_3.out.cell (j := 1) rfl)
    | (go_at_call 33; (with_reducible refine (toIntS_any a2 l2 c2 y2 _ (HO_aMessage_3.out.more HA_3.out.size) (by omega)).mono ?_); rintro e W_4 ⟨A__t2, c__t2, rfl, hown, hb⟩; have HO__t2_4 := Lib.hid hown; have HB_3 := Lib.hid hb; have HZ_3 := Lib.hid HB_3.out.size; have HA_4 := Lib.hid (HA_3.out.trans (HB_3.out.mono HA_3.out.size)); have HO_aHeld_4 := Lib.hid (HO_aHeld_3.out.below HB_3.out HA_3.out.size); have HO_aK_4 := Lib.hid (RKeys.keep HO_aK_3.out fun i hi => HB_3.out.block i (Nat.lt_of_lt_of_le hi HA_3.out.size)); have HO_aMessage_4 := Lib.hid (HO_aMessage_3.out.below HB_3.out HA_3.out.size); have HO__t0_4 := Lib.hid (HO__t0_3.out.below HB_3.out HZ_2.out); have HO__t1_4 := Lib.hid (HO__t1_3.out.below HB_3.out (Nat.le_refl _)); have HX_aK_4 := Lib.hid (HX_aK_3.out.below HB_3.out HX_aK_3.out.lt); clear hb hown; have x_aK_0_4 := HX_aK_4.out.cell (j := 0) rfl; have x_aK_1_4 := HX_aK_4.out.cell (j := 1) rfl)
    | (go_at_call 36; (with_reducible refine (HS.out A__t0 l0 c__t0 [(.slice A__t1_0 n__t1_0 c__t1_0), (.int .i64 y1.need)] A__t2 l2 c__t2 _ (HO__t0_4.out.cap.1) (HO__t0_4.out.rd.more (Nat.le_trans HZ_2.out HZ_3.out)) (RKeys.more HO__t1_4.out.rd fun i hi => Nat.lt_of_lt_of_le hi HZ_3.out) (HO__t2_4.out.cap.1) (HO__t2_4.out.rd.more (Nat.le_refl _))).mono ?_); rintro e W_5 ⟨A_w0, c_w0, rfl, ho0, hb⟩; have HO_w0_5 := Lib.hid ho0; have HB_4 := Lib.hid hb; have HZ_4 := Lib.hid HB_4.out.size; have HA_5 := Lib.hid (HA_4.out.trans (HB_4.out.mono HA_4.out.size)); have HO_aHeld_5 := Lib.hid (HO_aHeld_4.out.below HB_4.out HA_4.out.size); have HO_aK_5 := Lib.hid (RKeys.keep HO_aK_4.out fun i hi => HB_4.out.block i (Nat.lt_of_lt_of_le hi HA_4.out.size)); have HO_aMessage_5 := Lib.hid (HO_aMessage_4.out.below HB_4.out HA_4.out.size); have HX_aK_5 := Lib.hid (HX_aK_4.out.below HB_4.out HX_aK_4.out.lt); clear hb ho0; have x_aK_0_5 := HX_aK_5.out.cell (j := 0) rfl; have x_aK_1_5 := HX_aK_5.out.cell (j := 1) rfl)))
  clear x_aK_0 x_aK_1
  go_wp2_with fail
  refine (toIntS_any a0 l0 c0 y0 _ (HO_aHeld_5.out.more HA_5.out.size) (by omega)).mono ?_
  rintro e W_6 ⟨A_x0, c_x0, rfl, hown, hb⟩
  have HO_x0_6 := Lib.hid hown
  have HB_5 := Lib.hid hb
  have HZ_5 := Lib.hid HB_5.out.size
  have HA_6 := Lib.hid (HA_5.out.trans (HB_5.out.mono HA_5.out.size))
  have HO_aHeld_6 := Lib.hid (HO_aHeld_5.out.below HB_5.out HA_5.out.size)
  have HO_aK_6 := Lib.hid (RKeys.keep HO_aK_5.out fun i hi => HB_5.out.block i (Nat.lt_of_lt_of_le hi HA_5.out.size))
  have HO_aMessage_6 := Lib.hid (HO_aMessage_5.out.below HB_5.out HA_5.out.size)
  have HO_w0_6 := Lib.hid (HO_w0_5.out.below HB_5.out (Nat.le_refl _))
  have HX_aK_6 := Lib.hid (HX_aK_5.out.below HB_5.out HX_aK_5.out.lt)
  clear hb hown
  have x_aK_0 := HX_aK_6.out.cell (j := 0) rfl
  have x_aK_1 := HX_aK_6.out.cell (j := 1) rfl
  go_wp2_with fail
  refine (toKeys_any [u1_0, u1_1] y1 _ (RKeys.more HO_aK_6.out fun i hi => Nat.lt_of_lt_of_le hi HA_6.out.size) (by omega)).mono ?_
  rintro e W_7 ⟨cs_x1, rfl, hown, hb⟩
  obtain ⟨A_x1_0, n_x1_0, c_x1_0, rfl⟩ := RKeys_shape hown.rd
  have HO_x1_7 := Lib.hid (hown.alloc (.cells #[(.slice A_x1_0 n_x1_0 c_x1_0), (.int .i64 y1.need)] 26))
  have HT_7 := Lib.hid (show W_7.heap.size ≤ (W_7.alloc (.cells #[(.slice A_x1_0 n_x1_0 c_x1_0), (.int .i64 y1.need)] 26)).heap.size by simp)
  have hb6 := hb.alloc hb.size (.cells #[(.slice A_x1_0 n_x1_0 c_x1_0), (.int .i64 y1.need)] 26)
  have HB_6 := Lib.hid hb6
  have HQ_7 := Lib.hid hb.size
  have HZ_6 := Lib.hid HB_6.out.size
  have HA_7 := Lib.hid (HA_6.out.trans (HB_6.out.mono HA_6.out.size))
  have HO_aHeld_7 := Lib.hid (HO_aHeld_6.out.below HB_6.out HA_6.out.size)
  have HO_aK_7 := Lib.hid (RKeys.keep HO_aK_6.out fun i hi => HB_6.out.block i (Nat.lt_of_lt_of_le hi HA_6.out.size))
  have HO_aMessage_7 := Lib.hid (HO_aMessage_6.out.below HB_6.out HA_6.out.size)
  have HO_w0_7 := Lib.hid (HO_w0_6.out.below HB_6.out HZ_5.out)
  have HO_x0_7 := Lib.hid (HO_x0_6.out.below HB_6.out (Nat.le_refl _))
  have HX_aK_7 := Lib.hid (HX_aK_6.out.below HB_6.out HX_aK_6.out.lt)
  clear hb hown
  have HX_x1_7 := Lib.hid (show Box (W_7.alloc (.cells #[(.slice A_x1_0 n_x1_0 c_x1_0), (.int .i64 y1.need)] 26)) W_7.heap.size [(.slice A_x1_0 n_x1_0 c_x1_0), (.int .i64 y1.need)] from Box.new W_7 #[(.slice A_x1_0 n_x1_0 c_x1_0), (.int .i64 y1.need)] 26)
  clear x_aK_0 x_aK_1
  go_wp2_with fail
  refine (toIntS_any a2 l2 c2 y2 _ (HO_aMessage_7.out.more HA_7.out.size) (by omega)).mono ?_
  rintro e W_8 ⟨A_x2, c_x2, rfl, hown, hb⟩
  have HO_x2_8 := Lib.hid hown
  have HB_7 := Lib.hid hb
  have HZ_7 := Lib.hid HB_7.out.size
  have HA_8 := Lib.hid (HA_7.out.trans (HB_7.out.mono HA_7.out.size))
  have HO_aHeld_8 := Lib.hid (HO_aHeld_7.out.below HB_7.out HA_7.out.size)
  have HO_aK_8 := Lib.hid (RKeys.keep HO_aK_7.out fun i hi => HB_7.out.block i (Nat.lt_of_lt_of_le hi HA_7.out.size))
  have HO_aMessage_8 := Lib.hid (HO_aMessage_7.out.below HB_7.out HA_7.out.size)
  have HO_w0_8 := Lib.hid (HO_w0_7.out.below HB_7.out (Nat.le_trans HZ_5.out HZ_6.out))
  have HO_x0_8 := Lib.hid (HO_x0_7.out.below HB_7.out HZ_6.out)
  have HO_x1_8 := Lib.hid (HO_x1_7.out.below HB_7.out (Nat.le_trans HT_7.out (Nat.le_refl _)))
  have HX_aK_8 := Lib.hid (HX_aK_7.out.below HB_7.out HX_aK_7.out.lt)
  have HX_x1_8 := Lib.hid (HX_x1_7.out.below HB_7.out HX_x1_7.out.lt)
  clear hb hown
  have x_x1_0 := HX_x1_8.out.cell (j := 0) rfl
  have x_x1_1 := HX_x1_8.out.cell (j := 1) rfl
  go_wp2_with fail
  refine (HI.out A_x0 l0 c_x0 [(.slice A_x1_0 n_x1_0 c_x1_0), (.int .i64 y1.need)] A_x2 l2 c_x2 _ (HO_x0_8.out.cap.1) (HO_x0_8.out.rd.more (Nat.le_trans HZ_6.out HZ_7.out)) (RKeys.more HO_x1_8.out.rd fun i hi => Nat.lt_of_lt_of_le hi (Nat.le_trans HT_7.out HZ_7.out)) (HO_x2_8.out.cap.1) (HO_x2_8.out.rd.more (Nat.le_refl _))).mono ?_
  rintro e W_9 ⟨A_g0, c_g0, rfl, ho0, hb⟩
  have HO_g0_9 := Lib.hid ho0
  have HB_8 := Lib.hid hb
  have HZ_8 := Lib.hid HB_8.out.size
  have HA_9 := Lib.hid (HA_8.out.trans (HB_8.out.mono HA_8.out.size))
  have HO_aHeld_9 := Lib.hid (HO_aHeld_8.out.below HB_8.out HA_8.out.size)
  have HO_aK_9 := Lib.hid (RKeys.keep HO_aK_8.out fun i hi => HB_8.out.block i (Nat.lt_of_lt_of_le hi HA_8.out.size))
  have HO_aMessage_9 := Lib.hid (HO_aMessage_8.out.below HB_8.out HA_8.out.size)
  have HO_w0_9 := Lib.hid (HO_w0_8.out.below HB_8.out (Nat.le_trans (Nat.le_trans HZ_5.out HZ_6.out) HZ_7.out))
  have HO_x0_9 := Lib.hid (HO_x0_8.out.below HB_8.out (Nat.le_trans HZ_6.out HZ_7.out))
  have HO_x1_9 := Lib.hid (HO_x1_8.out.below HB_8.out (Nat.le_trans HT_7.out HZ_7.out))
  have HO_x2_9 := Lib.hid (HO_x2_8.out.below HB_8.out (Nat.le_refl _))
  have HX_aK_9 := Lib.hid (HX_aK_8.out.below HB_8.out HX_aK_8.out.lt)
  have HX_x1_9 := Lib.hid (HX_x1_8.out.below HB_8.out HX_x1_8.out.lt)
  clear hb ho0
  clear x_x1_0 x_x1_1
  go_wp2_with fail
  refine (eqSigS_same _ _ A_g0 A_w0 r0.length c_g0 c_w0 r0 _ ((FOwnSig.rd HO_g0_9.out).more (Nat.le_refl _)) ((FOwnSig.rd HO_w0_9.out).more (Nat.le_trans (Nat.le_trans (Nat.le_trans HZ_5.out HZ_6.out) HZ_7.out) HZ_8.out)) (Nat.le_refl _) (Nat.le_refl _) (by omega)).mono ?_
  rintro e W_10 ⟨rfl, hb⟩
  have HB_9 := Lib.hid hb
  have HZ_9 := Lib.hid HB_9.out.size
  have HA_10 := Lib.hid (HA_9.out.trans (HB_9.out.mono HA_9.out.size))
  have HO_aHeld_10 := Lib.hid (HO_aHeld_9.out.below HB_9.out HA_9.out.size)
  have HO_aK_10 := Lib.hid (RKeys.keep HO_aK_9.out fun i hi => HB_9.out.block i (Nat.lt_of_lt_of_le hi HA_9.out.size))
  have HO_aMessage_10 := Lib.hid (HO_aMessage_9.out.below HB_9.out HA_9.out.size)
  have HO_w0_10 := Lib.hid (HO_w0_9.out.below HB_9.out (Nat.le_trans (Nat.le_trans (Nat.le_trans HZ_5.out HZ_6.out) HZ_7.out) HZ_8.out))
  have HO_x0_10 := Lib.hid (HO_x0_9.out.below HB_9.out (Nat.le_trans (Nat.le_trans HZ_6.out HZ_7.out) HZ_8.out))
  have HO_x1_10 := Lib.hid (HO_x1_9.out.below HB_9.out (Nat.le_trans HT_7.out (Nat.le_trans HZ_7.out HZ_8.out)))
  have HO_x2_10 := Lib.hid (HO_x2_9.out.below HB_9.out HZ_8.out)
  have HO_g0_10 := Lib.hid (HO_g0_9.out.below HB_9.out (Nat.le_refl _))
  have HX_aK_10 := Lib.hid (HX_aK_9.out.below HB_9.out HX_aK_9.out.lt)
  have HX_x1_10 := Lib.hid (HX_x1_9.out.below HB_9.out HX_x1_9.out.lt)
  clear hb
  go_wp2_with fail
  refine (toIntS_any a0 l0 c0 y0 _ (HO_aHeld_10.out.more HA_10.out.size) (by omega)).mono ?_
  rintro e W_11 ⟨A__t3, c__t3, rfl, hown, hb⟩
  have HO__t3_11 := Lib.hid hown
  have HB_10 := Lib.hid hb
  have HZ_10 := Lib.hid HB_10.out.size
  have HA_11 := Lib.hid (HA_10.out.trans (HB_10.out.mono HA_10.out.size))
  have HO_aHeld_11 := Lib.hid (HO_aHeld_10.out.below HB_10.out HA_10.out.size)
  have HO_aK_11 := Lib.hid (RKeys.keep HO_aK_10.out fun i hi => HB_10.out.block i (Nat.lt_of_lt_of_le hi HA_10.out.size))
  have HO_aMessage_11 := Lib.hid (HO_aMessage_10.out.below HB_10.out HA_10.out.size)
  have HO_w0_11 := Lib.hid (HO_w0_10.out.below HB_10.out (Nat.le_trans (Nat.le_trans (Nat.le_trans (Nat.le_trans HZ_5.out HZ_6.out) HZ_7.out) HZ_8.out) HZ_9.out))
  have HO_x0_11 := Lib.hid (HO_x0_10.out.below HB_10.out (Nat.le_trans (Nat.le_trans (Nat.le_trans HZ_6.out HZ_7.out) HZ_8.out) HZ_9.out))
  have HO_x1_11 := Lib.hid (HO_x1_10.out.below HB_10.out (Nat.le_trans HT_7.out (Nat.le_trans (Nat.le_trans HZ_7.out HZ_8.out) HZ_9.out)))
  have HO_x2_11 := Lib.hid (HO_x2_10.out.below HB_10.out (Nat.le_trans HZ_8.out HZ_9.out))
  have HO_g0_11 := Lib.hid (HO_g0_10.out.below HB_10.out HZ_9.out)
  have HX_aK_11 := Lib.hid (HX_aK_10.out.below HB_10.out HX_aK_10.out.lt)
  have HX_x1_11 := Lib.hid (HX_x1_10.out.below HB_10.out HX_x1_10.out.lt)
  clear hb hown
  go_wp2_with fail
  refine (eqIntS_same _ _ A_x0 A__t3 l0 c_x0 c__t3 y0 _ (HO_x0_11.out.rd.more (Nat.le_trans (Nat.le_trans (Nat.le_trans (Nat.le_trans HZ_6.out HZ_7.out) HZ_8.out) HZ_9.out) HZ_10.out)) (HO__t3_11.out.rd.more (Nat.le_refl _)) (by omega)).mono ?_
  rintro e W_12 ⟨rfl, hb⟩
  have HB_11 := Lib.hid hb
  have HZ_11 := Lib.hid (HB_11.out.below 0).size
  have HA_12 := Lib.hid (HA_11.out.trans (HB_11.out.below _))
  have HO_aHeld_12 := Lib.hid (HO_aHeld_11.out.same HB_11.out)
  have HO_aK_12 := Lib.hid (RKeys.keep HO_aK_11.out fun i hi => by rw [HB_11.out.heap])
  have HO_aMessage_12 := Lib.hid (HO_aMessage_11.out.same HB_11.out)
  have HO_w0_12 := Lib.hid (HO_w0_11.out.same HB_11.out)
  have HO_x0_12 := Lib.hid (HO_x0_11.out.same HB_11.out)
  have HO_x1_12 := Lib.hid (HO_x1_11.out.same HB_11.out)
  have HO_x2_12 := Lib.hid (HO_x2_11.out.same HB_11.out)
  have HO_g0_12 := Lib.hid (HO_g0_11.out.same HB_11.out)
  have HX_aK_12 := Lib.hid (HX_aK_11.out.keep (by rw [HB_11.out.heap]))
  have HX_x1_12 := Lib.hid (HX_x1_11.out.keep (by rw [HB_11.out.heap]))
  clear hb
  have x_aK_0 := HX_aK_12.out.cell (j := 0) rfl
  have x_aK_1 := HX_aK_12.out.cell (j := 1) rfl
  have x_x1_0 := HX_x1_12.out.cell (j := 0) rfl
  have x_x1_1 := HX_x1_12.out.cell (j := 1) rfl
  have HD_aK := Lib.hid (show RKeys.rd W_12.drew (Lt W_12.drew.heap.size) [u1_0, u1_1] y1 from RKeys.keep (RKeys.more HO_aK_12.out fun i hi => Nat.lt_of_lt_of_le hi HA_12.out.size) fun i _ => rfl)
  go_wp2_with fail
  go_region_held3 (fun w' => w'.cell? ⟨W0.heap.size, 0, none⟩ = some u1_0 ∧ w'.cell? ⟨W0.heap.size, 1, none⟩ = some u1_1 ∧ w'.cell? ⟨W_7.heap.size, 0, none⟩ = some (.slice A_x1_0 n_x1_0 c_x1_0) ∧ w'.cell? ⟨W_7.heap.size, 1, none⟩ = some (.int .i64 y1.need)) (first | exact ⟨x_aK_0, x_aK_1, x_x1_0, x_x1_1⟩ | exact ⟨x_aK_0_13, x_aK_1_13, x_x1_0_13, x_x1_1_13⟩ | exact ⟨x_aK_0_14, x_aK_1_14, x_x1_0_14, x_x1_1_14⟩) ((first
    | (go_at_call 37; (with_reducible refine (toKeys_any [u1_0, u1_1] y1 W_12.drew HD_aK.out (by omega)).mono ?_); rintro e W_13 ⟨cs__t4, rfl, hown, hb⟩; obtain ⟨A__t4_0, n__t4_0, c__t4_0, rfl⟩ := RKeys_shape hown.rd; have HO__t4_13 := Lib.hid (hown); have HB_12 := Lib.hid (below_drew hb); have HZ_12 := Lib.hid HB_12.out.size; have HA_13 := Lib.hid (HA_12.out.trans (HB_12.out.mono HA_12.out.size)); have HO_aHeld_13 := Lib.hid (HO_aHeld_12.out.below HB_12.out HA_12.out.size); have HO_aK_13 := Lib.hid (RKeys.keep HO_aK_12.out fun i hi => HB_12.out.block i (Nat.lt_of_lt_of_le hi HA_12.out.size)); have HO_aMessage_13 := Lib.hid (HO_aMessage_12.out.below HB_12.out HA_12.out.size); have HO_w0_13 := Lib.hid (HO_w0_12.out.below HB_12.out (Nat.le_trans (Nat.le_trans (Nat.le_trans (Nat.le_trans (Nat.le_trans (Nat.le_trans HZ_5.out HZ_6.out) HZ_7.out) HZ_8.out) HZ_9.out) HZ_10.out) HZ_11.out)); have HO_x0_13 := Lib.hid (HO_x0_12.out.below HB_12.out (Nat.le_trans (Nat.le_trans (Nat.le_trans (Nat.le_trans (Nat.le_trans HZ_6.out HZ_7.out) HZ_8.out) HZ_9.out) HZ_10.out) HZ_11.out)); have HO_x1_13 := Lib.hid (HO_x1_12.out.below HB_12.out (Nat.le_trans HT_7.out (Nat.le_trans (Nat.le_trans (Nat.le_trans (Nat.le_trans HZ_7.out HZ_8.out) HZ_9.out) HZ_10.out) HZ_11.out))); have HO_x2_13 := Lib.hid (HO_x2_12.out.below HB_12.out (Nat.le_trans (Nat.le_trans (Nat.le_trans HZ_8.out HZ_9.out) HZ_10.out) HZ_11.out)); have HO_g0_13 := Lib.hid (HO_g0_12.out.below HB_12.out (Nat.le_trans (Nat.le_trans HZ_9.out HZ_10.out) HZ_11.out)); have HX_aK_13 := Lib.hid (HX_aK_12.out.below HB_12.out HX_aK_12.out.lt); have HX_x1_13 := Lib.hid (HX_x1_12.out.below HB_12.out HX_x1_12.out.lt); clear hb hown; have x_aK_0_13 := HX_aK_13.out.cell (j := 0) rfl; have x_aK_1_13 := HX_aK_13.out.cell (j := 1) rfl; have x_x1_0_13 := HX_x1_13.out.cell (j := 0) rfl; have x_x1_1_13 := HX_x1_13.out.cell (j := 1) rfl)
    | (go_at_call 39; (with_reducible refine (eqKeys_same _ _ [(.slice A_x1_0 n_x1_0 c_x1_0), (.int .i64 y1.need)] [(.slice A__t4_0 n__t4_0 c__t4_0), (.int .i64 y1.need)] y1 _ (RKeys.more HO_x1_13.out.rd fun i hi => Nat.lt_of_lt_of_le hi (Nat.le_trans HT_7.out (Nat.le_trans (Nat.le_trans (Nat.le_trans (Nat.le_trans (Nat.le_trans HZ_7.out HZ_8.out) HZ_9.out) HZ_10.out) HZ_11.out) HZ_12.out))) (RKeys.more HO__t4_13.out.rd fun i hi => Nat.lt_of_lt_of_le hi (Nat.le_refl _)) (Nat.le_refl _) (Nat.le_refl _) (by omega)).mono ?_); rintro e W_14 ⟨rfl, hb⟩; have HB_13 := Lib.hid hb; have HZ_13 := Lib.hid HB_13.out.size; have HA_14 := Lib.hid (HA_13.out.trans (HB_13.out.mono HA_13.out.size)); have HO_aHeld_14 := Lib.hid (HO_aHeld_13.out.below HB_13.out HA_13.out.size); have HO_aK_14 := Lib.hid (RKeys.keep HO_aK_13.out fun i hi => HB_13.out.block i (Nat.lt_of_lt_of_le hi HA_13.out.size)); have HO_aMessage_14 := Lib.hid (HO_aMessage_13.out.below HB_13.out HA_13.out.size); have HO_w0_14 := Lib.hid (HO_w0_13.out.below HB_13.out (Nat.le_trans (Nat.le_trans (Nat.le_trans (Nat.le_trans (Nat.le_trans (Nat.le_trans (Nat.le_trans HZ_5.out HZ_6.out) HZ_7.out) HZ_8.out) HZ_9.out) HZ_10.out) HZ_11.out) HZ_12.out)); have HO_x0_14 := Lib.hid (HO_x0_13.out.below HB_13.out (Nat.le_trans (Nat.le_trans (Nat.le_trans (Nat.le_trans (Nat.le_trans (Nat.le_trans HZ_6.out HZ_7.out) HZ_8.out) HZ_9.out) HZ_10.out) HZ_11.out) HZ_12.out)); have HO_x1_14 := Lib.hid (HO_x1_13.out.below HB_13.out (Nat.le_trans HT_7.out (Nat.le_trans (Nat.le_trans (Nat.le_trans (Nat.le_trans (Nat.le_trans HZ_7.out HZ_8.out) HZ_9.out) HZ_10.out) HZ_11.out) HZ_12.out))); have HO_x2_14 := Lib.hid (HO_x2_13.out.below HB_13.out (Nat.le_trans (Nat.le_trans (Nat.le_trans (Nat.le_trans HZ_8.out HZ_9.out) HZ_10.out) HZ_11.out) HZ_12.out)); have HO_g0_14 := Lib.hid (HO_g0_13.out.below HB_13.out (Nat.le_trans (Nat.le_trans (Nat.le_trans HZ_9.out HZ_10.out) HZ_11.out) HZ_12.out)); have HX_aK_14 := Lib.hid (HX_aK_13.out.below HB_13.out HX_aK_13.out.lt); have HX_x1_14 := Lib.hid (HX_x1_13.out.below HB_13.out HX_x1_13.out.lt); clear hb; have x_aK_0_14 := HX_aK_14.out.cell (j := 0) rfl; have x_aK_1_14 := HX_aK_14.out.cell (j := 1) rfl; have x_x1_0_14 := HX_x1_14.out.cell (j := 0) rfl; have x_x1_1_14 := HX_x1_14.out.cell (j := 1) rfl)))
  clear x_aK_0 x_aK_1 x_x1_0 x_x1_1
  go_wp2_with fail
  refine (toIntS_any a2 l2 c2 y2 _ (HO_aMessage_14.out.more HA_14.out.size) (by omega)).mono ?_
  rintro e W_15 ⟨A__t5, c__t5, rfl, hown, hb⟩
  have HO__t5_15 := Lib.hid hown
  have HB_14 := Lib.hid hb
  have HZ_14 := Lib.hid HB_14.out.size
  have HA_15 := Lib.hid (HA_14.out.trans (HB_14.out.mono HA_14.out.size))
  have HO_aHeld_15 := Lib.hid (HO_aHeld_14.out.below HB_14.out HA_14.out.size)
  have HO_aK_15 := Lib.hid (RKeys.keep HO_aK_14.out fun i hi => HB_14.out.block i (Nat.lt_of_lt_of_le hi HA_14.out.size))
  have HO_aMessage_15 := Lib.hid (HO_aMessage_14.out.below HB_14.out HA_14.out.size)
  have HO_w0_15 := Lib.hid (HO_w0_14.out.below HB_14.out (Nat.le_trans (Nat.le_trans (Nat.le_trans (Nat.le_trans (Nat.le_trans (Nat.le_trans (Nat.le_trans (Nat.le_trans HZ_5.out HZ_6.out) HZ_7.out) HZ_8.out) HZ_9.out) HZ_10.out) HZ_11.out) HZ_12.out) HZ_13.out))
  have HO_x0_15 := Lib.hid (HO_x0_14.out.below HB_14.out (Nat.le_trans (Nat.le_trans (Nat.le_trans (Nat.le_trans (Nat.le_trans (Nat.le_trans (Nat.le_trans HZ_6.out HZ_7.out) HZ_8.out) HZ_9.out) HZ_10.out) HZ_11.out) HZ_12.out) HZ_13.out))
  have HO_x1_15 := Lib.hid (HO_x1_14.out.below HB_14.out (Nat.le_trans HT_7.out (Nat.le_trans (Nat.le_trans (Nat.le_trans (Nat.le_trans (Nat.le_trans (Nat.le_trans HZ_7.out HZ_8.out) HZ_9.out) HZ_10.out) HZ_11.out) HZ_12.out) HZ_13.out)))
  have HO_x2_15 := Lib.hid (HO_x2_14.out.below HB_14.out (Nat.le_trans (Nat.le_trans (Nat.le_trans (Nat.le_trans (Nat.le_trans HZ_8.out HZ_9.out) HZ_10.out) HZ_11.out) HZ_12.out) HZ_13.out))
  have HO_g0_15 := Lib.hid (HO_g0_14.out.below HB_14.out (Nat.le_trans (Nat.le_trans (Nat.le_trans (Nat.le_trans HZ_9.out HZ_10.out) HZ_11.out) HZ_12.out) HZ_13.out))
  have HX_aK_15 := Lib.hid (HX_aK_14.out.below HB_14.out HX_aK_14.out.lt)
  have HX_x1_15 := Lib.hid (HX_x1_14.out.below HB_14.out HX_x1_14.out.lt)
  clear hb hown
  go_wp2_with fail
  refine (eqIntS_same _ _ A_x2 A__t5 l2 c_x2 c__t5 y2 _ (HO_x2_15.out.rd.more (Nat.le_trans (Nat.le_trans (Nat.le_trans (Nat.le_trans (Nat.le_trans (Nat.le_trans HZ_8.out HZ_9.out) HZ_10.out) HZ_11.out) HZ_12.out) HZ_13.out) HZ_14.out)) (HO__t5_15.out.rd.more (Nat.le_refl _)) (by omega)).mono ?_
  rintro e W_16 ⟨rfl, hb⟩
  have HB_15 := Lib.hid hb
  have HZ_15 := Lib.hid (HB_15.out.below 0).size
  have HA_16 := Lib.hid (HA_15.out.trans (HB_15.out.below _))
  have HO_aHeld_16 := Lib.hid (HO_aHeld_15.out.same HB_15.out)
  have HO_aK_16 := Lib.hid (RKeys.keep HO_aK_15.out fun i hi => by rw [HB_15.out.heap])
  have HO_aMessage_16 := Lib.hid (HO_aMessage_15.out.same HB_15.out)
  have HO_w0_16 := Lib.hid (HO_w0_15.out.same HB_15.out)
  have HO_x0_16 := Lib.hid (HO_x0_15.out.same HB_15.out)
  have HO_x1_16 := Lib.hid (HO_x1_15.out.same HB_15.out)
  have HO_x2_16 := Lib.hid (HO_x2_15.out.same HB_15.out)
  have HO_g0_16 := Lib.hid (HO_g0_15.out.same HB_15.out)
  have HX_aK_16 := Lib.hid (HX_aK_15.out.keep (by rw [HB_15.out.heap]))
  have HX_x1_16 := Lib.hid (HX_x1_15.out.keep (by rw [HB_15.out.heap]))
  clear hb
  go_wp2_with fail
  refine (markIntS_any _ _ A_x0 l0 c_x0 y0 1 _ HO_x0_16.out (by omega) (by omega) (by omega)).mono ?_
  rintro e W_17 ⟨rfl, hown, hb⟩
  have HO_x0_17 := Lib.hid hown
  clear hown
  have HB_16 := Lib.hid hb
  have HZ_16 := Lib.hid HB_16.out.size
  have HA_17 := Lib.hid (HA_16.out.trans (HB_16.out.below HA_5.out.size HA_16.out.size))
  have HO_aHeld_17 := Lib.hid (HO_aHeld_16.out.fr HB_16.out HA_5.out.size HA_16.out.size)
  have HO_aK_17 := Lib.hid (RKeys.keep HO_aK_16.out fun i hi => HB_16.out.block i (Nat.lt_of_lt_of_le hi HA_16.out.size) (.inl (Nat.lt_of_lt_of_le hi HA_5.out.size)))
  have HO_aMessage_17 := Lib.hid (HO_aMessage_16.out.fr HB_16.out HA_5.out.size HA_16.out.size)
  have HO_w0_17 := Lib.hid (HO_w0_16.out.fr HB_16.out (.inl (Nat.le_refl _)))
  have HO_x1_17 := Lib.hid (HO_x1_16.out.fr HB_16.out (.inr (Nat.le_refl _)))
  have HO_x2_17 := Lib.hid (HO_x2_16.out.fr HB_16.out (.inr HZ_6.out))
  have HO_g0_17 := Lib.hid (HO_g0_16.out.fr HB_16.out (.inr (Nat.le_trans HZ_6.out HZ_7.out)))
  have HX_aK_17 := Lib.hid (HX_aK_16.out.keep (HB_16.out.block _ HX_aK_16.out.lt (.inl (Nat.lt_of_lt_of_le HX_aK_0.out.lt (Nat.le_trans (Nat.le_trans (Nat.le_trans (Nat.le_trans HZ_0.out HZ_1.out) HZ_2.out) HZ_3.out) HZ_4.out)))))
  have HX_x1_17 := Lib.hid (HX_x1_16.out.keep (HB_16.out.block _ HX_x1_16.out.lt (.inr (Nat.le_trans (Nat.le_refl _) HQ_7.out))))
  clear hb
  have x_x1_0 := HX_x1_17.out.cell (j := 0) rfl
  have x_x1_1 := HX_x1_17.out.cell (j := 1) rfl
  go_wp2_with fail
  refine (markKeys_any _ _ [(.slice A_x1_0 n_x1_0 c_x1_0), (.int .i64 y1.need)] y1 (1 + (l0 : Int)) _ HO_x1_17.out (Nat.le_trans HT_7.out (Nat.le_trans (Nat.le_trans (Nat.le_trans (Nat.le_trans (Nat.le_trans (Nat.le_trans (Nat.le_trans (Nat.le_trans (Nat.le_trans HZ_7.out HZ_8.out) HZ_9.out) HZ_10.out) HZ_11.out) HZ_12.out) HZ_13.out) HZ_14.out) HZ_15.out) HZ_16.out)) (by omega) (by omega) (by omega)).mono ?_
  rintro e W_18 ⟨rfl, hown, hb⟩
  have HO_x1_18 := Lib.hid hown
  clear hown
  have HB_17 := Lib.hid hb
  have HZ_17 := Lib.hid HB_17.out.size
  have HA_18 := Lib.hid (HA_17.out.trans (HB_17.out.below HA_6.out.size HA_17.out.size))
  have HO_aHeld_18 := Lib.hid (HO_aHeld_17.out.fr HB_17.out HA_6.out.size HA_17.out.size)
  have HO_aK_18 := Lib.hid (RKeys.keep HO_aK_17.out fun i hi => HB_17.out.block i (Nat.lt_of_lt_of_le hi HA_17.out.size) (.inl (Nat.lt_of_lt_of_le hi HA_6.out.size)))
  have HO_aMessage_18 := Lib.hid (HO_aMessage_17.out.fr HB_17.out HA_6.out.size HA_17.out.size)
  have HO_w0_18 := Lib.hid (HO_w0_17.out.fr HB_17.out (.inl HZ_5.out))
  have HO_x2_18 := Lib.hid (HO_x2_17.out.fr HB_17.out (.inr (Nat.le_trans HT_7.out (Nat.le_refl _))))
  have HO_g0_18 := Lib.hid (HO_g0_17.out.fr HB_17.out (.inr (Nat.le_trans HT_7.out HZ_7.out)))
  have HX_aK_18 := Lib.hid (HX_aK_17.out.keep (HB_17.out.block _ HX_aK_17.out.lt (.inl (Nat.lt_of_lt_of_le HX_aK_0.out.lt (Nat.le_trans (Nat.le_trans (Nat.le_trans (Nat.le_trans (Nat.le_trans HZ_0.out HZ_1.out) HZ_2.out) HZ_3.out) HZ_4.out) HZ_5.out)))))
  clear hb
  clear x_x1_0 x_x1_1
  go_wp2_with fail
  refine (markIntS_any _ _ A_x2 l2 c_x2 y2 (1 + (l0 : Int) + (cntKeys y1 : Int)) _ HO_x2_18.out (by omega) (by omega) (by omega)).mono ?_
  rintro e W_19 ⟨rfl, hown, hb⟩
  have HO_x2_19 := Lib.hid hown
  clear hown
  have HB_18 := Lib.hid hb
  have HZ_18 := Lib.hid HB_18.out.size
  have HA_19 := Lib.hid (HA_18.out.trans (HB_18.out.below HA_7.out.size HA_18.out.size))
  have HO_aHeld_19 := Lib.hid (HO_aHeld_18.out.fr HB_18.out HA_7.out.size HA_18.out.size)
  have HO_aK_19 := Lib.hid (RKeys.keep HO_aK_18.out fun i hi => HB_18.out.block i (Nat.lt_of_lt_of_le hi HA_18.out.size) (.inl (Nat.lt_of_lt_of_le hi HA_7.out.size)))
  have HO_aMessage_19 := Lib.hid (HO_aMessage_18.out.fr HB_18.out HA_7.out.size HA_18.out.size)
  have HO_w0_19 := Lib.hid (HO_w0_18.out.fr HB_18.out (.inl (Nat.le_trans HZ_5.out HZ_6.out)))
  have HO_g0_19 := Lib.hid (HO_g0_18.out.fr HB_18.out (.inr (Nat.le_refl _)))
  have HX_aK_19 := Lib.hid (HX_aK_18.out.keep (HB_18.out.block _ HX_aK_18.out.lt (.inl (Nat.lt_of_lt_of_le HX_aK_0.out.lt (Nat.le_trans (Nat.le_trans (Nat.le_trans (Nat.le_trans (Nat.le_trans (Nat.le_trans HZ_0.out HZ_1.out) HZ_2.out) HZ_3.out) HZ_4.out) HZ_5.out) HZ_6.out)))))
  clear hb
  go_wp2_with fail
  refine (eqSigS_same _ _ A_g0 A_w0 r0.length c_g0 c_w0 r0 _ ((FOwnSig.rd HO_g0_19.out).more (Nat.le_trans (Nat.le_trans (Nat.le_trans (Nat.le_trans (Nat.le_trans (Nat.le_trans (Nat.le_trans (Nat.le_trans (Nat.le_trans HZ_9.out HZ_10.out) HZ_11.out) HZ_12.out) HZ_13.out) HZ_14.out) HZ_15.out) HZ_16.out) HZ_17.out) HZ_18.out)) ((FOwnSig.rd HO_w0_19.out).more (Nat.le_trans (Nat.le_trans (Nat.le_trans (Nat.le_trans (Nat.le_trans (Nat.le_trans (Nat.le_trans (Nat.le_trans (Nat.le_trans (Nat.le_trans (Nat.le_trans (Nat.le_trans (Nat.le_trans HZ_5.out HZ_6.out) HZ_7.out) HZ_8.out) HZ_9.out) HZ_10.out) HZ_11.out) HZ_12.out) HZ_13.out) HZ_14.out) HZ_15.out) HZ_16.out) HZ_17.out) HZ_18.out)) (Nat.le_refl _) (Nat.le_refl _) (by omega)).mono ?_
  rintro e W_20 ⟨rfl, hb⟩
  have HB_19 := Lib.hid hb
  have HZ_19 := Lib.hid HB_19.out.size
  have HA_20 := Lib.hid (HA_19.out.trans (HB_19.out.mono HA_19.out.size))
  have HO_aHeld_20 := Lib.hid (HO_aHeld_19.out.below HB_19.out HA_19.out.size)
  have HO_aK_20 := Lib.hid (RKeys.keep HO_aK_19.out fun i hi => HB_19.out.block i (Nat.lt_of_lt_of_le hi HA_19.out.size))
  have HO_aMessage_20 := Lib.hid (HO_aMessage_19.out.below HB_19.out HA_19.out.size)
  have HO_w0_20 := Lib.hid (HO_w0_19.out.below HB_19.out (Nat.le_trans (Nat.le_trans (Nat.le_trans (Nat.le_trans (Nat.le_trans (Nat.le_trans (Nat.le_trans (Nat.le_trans (Nat.le_trans (Nat.le_trans (Nat.le_trans (Nat.le_trans (Nat.le_trans HZ_5.out HZ_6.out) HZ_7.out) HZ_8.out) HZ_9.out) HZ_10.out) HZ_11.out) HZ_12.out) HZ_13.out) HZ_14.out) HZ_15.out) HZ_16.out) HZ_17.out) HZ_18.out))
  have HO_g0_20 := Lib.hid (HO_g0_19.out.below HB_19.out (Nat.le_trans (Nat.le_trans (Nat.le_trans (Nat.le_trans (Nat.le_trans (Nat.le_trans (Nat.le_trans (Nat.le_trans (Nat.le_trans HZ_9.out HZ_10.out) HZ_11.out) HZ_12.out) HZ_13.out) HZ_14.out) HZ_15.out) HZ_16.out) HZ_17.out) HZ_18.out))
  have HX_aK_20 := Lib.hid (HX_aK_19.out.below HB_19.out HX_aK_19.out.lt)
  clear hb
  go_wp2_with fail
  refine (markSigS_any _ _ A_g0 r0.length c_g0 r0 1 _ HO_g0_20.out (by omega) (by omega) (by omega)).mono ?_
  rintro e W_21 ⟨rfl, hown, hb⟩
  have HO_g0_21 := Lib.hid hown
  clear hown
  have HB_20 := Lib.hid hb
  have HZ_20 := Lib.hid HB_20.out.size
  have HA_21 := Lib.hid (HA_20.out.trans (HB_20.out.below HA_8.out.size HA_20.out.size))
  have HO_aHeld_21 := Lib.hid (HO_aHeld_20.out.fr HB_20.out HA_8.out.size HA_20.out.size)
  have HO_aK_21 := Lib.hid (RKeys.keep HO_aK_20.out fun i hi => HB_20.out.block i (Nat.lt_of_lt_of_le hi HA_20.out.size) (.inl (Nat.lt_of_lt_of_le hi HA_8.out.size)))
  have HO_aMessage_21 := Lib.hid (HO_aMessage_20.out.fr HB_20.out HA_8.out.size HA_20.out.size)
  have HO_w0_21 := Lib.hid (HO_w0_20.out.fr HB_20.out (.inl (Nat.le_trans (Nat.le_trans HZ_5.out HZ_6.out) HZ_7.out)))
  have HX_aK_21 := Lib.hid (HX_aK_20.out.keep (HB_20.out.block _ HX_aK_20.out.lt (.inl (Nat.lt_of_lt_of_le HX_aK_0.out.lt (Nat.le_trans (Nat.le_trans (Nat.le_trans (Nat.le_trans (Nat.le_trans (Nat.le_trans (Nat.le_trans HZ_0.out HZ_1.out) HZ_2.out) HZ_3.out) HZ_4.out) HZ_5.out) HZ_6.out) HZ_7.out)))))
  clear hb
  go_wp2_with fail
  refine (heldSigS_marks _ A_g0 r0.length c_g0 1 _ (FOwnSig.rd HO_g0_21.out) (by omega) (by omega) (by omega)).mono ?_
  rintro e W_22 ⟨rfl, rfl⟩
  have x_aK_0 := HX_aK_21.out.cell (j := 0) rfl
  have x_aK_1 := HX_aK_21.out.cell (j := 1) rfl
  have HD_aHeld := Lib.hid ((HO_aHeld_21.out.more HA_21.out.size).same (w' := W_21.drew) ⟨rfl, rfl, rfl, rfl⟩)
  go_wp2_with fail
  go_region_held3 (fun w' => w'.cell? ⟨W0.heap.size, 0, none⟩ = some u1_0 ∧ w'.cell? ⟨W0.heap.size, 1, none⟩ = some u1_1) (first | exact ⟨x_aK_0, x_aK_1⟩ | exact ⟨x_aK_0_22, x_aK_1_22⟩ | exact ⟨x_aK_0_23, x_aK_1_23⟩ | exact ⟨x_aK_0_24, x_aK_1_24⟩ | exact ⟨x_aK_0_25, x_aK_1_25⟩) ((first
    | (go_at_call 33; (with_reducible refine (toIntS_any a0 l0 c0 y0 _ HD_aHeld.out (by omega)).mono ?_); rintro e W_22 ⟨A__t6, c__t6, rfl, hown, hb⟩; have HO__t6_22 := Lib.hid hown; have HB_21 := Lib.hid (below_drew hb); have HZ_21 := Lib.hid HB_21.out.size; have HA_22 := Lib.hid (HA_21.out.trans (HB_21.out.mono HA_21.out.size)); have HO_aK_22 := Lib.hid (RKeys.keep HO_aK_21.out fun i hi => HB_21.out.block i (Nat.lt_of_lt_of_le hi HA_21.out.size)); have HO_aMessage_22 := Lib.hid (HO_aMessage_21.out.below HB_21.out HA_21.out.size); have HO_w0_22 := Lib.hid (HO_w0_21.out.below HB_21.out (Nat.le_trans (Nat.le_trans (Nat.le_trans (Nat.le_trans (Nat.le_trans (Nat.le_trans (Nat.le_trans (Nat.le_trans (Nat.le_trans (Nat.le_trans (Nat.le_trans (Nat.le_trans (Nat.le_trans (Nat.le_trans (Nat.le_trans HZ_5.out HZ_6.out) HZ_7.out) HZ_8.out) HZ_9.out) HZ_10.out) HZ_11.out) HZ_12.out) HZ_13.out) HZ_14.out) HZ_15.out) HZ_16.out) HZ_17.out) HZ_18.out) HZ_19.out) HZ_20.out)); have HO_g0_22 := Lib.hid (HO_g0_21.out.below HB_21.out (Nat.le_trans (Nat.le_trans (Nat.le_trans (Nat.le_trans (Nat.le_trans (Nat.le_trans (Nat.le_trans (Nat.le_trans (Nat.le_trans (Nat.le_trans (Nat.le_trans HZ_9.out HZ_10.out) HZ_11.out) HZ_12.out) HZ_13.out) HZ_14.out) HZ_15.out) HZ_16.out) HZ_17.out) HZ_18.out) HZ_19.out) HZ_20.out)); have HX_aK_22 := Lib.hid (HX_aK_21.out.below HB_21.out HX_aK_21.out.lt); clear hb hown; have x_aK_0_22 := HX_aK_22.out.cell (j := 0) rfl; have x_aK_1_22 := HX_aK_22.out.cell (j := 1) rfl)
    | (go_at_call 37; (with_reducible refine (toKeys_any [u1_0, u1_1] y1 _ (RKeys.more HO_aK_22.out fun i hi => Nat.lt_of_lt_of_le hi HA_22.out.size) (by omega)).mono ?_); rintro e W_23 ⟨cs__t7, rfl, hown, hb⟩; obtain ⟨A__t7_0, n__t7_0, c__t7_0, rfl⟩ := RKeys_shape hown.rd; have HO__t7_23 := Lib.hid (hown); have HB_22 := Lib.hid hb; have HZ_22 := Lib.hid HB_22.out.size; have HA_23 := Lib.hid (HA_22.out.trans (HB_22.out.mono HA_22.out.size)); have HO_aK_23 := Lib.hid (RKeys.keep HO_aK_22.out fun i hi => HB_22.out.block i (Nat.lt_of_lt_of_le hi HA_22.out.size)); have HO_aMessage_23 := Lib.hid (HO_aMessage_22.out.below HB_22.out HA_22.out.size); have HO_w0_23 := Lib.hid (HO_w0_22.out.below HB_22.out (Nat.le_trans (Nat.le_trans (Nat.le_trans (Nat.le_trans (Nat.le_trans (Nat.le_trans (Nat.le_trans (Nat.le_trans (Nat.le_trans (Nat.le_trans (Nat.le_trans (Nat.le_trans (Nat.le_trans (Nat.le_trans (Nat.le_trans (Nat.le_trans HZ_5.out HZ_6.out) HZ_7.out) HZ_8.out) HZ_9.out) HZ_10.out) HZ_11.out) HZ_12.out) HZ_13.out) HZ_14.out) HZ_15.out) HZ_16.out) HZ_17.out) HZ_18.out) HZ_19.out) HZ_20.out) HZ_21.out)); have HO_g0_23 := Lib.hid (HO_g0_22.out.below HB_22.out (Nat.le_trans (Nat.le_trans (Nat.le_trans (Nat.le_trans (Nat.le_trans (Nat.le_trans (Nat.le_trans (Nat.le_trans (Nat.le_trans (Nat.le_trans (Nat.le_trans (Nat.le_trans HZ_9.out HZ_10.out) HZ_11.out) HZ_12.out) HZ_13.out) HZ_14.out) HZ_15.out) HZ_16.out) HZ_17.out) HZ_18.out) HZ_19.out) HZ_20.out) HZ_21.out)); have HO__t6_23 := Lib.hid (HO__t6_22.out.below HB_22.out (Nat.le_refl _)); have HX_aK_23 := Lib.hid (HX_aK_22.out.below HB_22.out HX_aK_22.out.lt); clear hb hown; have x_aK_0_23 := HX_aK_23.out.cell (j := 0) rfl; have x_aK_1_23 := HX_aK_23.out.cell (j := 1) rfl)
    | (go_at_call 33; (with_reducible refine (toIntS_any a2 l2 c2 y2 _ (HO_aMessage_23.out.more HA_23.out.size) (by omega)).mono ?_); rintro e W_24 ⟨A__t8, c__t8, rfl, hown, hb⟩; have HO__t8_24 := Lib.hid hown; have HB_23 := Lib.hid hb; have HZ_23 := Lib.hid HB_23.out.size; have HA_24 := Lib.hid (HA_23.out.trans (HB_23.out.mono HA_23.out.size)); have HO_aK_24 := Lib.hid (RKeys.keep HO_aK_23.out fun i hi => HB_23.out.block i (Nat.lt_of_lt_of_le hi HA_23.out.size)); have HO_w0_24 := Lib.hid (HO_w0_23.out.below HB_23.out (Nat.le_trans (Nat.le_trans (Nat.le_trans (Nat.le_trans (Nat.le_trans (Nat.le_trans (Nat.le_trans (Nat.le_trans (Nat.le_trans (Nat.le_trans (Nat.le_trans (Nat.le_trans (Nat.le_trans (Nat.le_trans (Nat.le_trans (Nat.le_trans (Nat.le_trans HZ_5.out HZ_6.out) HZ_7.out) HZ_8.out) HZ_9.out) HZ_10.out) HZ_11.out) HZ_12.out) HZ_13.out) HZ_14.out) HZ_15.out) HZ_16.out) HZ_17.out) HZ_18.out) HZ_19.out) HZ_20.out) HZ_21.out) HZ_22.out)); have HO_g0_24 := Lib.hid (HO_g0_23.out.below HB_23.out (Nat.le_trans (Nat.le_trans (Nat.le_trans (Nat.le_trans (Nat.le_trans (Nat.le_trans (Nat.le_trans (Nat.le_trans (Nat.le_trans (Nat.le_trans (Nat.le_trans (Nat.le_trans (Nat.le_trans HZ_9.out HZ_10.out) HZ_11.out) HZ_12.out) HZ_13.out) HZ_14.out) HZ_15.out) HZ_16.out) HZ_17.out) HZ_18.out) HZ_19.out) HZ_20.out) HZ_21.out) HZ_22.out)); have HO__t6_24 := Lib.hid (HO__t6_23.out.below HB_23.out HZ_22.out); have HO__t7_24 := Lib.hid (HO__t7_23.out.below HB_23.out (Nat.le_refl _)); have HX_aK_24 := Lib.hid (HX_aK_23.out.below HB_23.out HX_aK_23.out.lt); clear hb hown; have x_aK_0_24 := HX_aK_24.out.cell (j := 0) rfl; have x_aK_1_24 := HX_aK_24.out.cell (j := 1) rfl)
    | (go_at_call 13; (with_reducible refine (HI.out A__t6 l0 c__t6 [(.slice A__t7_0 n__t7_0 c__t7_0), (.int .i64 y1.need)] A__t8 l2 c__t8 _ (HO__t6_24.out.cap.1) (HO__t6_24.out.rd.more (Nat.le_trans HZ_22.out HZ_23.out)) (RKeys.more HO__t7_24.out.rd fun i hi => Nat.lt_of_lt_of_le hi HZ_23.out) (HO__t8_24.out.cap.1) (HO__t8_24.out.rd.more (Nat.le_refl _))).mono ?_); rintro e W_25 ⟨A_h0, c_h0, rfl, ho0, hb⟩; have HO_h0_25 := Lib.hid ho0; have HB_24 := Lib.hid hb; have HZ_24 := Lib.hid HB_24.out.size; have HA_25 := Lib.hid (HA_24.out.trans (HB_24.out.mono HA_24.out.size)); have HO_aK_25 := Lib.hid (RKeys.keep HO_aK_24.out fun i hi => HB_24.out.block i (Nat.lt_of_lt_of_le hi HA_24.out.size)); have HO_w0_25 := Lib.hid (HO_w0_24.out.below HB_24.out (Nat.le_trans (Nat.le_trans (Nat.le_trans (Nat.le_trans (Nat.le_trans (Nat.le_trans (Nat.le_trans (Nat.le_trans (Nat.le_trans (Nat.le_trans (Nat.le_trans (Nat.le_trans (Nat.le_trans (Nat.le_trans (Nat.le_trans (Nat.le_trans (Nat.le_trans (Nat.le_trans HZ_5.out HZ_6.out) HZ_7.out) HZ_8.out) HZ_9.out) HZ_10.out) HZ_11.out) HZ_12.out) HZ_13.out) HZ_14.out) HZ_15.out) HZ_16.out) HZ_17.out) HZ_18.out) HZ_19.out) HZ_20.out) HZ_21.out) HZ_22.out) HZ_23.out)); have HO_g0_25 := Lib.hid (HO_g0_24.out.below HB_24.out (Nat.le_trans (Nat.le_trans (Nat.le_trans (Nat.le_trans (Nat.le_trans (Nat.le_trans (Nat.le_trans (Nat.le_trans (Nat.le_trans (Nat.le_trans (Nat.le_trans (Nat.le_trans (Nat.le_trans (Nat.le_trans HZ_9.out HZ_10.out) HZ_11.out) HZ_12.out) HZ_13.out) HZ_14.out) HZ_15.out) HZ_16.out) HZ_17.out) HZ_18.out) HZ_19.out) HZ_20.out) HZ_21.out) HZ_22.out) HZ_23.out)); have HX_aK_25 := Lib.hid (HX_aK_24.out.below HB_24.out HX_aK_24.out.lt); clear hb ho0; have x_aK_0_25 := HX_aK_25.out.cell (j := 0) rfl; have x_aK_1_25 := HX_aK_25.out.cell (j := 1) rfl)))
  clear x_aK_0 x_aK_1
  go_wp2_with fail
  refine (eqSigS_same _ _ A_h0 A_w0 r0.length c_h0 c_w0 r0 _ ((FOwnSig.rd HO_h0_25.out).more (Nat.le_refl _)) ((FOwnSig.rd HO_w0_25.out).more (Nat.le_trans (Nat.le_trans (Nat.le_trans (Nat.le_trans (Nat.le_trans (Nat.le_trans (Nat.le_trans (Nat.le_trans (Nat.le_trans (Nat.le_trans (Nat.le_trans (Nat.le_trans (Nat.le_trans (Nat.le_trans (Nat.le_trans (Nat.le_trans (Nat.le_trans (Nat.le_trans (Nat.le_trans HZ_5.out HZ_6.out) HZ_7.out) HZ_8.out) HZ_9.out) HZ_10.out) HZ_11.out) HZ_12.out) HZ_13.out) HZ_14.out) HZ_15.out) HZ_16.out) HZ_17.out) HZ_18.out) HZ_19.out) HZ_20.out) HZ_21.out) HZ_22.out) HZ_23.out) HZ_24.out)) (Nat.le_refl _) (Nat.le_refl _) (by omega)).mono ?_
  rintro e W_26 ⟨rfl, hb⟩
  have HB_25 := Lib.hid hb
  have HZ_25 := Lib.hid HB_25.out.size
  have HA_26 := Lib.hid (HA_25.out.trans (HB_25.out.mono HA_25.out.size))
  have HO_g0_26 := Lib.hid (HO_g0_25.out.below HB_25.out (Nat.le_trans (Nat.le_trans (Nat.le_trans (Nat.le_trans (Nat.le_trans (Nat.le_trans (Nat.le_trans (Nat.le_trans (Nat.le_trans (Nat.le_trans (Nat.le_trans (Nat.le_trans (Nat.le_trans (Nat.le_trans (Nat.le_trans HZ_9.out HZ_10.out) HZ_11.out) HZ_12.out) HZ_13.out) HZ_14.out) HZ_15.out) HZ_16.out) HZ_17.out) HZ_18.out) HZ_19.out) HZ_20.out) HZ_21.out) HZ_22.out) HZ_23.out) HZ_24.out))
  clear hb
  go_wp2_with fail
  refine (heldSigS_marks _ A_g0 r0.length c_g0 1 _ (FOwnSig.rd HO_g0_26.out) (by omega) (by omega) (by omega)).mono ?_
  rintro e W_27 ⟨rfl, rfl⟩
  go_wp2
  go_ret
  exact ⟨rfl, HA_26.out⟩
theorem FnExactIsSigBy_walk (W0 : World) (u0_0 u0_1 : Value) (y0 : Sig) (w0 : RSig.rd W0 (Lt W0.heap.size) [u0_0, u0_1] y0) (a1 : Option Addr) (l1 c1 : Nat) (z1 : List Int) (w1 : SL.IsRow .i64 W0 a1 l1 c1 z1) :
    Calls Try.prog 7 #[.agg #[u0_0, u0_1], .slice a1 l1 c1] W0 fun e w' => e = .returned (.bool true) ∧ Below W0.heap.size W0 w' := by
  have hY0 : totSig y0 ≤ 1048576 := Nat.zero_le _
  have hR1 := rd_of_row w1
  have hC1 := row_cap w1
  have hL1 := hR1.len
  generalize z1.take l1 = y1 at hR1 hL1
  clear w1
  by_cases hg1 : 1048576 < l1
  · have hg : 1048576 < (l1 : Int) := by omega
    clear w0
    clear hR1 hL1 hC1
    go_enter Try.func7, Try.ntmps7
    go_wp2
    go_ret
    exact ⟨rfl, ((Below.refl _ _).alloc (by first | (simp; done) | (simp; omega)) _)⟩
  have HA_0 := Lib.hid (show Below W0.heap.size W0 (W0.alloc (.cells #[u0_0, u0_1] 62)) from (Below.refl _ _).alloc (by first | (simp; done) | (simp; omega)) _)
  have HO_aS_0 := Lib.hid (RSig.keep w0 fun i hi => HA_0.out.block i hi)
  have HX_aS_0 := Lib.hid (show Box (W0.alloc (.cells #[u0_0, u0_1] 62)) (W0.heap.size) [u0_0, u0_1] from (show Box (W0.alloc (.cells #[u0_0, u0_1] 62)) (W0.heap.size) [u0_0, u0_1] by have h := Box.new W0 #[u0_0, u0_1] 62; simpa using h))
  have HO_aMessage_0 := Lib.hid (hR1.below HA_0.out (Nat.le_refl _))
  have HC1 := Lib.hid hC1
  clear w0
  clear hR1
  go_enter Try.func7, Try.ntmps7
  have x_aS_0 := HX_aS_0.out.cell (j := 0) rfl
  have x_aS_1 := HX_aS_0.out.cell (j := 1) rfl
  obtain ⟨r0, hS, hI⟩ := both_IsSigBy y0 y1 hY0 (by omega)
  have HS := Lib.hid hS
  have HI := Lib.hid hI
  clear hS hI
  go_wp2_with fail
  refine (toSig_any [u0_0, u0_1] y0 _ (RSig.more HO_aS_0.out fun i hi => Nat.lt_of_lt_of_le hi HA_0.out.size) (by omega)).mono ?_
  rintro e W_1 ⟨cs__t0, rfl, hown, hb⟩
  obtain rfl := RSig_shape hown.rd
  have HO__t0_1 := Lib.hid (hown)
  have HB_0 := Lib.hid hb
  have HZ_0 := Lib.hid HB_0.out.size
  have HA_1 := Lib.hid (HA_0.out.trans (HB_0.out.mono HA_0.out.size))
  have HO_aS_1 := Lib.hid (RSig.keep HO_aS_0.out fun i hi => HB_0.out.block i (Nat.lt_of_lt_of_le hi HA_0.out.size))
  have HO_aMessage_1 := Lib.hid (HO_aMessage_0.out.below HB_0.out HA_0.out.size)
  have HX_aS_1 := Lib.hid (HX_aS_0.out.below HB_0.out HX_aS_0.out.lt)
  clear hb hown
  go_wp2_with fail
  refine (toIntS_any a1 l1 c1 y1 _ (HO_aMessage_1.out.more HA_1.out.size) (by omega)).mono ?_
  rintro e W_2 ⟨A__t1, c__t1, rfl, hown, hb⟩
  have HO__t1_2 := Lib.hid hown
  have HB_1 := Lib.hid hb
  have HZ_1 := Lib.hid HB_1.out.size
  have HA_2 := Lib.hid (HA_1.out.trans (HB_1.out.mono HA_1.out.size))
  have HO_aS_2 := Lib.hid (RSig.keep HO_aS_1.out fun i hi => HB_1.out.block i (Nat.lt_of_lt_of_le hi HA_1.out.size))
  have HO_aMessage_2 := Lib.hid (HO_aMessage_1.out.below HB_1.out HA_1.out.size)
  have HO__t0_2 := Lib.hid (HO__t0_1.out.below HB_1.out (Nat.le_refl _))
  have HX_aS_2 := Lib.hid (HX_aS_1.out.below HB_1.out HX_aS_1.out.lt)
  clear hb hown
  go_wp2_with fail
  refine (HS.out [(.int .i64 y0.key), (.int .i64 y0.tag)] A__t1 l1 c__t1 _ (RSig.more HO__t0_2.out.rd fun i hi => Nat.lt_of_lt_of_le hi HZ_1.out) (HO__t1_2.out.cap.1) (HO__t1_2.out.rd.more (Nat.le_refl _))).mono ?_
  rintro e W_3 ⟨rfl, hb⟩
  have HB_2 := Lib.hid hb
  have HZ_2 := Lib.hid HB_2.out.size
  have HA_3 := Lib.hid (HA_2.out.trans (HB_2.out.mono HA_2.out.size))
  have HO_aS_3 := Lib.hid (RSig.keep HO_aS_2.out fun i hi => HB_2.out.block i (Nat.lt_of_lt_of_le hi HA_2.out.size))
  have HO_aMessage_3 := Lib.hid (HO_aMessage_2.out.below HB_2.out HA_2.out.size)
  have HX_aS_3 := Lib.hid (HX_aS_2.out.below HB_2.out HX_aS_2.out.lt)
  clear hb
  clear x_aS_0 x_aS_1
  go_wp2_with fail
  refine (toIntS_any a1 l1 c1 y1 _ (HO_aMessage_3.out.more HA_3.out.size) (by omega)).mono ?_
  rintro e W_4 ⟨A_x1, c_x1, rfl, hown, hb⟩
  have HO_x1_4 := Lib.hid hown
  have HB_3 := Lib.hid hb
  have HZ_3 := Lib.hid HB_3.out.size
  have HA_4 := Lib.hid (HA_3.out.trans (HB_3.out.mono HA_3.out.size))
  have HO_aS_4 := Lib.hid (RSig.keep HO_aS_3.out fun i hi => HB_3.out.block i (Nat.lt_of_lt_of_le hi HA_3.out.size))
  have HO_aMessage_4 := Lib.hid (HO_aMessage_3.out.below HB_3.out HA_3.out.size)
  have HX_aS_4 := Lib.hid (HX_aS_3.out.below HB_3.out HX_aS_3.out.lt)
  clear hb hown
  have x_aS_0 := HX_aS_4.out.cell (j := 0) rfl
  have x_aS_1 := HX_aS_4.out.cell (j := 1) rfl
  go_wp2_with fail
  refine (toSig_any [u0_0, u0_1] y0 _ (RSig.more HO_aS_4.out fun i hi => Nat.lt_of_lt_of_le hi HA_4.out.size) (by omega)).mono ?_
  rintro e W_5 ⟨cs__t2, rfl, hown, hb⟩
  obtain rfl := RSig_shape hown.rd
  have HO__t2_5 := Lib.hid (hown)
  have HB_4 := Lib.hid hb
  have HZ_4 := Lib.hid HB_4.out.size
  have HA_5 := Lib.hid (HA_4.out.trans (HB_4.out.mono HA_4.out.size))
  have HO_aMessage_5 := Lib.hid (HO_aMessage_4.out.below HB_4.out HA_4.out.size)
  have HO_x1_5 := Lib.hid (HO_x1_4.out.below HB_4.out (Nat.le_refl _))
  clear hb hown
  go_wp2_with fail
  refine (HI.out [(.int .i64 y0.key), (.int .i64 y0.tag)] A_x1 l1 c_x1 _ (RSig.more HO__t2_5.out.rd fun i hi => Nat.lt_of_lt_of_le hi (Nat.le_refl _)) (HO_x1_5.out.cap.1) (HO_x1_5.out.rd.more HZ_4.out)).mono ?_
  rintro e W_6 ⟨rfl, hb⟩
  have HB_5 := Lib.hid hb
  have HZ_5 := Lib.hid HB_5.out.size
  have HA_6 := Lib.hid (HA_5.out.trans (HB_5.out.mono HA_5.out.size))
  have HO_aMessage_6 := Lib.hid (HO_aMessage_5.out.below HB_5.out HA_5.out.size)
  have HO_x1_6 := Lib.hid (HO_x1_5.out.below HB_5.out HZ_4.out)
  clear hb
  clear x_aS_0 x_aS_1
  go_wp2_with fail
  refine (toIntS_any a1 l1 c1 y1 _ (HO_aMessage_6.out.more HA_6.out.size) (by omega)).mono ?_
  rintro e W_7 ⟨A__t3, c__t3, rfl, hown, hb⟩
  have HO__t3_7 := Lib.hid hown
  have HB_6 := Lib.hid hb
  have HZ_6 := Lib.hid HB_6.out.size
  have HA_7 := Lib.hid (HA_6.out.trans (HB_6.out.mono HA_6.out.size))
  have HO_x1_7 := Lib.hid (HO_x1_6.out.below HB_6.out (Nat.le_trans HZ_4.out HZ_5.out))
  clear hb hown
  go_wp2_with fail
  refine (eqIntS_same _ _ A_x1 A__t3 l1 c_x1 c__t3 y1 _ (HO_x1_7.out.rd.more (Nat.le_trans (Nat.le_trans HZ_4.out HZ_5.out) HZ_6.out)) (HO__t3_7.out.rd.more (Nat.le_refl _)) (by omega)).mono ?_
  rintro e W_8 ⟨rfl, hb⟩
  have HB_7 := Lib.hid hb
  have HZ_7 := Lib.hid (HB_7.out.below 0).size
  have HA_8 := Lib.hid (HA_7.out.trans (HB_7.out.below _))
  clear hb
  go_wp2
  go_ret
  exact ⟨rfl, HA_8.out⟩
theorem FnExactCountSigs_walk (W0 : World) (u0_0 u0_1 : Value) (y0 : Keys) (w0 : RKeys.rd W0 (Lt W0.heap.size) [u0_0, u0_1] y0) (a1 : Option Addr) (l1 c1 : Nat) (z1 : List Int) (w1 : SL.IsRow .i64 W0 a1 l1 c1 z1) (a2 : Option Addr) (l2 c2 : Nat) (y2 : List Sig) (w2 : Rds RSig W0 (Lt W0.heap.size) a2 l2 y2) (hC2 : l2 ≤ c2) (hM2 : c2 ≤ maxLen) :
    Calls Try.prog 8 #[.agg #[u0_0, u0_1], .slice a1 l1 c1, .slice a2 l2 c2] W0 fun e w' => e = .returned (.bool true) ∧ Below W0.heap.size W0 w' := by
  have hR1 := rd_of_row w1
  have hC1 := row_cap w1
  have hL1 := hR1.len
  generalize z1.take l1 = y1 at hR1 hL1
  clear w1
  have hR2 : FRdSig W0 W0.heap.size a2 l2 y2 := FRd.of flSig w2
  have hL2 := hR2.len
  clear w2
  by_cases hg1 : 1048576 < l1
  · have hg : 1048576 < (l1 : Int) := by omega
    clear w0
    clear hR1 hL1 hC1
    clear hR2 hL2 hC2 hM2
    go_enter Try.func8, Try.ntmps8
    go_wp2
    go_ret
    exact ⟨rfl, ((Below.refl _ _).alloc (by first | (simp; done) | (simp; omega)) _)⟩
  have HA_0 := Lib.hid (show Below W0.heap.size W0 (W0.alloc (.cells #[u0_0, u0_1] 53)) from (Below.refl _ _).alloc (by first | (simp; done) | (simp; omega)) _)
  have HO_aK_0 := Lib.hid (RKeys.keep w0 fun i hi => HA_0.out.block i hi)
  have HX_aK_0 := Lib.hid (show Box (W0.alloc (.cells #[u0_0, u0_1] 53)) (W0.heap.size) [u0_0, u0_1] from (show Box (W0.alloc (.cells #[u0_0, u0_1] 53)) (W0.heap.size) [u0_0, u0_1] by have h := Box.new W0 #[u0_0, u0_1] 53; simpa using h))
  have HO_aMessage_0 := Lib.hid (hR1.below HA_0.out (Nat.le_refl _))
  have HC1 := Lib.hid hC1
  have HO_aSigs_0 := Lib.hid (hR2.below HA_0.out (Nat.le_refl _))
  have HC2 := Lib.hid hC2
  have HM2 := Lib.hid hM2
  clear w0
  clear hR1
  clear hR2
  go_enter Try.func8, Try.ntmps8
  have x_aK_0 := HX_aK_0.out.cell (j := 0) rfl
  have x_aK_1 := HX_aK_0.out.cell (j := 1) rfl
  by_cases hn_aK : 1048576 < (totKeys y0 : Int)
  · have HN := Lib.hid hn_aK
    clear hn_aK
    go_wp2_with fail
    refine (szKeys_any [u0_0, u0_1] y0 1048576 _ (RKeys.more HO_aK_0.out fun i hi => Nat.lt_of_lt_of_le hi HA_0.out.size) (by omega) (by omega)).mono ?_
    rw [if_pos HN.out]
    rintro e W_1 ⟨rfl, hb⟩
    have HAe := Lib.hid (HA_0.out.trans (hb.mono HA_0.out.size))
    clear hb
    go_wp2
    go_ret
    exact ⟨rfl, HAe.out⟩
  have hY0 : totKeys y0 ≤ 1048576 := by omega
  have HN_aK := Lib.hid hn_aK
  clear hn_aK
  go_wp2_with fail
  refine (szKeys_any [u0_0, u0_1] y0 1048576 _ (RKeys.more HO_aK_0.out fun i hi => Nat.lt_of_lt_of_le hi HA_0.out.size) (by omega) (by omega)).mono ?_
  rw [if_neg (show ¬ 1048576 < (totKeys y0 : Int) by have := HN_aK.out; omega)]
  rintro e W_1 ⟨rfl, hb⟩
  obtain ⟨qq0, hqq0⟩ : ∃ x, x = 1048576 - (totKeys y0 : Int) := ⟨_, rfl⟩
  rw [← hqq0]
  have hqq0l : 0 ≤ qq0 ∧ qq0 ≤ 1048576 := by have := HN_aK.out; omega
  have hqq0n : ¬ qq0 < 0 := by omega
  clear hqq0
  have HB_0 := Lib.hid hb
  have HZ_0 := Lib.hid HB_0.out.size
  have HA_1 := Lib.hid (HA_0.out.trans (HB_0.out.mono HA_0.out.size))
  have HO_aK_1 := Lib.hid (RKeys.keep HO_aK_0.out fun i hi => HB_0.out.block i (Nat.lt_of_lt_of_le hi HA_0.out.size))
  have HO_aMessage_1 := Lib.hid (HO_aMessage_0.out.below HB_0.out HA_0.out.size)
  have HO_aSigs_1 := Lib.hid (HO_aSigs_0.out.below HB_0.out HA_0.out.size)
  have HX_aK_1 := Lib.hid (HX_aK_0.out.below HB_0.out HX_aK_0.out.lt)
  clear hb
  clear x_aK_0 x_aK_1
  by_cases hn_aSigs : qq0 < (l2 : Int)
  · have HN := Lib.hid hn_aSigs
    clear hn_aSigs
    go_wp2_with fail
    refine (szSigS_any a2 l2 c2 qq0 _ (by omega) (by omega) (Nat.le_trans HC2.out HM2.out)).mono ?_
    rw [if_pos HN.out]
    rintro e W_2 ⟨rfl, rfl⟩
    go_wp2
    go_ret
    exact ⟨rfl, HA_1.out⟩
  have HN_aSigs := Lib.hid hn_aSigs
  clear hn_aSigs
  go_wp2_with fail
  refine (szSigS_any a2 l2 c2 qq0 _ (by omega) (by omega) (Nat.le_trans HC2.out HM2.out)).mono ?_
  rw [if_neg (show ¬ qq0 < (l2 : Int) by have := HN_aSigs.out; omega)]
  rintro e W_2 ⟨rfl, rfl⟩
  obtain ⟨qs1, hqs1⟩ : ∃ x, x = qq0 - (l2 : Int) := ⟨_, rfl⟩
  rw [← hqs1]
  have hqs1l : 0 ≤ qs1 ∧ qs1 ≤ 1048576 := by have := HN_aSigs.out; omega
  have hqs1n : l2 ≤ 1048576 := by have := HN_aSigs.out; omega
  clear hqs1
  have hqs1p : ¬ qs1 < 0 := by omega
  have x_aK_0 := HX_aK_1.out.cell (j := 0) rfl
  have x_aK_1 := HX_aK_1.out.cell (j := 1) rfl
  obtain ⟨r0, hS, hI⟩ := both_CountSigs y0 y1 y2 hY0 (by omega) (by omega)
  have HS := Lib.hid hS
  have HI := Lib.hid hI
  clear hS hI
  have hcy0 := cntKeys_le y0
  go_wp2_with fail
  refine (toKeys_any [u0_0, u0_1] y0 _ (RKeys.more HO_aK_1.out fun i hi => Nat.lt_of_lt_of_le hi HA_1.out.size) (by omega)).mono ?_
  rintro e W_2 ⟨cs__t0, rfl, hown, hb⟩
  obtain ⟨A__t0_0, n__t0_0, c__t0_0, rfl⟩ := RKeys_shape hown.rd
  have HO__t0_2 := Lib.hid (hown)
  have HB_1 := Lib.hid hb
  have HZ_1 := Lib.hid HB_1.out.size
  have HA_2 := Lib.hid (HA_1.out.trans (HB_1.out.mono HA_1.out.size))
  have HO_aK_2 := Lib.hid (RKeys.keep HO_aK_1.out fun i hi => HB_1.out.block i (Nat.lt_of_lt_of_le hi HA_1.out.size))
  have HO_aMessage_2 := Lib.hid (HO_aMessage_1.out.below HB_1.out HA_1.out.size)
  have HO_aSigs_2 := Lib.hid (HO_aSigs_1.out.below HB_1.out HA_1.out.size)
  have HX_aK_2 := Lib.hid (HX_aK_1.out.below HB_1.out HX_aK_1.out.lt)
  clear hb hown
  go_wp2_with fail
  refine (toIntS_any a1 l1 c1 y1 _ (HO_aMessage_2.out.more HA_2.out.size) (by omega)).mono ?_
  rintro e W_3 ⟨A__t1, c__t1, rfl, hown, hb⟩
  have HO__t1_3 := Lib.hid hown
  have HB_2 := Lib.hid hb
  have HZ_2 := Lib.hid HB_2.out.size
  have HA_3 := Lib.hid (HA_2.out.trans (HB_2.out.mono HA_2.out.size))
  have HO_aK_3 := Lib.hid (RKeys.keep HO_aK_2.out fun i hi => HB_2.out.block i (Nat.lt_of_lt_of_le hi HA_2.out.size))
  have HO_aMessage_3 := Lib.hid (HO_aMessage_2.out.below HB_2.out HA_2.out.size)
  have HO_aSigs_3 := Lib.hid (HO_aSigs_2.out.below HB_2.out HA_2.out.size)
  have HO__t0_3 := Lib.hid (HO__t0_2.out.below HB_2.out (Nat.le_refl _))
  have HX_aK_3 := Lib.hid (HX_aK_2.out.below HB_2.out HX_aK_2.out.lt)
  clear hb hown
  go_wp2_with fail
  refine (toSigS_any a2 l2 c2 y2 _ (HO_aSigs_3.out.more HA_3.out.size) (by omega)).mono ?_
  rintro e W_4 ⟨A__t2, c__t2, rfl, hown, hb⟩
  have HO__t2_4 := Lib.hid hown
  have HB_3 := Lib.hid hb
  have HZ_3 := Lib.hid HB_3.out.size
  have HA_4 := Lib.hid (HA_3.out.trans (HB_3.out.mono HA_3.out.size))
  have HO_aK_4 := Lib.hid (RKeys.keep HO_aK_3.out fun i hi => HB_3.out.block i (Nat.lt_of_lt_of_le hi HA_3.out.size))
  have HO_aMessage_4 := Lib.hid (HO_aMessage_3.out.below HB_3.out HA_3.out.size)
  have HO_aSigs_4 := Lib.hid (HO_aSigs_3.out.below HB_3.out HA_3.out.size)
  have HO__t0_4 := Lib.hid (HO__t0_3.out.below HB_3.out HZ_2.out)
  have HO__t1_4 := Lib.hid (HO__t1_3.out.below HB_3.out (Nat.le_refl _))
  have HX_aK_4 := Lib.hid (HX_aK_3.out.below HB_3.out HX_aK_3.out.lt)
  clear hb hown
  go_wp2_with fail
  refine (HS.out [(.slice A__t0_0 n__t0_0 c__t0_0), (.int .i64 y0.need)] A__t1 l1 c__t1 A__t2 l2 c__t2 _ (RKeys.more HO__t0_4.out.rd fun i hi => Nat.lt_of_lt_of_le hi (Nat.le_trans HZ_2.out HZ_3.out)) (HO__t1_4.out.cap.1) (HO__t1_4.out.rd.more HZ_3.out) (HO__t2_4.out.cap.1) ((FOwnSig.rd HO__t2_4.out).more (Nat.le_refl _))).mono ?_
  rintro e W_5 ⟨rfl, hb⟩
  have HB_4 := Lib.hid hb
  have HZ_4 := Lib.hid HB_4.out.size
  have HA_5 := Lib.hid (HA_4.out.trans (HB_4.out.mono HA_4.out.size))
  have HO_aK_5 := Lib.hid (RKeys.keep HO_aK_4.out fun i hi => HB_4.out.block i (Nat.lt_of_lt_of_le hi HA_4.out.size))
  have HO_aMessage_5 := Lib.hid (HO_aMessage_4.out.below HB_4.out HA_4.out.size)
  have HO_aSigs_5 := Lib.hid (HO_aSigs_4.out.below HB_4.out HA_4.out.size)
  have HX_aK_5 := Lib.hid (HX_aK_4.out.below HB_4.out HX_aK_4.out.lt)
  clear hb
  clear x_aK_0 x_aK_1
  have x_aK_0 := HX_aK_5.out.cell (j := 0) rfl
  have x_aK_1 := HX_aK_5.out.cell (j := 1) rfl
  go_wp2_with fail
  refine (toKeys_any [u0_0, u0_1] y0 _ (RKeys.more HO_aK_5.out fun i hi => Nat.lt_of_lt_of_le hi HA_5.out.size) (by omega)).mono ?_
  rintro e W_6 ⟨cs_x0, rfl, hown, hb⟩
  obtain ⟨A_x0_0, n_x0_0, c_x0_0, rfl⟩ := RKeys_shape hown.rd
  have HO_x0_6 := Lib.hid (hown.alloc (.cells #[(.slice A_x0_0 n_x0_0 c_x0_0), (.int .i64 y0.need)] 26))
  have HT_6 := Lib.hid (show W_6.heap.size ≤ (W_6.alloc (.cells #[(.slice A_x0_0 n_x0_0 c_x0_0), (.int .i64 y0.need)] 26)).heap.size by simp)
  have hb5 := hb.alloc hb.size (.cells #[(.slice A_x0_0 n_x0_0 c_x0_0), (.int .i64 y0.need)] 26)
  have HB_5 := Lib.hid hb5
  have HQ_6 := Lib.hid hb.size
  have HZ_5 := Lib.hid HB_5.out.size
  have HA_6 := Lib.hid (HA_5.out.trans (HB_5.out.mono HA_5.out.size))
  have HO_aK_6 := Lib.hid (RKeys.keep HO_aK_5.out fun i hi => HB_5.out.block i (Nat.lt_of_lt_of_le hi HA_5.out.size))
  have HO_aMessage_6 := Lib.hid (HO_aMessage_5.out.below HB_5.out HA_5.out.size)
  have HO_aSigs_6 := Lib.hid (HO_aSigs_5.out.below HB_5.out HA_5.out.size)
  have HX_aK_6 := Lib.hid (HX_aK_5.out.below HB_5.out HX_aK_5.out.lt)
  clear hb hown
  have HX_x0_6 := Lib.hid (show Box (W_6.alloc (.cells #[(.slice A_x0_0 n_x0_0 c_x0_0), (.int .i64 y0.need)] 26)) W_6.heap.size [(.slice A_x0_0 n_x0_0 c_x0_0), (.int .i64 y0.need)] from Box.new W_6 #[(.slice A_x0_0 n_x0_0 c_x0_0), (.int .i64 y0.need)] 26)
  clear x_aK_0 x_aK_1
  go_wp2_with fail
  refine (toIntS_any a1 l1 c1 y1 _ (HO_aMessage_6.out.more HA_6.out.size) (by omega)).mono ?_
  rintro e W_7 ⟨A_x1, c_x1, rfl, hown, hb⟩
  have HO_x1_7 := Lib.hid hown
  have HB_6 := Lib.hid hb
  have HZ_6 := Lib.hid HB_6.out.size
  have HA_7 := Lib.hid (HA_6.out.trans (HB_6.out.mono HA_6.out.size))
  have HO_aK_7 := Lib.hid (RKeys.keep HO_aK_6.out fun i hi => HB_6.out.block i (Nat.lt_of_lt_of_le hi HA_6.out.size))
  have HO_aMessage_7 := Lib.hid (HO_aMessage_6.out.below HB_6.out HA_6.out.size)
  have HO_aSigs_7 := Lib.hid (HO_aSigs_6.out.below HB_6.out HA_6.out.size)
  have HO_x0_7 := Lib.hid (HO_x0_6.out.below HB_6.out (Nat.le_trans HT_6.out (Nat.le_refl _)))
  have HX_aK_7 := Lib.hid (HX_aK_6.out.below HB_6.out HX_aK_6.out.lt)
  have HX_x0_7 := Lib.hid (HX_x0_6.out.below HB_6.out HX_x0_6.out.lt)
  clear hb hown
  go_wp2_with fail
  refine (toSigS_any a2 l2 c2 y2 _ (HO_aSigs_7.out.more HA_7.out.size) (by omega)).mono ?_
  rintro e W_8 ⟨A_x2, c_x2, rfl, hown, hb⟩
  have HO_x2_8 := Lib.hid hown
  have HB_7 := Lib.hid hb
  have HZ_7 := Lib.hid HB_7.out.size
  have HA_8 := Lib.hid (HA_7.out.trans (HB_7.out.mono HA_7.out.size))
  have HO_aK_8 := Lib.hid (RKeys.keep HO_aK_7.out fun i hi => HB_7.out.block i (Nat.lt_of_lt_of_le hi HA_7.out.size))
  have HO_aMessage_8 := Lib.hid (HO_aMessage_7.out.below HB_7.out HA_7.out.size)
  have HO_aSigs_8 := Lib.hid (HO_aSigs_7.out.below HB_7.out HA_7.out.size)
  have HO_x0_8 := Lib.hid (HO_x0_7.out.below HB_7.out (Nat.le_trans HT_6.out HZ_6.out))
  have HO_x1_8 := Lib.hid (HO_x1_7.out.below HB_7.out (Nat.le_refl _))
  have HX_aK_8 := Lib.hid (HX_aK_7.out.below HB_7.out HX_aK_7.out.lt)
  have HX_x0_8 := Lib.hid (HX_x0_7.out.below HB_7.out HX_x0_7.out.lt)
  clear hb hown
  have x_x0_0 := HX_x0_8.out.cell (j := 0) rfl
  have x_x0_1 := HX_x0_8.out.cell (j := 1) rfl
  go_wp2_with fail
  refine (HI.out [(.slice A_x0_0 n_x0_0 c_x0_0), (.int .i64 y0.need)] A_x1 l1 c_x1 A_x2 l2 c_x2 _ (RKeys.more HO_x0_8.out.rd fun i hi => Nat.lt_of_lt_of_le hi (Nat.le_trans HT_6.out (Nat.le_trans HZ_6.out HZ_7.out))) (HO_x1_8.out.cap.1) (HO_x1_8.out.rd.more HZ_7.out) (HO_x2_8.out.cap.1) ((FOwnSig.rd HO_x2_8.out).more (Nat.le_refl _))).mono ?_
  rintro e W_9 ⟨rfl, hb⟩
  have HB_8 := Lib.hid hb
  have HZ_8 := Lib.hid HB_8.out.size
  have HA_9 := Lib.hid (HA_8.out.trans (HB_8.out.mono HA_8.out.size))
  have HO_aK_9 := Lib.hid (RKeys.keep HO_aK_8.out fun i hi => HB_8.out.block i (Nat.lt_of_lt_of_le hi HA_8.out.size))
  have HO_aMessage_9 := Lib.hid (HO_aMessage_8.out.below HB_8.out HA_8.out.size)
  have HO_aSigs_9 := Lib.hid (HO_aSigs_8.out.below HB_8.out HA_8.out.size)
  have HO_x0_9 := Lib.hid (HO_x0_8.out.below HB_8.out (Nat.le_trans HT_6.out (Nat.le_trans HZ_6.out HZ_7.out)))
  have HO_x1_9 := Lib.hid (HO_x1_8.out.below HB_8.out HZ_7.out)
  have HO_x2_9 := Lib.hid (HO_x2_8.out.below HB_8.out (Nat.le_refl _))
  have HX_aK_9 := Lib.hid (HX_aK_8.out.below HB_8.out HX_aK_8.out.lt)
  have HX_x0_9 := Lib.hid (HX_x0_8.out.below HB_8.out HX_x0_8.out.lt)
  clear hb
  clear x_x0_0 x_x0_1
  have x_aK_0 := HX_aK_9.out.cell (j := 0) rfl
  have x_aK_1 := HX_aK_9.out.cell (j := 1) rfl
  have x_x0_0 := HX_x0_9.out.cell (j := 0) rfl
  have x_x0_1 := HX_x0_9.out.cell (j := 1) rfl
  have HD_aK := Lib.hid (show RKeys.rd W_9.drew (Lt W_9.drew.heap.size) [u0_0, u0_1] y0 from RKeys.keep (RKeys.more HO_aK_9.out fun i hi => Nat.lt_of_lt_of_le hi HA_9.out.size) fun i _ => rfl)
  go_wp2_with fail
  go_region_held3 (fun w' => w'.cell? ⟨W0.heap.size, 0, none⟩ = some u0_0 ∧ w'.cell? ⟨W0.heap.size, 1, none⟩ = some u0_1 ∧ w'.cell? ⟨W_6.heap.size, 0, none⟩ = some (.slice A_x0_0 n_x0_0 c_x0_0) ∧ w'.cell? ⟨W_6.heap.size, 1, none⟩ = some (.int .i64 y0.need)) (first | exact ⟨x_aK_0, x_aK_1, x_x0_0, x_x0_1⟩ | exact ⟨x_aK_0_10, x_aK_1_10, x_x0_0_10, x_x0_1_10⟩ | exact ⟨x_aK_0_11, x_aK_1_11, x_x0_0_11, x_x0_1_11⟩) ((first
    | (go_at_call 37; (with_reducible refine (toKeys_any [u0_0, u0_1] y0 W_9.drew HD_aK.out (by omega)).mono ?_); rintro e W_10 ⟨cs__t3, rfl, hown, hb⟩; obtain ⟨A__t3_0, n__t3_0, c__t3_0, rfl⟩ := RKeys_shape hown.rd; have HO__t3_10 := Lib.hid (hown); have HB_9 := Lib.hid (below_drew hb); have HZ_9 := Lib.hid HB_9.out.size; have HA_10 := Lib.hid (HA_9.out.trans (HB_9.out.mono HA_9.out.size)); have HO_aK_10 := Lib.hid (RKeys.keep HO_aK_9.out fun i hi => HB_9.out.block i (Nat.lt_of_lt_of_le hi HA_9.out.size)); have HO_aMessage_10 := Lib.hid (HO_aMessage_9.out.below HB_9.out HA_9.out.size); have HO_aSigs_10 := Lib.hid (HO_aSigs_9.out.below HB_9.out HA_9.out.size); have HO_x0_10 := Lib.hid (HO_x0_9.out.below HB_9.out (Nat.le_trans HT_6.out (Nat.le_trans (Nat.le_trans HZ_6.out HZ_7.out) HZ_8.out))); have HO_x1_10 := Lib.hid (HO_x1_9.out.below HB_9.out (Nat.le_trans HZ_7.out HZ_8.out)); have HO_x2_10 := Lib.hid (HO_x2_9.out.below HB_9.out HZ_8.out); have HX_aK_10 := Lib.hid (HX_aK_9.out.below HB_9.out HX_aK_9.out.lt); have HX_x0_10 := Lib.hid (HX_x0_9.out.below HB_9.out HX_x0_9.out.lt); clear hb hown; have x_aK_0_10 := HX_aK_10.out.cell (j := 0) rfl; have x_aK_1_10 := HX_aK_10.out.cell (j := 1) rfl; have x_x0_0_10 := HX_x0_10.out.cell (j := 0) rfl; have x_x0_1_10 := HX_x0_10.out.cell (j := 1) rfl)
    | (go_at_call 39; (with_reducible refine (eqKeys_same _ _ [(.slice A_x0_0 n_x0_0 c_x0_0), (.int .i64 y0.need)] [(.slice A__t3_0 n__t3_0 c__t3_0), (.int .i64 y0.need)] y0 _ (RKeys.more HO_x0_10.out.rd fun i hi => Nat.lt_of_lt_of_le hi (Nat.le_trans HT_6.out (Nat.le_trans (Nat.le_trans (Nat.le_trans HZ_6.out HZ_7.out) HZ_8.out) HZ_9.out))) (RKeys.more HO__t3_10.out.rd fun i hi => Nat.lt_of_lt_of_le hi (Nat.le_refl _)) (Nat.le_refl _) (Nat.le_refl _) (by omega)).mono ?_); rintro e W_11 ⟨rfl, hb⟩; have HB_10 := Lib.hid hb; have HZ_10 := Lib.hid HB_10.out.size; have HA_11 := Lib.hid (HA_10.out.trans (HB_10.out.mono HA_10.out.size)); have HO_aK_11 := Lib.hid (RKeys.keep HO_aK_10.out fun i hi => HB_10.out.block i (Nat.lt_of_lt_of_le hi HA_10.out.size)); have HO_aMessage_11 := Lib.hid (HO_aMessage_10.out.below HB_10.out HA_10.out.size); have HO_aSigs_11 := Lib.hid (HO_aSigs_10.out.below HB_10.out HA_10.out.size); have HO_x0_11 := Lib.hid (HO_x0_10.out.below HB_10.out (Nat.le_trans HT_6.out (Nat.le_trans (Nat.le_trans (Nat.le_trans HZ_6.out HZ_7.out) HZ_8.out) HZ_9.out))); have HO_x1_11 := Lib.hid (HO_x1_10.out.below HB_10.out (Nat.le_trans (Nat.le_trans HZ_7.out HZ_8.out) HZ_9.out)); have HO_x2_11 := Lib.hid (HO_x2_10.out.below HB_10.out (Nat.le_trans HZ_8.out HZ_9.out)); have HX_aK_11 := Lib.hid (HX_aK_10.out.below HB_10.out HX_aK_10.out.lt); have HX_x0_11 := Lib.hid (HX_x0_10.out.below HB_10.out HX_x0_10.out.lt); clear hb; have x_aK_0_11 := HX_aK_11.out.cell (j := 0) rfl; have x_aK_1_11 := HX_aK_11.out.cell (j := 1) rfl; have x_x0_0_11 := HX_x0_11.out.cell (j := 0) rfl; have x_x0_1_11 := HX_x0_11.out.cell (j := 1) rfl)))
  clear x_aK_0 x_aK_1 x_x0_0 x_x0_1
  go_wp2_with fail
  refine (toIntS_any a1 l1 c1 y1 _ (HO_aMessage_11.out.more HA_11.out.size) (by omega)).mono ?_
  rintro e W_12 ⟨A__t4, c__t4, rfl, hown, hb⟩
  have HO__t4_12 := Lib.hid hown
  have HB_11 := Lib.hid hb
  have HZ_11 := Lib.hid HB_11.out.size
  have HA_12 := Lib.hid (HA_11.out.trans (HB_11.out.mono HA_11.out.size))
  have HO_aSigs_12 := Lib.hid (HO_aSigs_11.out.below HB_11.out HA_11.out.size)
  have HO_x1_12 := Lib.hid (HO_x1_11.out.below HB_11.out (Nat.le_trans (Nat.le_trans (Nat.le_trans HZ_7.out HZ_8.out) HZ_9.out) HZ_10.out))
  have HO_x2_12 := Lib.hid (HO_x2_11.out.below HB_11.out (Nat.le_trans (Nat.le_trans HZ_8.out HZ_9.out) HZ_10.out))
  clear hb hown
  go_wp2_with fail
  refine (eqIntS_same _ _ A_x1 A__t4 l1 c_x1 c__t4 y1 _ (HO_x1_12.out.rd.more (Nat.le_trans (Nat.le_trans (Nat.le_trans (Nat.le_trans HZ_7.out HZ_8.out) HZ_9.out) HZ_10.out) HZ_11.out)) (HO__t4_12.out.rd.more (Nat.le_refl _)) (by omega)).mono ?_
  rintro e W_13 ⟨rfl, hb⟩
  have HB_12 := Lib.hid hb
  have HZ_12 := Lib.hid (HB_12.out.below 0).size
  have HA_13 := Lib.hid (HA_12.out.trans (HB_12.out.below _))
  have HO_aSigs_13 := Lib.hid (HO_aSigs_12.out.same HB_12.out)
  have HO_x2_13 := Lib.hid (HO_x2_12.out.same HB_12.out)
  clear hb
  go_wp2_with fail
  refine (toSigS_any a2 l2 c2 y2 _ (HO_aSigs_13.out.more HA_13.out.size) (by omega)).mono ?_
  rintro e W_14 ⟨A__t5, c__t5, rfl, hown, hb⟩
  have HO__t5_14 := Lib.hid hown
  have HB_13 := Lib.hid hb
  have HZ_13 := Lib.hid HB_13.out.size
  have HA_14 := Lib.hid (HA_13.out.trans (HB_13.out.mono HA_13.out.size))
  have HO_x2_14 := Lib.hid (HO_x2_13.out.below HB_13.out (Nat.le_trans (Nat.le_trans (Nat.le_trans (Nat.le_trans HZ_8.out HZ_9.out) HZ_10.out) HZ_11.out) HZ_12.out))
  clear hb hown
  go_wp2_with fail
  refine (eqSigS_same _ _ A_x2 A__t5 l2 c_x2 c__t5 y2 _ ((FOwnSig.rd HO_x2_14.out).more (Nat.le_trans (Nat.le_trans (Nat.le_trans (Nat.le_trans (Nat.le_trans HZ_8.out HZ_9.out) HZ_10.out) HZ_11.out) HZ_12.out) HZ_13.out)) ((FOwnSig.rd HO__t5_14.out).more (Nat.le_refl _)) (Nat.le_refl _) (Nat.le_refl _) (by omega)).mono ?_
  rintro e W_15 ⟨rfl, hb⟩
  have HB_14 := Lib.hid hb
  have HZ_14 := Lib.hid HB_14.out.size
  have HA_15 := Lib.hid (HA_14.out.trans (HB_14.out.mono HA_14.out.size))
  clear hb
  go_wp2
  go_ret
  exact ⟨rfl, HA_15.out⟩
theorem FnExactIsSigned_walk (W0 : World) (u0_0 u0_1 : Value) (y0 : Keys) (w0 : RKeys.rd W0 (Lt W0.heap.size) [u0_0, u0_1] y0) (a1 : Option Addr) (l1 c1 : Nat) (z1 : List Int) (w1 : SL.IsRow .i64 W0 a1 l1 c1 z1) (a2 : Option Addr) (l2 c2 : Nat) (y2 : List Sig) (w2 : Rds RSig W0 (Lt W0.heap.size) a2 l2 y2) (hC2 : l2 ≤ c2) (hM2 : c2 ≤ maxLen) :
    Calls Try.prog 9 #[.agg #[u0_0, u0_1], .slice a1 l1 c1, .slice a2 l2 c2] W0 fun e w' => e = .returned (.bool true) ∧ Below W0.heap.size W0 w' := by
  have hR1 := rd_of_row w1
  have hC1 := row_cap w1
  have hL1 := hR1.len
  generalize z1.take l1 = y1 at hR1 hL1
  clear w1
  have hR2 : FRdSig W0 W0.heap.size a2 l2 y2 := FRd.of flSig w2
  have hL2 := hR2.len
  clear w2
  by_cases hg1 : 1048576 < l1
  · have hg : 1048576 < (l1 : Int) := by omega
    clear w0
    clear hR1 hL1 hC1
    clear hR2 hL2 hC2 hM2
    go_enter Try.func9, Try.ntmps9
    go_wp2
    go_ret
    exact ⟨rfl, ((Below.refl _ _).alloc (by first | (simp; done) | (simp; omega)) _)⟩
  have HA_0 := Lib.hid (show Below W0.heap.size W0 (W0.alloc (.cells #[u0_0, u0_1] 53)) from (Below.refl _ _).alloc (by first | (simp; done) | (simp; omega)) _)
  have HO_aK_0 := Lib.hid (RKeys.keep w0 fun i hi => HA_0.out.block i hi)
  have HX_aK_0 := Lib.hid (show Box (W0.alloc (.cells #[u0_0, u0_1] 53)) (W0.heap.size) [u0_0, u0_1] from (show Box (W0.alloc (.cells #[u0_0, u0_1] 53)) (W0.heap.size) [u0_0, u0_1] by have h := Box.new W0 #[u0_0, u0_1] 53; simpa using h))
  have HO_aMessage_0 := Lib.hid (hR1.below HA_0.out (Nat.le_refl _))
  have HC1 := Lib.hid hC1
  have HO_aSigs_0 := Lib.hid (hR2.below HA_0.out (Nat.le_refl _))
  have HC2 := Lib.hid hC2
  have HM2 := Lib.hid hM2
  clear w0
  clear hR1
  clear hR2
  go_enter Try.func9, Try.ntmps9
  have x_aK_0 := HX_aK_0.out.cell (j := 0) rfl
  have x_aK_1 := HX_aK_0.out.cell (j := 1) rfl
  by_cases hn_aK : 1048576 < (totKeys y0 : Int)
  · have HN := Lib.hid hn_aK
    clear hn_aK
    go_wp2_with fail
    refine (szKeys_any [u0_0, u0_1] y0 1048576 _ (RKeys.more HO_aK_0.out fun i hi => Nat.lt_of_lt_of_le hi HA_0.out.size) (by omega) (by omega)).mono ?_
    rw [if_pos HN.out]
    rintro e W_1 ⟨rfl, hb⟩
    have HAe := Lib.hid (HA_0.out.trans (hb.mono HA_0.out.size))
    clear hb
    go_wp2
    go_ret
    exact ⟨rfl, HAe.out⟩
  have hY0 : totKeys y0 ≤ 1048576 := by omega
  have HN_aK := Lib.hid hn_aK
  clear hn_aK
  go_wp2_with fail
  refine (szKeys_any [u0_0, u0_1] y0 1048576 _ (RKeys.more HO_aK_0.out fun i hi => Nat.lt_of_lt_of_le hi HA_0.out.size) (by omega) (by omega)).mono ?_
  rw [if_neg (show ¬ 1048576 < (totKeys y0 : Int) by have := HN_aK.out; omega)]
  rintro e W_1 ⟨rfl, hb⟩
  obtain ⟨qq0, hqq0⟩ : ∃ x, x = 1048576 - (totKeys y0 : Int) := ⟨_, rfl⟩
  rw [← hqq0]
  have hqq0l : 0 ≤ qq0 ∧ qq0 ≤ 1048576 := by have := HN_aK.out; omega
  have hqq0n : ¬ qq0 < 0 := by omega
  clear hqq0
  have HB_0 := Lib.hid hb
  have HZ_0 := Lib.hid HB_0.out.size
  have HA_1 := Lib.hid (HA_0.out.trans (HB_0.out.mono HA_0.out.size))
  have HO_aK_1 := Lib.hid (RKeys.keep HO_aK_0.out fun i hi => HB_0.out.block i (Nat.lt_of_lt_of_le hi HA_0.out.size))
  have HO_aMessage_1 := Lib.hid (HO_aMessage_0.out.below HB_0.out HA_0.out.size)
  have HO_aSigs_1 := Lib.hid (HO_aSigs_0.out.below HB_0.out HA_0.out.size)
  have HX_aK_1 := Lib.hid (HX_aK_0.out.below HB_0.out HX_aK_0.out.lt)
  clear hb
  clear x_aK_0 x_aK_1
  by_cases hn_aSigs : qq0 < (l2 : Int)
  · have HN := Lib.hid hn_aSigs
    clear hn_aSigs
    go_wp2_with fail
    refine (szSigS_any a2 l2 c2 qq0 _ (by omega) (by omega) (Nat.le_trans HC2.out HM2.out)).mono ?_
    rw [if_pos HN.out]
    rintro e W_2 ⟨rfl, rfl⟩
    go_wp2
    go_ret
    exact ⟨rfl, HA_1.out⟩
  have HN_aSigs := Lib.hid hn_aSigs
  clear hn_aSigs
  go_wp2_with fail
  refine (szSigS_any a2 l2 c2 qq0 _ (by omega) (by omega) (Nat.le_trans HC2.out HM2.out)).mono ?_
  rw [if_neg (show ¬ qq0 < (l2 : Int) by have := HN_aSigs.out; omega)]
  rintro e W_2 ⟨rfl, rfl⟩
  obtain ⟨qs1, hqs1⟩ : ∃ x, x = qq0 - (l2 : Int) := ⟨_, rfl⟩
  rw [← hqs1]
  have hqs1l : 0 ≤ qs1 ∧ qs1 ≤ 1048576 := by have := HN_aSigs.out; omega
  have hqs1n : l2 ≤ 1048576 := by have := HN_aSigs.out; omega
  clear hqs1
  have hqs1p : ¬ qs1 < 0 := by omega
  have x_aK_0 := HX_aK_1.out.cell (j := 0) rfl
  have x_aK_1 := HX_aK_1.out.cell (j := 1) rfl
  obtain ⟨r0, hS, hI⟩ := both_IsSigned y0 y1 y2 hY0 (by omega) (by omega)
  have HS := Lib.hid hS
  have HI := Lib.hid hI
  clear hS hI
  have hcy0 := cntKeys_le y0
  go_wp2_with fail
  refine (toKeys_any [u0_0, u0_1] y0 _ (RKeys.more HO_aK_1.out fun i hi => Nat.lt_of_lt_of_le hi HA_1.out.size) (by omega)).mono ?_
  rintro e W_2 ⟨cs__t0, rfl, hown, hb⟩
  obtain ⟨A__t0_0, n__t0_0, c__t0_0, rfl⟩ := RKeys_shape hown.rd
  have HO__t0_2 := Lib.hid (hown)
  have HB_1 := Lib.hid hb
  have HZ_1 := Lib.hid HB_1.out.size
  have HA_2 := Lib.hid (HA_1.out.trans (HB_1.out.mono HA_1.out.size))
  have HO_aK_2 := Lib.hid (RKeys.keep HO_aK_1.out fun i hi => HB_1.out.block i (Nat.lt_of_lt_of_le hi HA_1.out.size))
  have HO_aMessage_2 := Lib.hid (HO_aMessage_1.out.below HB_1.out HA_1.out.size)
  have HO_aSigs_2 := Lib.hid (HO_aSigs_1.out.below HB_1.out HA_1.out.size)
  have HX_aK_2 := Lib.hid (HX_aK_1.out.below HB_1.out HX_aK_1.out.lt)
  clear hb hown
  go_wp2_with fail
  refine (toIntS_any a1 l1 c1 y1 _ (HO_aMessage_2.out.more HA_2.out.size) (by omega)).mono ?_
  rintro e W_3 ⟨A__t1, c__t1, rfl, hown, hb⟩
  have HO__t1_3 := Lib.hid hown
  have HB_2 := Lib.hid hb
  have HZ_2 := Lib.hid HB_2.out.size
  have HA_3 := Lib.hid (HA_2.out.trans (HB_2.out.mono HA_2.out.size))
  have HO_aK_3 := Lib.hid (RKeys.keep HO_aK_2.out fun i hi => HB_2.out.block i (Nat.lt_of_lt_of_le hi HA_2.out.size))
  have HO_aMessage_3 := Lib.hid (HO_aMessage_2.out.below HB_2.out HA_2.out.size)
  have HO_aSigs_3 := Lib.hid (HO_aSigs_2.out.below HB_2.out HA_2.out.size)
  have HO__t0_3 := Lib.hid (HO__t0_2.out.below HB_2.out (Nat.le_refl _))
  have HX_aK_3 := Lib.hid (HX_aK_2.out.below HB_2.out HX_aK_2.out.lt)
  clear hb hown
  go_wp2_with fail
  refine (toSigS_any a2 l2 c2 y2 _ (HO_aSigs_3.out.more HA_3.out.size) (by omega)).mono ?_
  rintro e W_4 ⟨A__t2, c__t2, rfl, hown, hb⟩
  have HO__t2_4 := Lib.hid hown
  have HB_3 := Lib.hid hb
  have HZ_3 := Lib.hid HB_3.out.size
  have HA_4 := Lib.hid (HA_3.out.trans (HB_3.out.mono HA_3.out.size))
  have HO_aK_4 := Lib.hid (RKeys.keep HO_aK_3.out fun i hi => HB_3.out.block i (Nat.lt_of_lt_of_le hi HA_3.out.size))
  have HO_aMessage_4 := Lib.hid (HO_aMessage_3.out.below HB_3.out HA_3.out.size)
  have HO_aSigs_4 := Lib.hid (HO_aSigs_3.out.below HB_3.out HA_3.out.size)
  have HO__t0_4 := Lib.hid (HO__t0_3.out.below HB_3.out HZ_2.out)
  have HO__t1_4 := Lib.hid (HO__t1_3.out.below HB_3.out (Nat.le_refl _))
  have HX_aK_4 := Lib.hid (HX_aK_3.out.below HB_3.out HX_aK_3.out.lt)
  clear hb hown
  go_wp2_with fail
  refine (HS.out [(.slice A__t0_0 n__t0_0 c__t0_0), (.int .i64 y0.need)] A__t1 l1 c__t1 A__t2 l2 c__t2 _ (RKeys.more HO__t0_4.out.rd fun i hi => Nat.lt_of_lt_of_le hi (Nat.le_trans HZ_2.out HZ_3.out)) (HO__t1_4.out.cap.1) (HO__t1_4.out.rd.more HZ_3.out) (HO__t2_4.out.cap.1) ((FOwnSig.rd HO__t2_4.out).more (Nat.le_refl _))).mono ?_
  rintro e W_5 ⟨rfl, hb⟩
  have HB_4 := Lib.hid hb
  have HZ_4 := Lib.hid HB_4.out.size
  have HA_5 := Lib.hid (HA_4.out.trans (HB_4.out.mono HA_4.out.size))
  have HO_aK_5 := Lib.hid (RKeys.keep HO_aK_4.out fun i hi => HB_4.out.block i (Nat.lt_of_lt_of_le hi HA_4.out.size))
  have HO_aMessage_5 := Lib.hid (HO_aMessage_4.out.below HB_4.out HA_4.out.size)
  have HO_aSigs_5 := Lib.hid (HO_aSigs_4.out.below HB_4.out HA_4.out.size)
  have HX_aK_5 := Lib.hid (HX_aK_4.out.below HB_4.out HX_aK_4.out.lt)
  clear hb
  clear x_aK_0 x_aK_1
  have x_aK_0 := HX_aK_5.out.cell (j := 0) rfl
  have x_aK_1 := HX_aK_5.out.cell (j := 1) rfl
  go_wp2_with fail
  refine (toKeys_any [u0_0, u0_1] y0 _ (RKeys.more HO_aK_5.out fun i hi => Nat.lt_of_lt_of_le hi HA_5.out.size) (by omega)).mono ?_
  rintro e W_6 ⟨cs_x0, rfl, hown, hb⟩
  obtain ⟨A_x0_0, n_x0_0, c_x0_0, rfl⟩ := RKeys_shape hown.rd
  have HO_x0_6 := Lib.hid (hown.alloc (.cells #[(.slice A_x0_0 n_x0_0 c_x0_0), (.int .i64 y0.need)] 26))
  have HT_6 := Lib.hid (show W_6.heap.size ≤ (W_6.alloc (.cells #[(.slice A_x0_0 n_x0_0 c_x0_0), (.int .i64 y0.need)] 26)).heap.size by simp)
  have hb5 := hb.alloc hb.size (.cells #[(.slice A_x0_0 n_x0_0 c_x0_0), (.int .i64 y0.need)] 26)
  have HB_5 := Lib.hid hb5
  have HQ_6 := Lib.hid hb.size
  have HZ_5 := Lib.hid HB_5.out.size
  have HA_6 := Lib.hid (HA_5.out.trans (HB_5.out.mono HA_5.out.size))
  have HO_aK_6 := Lib.hid (RKeys.keep HO_aK_5.out fun i hi => HB_5.out.block i (Nat.lt_of_lt_of_le hi HA_5.out.size))
  have HO_aMessage_6 := Lib.hid (HO_aMessage_5.out.below HB_5.out HA_5.out.size)
  have HO_aSigs_6 := Lib.hid (HO_aSigs_5.out.below HB_5.out HA_5.out.size)
  have HX_aK_6 := Lib.hid (HX_aK_5.out.below HB_5.out HX_aK_5.out.lt)
  clear hb hown
  have HX_x0_6 := Lib.hid (show Box (W_6.alloc (.cells #[(.slice A_x0_0 n_x0_0 c_x0_0), (.int .i64 y0.need)] 26)) W_6.heap.size [(.slice A_x0_0 n_x0_0 c_x0_0), (.int .i64 y0.need)] from Box.new W_6 #[(.slice A_x0_0 n_x0_0 c_x0_0), (.int .i64 y0.need)] 26)
  clear x_aK_0 x_aK_1
  go_wp2_with fail
  refine (toIntS_any a1 l1 c1 y1 _ (HO_aMessage_6.out.more HA_6.out.size) (by omega)).mono ?_
  rintro e W_7 ⟨A_x1, c_x1, rfl, hown, hb⟩
  have HO_x1_7 := Lib.hid hown
  have HB_6 := Lib.hid hb
  have HZ_6 := Lib.hid HB_6.out.size
  have HA_7 := Lib.hid (HA_6.out.trans (HB_6.out.mono HA_6.out.size))
  have HO_aK_7 := Lib.hid (RKeys.keep HO_aK_6.out fun i hi => HB_6.out.block i (Nat.lt_of_lt_of_le hi HA_6.out.size))
  have HO_aMessage_7 := Lib.hid (HO_aMessage_6.out.below HB_6.out HA_6.out.size)
  have HO_aSigs_7 := Lib.hid (HO_aSigs_6.out.below HB_6.out HA_6.out.size)
  have HO_x0_7 := Lib.hid (HO_x0_6.out.below HB_6.out (Nat.le_trans HT_6.out (Nat.le_refl _)))
  have HX_aK_7 := Lib.hid (HX_aK_6.out.below HB_6.out HX_aK_6.out.lt)
  have HX_x0_7 := Lib.hid (HX_x0_6.out.below HB_6.out HX_x0_6.out.lt)
  clear hb hown
  go_wp2_with fail
  refine (toSigS_any a2 l2 c2 y2 _ (HO_aSigs_7.out.more HA_7.out.size) (by omega)).mono ?_
  rintro e W_8 ⟨A_x2, c_x2, rfl, hown, hb⟩
  have HO_x2_8 := Lib.hid hown
  have HB_7 := Lib.hid hb
  have HZ_7 := Lib.hid HB_7.out.size
  have HA_8 := Lib.hid (HA_7.out.trans (HB_7.out.mono HA_7.out.size))
  have HO_aK_8 := Lib.hid (RKeys.keep HO_aK_7.out fun i hi => HB_7.out.block i (Nat.lt_of_lt_of_le hi HA_7.out.size))
  have HO_aMessage_8 := Lib.hid (HO_aMessage_7.out.below HB_7.out HA_7.out.size)
  have HO_aSigs_8 := Lib.hid (HO_aSigs_7.out.below HB_7.out HA_7.out.size)
  have HO_x0_8 := Lib.hid (HO_x0_7.out.below HB_7.out (Nat.le_trans HT_6.out HZ_6.out))
  have HO_x1_8 := Lib.hid (HO_x1_7.out.below HB_7.out (Nat.le_refl _))
  have HX_aK_8 := Lib.hid (HX_aK_7.out.below HB_7.out HX_aK_7.out.lt)
  have HX_x0_8 := Lib.hid (HX_x0_7.out.below HB_7.out HX_x0_7.out.lt)
  clear hb hown
  have x_x0_0 := HX_x0_8.out.cell (j := 0) rfl
  have x_x0_1 := HX_x0_8.out.cell (j := 1) rfl
  go_wp2_with fail
  refine (HI.out [(.slice A_x0_0 n_x0_0 c_x0_0), (.int .i64 y0.need)] A_x1 l1 c_x1 A_x2 l2 c_x2 _ (RKeys.more HO_x0_8.out.rd fun i hi => Nat.lt_of_lt_of_le hi (Nat.le_trans HT_6.out (Nat.le_trans HZ_6.out HZ_7.out))) (HO_x1_8.out.cap.1) (HO_x1_8.out.rd.more HZ_7.out) (HO_x2_8.out.cap.1) ((FOwnSig.rd HO_x2_8.out).more (Nat.le_refl _))).mono ?_
  rintro e W_9 ⟨rfl, hb⟩
  have HB_8 := Lib.hid hb
  have HZ_8 := Lib.hid HB_8.out.size
  have HA_9 := Lib.hid (HA_8.out.trans (HB_8.out.mono HA_8.out.size))
  have HO_aK_9 := Lib.hid (RKeys.keep HO_aK_8.out fun i hi => HB_8.out.block i (Nat.lt_of_lt_of_le hi HA_8.out.size))
  have HO_aMessage_9 := Lib.hid (HO_aMessage_8.out.below HB_8.out HA_8.out.size)
  have HO_aSigs_9 := Lib.hid (HO_aSigs_8.out.below HB_8.out HA_8.out.size)
  have HO_x0_9 := Lib.hid (HO_x0_8.out.below HB_8.out (Nat.le_trans HT_6.out (Nat.le_trans HZ_6.out HZ_7.out)))
  have HO_x1_9 := Lib.hid (HO_x1_8.out.below HB_8.out HZ_7.out)
  have HO_x2_9 := Lib.hid (HO_x2_8.out.below HB_8.out (Nat.le_refl _))
  have HX_aK_9 := Lib.hid (HX_aK_8.out.below HB_8.out HX_aK_8.out.lt)
  have HX_x0_9 := Lib.hid (HX_x0_8.out.below HB_8.out HX_x0_8.out.lt)
  clear hb
  clear x_x0_0 x_x0_1
  have x_aK_0 := HX_aK_9.out.cell (j := 0) rfl
  have x_aK_1 := HX_aK_9.out.cell (j := 1) rfl
  have x_x0_0 := HX_x0_9.out.cell (j := 0) rfl
  have x_x0_1 := HX_x0_9.out.cell (j := 1) rfl
  have HD_aK := Lib.hid (show RKeys.rd W_9.drew (Lt W_9.drew.heap.size) [u0_0, u0_1] y0 from RKeys.keep (RKeys.more HO_aK_9.out fun i hi => Nat.lt_of_lt_of_le hi HA_9.out.size) fun i _ => rfl)
  go_wp2_with fail
  go_region_held3 (fun w' => w'.cell? ⟨W0.heap.size, 0, none⟩ = some u0_0 ∧ w'.cell? ⟨W0.heap.size, 1, none⟩ = some u0_1 ∧ w'.cell? ⟨W_6.heap.size, 0, none⟩ = some (.slice A_x0_0 n_x0_0 c_x0_0) ∧ w'.cell? ⟨W_6.heap.size, 1, none⟩ = some (.int .i64 y0.need)) (first | exact ⟨x_aK_0, x_aK_1, x_x0_0, x_x0_1⟩ | exact ⟨x_aK_0_10, x_aK_1_10, x_x0_0_10, x_x0_1_10⟩ | exact ⟨x_aK_0_11, x_aK_1_11, x_x0_0_11, x_x0_1_11⟩) ((first
    | (go_at_call 37; (with_reducible refine (toKeys_any [u0_0, u0_1] y0 W_9.drew HD_aK.out (by omega)).mono ?_); rintro e W_10 ⟨cs__t3, rfl, hown, hb⟩; obtain ⟨A__t3_0, n__t3_0, c__t3_0, rfl⟩ := RKeys_shape hown.rd; have HO__t3_10 := Lib.hid (hown); have HB_9 := Lib.hid (below_drew hb); have HZ_9 := Lib.hid HB_9.out.size; have HA_10 := Lib.hid (HA_9.out.trans (HB_9.out.mono HA_9.out.size)); have HO_aK_10 := Lib.hid (RKeys.keep HO_aK_9.out fun i hi => HB_9.out.block i (Nat.lt_of_lt_of_le hi HA_9.out.size)); have HO_aMessage_10 := Lib.hid (HO_aMessage_9.out.below HB_9.out HA_9.out.size); have HO_aSigs_10 := Lib.hid (HO_aSigs_9.out.below HB_9.out HA_9.out.size); have HO_x0_10 := Lib.hid (HO_x0_9.out.below HB_9.out (Nat.le_trans HT_6.out (Nat.le_trans (Nat.le_trans HZ_6.out HZ_7.out) HZ_8.out))); have HO_x1_10 := Lib.hid (HO_x1_9.out.below HB_9.out (Nat.le_trans HZ_7.out HZ_8.out)); have HO_x2_10 := Lib.hid (HO_x2_9.out.below HB_9.out HZ_8.out); have HX_aK_10 := Lib.hid (HX_aK_9.out.below HB_9.out HX_aK_9.out.lt); have HX_x0_10 := Lib.hid (HX_x0_9.out.below HB_9.out HX_x0_9.out.lt); clear hb hown; have x_aK_0_10 := HX_aK_10.out.cell (j := 0) rfl; have x_aK_1_10 := HX_aK_10.out.cell (j := 1) rfl; have x_x0_0_10 := HX_x0_10.out.cell (j := 0) rfl; have x_x0_1_10 := HX_x0_10.out.cell (j := 1) rfl)
    | (go_at_call 39; (with_reducible refine (eqKeys_same _ _ [(.slice A_x0_0 n_x0_0 c_x0_0), (.int .i64 y0.need)] [(.slice A__t3_0 n__t3_0 c__t3_0), (.int .i64 y0.need)] y0 _ (RKeys.more HO_x0_10.out.rd fun i hi => Nat.lt_of_lt_of_le hi (Nat.le_trans HT_6.out (Nat.le_trans (Nat.le_trans (Nat.le_trans HZ_6.out HZ_7.out) HZ_8.out) HZ_9.out))) (RKeys.more HO__t3_10.out.rd fun i hi => Nat.lt_of_lt_of_le hi (Nat.le_refl _)) (Nat.le_refl _) (Nat.le_refl _) (by omega)).mono ?_); rintro e W_11 ⟨rfl, hb⟩; have HB_10 := Lib.hid hb; have HZ_10 := Lib.hid HB_10.out.size; have HA_11 := Lib.hid (HA_10.out.trans (HB_10.out.mono HA_10.out.size)); have HO_aK_11 := Lib.hid (RKeys.keep HO_aK_10.out fun i hi => HB_10.out.block i (Nat.lt_of_lt_of_le hi HA_10.out.size)); have HO_aMessage_11 := Lib.hid (HO_aMessage_10.out.below HB_10.out HA_10.out.size); have HO_aSigs_11 := Lib.hid (HO_aSigs_10.out.below HB_10.out HA_10.out.size); have HO_x0_11 := Lib.hid (HO_x0_10.out.below HB_10.out (Nat.le_trans HT_6.out (Nat.le_trans (Nat.le_trans (Nat.le_trans HZ_6.out HZ_7.out) HZ_8.out) HZ_9.out))); have HO_x1_11 := Lib.hid (HO_x1_10.out.below HB_10.out (Nat.le_trans (Nat.le_trans HZ_7.out HZ_8.out) HZ_9.out)); have HO_x2_11 := Lib.hid (HO_x2_10.out.below HB_10.out (Nat.le_trans HZ_8.out HZ_9.out)); have HX_aK_11 := Lib.hid (HX_aK_10.out.below HB_10.out HX_aK_10.out.lt); have HX_x0_11 := Lib.hid (HX_x0_10.out.below HB_10.out HX_x0_10.out.lt); clear hb; have x_aK_0_11 := HX_aK_11.out.cell (j := 0) rfl; have x_aK_1_11 := HX_aK_11.out.cell (j := 1) rfl; have x_x0_0_11 := HX_x0_11.out.cell (j := 0) rfl; have x_x0_1_11 := HX_x0_11.out.cell (j := 1) rfl)))
  clear x_aK_0 x_aK_1 x_x0_0 x_x0_1
  go_wp2_with fail
  refine (toIntS_any a1 l1 c1 y1 _ (HO_aMessage_11.out.more HA_11.out.size) (by omega)).mono ?_
  rintro e W_12 ⟨A__t4, c__t4, rfl, hown, hb⟩
  have HO__t4_12 := Lib.hid hown
  have HB_11 := Lib.hid hb
  have HZ_11 := Lib.hid HB_11.out.size
  have HA_12 := Lib.hid (HA_11.out.trans (HB_11.out.mono HA_11.out.size))
  have HO_aSigs_12 := Lib.hid (HO_aSigs_11.out.below HB_11.out HA_11.out.size)
  have HO_x1_12 := Lib.hid (HO_x1_11.out.below HB_11.out (Nat.le_trans (Nat.le_trans (Nat.le_trans HZ_7.out HZ_8.out) HZ_9.out) HZ_10.out))
  have HO_x2_12 := Lib.hid (HO_x2_11.out.below HB_11.out (Nat.le_trans (Nat.le_trans HZ_8.out HZ_9.out) HZ_10.out))
  clear hb hown
  go_wp2_with fail
  refine (eqIntS_same _ _ A_x1 A__t4 l1 c_x1 c__t4 y1 _ (HO_x1_12.out.rd.more (Nat.le_trans (Nat.le_trans (Nat.le_trans (Nat.le_trans HZ_7.out HZ_8.out) HZ_9.out) HZ_10.out) HZ_11.out)) (HO__t4_12.out.rd.more (Nat.le_refl _)) (by omega)).mono ?_
  rintro e W_13 ⟨rfl, hb⟩
  have HB_12 := Lib.hid hb
  have HZ_12 := Lib.hid (HB_12.out.below 0).size
  have HA_13 := Lib.hid (HA_12.out.trans (HB_12.out.below _))
  have HO_aSigs_13 := Lib.hid (HO_aSigs_12.out.same HB_12.out)
  have HO_x2_13 := Lib.hid (HO_x2_12.out.same HB_12.out)
  clear hb
  go_wp2_with fail
  refine (toSigS_any a2 l2 c2 y2 _ (HO_aSigs_13.out.more HA_13.out.size) (by omega)).mono ?_
  rintro e W_14 ⟨A__t5, c__t5, rfl, hown, hb⟩
  have HO__t5_14 := Lib.hid hown
  have HB_13 := Lib.hid hb
  have HZ_13 := Lib.hid HB_13.out.size
  have HA_14 := Lib.hid (HA_13.out.trans (HB_13.out.mono HA_13.out.size))
  have HO_x2_14 := Lib.hid (HO_x2_13.out.below HB_13.out (Nat.le_trans (Nat.le_trans (Nat.le_trans (Nat.le_trans HZ_8.out HZ_9.out) HZ_10.out) HZ_11.out) HZ_12.out))
  clear hb hown
  go_wp2_with fail
  refine (eqSigS_same _ _ A_x2 A__t5 l2 c_x2 c__t5 y2 _ ((FOwnSig.rd HO_x2_14.out).more (Nat.le_trans (Nat.le_trans (Nat.le_trans (Nat.le_trans (Nat.le_trans HZ_8.out HZ_9.out) HZ_10.out) HZ_11.out) HZ_12.out) HZ_13.out)) ((FOwnSig.rd HO__t5_14.out).more (Nat.le_refl _)) (Nat.le_refl _) (Nat.le_refl _) (by omega)).mono ?_
  rintro e W_15 ⟨rfl, hb⟩
  have HB_14 := Lib.hid hb
  have HZ_14 := Lib.hid HB_14.out.size
  have HA_15 := Lib.hid (HA_14.out.trans (HB_14.out.mono HA_14.out.size))
  clear hb
  go_wp2
  go_ret
  exact ⟨rfl, HA_15.out⟩
theorem FnExactSignersOf_walk (W0 : World) (a0 : Option Addr) (l0 c0 : Nat) (z0 : List Int) (w0 : SL.IsRow .i64 W0 a0 l0 c0 z0) (a1 : Option Addr) (l1 c1 : Nat) (y1 : List Sig) (w1 : Rds RSig W0 (Lt W0.heap.size) a1 l1 y1) (hC1 : l1 ≤ c1) (hM1 : c1 ≤ maxLen) :
    Calls Try.prog 10 #[.slice a0 l0 c0, .slice a1 l1 c1] W0 fun e w' => e = .returned (.bool true) ∧ Below W0.heap.size W0 w' := by
  have hR0 := rd_of_row w0
  have hC0 := row_cap w0
  have hL0 := hR0.len
  generalize z0.take l0 = y0 at hR0 hL0
  clear w0
  have hR1 : FRdSig W0 W0.heap.size a1 l1 y1 := FRd.of flSig w1
  have hL1 := hR1.len
  clear w1
  by_cases hg0 : 1048576 < l0
  · have hg : 1048576 < (l0 : Int) := by omega
    clear hR0 hL0 hC0
    clear hR1 hL1 hC1 hM1
    go_enter Try.func10, Try.ntmps10
    go_wp2
    go_ret
    exact ⟨rfl, (Below.refl _ _)⟩
  have HA_0 := Lib.hid (show Below W0.heap.size W0 W0 from Below.refl _ _)
  have HO_aMessage_0 := Lib.hid (hR0.below HA_0.out (Nat.le_refl _))
  have HC0 := Lib.hid hC0
  have HO_aSigs_0 := Lib.hid (hR1.below HA_0.out (Nat.le_refl _))
  have HC1 := Lib.hid hC1
  have HM1 := Lib.hid hM1
  clear hR0
  clear hR1
  go_enter Try.func10, Try.ntmps10
  by_cases hn_aSigs : 1048576 < (l1 : Int)
  · have HN := Lib.hid hn_aSigs
    clear hn_aSigs
    go_wp2_with fail
    refine (szSigS_any a1 l1 c1 1048576 _ (by omega) (by omega) (Nat.le_trans HC1.out HM1.out)).mono ?_
    rw [if_pos HN.out]
    rintro e W_1 ⟨rfl, rfl⟩
    go_wp2
    go_ret
    exact ⟨rfl, HA_0.out⟩
  have HN_aSigs := Lib.hid hn_aSigs
  clear hn_aSigs
  go_wp2_with fail
  refine (szSigS_any a1 l1 c1 1048576 _ (by omega) (by omega) (Nat.le_trans HC1.out HM1.out)).mono ?_
  rw [if_neg (show ¬ 1048576 < (l1 : Int) by have := HN_aSigs.out; omega)]
  rintro e W_1 ⟨rfl, rfl⟩
  obtain ⟨qs0, hqs0⟩ : ∃ x, x = 1048576 - (l1 : Int) := ⟨_, rfl⟩
  rw [← hqs0]
  have hqs0l : 0 ≤ qs0 ∧ qs0 ≤ 1048576 := by have := HN_aSigs.out; omega
  have hqs0n : l1 ≤ 1048576 := by have := HN_aSigs.out; omega
  clear hqs0
  have hqs0p : ¬ qs0 < 0 := by omega
  obtain ⟨r0, hlen0, hS, hI⟩ := both_SignersOf y0 y1 (by omega) (by omega)
  have HS := Lib.hid hS
  have HI := Lib.hid hI
  clear hS hI
  go_wp2_with fail
  refine (toIntS_any a0 l0 c0 y0 _ (HO_aMessage_0.out.more HA_0.out.size) (by omega)).mono ?_
  rintro e W_1 ⟨A__t0, c__t0, rfl, hown, hb⟩
  have HO__t0_1 := Lib.hid hown
  have HB_0 := Lib.hid hb
  have HZ_0 := Lib.hid HB_0.out.size
  have HA_1 := Lib.hid (HA_0.out.trans (HB_0.out.mono HA_0.out.size))
  have HO_aMessage_1 := Lib.hid (HO_aMessage_0.out.below HB_0.out HA_0.out.size)
  have HO_aSigs_1 := Lib.hid (HO_aSigs_0.out.below HB_0.out HA_0.out.size)
  clear hb hown
  go_wp2_with fail
  refine (toSigS_any a1 l1 c1 y1 _ (HO_aSigs_1.out.more HA_1.out.size) (by omega)).mono ?_
  rintro e W_2 ⟨A__t1, c__t1, rfl, hown, hb⟩
  have HO__t1_2 := Lib.hid hown
  have HB_1 := Lib.hid hb
  have HZ_1 := Lib.hid HB_1.out.size
  have HA_2 := Lib.hid (HA_1.out.trans (HB_1.out.mono HA_1.out.size))
  have HO_aMessage_2 := Lib.hid (HO_aMessage_1.out.below HB_1.out HA_1.out.size)
  have HO_aSigs_2 := Lib.hid (HO_aSigs_1.out.below HB_1.out HA_1.out.size)
  have HO__t0_2 := Lib.hid (HO__t0_1.out.below HB_1.out (Nat.le_refl _))
  clear hb hown
  go_wp2_with fail
  refine (HS.out A__t0 l0 c__t0 A__t1 l1 c__t1 _ (HO__t0_2.out.cap.1) (HO__t0_2.out.rd.more HZ_1.out) (HO__t1_2.out.cap.1) ((FOwnSig.rd HO__t1_2.out).more (Nat.le_refl _))).mono ?_
  rintro e W_3 ⟨A_w0, c_w0, rfl, ho0, hb⟩
  have HO_w0_3 := Lib.hid ho0
  have HB_2 := Lib.hid hb
  have HZ_2 := Lib.hid HB_2.out.size
  have HA_3 := Lib.hid (HA_2.out.trans (HB_2.out.mono HA_2.out.size))
  have HO_aMessage_3 := Lib.hid (HO_aMessage_2.out.below HB_2.out HA_2.out.size)
  have HO_aSigs_3 := Lib.hid (HO_aSigs_2.out.below HB_2.out HA_2.out.size)
  clear hb ho0
  go_wp2_with fail
  refine (toIntS_any a0 l0 c0 y0 _ (HO_aMessage_3.out.more HA_3.out.size) (by omega)).mono ?_
  rintro e W_4 ⟨A_x0, c_x0, rfl, hown, hb⟩
  have HO_x0_4 := Lib.hid hown
  have HB_3 := Lib.hid hb
  have HZ_3 := Lib.hid HB_3.out.size
  have HA_4 := Lib.hid (HA_3.out.trans (HB_3.out.mono HA_3.out.size))
  have HO_aMessage_4 := Lib.hid (HO_aMessage_3.out.below HB_3.out HA_3.out.size)
  have HO_aSigs_4 := Lib.hid (HO_aSigs_3.out.below HB_3.out HA_3.out.size)
  have HO_w0_4 := Lib.hid (HO_w0_3.out.below HB_3.out (Nat.le_refl _))
  clear hb hown
  go_wp2_with fail
  refine (toSigS_any a1 l1 c1 y1 _ (HO_aSigs_4.out.more HA_4.out.size) (by omega)).mono ?_
  rintro e W_5 ⟨A_x1, c_x1, rfl, hown, hb⟩
  have HO_x1_5 := Lib.hid hown
  have HB_4 := Lib.hid hb
  have HZ_4 := Lib.hid HB_4.out.size
  have HA_5 := Lib.hid (HA_4.out.trans (HB_4.out.mono HA_4.out.size))
  have HO_aMessage_5 := Lib.hid (HO_aMessage_4.out.below HB_4.out HA_4.out.size)
  have HO_aSigs_5 := Lib.hid (HO_aSigs_4.out.below HB_4.out HA_4.out.size)
  have HO_w0_5 := Lib.hid (HO_w0_4.out.below HB_4.out HZ_3.out)
  have HO_x0_5 := Lib.hid (HO_x0_4.out.below HB_4.out (Nat.le_refl _))
  clear hb hown
  go_wp2_with fail
  refine (HI.out A_x0 l0 c_x0 A_x1 l1 c_x1 _ (HO_x0_5.out.cap.1) (HO_x0_5.out.rd.more HZ_4.out) (HO_x1_5.out.cap.1) ((FOwnSig.rd HO_x1_5.out).more (Nat.le_refl _))).mono ?_
  rintro e W_6 ⟨A_g0, c_g0, rfl, ho0, hb⟩
  have HO_g0_6 := Lib.hid ho0
  have HB_5 := Lib.hid hb
  have HZ_5 := Lib.hid HB_5.out.size
  have HA_6 := Lib.hid (HA_5.out.trans (HB_5.out.mono HA_5.out.size))
  have HO_aMessage_6 := Lib.hid (HO_aMessage_5.out.below HB_5.out HA_5.out.size)
  have HO_aSigs_6 := Lib.hid (HO_aSigs_5.out.below HB_5.out HA_5.out.size)
  have HO_w0_6 := Lib.hid (HO_w0_5.out.below HB_5.out (Nat.le_trans HZ_3.out HZ_4.out))
  have HO_x0_6 := Lib.hid (HO_x0_5.out.below HB_5.out HZ_4.out)
  have HO_x1_6 := Lib.hid (HO_x1_5.out.below HB_5.out (Nat.le_refl _))
  clear hb ho0
  go_wp2_with fail
  refine (eqIntS_same _ _ A_g0 A_w0 r0.length c_g0 c_w0 r0 _ (HO_g0_6.out.rd.more (Nat.le_refl _)) (HO_w0_6.out.rd.more (Nat.le_trans (Nat.le_trans HZ_3.out HZ_4.out) HZ_5.out)) (by omega)).mono ?_
  rintro e W_7 ⟨rfl, hb⟩
  have HB_6 := Lib.hid hb
  have HZ_6 := Lib.hid (HB_6.out.below 0).size
  have HA_7 := Lib.hid (HA_6.out.trans (HB_6.out.below _))
  have HO_aMessage_7 := Lib.hid (HO_aMessage_6.out.same HB_6.out)
  have HO_aSigs_7 := Lib.hid (HO_aSigs_6.out.same HB_6.out)
  have HO_w0_7 := Lib.hid (HO_w0_6.out.same HB_6.out)
  have HO_x0_7 := Lib.hid (HO_x0_6.out.same HB_6.out)
  have HO_x1_7 := Lib.hid (HO_x1_6.out.same HB_6.out)
  have HO_g0_7 := Lib.hid (HO_g0_6.out.same HB_6.out)
  clear hb
  go_wp2_with fail
  refine (toIntS_any a0 l0 c0 y0 _ (HO_aMessage_7.out.more HA_7.out.size) (by omega)).mono ?_
  rintro e W_8 ⟨A__t2, c__t2, rfl, hown, hb⟩
  have HO__t2_8 := Lib.hid hown
  have HB_7 := Lib.hid hb
  have HZ_7 := Lib.hid HB_7.out.size
  have HA_8 := Lib.hid (HA_7.out.trans (HB_7.out.mono HA_7.out.size))
  have HO_aMessage_8 := Lib.hid (HO_aMessage_7.out.below HB_7.out HA_7.out.size)
  have HO_aSigs_8 := Lib.hid (HO_aSigs_7.out.below HB_7.out HA_7.out.size)
  have HO_w0_8 := Lib.hid (HO_w0_7.out.below HB_7.out (Nat.le_trans (Nat.le_trans (Nat.le_trans HZ_3.out HZ_4.out) HZ_5.out) HZ_6.out))
  have HO_x0_8 := Lib.hid (HO_x0_7.out.below HB_7.out (Nat.le_trans (Nat.le_trans HZ_4.out HZ_5.out) HZ_6.out))
  have HO_x1_8 := Lib.hid (HO_x1_7.out.below HB_7.out (Nat.le_trans HZ_5.out HZ_6.out))
  have HO_g0_8 := Lib.hid (HO_g0_7.out.below HB_7.out HZ_6.out)
  clear hb hown
  go_wp2_with fail
  refine (eqIntS_same _ _ A_x0 A__t2 l0 c_x0 c__t2 y0 _ (HO_x0_8.out.rd.more (Nat.le_trans (Nat.le_trans (Nat.le_trans HZ_4.out HZ_5.out) HZ_6.out) HZ_7.out)) (HO__t2_8.out.rd.more (Nat.le_refl _)) (by omega)).mono ?_
  rintro e W_9 ⟨rfl, hb⟩
  have HB_8 := Lib.hid hb
  have HZ_8 := Lib.hid (HB_8.out.below 0).size
  have HA_9 := Lib.hid (HA_8.out.trans (HB_8.out.below _))
  have HO_aMessage_9 := Lib.hid (HO_aMessage_8.out.same HB_8.out)
  have HO_aSigs_9 := Lib.hid (HO_aSigs_8.out.same HB_8.out)
  have HO_w0_9 := Lib.hid (HO_w0_8.out.same HB_8.out)
  have HO_x0_9 := Lib.hid (HO_x0_8.out.same HB_8.out)
  have HO_x1_9 := Lib.hid (HO_x1_8.out.same HB_8.out)
  have HO_g0_9 := Lib.hid (HO_g0_8.out.same HB_8.out)
  clear hb
  go_wp2_with fail
  refine (toSigS_any a1 l1 c1 y1 _ (HO_aSigs_9.out.more HA_9.out.size) (by omega)).mono ?_
  rintro e W_10 ⟨A__t3, c__t3, rfl, hown, hb⟩
  have HO__t3_10 := Lib.hid hown
  have HB_9 := Lib.hid hb
  have HZ_9 := Lib.hid HB_9.out.size
  have HA_10 := Lib.hid (HA_9.out.trans (HB_9.out.mono HA_9.out.size))
  have HO_aMessage_10 := Lib.hid (HO_aMessage_9.out.below HB_9.out HA_9.out.size)
  have HO_aSigs_10 := Lib.hid (HO_aSigs_9.out.below HB_9.out HA_9.out.size)
  have HO_w0_10 := Lib.hid (HO_w0_9.out.below HB_9.out (Nat.le_trans (Nat.le_trans (Nat.le_trans (Nat.le_trans (Nat.le_trans HZ_3.out HZ_4.out) HZ_5.out) HZ_6.out) HZ_7.out) HZ_8.out))
  have HO_x0_10 := Lib.hid (HO_x0_9.out.below HB_9.out (Nat.le_trans (Nat.le_trans (Nat.le_trans (Nat.le_trans HZ_4.out HZ_5.out) HZ_6.out) HZ_7.out) HZ_8.out))
  have HO_x1_10 := Lib.hid (HO_x1_9.out.below HB_9.out (Nat.le_trans (Nat.le_trans (Nat.le_trans HZ_5.out HZ_6.out) HZ_7.out) HZ_8.out))
  have HO_g0_10 := Lib.hid (HO_g0_9.out.below HB_9.out (Nat.le_trans (Nat.le_trans HZ_6.out HZ_7.out) HZ_8.out))
  clear hb hown
  go_wp2_with fail
  refine (eqSigS_same _ _ A_x1 A__t3 l1 c_x1 c__t3 y1 _ ((FOwnSig.rd HO_x1_10.out).more (Nat.le_trans (Nat.le_trans (Nat.le_trans (Nat.le_trans HZ_5.out HZ_6.out) HZ_7.out) HZ_8.out) HZ_9.out)) ((FOwnSig.rd HO__t3_10.out).more (Nat.le_refl _)) (Nat.le_refl _) (Nat.le_refl _) (by omega)).mono ?_
  rintro e W_11 ⟨rfl, hb⟩
  have HB_10 := Lib.hid hb
  have HZ_10 := Lib.hid HB_10.out.size
  have HA_11 := Lib.hid (HA_10.out.trans (HB_10.out.mono HA_10.out.size))
  have HO_aMessage_11 := Lib.hid (HO_aMessage_10.out.below HB_10.out HA_10.out.size)
  have HO_aSigs_11 := Lib.hid (HO_aSigs_10.out.below HB_10.out HA_10.out.size)
  have HO_w0_11 := Lib.hid (HO_w0_10.out.below HB_10.out (Nat.le_trans (Nat.le_trans (Nat.le_trans (Nat.le_trans (Nat.le_trans (Nat.le_trans HZ_3.out HZ_4.out) HZ_5.out) HZ_6.out) HZ_7.out) HZ_8.out) HZ_9.out))
  have HO_x0_11 := Lib.hid (HO_x0_10.out.below HB_10.out (Nat.le_trans (Nat.le_trans (Nat.le_trans (Nat.le_trans (Nat.le_trans HZ_4.out HZ_5.out) HZ_6.out) HZ_7.out) HZ_8.out) HZ_9.out))
  have HO_x1_11 := Lib.hid (HO_x1_10.out.below HB_10.out (Nat.le_trans (Nat.le_trans (Nat.le_trans (Nat.le_trans HZ_5.out HZ_6.out) HZ_7.out) HZ_8.out) HZ_9.out))
  have HO_g0_11 := Lib.hid (HO_g0_10.out.below HB_10.out (Nat.le_trans (Nat.le_trans (Nat.le_trans HZ_6.out HZ_7.out) HZ_8.out) HZ_9.out))
  clear hb
  go_wp2_with fail
  refine (markIntS_any _ _ A_x0 l0 c_x0 y0 1 _ HO_x0_11.out (by omega) (by omega) (by omega)).mono ?_
  rintro e W_12 ⟨rfl, hown, hb⟩
  have HO_x0_12 := Lib.hid hown
  clear hown
  have HB_11 := Lib.hid hb
  have HZ_11 := Lib.hid HB_11.out.size
  have HA_12 := Lib.hid (HA_11.out.trans (HB_11.out.below HA_3.out.size HA_11.out.size))
  have HO_aMessage_12 := Lib.hid (HO_aMessage_11.out.fr HB_11.out HA_3.out.size HA_11.out.size)
  have HO_aSigs_12 := Lib.hid (HO_aSigs_11.out.fr HB_11.out HA_3.out.size HA_11.out.size)
  have HO_w0_12 := Lib.hid (HO_w0_11.out.fr HB_11.out (.inl (Nat.le_refl _)))
  have HO_x1_12 := Lib.hid (HO_x1_11.out.fr HB_11.out (.inr (Nat.le_refl _)))
  have HO_g0_12 := Lib.hid (HO_g0_11.out.fr HB_11.out (.inr HZ_4.out))
  clear hb
  go_wp2_with fail
  refine (markSigS_any _ _ A_x1 l1 c_x1 y1 (1 + (l0 : Int)) _ HO_x1_12.out (by omega) (by omega) (by omega)).mono ?_
  rintro e W_13 ⟨rfl, hown, hb⟩
  have HO_x1_13 := Lib.hid hown
  clear hown
  have HB_12 := Lib.hid hb
  have HZ_12 := Lib.hid HB_12.out.size
  have HA_13 := Lib.hid (HA_12.out.trans (HB_12.out.below HA_4.out.size HA_12.out.size))
  have HO_aMessage_13 := Lib.hid (HO_aMessage_12.out.fr HB_12.out HA_4.out.size HA_12.out.size)
  have HO_aSigs_13 := Lib.hid (HO_aSigs_12.out.fr HB_12.out HA_4.out.size HA_12.out.size)
  have HO_w0_13 := Lib.hid (HO_w0_12.out.fr HB_12.out (.inl HZ_3.out))
  have HO_g0_13 := Lib.hid (HO_g0_12.out.fr HB_12.out (.inr (Nat.le_refl _)))
  clear hb
  go_wp2_with fail
  refine (eqIntS_same _ _ A_g0 A_w0 r0.length c_g0 c_w0 r0 _ (HO_g0_13.out.rd.more (Nat.le_trans (Nat.le_trans (Nat.le_trans (Nat.le_trans (Nat.le_trans (Nat.le_trans HZ_6.out HZ_7.out) HZ_8.out) HZ_9.out) HZ_10.out) HZ_11.out) HZ_12.out)) (HO_w0_13.out.rd.more (Nat.le_trans (Nat.le_trans (Nat.le_trans (Nat.le_trans (Nat.le_trans (Nat.le_trans (Nat.le_trans (Nat.le_trans (Nat.le_trans HZ_3.out HZ_4.out) HZ_5.out) HZ_6.out) HZ_7.out) HZ_8.out) HZ_9.out) HZ_10.out) HZ_11.out) HZ_12.out)) (by omega)).mono ?_
  rintro e W_14 ⟨rfl, hb⟩
  have HB_13 := Lib.hid hb
  have HZ_13 := Lib.hid (HB_13.out.below 0).size
  have HA_14 := Lib.hid (HA_13.out.trans (HB_13.out.below _))
  have HO_aMessage_14 := Lib.hid (HO_aMessage_13.out.same HB_13.out)
  have HO_aSigs_14 := Lib.hid (HO_aSigs_13.out.same HB_13.out)
  have HO_w0_14 := Lib.hid (HO_w0_13.out.same HB_13.out)
  have HO_g0_14 := Lib.hid (HO_g0_13.out.same HB_13.out)
  clear hb
  go_wp2_with fail
  refine (markIntS_any _ _ A_g0 r0.length c_g0 r0 1 _ HO_g0_14.out (by omega) (by omega) (by omega)).mono ?_
  rintro e W_15 ⟨rfl, hown, hb⟩
  have HO_g0_15 := Lib.hid hown
  clear hown
  have HB_14 := Lib.hid hb
  have HZ_14 := Lib.hid HB_14.out.size
  have HA_15 := Lib.hid (HA_14.out.trans (HB_14.out.below HA_5.out.size HA_14.out.size))
  have HO_aMessage_15 := Lib.hid (HO_aMessage_14.out.fr HB_14.out HA_5.out.size HA_14.out.size)
  have HO_aSigs_15 := Lib.hid (HO_aSigs_14.out.fr HB_14.out HA_5.out.size HA_14.out.size)
  have HO_w0_15 := Lib.hid (HO_w0_14.out.fr HB_14.out (.inl (Nat.le_trans HZ_3.out HZ_4.out)))
  clear hb
  go_wp2_with fail
  refine (heldIntS_marks _ A_g0 r0.length c_g0 1 _ HO_g0_15.out.rd (by omega) (by omega) (by omega)).mono ?_
  rintro e W_16 ⟨rfl, rfl⟩
  go_wp2_with fail
  refine (toIntS_any a0 l0 c0 y0 _ (HO_aMessage_15.out.more HA_15.out.size) (by omega)).mono ?_
  rintro e W_16 ⟨A__t4, c__t4, rfl, hown, hb⟩
  have HO__t4_16 := Lib.hid hown
  have HB_15 := Lib.hid hb
  have HZ_15 := Lib.hid HB_15.out.size
  have HA_16 := Lib.hid (HA_15.out.trans (HB_15.out.mono HA_15.out.size))
  have HO_aSigs_16 := Lib.hid (HO_aSigs_15.out.below HB_15.out HA_15.out.size)
  have HO_w0_16 := Lib.hid (HO_w0_15.out.below HB_15.out (Nat.le_trans (Nat.le_trans (Nat.le_trans (Nat.le_trans (Nat.le_trans (Nat.le_trans (Nat.le_trans (Nat.le_trans (Nat.le_trans (Nat.le_trans (Nat.le_trans HZ_3.out HZ_4.out) HZ_5.out) HZ_6.out) HZ_7.out) HZ_8.out) HZ_9.out) HZ_10.out) HZ_11.out) HZ_12.out) HZ_13.out) HZ_14.out))
  have HO_g0_16 := Lib.hid (HO_g0_15.out.below HB_15.out (Nat.le_trans (Nat.le_trans (Nat.le_trans (Nat.le_trans (Nat.le_trans (Nat.le_trans (Nat.le_trans (Nat.le_trans HZ_6.out HZ_7.out) HZ_8.out) HZ_9.out) HZ_10.out) HZ_11.out) HZ_12.out) HZ_13.out) HZ_14.out))
  clear hb hown
  go_wp2_with fail
  refine (toSigS_any a1 l1 c1 y1 _ (HO_aSigs_16.out.more HA_16.out.size) (by omega)).mono ?_
  rintro e W_17 ⟨A__t5, c__t5, rfl, hown, hb⟩
  have HO__t5_17 := Lib.hid hown
  have HB_16 := Lib.hid hb
  have HZ_16 := Lib.hid HB_16.out.size
  have HA_17 := Lib.hid (HA_16.out.trans (HB_16.out.mono HA_16.out.size))
  have HO_w0_17 := Lib.hid (HO_w0_16.out.below HB_16.out (Nat.le_trans (Nat.le_trans (Nat.le_trans (Nat.le_trans (Nat.le_trans (Nat.le_trans (Nat.le_trans (Nat.le_trans (Nat.le_trans (Nat.le_trans (Nat.le_trans (Nat.le_trans HZ_3.out HZ_4.out) HZ_5.out) HZ_6.out) HZ_7.out) HZ_8.out) HZ_9.out) HZ_10.out) HZ_11.out) HZ_12.out) HZ_13.out) HZ_14.out) HZ_15.out))
  have HO_g0_17 := Lib.hid (HO_g0_16.out.below HB_16.out (Nat.le_trans (Nat.le_trans (Nat.le_trans (Nat.le_trans (Nat.le_trans (Nat.le_trans (Nat.le_trans (Nat.le_trans (Nat.le_trans HZ_6.out HZ_7.out) HZ_8.out) HZ_9.out) HZ_10.out) HZ_11.out) HZ_12.out) HZ_13.out) HZ_14.out) HZ_15.out))
  have HO__t4_17 := Lib.hid (HO__t4_16.out.below HB_16.out (Nat.le_refl _))
  clear hb hown
  go_wp2_with fail
  refine (HI.out A__t4 l0 c__t4 A__t5 l1 c__t5 _ (HO__t4_17.out.cap.1) (HO__t4_17.out.rd.more HZ_16.out) (HO__t5_17.out.cap.1) ((FOwnSig.rd HO__t5_17.out).more (Nat.le_refl _))).mono ?_
  rintro e W_18 ⟨A_h0, c_h0, rfl, ho0, hb⟩
  have HO_h0_18 := Lib.hid ho0
  have HB_17 := Lib.hid hb
  have HZ_17 := Lib.hid HB_17.out.size
  have HA_18 := Lib.hid (HA_17.out.trans (HB_17.out.mono HA_17.out.size))
  have HO_w0_18 := Lib.hid (HO_w0_17.out.below HB_17.out (Nat.le_trans (Nat.le_trans (Nat.le_trans (Nat.le_trans (Nat.le_trans (Nat.le_trans (Nat.le_trans (Nat.le_trans (Nat.le_trans (Nat.le_trans (Nat.le_trans (Nat.le_trans (Nat.le_trans HZ_3.out HZ_4.out) HZ_5.out) HZ_6.out) HZ_7.out) HZ_8.out) HZ_9.out) HZ_10.out) HZ_11.out) HZ_12.out) HZ_13.out) HZ_14.out) HZ_15.out) HZ_16.out))
  have HO_g0_18 := Lib.hid (HO_g0_17.out.below HB_17.out (Nat.le_trans (Nat.le_trans (Nat.le_trans (Nat.le_trans (Nat.le_trans (Nat.le_trans (Nat.le_trans (Nat.le_trans (Nat.le_trans (Nat.le_trans HZ_6.out HZ_7.out) HZ_8.out) HZ_9.out) HZ_10.out) HZ_11.out) HZ_12.out) HZ_13.out) HZ_14.out) HZ_15.out) HZ_16.out))
  clear hb ho0
  go_wp2_with fail
  refine (eqIntS_same _ _ A_h0 A_w0 r0.length c_h0 c_w0 r0 _ (HO_h0_18.out.rd.more (Nat.le_refl _)) (HO_w0_18.out.rd.more (Nat.le_trans (Nat.le_trans (Nat.le_trans (Nat.le_trans (Nat.le_trans (Nat.le_trans (Nat.le_trans (Nat.le_trans (Nat.le_trans (Nat.le_trans (Nat.le_trans (Nat.le_trans (Nat.le_trans (Nat.le_trans HZ_3.out HZ_4.out) HZ_5.out) HZ_6.out) HZ_7.out) HZ_8.out) HZ_9.out) HZ_10.out) HZ_11.out) HZ_12.out) HZ_13.out) HZ_14.out) HZ_15.out) HZ_16.out) HZ_17.out)) (by omega)).mono ?_
  rintro e W_19 ⟨rfl, hb⟩
  have HB_18 := Lib.hid hb
  have HZ_18 := Lib.hid (HB_18.out.below 0).size
  have HA_19 := Lib.hid (HA_18.out.trans (HB_18.out.below _))
  have HO_g0_19 := Lib.hid (HO_g0_18.out.same HB_18.out)
  clear hb
  go_wp2_with fail
  refine (heldIntS_marks _ A_g0 r0.length c_g0 1 _ HO_g0_19.out.rd (by omega) (by omega) (by omega)).mono ?_
  rintro e W_20 ⟨rfl, rfl⟩
  go_wp2
  go_ret
  exact ⟨rfl, HA_19.out⟩
end Go.Proofs.Ythhibhnclbnhlaa.W07
