/- The walks of the exact laws of chapter 6: each law returns true, and writes into nothing that was there. -/
import Derived.Test.YthfngiajicbdhaaC06U
import Derived.Test.YthfngiajicbdhaaT06
import Derived.Deep.RegionHeld3
namespace Go.Proofs.Ythfngiajicbdhaa.W06
open Go.RowKit Mem MemS Rep R06 T01 T06 C06U
set_option linter.unusedVariables false
set_option maxRecDepth 100000
set_option maxHeartbeats 400000
theorem FnExactIsKeys_walk (W0 : World) (u0_0 u0_1 : Value) (y0 : Keys) (w0 : RKeys.rd W0 (Lt W0.heap.size) [u0_0, u0_1] y0) :
    Calls Try.prog 4 #[.agg #[u0_0, u0_1]] W0 fun e w' => e = .returned (.bool true) ∧ Below W0.heap.size W0 w' := by
  have HA_0 := Lib.hid (show Below W0.heap.size W0 (W0.alloc (.cells #[u0_0, u0_1] 43)) from (Below.refl _ _).alloc (by first | (simp; done) | (simp; omega)) _)
  have HO_aK_0 := Lib.hid (RKeys.keep w0 fun i hi => HA_0.out.block i hi)
  have HX_aK_0 := Lib.hid (show Box (W0.alloc (.cells #[u0_0, u0_1] 43)) (W0.heap.size) [u0_0, u0_1] from (show Box (W0.alloc (.cells #[u0_0, u0_1] 43)) (W0.heap.size) [u0_0, u0_1] by have h := Box.new W0 #[u0_0, u0_1] 43; simpa using h))
  clear w0
  go_enter Try.func4, Try.ntmps4
  have x_aK_0 := HX_aK_0.out.cell (j := 0) rfl
  have x_aK_1 := HX_aK_0.out.cell (j := 1) rfl
  by_cases hn_aK : 1048576 < (totKeys y0 : Int)
  · have HN := Lib.hid hn_aK
    clear hn_aK
    go_wp2_with fail
    refine (szKeys_any [u0_0, u0_1] y0 1048576 _ (RKeys.more HO_aK_0.out fun i hi => Nat.lt_of_lt_of_le hi HA_0.out.size) (by omega) (by omega)).mono ?_
    rw [if_pos HN.out]
    rintro e W_1 ⟨rfl, hb⟩
    have HAe := Lib.hid (HA_0.out.trans (hb.mono HA_0.out.size))
    clear hb
    go_wp2
    go_ret
    exact ⟨rfl, HAe.out⟩
  have hY0 : totKeys y0 ≤ 1048576 := by omega
  have HN_aK := Lib.hid hn_aK
  clear hn_aK
  go_wp2_with fail
  refine (szKeys_any [u0_0, u0_1] y0 1048576 _ (RKeys.more HO_aK_0.out fun i hi => Nat.lt_of_lt_of_le hi HA_0.out.size) (by omega) (by omega)).mono ?_
  rw [if_neg (show ¬ 1048576 < (totKeys y0 : Int) by have := HN_aK.out; omega)]
  rintro e W_1 ⟨rfl, hb⟩
  obtain ⟨qq0, hqq0⟩ : ∃ x, x = 1048576 - (totKeys y0 : Int) := ⟨_, rfl⟩
  rw [← hqq0]
  have hqq0l : 0 ≤ qq0 ∧ qq0 ≤ 1048576 := by have := HN_aK.out; omega
  have hqq0n : ¬ qq0 < 0 := by omega
  clear hqq0
  have HB_0 := Lib.hid hb
  have HZ_0 := Lib.hid HB_0.out.size
  have HA_1 := Lib.hid (HA_0.out.trans (HB_0.out.mono HA_0.out.size))
  have HO_aK_1 := Lib.hid (RKeys.keep HO_aK_0.out fun i hi => HB_0.out.block i (Nat.lt_of_lt_of_le hi HA_0.out.size))
  have HX_aK_1 := Lib.hid (HX_aK_0.out.below HB_0.out HX_aK_0.out.lt)
  clear hb
  clear x_aK_0 x_aK_1
  have x_aK_0 := HX_aK_1.out.cell (j := 0) rfl
  have x_aK_1 := HX_aK_1.out.cell (j := 1) rfl
  obtain ⟨r0, hS, hI⟩ := both_IsKeys y0 hY0
  have HS := Lib.hid hS
  have HI := Lib.hid hI
  clear hS hI
  have hcy0 := cntKeys_le y0
  go_wp2_with fail
  refine (toKeys_any [u0_0, u0_1] y0 _ (RKeys.more HO_aK_1.out fun i hi => Nat.lt_of_lt_of_le hi HA_1.out.size) (by omega)).mono ?_
  rintro e W_2 ⟨cs__t0, rfl, hown, hb⟩
  obtain ⟨A__t0_0, n__t0_0, c__t0_0, rfl⟩ := RKeys_shape hown.rd
  have HO__t0_2 := Lib.hid (hown)
  have HB_1 := Lib.hid hb
  have HZ_1 := Lib.hid HB_1.out.size
  have HA_2 := Lib.hid (HA_1.out.trans (HB_1.out.mono HA_1.out.size))
  have HO_aK_2 := Lib.hid (RKeys.keep HO_aK_1.out fun i hi => HB_1.out.block i (Nat.lt_of_lt_of_le hi HA_1.out.size))
  have HX_aK_2 := Lib.hid (HX_aK_1.out.below HB_1.out HX_aK_1.out.lt)
  clear hb hown
  go_wp2_with fail
  refine (HS.out [(.slice A__t0_0 n__t0_0 c__t0_0), (.int .i64 y0.need)] _ (RKeys.more HO__t0_2.out.rd fun i hi => Nat.lt_of_lt_of_le hi (Nat.le_refl _))).mono ?_
  rintro e W_3 ⟨rfl, hb⟩
  have HB_2 := Lib.hid hb
  have HZ_2 := Lib.hid HB_2.out.size
  have HA_3 := Lib.hid (HA_2.out.trans (HB_2.out.mono HA_2.out.size))
  have HO_aK_3 := Lib.hid (RKeys.keep HO_aK_2.out fun i hi => HB_2.out.block i (Nat.lt_of_lt_of_le hi HA_2.out.size))
  have HX_aK_3 := Lib.hid (HX_aK_2.out.below HB_2.out HX_aK_2.out.lt)
  clear hb
  clear x_aK_0 x_aK_1
  have x_aK_0 := HX_aK_3.out.cell (j := 0) rfl
  have x_aK_1 := HX_aK_3.out.cell (j := 1) rfl
  go_wp2_with fail
  refine (toKeys_any [u0_0, u0_1] y0 _ (RKeys.more HO_aK_3.out fun i hi => Nat.lt_of_lt_of_le hi HA_3.out.size) (by omega)).mono ?_
  rintro e W_4 ⟨cs_x0, rfl, hown, hb⟩
  obtain ⟨A_x0_0, n_x0_0, c_x0_0, rfl⟩ := RKeys_shape hown.rd
  have HO_x0_4 := Lib.hid (hown.alloc (.cells #[(.slice A_x0_0 n_x0_0 c_x0_0), (.int .i64 y0.need)] 26))
  have HT_4 := Lib.hid (show W_4.heap.size ≤ (W_4.alloc (.cells #[(.slice A_x0_0 n_x0_0 c_x0_0), (.int .i64 y0.need)] 26)).heap.size by simp)
  have hb3 := hb.alloc hb.size (.cells #[(.slice A_x0_0 n_x0_0 c_x0_0), (.int .i64 y0.need)] 26)
  have HB_3 := Lib.hid hb3
  have HZ_3 := Lib.hid HB_3.out.size
  have HA_4 := Lib.hid (HA_3.out.trans (HB_3.out.mono HA_3.out.size))
  have HO_aK_4 := Lib.hid (RKeys.keep HO_aK_3.out fun i hi => HB_3.out.block i (Nat.lt_of_lt_of_le hi HA_3.out.size))
  have HX_aK_4 := Lib.hid (HX_aK_3.out.below HB_3.out HX_aK_3.out.lt)
  clear hb hown
  have HX_x0_4 := Lib.hid (show Box (W_4.alloc (.cells #[(.slice A_x0_0 n_x0_0 c_x0_0), (.int .i64 y0.need)] 26)) W_4.heap.size [(.slice A_x0_0 n_x0_0 c_x0_0), (.int .i64 y0.need)] from Box.new W_4 #[(.slice A_x0_0 n_x0_0 c_x0_0), (.int .i64 y0.need)] 26)
  clear x_aK_0 x_aK_1
  have x_x0_0 := HX_x0_4.out.cell (j := 0) rfl
  have x_x0_1 := HX_x0_4.out.cell (j := 1) rfl
  go_wp2_with fail
  refine (HI.out [(.slice A_x0_0 n_x0_0 c_x0_0), (.int .i64 y0.need)] _ (RKeys.more HO_x0_4.out.rd fun i hi => Nat.lt_of_lt_of_le hi (Nat.le_trans HT_4.out (Nat.le_refl _)))).mono ?_
  rintro e W_5 ⟨rfl, hb⟩
  have HB_4 := Lib.hid hb
  have HZ_4 := Lib.hid HB_4.out.size
  have HA_5 := Lib.hid (HA_4.out.trans (HB_4.out.mono HA_4.out.size))
  have HO_aK_5 := Lib.hid (RKeys.keep HO_aK_4.out fun i hi => HB_4.out.block i (Nat.lt_of_lt_of_le hi HA_4.out.size))
  have HO_x0_5 := Lib.hid (HO_x0_4.out.below HB_4.out (Nat.le_trans HT_4.out (Nat.le_refl _)))
  have HX_aK_5 := Lib.hid (HX_aK_4.out.below HB_4.out HX_aK_4.out.lt)
  have HX_x0_5 := Lib.hid (HX_x0_4.out.below HB_4.out HX_x0_4.out.lt)
  clear hb
  clear x_x0_0 x_x0_1
  have x_aK_0 := HX_aK_5.out.cell (j := 0) rfl
  have x_aK_1 := HX_aK_5.out.cell (j := 1) rfl
  have x_x0_0 := HX_x0_5.out.cell (j := 0) rfl
  have x_x0_1 := HX_x0_5.out.cell (j := 1) rfl
  have HD_aK := Lib.hid (show RKeys.rd W_5.drew (Lt W_5.drew.heap.size) [u0_0, u0_1] y0 from RKeys.keep (RKeys.more HO_aK_5.out fun i hi => Nat.lt_of_lt_of_le hi HA_5.out.size) fun i _ => rfl)
  go_wp2_with fail
  go_region_held3 (fun w' => w'.cell? ⟨W0.heap.size, 0, none⟩ = some u0_0 ∧ w'.cell? ⟨W0.heap.size, 1, none⟩ = some u0_1 ∧ w'.cell? ⟨W_4.heap.size, 0, none⟩ = some (.slice A_x0_0 n_x0_0 c_x0_0) ∧ w'.cell? ⟨W_4.heap.size, 1, none⟩ = some (.int .i64 y0.need)) (first | exact ⟨x_aK_0, x_aK_1, x_x0_0, x_x0_1⟩ | exact ⟨x_aK_0_6, x_aK_1_6, x_x0_0_6, x_x0_1_6⟩ | exact ⟨x_aK_0_7, x_aK_1_7, x_x0_0_7, x_x0_1_7⟩) ((first
    | (go_at_call 29; (with_reducible refine (toKeys_any [u0_0, u0_1] y0 W_5.drew HD_aK.out (by omega)).mono ?_); rintro e W_6 ⟨cs__t1, rfl, hown, hb⟩; obtain ⟨A__t1_0, n__t1_0, c__t1_0, rfl⟩ := RKeys_shape hown.rd; have HO__t1_6 := Lib.hid (hown); have HB_5 := Lib.hid (below_drew hb); have HZ_5 := Lib.hid HB_5.out.size; have HA_6 := Lib.hid (HA_5.out.trans (HB_5.out.mono HA_5.out.size)); have HO_aK_6 := Lib.hid (RKeys.keep HO_aK_5.out fun i hi => HB_5.out.block i (Nat.lt_of_lt_of_le hi HA_5.out.size)); have HO_x0_6 := Lib.hid (HO_x0_5.out.below HB_5.out (Nat.le_trans HT_4.out HZ_4.out)); have HX_aK_6 := Lib.hid (HX_aK_5.out.below HB_5.out HX_aK_5.out.lt); have HX_x0_6 := Lib.hid (HX_x0_5.out.below HB_5.out HX_x0_5.out.lt); clear hb hown; have x_aK_0_6 := HX_aK_6.out.cell (j := 0) rfl; have x_aK_1_6 := HX_aK_6.out.cell (j := 1) rfl; have x_x0_0_6 := HX_x0_6.out.cell (j := 0) rfl; have x_x0_1_6 := HX_x0_6.out.cell (j := 1) rfl)
    | (go_at_call 30; (with_reducible refine (eqKeys_same _ _ [(.slice A_x0_0 n_x0_0 c_x0_0), (.int .i64 y0.need)] [(.slice A__t1_0 n__t1_0 c__t1_0), (.int .i64 y0.need)] y0 _ (RKeys.more HO_x0_6.out.rd fun i hi => Nat.lt_of_lt_of_le hi (Nat.le_trans HT_4.out (Nat.le_trans HZ_4.out HZ_5.out))) (RKeys.more HO__t1_6.out.rd fun i hi => Nat.lt_of_lt_of_le hi (Nat.le_refl _)) (Nat.le_refl _) (Nat.le_refl _) (by omega)).mono ?_); rintro e W_7 ⟨rfl, hb⟩; have HB_6 := Lib.hid hb; have HZ_6 := Lib.hid HB_6.out.size; have HA_7 := Lib.hid (HA_6.out.trans (HB_6.out.mono HA_6.out.size)); have HO_aK_7 := Lib.hid (RKeys.keep HO_aK_6.out fun i hi => HB_6.out.block i (Nat.lt_of_lt_of_le hi HA_6.out.size)); have HO_x0_7 := Lib.hid (HO_x0_6.out.below HB_6.out (Nat.le_trans HT_4.out (Nat.le_trans HZ_4.out HZ_5.out))); have HX_aK_7 := Lib.hid (HX_aK_6.out.below HB_6.out HX_aK_6.out.lt); have HX_x0_7 := Lib.hid (HX_x0_6.out.below HB_6.out HX_x0_6.out.lt); clear hb; have x_aK_0_7 := HX_aK_7.out.cell (j := 0) rfl; have x_aK_1_7 := HX_aK_7.out.cell (j := 1) rfl; have x_x0_0_7 := HX_x0_7.out.cell (j := 0) rfl; have x_x0_1_7 := HX_x0_7.out.cell (j := 1) rfl)))
  clear x_aK_0 x_aK_1 x_x0_0 x_x0_1
  go_wp2
  go_ret
  exact ⟨rfl, HA_7.out⟩
theorem FnExactKeysInts_walk (W0 : World) (u0_0 u0_1 : Value) (y0 : Keys) (w0 : RKeys.rd W0 (Lt W0.heap.size) [u0_0, u0_1] y0) :
    Calls Try.prog 5 #[.agg #[u0_0, u0_1]] W0 fun e w' => e = .returned (.bool true) ∧ Below W0.heap.size W0 w' := by
  have HA_0 := Lib.hid (show Below W0.heap.size W0 (W0.alloc (.cells #[u0_0, u0_1] 43)) from (Below.refl _ _).alloc (by first | (simp; done) | (simp; omega)) _)
  have HO_aK_0 := Lib.hid (RKeys.keep w0 fun i hi => HA_0.out.block i hi)
  have HX_aK_0 := Lib.hid (show Box (W0.alloc (.cells #[u0_0, u0_1] 43)) (W0.heap.size) [u0_0, u0_1] from (show Box (W0.alloc (.cells #[u0_0, u0_1] 43)) (W0.heap.size) [u0_0, u0_1] by have h := Box.new W0 #[u0_0, u0_1] 43; simpa using h))
  clear w0
  go_enter Try.func5, Try.ntmps5
  have x_aK_0 := HX_aK_0.out.cell (j := 0) rfl
  have x_aK_1 := HX_aK_0.out.cell (j := 1) rfl
  by_cases hn_aK : 1048576 < (totKeys y0 : Int)
  · have HN := Lib.hid hn_aK
    clear hn_aK
    go_wp2_with fail
    refine (szKeys_any [u0_0, u0_1] y0 1048576 _ (RKeys.more HO_aK_0.out fun i hi => Nat.lt_of_lt_of_le hi HA_0.out.size) (by omega) (by omega)).mono ?_
    rw [if_pos HN.out]
    rintro e W_1 ⟨rfl, hb⟩
    have HAe := Lib.hid (HA_0.out.trans (hb.mono HA_0.out.size))
    clear hb
    go_wp2
    go_ret
    exact ⟨rfl, HAe.out⟩
  have hY0 : totKeys y0 ≤ 1048576 := by omega
  have HN_aK := Lib.hid hn_aK
  clear hn_aK
  go_wp2_with fail
  refine (szKeys_any [u0_0, u0_1] y0 1048576 _ (RKeys.more HO_aK_0.out fun i hi => Nat.lt_of_lt_of_le hi HA_0.out.size) (by omega) (by omega)).mono ?_
  rw [if_neg (show ¬ 1048576 < (totKeys y0 : Int) by have := HN_aK.out; omega)]
  rintro e W_1 ⟨rfl, hb⟩
  obtain ⟨qq0, hqq0⟩ : ∃ x, x = 1048576 - (totKeys y0 : Int) := ⟨_, rfl⟩
  rw [← hqq0]
  have hqq0l : 0 ≤ qq0 ∧ qq0 ≤ 1048576 := by have := HN_aK.out; omega
  have hqq0n : ¬ qq0 < 0 := by omega
  clear hqq0
  have HB_0 := Lib.hid hb
  have HZ_0 := Lib.hid HB_0.out.size
  have HA_1 := Lib.hid (HA_0.out.trans (HB_0.out.mono HA_0.out.size))
  have HO_aK_1 := Lib.hid (RKeys.keep HO_aK_0.out fun i hi => HB_0.out.block i (Nat.lt_of_lt_of_le hi HA_0.out.size))
  have HX_aK_1 := Lib.hid (HX_aK_0.out.below HB_0.out HX_aK_0.out.lt)
  clear hb
  clear x_aK_0 x_aK_1
  have x_aK_0 := HX_aK_1.out.cell (j := 0) rfl
  have x_aK_1 := HX_aK_1.out.cell (j := 1) rfl
  obtain ⟨r0, hlen0, hS, hI⟩ := both_KeysInts y0 hY0
  have HS := Lib.hid hS
  have HI := Lib.hid hI
  clear hS hI
  have hcy0 := cntKeys_le y0
  go_wp2_with fail
  refine (toKeys_any [u0_0, u0_1] y0 _ (RKeys.more HO_aK_1.out fun i hi => Nat.lt_of_lt_of_le hi HA_1.out.size) (by omega)).mono ?_
  rintro e W_2 ⟨cs__t0, rfl, hown, hb⟩
  obtain ⟨A__t0_0, n__t0_0, c__t0_0, rfl⟩ := RKeys_shape hown.rd
  have HO__t0_2 := Lib.hid (hown)
  have HB_1 := Lib.hid hb
  have HZ_1 := Lib.hid HB_1.out.size
  have HA_2 := Lib.hid (HA_1.out.trans (HB_1.out.mono HA_1.out.size))
  have HO_aK_2 := Lib.hid (RKeys.keep HO_aK_1.out fun i hi => HB_1.out.block i (Nat.lt_of_lt_of_le hi HA_1.out.size))
  have HX_aK_2 := Lib.hid (HX_aK_1.out.below HB_1.out HX_aK_1.out.lt)
  clear hb hown
  go_wp2_with fail
  refine (HS.out [(.slice A__t0_0 n__t0_0 c__t0_0), (.int .i64 y0.need)] _ (RKeys.more HO__t0_2.out.rd fun i hi => Nat.lt_of_lt_of_le hi (Nat.le_refl _))).mono ?_
  rintro e W_3 ⟨A_w0, c_w0, rfl, ho0, hb⟩
  have HO_w0_3 := Lib.hid ho0
  have HB_2 := Lib.hid hb
  have HZ_2 := Lib.hid HB_2.out.size
  have HA_3 := Lib.hid (HA_2.out.trans (HB_2.out.mono HA_2.out.size))
  have HO_aK_3 := Lib.hid (RKeys.keep HO_aK_2.out fun i hi => HB_2.out.block i (Nat.lt_of_lt_of_le hi HA_2.out.size))
  have HX_aK_3 := Lib.hid (HX_aK_2.out.below HB_2.out HX_aK_2.out.lt)
  clear hb ho0
  clear x_aK_0 x_aK_1
  have x_aK_0 := HX_aK_3.out.cell (j := 0) rfl
  have x_aK_1 := HX_aK_3.out.cell (j := 1) rfl
  go_wp2_with fail
  refine (toKeys_any [u0_0, u0_1] y0 _ (RKeys.more HO_aK_3.out fun i hi => Nat.lt_of_lt_of_le hi HA_3.out.size) (by omega)).mono ?_
  rintro e W_4 ⟨cs_x0, rfl, hown, hb⟩
  obtain ⟨A_x0_0, n_x0_0, c_x0_0, rfl⟩ := RKeys_shape hown.rd
  have HO_x0_4 := Lib.hid (hown.alloc (.cells #[(.slice A_x0_0 n_x0_0 c_x0_0), (.int .i64 y0.need)] 26))
  have HT_4 := Lib.hid (show W_4.heap.size ≤ (W_4.alloc (.cells #[(.slice A_x0_0 n_x0_0 c_x0_0), (.int .i64 y0.need)] 26)).heap.size by simp)
  have hb3 := hb.alloc hb.size (.cells #[(.slice A_x0_0 n_x0_0 c_x0_0), (.int .i64 y0.need)] 26)
  have HB_3 := Lib.hid hb3
  have HZ_3 := Lib.hid HB_3.out.size
  have HA_4 := Lib.hid (HA_3.out.trans (HB_3.out.mono HA_3.out.size))
  have HO_aK_4 := Lib.hid (RKeys.keep HO_aK_3.out fun i hi => HB_3.out.block i (Nat.lt_of_lt_of_le hi HA_3.out.size))
  have HO_w0_4 := Lib.hid (HO_w0_3.out.below HB_3.out (Nat.le_refl _))
  have HX_aK_4 := Lib.hid (HX_aK_3.out.below HB_3.out HX_aK_3.out.lt)
  clear hb hown
  have HX_x0_4 := Lib.hid (show Box (W_4.alloc (.cells #[(.slice A_x0_0 n_x0_0 c_x0_0), (.int .i64 y0.need)] 26)) W_4.heap.size [(.slice A_x0_0 n_x0_0 c_x0_0), (.int .i64 y0.need)] from Box.new W_4 #[(.slice A_x0_0 n_x0_0 c_x0_0), (.int .i64 y0.need)] 26)
  clear x_aK_0 x_aK_1
  have x_x0_0 := HX_x0_4.out.cell (j := 0) rfl
  have x_x0_1 := HX_x0_4.out.cell (j := 1) rfl
  go_wp2_with fail
  refine (HI.out [(.slice A_x0_0 n_x0_0 c_x0_0), (.int .i64 y0.need)] _ (RKeys.more HO_x0_4.out.rd fun i hi => Nat.lt_of_lt_of_le hi (Nat.le_trans HT_4.out (Nat.le_refl _)))).mono ?_
  rintro e W_5 ⟨A_g0, c_g0, rfl, ho0, hb⟩
  have HO_g0_5 := Lib.hid ho0
  have HB_4 := Lib.hid hb
  have HZ_4 := Lib.hid HB_4.out.size
  have HA_5 := Lib.hid (HA_4.out.trans (HB_4.out.mono HA_4.out.size))
  have HO_aK_5 := Lib.hid (RKeys.keep HO_aK_4.out fun i hi => HB_4.out.block i (Nat.lt_of_lt_of_le hi HA_4.out.size))
  have HO_w0_5 := Lib.hid (HO_w0_4.out.below HB_4.out HZ_3.out)
  have HO_x0_5 := Lib.hid (HO_x0_4.out.below HB_4.out (Nat.le_trans HT_4.out (Nat.le_refl _)))
  have HX_aK_5 := Lib.hid (HX_aK_4.out.below HB_4.out HX_aK_4.out.lt)
  have HX_x0_5 := Lib.hid (HX_x0_4.out.below HB_4.out HX_x0_4.out.lt)
  clear hb ho0
  clear x_x0_0 x_x0_1
  go_wp2_with fail
  refine (eqIntS_same _ _ A_g0 A_w0 r0.length c_g0 c_w0 r0 _ (HO_g0_5.out.rd.more (Nat.le_refl _)) (HO_w0_5.out.rd.more (Nat.le_trans HZ_3.out HZ_4.out)) (by omega)).mono ?_
  rintro e W_6 ⟨rfl, hb⟩
  have HB_5 := Lib.hid hb
  have HZ_5 := Lib.hid (HB_5.out.below 0).size
  have HA_6 := Lib.hid (HA_5.out.trans (HB_5.out.below _))
  have HO_aK_6 := Lib.hid (RKeys.keep HO_aK_5.out fun i hi => by rw [HB_5.out.heap])
  have HO_w0_6 := Lib.hid (HO_w0_5.out.same HB_5.out)
  have HO_x0_6 := Lib.hid (HO_x0_5.out.same HB_5.out)
  have HO_g0_6 := Lib.hid (HO_g0_5.out.same HB_5.out)
  have HX_aK_6 := Lib.hid (HX_aK_5.out.keep (by rw [HB_5.out.heap]))
  have HX_x0_6 := Lib.hid (HX_x0_5.out.keep (by rw [HB_5.out.heap]))
  clear hb
  have x_aK_0 := HX_aK_6.out.cell (j := 0) rfl
  have x_aK_1 := HX_aK_6.out.cell (j := 1) rfl
  have x_x0_0 := HX_x0_6.out.cell (j := 0) rfl
  have x_x0_1 := HX_x0_6.out.cell (j := 1) rfl
  have HD_aK := Lib.hid (show RKeys.rd W_6.drew (Lt W_6.drew.heap.size) [u0_0, u0_1] y0 from RKeys.keep (RKeys.more HO_aK_6.out fun i hi => Nat.lt_of_lt_of_le hi HA_6.out.size) fun i _ => rfl)
  go_wp2_with fail
  go_region_held3 (fun w' => w'.cell? ⟨W0.heap.size, 0, none⟩ = some u0_0 ∧ w'.cell? ⟨W0.heap.size, 1, none⟩ = some u0_1 ∧ w'.cell? ⟨W_4.heap.size, 0, none⟩ = some (.slice A_x0_0 n_x0_0 c_x0_0) ∧ w'.cell? ⟨W_4.heap.size, 1, none⟩ = some (.int .i64 y0.need)) (first | exact ⟨x_aK_0, x_aK_1, x_x0_0, x_x0_1⟩ | exact ⟨x_aK_0_7, x_aK_1_7, x_x0_0_7, x_x0_1_7⟩ | exact ⟨x_aK_0_8, x_aK_1_8, x_x0_0_8, x_x0_1_8⟩) ((first
    | (go_at_call 29; (with_reducible refine (toKeys_any [u0_0, u0_1] y0 W_6.drew HD_aK.out (by omega)).mono ?_); rintro e W_7 ⟨cs__t1, rfl, hown, hb⟩; obtain ⟨A__t1_0, n__t1_0, c__t1_0, rfl⟩ := RKeys_shape hown.rd; have HO__t1_7 := Lib.hid (hown); have HB_6 := Lib.hid (below_drew hb); have HZ_6 := Lib.hid HB_6.out.size; have HA_7 := Lib.hid (HA_6.out.trans (HB_6.out.mono HA_6.out.size)); have HO_aK_7 := Lib.hid (RKeys.keep HO_aK_6.out fun i hi => HB_6.out.block i (Nat.lt_of_lt_of_le hi HA_6.out.size)); have HO_w0_7 := Lib.hid (HO_w0_6.out.below HB_6.out (Nat.le_trans (Nat.le_trans HZ_3.out HZ_4.out) HZ_5.out)); have HO_x0_7 := Lib.hid (HO_x0_6.out.below HB_6.out (Nat.le_trans HT_4.out (Nat.le_trans HZ_4.out HZ_5.out))); have HO_g0_7 := Lib.hid (HO_g0_6.out.below HB_6.out HZ_5.out); have HX_aK_7 := Lib.hid (HX_aK_6.out.below HB_6.out HX_aK_6.out.lt); have HX_x0_7 := Lib.hid (HX_x0_6.out.below HB_6.out HX_x0_6.out.lt); clear hb hown; have x_aK_0_7 := HX_aK_7.out.cell (j := 0) rfl; have x_aK_1_7 := HX_aK_7.out.cell (j := 1) rfl; have x_x0_0_7 := HX_x0_7.out.cell (j := 0) rfl; have x_x0_1_7 := HX_x0_7.out.cell (j := 1) rfl)
    | (go_at_call 30; (with_reducible refine (eqKeys_same _ _ [(.slice A_x0_0 n_x0_0 c_x0_0), (.int .i64 y0.need)] [(.slice A__t1_0 n__t1_0 c__t1_0), (.int .i64 y0.need)] y0 _ (RKeys.more HO_x0_7.out.rd fun i hi => Nat.lt_of_lt_of_le hi (Nat.le_trans HT_4.out (Nat.le_trans (Nat.le_trans HZ_4.out HZ_5.out) HZ_6.out))) (RKeys.more HO__t1_7.out.rd fun i hi => Nat.lt_of_lt_of_le hi (Nat.le_refl _)) (Nat.le_refl _) (Nat.le_refl _) (by omega)).mono ?_); rintro e W_8 ⟨rfl, hb⟩; have HB_7 := Lib.hid hb; have HZ_7 := Lib.hid HB_7.out.size; have HA_8 := Lib.hid (HA_7.out.trans (HB_7.out.mono HA_7.out.size)); have HO_aK_8 := Lib.hid (RKeys.keep HO_aK_7.out fun i hi => HB_7.out.block i (Nat.lt_of_lt_of_le hi HA_7.out.size)); have HO_w0_8 := Lib.hid (HO_w0_7.out.below HB_7.out (Nat.le_trans (Nat.le_trans (Nat.le_trans HZ_3.out HZ_4.out) HZ_5.out) HZ_6.out)); have HO_x0_8 := Lib.hid (HO_x0_7.out.below HB_7.out (Nat.le_trans HT_4.out (Nat.le_trans (Nat.le_trans HZ_4.out HZ_5.out) HZ_6.out))); have HO_g0_8 := Lib.hid (HO_g0_7.out.below HB_7.out (Nat.le_trans HZ_5.out HZ_6.out)); have HX_aK_8 := Lib.hid (HX_aK_7.out.below HB_7.out HX_aK_7.out.lt); have HX_x0_8 := Lib.hid (HX_x0_7.out.below HB_7.out HX_x0_7.out.lt); clear hb; have x_aK_0_8 := HX_aK_8.out.cell (j := 0) rfl; have x_aK_1_8 := HX_aK_8.out.cell (j := 1) rfl; have x_x0_0_8 := HX_x0_8.out.cell (j := 0) rfl; have x_x0_1_8 := HX_x0_8.out.cell (j := 1) rfl)))
  clear x_aK_0 x_aK_1 x_x0_0 x_x0_1
  have x_x0_0 := HX_x0_8.out.cell (j := 0) rfl
  have x_x0_1 := HX_x0_8.out.cell (j := 1) rfl
  go_wp2_with fail
  refine (markKeys_any _ _ [(.slice A_x0_0 n_x0_0 c_x0_0), (.int .i64 y0.need)] y0 1 _ HO_x0_8.out (Nat.le_trans HT_4.out (Nat.le_trans (Nat.le_trans (Nat.le_trans HZ_4.out HZ_5.out) HZ_6.out) HZ_7.out)) (by omega) (by omega) (by omega)).mono ?_
  rintro e W_9 ⟨rfl, hown, hb⟩
  have HO_x0_9 := Lib.hid hown
  clear hown
  have HB_8 := Lib.hid hb
  have HZ_8 := Lib.hid HB_8.out.size
  have HA_9 := Lib.hid (HA_8.out.trans (HB_8.out.below HA_3.out.size HA_8.out.size))
  have HO_aK_9 := Lib.hid (RKeys.keep HO_aK_8.out fun i hi => HB_8.out.block i (Nat.lt_of_lt_of_le hi HA_8.out.size) (.inl (Nat.lt_of_lt_of_le hi HA_3.out.size)))
  have HO_w0_9 := Lib.hid (HO_w0_8.out.fr HB_8.out (.inl (Nat.le_refl _)))
  have HO_g0_9 := Lib.hid (HO_g0_8.out.fr HB_8.out (.inr (Nat.le_trans HT_4.out (Nat.le_refl _))))
  have HX_aK_9 := Lib.hid (HX_aK_8.out.keep (HB_8.out.block _ HX_aK_8.out.lt (.inl (Nat.lt_of_lt_of_le HX_aK_0.out.lt (Nat.le_trans (Nat.le_trans HZ_0.out HZ_1.out) HZ_2.out)))))
  clear hb
  clear x_x0_0 x_x0_1
  go_wp2_with fail
  refine (eqIntS_same _ _ A_g0 A_w0 r0.length c_g0 c_w0 r0 _ (HO_g0_9.out.rd.more (Nat.le_trans (Nat.le_trans (Nat.le_trans HZ_5.out HZ_6.out) HZ_7.out) HZ_8.out)) (HO_w0_9.out.rd.more (Nat.le_trans (Nat.le_trans (Nat.le_trans (Nat.le_trans (Nat.le_trans HZ_3.out HZ_4.out) HZ_5.out) HZ_6.out) HZ_7.out) HZ_8.out)) (by omega)).mono ?_
  rintro e W_10 ⟨rfl, hb⟩
  have HB_9 := Lib.hid hb
  have HZ_9 := Lib.hid (HB_9.out.below 0).size
  have HA_10 := Lib.hid (HA_9.out.trans (HB_9.out.below _))
  have HO_aK_10 := Lib.hid (RKeys.keep HO_aK_9.out fun i hi => by rw [HB_9.out.heap])
  have HO_w0_10 := Lib.hid (HO_w0_9.out.same HB_9.out)
  have HO_g0_10 := Lib.hid (HO_g0_9.out.same HB_9.out)
  have HX_aK_10 := Lib.hid (HX_aK_9.out.keep (by rw [HB_9.out.heap]))
  clear hb
  go_wp2_with fail
  refine (markIntS_any _ _ A_g0 r0.length c_g0 r0 1 _ HO_g0_10.out (by omega) (by omega) (by omega)).mono ?_
  rintro e W_11 ⟨rfl, hown, hb⟩
  have HO_g0_11 := Lib.hid hown
  clear hown
  have HB_10 := Lib.hid hb
  have HZ_10 := Lib.hid HB_10.out.size
  have HA_11 := Lib.hid (HA_10.out.trans (HB_10.out.below HA_4.out.size HA_10.out.size))
  have HO_aK_11 := Lib.hid (RKeys.keep HO_aK_10.out fun i hi => HB_10.out.block i (Nat.lt_of_lt_of_le hi HA_10.out.size) (.inl (Nat.lt_of_lt_of_le hi HA_4.out.size)))
  have HO_w0_11 := Lib.hid (HO_w0_10.out.fr HB_10.out (.inl HZ_3.out))
  have HX_aK_11 := Lib.hid (HX_aK_10.out.keep (HB_10.out.block _ HX_aK_10.out.lt (.inl (Nat.lt_of_lt_of_le HX_aK_0.out.lt (Nat.le_trans (Nat.le_trans (Nat.le_trans HZ_0.out HZ_1.out) HZ_2.out) HZ_3.out)))))
  clear hb
  go_wp2_with fail
  refine (heldIntS_marks _ A_g0 r0.length c_g0 1 _ HO_g0_11.out.rd (by omega) (by omega) (by omega)).mono ?_
  rintro e W_12 ⟨rfl, rfl⟩
  have x_aK_0 := HX_aK_11.out.cell (j := 0) rfl
  have x_aK_1 := HX_aK_11.out.cell (j := 1) rfl
  go_wp2_with fail
  refine (toKeys_any [u0_0, u0_1] y0 _ (RKeys.more HO_aK_11.out fun i hi => Nat.lt_of_lt_of_le hi HA_11.out.size) (by omega)).mono ?_
  rintro e W_12 ⟨cs__t2, rfl, hown, hb⟩
  obtain ⟨A__t2_0, n__t2_0, c__t2_0, rfl⟩ := RKeys_shape hown.rd
  have HO__t2_12 := Lib.hid (hown)
  have HB_11 := Lib.hid hb
  have HZ_11 := Lib.hid HB_11.out.size
  have HA_12 := Lib.hid (HA_11.out.trans (HB_11.out.mono HA_11.out.size))
  have HO_w0_12 := Lib.hid (HO_w0_11.out.below HB_11.out (Nat.le_trans (Nat.le_trans (Nat.le_trans (Nat.le_trans (Nat.le_trans (Nat.le_trans (Nat.le_trans HZ_3.out HZ_4.out) HZ_5.out) HZ_6.out) HZ_7.out) HZ_8.out) HZ_9.out) HZ_10.out))
  have HO_g0_12 := Lib.hid (HO_g0_11.out.below HB_11.out (Nat.le_trans (Nat.le_trans (Nat.le_trans (Nat.le_trans (Nat.le_trans HZ_5.out HZ_6.out) HZ_7.out) HZ_8.out) HZ_9.out) HZ_10.out))
  clear hb hown
  go_wp2_with fail
  refine (HI.out [(.slice A__t2_0 n__t2_0 c__t2_0), (.int .i64 y0.need)] _ (RKeys.more HO__t2_12.out.rd fun i hi => Nat.lt_of_lt_of_le hi (Nat.le_refl _))).mono ?_
  rintro e W_13 ⟨A_h0, c_h0, rfl, ho0, hb⟩
  have HO_h0_13 := Lib.hid ho0
  have HB_12 := Lib.hid hb
  have HZ_12 := Lib.hid HB_12.out.size
  have HA_13 := Lib.hid (HA_12.out.trans (HB_12.out.mono HA_12.out.size))
  have HO_w0_13 := Lib.hid (HO_w0_12.out.below HB_12.out (Nat.le_trans (Nat.le_trans (Nat.le_trans (Nat.le_trans (Nat.le_trans (Nat.le_trans (Nat.le_trans (Nat.le_trans HZ_3.out HZ_4.out) HZ_5.out) HZ_6.out) HZ_7.out) HZ_8.out) HZ_9.out) HZ_10.out) HZ_11.out))
  have HO_g0_13 := Lib.hid (HO_g0_12.out.below HB_12.out (Nat.le_trans (Nat.le_trans (Nat.le_trans (Nat.le_trans (Nat.le_trans (Nat.le_trans HZ_5.out HZ_6.out) HZ_7.out) HZ_8.out) HZ_9.out) HZ_10.out) HZ_11.out))
  clear hb ho0
  clear x_aK_0 x_aK_1
  go_wp2_with fail
  refine (eqIntS_same _ _ A_h0 A_w0 r0.length c_h0 c_w0 r0 _ (HO_h0_13.out.rd.more (Nat.le_refl _)) (HO_w0_13.out.rd.more (Nat.le_trans (Nat.le_trans (Nat.le_trans (Nat.le_trans (Nat.le_trans (Nat.le_trans (Nat.le_trans (Nat.le_trans (Nat.le_trans HZ_3.out HZ_4.out) HZ_5.out) HZ_6.out) HZ_7.out) HZ_8.out) HZ_9.out) HZ_10.out) HZ_11.out) HZ_12.out)) (by omega)).mono ?_
  rintro e W_14 ⟨rfl, hb⟩
  have HB_13 := Lib.hid hb
  have HZ_13 := Lib.hid (HB_13.out.below 0).size
  have HA_14 := Lib.hid (HA_13.out.trans (HB_13.out.below _))
  have HO_g0_14 := Lib.hid (HO_g0_13.out.same HB_13.out)
  clear hb
  go_wp2_with fail
  refine (heldIntS_marks _ A_g0 r0.length c_g0 1 _ HO_g0_14.out.rd (by omega) (by omega) (by omega)).mono ?_
  rintro e W_15 ⟨rfl, rfl⟩
  go_wp2
  go_ret
  exact ⟨rfl, HA_14.out⟩
theorem FnExactKeysDigest_walk (W0 : World) (u0_0 u0_1 : Value) (y0 : Keys) (w0 : RKeys.rd W0 (Lt W0.heap.size) [u0_0, u0_1] y0) :
    Calls Try.prog 6 #[.agg #[u0_0, u0_1]] W0 fun e w' => e = .returned (.bool true) ∧ Below W0.heap.size W0 w' := by
  have HA_0 := Lib.hid (show Below W0.heap.size W0 (W0.alloc (.cells #[u0_0, u0_1] 43)) from (Below.refl _ _).alloc (by first | (simp; done) | (simp; omega)) _)
  have HO_aK_0 := Lib.hid (RKeys.keep w0 fun i hi => HA_0.out.block i hi)
  have HX_aK_0 := Lib.hid (show Box (W0.alloc (.cells #[u0_0, u0_1] 43)) (W0.heap.size) [u0_0, u0_1] from (show Box (W0.alloc (.cells #[u0_0, u0_1] 43)) (W0.heap.size) [u0_0, u0_1] by have h := Box.new W0 #[u0_0, u0_1] 43; simpa using h))
  clear w0
  go_enter Try.func6, Try.ntmps6
  have x_aK_0 := HX_aK_0.out.cell (j := 0) rfl
  have x_aK_1 := HX_aK_0.out.cell (j := 1) rfl
  by_cases hn_aK : 1048576 < (totKeys y0 : Int)
  · have HN := Lib.hid hn_aK
    clear hn_aK
    go_wp2_with fail
    refine (szKeys_any [u0_0, u0_1] y0 1048576 _ (RKeys.more HO_aK_0.out fun i hi => Nat.lt_of_lt_of_le hi HA_0.out.size) (by omega) (by omega)).mono ?_
    rw [if_pos HN.out]
    rintro e W_1 ⟨rfl, hb⟩
    have HAe := Lib.hid (HA_0.out.trans (hb.mono HA_0.out.size))
    clear hb
    go_wp2
    go_ret
    exact ⟨rfl, HAe.out⟩
  have hY0 : totKeys y0 ≤ 1048576 := by omega
  have HN_aK := Lib.hid hn_aK
  clear hn_aK
  go_wp2_with fail
  refine (szKeys_any [u0_0, u0_1] y0 1048576 _ (RKeys.more HO_aK_0.out fun i hi => Nat.lt_of_lt_of_le hi HA_0.out.size) (by omega) (by omega)).mono ?_
  rw [if_neg (show ¬ 1048576 < (totKeys y0 : Int) by have := HN_aK.out; omega)]
  rintro e W_1 ⟨rfl, hb⟩
  obtain ⟨qq0, hqq0⟩ : ∃ x, x = 1048576 - (totKeys y0 : Int) := ⟨_, rfl⟩
  rw [← hqq0]
  have hqq0l : 0 ≤ qq0 ∧ qq0 ≤ 1048576 := by have := HN_aK.out; omega
  have hqq0n : ¬ qq0 < 0 := by omega
  clear hqq0
  have HB_0 := Lib.hid hb
  have HZ_0 := Lib.hid HB_0.out.size
  have HA_1 := Lib.hid (HA_0.out.trans (HB_0.out.mono HA_0.out.size))
  have HO_aK_1 := Lib.hid (RKeys.keep HO_aK_0.out fun i hi => HB_0.out.block i (Nat.lt_of_lt_of_le hi HA_0.out.size))
  have HX_aK_1 := Lib.hid (HX_aK_0.out.below HB_0.out HX_aK_0.out.lt)
  clear hb
  clear x_aK_0 x_aK_1
  have x_aK_0 := HX_aK_1.out.cell (j := 0) rfl
  have x_aK_1 := HX_aK_1.out.cell (j := 1) rfl
  obtain ⟨r0, hS, hI⟩ := both_KeysDigest y0 hY0
  have HS := Lib.hid hS
  have HI := Lib.hid hI
  clear hS hI
  have hcy0 := cntKeys_le y0
  go_wp2_with fail
  refine (toKeys_any [u0_0, u0_1] y0 _ (RKeys.more HO_aK_1.out fun i hi => Nat.lt_of_lt_of_le hi HA_1.out.size) (by omega)).mono ?_
  rintro e W_2 ⟨cs__t0, rfl, hown, hb⟩
  obtain ⟨A__t0_0, n__t0_0, c__t0_0, rfl⟩ := RKeys_shape hown.rd
  have HO__t0_2 := Lib.hid (hown)
  have HB_1 := Lib.hid hb
  have HZ_1 := Lib.hid HB_1.out.size
  have HA_2 := Lib.hid (HA_1.out.trans (HB_1.out.mono HA_1.out.size))
  have HO_aK_2 := Lib.hid (RKeys.keep HO_aK_1.out fun i hi => HB_1.out.block i (Nat.lt_of_lt_of_le hi HA_1.out.size))
  have HX_aK_2 := Lib.hid (HX_aK_1.out.below HB_1.out HX_aK_1.out.lt)
  clear hb hown
  go_wp2_with fail
  refine (HS.out [(.slice A__t0_0 n__t0_0 c__t0_0), (.int .i64 y0.need)] _ (RKeys.more HO__t0_2.out.rd fun i hi => Nat.lt_of_lt_of_le hi (Nat.le_refl _))).mono ?_
  rintro e W_3 ⟨rfl, hb⟩
  have HB_2 := Lib.hid hb
  have HZ_2 := Lib.hid HB_2.out.size
  have HA_3 := Lib.hid (HA_2.out.trans (HB_2.out.mono HA_2.out.size))
  have HO_aK_3 := Lib.hid (RKeys.keep HO_aK_2.out fun i hi => HB_2.out.block i (Nat.lt_of_lt_of_le hi HA_2.out.size))
  have HX_aK_3 := Lib.hid (HX_aK_2.out.below HB_2.out HX_aK_2.out.lt)
  clear hb
  clear x_aK_0 x_aK_1
  have x_aK_0 := HX_aK_3.out.cell (j := 0) rfl
  have x_aK_1 := HX_aK_3.out.cell (j := 1) rfl
  go_wp2_with fail
  refine (toKeys_any [u0_0, u0_1] y0 _ (RKeys.more HO_aK_3.out fun i hi => Nat.lt_of_lt_of_le hi HA_3.out.size) (by omega)).mono ?_
  rintro e W_4 ⟨cs_x0, rfl, hown, hb⟩
  obtain ⟨A_x0_0, n_x0_0, c_x0_0, rfl⟩ := RKeys_shape hown.rd
  have HO_x0_4 := Lib.hid (hown.alloc (.cells #[(.slice A_x0_0 n_x0_0 c_x0_0), (.int .i64 y0.need)] 26))
  have HT_4 := Lib.hid (show W_4.heap.size ≤ (W_4.alloc (.cells #[(.slice A_x0_0 n_x0_0 c_x0_0), (.int .i64 y0.need)] 26)).heap.size by simp)
  have hb3 := hb.alloc hb.size (.cells #[(.slice A_x0_0 n_x0_0 c_x0_0), (.int .i64 y0.need)] 26)
  have HB_3 := Lib.hid hb3
  have HZ_3 := Lib.hid HB_3.out.size
  have HA_4 := Lib.hid (HA_3.out.trans (HB_3.out.mono HA_3.out.size))
  have HO_aK_4 := Lib.hid (RKeys.keep HO_aK_3.out fun i hi => HB_3.out.block i (Nat.lt_of_lt_of_le hi HA_3.out.size))
  have HX_aK_4 := Lib.hid (HX_aK_3.out.below HB_3.out HX_aK_3.out.lt)
  clear hb hown
  have HX_x0_4 := Lib.hid (show Box (W_4.alloc (.cells #[(.slice A_x0_0 n_x0_0 c_x0_0), (.int .i64 y0.need)] 26)) W_4.heap.size [(.slice A_x0_0 n_x0_0 c_x0_0), (.int .i64 y0.need)] from Box.new W_4 #[(.slice A_x0_0 n_x0_0 c_x0_0), (.int .i64 y0.need)] 26)
  clear x_aK_0 x_aK_1
  have x_x0_0 := HX_x0_4.out.cell (j := 0) rfl
  have x_x0_1 := HX_x0_4.out.cell (j := 1) rfl
  go_wp2_with fail
  refine (HI.out [(.slice A_x0_0 n_x0_0 c_x0_0), (.int .i64 y0.need)] _ (RKeys.more HO_x0_4.out.rd fun i hi => Nat.lt_of_lt_of_le hi (Nat.le_trans HT_4.out (Nat.le_refl _)))).mono ?_
  rintro e W_5 ⟨rfl, hb⟩
  have HB_4 := Lib.hid hb
  have HZ_4 := Lib.hid HB_4.out.size
  have HA_5 := Lib.hid (HA_4.out.trans (HB_4.out.mono HA_4.out.size))
  have HO_aK_5 := Lib.hid (RKeys.keep HO_aK_4.out fun i hi => HB_4.out.block i (Nat.lt_of_lt_of_le hi HA_4.out.size))
  have HO_x0_5 := Lib.hid (HO_x0_4.out.below HB_4.out (Nat.le_trans HT_4.out (Nat.le_refl _)))
  have HX_aK_5 := Lib.hid (HX_aK_4.out.below HB_4.out HX_aK_4.out.lt)
  have HX_x0_5 := Lib.hid (HX_x0_4.out.below HB_4.out HX_x0_4.out.lt)
  clear hb
  clear x_x0_0 x_x0_1
  have x_aK_0 := HX_aK_5.out.cell (j := 0) rfl
  have x_aK_1 := HX_aK_5.out.cell (j := 1) rfl
  have x_x0_0 := HX_x0_5.out.cell (j := 0) rfl
  have x_x0_1 := HX_x0_5.out.cell (j := 1) rfl
  have HD_aK := Lib.hid (show RKeys.rd W_5.drew (Lt W_5.drew.heap.size) [u0_0, u0_1] y0 from RKeys.keep (RKeys.more HO_aK_5.out fun i hi => Nat.lt_of_lt_of_le hi HA_5.out.size) fun i _ => rfl)
  go_wp2_with fail
  go_region_held3 (fun w' => w'.cell? ⟨W0.heap.size, 0, none⟩ = some u0_0 ∧ w'.cell? ⟨W0.heap.size, 1, none⟩ = some u0_1 ∧ w'.cell? ⟨W_4.heap.size, 0, none⟩ = some (.slice A_x0_0 n_x0_0 c_x0_0) ∧ w'.cell? ⟨W_4.heap.size, 1, none⟩ = some (.int .i64 y0.need)) (first | exact ⟨x_aK_0, x_aK_1, x_x0_0, x_x0_1⟩ | exact ⟨x_aK_0_6, x_aK_1_6, x_x0_0_6, x_x0_1_6⟩ | exact ⟨x_aK_0_7, x_aK_1_7, x_x0_0_7, x_x0_1_7⟩) ((first
    | (go_at_call 29; (with_reducible refine (toKeys_any [u0_0, u0_1] y0 W_5.drew HD_aK.out (by omega)).mono ?_); rintro e W_6 ⟨cs__t1, rfl, hown, hb⟩; obtain ⟨A__t1_0, n__t1_0, c__t1_0, rfl⟩ := RKeys_shape hown.rd; have HO__t1_6 := Lib.hid (hown); have HB_5 := Lib.hid (below_drew hb); have HZ_5 := Lib.hid HB_5.out.size; have HA_6 := Lib.hid (HA_5.out.trans (HB_5.out.mono HA_5.out.size)); have HO_aK_6 := Lib.hid (RKeys.keep HO_aK_5.out fun i hi => HB_5.out.block i (Nat.lt_of_lt_of_le hi HA_5.out.size)); have HO_x0_6 := Lib.hid (HO_x0_5.out.below HB_5.out (Nat.le_trans HT_4.out HZ_4.out)); have HX_aK_6 := Lib.hid (HX_aK_5.out.below HB_5.out HX_aK_5.out.lt); have HX_x0_6 := Lib.hid (HX_x0_5.out.below HB_5.out HX_x0_5.out.lt); clear hb hown; have x_aK_0_6 := HX_aK_6.out.cell (j := 0) rfl; have x_aK_1_6 := HX_aK_6.out.cell (j := 1) rfl; have x_x0_0_6 := HX_x0_6.out.cell (j := 0) rfl; have x_x0_1_6 := HX_x0_6.out.cell (j := 1) rfl)
    | (go_at_call 30; (with_reducible refine (eqKeys_same _ _ [(.slice A_x0_0 n_x0_0 c_x0_0), (.int .i64 y0.need)] [(.slice A__t1_0 n__t1_0 c__t1_0), (.int .i64 y0.need)] y0 _ (RKeys.more HO_x0_6.out.rd fun i hi => Nat.lt_of_lt_of_le hi (Nat.le_trans HT_4.out (Nat.le_trans HZ_4.out HZ_5.out))) (RKeys.more HO__t1_6.out.rd fun i hi => Nat.lt_of_lt_of_le hi (Nat.le_refl _)) (Nat.le_refl _) (Nat.le_refl _) (by omega)).mono ?_); rintro e W_7 ⟨rfl, hb⟩; have HB_6 := Lib.hid hb; have HZ_6 := Lib.hid HB_6.out.size; have HA_7 := Lib.hid (HA_6.out.trans (HB_6.out.mono HA_6.out.size)); have HO_aK_7 := Lib.hid (RKeys.keep HO_aK_6.out fun i hi => HB_6.out.block i (Nat.lt_of_lt_of_le hi HA_6.out.size)); have HO_x0_7 := Lib.hid (HO_x0_6.out.below HB_6.out (Nat.le_trans HT_4.out (Nat.le_trans HZ_4.out HZ_5.out))); have HX_aK_7 := Lib.hid (HX_aK_6.out.below HB_6.out HX_aK_6.out.lt); have HX_x0_7 := Lib.hid (HX_x0_6.out.below HB_6.out HX_x0_6.out.lt); clear hb; have x_aK_0_7 := HX_aK_7.out.cell (j := 0) rfl; have x_aK_1_7 := HX_aK_7.out.cell (j := 1) rfl; have x_x0_0_7 := HX_x0_7.out.cell (j := 0) rfl; have x_x0_1_7 := HX_x0_7.out.cell (j := 1) rfl)))
  clear x_aK_0 x_aK_1 x_x0_0 x_x0_1
  go_wp2
  go_ret
  exact ⟨rfl, HA_7.out⟩
theorem FnExactHasKey_walk (W0 : World) (u0_0 u0_1 : Value) (y0 : Keys) (w0 : RKeys.rd W0 (Lt W0.heap.size) [u0_0, u0_1] y0) (v1 : Int) (hv1 : (Lit.int .i64 v1).wf = true) :
    Calls Try.prog 7 #[.agg #[u0_0, u0_1], .int .i64 v1] W0 fun e w' => e = .returned (.bool true) ∧ Below W0.heap.size W0 w' := by
  have hV1 : -9223372036854775808 ≤ v1 ∧ v1 ≤ 9223372036854775807 := by simpa [Lit.wf, IntKind.min, IntKind.max, IntKind.signed, IntKind.bits] using hv1
  clear hv1
  have HA_0 := Lib.hid (show Below W0.heap.size W0 (W0.alloc (.cells #[u0_0, u0_1] 43)) from (Below.refl _ _).alloc (by first | (simp; done) | (simp; omega)) _)
  have HO_aK_0 := Lib.hid (RKeys.keep w0 fun i hi => HA_0.out.block i hi)
  have HX_aK_0 := Lib.hid (show Box (W0.alloc (.cells #[u0_0, u0_1] 43)) (W0.heap.size) [u0_0, u0_1] from (show Box (W0.alloc (.cells #[u0_0, u0_1] 43)) (W0.heap.size) [u0_0, u0_1] by have h := Box.new W0 #[u0_0, u0_1] 43; simpa using h))
  clear w0
  go_enter Try.func7, Try.ntmps7
  have x_aK_0 := HX_aK_0.out.cell (j := 0) rfl
  have x_aK_1 := HX_aK_0.out.cell (j := 1) rfl
  by_cases hn_aK : 1048576 < (totKeys y0 : Int)
  · have HN := Lib.hid hn_aK
    clear hn_aK
    go_wp2_with fail
    refine (szKeys_any [u0_0, u0_1] y0 1048576 _ (RKeys.more HO_aK_0.out fun i hi => Nat.lt_of_lt_of_le hi HA_0.out.size) (by omega) (by omega)).mono ?_
    rw [if_pos HN.out]
    rintro e W_1 ⟨rfl, hb⟩
    have HAe := Lib.hid (HA_0.out.trans (hb.mono HA_0.out.size))
    clear hb
    go_wp2
    go_ret
    exact ⟨rfl, HAe.out⟩
  have hY0 : totKeys y0 ≤ 1048576 := by omega
  have HN_aK := Lib.hid hn_aK
  clear hn_aK
  go_wp2_with fail
  refine (szKeys_any [u0_0, u0_1] y0 1048576 _ (RKeys.more HO_aK_0.out fun i hi => Nat.lt_of_lt_of_le hi HA_0.out.size) (by omega) (by omega)).mono ?_
  rw [if_neg (show ¬ 1048576 < (totKeys y0 : Int) by have := HN_aK.out; omega)]
  rintro e W_1 ⟨rfl, hb⟩
  obtain ⟨qq0, hqq0⟩ : ∃ x, x = 1048576 - (totKeys y0 : Int) := ⟨_, rfl⟩
  rw [← hqq0]
  have hqq0l : 0 ≤ qq0 ∧ qq0 ≤ 1048576 := by have := HN_aK.out; omega
  have hqq0n : ¬ qq0 < 0 := by omega
  clear hqq0
  have HB_0 := Lib.hid hb
  have HZ_0 := Lib.hid HB_0.out.size
  have HA_1 := Lib.hid (HA_0.out.trans (HB_0.out.mono HA_0.out.size))
  have HO_aK_1 := Lib.hid (RKeys.keep HO_aK_0.out fun i hi => HB_0.out.block i (Nat.lt_of_lt_of_le hi HA_0.out.size))
  have HX_aK_1 := Lib.hid (HX_aK_0.out.below HB_0.out HX_aK_0.out.lt)
  clear hb
  clear x_aK_0 x_aK_1
  have x_aK_0 := HX_aK_1.out.cell (j := 0) rfl
  have x_aK_1 := HX_aK_1.out.cell (j := 1) rfl
  obtain ⟨r0, hS, hI⟩ := both_HasKey y0 v1 hY0 hV1
  have HS := Lib.hid hS
  have HI := Lib.hid hI
  clear hS hI
  have hcy0 := cntKeys_le y0
  go_wp2_with fail
  refine (toKeys_any [u0_0, u0_1] y0 _ (RKeys.more HO_aK_1.out fun i hi => Nat.lt_of_lt_of_le hi HA_1.out.size) (by omega)).mono ?_
  rintro e W_2 ⟨cs__t0, rfl, hown, hb⟩
  obtain ⟨A__t0_0, n__t0_0, c__t0_0, rfl⟩ := RKeys_shape hown.rd
  have HO__t0_2 := Lib.hid (hown)
  have HB_1 := Lib.hid hb
  have HZ_1 := Lib.hid HB_1.out.size
  have HA_2 := Lib.hid (HA_1.out.trans (HB_1.out.mono HA_1.out.size))
  have HO_aK_2 := Lib.hid (RKeys.keep HO_aK_1.out fun i hi => HB_1.out.block i (Nat.lt_of_lt_of_le hi HA_1.out.size))
  have HX_aK_2 := Lib.hid (HX_aK_1.out.below HB_1.out HX_aK_1.out.lt)
  clear hb hown
  go_wp2_with fail
  refine (HS.out [(.slice A__t0_0 n__t0_0 c__t0_0), (.int .i64 y0.need)] _ (RKeys.more HO__t0_2.out.rd fun i hi => Nat.lt_of_lt_of_le hi (Nat.le_refl _))).mono ?_
  rintro e W_3 ⟨rfl, hb⟩
  have HB_2 := Lib.hid hb
  have HZ_2 := Lib.hid HB_2.out.size
  have HA_3 := Lib.hid (HA_2.out.trans (HB_2.out.mono HA_2.out.size))
  have HO_aK_3 := Lib.hid (RKeys.keep HO_aK_2.out fun i hi => HB_2.out.block i (Nat.lt_of_lt_of_le hi HA_2.out.size))
  have HX_aK_3 := Lib.hid (HX_aK_2.out.below HB_2.out HX_aK_2.out.lt)
  clear hb
  clear x_aK_0 x_aK_1
  have x_aK_0 := HX_aK_3.out.cell (j := 0) rfl
  have x_aK_1 := HX_aK_3.out.cell (j := 1) rfl
  go_wp2_with fail
  refine (toKeys_any [u0_0, u0_1] y0 _ (RKeys.more HO_aK_3.out fun i hi => Nat.lt_of_lt_of_le hi HA_3.out.size) (by omega)).mono ?_
  rintro e W_4 ⟨cs_x0, rfl, hown, hb⟩
  obtain ⟨A_x0_0, n_x0_0, c_x0_0, rfl⟩ := RKeys_shape hown.rd
  have HO_x0_4 := Lib.hid (hown.alloc (.cells #[(.slice A_x0_0 n_x0_0 c_x0_0), (.int .i64 y0.need)] 26))
  have HT_4 := Lib.hid (show W_4.heap.size ≤ (W_4.alloc (.cells #[(.slice A_x0_0 n_x0_0 c_x0_0), (.int .i64 y0.need)] 26)).heap.size by simp)
  have hb3 := hb.alloc hb.size (.cells #[(.slice A_x0_0 n_x0_0 c_x0_0), (.int .i64 y0.need)] 26)
  have HB_3 := Lib.hid hb3
  have HZ_3 := Lib.hid HB_3.out.size
  have HA_4 := Lib.hid (HA_3.out.trans (HB_3.out.mono HA_3.out.size))
  have HO_aK_4 := Lib.hid (RKeys.keep HO_aK_3.out fun i hi => HB_3.out.block i (Nat.lt_of_lt_of_le hi HA_3.out.size))
  have HX_aK_4 := Lib.hid (HX_aK_3.out.below HB_3.out HX_aK_3.out.lt)
  clear hb hown
  have HX_x0_4 := Lib.hid (show Box (W_4.alloc (.cells #[(.slice A_x0_0 n_x0_0 c_x0_0), (.int .i64 y0.need)] 26)) W_4.heap.size [(.slice A_x0_0 n_x0_0 c_x0_0), (.int .i64 y0.need)] from Box.new W_4 #[(.slice A_x0_0 n_x0_0 c_x0_0), (.int .i64 y0.need)] 26)
  clear x_aK_0 x_aK_1
  have x_x0_0 := HX_x0_4.out.cell (j := 0) rfl
  have x_x0_1 := HX_x0_4.out.cell (j := 1) rfl
  go_wp2_with fail
  refine (HI.out [(.slice A_x0_0 n_x0_0 c_x0_0), (.int .i64 y0.need)] _ (RKeys.more HO_x0_4.out.rd fun i hi => Nat.lt_of_lt_of_le hi (Nat.le_trans HT_4.out (Nat.le_refl _)))).mono ?_
  rintro e W_5 ⟨rfl, hb⟩
  have HB_4 := Lib.hid hb
  have HZ_4 := Lib.hid HB_4.out.size
  have HA_5 := Lib.hid (HA_4.out.trans (HB_4.out.mono HA_4.out.size))
  have HO_aK_5 := Lib.hid (RKeys.keep HO_aK_4.out fun i hi => HB_4.out.block i (Nat.lt_of_lt_of_le hi HA_4.out.size))
  have HO_x0_5 := Lib.hid (HO_x0_4.out.below HB_4.out (Nat.le_trans HT_4.out (Nat.le_refl _)))
  have HX_aK_5 := Lib.hid (HX_aK_4.out.below HB_4.out HX_aK_4.out.lt)
  have HX_x0_5 := Lib.hid (HX_x0_4.out.below HB_4.out HX_x0_4.out.lt)
  clear hb
  clear x_x0_0 x_x0_1
  have x_aK_0 := HX_aK_5.out.cell (j := 0) rfl
  have x_aK_1 := HX_aK_5.out.cell (j := 1) rfl
  have x_x0_0 := HX_x0_5.out.cell (j := 0) rfl
  have x_x0_1 := HX_x0_5.out.cell (j := 1) rfl
  have HD_aK := Lib.hid (show RKeys.rd W_5.drew (Lt W_5.drew.heap.size) [u0_0, u0_1] y0 from RKeys.keep (RKeys.more HO_aK_5.out fun i hi => Nat.lt_of_lt_of_le hi HA_5.out.size) fun i _ => rfl)
  go_wp2_with fail
  go_region_held3 (fun w' => w'.cell? ⟨W0.heap.size, 0, none⟩ = some u0_0 ∧ w'.cell? ⟨W0.heap.size, 1, none⟩ = some u0_1 ∧ w'.cell? ⟨W_4.heap.size, 0, none⟩ = some (.slice A_x0_0 n_x0_0 c_x0_0) ∧ w'.cell? ⟨W_4.heap.size, 1, none⟩ = some (.int .i64 y0.need)) (first | exact ⟨x_aK_0, x_aK_1, x_x0_0, x_x0_1⟩ | exact ⟨x_aK_0_6, x_aK_1_6, x_x0_0_6, x_x0_1_6⟩ | exact ⟨x_aK_0_7, x_aK_1_7, x_x0_0_7, x_x0_1_7⟩) ((first
    | (go_at_call 29; (with_reducible refine (toKeys_any [u0_0, u0_1] y0 W_5.drew HD_aK.out (by omega)).mono ?_); rintro e W_6 ⟨cs__t1, rfl, hown, hb⟩; obtain ⟨A__t1_0, n__t1_0, c__t1_0, rfl⟩ := RKeys_shape hown.rd; have HO__t1_6 := Lib.hid (hown); have HB_5 := Lib.hid (below_drew hb); have HZ_5 := Lib.hid HB_5.out.size; have HA_6 := Lib.hid (HA_5.out.trans (HB_5.out.mono HA_5.out.size)); have HO_aK_6 := Lib.hid (RKeys.keep HO_aK_5.out fun i hi => HB_5.out.block i (Nat.lt_of_lt_of_le hi HA_5.out.size)); have HO_x0_6 := Lib.hid (HO_x0_5.out.below HB_5.out (Nat.le_trans HT_4.out HZ_4.out)); have HX_aK_6 := Lib.hid (HX_aK_5.out.below HB_5.out HX_aK_5.out.lt); have HX_x0_6 := Lib.hid (HX_x0_5.out.below HB_5.out HX_x0_5.out.lt); clear hb hown; have x_aK_0_6 := HX_aK_6.out.cell (j := 0) rfl; have x_aK_1_6 := HX_aK_6.out.cell (j := 1) rfl; have x_x0_0_6 := HX_x0_6.out.cell (j := 0) rfl; have x_x0_1_6 := HX_x0_6.out.cell (j := 1) rfl)
    | (go_at_call 30; (with_reducible refine (eqKeys_same _ _ [(.slice A_x0_0 n_x0_0 c_x0_0), (.int .i64 y0.need)] [(.slice A__t1_0 n__t1_0 c__t1_0), (.int .i64 y0.need)] y0 _ (RKeys.more HO_x0_6.out.rd fun i hi => Nat.lt_of_lt_of_le hi (Nat.le_trans HT_4.out (Nat.le_trans HZ_4.out HZ_5.out))) (RKeys.more HO__t1_6.out.rd fun i hi => Nat.lt_of_lt_of_le hi (Nat.le_refl _)) (Nat.le_refl _) (Nat.le_refl _) (by omega)).mono ?_); rintro e W_7 ⟨rfl, hb⟩; have HB_6 := Lib.hid hb; have HZ_6 := Lib.hid HB_6.out.size; have HA_7 := Lib.hid (HA_6.out.trans (HB_6.out.mono HA_6.out.size)); have HO_aK_7 := Lib.hid (RKeys.keep HO_aK_6.out fun i hi => HB_6.out.block i (Nat.lt_of_lt_of_le hi HA_6.out.size)); have HO_x0_7 := Lib.hid (HO_x0_6.out.below HB_6.out (Nat.le_trans HT_4.out (Nat.le_trans HZ_4.out HZ_5.out))); have HX_aK_7 := Lib.hid (HX_aK_6.out.below HB_6.out HX_aK_6.out.lt); have HX_x0_7 := Lib.hid (HX_x0_6.out.below HB_6.out HX_x0_6.out.lt); clear hb; have x_aK_0_7 := HX_aK_7.out.cell (j := 0) rfl; have x_aK_1_7 := HX_aK_7.out.cell (j := 1) rfl; have x_x0_0_7 := HX_x0_7.out.cell (j := 0) rfl; have x_x0_1_7 := HX_x0_7.out.cell (j := 1) rfl)))
  clear x_aK_0 x_aK_1 x_x0_0 x_x0_1
  go_wp2
  go_ret
  exact ⟨rfl, HA_7.out⟩
theorem FnExactCanSign_walk (W0 : World) (u0_0 u0_1 : Value) (y0 : Keys) (w0 : RKeys.rd W0 (Lt W0.heap.size) [u0_0, u0_1] y0) (a1 : Option Addr) (l1 c1 : Nat) (z1 : List Int) (w1 : SL.IsRow .i64 W0 a1 l1 c1 z1) :
    Calls Try.prog 8 #[.agg #[u0_0, u0_1], .slice a1 l1 c1] W0 fun e w' => e = .returned (.bool true) ∧ Below W0.heap.size W0 w' := by
  have hR1 := rd_of_row w1
  have hC1 := row_cap w1
  have hL1 := hR1.len
  generalize z1.take l1 = y1 at hR1 hL1
  clear w1
  by_cases hg1 : 1048576 < l1
  · have hg : 1048576 < (l1 : Int) := by omega
    clear w0
    clear hR1 hL1 hC1
    go_enter Try.func8, Try.ntmps8
    go_wp2
    go_ret
    exact ⟨rfl, ((Below.refl _ _).alloc (by first | (simp; done) | (simp; omega)) _)⟩
  have HA_0 := Lib.hid (show Below W0.heap.size W0 (W0.alloc (.cells #[u0_0, u0_1] 43)) from (Below.refl _ _).alloc (by first | (simp; done) | (simp; omega)) _)
  have HO_aK_0 := Lib.hid (RKeys.keep w0 fun i hi => HA_0.out.block i hi)
  have HX_aK_0 := Lib.hid (show Box (W0.alloc (.cells #[u0_0, u0_1] 43)) (W0.heap.size) [u0_0, u0_1] from (show Box (W0.alloc (.cells #[u0_0, u0_1] 43)) (W0.heap.size) [u0_0, u0_1] by have h := Box.new W0 #[u0_0, u0_1] 43; simpa using h))
  have HO_aHeld_0 := Lib.hid (hR1.below HA_0.out (Nat.le_refl _))
  have HC1 := Lib.hid hC1
  clear w0
  clear hR1
  go_enter Try.func8, Try.ntmps8
  have x_aK_0 := HX_aK_0.out.cell (j := 0) rfl
  have x_aK_1 := HX_aK_0.out.cell (j := 1) rfl
  by_cases hn_aK : 1048576 < (totKeys y0 : Int)
  · have HN := Lib.hid hn_aK
    clear hn_aK
    go_wp2_with fail
    refine (szKeys_any [u0_0, u0_1] y0 1048576 _ (RKeys.more HO_aK_0.out fun i hi => Nat.lt_of_lt_of_le hi HA_0.out.size) (by omega) (by omega)).mono ?_
    rw [if_pos HN.out]
    rintro e W_1 ⟨rfl, hb⟩
    have HAe := Lib.hid (HA_0.out.trans (hb.mono HA_0.out.size))
    clear hb
    go_wp2
    go_ret
    exact ⟨rfl, HAe.out⟩
  have hY0 : totKeys y0 ≤ 1048576 := by omega
  have HN_aK := Lib.hid hn_aK
  clear hn_aK
  go_wp2_with fail
  refine (szKeys_any [u0_0, u0_1] y0 1048576 _ (RKeys.more HO_aK_0.out fun i hi => Nat.lt_of_lt_of_le hi HA_0.out.size) (by omega) (by omega)).mono ?_
  rw [if_neg (show ¬ 1048576 < (totKeys y0 : Int) by have := HN_aK.out; omega)]
  rintro e W_1 ⟨rfl, hb⟩
  obtain ⟨qq0, hqq0⟩ : ∃ x, x = 1048576 - (totKeys y0 : Int) := ⟨_, rfl⟩
  rw [← hqq0]
  have hqq0l : 0 ≤ qq0 ∧ qq0 ≤ 1048576 := by have := HN_aK.out; omega
  have hqq0n : ¬ qq0 < 0 := by omega
  clear hqq0
  have HB_0 := Lib.hid hb
  have HZ_0 := Lib.hid HB_0.out.size
  have HA_1 := Lib.hid (HA_0.out.trans (HB_0.out.mono HA_0.out.size))
  have HO_aK_1 := Lib.hid (RKeys.keep HO_aK_0.out fun i hi => HB_0.out.block i (Nat.lt_of_lt_of_le hi HA_0.out.size))
  have HO_aHeld_1 := Lib.hid (HO_aHeld_0.out.below HB_0.out HA_0.out.size)
  have HX_aK_1 := Lib.hid (HX_aK_0.out.below HB_0.out HX_aK_0.out.lt)
  clear hb
  clear x_aK_0 x_aK_1
  have x_aK_0 := HX_aK_1.out.cell (j := 0) rfl
  have x_aK_1 := HX_aK_1.out.cell (j := 1) rfl
  obtain ⟨r0, hS, hI⟩ := both_CanSign y0 y1 hY0 (by omega)
  have HS := Lib.hid hS
  have HI := Lib.hid hI
  clear hS hI
  have hcy0 := cntKeys_le y0
  go_wp2_with fail
  refine (toKeys_any [u0_0, u0_1] y0 _ (RKeys.more HO_aK_1.out fun i hi => Nat.lt_of_lt_of_le hi HA_1.out.size) (by omega)).mono ?_
  rintro e W_2 ⟨cs__t0, rfl, hown, hb⟩
  obtain ⟨A__t0_0, n__t0_0, c__t0_0, rfl⟩ := RKeys_shape hown.rd
  have HO__t0_2 := Lib.hid (hown)
  have HB_1 := Lib.hid hb
  have HZ_1 := Lib.hid HB_1.out.size
  have HA_2 := Lib.hid (HA_1.out.trans (HB_1.out.mono HA_1.out.size))
  have HO_aK_2 := Lib.hid (RKeys.keep HO_aK_1.out fun i hi => HB_1.out.block i (Nat.lt_of_lt_of_le hi HA_1.out.size))
  have HO_aHeld_2 := Lib.hid (HO_aHeld_1.out.below HB_1.out HA_1.out.size)
  have HX_aK_2 := Lib.hid (HX_aK_1.out.below HB_1.out HX_aK_1.out.lt)
  clear hb hown
  go_wp2_with fail
  refine (toIntS_any a1 l1 c1 y1 _ (HO_aHeld_2.out.more HA_2.out.size) (by omega)).mono ?_
  rintro e W_3 ⟨A__t1, c__t1, rfl, hown, hb⟩
  have HO__t1_3 := Lib.hid hown
  have HB_2 := Lib.hid hb
  have HZ_2 := Lib.hid HB_2.out.size
  have HA_3 := Lib.hid (HA_2.out.trans (HB_2.out.mono HA_2.out.size))
  have HO_aK_3 := Lib.hid (RKeys.keep HO_aK_2.out fun i hi => HB_2.out.block i (Nat.lt_of_lt_of_le hi HA_2.out.size))
  have HO_aHeld_3 := Lib.hid (HO_aHeld_2.out.below HB_2.out HA_2.out.size)
  have HO__t0_3 := Lib.hid (HO__t0_2.out.below HB_2.out (Nat.le_refl _))
  have HX_aK_3 := Lib.hid (HX_aK_2.out.below HB_2.out HX_aK_2.out.lt)
  clear hb hown
  go_wp2_with fail
  refine (HS.out [(.slice A__t0_0 n__t0_0 c__t0_0), (.int .i64 y0.need)] A__t1 l1 c__t1 _ (RKeys.more HO__t0_3.out.rd fun i hi => Nat.lt_of_lt_of_le hi HZ_2.out) (HO__t1_3.out.cap.1) (HO__t1_3.out.rd.more (Nat.le_refl _))).mono ?_
  rintro e W_4 ⟨rfl, hb⟩
  have HB_3 := Lib.hid hb
  have HZ_3 := Lib.hid HB_3.out.size
  have HA_4 := Lib.hid (HA_3.out.trans (HB_3.out.mono HA_3.out.size))
  have HO_aK_4 := Lib.hid (RKeys.keep HO_aK_3.out fun i hi => HB_3.out.block i (Nat.lt_of_lt_of_le hi HA_3.out.size))
  have HO_aHeld_4 := Lib.hid (HO_aHeld_3.out.below HB_3.out HA_3.out.size)
  have HX_aK_4 := Lib.hid (HX_aK_3.out.below HB_3.out HX_aK_3.out.lt)
  clear hb
  clear x_aK_0 x_aK_1
  have x_aK_0 := HX_aK_4.out.cell (j := 0) rfl
  have x_aK_1 := HX_aK_4.out.cell (j := 1) rfl
  go_wp2_with fail
  refine (toKeys_any [u0_0, u0_1] y0 _ (RKeys.more HO_aK_4.out fun i hi => Nat.lt_of_lt_of_le hi HA_4.out.size) (by omega)).mono ?_
  rintro e W_5 ⟨cs_x0, rfl, hown, hb⟩
  obtain ⟨A_x0_0, n_x0_0, c_x0_0, rfl⟩ := RKeys_shape hown.rd
  have HO_x0_5 := Lib.hid (hown.alloc (.cells #[(.slice A_x0_0 n_x0_0 c_x0_0), (.int .i64 y0.need)] 26))
  have HT_5 := Lib.hid (show W_5.heap.size ≤ (W_5.alloc (.cells #[(.slice A_x0_0 n_x0_0 c_x0_0), (.int .i64 y0.need)] 26)).heap.size by simp)
  have hb4 := hb.alloc hb.size (.cells #[(.slice A_x0_0 n_x0_0 c_x0_0), (.int .i64 y0.need)] 26)
  have HB_4 := Lib.hid hb4
  have HZ_4 := Lib.hid HB_4.out.size
  have HA_5 := Lib.hid (HA_4.out.trans (HB_4.out.mono HA_4.out.size))
  have HO_aK_5 := Lib.hid (RKeys.keep HO_aK_4.out fun i hi => HB_4.out.block i (Nat.lt_of_lt_of_le hi HA_4.out.size))
  have HO_aHeld_5 := Lib.hid (HO_aHeld_4.out.below HB_4.out HA_4.out.size)
  have HX_aK_5 := Lib.hid (HX_aK_4.out.below HB_4.out HX_aK_4.out.lt)
  clear hb hown
  have HX_x0_5 := Lib.hid (show Box (W_5.alloc (.cells #[(.slice A_x0_0 n_x0_0 c_x0_0), (.int .i64 y0.need)] 26)) W_5.heap.size [(.slice A_x0_0 n_x0_0 c_x0_0), (.int .i64 y0.need)] from Box.new W_5 #[(.slice A_x0_0 n_x0_0 c_x0_0), (.int .i64 y0.need)] 26)
  clear x_aK_0 x_aK_1
  go_wp2_with fail
  refine (toIntS_any a1 l1 c1 y1 _ (HO_aHeld_5.out.more HA_5.out.size) (by omega)).mono ?_
  rintro e W_6 ⟨A_x1, c_x1, rfl, hown, hb⟩
  have HO_x1_6 := Lib.hid hown
  have HB_5 := Lib.hid hb
  have HZ_5 := Lib.hid HB_5.out.size
  have HA_6 := Lib.hid (HA_5.out.trans (HB_5.out.mono HA_5.out.size))
  have HO_aK_6 := Lib.hid (RKeys.keep HO_aK_5.out fun i hi => HB_5.out.block i (Nat.lt_of_lt_of_le hi HA_5.out.size))
  have HO_aHeld_6 := Lib.hid (HO_aHeld_5.out.below HB_5.out HA_5.out.size)
  have HO_x0_6 := Lib.hid (HO_x0_5.out.below HB_5.out (Nat.le_trans HT_5.out (Nat.le_refl _)))
  have HX_aK_6 := Lib.hid (HX_aK_5.out.below HB_5.out HX_aK_5.out.lt)
  have HX_x0_6 := Lib.hid (HX_x0_5.out.below HB_5.out HX_x0_5.out.lt)
  clear hb hown
  have x_x0_0 := HX_x0_6.out.cell (j := 0) rfl
  have x_x0_1 := HX_x0_6.out.cell (j := 1) rfl
  go_wp2_with fail
  refine (HI.out [(.slice A_x0_0 n_x0_0 c_x0_0), (.int .i64 y0.need)] A_x1 l1 c_x1 _ (RKeys.more HO_x0_6.out.rd fun i hi => Nat.lt_of_lt_of_le hi (Nat.le_trans HT_5.out HZ_5.out)) (HO_x1_6.out.cap.1) (HO_x1_6.out.rd.more (Nat.le_refl _))).mono ?_
  rintro e W_7 ⟨rfl, hb⟩
  have HB_6 := Lib.hid hb
  have HZ_6 := Lib.hid HB_6.out.size
  have HA_7 := Lib.hid (HA_6.out.trans (HB_6.out.mono HA_6.out.size))
  have HO_aK_7 := Lib.hid (RKeys.keep HO_aK_6.out fun i hi => HB_6.out.block i (Nat.lt_of_lt_of_le hi HA_6.out.size))
  have HO_aHeld_7 := Lib.hid (HO_aHeld_6.out.below HB_6.out HA_6.out.size)
  have HO_x0_7 := Lib.hid (HO_x0_6.out.below HB_6.out (Nat.le_trans HT_5.out HZ_5.out))
  have HO_x1_7 := Lib.hid (HO_x1_6.out.below HB_6.out (Nat.le_refl _))
  have HX_aK_7 := Lib.hid (HX_aK_6.out.below HB_6.out HX_aK_6.out.lt)
  have HX_x0_7 := Lib.hid (HX_x0_6.out.below HB_6.out HX_x0_6.out.lt)
  clear hb
  clear x_x0_0 x_x0_1
  have x_aK_0 := HX_aK_7.out.cell (j := 0) rfl
  have x_aK_1 := HX_aK_7.out.cell (j := 1) rfl
  have x_x0_0 := HX_x0_7.out.cell (j := 0) rfl
  have x_x0_1 := HX_x0_7.out.cell (j := 1) rfl
  have HD_aK := Lib.hid (show RKeys.rd W_7.drew (Lt W_7.drew.heap.size) [u0_0, u0_1] y0 from RKeys.keep (RKeys.more HO_aK_7.out fun i hi => Nat.lt_of_lt_of_le hi HA_7.out.size) fun i _ => rfl)
  go_wp2_with fail
  go_region_held3 (fun w' => w'.cell? ⟨W0.heap.size, 0, none⟩ = some u0_0 ∧ w'.cell? ⟨W0.heap.size, 1, none⟩ = some u0_1 ∧ w'.cell? ⟨W_5.heap.size, 0, none⟩ = some (.slice A_x0_0 n_x0_0 c_x0_0) ∧ w'.cell? ⟨W_5.heap.size, 1, none⟩ = some (.int .i64 y0.need)) (first | exact ⟨x_aK_0, x_aK_1, x_x0_0, x_x0_1⟩ | exact ⟨x_aK_0_8, x_aK_1_8, x_x0_0_8, x_x0_1_8⟩ | exact ⟨x_aK_0_9, x_aK_1_9, x_x0_0_9, x_x0_1_9⟩) ((first
    | (go_at_call 29; (with_reducible refine (toKeys_any [u0_0, u0_1] y0 W_7.drew HD_aK.out (by omega)).mono ?_); rintro e W_8 ⟨cs__t2, rfl, hown, hb⟩; obtain ⟨A__t2_0, n__t2_0, c__t2_0, rfl⟩ := RKeys_shape hown.rd; have HO__t2_8 := Lib.hid (hown); have HB_7 := Lib.hid (below_drew hb); have HZ_7 := Lib.hid HB_7.out.size; have HA_8 := Lib.hid (HA_7.out.trans (HB_7.out.mono HA_7.out.size)); have HO_aK_8 := Lib.hid (RKeys.keep HO_aK_7.out fun i hi => HB_7.out.block i (Nat.lt_of_lt_of_le hi HA_7.out.size)); have HO_aHeld_8 := Lib.hid (HO_aHeld_7.out.below HB_7.out HA_7.out.size); have HO_x0_8 := Lib.hid (HO_x0_7.out.below HB_7.out (Nat.le_trans HT_5.out (Nat.le_trans HZ_5.out HZ_6.out))); have HO_x1_8 := Lib.hid (HO_x1_7.out.below HB_7.out HZ_6.out); have HX_aK_8 := Lib.hid (HX_aK_7.out.below HB_7.out HX_aK_7.out.lt); have HX_x0_8 := Lib.hid (HX_x0_7.out.below HB_7.out HX_x0_7.out.lt); clear hb hown; have x_aK_0_8 := HX_aK_8.out.cell (j := 0) rfl; have x_aK_1_8 := HX_aK_8.out.cell (j := 1) rfl; have x_x0_0_8 := HX_x0_8.out.cell (j := 0) rfl; have x_x0_1_8 := HX_x0_8.out.cell (j := 1) rfl)
    | (go_at_call 30; (with_reducible refine (eqKeys_same _ _ [(.slice A_x0_0 n_x0_0 c_x0_0), (.int .i64 y0.need)] [(.slice A__t2_0 n__t2_0 c__t2_0), (.int .i64 y0.need)] y0 _ (RKeys.more HO_x0_8.out.rd fun i hi => Nat.lt_of_lt_of_le hi (Nat.le_trans HT_5.out (Nat.le_trans (Nat.le_trans HZ_5.out HZ_6.out) HZ_7.out))) (RKeys.more HO__t2_8.out.rd fun i hi => Nat.lt_of_lt_of_le hi (Nat.le_refl _)) (Nat.le_refl _) (Nat.le_refl _) (by omega)).mono ?_); rintro e W_9 ⟨rfl, hb⟩; have HB_8 := Lib.hid hb; have HZ_8 := Lib.hid HB_8.out.size; have HA_9 := Lib.hid (HA_8.out.trans (HB_8.out.mono HA_8.out.size)); have HO_aK_9 := Lib.hid (RKeys.keep HO_aK_8.out fun i hi => HB_8.out.block i (Nat.lt_of_lt_of_le hi HA_8.out.size)); have HO_aHeld_9 := Lib.hid (HO_aHeld_8.out.below HB_8.out HA_8.out.size); have HO_x0_9 := Lib.hid (HO_x0_8.out.below HB_8.out (Nat.le_trans HT_5.out (Nat.le_trans (Nat.le_trans HZ_5.out HZ_6.out) HZ_7.out))); have HO_x1_9 := Lib.hid (HO_x1_8.out.below HB_8.out (Nat.le_trans HZ_6.out HZ_7.out)); have HX_aK_9 := Lib.hid (HX_aK_8.out.below HB_8.out HX_aK_8.out.lt); have HX_x0_9 := Lib.hid (HX_x0_8.out.below HB_8.out HX_x0_8.out.lt); clear hb; have x_aK_0_9 := HX_aK_9.out.cell (j := 0) rfl; have x_aK_1_9 := HX_aK_9.out.cell (j := 1) rfl; have x_x0_0_9 := HX_x0_9.out.cell (j := 0) rfl; have x_x0_1_9 := HX_x0_9.out.cell (j := 1) rfl)))
  clear x_aK_0 x_aK_1 x_x0_0 x_x0_1
  go_wp2_with fail
  refine (toIntS_any a1 l1 c1 y1 _ (HO_aHeld_9.out.more HA_9.out.size) (by omega)).mono ?_
  rintro e W_10 ⟨A__t3, c__t3, rfl, hown, hb⟩
  have HO__t3_10 := Lib.hid hown
  have HB_9 := Lib.hid hb
  have HZ_9 := Lib.hid HB_9.out.size
  have HA_10 := Lib.hid (HA_9.out.trans (HB_9.out.mono HA_9.out.size))
  have HO_x1_10 := Lib.hid (HO_x1_9.out.below HB_9.out (Nat.le_trans (Nat.le_trans HZ_6.out HZ_7.out) HZ_8.out))
  clear hb hown
  go_wp2_with fail
  refine (eqIntS_same _ _ A_x1 A__t3 l1 c_x1 c__t3 y1 _ (HO_x1_10.out.rd.more (Nat.le_trans (Nat.le_trans (Nat.le_trans HZ_6.out HZ_7.out) HZ_8.out) HZ_9.out)) (HO__t3_10.out.rd.more (Nat.le_refl _)) (by omega)).mono ?_
  rintro e W_11 ⟨rfl, hb⟩
  have HB_10 := Lib.hid hb
  have HZ_10 := Lib.hid (HB_10.out.below 0).size
  have HA_11 := Lib.hid (HA_10.out.trans (HB_10.out.below _))
  clear hb
  go_wp2
  go_ret
  exact ⟨rfl, HA_11.out⟩
theorem FnExactOneKey_walk (W0 : World) (v0 : Int) (hv0 : (Lit.int .i64 v0).wf = true) :
    Calls Try.prog 9 #[.int .i64 v0] W0 fun e w' => e = .returned (.bool true) ∧ Below W0.heap.size W0 w' := by
  have hV0 : -9223372036854775808 ≤ v0 ∧ v0 ≤ 9223372036854775807 := by simpa [Lit.wf, IntKind.min, IntKind.max, IntKind.signed, IntKind.bits] using hv0
  clear hv0
  have HA_0 := Lib.hid (show Below W0.heap.size W0 W0 from Below.refl _ _)
  go_enter Try.func9, Try.ntmps9
  obtain ⟨r0, hlen0, hS, hI⟩ := both_OneKey v0 hV0
  have HS := Lib.hid hS
  have HI := Lib.hid hI
  clear hS hI
  have hcnt0 := cntKeys_le r0
  go_wp2_with fail
  refine (HS.out  _ ).mono ?_
  rintro e W_1 ⟨cs_w0, rfl, ho0, hb⟩
  obtain ⟨A_w0_0, n_w0_0, c_w0_0, rfl⟩ := RKeys_shape ho0
  have HO_w0_1 := Lib.hid (RKeys.more (RKeys.keep ho0 fun i hi => Below.heap_alloc W_1 (.cells #[(.slice A_w0_0 n_w0_0 c_w0_0), (.int .i64 r0.need)] 26) i hi) (P' := Lt (W_1.alloc (.cells #[(.slice A_w0_0 n_w0_0 c_w0_0), (.int .i64 r0.need)] 26)).heap.size) fun i hi => Nat.lt_of_lt_of_le hi (by simp))
  have hb0 := hb.alloc hb.size (.cells #[(.slice A_w0_0 n_w0_0 c_w0_0), (.int .i64 r0.need)] 26)
  have HB_0 := Lib.hid hb0
  have HZ_0 := Lib.hid HB_0.out.size
  have HA_1 := Lib.hid (HA_0.out.trans (HB_0.out.mono HA_0.out.size))
  clear hb ho0
  have HX_w0_1 := Lib.hid (show Box (W_1.alloc (.cells #[(.slice A_w0_0 n_w0_0 c_w0_0), (.int .i64 r0.need)] 26)) W_1.heap.size [(.slice A_w0_0 n_w0_0 c_w0_0), (.int .i64 r0.need)] from Box.new W_1 #[(.slice A_w0_0 n_w0_0 c_w0_0), (.int .i64 r0.need)] 26)
  go_wp2_with fail
  refine (HI.out  _ ).mono ?_
  rintro e W_2 ⟨cs_g0, rfl, ho0, hb⟩
  obtain ⟨A_g0_0, n_g0_0, c_g0_0, rfl⟩ := RKeys_shape ho0.rd
  have HO_g0_2 := Lib.hid (ho0.alloc (.cells #[(.slice A_g0_0 n_g0_0 c_g0_0), (.int .i64 r0.need)] 26))
  have HT_2 := Lib.hid (show W_2.heap.size ≤ (W_2.alloc (.cells #[(.slice A_g0_0 n_g0_0 c_g0_0), (.int .i64 r0.need)] 26)).heap.size by simp)
  have hb1 := hb.alloc hb.size (.cells #[(.slice A_g0_0 n_g0_0 c_g0_0), (.int .i64 r0.need)] 26)
  have HB_1 := Lib.hid hb1
  have HZ_1 := Lib.hid HB_1.out.size
  have HA_2 := Lib.hid (HA_1.out.trans (HB_1.out.mono HA_1.out.size))
  have HO_w0_2 := Lib.hid (RKeys.keep HO_w0_1.out fun i hi => HB_1.out.block i (Nat.lt_of_lt_of_le hi (Nat.le_refl _)))
  have HX_w0_2 := Lib.hid (HX_w0_1.out.below HB_1.out HX_w0_1.out.lt)
  clear hb ho0
  have HX_g0_2 := Lib.hid (show Box (W_2.alloc (.cells #[(.slice A_g0_0 n_g0_0 c_g0_0), (.int .i64 r0.need)] 26)) W_2.heap.size [(.slice A_g0_0 n_g0_0 c_g0_0), (.int .i64 r0.need)] from Box.new W_2 #[(.slice A_g0_0 n_g0_0 c_g0_0), (.int .i64 r0.need)] 26)
  have x_g0_0 := HX_g0_2.out.cell (j := 0) rfl
  have x_g0_1 := HX_g0_2.out.cell (j := 1) rfl
  have x_w0_0 := HX_w0_2.out.cell (j := 0) rfl
  have x_w0_1 := HX_w0_2.out.cell (j := 1) rfl
  go_wp2_with fail
  refine (eqKeys_same _ _ [(.slice A_g0_0 n_g0_0 c_g0_0), (.int .i64 r0.need)] [(.slice A_w0_0 n_w0_0 c_w0_0), (.int .i64 r0.need)] r0 _ (RKeys.more HO_g0_2.out.rd fun i hi => Nat.lt_of_lt_of_le hi (Nat.le_trans HT_2.out (Nat.le_refl _))) (RKeys.more HO_w0_2.out fun i hi => Nat.lt_of_lt_of_le hi HZ_1.out) (Nat.le_refl _) (Nat.le_refl _) (by omega)).mono ?_
  rintro e W_3 ⟨rfl, hb⟩
  have HB_2 := Lib.hid hb
  have HZ_2 := Lib.hid HB_2.out.size
  have HA_3 := Lib.hid (HA_2.out.trans (HB_2.out.mono HA_2.out.size))
  have HO_w0_3 := Lib.hid (RKeys.keep HO_w0_2.out fun i hi => HB_2.out.block i (Nat.lt_of_lt_of_le hi HZ_1.out))
  have HO_g0_3 := Lib.hid (HO_g0_2.out.below HB_2.out (Nat.le_trans HT_2.out (Nat.le_refl _)))
  have HX_w0_3 := Lib.hid (HX_w0_2.out.below HB_2.out HX_w0_2.out.lt)
  have HX_g0_3 := Lib.hid (HX_g0_2.out.below HB_2.out HX_g0_2.out.lt)
  clear hb
  clear x_g0_0 x_g0_1 x_w0_0 x_w0_1
  have x_g0_0 := HX_g0_3.out.cell (j := 0) rfl
  have x_g0_1 := HX_g0_3.out.cell (j := 1) rfl
  go_wp2_with fail
  refine (markKeys_any _ _ [(.slice A_g0_0 n_g0_0 c_g0_0), (.int .i64 r0.need)] r0 1 _ HO_g0_3.out (Nat.le_trans HT_2.out HZ_2.out) (by omega) (by omega) (by omega)).mono ?_
  rintro e W_4 ⟨rfl, hown, hb⟩
  have HO_g0_4 := Lib.hid hown
  clear hown
  have HB_3 := Lib.hid hb
  have HZ_3 := Lib.hid HB_3.out.size
  have HA_4 := Lib.hid (HA_3.out.trans (HB_3.out.below HA_1.out.size HA_3.out.size))
  have HO_w0_4 := Lib.hid (RKeys.keep HO_w0_3.out fun i hi => HB_3.out.block i (Nat.lt_of_lt_of_le hi (Nat.le_trans HZ_1.out HZ_2.out)) (.inl (Nat.lt_of_lt_of_le hi (Nat.le_refl _))))
  have HX_w0_4 := Lib.hid (HX_w0_3.out.keep (HB_3.out.block _ HX_w0_3.out.lt (.inl (Nat.lt_of_lt_of_le HX_w0_1.out.lt (Nat.le_refl _)))))
  have HX_g0_4 := Lib.hid (HX_g0_3.out.keep (HB_3.out.block _ HX_g0_3.out.lt (.inr (Nat.le_refl _))))
  clear hb
  clear x_g0_0 x_g0_1
  have x_g0_0 := HX_g0_4.out.cell (j := 0) rfl
  have x_g0_1 := HX_g0_4.out.cell (j := 1) rfl
  go_wp2_with fail
  refine (heldKeys_marks _ [(.slice A_g0_0 n_g0_0 c_g0_0), (.int .i64 r0.need)] r0 1 _ (RKeys.more HO_g0_4.out.rd fun i hi => Nat.lt_of_lt_of_le hi (Nat.le_trans HT_2.out (Nat.le_trans HZ_2.out HZ_3.out))) (Nat.le_refl _) (by omega) (by omega) (by omega)).mono ?_
  rintro e W_5 ⟨rfl, hb⟩
  have HB_4 := Lib.hid hb
  have HZ_4 := Lib.hid HB_4.out.size
  have HA_5 := Lib.hid (HA_4.out.trans (HB_4.out.mono HA_4.out.size))
  have HO_w0_5 := Lib.hid (RKeys.keep HO_w0_4.out fun i hi => HB_4.out.block i (Nat.lt_of_lt_of_le hi (Nat.le_trans (Nat.le_trans HZ_1.out HZ_2.out) HZ_3.out)))
  have HO_g0_5 := Lib.hid (HO_g0_4.out.below HB_4.out (Nat.le_trans HT_2.out (Nat.le_trans HZ_2.out HZ_3.out)))
  have HX_w0_5 := Lib.hid (HX_w0_4.out.below HB_4.out HX_w0_4.out.lt)
  have HX_g0_5 := Lib.hid (HX_g0_4.out.below HB_4.out HX_g0_4.out.lt)
  clear hb
  clear x_g0_0 x_g0_1
  go_wp2_with fail
  refine (HI.out  _ ).mono ?_
  rintro e W_6 ⟨cs_h0, rfl, ho0, hb⟩
  obtain ⟨A_h0_0, n_h0_0, c_h0_0, rfl⟩ := RKeys_shape ho0.rd
  have HO_h0_6 := Lib.hid (ho0.alloc (.cells #[(.slice A_h0_0 n_h0_0 c_h0_0), (.int .i64 r0.need)] 26))
  have HT_6 := Lib.hid (show W_6.heap.size ≤ (W_6.alloc (.cells #[(.slice A_h0_0 n_h0_0 c_h0_0), (.int .i64 r0.need)] 26)).heap.size by simp)
  have hb5 := hb.alloc hb.size (.cells #[(.slice A_h0_0 n_h0_0 c_h0_0), (.int .i64 r0.need)] 26)
  have HB_5 := Lib.hid hb5
  have HZ_5 := Lib.hid HB_5.out.size
  have HA_6 := Lib.hid (HA_5.out.trans (HB_5.out.mono HA_5.out.size))
  have HO_w0_6 := Lib.hid (RKeys.keep HO_w0_5.out fun i hi => HB_5.out.block i (Nat.lt_of_lt_of_le hi (Nat.le_trans (Nat.le_trans (Nat.le_trans HZ_1.out HZ_2.out) HZ_3.out) HZ_4.out)))
  have HO_g0_6 := Lib.hid (HO_g0_5.out.below HB_5.out (Nat.le_trans HT_2.out (Nat.le_trans (Nat.le_trans HZ_2.out HZ_3.out) HZ_4.out)))
  have HX_w0_6 := Lib.hid (HX_w0_5.out.below HB_5.out HX_w0_5.out.lt)
  have HX_g0_6 := Lib.hid (HX_g0_5.out.below HB_5.out HX_g0_5.out.lt)
  clear hb ho0
  have HX_h0_6 := Lib.hid (show Box (W_6.alloc (.cells #[(.slice A_h0_0 n_h0_0 c_h0_0), (.int .i64 r0.need)] 26)) W_6.heap.size [(.slice A_h0_0 n_h0_0 c_h0_0), (.int .i64 r0.need)] from Box.new W_6 #[(.slice A_h0_0 n_h0_0 c_h0_0), (.int .i64 r0.need)] 26)
  have x_h0_0 := HX_h0_6.out.cell (j := 0) rfl
  have x_h0_1 := HX_h0_6.out.cell (j := 1) rfl
  have x_w0_0 := HX_w0_6.out.cell (j := 0) rfl
  have x_w0_1 := HX_w0_6.out.cell (j := 1) rfl
  go_wp2_with fail
  refine (eqKeys_same _ _ [(.slice A_h0_0 n_h0_0 c_h0_0), (.int .i64 r0.need)] [(.slice A_w0_0 n_w0_0 c_w0_0), (.int .i64 r0.need)] r0 _ (RKeys.more HO_h0_6.out.rd fun i hi => Nat.lt_of_lt_of_le hi (Nat.le_trans HT_6.out (Nat.le_refl _))) (RKeys.more HO_w0_6.out fun i hi => Nat.lt_of_lt_of_le hi (Nat.le_trans (Nat.le_trans (Nat.le_trans (Nat.le_trans HZ_1.out HZ_2.out) HZ_3.out) HZ_4.out) HZ_5.out)) (Nat.le_refl _) (Nat.le_refl _) (by omega)).mono ?_
  rintro e W_7 ⟨rfl, hb⟩
  have HB_6 := Lib.hid hb
  have HZ_6 := Lib.hid HB_6.out.size
  have HA_7 := Lib.hid (HA_6.out.trans (HB_6.out.mono HA_6.out.size))
  have HO_g0_7 := Lib.hid (HO_g0_6.out.below HB_6.out (Nat.le_trans HT_2.out (Nat.le_trans (Nat.le_trans (Nat.le_trans HZ_2.out HZ_3.out) HZ_4.out) HZ_5.out)))
  have HX_g0_7 := Lib.hid (HX_g0_6.out.below HB_6.out HX_g0_6.out.lt)
  clear hb
  clear x_h0_0 x_h0_1 x_w0_0 x_w0_1
  have x_g0_0 := HX_g0_7.out.cell (j := 0) rfl
  have x_g0_1 := HX_g0_7.out.cell (j := 1) rfl
  go_wp2_with fail
  refine (heldKeys_marks _ [(.slice A_g0_0 n_g0_0 c_g0_0), (.int .i64 r0.need)] r0 1 _ (RKeys.more HO_g0_7.out.rd fun i hi => Nat.lt_of_lt_of_le hi (Nat.le_trans HT_2.out (Nat.le_trans (Nat.le_trans (Nat.le_trans (Nat.le_trans HZ_2.out HZ_3.out) HZ_4.out) HZ_5.out) HZ_6.out))) (Nat.le_refl _) (by omega) (by omega) (by omega)).mono ?_
  rintro e W_8 ⟨rfl, hb⟩
  have HB_7 := Lib.hid hb
  have HZ_7 := Lib.hid HB_7.out.size
  have HA_8 := Lib.hid (HA_7.out.trans (HB_7.out.mono HA_7.out.size))
  clear hb
  clear x_g0_0 x_g0_1
  go_wp2
  go_ret
  exact ⟨rfl, HA_8.out⟩
theorem FnExactEqualKeys_walk (W0 : World) (u0_0 u0_1 : Value) (y0 : Keys) (w0 : RKeys.rd W0 (Lt W0.heap.size) [u0_0, u0_1] y0) (u1_0 u1_1 : Value) (y1 : Keys) (w1 : RKeys.rd W0 (Lt W0.heap.size) [u1_0, u1_1] y1) :
    Calls Try.prog 10 #[.agg #[u0_0, u0_1], .agg #[u1_0, u1_1]] W0 fun e w' => e = .returned (.bool true) ∧ Below W0.heap.size W0 w' := by
  have HA_0 := Lib.hid (show Below W0.heap.size W0 ((W0.alloc (.cells #[u0_0, u0_1] 43)).alloc (.cells #[u1_0, u1_1] 43)) from ((Below.refl _ _).alloc (by first | (simp; done) | (simp; omega)) _).alloc (by first | (simp; done) | (simp; omega)) _)
  have HO_aA_0 := Lib.hid (RKeys.keep w0 fun i hi => HA_0.out.block i hi)
  have HX_aA_0 := Lib.hid (show Box ((W0.alloc (.cells #[u0_0, u0_1] 43)).alloc (.cells #[u1_0, u1_1] 43)) (W0.heap.size) [u0_0, u0_1] from (show Box (W0.alloc (.cells #[u0_0, u0_1] 43)) (W0.heap.size) [u0_0, u0_1] by have h := Box.new W0 #[u0_0, u0_1] 43; simpa using h).alloc _)
  have HO_aB_0 := Lib.hid (RKeys.keep w1 fun i hi => HA_0.out.block i hi)
  have HX_aB_0 := Lib.hid (show Box ((W0.alloc (.cells #[u0_0, u0_1] 43)).alloc (.cells #[u1_0, u1_1] 43)) (W0.heap.size + 1) [u1_0, u1_1] from (show Box ((W0.alloc (.cells #[u0_0, u0_1] 43)).alloc (.cells #[u1_0, u1_1] 43)) (W0.heap.size + 1) [u1_0, u1_1] by have h := Box.new (W0.alloc (.cells #[u0_0, u0_1] 43)) #[u1_0, u1_1] 43; simpa using h))
  clear w0
  clear w1
  go_enter Try.func10, Try.ntmps10
  have x_aA_0 := HX_aA_0.out.cell (j := 0) rfl
  have x_aA_1 := HX_aA_0.out.cell (j := 1) rfl
  by_cases hn_aA : 1048576 < (totKeys y0 : Int)
  · have HN := Lib.hid hn_aA
    clear hn_aA
    go_wp2_with fail
    refine (szKeys_any [u0_0, u0_1] y0 1048576 _ (RKeys.more HO_aA_0.out fun i hi => Nat.lt_of_lt_of_le hi HA_0.out.size) (by omega) (by omega)).mono ?_
    rw [if_pos HN.out]
    rintro e W_1 ⟨rfl, hb⟩
    have HAe := Lib.hid (HA_0.out.trans (hb.mono HA_0.out.size))
    clear hb
    go_wp2
    go_ret
    exact ⟨rfl, HAe.out⟩
  have hY0 : totKeys y0 ≤ 1048576 := by omega
  have HN_aA := Lib.hid hn_aA
  clear hn_aA
  go_wp2_with fail
  refine (szKeys_any [u0_0, u0_1] y0 1048576 _ (RKeys.more HO_aA_0.out fun i hi => Nat.lt_of_lt_of_le hi HA_0.out.size) (by omega) (by omega)).mono ?_
  rw [if_neg (show ¬ 1048576 < (totKeys y0 : Int) by have := HN_aA.out; omega)]
  rintro e W_1 ⟨rfl, hb⟩
  obtain ⟨qq0, hqq0⟩ : ∃ x, x = 1048576 - (totKeys y0 : Int) := ⟨_, rfl⟩
  rw [← hqq0]
  have hqq0l : 0 ≤ qq0 ∧ qq0 ≤ 1048576 := by have := HN_aA.out; omega
  have hqq0n : ¬ qq0 < 0 := by omega
  clear hqq0
  have HB_0 := Lib.hid hb
  have HZ_0 := Lib.hid HB_0.out.size
  have HA_1 := Lib.hid (HA_0.out.trans (HB_0.out.mono HA_0.out.size))
  have HO_aA_1 := Lib.hid (RKeys.keep HO_aA_0.out fun i hi => HB_0.out.block i (Nat.lt_of_lt_of_le hi HA_0.out.size))
  have HO_aB_1 := Lib.hid (RKeys.keep HO_aB_0.out fun i hi => HB_0.out.block i (Nat.lt_of_lt_of_le hi HA_0.out.size))
  have HX_aA_1 := Lib.hid (HX_aA_0.out.below HB_0.out HX_aA_0.out.lt)
  have HX_aB_1 := Lib.hid (HX_aB_0.out.below HB_0.out HX_aB_0.out.lt)
  clear hb
  clear x_aA_0 x_aA_1
  have x_aB_0 := HX_aB_1.out.cell (j := 0) rfl
  have x_aB_1 := HX_aB_1.out.cell (j := 1) rfl
  by_cases hn_aB : qq0 < (totKeys y1 : Int)
  · have HN := Lib.hid hn_aB
    clear hn_aB
    go_wp2_with fail
    refine (szKeys_any [u1_0, u1_1] y1 qq0 _ (RKeys.more HO_aB_1.out fun i hi => Nat.lt_of_lt_of_le hi HA_1.out.size) (by omega) (by omega)).mono ?_
    rw [if_pos HN.out]
    rintro e W_2 ⟨rfl, hb⟩
    have HAe := Lib.hid (HA_1.out.trans (hb.mono HA_1.out.size))
    clear hb
    go_wp2
    go_ret
    exact ⟨rfl, HAe.out⟩
  have hY1 : totKeys y1 ≤ 1048576 := by omega
  have HN_aB := Lib.hid hn_aB
  clear hn_aB
  go_wp2_with fail
  refine (szKeys_any [u1_0, u1_1] y1 qq0 _ (RKeys.more HO_aB_1.out fun i hi => Nat.lt_of_lt_of_le hi HA_1.out.size) (by omega) (by omega)).mono ?_
  rw [if_neg (show ¬ qq0 < (totKeys y1 : Int) by have := HN_aB.out; omega)]
  rintro e W_2 ⟨rfl, hb⟩
  obtain ⟨qq1, hqq1⟩ : ∃ x, x = qq0 - (totKeys y1 : Int) := ⟨_, rfl⟩
  rw [← hqq1]
  have hqq1l : 0 ≤ qq1 ∧ qq1 ≤ 1048576 := by have := HN_aB.out; omega
  have hqq1n : ¬ qq1 < 0 := by omega
  clear hqq1
  have HB_1 := Lib.hid hb
  have HZ_1 := Lib.hid HB_1.out.size
  have HA_2 := Lib.hid (HA_1.out.trans (HB_1.out.mono HA_1.out.size))
  have HO_aA_2 := Lib.hid (RKeys.keep HO_aA_1.out fun i hi => HB_1.out.block i (Nat.lt_of_lt_of_le hi HA_1.out.size))
  have HO_aB_2 := Lib.hid (RKeys.keep HO_aB_1.out fun i hi => HB_1.out.block i (Nat.lt_of_lt_of_le hi HA_1.out.size))
  have HX_aA_2 := Lib.hid (HX_aA_1.out.below HB_1.out HX_aA_1.out.lt)
  have HX_aB_2 := Lib.hid (HX_aB_1.out.below HB_1.out HX_aB_1.out.lt)
  clear hb
  clear x_aB_0 x_aB_1
  have x_aA_0 := HX_aA_2.out.cell (j := 0) rfl
  have x_aA_1 := HX_aA_2.out.cell (j := 1) rfl
  have x_aB_0 := HX_aB_2.out.cell (j := 0) rfl
  have x_aB_1 := HX_aB_2.out.cell (j := 1) rfl
  have HD_aA := Lib.hid (show RKeys.rd W_2.drew (Lt W_2.drew.heap.size) [u0_0, u0_1] y0 from RKeys.keep (RKeys.more HO_aA_2.out fun i hi => Nat.lt_of_lt_of_le hi HA_2.out.size) fun i _ => rfl)
  obtain ⟨r0, hS, hI⟩ := both_EqualKeys y0 y1 hY0 hY1
  have HS := Lib.hid hS
  have HI := Lib.hid hI
  clear hS hI
  have hcy0 := cntKeys_le y0
  have hcy1 := cntKeys_le y1
  go_wp2_with fail
  go_region_held3 (fun w' => w'.cell? ⟨W0.heap.size, 0, none⟩ = some u0_0 ∧ w'.cell? ⟨W0.heap.size, 1, none⟩ = some u0_1 ∧ w'.cell? ⟨W0.heap.size + 1, 0, none⟩ = some u1_0 ∧ w'.cell? ⟨W0.heap.size + 1, 1, none⟩ = some u1_1) (first | exact ⟨x_aA_0, x_aA_1, x_aB_0, x_aB_1⟩ | exact ⟨x_aA_0_3, x_aA_1_3, x_aB_0_3, x_aB_1_3⟩ | exact ⟨x_aA_0_4, x_aA_1_4, x_aB_0_4, x_aB_1_4⟩ | exact ⟨x_aA_0_5, x_aA_1_5, x_aB_0_5, x_aB_1_5⟩) ((first
    | (go_at_call 29; (with_reducible refine (toKeys_any [u0_0, u0_1] y0 W_2.drew HD_aA.out (by omega)).mono ?_); rintro e W_3 ⟨cs__t0, rfl, hown, hb⟩; obtain ⟨A__t0_0, n__t0_0, c__t0_0, rfl⟩ := RKeys_shape hown.rd; have HO__t0_3 := Lib.hid (hown); have HB_2 := Lib.hid (below_drew hb); have HZ_2 := Lib.hid HB_2.out.size; have HA_3 := Lib.hid (HA_2.out.trans (HB_2.out.mono HA_2.out.size)); have HO_aA_3 := Lib.hid (RKeys.keep HO_aA_2.out fun i hi => HB_2.out.block i (Nat.lt_of_lt_of_le hi HA_2.out.size)); have HO_aB_3 := Lib.hid (RKeys.keep HO_aB_2.out fun i hi => HB_2.out.block i (Nat.lt_of_lt_of_le hi HA_2.out.size)); have HX_aA_3 := Lib.hid (HX_aA_2.out.below HB_2.out HX_aA_2.out.lt); have HX_aB_3 := Lib.hid (HX_aB_2.out.below HB_2.out HX_aB_2.out.lt); clear hb hown; have x_aA_0_3 := HX_aA_3.out.cell (j := 0) rfl; have x_aA_1_3 := HX_aA_3.out.cell (j := 1) rfl; have x_aB_0_3 := HX_aB_3.out.cell (j := 0) rfl; have x_aB_1_3 := HX_aB_3.out.cell (j := 1) rfl)
    | (go_at_call 29; (with_reducible refine (toKeys_any [u1_0, u1_1] y1 _ (RKeys.more HO_aB_3.out fun i hi => Nat.lt_of_lt_of_le hi HA_3.out.size) (by omega)).mono ?_); rintro e W_4 ⟨cs__t1, rfl, hown, hb⟩; obtain ⟨A__t1_0, n__t1_0, c__t1_0, rfl⟩ := RKeys_shape hown.rd; have HO__t1_4 := Lib.hid (hown); have HB_3 := Lib.hid hb; have HZ_3 := Lib.hid HB_3.out.size; have HA_4 := Lib.hid (HA_3.out.trans (HB_3.out.mono HA_3.out.size)); have HO_aA_4 := Lib.hid (RKeys.keep HO_aA_3.out fun i hi => HB_3.out.block i (Nat.lt_of_lt_of_le hi HA_3.out.size)); have HO_aB_4 := Lib.hid (RKeys.keep HO_aB_3.out fun i hi => HB_3.out.block i (Nat.lt_of_lt_of_le hi HA_3.out.size)); have HO__t0_4 := Lib.hid (HO__t0_3.out.below HB_3.out (Nat.le_refl _)); have HX_aA_4 := Lib.hid (HX_aA_3.out.below HB_3.out HX_aA_3.out.lt); have HX_aB_4 := Lib.hid (HX_aB_3.out.below HB_3.out HX_aB_3.out.lt); clear hb hown; have x_aA_0_4 := HX_aA_4.out.cell (j := 0) rfl; have x_aA_1_4 := HX_aA_4.out.cell (j := 1) rfl; have x_aB_0_4 := HX_aB_4.out.cell (j := 0) rfl; have x_aB_1_4 := HX_aB_4.out.cell (j := 1) rfl)
    | (go_at_call 18; (with_reducible refine (HS.out [(.slice A__t0_0 n__t0_0 c__t0_0), (.int .i64 y0.need)] [(.slice A__t1_0 n__t1_0 c__t1_0), (.int .i64 y1.need)] _ (RKeys.more HO__t0_4.out.rd fun i hi => Nat.lt_of_lt_of_le hi HZ_3.out) (RKeys.more HO__t1_4.out.rd fun i hi => Nat.lt_of_lt_of_le hi (Nat.le_refl _))).mono ?_); rintro e W_5 ⟨rfl, hb⟩; have HB_4 := Lib.hid hb; have HZ_4 := Lib.hid HB_4.out.size; have HA_5 := Lib.hid (HA_4.out.trans (HB_4.out.mono HA_4.out.size)); have HO_aA_5 := Lib.hid (RKeys.keep HO_aA_4.out fun i hi => HB_4.out.block i (Nat.lt_of_lt_of_le hi HA_4.out.size)); have HO_aB_5 := Lib.hid (RKeys.keep HO_aB_4.out fun i hi => HB_4.out.block i (Nat.lt_of_lt_of_le hi HA_4.out.size)); have HX_aA_5 := Lib.hid (HX_aA_4.out.below HB_4.out HX_aA_4.out.lt); have HX_aB_5 := Lib.hid (HX_aB_4.out.below HB_4.out HX_aB_4.out.lt); clear hb; have x_aA_0_5 := HX_aA_5.out.cell (j := 0) rfl; have x_aA_1_5 := HX_aA_5.out.cell (j := 1) rfl; have x_aB_0_5 := HX_aB_5.out.cell (j := 0) rfl; have x_aB_1_5 := HX_aB_5.out.cell (j := 1) rfl)))
  clear x_aA_0 x_aA_1 x_aB_0 x_aB_1
  have x_aA_0 := HX_aA_5.out.cell (j := 0) rfl
  have x_aA_1 := HX_aA_5.out.cell (j := 1) rfl
  go_wp2_with fail
  refine (toKeys_any [u0_0, u0_1] y0 _ (RKeys.more HO_aA_5.out fun i hi => Nat.lt_of_lt_of_le hi HA_5.out.size) (by omega)).mono ?_
  rintro e W_6 ⟨cs_x0, rfl, hown, hb⟩
  obtain ⟨A_x0_0, n_x0_0, c_x0_0, rfl⟩ := RKeys_shape hown.rd
  have HO_x0_6 := Lib.hid (hown.alloc (.cells #[(.slice A_x0_0 n_x0_0 c_x0_0), (.int .i64 y0.need)] 26))
  have HT_6 := Lib.hid (show W_6.heap.size ≤ (W_6.alloc (.cells #[(.slice A_x0_0 n_x0_0 c_x0_0), (.int .i64 y0.need)] 26)).heap.size by simp)
  have hb5 := hb.alloc hb.size (.cells #[(.slice A_x0_0 n_x0_0 c_x0_0), (.int .i64 y0.need)] 26)
  have HB_5 := Lib.hid hb5
  have HZ_5 := Lib.hid HB_5.out.size
  have HA_6 := Lib.hid (HA_5.out.trans (HB_5.out.mono HA_5.out.size))
  have HO_aA_6 := Lib.hid (RKeys.keep HO_aA_5.out fun i hi => HB_5.out.block i (Nat.lt_of_lt_of_le hi HA_5.out.size))
  have HO_aB_6 := Lib.hid (RKeys.keep HO_aB_5.out fun i hi => HB_5.out.block i (Nat.lt_of_lt_of_le hi HA_5.out.size))
  have HX_aA_6 := Lib.hid (HX_aA_5.out.below HB_5.out HX_aA_5.out.lt)
  have HX_aB_6 := Lib.hid (HX_aB_5.out.below HB_5.out HX_aB_5.out.lt)
  clear hb hown
  have HX_x0_6 := Lib.hid (show Box (W_6.alloc (.cells #[(.slice A_x0_0 n_x0_0 c_x0_0), (.int .i64 y0.need)] 26)) W_6.heap.size [(.slice A_x0_0 n_x0_0 c_x0_0), (.int .i64 y0.need)] from Box.new W_6 #[(.slice A_x0_0 n_x0_0 c_x0_0), (.int .i64 y0.need)] 26)
  clear x_aA_0 x_aA_1
  have x_aB_0 := HX_aB_6.out.cell (j := 0) rfl
  have x_aB_1 := HX_aB_6.out.cell (j := 1) rfl
  go_wp2_with fail
  refine (toKeys_any [u1_0, u1_1] y1 _ (RKeys.more HO_aB_6.out fun i hi => Nat.lt_of_lt_of_le hi HA_6.out.size) (by omega)).mono ?_
  rintro e W_7 ⟨cs_x1, rfl, hown, hb⟩
  obtain ⟨A_x1_0, n_x1_0, c_x1_0, rfl⟩ := RKeys_shape hown.rd
  have HO_x1_7 := Lib.hid (hown.alloc (.cells #[(.slice A_x1_0 n_x1_0 c_x1_0), (.int .i64 y1.need)] 26))
  have HT_7 := Lib.hid (show W_7.heap.size ≤ (W_7.alloc (.cells #[(.slice A_x1_0 n_x1_0 c_x1_0), (.int .i64 y1.need)] 26)).heap.size by simp)
  have hb6 := hb.alloc hb.size (.cells #[(.slice A_x1_0 n_x1_0 c_x1_0), (.int .i64 y1.need)] 26)
  have HB_6 := Lib.hid hb6
  have HZ_6 := Lib.hid HB_6.out.size
  have HA_7 := Lib.hid (HA_6.out.trans (HB_6.out.mono HA_6.out.size))
  have HO_aA_7 := Lib.hid (RKeys.keep HO_aA_6.out fun i hi => HB_6.out.block i (Nat.lt_of_lt_of_le hi HA_6.out.size))
  have HO_aB_7 := Lib.hid (RKeys.keep HO_aB_6.out fun i hi => HB_6.out.block i (Nat.lt_of_lt_of_le hi HA_6.out.size))
  have HO_x0_7 := Lib.hid (HO_x0_6.out.below HB_6.out (Nat.le_trans HT_6.out (Nat.le_refl _)))
  have HX_aA_7 := Lib.hid (HX_aA_6.out.below HB_6.out HX_aA_6.out.lt)
  have HX_aB_7 := Lib.hid (HX_aB_6.out.below HB_6.out HX_aB_6.out.lt)
  have HX_x0_7 := Lib.hid (HX_x0_6.out.below HB_6.out HX_x0_6.out.lt)
  clear hb hown
  have HX_x1_7 := Lib.hid (show Box (W_7.alloc (.cells #[(.slice A_x1_0 n_x1_0 c_x1_0), (.int .i64 y1.need)] 26)) W_7.heap.size [(.slice A_x1_0 n_x1_0 c_x1_0), (.int .i64 y1.need)] from Box.new W_7 #[(.slice A_x1_0 n_x1_0 c_x1_0), (.int .i64 y1.need)] 26)
  clear x_aB_0 x_aB_1
  have x_x0_0 := HX_x0_7.out.cell (j := 0) rfl
  have x_x0_1 := HX_x0_7.out.cell (j := 1) rfl
  have x_x1_0 := HX_x1_7.out.cell (j := 0) rfl
  have x_x1_1 := HX_x1_7.out.cell (j := 1) rfl
  go_wp2_with fail
  refine (HI.out [(.slice A_x0_0 n_x0_0 c_x0_0), (.int .i64 y0.need)] [(.slice A_x1_0 n_x1_0 c_x1_0), (.int .i64 y1.need)] _ (RKeys.more HO_x0_7.out.rd fun i hi => Nat.lt_of_lt_of_le hi (Nat.le_trans HT_6.out HZ_6.out)) (RKeys.more HO_x1_7.out.rd fun i hi => Nat.lt_of_lt_of_le hi (Nat.le_trans HT_7.out (Nat.le_refl _)))).mono ?_
  rintro e W_8 ⟨rfl, hb⟩
  have HB_7 := Lib.hid hb
  have HZ_7 := Lib.hid HB_7.out.size
  have HA_8 := Lib.hid (HA_7.out.trans (HB_7.out.mono HA_7.out.size))
  have HO_aA_8 := Lib.hid (RKeys.keep HO_aA_7.out fun i hi => HB_7.out.block i (Nat.lt_of_lt_of_le hi HA_7.out.size))
  have HO_aB_8 := Lib.hid (RKeys.keep HO_aB_7.out fun i hi => HB_7.out.block i (Nat.lt_of_lt_of_le hi HA_7.out.size))
  have HO_x0_8 := Lib.hid (HO_x0_7.out.below HB_7.out (Nat.le_trans HT_6.out HZ_6.out))
  have HO_x1_8 := Lib.hid (HO_x1_7.out.below HB_7.out (Nat.le_trans HT_7.out (Nat.le_refl _)))
  have HX_aA_8 := Lib.hid (HX_aA_7.out.below HB_7.out HX_aA_7.out.lt)
  have HX_aB_8 := Lib.hid (HX_aB_7.out.below HB_7.out HX_aB_7.out.lt)
  have HX_x0_8 := Lib.hid (HX_x0_7.out.below HB_7.out HX_x0_7.out.lt)
  have HX_x1_8 := Lib.hid (HX_x1_7.out.below HB_7.out HX_x1_7.out.lt)
  clear hb
  clear x_x0_0 x_x0_1 x_x1_0 x_x1_1
  have x_aA_0 := HX_aA_8.out.cell (j := 0) rfl
  have x_aA_1 := HX_aA_8.out.cell (j := 1) rfl
  have x_x0_0 := HX_x0_8.out.cell (j := 0) rfl
  have x_x0_1 := HX_x0_8.out.cell (j := 1) rfl
  have HD_aA := Lib.hid (show RKeys.rd W_8.drew (Lt W_8.drew.heap.size) [u0_0, u0_1] y0 from RKeys.keep (RKeys.more HO_aA_8.out fun i hi => Nat.lt_of_lt_of_le hi HA_8.out.size) fun i _ => rfl)
  go_wp2_with fail
  go_region_held3 (fun w' => w'.cell? ⟨W0.heap.size, 0, none⟩ = some u0_0 ∧ w'.cell? ⟨W0.heap.size, 1, none⟩ = some u0_1 ∧ w'.cell? ⟨W_6.heap.size, 0, none⟩ = some (.slice A_x0_0 n_x0_0 c_x0_0) ∧ w'.cell? ⟨W_6.heap.size, 1, none⟩ = some (.int .i64 y0.need)) (first | exact ⟨x_aA_0, x_aA_1, x_x0_0, x_x0_1⟩ | exact ⟨x_aA_0_9, x_aA_1_9, x_x0_0_9, x_x0_1_9⟩ | exact ⟨x_aA_0_10, x_aA_1_10, x_x0_0_10, x_x0_1_10⟩) ((first
    | (go_at_call 29; (with_reducible refine (toKeys_any [u0_0, u0_1] y0 W_8.drew HD_aA.out (by omega)).mono ?_); rintro e W_9 ⟨cs__t2, rfl, hown, hb⟩; obtain ⟨A__t2_0, n__t2_0, c__t2_0, rfl⟩ := RKeys_shape hown.rd; have HO__t2_9 := Lib.hid (hown); have HB_8 := Lib.hid (below_drew hb); have HZ_8 := Lib.hid HB_8.out.size; have HA_9 := Lib.hid (HA_8.out.trans (HB_8.out.mono HA_8.out.size)); have HO_aA_9 := Lib.hid (RKeys.keep HO_aA_8.out fun i hi => HB_8.out.block i (Nat.lt_of_lt_of_le hi HA_8.out.size)); have HO_aB_9 := Lib.hid (RKeys.keep HO_aB_8.out fun i hi => HB_8.out.block i (Nat.lt_of_lt_of_le hi HA_8.out.size)); have HO_x0_9 := Lib.hid (HO_x0_8.out.below HB_8.out (Nat.le_trans HT_6.out (Nat.le_trans HZ_6.out HZ_7.out))); have HO_x1_9 := Lib.hid (HO_x1_8.out.below HB_8.out (Nat.le_trans HT_7.out HZ_7.out)); have HX_aA_9 := Lib.hid (HX_aA_8.out.below HB_8.out HX_aA_8.out.lt); have HX_aB_9 := Lib.hid (HX_aB_8.out.below HB_8.out HX_aB_8.out.lt); have HX_x0_9 := Lib.hid (HX_x0_8.out.below HB_8.out HX_x0_8.out.lt); have HX_x1_9 := Lib.hid (HX_x1_8.out.below HB_8.out HX_x1_8.out.lt); clear hb hown; have x_aA_0_9 := HX_aA_9.out.cell (j := 0) rfl; have x_aA_1_9 := HX_aA_9.out.cell (j := 1) rfl; have x_x0_0_9 := HX_x0_9.out.cell (j := 0) rfl; have x_x0_1_9 := HX_x0_9.out.cell (j := 1) rfl)
    | (go_at_call 30; (with_reducible refine (eqKeys_same _ _ [(.slice A_x0_0 n_x0_0 c_x0_0), (.int .i64 y0.need)] [(.slice A__t2_0 n__t2_0 c__t2_0), (.int .i64 y0.need)] y0 _ (RKeys.more HO_x0_9.out.rd fun i hi => Nat.lt_of_lt_of_le hi (Nat.le_trans HT_6.out (Nat.le_trans (Nat.le_trans HZ_6.out HZ_7.out) HZ_8.out))) (RKeys.more HO__t2_9.out.rd fun i hi => Nat.lt_of_lt_of_le hi (Nat.le_refl _)) (Nat.le_refl _) (Nat.le_refl _) (by omega)).mono ?_); rintro e W_10 ⟨rfl, hb⟩; have HB_9 := Lib.hid hb; have HZ_9 := Lib.hid HB_9.out.size; have HA_10 := Lib.hid (HA_9.out.trans (HB_9.out.mono HA_9.out.size)); have HO_aA_10 := Lib.hid (RKeys.keep HO_aA_9.out fun i hi => HB_9.out.block i (Nat.lt_of_lt_of_le hi HA_9.out.size)); have HO_aB_10 := Lib.hid (RKeys.keep HO_aB_9.out fun i hi => HB_9.out.block i (Nat.lt_of_lt_of_le hi HA_9.out.size)); have HO_x0_10 := Lib.hid (HO_x0_9.out.below HB_9.out (Nat.le_trans HT_6.out (Nat.le_trans (Nat.le_trans HZ_6.out HZ_7.out) HZ_8.out))); have HO_x1_10 := Lib.hid (HO_x1_9.out.below HB_9.out (Nat.le_trans HT_7.out (Nat.le_trans HZ_7.out HZ_8.out))); have HX_aA_10 := Lib.hid (HX_aA_9.out.below HB_9.out HX_aA_9.out.lt); have HX_aB_10 := Lib.hid (HX_aB_9.out.below HB_9.out HX_aB_9.out.lt); have HX_x0_10 := Lib.hid (HX_x0_9.out.below HB_9.out HX_x0_9.out.lt); have HX_x1_10 := Lib.hid (HX_x1_9.out.below HB_9.out HX_x1_9.out.lt); clear hb; have x_aA_0_10 := HX_aA_10.out.cell (j := 0) rfl; have x_aA_1_10 := HX_aA_10.out.cell (j := 1) rfl; have x_x0_0_10 := HX_x0_10.out.cell (j := 0) rfl; have x_x0_1_10 := HX_x0_10.out.cell (j := 1) rfl)))
  clear x_aA_0 x_aA_1 x_x0_0 x_x0_1
  have x_aB_0 := HX_aB_10.out.cell (j := 0) rfl
  have x_aB_1 := HX_aB_10.out.cell (j := 1) rfl
  have x_x1_0 := HX_x1_10.out.cell (j := 0) rfl
  have x_x1_1 := HX_x1_10.out.cell (j := 1) rfl
  have HD_aB := Lib.hid (show RKeys.rd W_10.drew (Lt W_10.drew.heap.size) [u1_0, u1_1] y1 from RKeys.keep (RKeys.more HO_aB_10.out fun i hi => Nat.lt_of_lt_of_le hi HA_10.out.size) fun i _ => rfl)
  go_wp2_with fail
  go_region_held3 (fun w' => w'.cell? ⟨W0.heap.size + 1, 0, none⟩ = some u1_0 ∧ w'.cell? ⟨W0.heap.size + 1, 1, none⟩ = some u1_1 ∧ w'.cell? ⟨W_7.heap.size, 0, none⟩ = some (.slice A_x1_0 n_x1_0 c_x1_0) ∧ w'.cell? ⟨W_7.heap.size, 1, none⟩ = some (.int .i64 y1.need)) (first | exact ⟨x_aB_0, x_aB_1, x_x1_0, x_x1_1⟩ | exact ⟨x_aB_0_11, x_aB_1_11, x_x1_0_11, x_x1_1_11⟩ | exact ⟨x_aB_0_12, x_aB_1_12, x_x1_0_12, x_x1_1_12⟩) ((first
    | (go_at_call 29; (with_reducible refine (toKeys_any [u1_0, u1_1] y1 W_10.drew HD_aB.out (by omega)).mono ?_); rintro e W_11 ⟨cs__t3, rfl, hown, hb⟩; obtain ⟨A__t3_0, n__t3_0, c__t3_0, rfl⟩ := RKeys_shape hown.rd; have HO__t3_11 := Lib.hid (hown); have HB_10 := Lib.hid (below_drew hb); have HZ_10 := Lib.hid HB_10.out.size; have HA_11 := Lib.hid (HA_10.out.trans (HB_10.out.mono HA_10.out.size)); have HO_aB_11 := Lib.hid (RKeys.keep HO_aB_10.out fun i hi => HB_10.out.block i (Nat.lt_of_lt_of_le hi HA_10.out.size)); have HO_x1_11 := Lib.hid (HO_x1_10.out.below HB_10.out (Nat.le_trans HT_7.out (Nat.le_trans (Nat.le_trans HZ_7.out HZ_8.out) HZ_9.out))); have HX_aB_11 := Lib.hid (HX_aB_10.out.below HB_10.out HX_aB_10.out.lt); have HX_x1_11 := Lib.hid (HX_x1_10.out.below HB_10.out HX_x1_10.out.lt); clear hb hown; have x_aB_0_11 := HX_aB_11.out.cell (j := 0) rfl; have x_aB_1_11 := HX_aB_11.out.cell (j := 1) rfl; have x_x1_0_11 := HX_x1_11.out.cell (j := 0) rfl; have x_x1_1_11 := HX_x1_11.out.cell (j := 1) rfl)
    | (go_at_call 30; (with_reducible refine (eqKeys_same _ _ [(.slice A_x1_0 n_x1_0 c_x1_0), (.int .i64 y1.need)] [(.slice A__t3_0 n__t3_0 c__t3_0), (.int .i64 y1.need)] y1 _ (RKeys.more HO_x1_11.out.rd fun i hi => Nat.lt_of_lt_of_le hi (Nat.le_trans HT_7.out (Nat.le_trans (Nat.le_trans (Nat.le_trans HZ_7.out HZ_8.out) HZ_9.out) HZ_10.out))) (RKeys.more HO__t3_11.out.rd fun i hi => Nat.lt_of_lt_of_le hi (Nat.le_refl _)) (Nat.le_refl _) (Nat.le_refl _) (by omega)).mono ?_); rintro e W_12 ⟨rfl, hb⟩; have HB_11 := Lib.hid hb; have HZ_11 := Lib.hid HB_11.out.size; have HA_12 := Lib.hid (HA_11.out.trans (HB_11.out.mono HA_11.out.size)); have HO_aB_12 := Lib.hid (RKeys.keep HO_aB_11.out fun i hi => HB_11.out.block i (Nat.lt_of_lt_of_le hi HA_11.out.size)); have HO_x1_12 := Lib.hid (HO_x1_11.out.below HB_11.out (Nat.le_trans HT_7.out (Nat.le_trans (Nat.le_trans (Nat.le_trans HZ_7.out HZ_8.out) HZ_9.out) HZ_10.out))); have HX_aB_12 := Lib.hid (HX_aB_11.out.below HB_11.out HX_aB_11.out.lt); have HX_x1_12 := Lib.hid (HX_x1_11.out.below HB_11.out HX_x1_11.out.lt); clear hb; have x_aB_0_12 := HX_aB_12.out.cell (j := 0) rfl; have x_aB_1_12 := HX_aB_12.out.cell (j := 1) rfl; have x_x1_0_12 := HX_x1_12.out.cell (j := 0) rfl; have x_x1_1_12 := HX_x1_12.out.cell (j := 1) rfl)))
  clear x_aB_0 x_aB_1 x_x1_0 x_x1_1
  go_wp2
  go_ret
  exact ⟨rfl, HA_12.out⟩
end Go.Proofs.Ythfngiajicbdhaa.W06
