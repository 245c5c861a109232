/- The walks of the exact laws of chapter 8: each law returns true, and writes into nothing that was there. -/
import Derived.Test.YtobapahakcdibaaC08U
import Derived.Test.YtobapahakcdibaaT08
import Derived.Test.YtobapahakcdibaaT01
import Derived.Deep.RegionHeld3
namespace Go.Proofs.Ytobapahakcdibaa.W08
open Go.RowKit Mem MemS Rep R08 C08U T01 T04 T05 T08
set_option linter.unusedVariables false
set_option maxRecDepth 100000
set_option maxHeartbeats 4000000
theorem FnExactIsEntry_walk (W0 : World) (u0_0 u0_1 u0_2 u0_3 : Value) (y0 : Entry) (w0 : REntry.rd W0 (Lt W0.heap.size) [u0_0, u0_1, u0_2, u0_3] y0) :
    Calls Try.prog 4 #[.agg #[u0_0, u0_1, u0_2, u0_3]] W0 fun e w' => e = .returned (.bool true) ∧ Below W0.heap.size W0 w' := by
  have HA_0 := Lib.hid (show Below W0.heap.size W0 (W0.alloc (.cells #[u0_0, u0_1, u0_2, u0_3] 38)) from (Below.refl _ _).alloc (by first | (simp; done) | (simp; omega)) _)
  have HO_aE_0 := Lib.hid (REntry.keep w0 fun i hi => HA_0.out.block i hi)
  have HX_aE_0 := Lib.hid (show Box (W0.alloc (.cells #[u0_0, u0_1, u0_2, u0_3] 38)) (W0.heap.size) [u0_0, u0_1, u0_2, u0_3] from (show Box (W0.alloc (.cells #[u0_0, u0_1, u0_2, u0_3] 38)) (W0.heap.size) [u0_0, u0_1, u0_2, u0_3] by have h := Box.new W0 #[u0_0, u0_1, u0_2, u0_3] 38; simpa using h))
  clear w0
  go_enter Try.func4, Try.ntmps4
  have x_aE_0 := HX_aE_0.out.cell (j := 0) rfl
  have x_aE_1 := HX_aE_0.out.cell (j := 1) rfl
  have x_aE_2 := HX_aE_0.out.cell (j := 2) rfl
  have x_aE_3 := HX_aE_0.out.cell (j := 3) rfl
  by_cases hn_aE : 1048576 < (totEntry y0 : Int)
  · have HN := Lib.hid hn_aE
    clear hn_aE
    go_wp2_with fail
    refine (szEntry_any [u0_0, u0_1, u0_2, u0_3] y0 1048576 _ (REntry.more HO_aE_0.out fun i hi => Nat.lt_of_lt_of_le hi HA_0.out.size) (by omega) (by omega)).mono ?_
    rw [if_pos HN.out]
    rintro e W_1 ⟨rfl, hb⟩
    have HAe := Lib.hid (HA_0.out.trans (hb.mono HA_0.out.size))
    clear hb
    go_wp2
    go_ret
    exact ⟨rfl, HAe.out⟩
  have hY0 : totEntry y0 ≤ 1048576 := by omega
  have HN_aE := Lib.hid hn_aE
  clear hn_aE
  go_wp2_with fail
  refine (szEntry_any [u0_0, u0_1, u0_2, u0_3] y0 1048576 _ (REntry.more HO_aE_0.out fun i hi => Nat.lt_of_lt_of_le hi HA_0.out.size) (by omega) (by omega)).mono ?_
  rw [if_neg (show ¬ 1048576 < (totEntry y0 : Int) by have := HN_aE.out; omega)]
  rintro e W_1 ⟨rfl, hb⟩
  obtain ⟨qq0, hqq0⟩ : ∃ x, x = 1048576 - (totEntry y0 : Int) := ⟨_, rfl⟩
  rw [← hqq0]
  have hqq0l : 0 ≤ qq0 ∧ qq0 ≤ 1048576 := by have := HN_aE.out; omega
  have hqq0n : ¬ qq0 < 0 := by omega
  clear hqq0
  have HB_0 := Lib.hid hb
  have HZ_0 := Lib.hid HB_0.out.size
  have HA_1 := Lib.hid (HA_0.out.trans (HB_0.out.mono HA_0.out.size))
  have HO_aE_1 := Lib.hid (REntry.keep HO_aE_0.out fun i hi => HB_0.out.block i (Nat.lt_of_lt_of_le hi HA_0.out.size))
  have HX_aE_1 := Lib.hid (HX_aE_0.out.below HB_0.out HX_aE_0.out.lt)
  clear hb
  clear x_aE_0 x_aE_1 x_aE_2 x_aE_3
  have x_aE_0 := HX_aE_1.out.cell (j := 0) rfl
  have x_aE_1 := HX_aE_1.out.cell (j := 1) rfl
  have x_aE_2 := HX_aE_1.out.cell (j := 2) rfl
  have x_aE_3 := HX_aE_1.out.cell (j := 3) rfl
  obtain ⟨r0, hS, hI⟩ := both_IsEntry y0 hY0
  have HS := Lib.hid hS
  have HI := Lib.hid hI
  clear hS hI
  have hcy0 := cntEntry_le y0
  go_wp2_with fail
  refine (toEntry_any [u0_0, u0_1, u0_2, u0_3] y0 _ (REntry.more HO_aE_1.out fun i hi => Nat.lt_of_lt_of_le hi HA_1.out.size) (by omega)).mono ?_
  rintro e W_2 ⟨cs__t0, rfl, hown, hb⟩
  obtain ⟨A__t0_3, n__t0_3, c__t0_3, rfl⟩ := REntry_shape hown.rd
  have HO__t0_2 := Lib.hid (hown)
  have HB_1 := Lib.hid hb
  have HZ_1 := Lib.hid HB_1.out.size
  have HA_2 := Lib.hid (HA_1.out.trans (HB_1.out.mono HA_1.out.size))
  have HO_aE_2 := Lib.hid (REntry.keep HO_aE_1.out fun i hi => HB_1.out.block i (Nat.lt_of_lt_of_le hi HA_1.out.size))
  have HX_aE_2 := Lib.hid (HX_aE_1.out.below HB_1.out HX_aE_1.out.lt)
  clear hb hown
  go_wp2_with fail
  refine (HS.out [(.string y0.label), (.int .i64 y0.kind), (.int .i64 y0.value), (.slice A__t0_3 n__t0_3 c__t0_3)] _ (REntry.more HO__t0_2.out.rd fun i hi => Nat.lt_of_lt_of_le hi (Nat.le_refl _))).mono ?_
  rintro e W_3 ⟨rfl, hb⟩
  have HB_2 := Lib.hid hb
  have HZ_2 := Lib.hid HB_2.out.size
  have HA_3 := Lib.hid (HA_2.out.trans (HB_2.out.mono HA_2.out.size))
  have HO_aE_3 := Lib.hid (REntry.keep HO_aE_2.out fun i hi => HB_2.out.block i (Nat.lt_of_lt_of_le hi HA_2.out.size))
  have HX_aE_3 := Lib.hid (HX_aE_2.out.below HB_2.out HX_aE_2.out.lt)
  clear hb
  clear x_aE_0 x_aE_1 x_aE_2 x_aE_3
  have x_aE_0 := HX_aE_3.out.cell (j := 0) rfl
  have x_aE_1 := HX_aE_3.out.cell (j := 1) rfl
  have x_aE_2 := HX_aE_3.out.cell (j := 2) rfl
  have x_aE_3 := HX_aE_3.out.cell (j := 3) rfl
  go_wp2_with fail
  refine (toEntry_any [u0_0, u0_1, u0_2, u0_3] y0 _ (REntry.more HO_aE_3.out fun i hi => Nat.lt_of_lt_of_le hi HA_3.out.size) (by omega)).mono ?_
  rintro e W_4 ⟨cs_x0, rfl, hown, hb⟩
  obtain ⟨A_x0_3, n_x0_3, c_x0_3, rfl⟩ := REntry_shape hown.rd
  have HO_x0_4 := Lib.hid (hown.alloc (.cells #[(.string y0.label), (.int .i64 y0.kind), (.int .i64 y0.value), (.slice A_x0_3 n_x0_3 c_x0_3)] 26))
  have HT_4 := Lib.hid (show W_4.heap.size ≤ (W_4.alloc (.cells #[(.string y0.label), (.int .i64 y0.kind), (.int .i64 y0.value), (.slice A_x0_3 n_x0_3 c_x0_3)] 26)).heap.size by simp)
  have hb3 := hb.alloc hb.size (.cells #[(.string y0.label), (.int .i64 y0.kind), (.int .i64 y0.value), (.slice A_x0_3 n_x0_3 c_x0_3)] 26)
  have HB_3 := Lib.hid hb3
  have HQ_4 := Lib.hid hb.size
  have HZ_3 := Lib.hid HB_3.out.size
  have HA_4 := Lib.hid (HA_3.out.trans (HB_3.out.mono HA_3.out.size))
  have HO_aE_4 := Lib.hid (REntry.keep HO_aE_3.out fun i hi => HB_3.out.block i (Nat.lt_of_lt_of_le hi HA_3.out.size))
  have HX_aE_4 := Lib.hid (HX_aE_3.out.below HB_3.out HX_aE_3.out.lt)
  clear hb hown
  have HX_x0_4 := Lib.hid (show Box (W_4.alloc (.cells #[(.string y0.label), (.int .i64 y0.kind), (.int .i64 y0.value), (.slice A_x0_3 n_x0_3 c_x0_3)] 26)) W_4.heap.size [(.string y0.label), (.int .i64 y0.kind), (.int .i64 y0.value), (.slice A_x0_3 n_x0_3 c_x0_3)] from Box.new W_4 #[(.string y0.label), (.int .i64 y0.kind), (.int .i64 y0.value), (.slice A_x0_3 n_x0_3 c_x0_3)] 26)
  clear x_aE_0 x_aE_1 x_aE_2 x_aE_3
  have x_x0_0 := HX_x0_4.out.cell (j := 0) rfl
  have x_x0_1 := HX_x0_4.out.cell (j := 1) rfl
  have x_x0_2 := HX_x0_4.out.cell (j := 2) rfl
  have x_x0_3 := HX_x0_4.out.cell (j := 3) rfl
  go_wp2_with fail
  refine (HI.out [(.string y0.label), (.int .i64 y0.kind), (.int .i64 y0.value), (.slice A_x0_3 n_x0_3 c_x0_3)] _ (REntry.more HO_x0_4.out.rd fun i hi => Nat.lt_of_lt_of_le hi (Nat.le_trans HT_4.out (Nat.le_refl _)))).mono ?_
  rintro e W_5 ⟨rfl, hb⟩
  have HB_4 := Lib.hid hb
  have HZ_4 := Lib.hid HB_4.out.size
  have HA_5 := Lib.hid (HA_4.out.trans (HB_4.out.mono HA_4.out.size))
  have HO_aE_5 := Lib.hid (REntry.keep HO_aE_4.out fun i hi => HB_4.out.block i (Nat.lt_of_lt_of_le hi HA_4.out.size))
  have HO_x0_5 := Lib.hid (HO_x0_4.out.below HB_4.out (Nat.le_trans HT_4.out (Nat.le_refl _)))
  have HX_aE_5 := Lib.hid (HX_aE_4.out.below HB_4.out HX_aE_4.out.lt)
  have HX_x0_5 := Lib.hid (HX_x0_4.out.below HB_4.out HX_x0_4.out.lt)
  clear hb
  clear x_x0_0 x_x0_1 x_x0_2 x_x0_3
  have x_aE_0 := HX_aE_5.out.cell (j := 0) rfl
  have x_aE_1 := HX_aE_5.out.cell (j := 1) rfl
  have x_aE_2 := HX_aE_5.out.cell (j := 2) rfl
  have x_aE_3 := HX_aE_5.out.cell (j := 3) rfl
  have x_x0_0 := HX_x0_5.out.cell (j := 0) rfl
  have x_x0_1 := HX_x0_5.out.cell (j := 1) rfl
  have x_x0_2 := HX_x0_5.out.cell (j := 2) rfl
  have x_x0_3 := HX_x0_5.out.cell (j := 3) rfl
  have HD_aE := Lib.hid (show REntry.rd W_5.drew (Lt W_5.drew.heap.size) [u0_0, u0_1, u0_2, u0_3] y0 from REntry.keep (REntry.more HO_aE_5.out fun i hi => Nat.lt_of_lt_of_le hi HA_5.out.size) fun i _ => rfl)
  go_wp2_with fail
  go_region_held3 (fun w' => w'.cell? ⟨W0.heap.size, 0, none⟩ = some u0_0 ∧ w'.cell? ⟨W0.heap.size, 1, none⟩ = some u0_1 ∧ w'.cell? ⟨W0.heap.size, 2, none⟩ = some u0_2 ∧ w'.cell? ⟨W0.heap.size, 3, none⟩ = some u0_3 ∧ w'.cell? ⟨W_4.heap.size, 0, none⟩ = some (.string y0.label) ∧ w'.cell? ⟨W_4.heap.size, 1, none⟩ = some (.int .i64 y0.kind) ∧ w'.cell? ⟨W_4.heap.size, 2, none⟩ = some (.int .i64 y0.value) ∧ w'.cell? ⟨W_4.heap.size, 3, none⟩ = some (.slice A_x0_3 n_x0_3 c_x0_3)) (first | exact ⟨x_aE_0, x_aE_1, x_aE_2, x_aE_3, x_x0_0, x_x0_1, x_x0_2, x_x0_3⟩ | exact ⟨x_aE_0_6, x_aE_1_6, x_aE_2_6, x_aE_3_6, x_x0_0_6, x_x0_1_6, x_x0_2_6, x_x0_3_6⟩ | exact ⟨x_aE_0_7, x_aE_1_7, x_aE_2_7, x_aE_3_7, x_x0_0_7, x_x0_1_7, x_x0_2_7, x_x0_3_7⟩) ((first
    | (go_at_call 29; (with_reducible refine (toEntry_any [u0_0, u0_1, u0_2, u0_3] y0 W_5.drew HD_aE.out (by omega)).mono ?_); rintro e W_6 ⟨cs__t1, rfl, hown, hb⟩; obtain ⟨A__t1_3, n__t1_3, c__t1_3, rfl⟩ := REntry_shape hown.rd; have HO__t1_6 := Lib.hid (hown); have HB_5 := Lib.hid (below_drew hb); have HZ_5 := Lib.hid HB_5.out.size; have HA_6 := Lib.hid (HA_5.out.trans (HB_5.out.mono HA_5.out.size)); have HO_aE_6 := Lib.hid (REntry.keep HO_aE_5.out fun i hi => HB_5.out.block i (Nat.lt_of_lt_of_le hi HA_5.out.size)); have HO_x0_6 := Lib.hid (HO_x0_5.out.below HB_5.out (Nat.le_trans HT_4.out HZ_4.out)); have HX_aE_6 := Lib.hid (HX_aE_5.out.below HB_5.out HX_aE_5.out.lt); have HX_x0_6 := Lib.hid (HX_x0_5.out.below HB_5.out HX_x0_5.out.lt); clear hb hown; have x_aE_0_6 := HX_aE_6.out.cell (j := 0) rfl; have x_aE_1_6 := HX_aE_6.out.cell (j := 1) rfl; have x_aE_2_6 := HX_aE_6.out.cell (j := 2) rfl; have x_aE_3_6 := HX_aE_6.out.cell (j := 3) rfl; have x_x0_0_6 := HX_x0_6.out.cell (j := 0) rfl; have x_x0_1_6 := HX_x0_6.out.cell (j := 1) rfl; have x_x0_2_6 := HX_x0_6.out.cell (j := 2) rfl; have x_x0_3_6 := HX_x0_6.out.cell (j := 3) rfl)
    | (go_at_call 30; (with_reducible refine (eqEntry_same _ _ [(.string y0.label), (.int .i64 y0.kind), (.int .i64 y0.value), (.slice A_x0_3 n_x0_3 c_x0_3)] [(.string y0.label), (.int .i64 y0.kind), (.int .i64 y0.value), (.slice A__t1_3 n__t1_3 c__t1_3)] y0 _ (REntry.more HO_x0_6.out.rd fun i hi => Nat.lt_of_lt_of_le hi (Nat.le_trans HT_4.out (Nat.le_trans HZ_4.out HZ_5.out))) (REntry.more HO__t1_6.out.rd fun i hi => Nat.lt_of_lt_of_le hi (Nat.le_refl _)) (Nat.le_refl _) (Nat.le_refl _) (by omega)).mono ?_); rintro e W_7 ⟨rfl, hb⟩; have HB_6 := Lib.hid hb; have HZ_6 := Lib.hid HB_6.out.size; have HA_7 := Lib.hid (HA_6.out.trans (HB_6.out.mono HA_6.out.size)); have HO_aE_7 := Lib.hid (REntry.keep HO_aE_6.out fun i hi => HB_6.out.block i (Nat.lt_of_lt_of_le hi HA_6.out.size)); have HO_x0_7 := Lib.hid (HO_x0_6.out.below HB_6.out (Nat.le_trans HT_4.out (Nat.le_trans HZ_4.out HZ_5.out))); have HX_aE_7 := Lib.hid (HX_aE_6.out.below HB_6.out HX_aE_6.out.lt); have HX_x0_7 := Lib.hid (HX_x0_6.out.below HB_6.out HX_x0_6.out.lt); clear hb; have x_aE_0_7 := HX_aE_7.out.cell (j := 0) rfl; have x_aE_1_7 := HX_aE_7.out.cell (j := 1) rfl; have x_aE_2_7 := HX_aE_7.out.cell (j := 2) rfl; have x_aE_3_7 := HX_aE_7.out.cell (j := 3) rfl; have x_x0_0_7 := HX_x0_7.out.cell (j := 0) rfl; have x_x0_1_7 := HX_x0_7.out.cell (j := 1) rfl; have x_x0_2_7 := HX_x0_7.out.cell (j := 2) rfl; have x_x0_3_7 := HX_x0_7.out.cell (j := 3) rfl)))
  clear x_aE_0 x_aE_1 x_aE_2 x_aE_3 x_x0_0 x_x0_1 x_x0_2 x_x0_3
  go_wp2
  go_ret
  exact ⟨rfl, HA_7.out⟩
theorem FnExactEntryInts_walk (W0 : World) (u0_0 u0_1 u0_2 u0_3 : Value) (y0 : Entry) (w0 : REntry.rd W0 (Lt W0.heap.size) [u0_0, u0_1, u0_2, u0_3] y0) :
    Calls Try.prog 5 #[.agg #[u0_0, u0_1, u0_2, u0_3]] W0 fun e w' => e = .returned (.bool true) ∧ Below W0.heap.size W0 w' := by
  have HA_0 := Lib.hid (show Below W0.heap.size W0 (W0.alloc (.cells #[u0_0, u0_1, u0_2, u0_3] 38)) from (Below.refl _ _).alloc (by first | (simp; done) | (simp; omega)) _)
  have HO_aE_0 := Lib.hid (REntry.keep w0 fun i hi => HA_0.out.block i hi)
  have HX_aE_0 := Lib.hid (show Box (W0.alloc (.cells #[u0_0, u0_1, u0_2, u0_3] 38)) (W0.heap.size) [u0_0, u0_1, u0_2, u0_3] from (show Box (W0.alloc (.cells #[u0_0, u0_1, u0_2, u0_3] 38)) (W0.heap.size) [u0_0, u0_1, u0_2, u0_3] by have h := Box.new W0 #[u0_0, u0_1, u0_2, u0_3] 38; simpa using h))
  clear w0
  go_enter Try.func5, Try.ntmps5
  have x_aE_0 := HX_aE_0.out.cell (j := 0) rfl
  have x_aE_1 := HX_aE_0.out.cell (j := 1) rfl
  have x_aE_2 := HX_aE_0.out.cell (j := 2) rfl
  have x_aE_3 := HX_aE_0.out.cell (j := 3) rfl
  by_cases hn_aE : 1048576 < (totEntry y0 : Int)
  · have HN := Lib.hid hn_aE
    clear hn_aE
    go_wp2_with fail
    refine (szEntry_any [u0_0, u0_1, u0_2, u0_3] y0 1048576 _ (REntry.more HO_aE_0.out fun i hi => Nat.lt_of_lt_of_le hi HA_0.out.size) (by omega) (by omega)).mono ?_
    rw [if_pos HN.out]
    rintro e W_1 ⟨rfl, hb⟩
    have HAe := Lib.hid (HA_0.out.trans (hb.mono HA_0.out.size))
    clear hb
    go_wp2
    go_ret
    exact ⟨rfl, HAe.out⟩
  have hY0 : totEntry y0 ≤ 1048576 := by omega
  have HN_aE := Lib.hid hn_aE
  clear hn_aE
  go_wp2_with fail
  refine (szEntry_any [u0_0, u0_1, u0_2, u0_3] y0 1048576 _ (REntry.more HO_aE_0.out fun i hi => Nat.lt_of_lt_of_le hi HA_0.out.size) (by omega) (by omega)).mono ?_
  rw [if_neg (show ¬ 1048576 < (totEntry y0 : Int) by have := HN_aE.out; omega)]
  rintro e W_1 ⟨rfl, hb⟩
  obtain ⟨qq0, hqq0⟩ : ∃ x, x = 1048576 - (totEntry y0 : Int) := ⟨_, rfl⟩
  rw [← hqq0]
  have hqq0l : 0 ≤ qq0 ∧ qq0 ≤ 1048576 := by have := HN_aE.out; omega
  have hqq0n : ¬ qq0 < 0 := by omega
  clear hqq0
  have HB_0 := Lib.hid hb
  have HZ_0 := Lib.hid HB_0.out.size
  have HA_1 := Lib.hid (HA_0.out.trans (HB_0.out.mono HA_0.out.size))
  have HO_aE_1 := Lib.hid (REntry.keep HO_aE_0.out fun i hi => HB_0.out.block i (Nat.lt_of_lt_of_le hi HA_0.out.size))
  have HX_aE_1 := Lib.hid (HX_aE_0.out.below HB_0.out HX_aE_0.out.lt)
  clear hb
  clear x_aE_0 x_aE_1 x_aE_2 x_aE_3
  have x_aE_0 := HX_aE_1.out.cell (j := 0) rfl
  have x_aE_1 := HX_aE_1.out.cell (j := 1) rfl
  have x_aE_2 := HX_aE_1.out.cell (j := 2) rfl
  have x_aE_3 := HX_aE_1.out.cell (j := 3) rfl
  obtain ⟨r0, hlen0, hS, hI⟩ := both_EntryInts y0 hY0
  have HS := Lib.hid hS
  have HI := Lib.hid hI
  clear hS hI
  have hcy0 := cntEntry_le y0
  go_wp2_with fail
  refine (toEntry_any [u0_0, u0_1, u0_2, u0_3] y0 _ (REntry.more HO_aE_1.out fun i hi => Nat.lt_of_lt_of_le hi HA_1.out.size) (by omega)).mono ?_
  rintro e W_2 ⟨cs__t0, rfl, hown, hb⟩
  obtain ⟨A__t0_3, n__t0_3, c__t0_3, rfl⟩ := REntry_shape hown.rd
  have HO__t0_2 := Lib.hid (hown)
  have HB_1 := Lib.hid hb
  have HZ_1 := Lib.hid HB_1.out.size
  have HA_2 := Lib.hid (HA_1.out.trans (HB_1.out.mono HA_1.out.size))
  have HO_aE_2 := Lib.hid (REntry.keep HO_aE_1.out fun i hi => HB_1.out.block i (Nat.lt_of_lt_of_le hi HA_1.out.size))
  have HX_aE_2 := Lib.hid (HX_aE_1.out.below HB_1.out HX_aE_1.out.lt)
  clear hb hown
  go_wp2_with fail
  refine (HS.out [(.string y0.label), (.int .i64 y0.kind), (.int .i64 y0.value), (.slice A__t0_3 n__t0_3 c__t0_3)] _ (REntry.more HO__t0_2.out.rd fun i hi => Nat.lt_of_lt_of_le hi (Nat.le_refl _))).mono ?_
  rintro e W_3 ⟨A_w0, c_w0, rfl, ho0, hb⟩
  have HO_w0_3 := Lib.hid ho0
  have HB_2 := Lib.hid hb
  have HZ_2 := Lib.hid HB_2.out.size
  have HA_3 := Lib.hid (HA_2.out.trans (HB_2.out.mono HA_2.out.size))
  have HO_aE_3 := Lib.hid (REntry.keep HO_aE_2.out fun i hi => HB_2.out.block i (Nat.lt_of_lt_of_le hi HA_2.out.size))
  have HX_aE_3 := Lib.hid (HX_aE_2.out.below HB_2.out HX_aE_2.out.lt)
  clear hb ho0
  clear x_aE_0 x_aE_1 x_aE_2 x_aE_3
  have x_aE_0 := HX_aE_3.out.cell (j := 0) rfl
  have x_aE_1 := HX_aE_3.out.cell (j := 1) rfl
  have x_aE_2 := HX_aE_3.out.cell (j := 2) rfl
  have x_aE_3 := HX_aE_3.out.cell (j := 3) rfl
  go_wp2_with fail
  refine (toEntry_any [u0_0, u0_1, u0_2, u0_3] y0 _ (REntry.more HO_aE_3.out fun i hi => Nat.lt_of_lt_of_le hi HA_3.out.size) (by omega)).mono ?_
  rintro e W_4 ⟨cs_x0, rfl, hown, hb⟩
  obtain ⟨A_x0_3, n_x0_3, c_x0_3, rfl⟩ := REntry_shape hown.rd
  have HO_x0_4 := Lib.hid (hown.alloc (.cells #[(.string y0.label), (.int .i64 y0.kind), (.int .i64 y0.value), (.slice A_x0_3 n_x0_3 c_x0_3)] 26))
  have HT_4 := Lib.hid (show W_4.heap.size ≤ (W_4.alloc (.cells #[(.string y0.label), (.int .i64 y0.kind), (.int .i64 y0.value), (.slice A_x0_3 n_x0_3 c_x0_3)] 26)).heap.size by simp)
  have hb3 := hb.alloc hb.size (.cells #[(.string y0.label), (.int .i64 y0.kind), (.int .i64 y0.value), (.slice A_x0_3 n_x0_3 c_x0_3)] 26)
  have HB_3 := Lib.hid hb3
  have HQ_4 := Lib.hid hb.size
  have HZ_3 := Lib.hid HB_3.out.size
  have HA_4 := Lib.hid (HA_3.out.trans (HB_3.out.mono HA_3.out.size))
  have HO_aE_4 := Lib.hid (REntry.keep HO_aE_3.out fun i hi => HB_3.out.block i (Nat.lt_of_lt_of_le hi HA_3.out.size))
  have HO_w0_4 := Lib.hid (HO_w0_3.out.below HB_3.out (Nat.le_refl _))
  have HX_aE_4 := Lib.hid (HX_aE_3.out.below HB_3.out HX_aE_3.out.lt)
  clear hb hown
  have HX_x0_4 := Lib.hid (show Box (W_4.alloc (.cells #[(.string y0.label), (.int .i64 y0.kind), (.int .i64 y0.value), (.slice A_x0_3 n_x0_3 c_x0_3)] 26)) W_4.heap.size [(.string y0.label), (.int .i64 y0.kind), (.int .i64 y0.value), (.slice A_x0_3 n_x0_3 c_x0_3)] from Box.new W_4 #[(.string y0.label), (.int .i64 y0.kind), (.int .i64 y0.value), (.slice A_x0_3 n_x0_3 c_x0_3)] 26)
  clear x_aE_0 x_aE_1 x_aE_2 x_aE_3
  have x_x0_0 := HX_x0_4.out.cell (j := 0) rfl
  have x_x0_1 := HX_x0_4.out.cell (j := 1) rfl
  have x_x0_2 := HX_x0_4.out.cell (j := 2) rfl
  have x_x0_3 := HX_x0_4.out.cell (j := 3) rfl
  go_wp2_with fail
  refine (HI.out [(.string y0.label), (.int .i64 y0.kind), (.int .i64 y0.value), (.slice A_x0_3 n_x0_3 c_x0_3)] _ (REntry.more HO_x0_4.out.rd fun i hi => Nat.lt_of_lt_of_le hi (Nat.le_trans HT_4.out (Nat.le_refl _)))).mono ?_
  rintro e W_5 ⟨A_g0, c_g0, rfl, ho0, hb⟩
  have HO_g0_5 := Lib.hid ho0
  have HB_4 := Lib.hid hb
  have HZ_4 := Lib.hid HB_4.out.size
  have HA_5 := Lib.hid (HA_4.out.trans (HB_4.out.mono HA_4.out.size))
  have HO_aE_5 := Lib.hid (REntry.keep HO_aE_4.out fun i hi => HB_4.out.block i (Nat.lt_of_lt_of_le hi HA_4.out.size))
  have HO_w0_5 := Lib.hid (HO_w0_4.out.below HB_4.out HZ_3.out)
  have HO_x0_5 := Lib.hid (HO_x0_4.out.below HB_4.out (Nat.le_trans HT_4.out (Nat.le_refl _)))
  have HX_aE_5 := Lib.hid (HX_aE_4.out.below HB_4.out HX_aE_4.out.lt)
  have HX_x0_5 := Lib.hid (HX_x0_4.out.below HB_4.out HX_x0_4.out.lt)
  clear hb ho0
  clear x_x0_0 x_x0_1 x_x0_2 x_x0_3
  go_wp2_with fail
  refine (eqIntS_same _ _ A_g0 A_w0 r0.length c_g0 c_w0 r0 _ (HO_g0_5.out.rd.more (Nat.le_refl _)) (HO_w0_5.out.rd.more (Nat.le_trans HZ_3.out HZ_4.out)) (by omega)).mono ?_
  rintro e W_6 ⟨rfl, hb⟩
  have HB_5 := Lib.hid hb
  have HZ_5 := Lib.hid (HB_5.out.below 0).size
  have HA_6 := Lib.hid (HA_5.out.trans (HB_5.out.below _))
  have HO_aE_6 := Lib.hid (REntry.keep HO_aE_5.out fun i hi => by rw [HB_5.out.heap])
  have HO_w0_6 := Lib.hid (HO_w0_5.out.same HB_5.out)
  have HO_x0_6 := Lib.hid (HO_x0_5.out.same HB_5.out)
  have HO_g0_6 := Lib.hid (HO_g0_5.out.same HB_5.out)
  have HX_aE_6 := Lib.hid (HX_aE_5.out.keep (by rw [HB_5.out.heap]))
  have HX_x0_6 := Lib.hid (HX_x0_5.out.keep (by rw [HB_5.out.heap]))
  clear hb
  have x_aE_0 := HX_aE_6.out.cell (j := 0) rfl
  have x_aE_1 := HX_aE_6.out.cell (j := 1) rfl
  have x_aE_2 := HX_aE_6.out.cell (j := 2) rfl
  have x_aE_3 := HX_aE_6.out.cell (j := 3) rfl
  have x_x0_0 := HX_x0_6.out.cell (j := 0) rfl
  have x_x0_1 := HX_x0_6.out.cell (j := 1) rfl
  have x_x0_2 := HX_x0_6.out.cell (j := 2) rfl
  have x_x0_3 := HX_x0_6.out.cell (j := 3) rfl
  have HD_aE := Lib.hid (show REntry.rd W_6.drew (Lt W_6.drew.heap.size) [u0_0, u0_1, u0_2, u0_3] y0 from REntry.keep (REntry.more HO_aE_6.out fun i hi => Nat.lt_of_lt_of_le hi HA_6.out.size) fun i _ => rfl)
  go_wp2_with fail
  go_region_held3 (fun w' => w'.cell? ⟨W0.heap.size, 0, none⟩ = some u0_0 ∧ w'.cell? ⟨W0.heap.size, 1, none⟩ = some u0_1 ∧ w'.cell? ⟨W0.heap.size, 2, none⟩ = some u0_2 ∧ w'.cell? ⟨W0.heap.size, 3, none⟩ = some u0_3 ∧ w'.cell? ⟨W_4.heap.size, 0, none⟩ = some (.string y0.label) ∧ w'.cell? ⟨W_4.heap.size, 1, none⟩ = some (.int .i64 y0.kind) ∧ w'.cell? ⟨W_4.heap.size, 2, none⟩ = some (.int .i64 y0.value) ∧ w'.cell? ⟨W_4.heap.size, 3, none⟩ = some (.slice A_x0_3 n_x0_3 c_x0_3)) (first | exact ⟨x_aE_0, x_aE_1, x_aE_2, x_aE_3, x_x0_0, x_x0_1, x_x0_2, x_x0_3⟩ | exact ⟨x_aE_0_7, x_aE_1_7, x_aE_2_7, x_aE_3_7, x_x0_0_7, x_x0_1_7, x_x0_2_7, x_x0_3_7⟩ | exact ⟨x_aE_0_8, x_aE_1_8, x_aE_2_8, x_aE_3_8, x_x0_0_8, x_x0_1_8, x_x0_2_8, x_x0_3_8⟩) ((first
    | (go_at_call 29; (with_reducible refine (toEntry_any [u0_0, u0_1, u0_2, u0_3] y0 W_6.drew HD_aE.out (by omega)).mono ?_); rintro e W_7 ⟨cs__t1, rfl, hown, hb⟩; obtain ⟨A__t1_3, n__t1_3, c__t1_3, rfl⟩ := REntry_shape hown.rd; have HO__t1_7 := Lib.hid (hown); have HB_6 := Lib.hid (below_drew hb); have HZ_6 := Lib.hid HB_6.out.size; have HA_7 := Lib.hid (HA_6.out.trans (HB_6.out.mono HA_6.out.size)); have HO_aE_7 := Lib.hid (REntry.keep HO_aE_6.out fun i hi => HB_6.out.block i (Nat.lt_of_lt_of_le hi HA_6.out.size)); have HO_w0_7 := Lib.hid (HO_w0_6.out.below HB_6.out (Nat.le_trans (Nat.le_trans HZ_3.out HZ_4.out) HZ_5.out)); have HO_x0_7 := Lib.hid (HO_x0_6.out.below HB_6.out (Nat.le_trans HT_4.out (Nat.le_trans HZ_4.out HZ_5.out))); have HO_g0_7 := Lib.hid (HO_g0_6.out.below HB_6.out HZ_5.out); have HX_aE_7 := Lib.hid (HX_aE_6.out.below HB_6.out HX_aE_6.out.lt); have HX_x0_7 := Lib.hid (HX_x0_6.out.below HB_6.out HX_x0_6.out.lt); clear hb hown; have x_aE_0_7 := HX_aE_7.out.cell (j := 0) rfl; have x_aE_1_7 := HX_aE_7.out.cell (j := 1) rfl; have x_aE_2_7 := HX_aE_7.out.cell (j := 2) rfl; have x_aE_3_7 := HX_aE_7.out.cell (j := 3) rfl; have x_x0_0_7 := HX_x0_7.out.cell (j := 0) rfl; have x_x0_1_7 := HX_x0_7.out.cell (j := 1) rfl; have x_x0_2_7 := HX_x0_7.out.cell (j := 2) rfl; have x_x0_3_7 := HX_x0_7.out.cell (j := 3) rfl)
    | (go_at_call 30; (with_reducible refine (eqEntry_same _ _ [(.string y0.label), (.int .i64 y0.kind), (.int .i64 y0.value), (.slice A_x0_3 n_x0_3 c_x0_3)] [(.string y0.label), (.int .i64 y0.kind), (.int .i64 y0.value), (.slice A__t1_3 n__t1_3 c__t1_3)] y0 _ (REntry.more HO_x0_7.out.rd fun i hi => Nat.lt_of_lt_of_le hi (Nat.le_trans HT_4.out (Nat.le_trans (Nat.le_trans HZ_4.out HZ_5.out) HZ_6.out))) (REntry.more HO__t1_7.out.rd fun i hi => Nat.lt_of_lt_of_le hi (Nat.le_refl _)) (Nat.le_refl _) (Nat.le_refl _) (by omega)).mono ?_); rintro e W_8 ⟨rfl, hb⟩; have HB_7 := Lib.hid hb; have HZ_7 := Lib.hid HB_7.out.size; have HA_8 := Lib.hid (HA_7.out.trans (HB_7.out.mono HA_7.out.size)); have HO_aE_8 := Lib.hid (REntry.keep HO_aE_7.out fun i hi => HB_7.out.block i (Nat.lt_of_lt_of_le hi HA_7.out.size)); have HO_w0_8 := Lib.hid (HO_w0_7.out.below HB_7.out (Nat.le_trans (Nat.le_trans (Nat.le_trans HZ_3.out HZ_4.out) HZ_5.out) HZ_6.out)); have HO_x0_8 := Lib.hid (HO_x0_7.out.below HB_7.out (Nat.le_trans HT_4.out (Nat.le_trans (Nat.le_trans HZ_4.out HZ_5.out) HZ_6.out))); have HO_g0_8 := Lib.hid (HO_g0_7.out.below HB_7.out (Nat.le_trans HZ_5.out HZ_6.out)); have HX_aE_8 := Lib.hid (HX_aE_7.out.below HB_7.out HX_aE_7.out.lt); have HX_x0_8 := Lib.hid (HX_x0_7.out.below HB_7.out HX_x0_7.out.lt); clear hb; have x_aE_0_8 := HX_aE_8.out.cell (j := 0) rfl; have x_aE_1_8 := HX_aE_8.out.cell (j := 1) rfl; have x_aE_2_8 := HX_aE_8.out.cell (j := 2) rfl; have x_aE_3_8 := HX_aE_8.out.cell (j := 3) rfl; have x_x0_0_8 := HX_x0_8.out.cell (j := 0) rfl; have x_x0_1_8 := HX_x0_8.out.cell (j := 1) rfl; have x_x0_2_8 := HX_x0_8.out.cell (j := 2) rfl; have x_x0_3_8 := HX_x0_8.out.cell (j := 3) rfl)))
  clear x_aE_0 x_aE_1 x_aE_2 x_aE_3 x_x0_0 x_x0_1 x_x0_2 x_x0_3
  have x_x0_0 := HX_x0_8.out.cell (j := 0) rfl
  have x_x0_1 := HX_x0_8.out.cell (j := 1) rfl
  have x_x0_2 := HX_x0_8.out.cell (j := 2) rfl
  have x_x0_3 := HX_x0_8.out.cell (j := 3) rfl
  go_wp2_with fail
  refine (markEntry_any _ _ [(.string y0.label), (.int .i64 y0.kind), (.int .i64 y0.value), (.slice A_x0_3 n_x0_3 c_x0_3)] y0 1 _ HO_x0_8.out (Nat.le_trans HT_4.out (Nat.le_trans (Nat.le_trans (Nat.le_trans HZ_4.out HZ_5.out) HZ_6.out) HZ_7.out)) (by omega) (by omega) (by omega)).mono ?_
  rintro e W_9 ⟨rfl, hown, hb⟩
  have HO_x0_9 := Lib.hid hown
  clear hown
  have HB_8 := Lib.hid hb
  have HZ_8 := Lib.hid HB_8.out.size
  have HA_9 := Lib.hid (HA_8.out.trans (HB_8.out.below HA_3.out.size HA_8.out.size))
  have HO_aE_9 := Lib.hid (REntry.keep HO_aE_8.out fun i hi => HB_8.out.block i (Nat.lt_of_lt_of_le hi HA_8.out.size) (.inl (Nat.lt_of_lt_of_le hi HA_3.out.size)))
  have HO_w0_9 := Lib.hid (HO_w0_8.out.fr HB_8.out (.inl (Nat.le_refl _)))
  have HO_g0_9 := Lib.hid (HO_g0_8.out.fr HB_8.out (.inr (Nat.le_trans HT_4.out (Nat.le_refl _))))
  have HX_aE_9 := Lib.hid (HX_aE_8.out.keep (HB_8.out.block _ HX_aE_8.out.lt (.inl (Nat.lt_of_lt_of_le HX_aE_0.out.lt (Nat.le_trans (Nat.le_trans HZ_0.out HZ_1.out) HZ_2.out)))))
  clear hb
  clear x_x0_0 x_x0_1 x_x0_2 x_x0_3
  go_wp2_with fail
  refine (eqIntS_same _ _ A_g0 A_w0 r0.length c_g0 c_w0 r0 _ (HO_g0_9.out.rd.more (Nat.le_trans (Nat.le_trans (Nat.le_trans HZ_5.out HZ_6.out) HZ_7.out) HZ_8.out)) (HO_w0_9.out.rd.more (Nat.le_trans (Nat.le_trans (Nat.le_trans (Nat.le_trans (Nat.le_trans HZ_3.out HZ_4.out) HZ_5.out) HZ_6.out) HZ_7.out) HZ_8.out)) (by omega)).mono ?_
  rintro e W_10 ⟨rfl, hb⟩
  have HB_9 := Lib.hid hb
  have HZ_9 := Lib.hid (HB_9.out.below 0).size
  have HA_10 := Lib.hid (HA_9.out.trans (HB_9.out.below _))
  have HO_aE_10 := Lib.hid (REntry.keep HO_aE_9.out fun i hi => by rw [HB_9.out.heap])
  have HO_w0_10 := Lib.hid (HO_w0_9.out.same HB_9.out)
  have HO_g0_10 := Lib.hid (HO_g0_9.out.same HB_9.out)
  have HX_aE_10 := Lib.hid (HX_aE_9.out.keep (by rw [HB_9.out.heap]))
  clear hb
  go_wp2_with fail
  refine (markIntS_any _ _ A_g0 r0.length c_g0 r0 1 _ HO_g0_10.out (by omega) (by omega) (by omega)).mono ?_
  rintro e W_11 ⟨rfl, hown, hb⟩
  have HO_g0_11 := Lib.hid hown
  clear hown
  have HB_10 := Lib.hid hb
  have HZ_10 := Lib.hid HB_10.out.size
  have HA_11 := Lib.hid (HA_10.out.trans (HB_10.out.below HA_4.out.size HA_10.out.size))
  have HO_aE_11 := Lib.hid (REntry.keep HO_aE_10.out fun i hi => HB_10.out.block i (Nat.lt_of_lt_of_le hi HA_10.out.size) (.inl (Nat.lt_of_lt_of_le hi HA_4.out.size)))
  have HO_w0_11 := Lib.hid (HO_w0_10.out.fr HB_10.out (.inl HZ_3.out))
  have HX_aE_11 := Lib.hid (HX_aE_10.out.keep (HB_10.out.block _ HX_aE_10.out.lt (.inl (Nat.lt_of_lt_of_le HX_aE_0.out.lt (Nat.le_trans (Nat.le_trans (Nat.le_trans HZ_0.out HZ_1.out) HZ_2.out) HZ_3.out)))))
  clear hb
  go_wp2_with fail
  refine (heldIntS_marks _ A_g0 r0.length c_g0 1 _ HO_g0_11.out.rd (by omega) (by omega) (by omega)).mono ?_
  rintro e W_12 ⟨rfl, rfl⟩
  have x_aE_0 := HX_aE_11.out.cell (j := 0) rfl
  have x_aE_1 := HX_aE_11.out.cell (j := 1) rfl
  have x_aE_2 := HX_aE_11.out.cell (j := 2) rfl
  have x_aE_3 := HX_aE_11.out.cell (j := 3) rfl
  go_wp2_with fail
  refine (toEntry_any [u0_0, u0_1, u0_2, u0_3] y0 _ (REntry.more HO_aE_11.out fun i hi => Nat.lt_of_lt_of_le hi HA_11.out.size) (by omega)).mono ?_
  rintro e W_12 ⟨cs__t2, rfl, hown, hb⟩
  obtain ⟨A__t2_3, n__t2_3, c__t2_3, rfl⟩ := REntry_shape hown.rd
  have HO__t2_12 := Lib.hid (hown)
  have HB_11 := Lib.hid hb
  have HZ_11 := Lib.hid HB_11.out.size
  have HA_12 := Lib.hid (HA_11.out.trans (HB_11.out.mono HA_11.out.size))
  have HO_w0_12 := Lib.hid (HO_w0_11.out.below HB_11.out (Nat.le_trans (Nat.le_trans (Nat.le_trans (Nat.le_trans (Nat.le_trans (Nat.le_trans (Nat.le_trans HZ_3.out HZ_4.out) HZ_5.out) HZ_6.out) HZ_7.out) HZ_8.out) HZ_9.out) HZ_10.out))
  have HO_g0_12 := Lib.hid (HO_g0_11.out.below HB_11.out (Nat.le_trans (Nat.le_trans (Nat.le_trans (Nat.le_trans (Nat.le_trans HZ_5.out HZ_6.out) HZ_7.out) HZ_8.out) HZ_9.out) HZ_10.out))
  clear hb hown
  go_wp2_with fail
  refine (HI.out [(.string y0.label), (.int .i64 y0.kind), (.int .i64 y0.value), (.slice A__t2_3 n__t2_3 c__t2_3)] _ (REntry.more HO__t2_12.out.rd fun i hi => Nat.lt_of_lt_of_le hi (Nat.le_refl _))).mono ?_
  rintro e W_13 ⟨A_h0, c_h0, rfl, ho0, hb⟩
  have HO_h0_13 := Lib.hid ho0
  have HB_12 := Lib.hid hb
  have HZ_12 := Lib.hid HB_12.out.size
  have HA_13 := Lib.hid (HA_12.out.trans (HB_12.out.mono HA_12.out.size))
  have HO_w0_13 := Lib.hid (HO_w0_12.out.below HB_12.out (Nat.le_trans (Nat.le_trans (Nat.le_trans (Nat.le_trans (Nat.le_trans (Nat.le_trans (Nat.le_trans (Nat.le_trans HZ_3.out HZ_4.out) HZ_5.out) HZ_6.out) HZ_7.out) HZ_8.out) HZ_9.out) HZ_10.out) HZ_11.out))
  have HO_g0_13 := Lib.hid (HO_g0_12.out.below HB_12.out (Nat.le_trans (Nat.le_trans (Nat.le_trans (Nat.le_trans (Nat.le_trans (Nat.le_trans HZ_5.out HZ_6.out) HZ_7.out) HZ_8.out) HZ_9.out) HZ_10.out) HZ_11.out))
  clear hb ho0
  clear x_aE_0 x_aE_1 x_aE_2 x_aE_3
  go_wp2_with fail
  refine (eqIntS_same _ _ A_h0 A_w0 r0.length c_h0 c_w0 r0 _ (HO_h0_13.out.rd.more (Nat.le_refl _)) (HO_w0_13.out.rd.more (Nat.le_trans (Nat.le_trans (Nat.le_trans (Nat.le_trans (Nat.le_trans (Nat.le_trans (Nat.le_trans (Nat.le_trans (Nat.le_trans HZ_3.out HZ_4.out) HZ_5.out) HZ_6.out) HZ_7.out) HZ_8.out) HZ_9.out) HZ_10.out) HZ_11.out) HZ_12.out)) (by omega)).mono ?_
  rintro e W_14 ⟨rfl, hb⟩
  have HB_13 := Lib.hid hb
  have HZ_13 := Lib.hid (HB_13.out.below 0).size
  have HA_14 := Lib.hid (HA_13.out.trans (HB_13.out.below _))
  have HO_g0_14 := Lib.hid (HO_g0_13.out.same HB_13.out)
  clear hb
  go_wp2_with fail
  refine (heldIntS_marks _ A_g0 r0.length c_g0 1 _ HO_g0_14.out.rd (by omega) (by omega) (by omega)).mono ?_
  rintro e W_15 ⟨rfl, rfl⟩
  go_wp2
  go_ret
  exact ⟨rfl, HA_14.out⟩
theorem FnExactLeafOf_walk (W0 : World) (u0_0 u0_1 u0_2 u0_3 : Value) (y0 : Entry) (w0 : REntry.rd W0 (Lt W0.heap.size) [u0_0, u0_1, u0_2, u0_3] y0) :
    Calls Try.prog 6 #[.agg #[u0_0, u0_1, u0_2, u0_3]] W0 fun e w' => e = .returned (.bool true) ∧ Below W0.heap.size W0 w' := by
  have HA_0 := Lib.hid (show Below W0.heap.size W0 (W0.alloc (.cells #[u0_0, u0_1, u0_2, u0_3] 38)) from (Below.refl _ _).alloc (by first | (simp; done) | (simp; omega)) _)
  have HO_aE_0 := Lib.hid (REntry.keep w0 fun i hi => HA_0.out.block i hi)
  have HX_aE_0 := Lib.hid (show Box (W0.alloc (.cells #[u0_0, u0_1, u0_2, u0_3] 38)) (W0.heap.size) [u0_0, u0_1, u0_2, u0_3] from (show Box (W0.alloc (.cells #[u0_0, u0_1, u0_2, u0_3] 38)) (W0.heap.size) [u0_0, u0_1, u0_2, u0_3] by have h := Box.new W0 #[u0_0, u0_1, u0_2, u0_3] 38; simpa using h))
  clear w0
  go_enter Try.func6, Try.ntmps6
  have x_aE_0 := HX_aE_0.out.cell (j := 0) rfl
  have x_aE_1 := HX_aE_0.out.cell (j := 1) rfl
  have x_aE_2 := HX_aE_0.out.cell (j := 2) rfl
  have x_aE_3 := HX_aE_0.out.cell (j := 3) rfl
  by_cases hn_aE : 1048576 < (totEntry y0 : Int)
  · have HN := Lib.hid hn_aE
    clear hn_aE
    go_wp2_with fail
    refine (szEntry_any [u0_0, u0_1, u0_2, u0_3] y0 1048576 _ (REntry.more HO_aE_0.out fun i hi => Nat.lt_of_lt_of_le hi HA_0.out.size) (by omega) (by omega)).mono ?_
    rw [if_pos HN.out]
    rintro e W_1 ⟨rfl, hb⟩
    have HAe := Lib.hid (HA_0.out.trans (hb.mono HA_0.out.size))
    clear hb
    go_wp2
    go_ret
    exact ⟨rfl, HAe.out⟩
  have hY0 : totEntry y0 ≤ 1048576 := by omega
  have HN_aE := Lib.hid hn_aE
  clear hn_aE
  go_wp2_with fail
  refine (szEntry_any [u0_0, u0_1, u0_2, u0_3] y0 1048576 _ (REntry.more HO_aE_0.out fun i hi => Nat.lt_of_lt_of_le hi HA_0.out.size) (by omega) (by omega)).mono ?_
  rw [if_neg (show ¬ 1048576 < (totEntry y0 : Int) by have := HN_aE.out; omega)]
  rintro e W_1 ⟨rfl, hb⟩
  obtain ⟨qq0, hqq0⟩ : ∃ x, x = 1048576 - (totEntry y0 : Int) := ⟨_, rfl⟩
  rw [← hqq0]
  have hqq0l : 0 ≤ qq0 ∧ qq0 ≤ 1048576 := by have := HN_aE.out; omega
  have hqq0n : ¬ qq0 < 0 := by omega
  clear hqq0
  have HB_0 := Lib.hid hb
  have HZ_0 := Lib.hid HB_0.out.size
  have HA_1 := Lib.hid (HA_0.out.trans (HB_0.out.mono HA_0.out.size))
  have HO_aE_1 := Lib.hid (REntry.keep HO_aE_0.out fun i hi => HB_0.out.block i (Nat.lt_of_lt_of_le hi HA_0.out.size))
  have HX_aE_1 := Lib.hid (HX_aE_0.out.below HB_0.out HX_aE_0.out.lt)
  clear hb
  clear x_aE_0 x_aE_1 x_aE_2 x_aE_3
  have x_aE_0 := HX_aE_1.out.cell (j := 0) rfl
  have x_aE_1 := HX_aE_1.out.cell (j := 1) rfl
  have x_aE_2 := HX_aE_1.out.cell (j := 2) rfl
  have x_aE_3 := HX_aE_1.out.cell (j := 3) rfl
  obtain ⟨r0, hS, hI⟩ := both_LeafOf y0 hY0
  have HS := Lib.hid hS
  have HI := Lib.hid hI
  clear hS hI
  have hcy0 := cntEntry_le y0
  go_wp2_with fail
  refine (toEntry_any [u0_0, u0_1, u0_2, u0_3] y0 _ (REntry.more HO_aE_1.out fun i hi => Nat.lt_of_lt_of_le hi HA_1.out.size) (by omega)).mono ?_
  rintro e W_2 ⟨cs__t0, rfl, hown, hb⟩
  obtain ⟨A__t0_3, n__t0_3, c__t0_3, rfl⟩ := REntry_shape hown.rd
  have HO__t0_2 := Lib.hid (hown)
  have HB_1 := Lib.hid hb
  have HZ_1 := Lib.hid HB_1.out.size
  have HA_2 := Lib.hid (HA_1.out.trans (HB_1.out.mono HA_1.out.size))
  have HO_aE_2 := Lib.hid (REntry.keep HO_aE_1.out fun i hi => HB_1.out.block i (Nat.lt_of_lt_of_le hi HA_1.out.size))
  have HX_aE_2 := Lib.hid (HX_aE_1.out.below HB_1.out HX_aE_1.out.lt)
  clear hb hown
  go_wp2_with fail
  refine (HS.out [(.string y0.label), (.int .i64 y0.kind), (.int .i64 y0.value), (.slice A__t0_3 n__t0_3 c__t0_3)] _ (REntry.more HO__t0_2.out.rd fun i hi => Nat.lt_of_lt_of_le hi (Nat.le_refl _))).mono ?_
  rintro e W_3 ⟨rfl, hb⟩
  have HB_2 := Lib.hid hb
  have HZ_2 := Lib.hid HB_2.out.size
  have HA_3 := Lib.hid (HA_2.out.trans (HB_2.out.mono HA_2.out.size))
  have HO_aE_3 := Lib.hid (REntry.keep HO_aE_2.out fun i hi => HB_2.out.block i (Nat.lt_of_lt_of_le hi HA_2.out.size))
  have HX_aE_3 := Lib.hid (HX_aE_2.out.below HB_2.out HX_aE_2.out.lt)
  clear hb
  clear x_aE_0 x_aE_1 x_aE_2 x_aE_3
  have x_aE_0 := HX_aE_3.out.cell (j := 0) rfl
  have x_aE_1 := HX_aE_3.out.cell (j := 1) rfl
  have x_aE_2 := HX_aE_3.out.cell (j := 2) rfl
  have x_aE_3 := HX_aE_3.out.cell (j := 3) rfl
  go_wp2_with fail
  refine (toEntry_any [u0_0, u0_1, u0_2, u0_3] y0 _ (REntry.more HO_aE_3.out fun i hi => Nat.lt_of_lt_of_le hi HA_3.out.size) (by omega)).mono ?_
  rintro e W_4 ⟨cs_x0, rfl, hown, hb⟩
  obtain ⟨A_x0_3, n_x0_3, c_x0_3, rfl⟩ := REntry_shape hown.rd
  have HO_x0_4 := Lib.hid (hown.alloc (.cells #[(.string y0.label), (.int .i64 y0.kind), (.int .i64 y0.value), (.slice A_x0_3 n_x0_3 c_x0_3)] 26))
  have HT_4 := Lib.hid (show W_4.heap.size ≤ (W_4.alloc (.cells #[(.string y0.label), (.int .i64 y0.kind), (.int .i64 y0.value), (.slice A_x0_3 n_x0_3 c_x0_3)] 26)).heap.size by simp)
  have hb3 := hb.alloc hb.size (.cells #[(.string y0.label), (.int .i64 y0.kind), (.int .i64 y0.value), (.slice A_x0_3 n_x0_3 c_x0_3)] 26)
  have HB_3 := Lib.hid hb3
  have HQ_4 := Lib.hid hb.size
  have HZ_3 := Lib.hid HB_3.out.size
  have HA_4 := Lib.hid (HA_3.out.trans (HB_3.out.mono HA_3.out.size))
  have HO_aE_4 := Lib.hid (REntry.keep HO_aE_3.out fun i hi => HB_3.out.block i (Nat.lt_of_lt_of_le hi HA_3.out.size))
  have HX_aE_4 := Lib.hid (HX_aE_3.out.below HB_3.out HX_aE_3.out.lt)
  clear hb hown
  have HX_x0_4 := Lib.hid (show Box (W_4.alloc (.cells #[(.string y0.label), (.int .i64 y0.kind), (.int .i64 y0.value), (.slice A_x0_3 n_x0_3 c_x0_3)] 26)) W_4.heap.size [(.string y0.label), (.int .i64 y0.kind), (.int .i64 y0.value), (.slice A_x0_3 n_x0_3 c_x0_3)] from Box.new W_4 #[(.string y0.label), (.int .i64 y0.kind), (.int .i64 y0.value), (.slice A_x0_3 n_x0_3 c_x0_3)] 26)
  clear x_aE_0 x_aE_1 x_aE_2 x_aE_3
  have x_x0_0 := HX_x0_4.out.cell (j := 0) rfl
  have x_x0_1 := HX_x0_4.out.cell (j := 1) rfl
  have x_x0_2 := HX_x0_4.out.cell (j := 2) rfl
  have x_x0_3 := HX_x0_4.out.cell (j := 3) rfl
  go_wp2_with fail
  refine (HI.out [(.string y0.label), (.int .i64 y0.kind), (.int .i64 y0.value), (.slice A_x0_3 n_x0_3 c_x0_3)] _ (REntry.more HO_x0_4.out.rd fun i hi => Nat.lt_of_lt_of_le hi (Nat.le_trans HT_4.out (Nat.le_refl _)))).mono ?_
  rintro e W_5 ⟨rfl, hb⟩
  have HB_4 := Lib.hid hb
  have HZ_4 := Lib.hid HB_4.out.size
  have HA_5 := Lib.hid (HA_4.out.trans (HB_4.out.mono HA_4.out.size))
  have HO_aE_5 := Lib.hid (REntry.keep HO_aE_4.out fun i hi => HB_4.out.block i (Nat.lt_of_lt_of_le hi HA_4.out.size))
  have HO_x0_5 := Lib.hid (HO_x0_4.out.below HB_4.out (Nat.le_trans HT_4.out (Nat.le_refl _)))
  have HX_aE_5 := Lib.hid (HX_aE_4.out.below HB_4.out HX_aE_4.out.lt)
  have HX_x0_5 := Lib.hid (HX_x0_4.out.below HB_4.out HX_x0_4.out.lt)
  clear hb
  clear x_x0_0 x_x0_1 x_x0_2 x_x0_3
  have x_aE_0 := HX_aE_5.out.cell (j := 0) rfl
  have x_aE_1 := HX_aE_5.out.cell (j := 1) rfl
  have x_aE_2 := HX_aE_5.out.cell (j := 2) rfl
  have x_aE_3 := HX_aE_5.out.cell (j := 3) rfl
  have x_x0_0 := HX_x0_5.out.cell (j := 0) rfl
  have x_x0_1 := HX_x0_5.out.cell (j := 1) rfl
  have x_x0_2 := HX_x0_5.out.cell (j := 2) rfl
  have x_x0_3 := HX_x0_5.out.cell (j := 3) rfl
  have HD_aE := Lib.hid (show REntry.rd W_5.drew (Lt W_5.drew.heap.size) [u0_0, u0_1, u0_2, u0_3] y0 from REntry.keep (REntry.more HO_aE_5.out fun i hi => Nat.lt_of_lt_of_le hi HA_5.out.size) fun i _ => rfl)
  go_wp2_with fail
  go_region_held3 (fun w' => w'.cell? ⟨W0.heap.size, 0, none⟩ = some u0_0 ∧ w'.cell? ⟨W0.heap.size, 1, none⟩ = some u0_1 ∧ w'.cell? ⟨W0.heap.size, 2, none⟩ = some u0_2 ∧ w'.cell? ⟨W0.heap.size, 3, none⟩ = some u0_3 ∧ w'.cell? ⟨W_4.heap.size, 0, none⟩ = some (.string y0.label) ∧ w'.cell? ⟨W_4.heap.size, 1, none⟩ = some (.int .i64 y0.kind) ∧ w'.cell? ⟨W_4.heap.size, 2, none⟩ = some (.int .i64 y0.value) ∧ w'.cell? ⟨W_4.heap.size, 3, none⟩ = some (.slice A_x0_3 n_x0_3 c_x0_3)) (first | exact ⟨x_aE_0, x_aE_1, x_aE_2, x_aE_3, x_x0_0, x_x0_1, x_x0_2, x_x0_3⟩ | exact ⟨x_aE_0_6, x_aE_1_6, x_aE_2_6, x_aE_3_6, x_x0_0_6, x_x0_1_6, x_x0_2_6, x_x0_3_6⟩ | exact ⟨x_aE_0_7, x_aE_1_7, x_aE_2_7, x_aE_3_7, x_x0_0_7, x_x0_1_7, x_x0_2_7, x_x0_3_7⟩) ((first
    | (go_at_call 29; (with_reducible refine (toEntry_any [u0_0, u0_1, u0_2, u0_3] y0 W_5.drew HD_aE.out (by omega)).mono ?_); rintro e W_6 ⟨cs__t1, rfl, hown, hb⟩; obtain ⟨A__t1_3, n__t1_3, c__t1_3, rfl⟩ := REntry_shape hown.rd; have HO__t1_6 := Lib.hid (hown); have HB_5 := Lib.hid (below_drew hb); have HZ_5 := Lib.hid HB_5.out.size; have HA_6 := Lib.hid (HA_5.out.trans (HB_5.out.mono HA_5.out.size)); have HO_aE_6 := Lib.hid (REntry.keep HO_aE_5.out fun i hi => HB_5.out.block i (Nat.lt_of_lt_of_le hi HA_5.out.size)); have HO_x0_6 := Lib.hid (HO_x0_5.out.below HB_5.out (Nat.le_trans HT_4.out HZ_4.out)); have HX_aE_6 := Lib.hid (HX_aE_5.out.below HB_5.out HX_aE_5.out.lt); have HX_x0_6 := Lib.hid (HX_x0_5.out.below HB_5.out HX_x0_5.out.lt); clear hb hown; have x_aE_0_6 := HX_aE_6.out.cell (j := 0) rfl; have x_aE_1_6 := HX_aE_6.out.cell (j := 1) rfl; have x_aE_2_6 := HX_aE_6.out.cell (j := 2) rfl; have x_aE_3_6 := HX_aE_6.out.cell (j := 3) rfl; have x_x0_0_6 := HX_x0_6.out.cell (j := 0) rfl; have x_x0_1_6 := HX_x0_6.out.cell (j := 1) rfl; have x_x0_2_6 := HX_x0_6.out.cell (j := 2) rfl; have x_x0_3_6 := HX_x0_6.out.cell (j := 3) rfl)
    | (go_at_call 30; (with_reducible refine (eqEntry_same _ _ [(.string y0.label), (.int .i64 y0.kind), (.int .i64 y0.value), (.slice A_x0_3 n_x0_3 c_x0_3)] [(.string y0.label), (.int .i64 y0.kind), (.int .i64 y0.value), (.slice A__t1_3 n__t1_3 c__t1_3)] y0 _ (REntry.more HO_x0_6.out.rd fun i hi => Nat.lt_of_lt_of_le hi (Nat.le_trans HT_4.out (Nat.le_trans HZ_4.out HZ_5.out))) (REntry.more HO__t1_6.out.rd fun i hi => Nat.lt_of_lt_of_le hi (Nat.le_refl _)) (Nat.le_refl _) (Nat.le_refl _) (by omega)).mono ?_); rintro e W_7 ⟨rfl, hb⟩; have HB_6 := Lib.hid hb; have HZ_6 := Lib.hid HB_6.out.size; have HA_7 := Lib.hid (HA_6.out.trans (HB_6.out.mono HA_6.out.size)); have HO_aE_7 := Lib.hid (REntry.keep HO_aE_6.out fun i hi => HB_6.out.block i (Nat.lt_of_lt_of_le hi HA_6.out.size)); have HO_x0_7 := Lib.hid (HO_x0_6.out.below HB_6.out (Nat.le_trans HT_4.out (Nat.le_trans HZ_4.out HZ_5.out))); have HX_aE_7 := Lib.hid (HX_aE_6.out.below HB_6.out HX_aE_6.out.lt); have HX_x0_7 := Lib.hid (HX_x0_6.out.below HB_6.out HX_x0_6.out.lt); clear hb; have x_aE_0_7 := HX_aE_7.out.cell (j := 0) rfl; have x_aE_1_7 := HX_aE_7.out.cell (j := 1) rfl; have x_aE_2_7 := HX_aE_7.out.cell (j := 2) rfl; have x_aE_3_7 := HX_aE_7.out.cell (j := 3) rfl; have x_x0_0_7 := HX_x0_7.out.cell (j := 0) rfl; have x_x0_1_7 := HX_x0_7.out.cell (j := 1) rfl; have x_x0_2_7 := HX_x0_7.out.cell (j := 2) rfl; have x_x0_3_7 := HX_x0_7.out.cell (j := 3) rfl)))
  clear x_aE_0 x_aE_1 x_aE_2 x_aE_3 x_x0_0 x_x0_1 x_x0_2 x_x0_3
  go_wp2
  go_ret
  exact ⟨rfl, HA_7.out⟩
theorem FnExactValueEntry_walk (W0 : World) (v0 : ByteArray) (hv0 : v0.size ≤ maxLen) (v1 : Int) (hv1 : (Lit.int .i64 v1).wf = true) :
    Calls Try.prog 7 #[.string v0, .int .i64 v1] W0 fun e w' => e = .returned (.bool true) ∧ Below W0.heap.size W0 w' := by
  have hV1 : -9223372036854775808 ≤ v1 ∧ v1 ≤ 9223372036854775807 := by simpa [Lit.wf, IntKind.min, IntKind.max, IntKind.signed, IntKind.bits] using hv1
  clear hv1
  by_cases hg0 : 1048576 < v0.size
  · have hg : 1048576 < (v0.size : Int) := by omega
    go_enter Try.func7, Try.ntmps7
    go_wp2
    go_ret
    exact ⟨rfl, (Below.refl _ _)⟩
  have HA_0 := Lib.hid (show Below W0.heap.size W0 W0 from Below.refl _ _)
  go_enter Try.func7, Try.ntmps7
  obtain ⟨r0, hlen0, hS, hI⟩ := both_ValueEntry v0 v1 (by omega) hV1
  have HS := Lib.hid hS
  have HI := Lib.hid hI
  clear hS hI
  have hcnt0 := cntEntry_le r0
  go_wp2_with fail
  refine (HS.out  _ ).mono ?_
  rintro e W_1 ⟨cs_w0, rfl, ho0, hb⟩
  obtain ⟨A_w0_3, n_w0_3, c_w0_3, rfl⟩ := REntry_shape ho0
  have HO_w0_1 := Lib.hid (REntry.more (REntry.keep ho0 fun i hi => Below.heap_alloc W_1 (.cells #[(.string r0.label), (.int .i64 r0.kind), (.int .i64 r0.value), (.slice A_w0_3 n_w0_3 c_w0_3)] 26) i hi) (P' := Lt (W_1.alloc (.cells #[(.string r0.label), (.int .i64 r0.kind), (.int .i64 r0.value), (.slice A_w0_3 n_w0_3 c_w0_3)] 26)).heap.size) fun i hi => Nat.lt_of_lt_of_le hi (by simp))
  have hb0 := hb.alloc hb.size (.cells #[(.string r0.label), (.int .i64 r0.kind), (.int .i64 r0.value), (.slice A_w0_3 n_w0_3 c_w0_3)] 26)
  have HB_0 := Lib.hid hb0
  have HQ_1 := Lib.hid hb.size
  have HZ_0 := Lib.hid HB_0.out.size
  have HA_1 := Lib.hid (HA_0.out.trans (HB_0.out.mono HA_0.out.size))
  clear hb ho0
  have HX_w0_1 := Lib.hid (show Box (W_1.alloc (.cells #[(.string r0.label), (.int .i64 r0.kind), (.int .i64 r0.value), (.slice A_w0_3 n_w0_3 c_w0_3)] 26)) W_1.heap.size [(.string r0.label), (.int .i64 r0.kind), (.int .i64 r0.value), (.slice A_w0_3 n_w0_3 c_w0_3)] from Box.new W_1 #[(.string r0.label), (.int .i64 r0.kind), (.int .i64 r0.value), (.slice A_w0_3 n_w0_3 c_w0_3)] 26)
  go_wp2_with fail
  refine (HI.out  _ ).mono ?_
  rintro e W_2 ⟨cs_g0, rfl, ho0, hb⟩
  obtain ⟨A_g0_3, n_g0_3, c_g0_3, rfl⟩ := REntry_shape ho0.rd
  have HO_g0_2 := Lib.hid (ho0.alloc (.cells #[(.string r0.label), (.int .i64 r0.kind), (.int .i64 r0.value), (.slice A_g0_3 n_g0_3 c_g0_3)] 26))
  have HT_2 := Lib.hid (show W_2.heap.size ≤ (W_2.alloc (.cells #[(.string r0.label), (.int .i64 r0.kind), (.int .i64 r0.value), (.slice A_g0_3 n_g0_3 c_g0_3)] 26)).heap.size by simp)
  have hb1 := hb.alloc hb.size (.cells #[(.string r0.label), (.int .i64 r0.kind), (.int .i64 r0.value), (.slice A_g0_3 n_g0_3 c_g0_3)] 26)
  have HB_1 := Lib.hid hb1
  have HQ_2 := Lib.hid hb.size
  have HZ_1 := Lib.hid HB_1.out.size
  have HA_2 := Lib.hid (HA_1.out.trans (HB_1.out.mono HA_1.out.size))
  have HO_w0_2 := Lib.hid (REntry.keep HO_w0_1.out fun i hi => HB_1.out.block i (Nat.lt_of_lt_of_le hi (Nat.le_refl _)))
  have HX_w0_2 := Lib.hid (HX_w0_1.out.below HB_1.out HX_w0_1.out.lt)
  clear hb ho0
  have HX_g0_2 := Lib.hid (show Box (W_2.alloc (.cells #[(.string r0.label), (.int .i64 r0.kind), (.int .i64 r0.value), (.slice A_g0_3 n_g0_3 c_g0_3)] 26)) W_2.heap.size [(.string r0.label), (.int .i64 r0.kind), (.int .i64 r0.value), (.slice A_g0_3 n_g0_3 c_g0_3)] from Box.new W_2 #[(.string r0.label), (.int .i64 r0.kind), (.int .i64 r0.value), (.slice A_g0_3 n_g0_3 c_g0_3)] 26)
  have x_g0_0 := HX_g0_2.out.cell (j := 0) rfl
  have x_g0_1 := HX_g0_2.out.cell (j := 1) rfl
  have x_g0_2 := HX_g0_2.out.cell (j := 2) rfl
  have x_g0_3 := HX_g0_2.out.cell (j := 3) rfl
  have x_w0_0 := HX_w0_2.out.cell (j := 0) rfl
  have x_w0_1 := HX_w0_2.out.cell (j := 1) rfl
  have x_w0_2 := HX_w0_2.out.cell (j := 2) rfl
  have x_w0_3 := HX_w0_2.out.cell (j := 3) rfl
  go_wp2_with fail
  refine (eqEntry_same _ _ [(.string r0.label), (.int .i64 r0.kind), (.int .i64 r0.value), (.slice A_g0_3 n_g0_3 c_g0_3)] [(.string r0.label), (.int .i64 r0.kind), (.int .i64 r0.value), (.slice A_w0_3 n_w0_3 c_w0_3)] r0 _ (REntry.more HO_g0_2.out.rd fun i hi => Nat.lt_of_lt_of_le hi (Nat.le_trans HT_2.out (Nat.le_refl _))) (REntry.more HO_w0_2.out fun i hi => Nat.lt_of_lt_of_le hi HZ_1.out) (Nat.le_refl _) (Nat.le_refl _) (by omega)).mono ?_
  rintro e W_3 ⟨rfl, hb⟩
  have HB_2 := Lib.hid hb
  have HZ_2 := Lib.hid HB_2.out.size
  have HA_3 := Lib.hid (HA_2.out.trans (HB_2.out.mono HA_2.out.size))
  have HO_w0_3 := Lib.hid (REntry.keep HO_w0_2.out fun i hi => HB_2.out.block i (Nat.lt_of_lt_of_le hi HZ_1.out))
  have HO_g0_3 := Lib.hid (HO_g0_2.out.below HB_2.out (Nat.le_trans HT_2.out (Nat.le_refl _)))
  have HX_w0_3 := Lib.hid (HX_w0_2.out.below HB_2.out HX_w0_2.out.lt)
  have HX_g0_3 := Lib.hid (HX_g0_2.out.below HB_2.out HX_g0_2.out.lt)
  clear hb
  clear x_g0_0 x_g0_1 x_g0_2 x_g0_3 x_w0_0 x_w0_1 x_w0_2 x_w0_3
  have x_g0_0 := HX_g0_3.out.cell (j := 0) rfl
  have x_g0_1 := HX_g0_3.out.cell (j := 1) rfl
  have x_g0_2 := HX_g0_3.out.cell (j := 2) rfl
  have x_g0_3 := HX_g0_3.out.cell (j := 3) rfl
  go_wp2_with fail
  refine (markEntry_any _ _ [(.string r0.label), (.int .i64 r0.kind), (.int .i64 r0.value), (.slice A_g0_3 n_g0_3 c_g0_3)] r0 1 _ HO_g0_3.out (Nat.le_trans HT_2.out HZ_2.out) (by omega) (by omega) (by omega)).mono ?_
  rintro e W_4 ⟨rfl, hown, hb⟩
  have HO_g0_4 := Lib.hid hown
  clear hown
  have HB_3 := Lib.hid hb
  have HZ_3 := Lib.hid HB_3.out.size
  have HA_4 := Lib.hid (HA_3.out.trans (HB_3.out.below HA_1.out.size HA_3.out.size))
  have HO_w0_4 := Lib.hid (REntry.keep HO_w0_3.out fun i hi => HB_3.out.block i (Nat.lt_of_lt_of_le hi (Nat.le_trans HZ_1.out HZ_2.out)) (.inl (Nat.lt_of_lt_of_le hi (Nat.le_refl _))))
  have HX_w0_4 := Lib.hid (HX_w0_3.out.keep (HB_3.out.block _ HX_w0_3.out.lt (.inl (Nat.lt_of_lt_of_le HX_w0_1.out.lt (Nat.le_refl _)))))
  have HX_g0_4 := Lib.hid (HX_g0_3.out.keep (HB_3.out.block _ HX_g0_3.out.lt (.inr (Nat.le_refl _))))
  clear hb
  clear x_g0_0 x_g0_1 x_g0_2 x_g0_3
  have x_g0_0 := HX_g0_4.out.cell (j := 0) rfl
  have x_g0_1 := HX_g0_4.out.cell (j := 1) rfl
  have x_g0_2 := HX_g0_4.out.cell (j := 2) rfl
  have x_g0_3 := HX_g0_4.out.cell (j := 3) rfl
  go_wp2_with fail
  refine (heldEntry_marks _ [(.string r0.label), (.int .i64 r0.kind), (.int .i64 r0.value), (.slice A_g0_3 n_g0_3 c_g0_3)] r0 1 _ (REntry.more HO_g0_4.out.rd fun i hi => Nat.lt_of_lt_of_le hi (Nat.le_trans HT_2.out (Nat.le_trans HZ_2.out HZ_3.out))) (Nat.le_refl _) (by omega) (by omega) (by omega)).mono ?_
  rintro e W_5 ⟨rfl, hb⟩
  have HB_4 := Lib.hid hb
  have HZ_4 := Lib.hid HB_4.out.size
  have HA_5 := Lib.hid (HA_4.out.trans (HB_4.out.mono HA_4.out.size))
  have HO_w0_5 := Lib.hid (REntry.keep HO_w0_4.out fun i hi => HB_4.out.block i (Nat.lt_of_lt_of_le hi (Nat.le_trans (Nat.le_trans HZ_1.out HZ_2.out) HZ_3.out)))
  have HO_g0_5 := Lib.hid (HO_g0_4.out.below HB_4.out (Nat.le_trans HT_2.out (Nat.le_trans HZ_2.out HZ_3.out)))
  have HX_w0_5 := Lib.hid (HX_w0_4.out.below HB_4.out HX_w0_4.out.lt)
  have HX_g0_5 := Lib.hid (HX_g0_4.out.below HB_4.out HX_g0_4.out.lt)
  clear hb
  clear x_g0_0 x_g0_1 x_g0_2 x_g0_3
  go_wp2_with fail
  refine (HI.out  _ ).mono ?_
  rintro e W_6 ⟨cs_h0, rfl, ho0, hb⟩
  obtain ⟨A_h0_3, n_h0_3, c_h0_3, rfl⟩ := REntry_shape ho0.rd
  have HO_h0_6 := Lib.hid (ho0.alloc (.cells #[(.string r0.label), (.int .i64 r0.kind), (.int .i64 r0.value), (.slice A_h0_3 n_h0_3 c_h0_3)] 26))
  have HT_6 := Lib.hid (show W_6.heap.size ≤ (W_6.alloc (.cells #[(.string r0.label), (.int .i64 r0.kind), (.int .i64 r0.value), (.slice A_h0_3 n_h0_3 c_h0_3)] 26)).heap.size by simp)
  have hb5 := hb.alloc hb.size (.cells #[(.string r0.label), (.int .i64 r0.kind), (.int .i64 r0.value), (.slice A_h0_3 n_h0_3 c_h0_3)] 26)
  have HB_5 := Lib.hid hb5
  have HQ_6 := Lib.hid hb.size
  have HZ_5 := Lib.hid HB_5.out.size
  have HA_6 := Lib.hid (HA_5.out.trans (HB_5.out.mono HA_5.out.size))
  have HO_w0_6 := Lib.hid (REntry.keep HO_w0_5.out fun i hi => HB_5.out.block i (Nat.lt_of_lt_of_le hi (Nat.le_trans (Nat.le_trans (Nat.le_trans HZ_1.out HZ_2.out) HZ_3.out) HZ_4.out)))
  have HO_g0_6 := Lib.hid (HO_g0_5.out.below HB_5.out (Nat.le_trans HT_2.out (Nat.le_trans (Nat.le_trans HZ_2.out HZ_3.out) HZ_4.out)))
  have HX_w0_6 := Lib.hid (HX_w0_5.out.below HB_5.out HX_w0_5.out.lt)
  have HX_g0_6 := Lib.hid (HX_g0_5.out.below HB_5.out HX_g0_5.out.lt)
  clear hb ho0
  have HX_h0_6 := Lib.hid (show Box (W_6.alloc (.cells #[(.string r0.label), (.int .i64 r0.kind), (.int .i64 r0.value), (.slice A_h0_3 n_h0_3 c_h0_3)] 26)) W_6.heap.size [(.string r0.label), (.int .i64 r0.kind), (.int .i64 r0.value), (.slice A_h0_3 n_h0_3 c_h0_3)] from Box.new W_6 #[(.string r0.label), (.int .i64 r0.kind), (.int .i64 r0.value), (.slice A_h0_3 n_h0_3 c_h0_3)] 26)
  have x_h0_0 := HX_h0_6.out.cell (j := 0) rfl
  have x_h0_1 := HX_h0_6.out.cell (j := 1) rfl
  have x_h0_2 := HX_h0_6.out.cell (j := 2) rfl
  have x_h0_3 := HX_h0_6.out.cell (j := 3) rfl
  have x_w0_0 := HX_w0_6.out.cell (j := 0) rfl
  have x_w0_1 := HX_w0_6.out.cell (j := 1) rfl
  have x_w0_2 := HX_w0_6.out.cell (j := 2) rfl
  have x_w0_3 := HX_w0_6.out.cell (j := 3) rfl
  go_wp2_with fail
  refine (eqEntry_same _ _ [(.string r0.label), (.int .i64 r0.kind), (.int .i64 r0.value), (.slice A_h0_3 n_h0_3 c_h0_3)] [(.string r0.label), (.int .i64 r0.kind), (.int .i64 r0.value), (.slice A_w0_3 n_w0_3 c_w0_3)] r0 _ (REntry.more HO_h0_6.out.rd fun i hi => Nat.lt_of_lt_of_le hi (Nat.le_trans HT_6.out (Nat.le_refl _))) (REntry.more HO_w0_6.out fun i hi => Nat.lt_of_lt_of_le hi (Nat.le_trans (Nat.le_trans (Nat.le_trans (Nat.le_trans HZ_1.out HZ_2.out) HZ_3.out) HZ_4.out) HZ_5.out)) (Nat.le_refl _) (Nat.le_refl _) (by omega)).mono ?_
  rintro e W_7 ⟨rfl, hb⟩
  have HB_6 := Lib.hid hb
  have HZ_6 := Lib.hid HB_6.out.size
  have HA_7 := Lib.hid (HA_6.out.trans (HB_6.out.mono HA_6.out.size))
  have HO_g0_7 := Lib.hid (HO_g0_6.out.below HB_6.out (Nat.le_trans HT_2.out (Nat.le_trans (Nat.le_trans (Nat.le_trans HZ_2.out HZ_3.out) HZ_4.out) HZ_5.out)))
  have HX_g0_7 := Lib.hid (HX_g0_6.out.below HB_6.out HX_g0_6.out.lt)
  clear hb
  clear x_h0_0 x_h0_1 x_h0_2 x_h0_3 x_w0_0 x_w0_1 x_w0_2 x_w0_3
  have x_g0_0 := HX_g0_7.out.cell (j := 0) rfl
  have x_g0_1 := HX_g0_7.out.cell (j := 1) rfl
  have x_g0_2 := HX_g0_7.out.cell (j := 2) rfl
  have x_g0_3 := HX_g0_7.out.cell (j := 3) rfl
  go_wp2_with fail
  refine (heldEntry_marks _ [(.string r0.label), (.int .i64 r0.kind), (.int .i64 r0.value), (.slice A_g0_3 n_g0_3 c_g0_3)] r0 1 _ (REntry.more HO_g0_7.out.rd fun i hi => Nat.lt_of_lt_of_le hi (Nat.le_trans HT_2.out (Nat.le_trans (Nat.le_trans (Nat.le_trans (Nat.le_trans HZ_2.out HZ_3.out) HZ_4.out) HZ_5.out) HZ_6.out))) (Nat.le_refl _) (by omega) (by omega) (by omega)).mono ?_
  rintro e W_8 ⟨rfl, hb⟩
  have HB_7 := Lib.hid hb
  have HZ_7 := Lib.hid HB_7.out.size
  have HA_8 := Lib.hid (HA_7.out.trans (HB_7.out.mono HA_7.out.size))
  clear hb
  clear x_g0_0 x_g0_1 x_g0_2 x_g0_3
  go_wp2
  go_ret
  exact ⟨rfl, HA_8.out⟩
theorem FnExactZoneEntry_walk (W0 : World) (v0 : ByteArray) (hv0 : v0.size ≤ maxLen) (v1 : Int) (hv1 : (Lit.int .i64 v1).wf = true) :
    Calls Try.prog 8 #[.string v0, .int .i64 v1] W0 fun e w' => e = .returned (.bool true) ∧ Below W0.heap.size W0 w' := by
  have hV1 : -9223372036854775808 ≤ v1 ∧ v1 ≤ 9223372036854775807 := by simpa [Lit.wf, IntKind.min, IntKind.max, IntKind.signed, IntKind.bits] using hv1
  clear hv1
  by_cases hg0 : 1048576 < v0.size
  · have hg : 1048576 < (v0.size : Int) := by omega
    go_enter Try.func8, Try.ntmps8
    go_wp2
    go_ret
    exact ⟨rfl, (Below.refl _ _)⟩
  have HA_0 := Lib.hid (show Below W0.heap.size W0 W0 from Below.refl _ _)
  go_enter Try.func8, Try.ntmps8
  obtain ⟨r0, hlen0, hS, hI⟩ := both_ZoneEntry v0 v1 (by omega) hV1
  have HS := Lib.hid hS
  have HI := Lib.hid hI
  clear hS hI
  have hcnt0 := cntEntry_le r0
  go_wp2_with fail
  refine (HS.out  _ ).mono ?_
  rintro e W_1 ⟨cs_w0, rfl, ho0, hb⟩
  obtain ⟨A_w0_3, n_w0_3, c_w0_3, rfl⟩ := REntry_shape ho0
  have HO_w0_1 := Lib.hid (REntry.more (REntry.keep ho0 fun i hi => Below.heap_alloc W_1 (.cells #[(.string r0.label), (.int .i64 r0.kind), (.int .i64 r0.value), (.slice A_w0_3 n_w0_3 c_w0_3)] 26) i hi) (P' := Lt (W_1.alloc (.cells #[(.string r0.label), (.int .i64 r0.kind), (.int .i64 r0.value), (.slice A_w0_3 n_w0_3 c_w0_3)] 26)).heap.size) fun i hi => Nat.lt_of_lt_of_le hi (by simp))
  have hb0 := hb.alloc hb.size (.cells #[(.string r0.label), (.int .i64 r0.kind), (.int .i64 r0.value), (.slice A_w0_3 n_w0_3 c_w0_3)] 26)
  have HB_0 := Lib.hid hb0
  have HQ_1 := Lib.hid hb.size
  have HZ_0 := Lib.hid HB_0.out.size
  have HA_1 := Lib.hid (HA_0.out.trans (HB_0.out.mono HA_0.out.size))
  clear hb ho0
  have HX_w0_1 := Lib.hid (show Box (W_1.alloc (.cells #[(.string r0.label), (.int .i64 r0.kind), (.int .i64 r0.value), (.slice A_w0_3 n_w0_3 c_w0_3)] 26)) W_1.heap.size [(.string r0.label), (.int .i64 r0.kind), (.int .i64 r0.value), (.slice A_w0_3 n_w0_3 c_w0_3)] from Box.new W_1 #[(.string r0.label), (.int .i64 r0.kind), (.int .i64 r0.value), (.slice A_w0_3 n_w0_3 c_w0_3)] 26)
  go_wp2_with fail
  refine (HI.out  _ ).mono ?_
  rintro e W_2 ⟨cs_g0, rfl, ho0, hb⟩
  obtain ⟨A_g0_3, n_g0_3, c_g0_3, rfl⟩ := REntry_shape ho0.rd
  have HO_g0_2 := Lib.hid (ho0.alloc (.cells #[(.string r0.label), (.int .i64 r0.kind), (.int .i64 r0.value), (.slice A_g0_3 n_g0_3 c_g0_3)] 26))
  have HT_2 := Lib.hid (show W_2.heap.size ≤ (W_2.alloc (.cells #[(.string r0.label), (.int .i64 r0.kind), (.int .i64 r0.value), (.slice A_g0_3 n_g0_3 c_g0_3)] 26)).heap.size by simp)
  have hb1 := hb.alloc hb.size (.cells #[(.string r0.label), (.int .i64 r0.kind), (.int .i64 r0.value), (.slice A_g0_3 n_g0_3 c_g0_3)] 26)
  have HB_1 := Lib.hid hb1
  have HQ_2 := Lib.hid hb.size
  have HZ_1 := Lib.hid HB_1.out.size
  have HA_2 := Lib.hid (HA_1.out.trans (HB_1.out.mono HA_1.out.size))
  have HO_w0_2 := Lib.hid (REntry.keep HO_w0_1.out fun i hi => HB_1.out.block i (Nat.lt_of_lt_of_le hi (Nat.le_refl _)))
  have HX_w0_2 := Lib.hid (HX_w0_1.out.below HB_1.out HX_w0_1.out.lt)
  clear hb ho0
  have HX_g0_2 := Lib.hid (show Box (W_2.alloc (.cells #[(.string r0.label), (.int .i64 r0.kind), (.int .i64 r0.value), (.slice A_g0_3 n_g0_3 c_g0_3)] 26)) W_2.heap.size [(.string r0.label), (.int .i64 r0.kind), (.int .i64 r0.value), (.slice A_g0_3 n_g0_3 c_g0_3)] from Box.new W_2 #[(.string r0.label), (.int .i64 r0.kind), (.int .i64 r0.value), (.slice A_g0_3 n_g0_3 c_g0_3)] 26)
  have x_g0_0 := HX_g0_2.out.cell (j := 0) rfl
  have x_g0_1 := HX_g0_2.out.cell (j := 1) rfl
  have x_g0_2 := HX_g0_2.out.cell (j := 2) rfl
  have x_g0_3 := HX_g0_2.out.cell (j := 3) rfl
  have x_w0_0 := HX_w0_2.out.cell (j := 0) rfl
  have x_w0_1 := HX_w0_2.out.cell (j := 1) rfl
  have x_w0_2 := HX_w0_2.out.cell (j := 2) rfl
  have x_w0_3 := HX_w0_2.out.cell (j := 3) rfl
  go_wp2_with fail
  refine (eqEntry_same _ _ [(.string r0.label), (.int .i64 r0.kind), (.int .i64 r0.value), (.slice A_g0_3 n_g0_3 c_g0_3)] [(.string r0.label), (.int .i64 r0.kind), (.int .i64 r0.value), (.slice A_w0_3 n_w0_3 c_w0_3)] r0 _ (REntry.more HO_g0_2.out.rd fun i hi => Nat.lt_of_lt_of_le hi (Nat.le_trans HT_2.out (Nat.le_refl _))) (REntry.more HO_w0_2.out fun i hi => Nat.lt_of_lt_of_le hi HZ_1.out) (Nat.le_refl _) (Nat.le_refl _) (by omega)).mono ?_
  rintro e W_3 ⟨rfl, hb⟩
  have HB_2 := Lib.hid hb
  have HZ_2 := Lib.hid HB_2.out.size
  have HA_3 := Lib.hid (HA_2.out.trans (HB_2.out.mono HA_2.out.size))
  have HO_w0_3 := Lib.hid (REntry.keep HO_w0_2.out fun i hi => HB_2.out.block i (Nat.lt_of_lt_of_le hi HZ_1.out))
  have HO_g0_3 := Lib.hid (HO_g0_2.out.below HB_2.out (Nat.le_trans HT_2.out (Nat.le_refl _)))
  have HX_w0_3 := Lib.hid (HX_w0_2.out.below HB_2.out HX_w0_2.out.lt)
  have HX_g0_3 := Lib.hid (HX_g0_2.out.below HB_2.out HX_g0_2.out.lt)
  clear hb
  clear x_g0_0 x_g0_1 x_g0_2 x_g0_3 x_w0_0 x_w0_1 x_w0_2 x_w0_3
  have x_g0_0 := HX_g0_3.out.cell (j := 0) rfl
  have x_g0_1 := HX_g0_3.out.cell (j := 1) rfl
  have x_g0_2 := HX_g0_3.out.cell (j := 2) rfl
  have x_g0_3 := HX_g0_3.out.cell (j := 3) rfl
  go_wp2_with fail
  refine (markEntry_any _ _ [(.string r0.label), (.int .i64 r0.kind), (.int .i64 r0.value), (.slice A_g0_3 n_g0_3 c_g0_3)] r0 1 _ HO_g0_3.out (Nat.le_trans HT_2.out HZ_2.out) (by omega) (by omega) (by omega)).mono ?_
  rintro e W_4 ⟨rfl, hown, hb⟩
  have HO_g0_4 := Lib.hid hown
  clear hown
  have HB_3 := Lib.hid hb
  have HZ_3 := Lib.hid HB_3.out.size
  have HA_4 := Lib.hid (HA_3.out.trans (HB_3.out.below HA_1.out.size HA_3.out.size))
  have HO_w0_4 := Lib.hid (REntry.keep HO_w0_3.out fun i hi => HB_3.out.block i (Nat.lt_of_lt_of_le hi (Nat.le_trans HZ_1.out HZ_2.out)) (.inl (Nat.lt_of_lt_of_le hi (Nat.le_refl _))))
  have HX_w0_4 := Lib.hid (HX_w0_3.out.keep (HB_3.out.block _ HX_w0_3.out.lt (.inl (Nat.lt_of_lt_of_le HX_w0_1.out.lt (Nat.le_refl _)))))
  have HX_g0_4 := Lib.hid (HX_g0_3.out.keep (HB_3.out.block _ HX_g0_3.out.lt (.inr (Nat.le_refl _))))
  clear hb
  clear x_g0_0 x_g0_1 x_g0_2 x_g0_3
  have x_g0_0 := HX_g0_4.out.cell (j := 0) rfl
  have x_g0_1 := HX_g0_4.out.cell (j := 1) rfl
  have x_g0_2 := HX_g0_4.out.cell (j := 2) rfl
  have x_g0_3 := HX_g0_4.out.cell (j := 3) rfl
  go_wp2_with fail
  refine (heldEntry_marks _ [(.string r0.label), (.int .i64 r0.kind), (.int .i64 r0.value), (.slice A_g0_3 n_g0_3 c_g0_3)] r0 1 _ (REntry.more HO_g0_4.out.rd fun i hi => Nat.lt_of_lt_of_le hi (Nat.le_trans HT_2.out (Nat.le_trans HZ_2.out HZ_3.out))) (Nat.le_refl _) (by omega) (by omega) (by omega)).mono ?_
  rintro e W_5 ⟨rfl, hb⟩
  have HB_4 := Lib.hid hb
  have HZ_4 := Lib.hid HB_4.out.size
  have HA_5 := Lib.hid (HA_4.out.trans (HB_4.out.mono HA_4.out.size))
  have HO_w0_5 := Lib.hid (REntry.keep HO_w0_4.out fun i hi => HB_4.out.block i (Nat.lt_of_lt_of_le hi (Nat.le_trans (Nat.le_trans HZ_1.out HZ_2.out) HZ_3.out)))
  have HO_g0_5 := Lib.hid (HO_g0_4.out.below HB_4.out (Nat.le_trans HT_2.out (Nat.le_trans HZ_2.out HZ_3.out)))
  have HX_w0_5 := Lib.hid (HX_w0_4.out.below HB_4.out HX_w0_4.out.lt)
  have HX_g0_5 := Lib.hid (HX_g0_4.out.below HB_4.out HX_g0_4.out.lt)
  clear hb
  clear x_g0_0 x_g0_1 x_g0_2 x_g0_3
  go_wp2_with fail
  refine (HI.out  _ ).mono ?_
  rintro e W_6 ⟨cs_h0, rfl, ho0, hb⟩
  obtain ⟨A_h0_3, n_h0_3, c_h0_3, rfl⟩ := REntry_shape ho0.rd
  have HO_h0_6 := Lib.hid (ho0.alloc (.cells #[(.string r0.label), (.int .i64 r0.kind), (.int .i64 r0.value), (.slice A_h0_3 n_h0_3 c_h0_3)] 26))
  have HT_6 := Lib.hid (show W_6.heap.size ≤ (W_6.alloc (.cells #[(.string r0.label), (.int .i64 r0.kind), (.int .i64 r0.value), (.slice A_h0_3 n_h0_3 c_h0_3)] 26)).heap.size by simp)
  have hb5 := hb.alloc hb.size (.cells #[(.string r0.label), (.int .i64 r0.kind), (.int .i64 r0.value), (.slice A_h0_3 n_h0_3 c_h0_3)] 26)
  have HB_5 := Lib.hid hb5
  have HQ_6 := Lib.hid hb.size
  have HZ_5 := Lib.hid HB_5.out.size
  have HA_6 := Lib.hid (HA_5.out.trans (HB_5.out.mono HA_5.out.size))
  have HO_w0_6 := Lib.hid (REntry.keep HO_w0_5.out fun i hi => HB_5.out.block i (Nat.lt_of_lt_of_le hi (Nat.le_trans (Nat.le_trans (Nat.le_trans HZ_1.out HZ_2.out) HZ_3.out) HZ_4.out)))
  have HO_g0_6 := Lib.hid (HO_g0_5.out.below HB_5.out (Nat.le_trans HT_2.out (Nat.le_trans (Nat.le_trans HZ_2.out HZ_3.out) HZ_4.out)))
  have HX_w0_6 := Lib.hid (HX_w0_5.out.below HB_5.out HX_w0_5.out.lt)
  have HX_g0_6 := Lib.hid (HX_g0_5.out.below HB_5.out HX_g0_5.out.lt)
  clear hb ho0
  have HX_h0_6 := Lib.hid (show Box (W_6.alloc (.cells #[(.string r0.label), (.int .i64 r0.kind), (.int .i64 r0.value), (.slice A_h0_3 n_h0_3 c_h0_3)] 26)) W_6.heap.size [(.string r0.label), (.int .i64 r0.kind), (.int .i64 r0.value), (.slice A_h0_3 n_h0_3 c_h0_3)] from Box.new W_6 #[(.string r0.label), (.int .i64 r0.kind), (.int .i64 r0.value), (.slice A_h0_3 n_h0_3 c_h0_3)] 26)
  have x_h0_0 := HX_h0_6.out.cell (j := 0) rfl
  have x_h0_1 := HX_h0_6.out.cell (j := 1) rfl
  have x_h0_2 := HX_h0_6.out.cell (j := 2) rfl
  have x_h0_3 := HX_h0_6.out.cell (j := 3) rfl
  have x_w0_0 := HX_w0_6.out.cell (j := 0) rfl
  have x_w0_1 := HX_w0_6.out.cell (j := 1) rfl
  have x_w0_2 := HX_w0_6.out.cell (j := 2) rfl
  have x_w0_3 := HX_w0_6.out.cell (j := 3) rfl
  go_wp2_with fail
  refine (eqEntry_same _ _ [(.string r0.label), (.int .i64 r0.kind), (.int .i64 r0.value), (.slice A_h0_3 n_h0_3 c_h0_3)] [(.string r0.label), (.int .i64 r0.kind), (.int .i64 r0.value), (.slice A_w0_3 n_w0_3 c_w0_3)] r0 _ (REntry.more HO_h0_6.out.rd fun i hi => Nat.lt_of_lt_of_le hi (Nat.le_trans HT_6.out (Nat.le_refl _))) (REntry.more HO_w0_6.out fun i hi => Nat.lt_of_lt_of_le hi (Nat.le_trans (Nat.le_trans (Nat.le_trans (Nat.le_trans HZ_1.out HZ_2.out) HZ_3.out) HZ_4.out) HZ_5.out)) (Nat.le_refl _) (Nat.le_refl _) (by omega)).mono ?_
  rintro e W_7 ⟨rfl, hb⟩
  have HB_6 := Lib.hid hb
  have HZ_6 := Lib.hid HB_6.out.size
  have HA_7 := Lib.hid (HA_6.out.trans (HB_6.out.mono HA_6.out.size))
  have HO_g0_7 := Lib.hid (HO_g0_6.out.below HB_6.out (Nat.le_trans HT_2.out (Nat.le_trans (Nat.le_trans (Nat.le_trans HZ_2.out HZ_3.out) HZ_4.out) HZ_5.out)))
  have HX_g0_7 := Lib.hid (HX_g0_6.out.below HB_6.out HX_g0_6.out.lt)
  clear hb
  clear x_h0_0 x_h0_1 x_h0_2 x_h0_3 x_w0_0 x_w0_1 x_w0_2 x_w0_3
  have x_g0_0 := HX_g0_7.out.cell (j := 0) rfl
  have x_g0_1 := HX_g0_7.out.cell (j := 1) rfl
  have x_g0_2 := HX_g0_7.out.cell (j := 2) rfl
  have x_g0_3 := HX_g0_7.out.cell (j := 3) rfl
  go_wp2_with fail
  refine (heldEntry_marks _ [(.string r0.label), (.int .i64 r0.kind), (.int .i64 r0.value), (.slice A_g0_3 n_g0_3 c_g0_3)] r0 1 _ (REntry.more HO_g0_7.out.rd fun i hi => Nat.lt_of_lt_of_le hi (Nat.le_trans HT_2.out (Nat.le_trans (Nat.le_trans (Nat.le_trans (Nat.le_trans HZ_2.out HZ_3.out) HZ_4.out) HZ_5.out) HZ_6.out))) (Nat.le_refl _) (by omega) (by omega) (by omega)).mono ?_
  rintro e W_8 ⟨rfl, hb⟩
  have HB_7 := Lib.hid hb
  have HZ_7 := Lib.hid HB_7.out.size
  have HA_8 := Lib.hid (HA_7.out.trans (HB_7.out.mono HA_7.out.size))
  clear hb
  clear x_g0_0 x_g0_1 x_g0_2 x_g0_3
  go_wp2
  go_ret
  exact ⟨rfl, HA_8.out⟩
theorem FnExactMovedEntry_walk (W0 : World) (v0 : ByteArray) (hv0 : v0.size ≤ maxLen) (v1 : Int) (hv1 : (Lit.int .i64 v1).wf = true) (a2 : Option Addr) (l2 c2 : Nat) (z2 : List ByteArray) (w2 : RowS W0 a2 l2 c2 z2) :
    Calls Try.prog 9 #[.string v0, .int .i64 v1, .slice a2 l2 c2] W0 fun e w' => e = .returned (.bool true) ∧ Below W0.heap.size W0 w' := by
  have hV1 : -9223372036854775808 ≤ v1 ∧ v1 ≤ 9223372036854775807 := by simpa [Lit.wf, IntKind.min, IntKind.max, IntKind.signed, IntKind.bits] using hv1
  clear hv1
  have hR2 := rdS_of_row w2
  have hC2 := rowS_cap w2
  have hM2 := rowS_le w2
  have hL2 := hR2.len
  generalize z2.take l2 = y2 at hR2 hL2
  clear w2
  by_cases hg0 : 1048576 < v0.size
  · have hg : 1048576 < (v0.size : Int) := by omega
    clear hR2 hL2 hC2 hM2
    go_enter Try.func9, Try.ntmps9
    go_wp2
    go_ret
    exact ⟨rfl, (Below.refl _ _)⟩
  have HA_0 := Lib.hid (show Below W0.heap.size W0 W0 from Below.refl _ _)
  have HO_aPath_0 := Lib.hid (hR2.below HA_0.out (Nat.le_refl _))
  have HC2 := Lib.hid hC2
  clear hR2
  go_enter Try.func9, Try.ntmps9
  by_cases hn_aPath : 1048576 < (totSS y2 : Int)
  · have HN := Lib.hid hn_aPath
    clear hn_aPath
    go_wp2_with fail
    refine (szStrS_any _ a2 l2 c2 y2 1048576 _ (HO_aPath_0.out.more HA_0.out.size) (by omega) (by omega) hM2).mono ?_
    rw [if_pos HN.out]
    rintro e W_1 ⟨rfl, rfl⟩
    go_wp2
    go_ret
    exact ⟨rfl, HA_0.out⟩
  have HN_aPath := Lib.hid hn_aPath
  clear hn_aPath
  go_wp2_with fail
  refine (szStrS_any _ a2 l2 c2 y2 1048576 _ (HO_aPath_0.out.more HA_0.out.size) (by omega) (by omega) hM2).mono ?_
  rw [if_neg (show ¬ 1048576 < (totSS y2 : Int) by have := HN_aPath.out; omega)]
  rintro e W_1 ⟨rfl, rfl⟩
  obtain ⟨qs0, hqs0⟩ : ∃ x, x = 1048576 - (totSS y2 : Int) := ⟨_, rfl⟩
  rw [← hqs0]
  have hqs0l : 0 ≤ qs0 ∧ qs0 ≤ 1048576 := by have := HN_aPath.out; omega
  have hY2 : totSS y2 ≤ 1048576 := by have h3 := HN_aPath.out; omega
  have hqs0n : l2 ≤ 1048576 := by have := HN_aPath.out; have := totSS_len y2; have := hL2; omega
  clear hqs0
  have hqs0p : ¬ qs0 < 0 := by omega
  obtain ⟨r0, hlen0, hS, hI⟩ := both_MovedEntry v0 v1 y2 (by omega) hV1 hY2
  have HS := Lib.hid hS
  have HI := Lib.hid hI
  clear hS hI
  have hcnt0 := cntEntry_le r0
  go_wp2_with fail
  refine (toStringS_any a2 l2 c2 y2 _ (HO_aPath_0.out.more HA_0.out.size) (by omega)).mono ?_
  rintro e W_1 ⟨A__t0, c__t0, rfl, hown, hb⟩
  have HO__t0_1 := Lib.hid hown
  have HB_0 := Lib.hid hb
  have HZ_0 := Lib.hid HB_0.out.size
  have HA_1 := Lib.hid (HA_0.out.trans (HB_0.out.mono HA_0.out.size))
  have HO_aPath_1 := Lib.hid (HO_aPath_0.out.below HB_0.out HA_0.out.size)
  clear hb hown
  go_wp2_with fail
  refine (HS.out A__t0 l2 c__t0 _ (HO__t0_1.out.cap.1) (HO__t0_1.out.rd.more (Nat.le_refl _))).mono ?_
  rintro e W_2 ⟨cs_w0, rfl, ho0, hb⟩
  obtain ⟨A_w0_3, n_w0_3, c_w0_3, rfl⟩ := REntry_shape ho0
  have HO_w0_2 := Lib.hid (REntry.more (REntry.keep ho0 fun i hi => Below.heap_alloc W_2 (.cells #[(.string r0.label), (.int .i64 r0.kind), (.int .i64 r0.value), (.slice A_w0_3 n_w0_3 c_w0_3)] 26) i hi) (P' := Lt (W_2.alloc (.cells #[(.string r0.label), (.int .i64 r0.kind), (.int .i64 r0.value), (.slice A_w0_3 n_w0_3 c_w0_3)] 26)).heap.size) fun i hi => Nat.lt_of_lt_of_le hi (by simp))
  have hb1 := hb.alloc hb.size (.cells #[(.string r0.label), (.int .i64 r0.kind), (.int .i64 r0.value), (.slice A_w0_3 n_w0_3 c_w0_3)] 26)
  have HB_1 := Lib.hid hb1
  have HQ_2 := Lib.hid hb.size
  have HZ_1 := Lib.hid HB_1.out.size
  have HA_2 := Lib.hid (HA_1.out.trans (HB_1.out.mono HA_1.out.size))
  have HO_aPath_2 := Lib.hid (HO_aPath_1.out.below HB_1.out HA_1.out.size)
  clear hb ho0
  have HX_w0_2 := Lib.hid (show Box (W_2.alloc (.cells #[(.string r0.label), (.int .i64 r0.kind), (.int .i64 r0.value), (.slice A_w0_3 n_w0_3 c_w0_3)] 26)) W_2.heap.size [(.string r0.label), (.int .i64 r0.kind), (.int .i64 r0.value), (.slice A_w0_3 n_w0_3 c_w0_3)] from Box.new W_2 #[(.string r0.label), (.int .i64 r0.kind), (.int .i64 r0.value), (.slice A_w0_3 n_w0_3 c_w0_3)] 26)
  go_wp2_with fail
  refine (toStringS_any a2 l2 c2 y2 _ (HO_aPath_2.out.more HA_2.out.size) (by omega)).mono ?_
  rintro e W_3 ⟨A_x2, c_x2, rfl, hown, hb⟩
  have HO_x2_3 := Lib.hid hown
  have HB_2 := Lib.hid hb
  have HZ_2 := Lib.hid HB_2.out.size
  have HA_3 := Lib.hid (HA_2.out.trans (HB_2.out.mono HA_2.out.size))
  have HO_aPath_3 := Lib.hid (HO_aPath_2.out.below HB_2.out HA_2.out.size)
  have HO_w0_3 := Lib.hid (REntry.keep HO_w0_2.out fun i hi => HB_2.out.block i (Nat.lt_of_lt_of_le hi (Nat.le_refl _)))
  have HX_w0_3 := Lib.hid (HX_w0_2.out.below HB_2.out HX_w0_2.out.lt)
  clear hb hown
  go_wp2_with fail
  refine (HI.out A_x2 l2 c_x2 _ (HO_x2_3.out.cap.1) (HO_x2_3.out.rd.more (Nat.le_refl _))).mono ?_
  rintro e W_4 ⟨cs_g0, rfl, ho0, hb⟩
  obtain ⟨A_g0_3, n_g0_3, c_g0_3, rfl⟩ := REntry_shape ho0.rd
  have HO_g0_4 := Lib.hid (ho0.alloc (.cells #[(.string r0.label), (.int .i64 r0.kind), (.int .i64 r0.value), (.slice A_g0_3 n_g0_3 c_g0_3)] 26))
  have HT_4 := Lib.hid (show W_4.heap.size ≤ (W_4.alloc (.cells #[(.string r0.label), (.int .i64 r0.kind), (.int .i64 r0.value), (.slice A_g0_3 n_g0_3 c_g0_3)] 26)).heap.size by simp)
  have hb3 := hb.alloc hb.size (.cells #[(.string r0.label), (.int .i64 r0.kind), (.int .i64 r0.value), (.slice A_g0_3 n_g0_3 c_g0_3)] 26)
  have HB_3 := Lib.hid hb3
  have HQ_4 := Lib.hid hb.size
  have HZ_3 := Lib.hid HB_3.out.size
  have HA_4 := Lib.hid (HA_3.out.trans (HB_3.out.mono HA_3.out.size))
  have HO_aPath_4 := Lib.hid (HO_aPath_3.out.below HB_3.out HA_3.out.size)
  have HO_w0_4 := Lib.hid (REntry.keep HO_w0_3.out fun i hi => HB_3.out.block i (Nat.lt_of_lt_of_le hi HZ_2.out))
  have HO_x2_4 := Lib.hid (HO_x2_3.out.below HB_3.out (Nat.le_refl _))
  have HX_w0_4 := Lib.hid (HX_w0_3.out.below HB_3.out HX_w0_3.out.lt)
  clear hb ho0
  have HX_g0_4 := Lib.hid (show Box (W_4.alloc (.cells #[(.string r0.label), (.int .i64 r0.kind), (.int .i64 r0.value), (.slice A_g0_3 n_g0_3 c_g0_3)] 26)) W_4.heap.size [(.string r0.label), (.int .i64 r0.kind), (.int .i64 r0.value), (.slice A_g0_3 n_g0_3 c_g0_3)] from Box.new W_4 #[(.string r0.label), (.int .i64 r0.kind), (.int .i64 r0.value), (.slice A_g0_3 n_g0_3 c_g0_3)] 26)
  have x_g0_0 := HX_g0_4.out.cell (j := 0) rfl
  have x_g0_1 := HX_g0_4.out.cell (j := 1) rfl
  have x_g0_2 := HX_g0_4.out.cell (j := 2) rfl
  have x_g0_3 := HX_g0_4.out.cell (j := 3) rfl
  have x_w0_0 := HX_w0_4.out.cell (j := 0) rfl
  have x_w0_1 := HX_w0_4.out.cell (j := 1) rfl
  have x_w0_2 := HX_w0_4.out.cell (j := 2) rfl
  have x_w0_3 := HX_w0_4.out.cell (j := 3) rfl
  go_wp2_with fail
  refine (eqEntry_same _ _ [(.string r0.label), (.int .i64 r0.kind), (.int .i64 r0.value), (.slice A_g0_3 n_g0_3 c_g0_3)] [(.string r0.label), (.int .i64 r0.kind), (.int .i64 r0.value), (.slice A_w0_3 n_w0_3 c_w0_3)] r0 _ (REntry.more HO_g0_4.out.rd fun i hi => Nat.lt_of_lt_of_le hi (Nat.le_trans HT_4.out (Nat.le_refl _))) (REntry.more HO_w0_4.out fun i hi => Nat.lt_of_lt_of_le hi (Nat.le_trans HZ_2.out HZ_3.out)) (Nat.le_refl _) (Nat.le_refl _) (by omega)).mono ?_
  rintro e W_5 ⟨rfl, hb⟩
  have HB_4 := Lib.hid hb
  have HZ_4 := Lib.hid HB_4.out.size
  have HA_5 := Lib.hid (HA_4.out.trans (HB_4.out.mono HA_4.out.size))
  have HO_aPath_5 := Lib.hid (HO_aPath_4.out.below HB_4.out HA_4.out.size)
  have HO_w0_5 := Lib.hid (REntry.keep HO_w0_4.out fun i hi => HB_4.out.block i (Nat.lt_of_lt_of_le hi (Nat.le_trans HZ_2.out HZ_3.out)))
  have HO_x2_5 := Lib.hid (HO_x2_4.out.below HB_4.out HZ_3.out)
  have HO_g0_5 := Lib.hid (HO_g0_4.out.below HB_4.out (Nat.le_trans HT_4.out (Nat.le_refl _)))
  have HX_w0_5 := Lib.hid (HX_w0_4.out.below HB_4.out HX_w0_4.out.lt)
  have HX_g0_5 := Lib.hid (HX_g0_4.out.below HB_4.out HX_g0_4.out.lt)
  clear hb
  clear x_g0_0 x_g0_1 x_g0_2 x_g0_3 x_w0_0 x_w0_1 x_w0_2 x_w0_3
  go_wp2_with fail
  refine (toStringS_any a2 l2 c2 y2 _ (HO_aPath_5.out.more HA_5.out.size) (by omega)).mono ?_
  rintro e W_6 ⟨A__t1, c__t1, rfl, hown, hb⟩
  have HO__t1_6 := Lib.hid hown
  have HB_5 := Lib.hid hb
  have HZ_5 := Lib.hid HB_5.out.size
  have HA_6 := Lib.hid (HA_5.out.trans (HB_5.out.mono HA_5.out.size))
  have HO_aPath_6 := Lib.hid (HO_aPath_5.out.below HB_5.out HA_5.out.size)
  have HO_w0_6 := Lib.hid (REntry.keep HO_w0_5.out fun i hi => HB_5.out.block i (Nat.lt_of_lt_of_le hi (Nat.le_trans (Nat.le_trans HZ_2.out HZ_3.out) HZ_4.out)))
  have HO_x2_6 := Lib.hid (HO_x2_5.out.below HB_5.out (Nat.le_trans HZ_3.out HZ_4.out))
  have HO_g0_6 := Lib.hid (HO_g0_5.out.below HB_5.out (Nat.le_trans HT_4.out HZ_4.out))
  have HX_w0_6 := Lib.hid (HX_w0_5.out.below HB_5.out HX_w0_5.out.lt)
  have HX_g0_6 := Lib.hid (HX_g0_5.out.below HB_5.out HX_g0_5.out.lt)
  clear hb hown
  go_wp2_with fail
  refine (eqStringS_same _ _ A_x2 A__t1 l2 c_x2 c__t1 y2 _ (HO_x2_6.out.rd.more (Nat.le_trans (Nat.le_trans HZ_3.out HZ_4.out) HZ_5.out)) (HO__t1_6.out.rd.more (Nat.le_refl _)) (by omega)).mono ?_
  rintro e W_7 ⟨rfl, hb⟩
  have HB_6 := Lib.hid hb
  have HZ_6 := Lib.hid (HB_6.out.below 0).size
  have HA_7 := Lib.hid (HA_6.out.trans (HB_6.out.below _))
  have HO_aPath_7 := Lib.hid (HO_aPath_6.out.same HB_6.out)
  have HO_w0_7 := Lib.hid (REntry.keep HO_w0_6.out fun i hi => by rw [HB_6.out.heap])
  have HO_x2_7 := Lib.hid (HO_x2_6.out.same HB_6.out)
  have HO_g0_7 := Lib.hid (HO_g0_6.out.same HB_6.out)
  have HX_w0_7 := Lib.hid (HX_w0_6.out.keep (by rw [HB_6.out.heap]))
  have HX_g0_7 := Lib.hid (HX_g0_6.out.keep (by rw [HB_6.out.heap]))
  clear hb
  go_wp2_with fail
  refine (markStringS_any _ _ A_x2 l2 c_x2 y2 1 _ HO_x2_7.out (by omega) (by omega) (by omega)).mono ?_
  rintro e W_8 ⟨rfl, hown, hb⟩
  have HO_x2_8 := Lib.hid hown
  clear hown
  have HB_7 := Lib.hid hb
  have HZ_7 := Lib.hid HB_7.out.size
  have HA_8 := Lib.hid (HA_7.out.trans (HB_7.out.below HA_2.out.size HA_7.out.size))
  have HO_aPath_8 := Lib.hid (HO_aPath_7.out.fr HB_7.out HA_2.out.size HA_7.out.size)
  have HO_w0_8 := Lib.hid (REntry.keep HO_w0_7.out fun i hi => HB_7.out.block i (Nat.lt_of_lt_of_le hi (Nat.le_trans (Nat.le_trans (Nat.le_trans (Nat.le_trans HZ_2.out HZ_3.out) HZ_4.out) HZ_5.out) HZ_6.out)) (.inl (Nat.lt_of_lt_of_le hi (Nat.le_refl _))))
  have HO_g0_8 := Lib.hid (HO_g0_7.out.fr HB_7.out (.inr (Nat.le_refl _)))
  have HX_w0_8 := Lib.hid (HX_w0_7.out.keep (HB_7.out.block _ HX_w0_7.out.lt (.inl (Nat.lt_of_lt_of_le HX_w0_2.out.lt (Nat.le_refl _)))))
  have HX_g0_8 := Lib.hid (HX_g0_7.out.keep (HB_7.out.block _ HX_g0_7.out.lt (.inr (Nat.le_trans (Nat.le_refl _) HQ_4.out))))
  clear hb
  have x_g0_0 := HX_g0_8.out.cell (j := 0) rfl
  have x_g0_1 := HX_g0_8.out.cell (j := 1) rfl
  have x_g0_2 := HX_g0_8.out.cell (j := 2) rfl
  have x_g0_3 := HX_g0_8.out.cell (j := 3) rfl
  have x_w0_0 := HX_w0_8.out.cell (j := 0) rfl
  have x_w0_1 := HX_w0_8.out.cell (j := 1) rfl
  have x_w0_2 := HX_w0_8.out.cell (j := 2) rfl
  have x_w0_3 := HX_w0_8.out.cell (j := 3) rfl
  go_wp2_with fail
  refine (eqEntry_same _ _ [(.string r0.label), (.int .i64 r0.kind), (.int .i64 r0.value), (.slice A_g0_3 n_g0_3 c_g0_3)] [(.string r0.label), (.int .i64 r0.kind), (.int .i64 r0.value), (.slice A_w0_3 n_w0_3 c_w0_3)] r0 _ (REntry.more HO_g0_8.out.rd fun i hi => Nat.lt_of_lt_of_le hi (Nat.le_trans HT_4.out (Nat.le_trans (Nat.le_trans (Nat.le_trans HZ_4.out HZ_5.out) HZ_6.out) HZ_7.out))) (REntry.more HO_w0_8.out fun i hi => Nat.lt_of_lt_of_le hi (Nat.le_trans (Nat.le_trans (Nat.le_trans (Nat.le_trans (Nat.le_trans HZ_2.out HZ_3.out) HZ_4.out) HZ_5.out) HZ_6.out) HZ_7.out)) (Nat.le_refl _) (Nat.le_refl _) (by omega)).mono ?_
  rintro e W_9 ⟨rfl, hb⟩
  have HB_8 := Lib.hid hb
  have HZ_8 := Lib.hid HB_8.out.size
  have HA_9 := Lib.hid (HA_8.out.trans (HB_8.out.mono HA_8.out.size))
  have HO_aPath_9 := Lib.hid (HO_aPath_8.out.below HB_8.out HA_8.out.size)
  have HO_w0_9 := Lib.hid (REntry.keep HO_w0_8.out fun i hi => HB_8.out.block i (Nat.lt_of_lt_of_le hi (Nat.le_trans (Nat.le_trans (Nat.le_trans (Nat.le_trans (Nat.le_trans HZ_2.out HZ_3.out) HZ_4.out) HZ_5.out) HZ_6.out) HZ_7.out)))
  have HO_g0_9 := Lib.hid (HO_g0_8.out.below HB_8.out (Nat.le_trans HT_4.out (Nat.le_trans (Nat.le_trans (Nat.le_trans HZ_4.out HZ_5.out) HZ_6.out) HZ_7.out)))
  have HX_w0_9 := Lib.hid (HX_w0_8.out.below HB_8.out HX_w0_8.out.lt)
  have HX_g0_9 := Lib.hid (HX_g0_8.out.below HB_8.out HX_g0_8.out.lt)
  clear hb
  clear x_g0_0 x_g0_1 x_g0_2 x_g0_3 x_w0_0 x_w0_1 x_w0_2 x_w0_3
  have x_g0_0 := HX_g0_9.out.cell (j := 0) rfl
  have x_g0_1 := HX_g0_9.out.cell (j := 1) rfl
  have x_g0_2 := HX_g0_9.out.cell (j := 2) rfl
  have x_g0_3 := HX_g0_9.out.cell (j := 3) rfl
  go_wp2_with fail
  refine (markEntry_any _ _ [(.string r0.label), (.int .i64 r0.kind), (.int .i64 r0.value), (.slice A_g0_3 n_g0_3 c_g0_3)] r0 1 _ HO_g0_9.out (Nat.le_trans HT_4.out (Nat.le_trans (Nat.le_trans (Nat.le_trans (Nat.le_trans HZ_4.out HZ_5.out) HZ_6.out) HZ_7.out) HZ_8.out)) (by omega) (by omega) (by omega)).mono ?_
  rintro e W_10 ⟨rfl, hown, hb⟩
  have HO_g0_10 := Lib.hid hown
  clear hown
  have HB_9 := Lib.hid hb
  have HZ_9 := Lib.hid HB_9.out.size
  have HA_10 := Lib.hid (HA_9.out.trans (HB_9.out.below HA_3.out.size HA_9.out.size))
  have HO_aPath_10 := Lib.hid (HO_aPath_9.out.fr HB_9.out HA_3.out.size HA_9.out.size)
  have HO_w0_10 := Lib.hid (REntry.keep HO_w0_9.out fun i hi => HB_9.out.block i (Nat.lt_of_lt_of_le hi (Nat.le_trans (Nat.le_trans (Nat.le_trans (Nat.le_trans (Nat.le_trans (Nat.le_trans HZ_2.out HZ_3.out) HZ_4.out) HZ_5.out) HZ_6.out) HZ_7.out) HZ_8.out)) (.inl (Nat.lt_of_lt_of_le hi HZ_2.out)))
  have HX_w0_10 := Lib.hid (HX_w0_9.out.keep (HB_9.out.block _ HX_w0_9.out.lt (.inl (Nat.lt_of_lt_of_le HX_w0_2.out.lt HZ_2.out))))
  have HX_g0_10 := Lib.hid (HX_g0_9.out.keep (HB_9.out.block _ HX_g0_9.out.lt (.inr (Nat.le_refl _))))
  clear hb
  clear x_g0_0 x_g0_1 x_g0_2 x_g0_3
  have x_g0_0 := HX_g0_10.out.cell (j := 0) rfl
  have x_g0_1 := HX_g0_10.out.cell (j := 1) rfl
  have x_g0_2 := HX_g0_10.out.cell (j := 2) rfl
  have x_g0_3 := HX_g0_10.out.cell (j := 3) rfl
  go_wp2_with fail
  refine (heldEntry_marks _ [(.string r0.label), (.int .i64 r0.kind), (.int .i64 r0.value), (.slice A_g0_3 n_g0_3 c_g0_3)] r0 1 _ (REntry.more HO_g0_10.out.rd fun i hi => Nat.lt_of_lt_of_le hi (Nat.le_trans HT_4.out (Nat.le_trans (Nat.le_trans (Nat.le_trans (Nat.le_trans (Nat.le_trans HZ_4.out HZ_5.out) HZ_6.out) HZ_7.out) HZ_8.out) HZ_9.out))) (Nat.le_refl _) (by omega) (by omega) (by omega)).mono ?_
  rintro e W_11 ⟨rfl, hb⟩
  have HB_10 := Lib.hid hb
  have HZ_10 := Lib.hid HB_10.out.size
  have HA_11 := Lib.hid (HA_10.out.trans (HB_10.out.mono HA_10.out.size))
  have HO_aPath_11 := Lib.hid (HO_aPath_10.out.below HB_10.out HA_10.out.size)
  have HO_w0_11 := Lib.hid (REntry.keep HO_w0_10.out fun i hi => HB_10.out.block i (Nat.lt_of_lt_of_le hi (Nat.le_trans (Nat.le_trans (Nat.le_trans (Nat.le_trans (Nat.le_trans (Nat.le_trans (Nat.le_trans HZ_2.out HZ_3.out) HZ_4.out) HZ_5.out) HZ_6.out) HZ_7.out) HZ_8.out) HZ_9.out)))
  have HO_g0_11 := Lib.hid (HO_g0_10.out.below HB_10.out (Nat.le_trans HT_4.out (Nat.le_trans (Nat.le_trans (Nat.le_trans (Nat.le_trans (Nat.le_trans HZ_4.out HZ_5.out) HZ_6.out) HZ_7.out) HZ_8.out) HZ_9.out)))
  have HX_w0_11 := Lib.hid (HX_w0_10.out.below HB_10.out HX_w0_10.out.lt)
  have HX_g0_11 := Lib.hid (HX_g0_10.out.below HB_10.out HX_g0_10.out.lt)
  clear hb
  clear x_g0_0 x_g0_1 x_g0_2 x_g0_3
  go_wp2_with fail
  refine (toStringS_any a2 l2 c2 y2 _ (HO_aPath_11.out.more HA_11.out.size) (by omega)).mono ?_
  rintro e W_12 ⟨A__t2, c__t2, rfl, hown, hb⟩
  have HO__t2_12 := Lib.hid hown
  have HB_11 := Lib.hid hb
  have HZ_11 := Lib.hid HB_11.out.size
  have HA_12 := Lib.hid (HA_11.out.trans (HB_11.out.mono HA_11.out.size))
  have HO_w0_12 := Lib.hid (REntry.keep HO_w0_11.out fun i hi => HB_11.out.block i (Nat.lt_of_lt_of_le hi (Nat.le_trans (Nat.le_trans (Nat.le_trans (Nat.le_trans (Nat.le_trans (Nat.le_trans (Nat.le_trans (Nat.le_trans HZ_2.out HZ_3.out) HZ_4.out) HZ_5.out) HZ_6.out) HZ_7.out) HZ_8.out) HZ_9.out) HZ_10.out)))
  have HO_g0_12 := Lib.hid (HO_g0_11.out.below HB_11.out (Nat.le_trans HT_4.out (Nat.le_trans (Nat.le_trans (Nat.le_trans (Nat.le_trans (Nat.le_trans (Nat.le_trans HZ_4.out HZ_5.out) HZ_6.out) HZ_7.out) HZ_8.out) HZ_9.out) HZ_10.out)))
  have HX_w0_12 := Lib.hid (HX_w0_11.out.below HB_11.out HX_w0_11.out.lt)
  have HX_g0_12 := Lib.hid (HX_g0_11.out.below HB_11.out HX_g0_11.out.lt)
  clear hb hown
  go_wp2_with fail
  refine (HI.out A__t2 l2 c__t2 _ (HO__t2_12.out.cap.1) (HO__t2_12.out.rd.more (Nat.le_refl _))).mono ?_
  rintro e W_13 ⟨cs_h0, rfl, ho0, hb⟩
  obtain ⟨A_h0_3, n_h0_3, c_h0_3, rfl⟩ := REntry_shape ho0.rd
  have HO_h0_13 := Lib.hid (ho0.alloc (.cells #[(.string r0.label), (.int .i64 r0.kind), (.int .i64 r0.value), (.slice A_h0_3 n_h0_3 c_h0_3)] 26))
  have HT_13 := Lib.hid (show W_13.heap.size ≤ (W_13.alloc (.cells #[(.string r0.label), (.int .i64 r0.kind), (.int .i64 r0.value), (.slice A_h0_3 n_h0_3 c_h0_3)] 26)).heap.size by simp)
  have hb12 := hb.alloc hb.size (.cells #[(.string r0.label), (.int .i64 r0.kind), (.int .i64 r0.value), (.slice A_h0_3 n_h0_3 c_h0_3)] 26)
  have HB_12 := Lib.hid hb12
  have HQ_13 := Lib.hid hb.size
  have HZ_12 := Lib.hid HB_12.out.size
  have HA_13 := Lib.hid (HA_12.out.trans (HB_12.out.mono HA_12.out.size))
  have HO_w0_13 := Lib.hid (REntry.keep HO_w0_12.out fun i hi => HB_12.out.block i (Nat.lt_of_lt_of_le hi (Nat.le_trans (Nat.le_trans (Nat.le_trans (Nat.le_trans (Nat.le_trans (Nat.le_trans (Nat.le_trans (Nat.le_trans (Nat.le_trans HZ_2.out HZ_3.out) HZ_4.out) HZ_5.out) HZ_6.out) HZ_7.out) HZ_8.out) HZ_9.out) HZ_10.out) HZ_11.out)))
  have HO_g0_13 := Lib.hid (HO_g0_12.out.below HB_12.out (Nat.le_trans HT_4.out (Nat.le_trans (Nat.le_trans (Nat.le_trans (Nat.le_trans (Nat.le_trans (Nat.le_trans (Nat.le_trans HZ_4.out HZ_5.out) HZ_6.out) HZ_7.out) HZ_8.out) HZ_9.out) HZ_10.out) HZ_11.out)))
  have HX_w0_13 := Lib.hid (HX_w0_12.out.below HB_12.out HX_w0_12.out.lt)
  have HX_g0_13 := Lib.hid (HX_g0_12.out.below HB_12.out HX_g0_12.out.lt)
  clear hb ho0
  have HX_h0_13 := Lib.hid (show Box (W_13.alloc (.cells #[(.string r0.label), (.int .i64 r0.kind), (.int .i64 r0.value), (.slice A_h0_3 n_h0_3 c_h0_3)] 26)) W_13.heap.size [(.string r0.label), (.int .i64 r0.kind), (.int .i64 r0.value), (.slice A_h0_3 n_h0_3 c_h0_3)] from Box.new W_13 #[(.string r0.label), (.int .i64 r0.kind), (.int .i64 r0.value), (.slice A_h0_3 n_h0_3 c_h0_3)] 26)
  have x_h0_0 := HX_h0_13.out.cell (j := 0) rfl
  have x_h0_1 := HX_h0_13.out.cell (j := 1) rfl
  have x_h0_2 := HX_h0_13.out.cell (j := 2) rfl
  have x_h0_3 := HX_h0_13.out.cell (j := 3) rfl
  have x_w0_0 := HX_w0_13.out.cell (j := 0) rfl
  have x_w0_1 := HX_w0_13.out.cell (j := 1) rfl
  have x_w0_2 := HX_w0_13.out.cell (j := 2) rfl
  have x_w0_3 := HX_w0_13.out.cell (j := 3) rfl
  go_wp2_with fail
  refine (eqEntry_same _ _ [(.string r0.label), (.int .i64 r0.kind), (.int .i64 r0.value), (.slice A_h0_3 n_h0_3 c_h0_3)] [(.string r0.label), (.int .i64 r0.kind), (.int .i64 r0.value), (.slice A_w0_3 n_w0_3 c_w0_3)] r0 _ (REntry.more HO_h0_13.out.rd fun i hi => Nat.lt_of_lt_of_le hi (Nat.le_trans HT_13.out (Nat.le_refl _))) (REntry.more HO_w0_13.out fun i hi => Nat.lt_of_lt_of_le hi (Nat.le_trans (Nat.le_trans (Nat.le_trans (Nat.le_trans (Nat.le_trans (Nat.le_trans (Nat.le_trans (Nat.le_trans (Nat.le_trans (Nat.le_trans HZ_2.out HZ_3.out) HZ_4.out) HZ_5.out) HZ_6.out) HZ_7.out) HZ_8.out) HZ_9.out) HZ_10.out) HZ_11.out) HZ_12.out)) (Nat.le_refl _) (Nat.le_refl _) (by omega)).mono ?_
  rintro e W_14 ⟨rfl, hb⟩
  have HB_13 := Lib.hid hb
  have HZ_13 := Lib.hid HB_13.out.size
  have HA_14 := Lib.hid (HA_13.out.trans (HB_13.out.mono HA_13.out.size))
  have HO_g0_14 := Lib.hid (HO_g0_13.out.below HB_13.out (Nat.le_trans HT_4.out (Nat.le_trans (Nat.le_trans (Nat.le_trans (Nat.le_trans (Nat.le_trans (Nat.le_trans (Nat.le_trans (Nat.le_trans HZ_4.out HZ_5.out) HZ_6.out) HZ_7.out) HZ_8.out) HZ_9.out) HZ_10.out) HZ_11.out) HZ_12.out)))
  have HX_g0_14 := Lib.hid (HX_g0_13.out.below HB_13.out HX_g0_13.out.lt)
  clear hb
  clear x_h0_0 x_h0_1 x_h0_2 x_h0_3 x_w0_0 x_w0_1 x_w0_2 x_w0_3
  have x_g0_0 := HX_g0_14.out.cell (j := 0) rfl
  have x_g0_1 := HX_g0_14.out.cell (j := 1) rfl
  have x_g0_2 := HX_g0_14.out.cell (j := 2) rfl
  have x_g0_3 := HX_g0_14.out.cell (j := 3) rfl
  go_wp2_with fail
  refine (heldEntry_marks _ [(.string r0.label), (.int .i64 r0.kind), (.int .i64 r0.value), (.slice A_g0_3 n_g0_3 c_g0_3)] r0 1 _ (REntry.more HO_g0_14.out.rd fun i hi => Nat.lt_of_lt_of_le hi (Nat.le_trans HT_4.out (Nat.le_trans (Nat.le_trans (Nat.le_trans (Nat.le_trans (Nat.le_trans (Nat.le_trans (Nat.le_trans (Nat.le_trans (Nat.le_trans HZ_4.out HZ_5.out) HZ_6.out) HZ_7.out) HZ_8.out) HZ_9.out) HZ_10.out) HZ_11.out) HZ_12.out) HZ_13.out))) (Nat.le_refl _) (by omega) (by omega) (by omega)).mono ?_
  rintro e W_15 ⟨rfl, hb⟩
  have HB_14 := Lib.hid hb
  have HZ_14 := Lib.hid HB_14.out.size
  have HA_15 := Lib.hid (HA_14.out.trans (HB_14.out.mono HA_14.out.size))
  clear hb
  clear x_g0_0 x_g0_1 x_g0_2 x_g0_3
  go_wp2
  go_ret
  exact ⟨rfl, HA_15.out⟩
theorem FnExactEqualEntries_walk (W0 : World) (u0_0 u0_1 u0_2 u0_3 : Value) (y0 : Entry) (w0 : REntry.rd W0 (Lt W0.heap.size) [u0_0, u0_1, u0_2, u0_3] y0) (u1_0 u1_1 u1_2 u1_3 : Value) (y1 : Entry) (w1 : REntry.rd W0 (Lt W0.heap.size) [u1_0, u1_1, u1_2, u1_3] y1) :
    Calls Try.prog 10 #[.agg #[u0_0, u0_1, u0_2, u0_3], .agg #[u1_0, u1_1, u1_2, u1_3]] W0 fun e w' => e = .returned (.bool true) ∧ Below W0.heap.size W0 w' := by
  have HA_0 := Lib.hid (show Below W0.heap.size W0 ((W0.alloc (.cells #[u0_0, u0_1, u0_2, u0_3] 38)).alloc (.cells #[u1_0, u1_1, u1_2, u1_3] 38)) from ((Below.refl _ _).alloc (by first | (simp; done) | (simp; omega)) _).alloc (by first | (simp; done) | (simp; omega)) _)
  have HO_aA_0 := Lib.hid (REntry.keep w0 fun i hi => HA_0.out.block i hi)
  have HX_aA_0 := Lib.hid (show Box ((W0.alloc (.cells #[u0_0, u0_1, u0_2, u0_3] 38)).alloc (.cells #[u1_0, u1_1, u1_2, u1_3] 38)) (W0.heap.size) [u0_0, u0_1, u0_2, u0_3] from (show Box (W0.alloc (.cells #[u0_0, u0_1, u0_2, u0_3] 38)) (W0.heap.size) [u0_0, u0_1, u0_2, u0_3] by have h := Box.new W0 #[u0_0, u0_1, u0_2, u0_3] 38; simpa using h).alloc _)
  have HO_aB_0 := Lib.hid (REntry.keep w1 fun i hi => HA_0.out.block i hi)
  have HX_aB_0 := Lib.hid (show Box ((W0.alloc (.cells #[u0_0, u0_1, u0_2, u0_3] 38)).alloc (.cells #[u1_0, u1_1, u1_2, u1_3] 38)) (W0.heap.size + 1) [u1_0, u1_1, u1_2, u1_3] from (show Box ((W0.alloc (.cells #[u0_0, u0_1, u0_2, u0_3] 38)).alloc (.cells #[u1_0, u1_1, u1_2, u1_3] 38)) (W0.heap.size + 1) [u1_0, u1_1, u1_2, u1_3] by have h := Box.new (W0.alloc (.cells #[u0_0, u0_1, u0_2, u0_3] 38)) #[u1_0, u1_1, u1_2, u1_3] 38; simpa using h))
  clear w0
  clear w1
  go_enter Try.func10, Try.ntmps10
  have x_aA_0 := HX_aA_0.out.cell (j := 0) rfl
  have x_aA_1 := HX_aA_0.out.cell (j := 1) rfl
  have x_aA_2 := HX_aA_0.out.cell (j := 2) rfl
  have x_aA_3 := HX_aA_0.out.cell (j := 3) rfl
  by_cases hn_aA : 1048576 < (totEntry y0 : Int)
  · have HN := Lib.hid hn_aA
    clear hn_aA
    go_wp2_with fail
    refine (szEntry_any [u0_0, u0_1, u0_2, u0_3] y0 1048576 _ (REntry.more HO_aA_0.out fun i hi => Nat.lt_of_lt_of_le hi HA_0.out.size) (by omega) (by omega)).mono ?_
    rw [if_pos HN.out]
    rintro e W_1 ⟨rfl, hb⟩
    have HAe := Lib.hid (HA_0.out.trans (hb.mono HA_0.out.size))
    clear hb
    go_wp2
    go_ret
    exact ⟨rfl, HAe.out⟩
  have hY0 : totEntry y0 ≤ 1048576 := by omega
  have HN_aA := Lib.hid hn_aA
  clear hn_aA
  go_wp2_with fail
  refine (szEntry_any [u0_0, u0_1, u0_2, u0_3] y0 1048576 _ (REntry.more HO_aA_0.out fun i hi => Nat.lt_of_lt_of_le hi HA_0.out.size) (by omega) (by omega)).mono ?_
  rw [if_neg (show ¬ 1048576 < (totEntry y0 : Int) by have := HN_aA.out; omega)]
  rintro e W_1 ⟨rfl, hb⟩
  obtain ⟨qq0, hqq0⟩ : ∃ x, x = 1048576 - (totEntry y0 : Int) := ⟨_, rfl⟩
  rw [← hqq0]
  have hqq0l : 0 ≤ qq0 ∧ qq0 ≤ 1048576 := by have := HN_aA.out; omega
  have hqq0n : ¬ qq0 < 0 := by omega
  clear hqq0
  have HB_0 := Lib.hid hb
  have HZ_0 := Lib.hid HB_0.out.size
  have HA_1 := Lib.hid (HA_0.out.trans (HB_0.out.mono HA_0.out.size))
  have HO_aA_1 := Lib.hid (REntry.keep HO_aA_0.out fun i hi => HB_0.out.block i (Nat.lt_of_lt_of_le hi HA_0.out.size))
  have HO_aB_1 := Lib.hid (REntry.keep HO_aB_0.out fun i hi => HB_0.out.block i (Nat.lt_of_lt_of_le hi HA_0.out.size))
  have HX_aA_1 := Lib.hid (HX_aA_0.out.below HB_0.out HX_aA_0.out.lt)
  have HX_aB_1 := Lib.hid (HX_aB_0.out.below HB_0.out HX_aB_0.out.lt)
  clear hb
  clear x_aA_0 x_aA_1 x_aA_2 x_aA_3
  have x_aB_0 := HX_aB_1.out.cell (j := 0) rfl
  have x_aB_1 := HX_aB_1.out.cell (j := 1) rfl
  have x_aB_2 := HX_aB_1.out.cell (j := 2) rfl
  have x_aB_3 := HX_aB_1.out.cell (j := 3) rfl
  by_cases hn_aB : qq0 < (totEntry y1 : Int)
  · have HN := Lib.hid hn_aB
    clear hn_aB
    go_wp2_with fail
    refine (szEntry_any [u1_0, u1_1, u1_2, u1_3] y1 qq0 _ (REntry.more HO_aB_1.out fun i hi => Nat.lt_of_lt_of_le hi HA_1.out.size) (by omega) (by omega)).mono ?_
    rw [if_pos HN.out]
    rintro e W_2 ⟨rfl, hb⟩
    have HAe := Lib.hid (HA_1.out.trans (hb.mono HA_1.out.size))
    clear hb
    go_wp2
    go_ret
    exact ⟨rfl, HAe.out⟩
  have hY1 : totEntry y1 ≤ 1048576 := by omega
  have HN_aB := Lib.hid hn_aB
  clear hn_aB
  go_wp2_with fail
  refine (szEntry_any [u1_0, u1_1, u1_2, u1_3] y1 qq0 _ (REntry.more HO_aB_1.out fun i hi => Nat.lt_of_lt_of_le hi HA_1.out.size) (by omega) (by omega)).mono ?_
  rw [if_neg (show ¬ qq0 < (totEntry y1 : Int) by have := HN_aB.out; omega)]
  rintro e W_2 ⟨rfl, hb⟩
  obtain ⟨qq1, hqq1⟩ : ∃ x, x = qq0 - (totEntry y1 : Int) := ⟨_, rfl⟩
  rw [← hqq1]
  have hqq1l : 0 ≤ qq1 ∧ qq1 ≤ 1048576 := by have := HN_aB.out; omega
  have hqq1n : ¬ qq1 < 0 := by omega
  clear hqq1
  have HB_1 := Lib.hid hb
  have HZ_1 := Lib.hid HB_1.out.size
  have HA_2 := Lib.hid (HA_1.out.trans (HB_1.out.mono HA_1.out.size))
  have HO_aA_2 := Lib.hid (REntry.keep HO_aA_1.out fun i hi => HB_1.out.block i (Nat.lt_of_lt_of_le hi HA_1.out.size))
  have HO_aB_2 := Lib.hid (REntry.keep HO_aB_1.out fun i hi => HB_1.out.block i (Nat.lt_of_lt_of_le hi HA_1.out.size))
  have HX_aA_2 := Lib.hid (HX_aA_1.out.below HB_1.out HX_aA_1.out.lt)
  have HX_aB_2 := Lib.hid (HX_aB_1.out.below HB_1.out HX_aB_1.out.lt)
  clear hb
  clear x_aB_0 x_aB_1 x_aB_2 x_aB_3
  have x_aA_0 := HX_aA_2.out.cell (j := 0) rfl
  have x_aA_1 := HX_aA_2.out.cell (j := 1) rfl
  have x_aA_2 := HX_aA_2.out.cell (j := 2) rfl
  have x_aA_3 := HX_aA_2.out.cell (j := 3) rfl
  have x_aB_0 := HX_aB_2.out.cell (j := 0) rfl
  have x_aB_1 := HX_aB_2.out.cell (j := 1) rfl
  have x_aB_2 := HX_aB_2.out.cell (j := 2) rfl
  have x_aB_3 := HX_aB_2.out.cell (j := 3) rfl
  have HD_aA := Lib.hid (show REntry.rd W_2.drew (Lt W_2.drew.heap.size) [u0_0, u0_1, u0_2, u0_3] y0 from REntry.keep (REntry.more HO_aA_2.out fun i hi => Nat.lt_of_lt_of_le hi HA_2.out.size) fun i _ => rfl)
  obtain ⟨r0, hS, hI⟩ := both_EqualEntries y0 y1 hY0 hY1
  have HS := Lib.hid hS
  have HI := Lib.hid hI
  clear hS hI
  have hcy0 := cntEntry_le y0
  have hcy1 := cntEntry_le y1
  go_wp2_with fail
  go_region_held3 (fun w' => w'.cell? ⟨W0.heap.size, 0, none⟩ = some u0_0 ∧ w'.cell? ⟨W0.heap.size, 1, none⟩ = some u0_1 ∧ w'.cell? ⟨W0.heap.size, 2, none⟩ = some u0_2 ∧ w'.cell? ⟨W0.heap.size, 3, none⟩ = some u0_3 ∧ w'.cell? ⟨W0.heap.size + 1, 0, none⟩ = some u1_0 ∧ w'.cell? ⟨W0.heap.size + 1, 1, none⟩ = some u1_1 ∧ w'.cell? ⟨W0.heap.size + 1, 2, none⟩ = some u1_2 ∧ w'.cell? ⟨W0.heap.size + 1, 3, none⟩ = some u1_3) (first | exact ⟨x_aA_0, x_aA_1, x_aA_2, x_aA_3, x_aB_0, x_aB_1, x_aB_2, x_aB_3⟩ | exact ⟨x_aA_0_3, x_aA_1_3, x_aA_2_3, x_aA_3_3, x_aB_0_3, x_aB_1_3, x_aB_2_3, x_aB_3_3⟩ | exact ⟨x_aA_0_4, x_aA_1_4, x_aA_2_4, x_aA_3_4, x_aB_0_4, x_aB_1_4, x_aB_2_4, x_aB_3_4⟩ | exact ⟨x_aA_0_5, x_aA_1_5, x_aA_2_5, x_aA_3_5, x_aB_0_5, x_aB_1_5, x_aB_2_5, x_aB_3_5⟩) ((first
    | (go_at_call 29; (with_reducible refine (toEntry_any [u0_0, u0_1, u0_2, u0_3] y0 W_2.drew HD_aA.out (by omega)).mono ?_); rintro e W_3 ⟨cs__t0, rfl, hown, hb⟩; obtain ⟨A__t0_3, n__t0_3, c__t0_3, rfl⟩ := REntry_shape hown.rd; have HO__t0_3 := Lib.hid (hown); have HB_2 := Lib.hid (below_drew hb); have HZ_2 := Lib.hid HB_2.out.size; have HA_3 := Lib.hid (HA_2.out.trans (HB_2.out.mono HA_2.out.size)); have HO_aA_3 := Lib.hid (REntry.keep HO_aA_2.out fun i hi => HB_2.out.block i (Nat.lt_of_lt_of_le hi HA_2.out.size)); have HO_aB_3 := Lib.hid (REntry.keep HO_aB_2.out fun i hi => HB_2.out.block i (Nat.lt_of_lt_of_le hi HA_2.out.size)); have HX_aA_3 := Lib.hid (HX_aA_2.out.below HB_2.out HX_aA_2.out.lt); have HX_aB_3 := Lib.hid (HX_aB_2.out.below HB_2.out HX_aB_2.out.lt); clear hb hown; have x_aA_0_3 := HX_aA_3.out.cell (j := 0) rfl; have x_aA_1_3 := HX_aA_3.out.cell (j := 1) rfl; have x_aA_2_3 := HX_aA_3.out.cell (j := 2) rfl; have x_aA_3_3 := HX_aA_3.out.cell (j := 3) rfl; have x_aB_0_3 := HX_aB_3.out.cell (j := 0) rfl; have x_aB_1_3 := HX_aB_3.out.cell (j := 1) rfl; have x_aB_2_3 := HX_aB_3.out.cell (j := 2) rfl; have x_aB_3_3 := HX_aB_3.out.cell (j := 3) rfl)
    | (go_at_call 29; (with_reducible refine (toEntry_any [u1_0, u1_1, u1_2, u1_3] y1 _ (REntry.more HO_aB_3.out fun i hi => Nat.lt_of_lt_of_le hi HA_3.out.size) (by omega)).mono ?_); rintro e W_4 ⟨cs__t1, rfl, hown, hb⟩; obtain ⟨A__t1_3, n__t1_3, c__t1_3, rfl⟩ := REntry_shape hown.rd; have HO__t1_4 := Lib.hid (hown); have HB_3 := Lib.hid hb; have HZ_3 := Lib.hid HB_3.out.size; have HA_4 := Lib.hid (HA_3.out.trans (HB_3.out.mono HA_3.out.size)); have HO_aA_4 := Lib.hid (REntry.keep HO_aA_3.out fun i hi => HB_3.out.block i (Nat.lt_of_lt_of_le hi HA_3.out.size)); have HO_aB_4 := Lib.hid (REntry.keep HO_aB_3.out fun i hi => HB_3.out.block i (Nat.lt_of_lt_of_le hi HA_3.out.size)); have HO__t0_4 := Lib.hid (HO__t0_3.out.below HB_3.out (Nat.le_refl _)); have HX_aA_4 := Lib.hid (HX_aA_3.out.below HB_3.out HX_aA_3.out.lt); have HX_aB_4 := Lib.hid (HX_aB_3.out.below HB_3.out HX_aB_3.out.lt); clear hb hown; have x_aA_0_4 := HX_aA_4.out.cell (j := 0) rfl; have x_aA_1_4 := HX_aA_4.out.cell (j := 1) rfl; have x_aA_2_4 := HX_aA_4.out.cell (j := 2) rfl; have x_aA_3_4 := HX_aA_4.out.cell (j := 3) rfl; have x_aB_0_4 := HX_aB_4.out.cell (j := 0) rfl; have x_aB_1_4 := HX_aB_4.out.cell (j := 1) rfl; have x_aB_2_4 := HX_aB_4.out.cell (j := 2) rfl; have x_aB_3_4 := HX_aB_4.out.cell (j := 3) rfl)
    | (go_at_call 20; (with_reducible refine (HS.out [(.string y0.label), (.int .i64 y0.kind), (.int .i64 y0.value), (.slice A__t0_3 n__t0_3 c__t0_3)] [(.string y1.label), (.int .i64 y1.kind), (.int .i64 y1.value), (.slice A__t1_3 n__t1_3 c__t1_3)] _ (REntry.more HO__t0_4.out.rd fun i hi => Nat.lt_of_lt_of_le hi HZ_3.out) (REntry.more HO__t1_4.out.rd fun i hi => Nat.lt_of_lt_of_le hi (Nat.le_refl _))).mono ?_); rintro e W_5 ⟨rfl, hb⟩; have HB_4 := Lib.hid hb; have HZ_4 := Lib.hid HB_4.out.size; have HA_5 := Lib.hid (HA_4.out.trans (HB_4.out.mono HA_4.out.size)); have HO_aA_5 := Lib.hid (REntry.keep HO_aA_4.out fun i hi => HB_4.out.block i (Nat.lt_of_lt_of_le hi HA_4.out.size)); have HO_aB_5 := Lib.hid (REntry.keep HO_aB_4.out fun i hi => HB_4.out.block i (Nat.lt_of_lt_of_le hi HA_4.out.size)); have HX_aA_5 := Lib.hid (HX_aA_4.out.below HB_4.out HX_aA_4.out.lt); have HX_aB_5 := Lib.hid (HX_aB_4.out.below HB_4.out HX_aB_4.out.lt); clear hb; have x_aA_0_5 := HX_aA_5.out.cell (j := 0) rfl; have x_aA_1_5 := HX_aA_5.out.cell (j := 1) rfl; have x_aA_2_5 := HX_aA_5.out.cell (j := 2) rfl; have x_aA_3_5 := HX_aA_5.out.cell (j := 3) rfl; have x_aB_0_5 := HX_aB_5.out.cell (j := 0) rfl; have x_aB_1_5 := HX_aB_5.out.cell (j := 1) rfl; have x_aB_2_5 := HX_aB_5.out.cell (j := 2) rfl; have x_aB_3_5 := HX_aB_5.out.cell (j := 3) rfl)))
  clear x_aA_0 x_aA_1 x_aA_2 x_aA_3 x_aB_0 x_aB_1 x_aB_2 x_aB_3
  have x_aA_0 := HX_aA_5.out.cell (j := 0) rfl
  have x_aA_1 := HX_aA_5.out.cell (j := 1) rfl
  have x_aA_2 := HX_aA_5.out.cell (j := 2) rfl
  have x_aA_3 := HX_aA_5.out.cell (j := 3) rfl
  go_wp2_with fail
  refine (toEntry_any [u0_0, u0_1, u0_2, u0_3] y0 _ (REntry.more HO_aA_5.out fun i hi => Nat.lt_of_lt_of_le hi HA_5.out.size) (by omega)).mono ?_
  rintro e W_6 ⟨cs_x0, rfl, hown, hb⟩
  obtain ⟨A_x0_3, n_x0_3, c_x0_3, rfl⟩ := REntry_shape hown.rd
  have HO_x0_6 := Lib.hid (hown.alloc (.cells #[(.string y0.label), (.int .i64 y0.kind), (.int .i64 y0.value), (.slice A_x0_3 n_x0_3 c_x0_3)] 26))
  have HT_6 := Lib.hid (show W_6.heap.size ≤ (W_6.alloc (.cells #[(.string y0.label), (.int .i64 y0.kind), (.int .i64 y0.value), (.slice A_x0_3 n_x0_3 c_x0_3)] 26)).heap.size by simp)
  have hb5 := hb.alloc hb.size (.cells #[(.string y0.label), (.int .i64 y0.kind), (.int .i64 y0.value), (.slice A_x0_3 n_x0_3 c_x0_3)] 26)
  have HB_5 := Lib.hid hb5
  have HQ_6 := Lib.hid hb.size
  have HZ_5 := Lib.hid HB_5.out.size
  have HA_6 := Lib.hid (HA_5.out.trans (HB_5.out.mono HA_5.out.size))
  have HO_aA_6 := Lib.hid (REntry.keep HO_aA_5.out fun i hi => HB_5.out.block i (Nat.lt_of_lt_of_le hi HA_5.out.size))
  have HO_aB_6 := Lib.hid (REntry.keep HO_aB_5.out fun i hi => HB_5.out.block i (Nat.lt_of_lt_of_le hi HA_5.out.size))
  have HX_aA_6 := Lib.hid (HX_aA_5.out.below HB_5.out HX_aA_5.out.lt)
  have HX_aB_6 := Lib.hid (HX_aB_5.out.below HB_5.out HX_aB_5.out.lt)
  clear hb hown
  have HX_x0_6 := Lib.hid (show Box (W_6.alloc (.cells #[(.string y0.label), (.int .i64 y0.kind), (.int .i64 y0.value), (.slice A_x0_3 n_x0_3 c_x0_3)] 26)) W_6.heap.size [(.string y0.label), (.int .i64 y0.kind), (.int .i64 y0.value), (.slice A_x0_3 n_x0_3 c_x0_3)] from Box.new W_6 #[(.string y0.label), (.int .i64 y0.kind), (.int .i64 y0.value), (.slice A_x0_3 n_x0_3 c_x0_3)] 26)
  clear x_aA_0 x_aA_1 x_aA_2 x_aA_3
  have x_aB_0 := HX_aB_6.out.cell (j := 0) rfl
  have x_aB_1 := HX_aB_6.out.cell (j := 1) rfl
  have x_aB_2 := HX_aB_6.out.cell (j := 2) rfl
  have x_aB_3 := HX_aB_6.out.cell (j := 3) rfl
  go_wp2_with fail
  refine (toEntry_any [u1_0, u1_1, u1_2, u1_3] y1 _ (REntry.more HO_aB_6.out fun i hi => Nat.lt_of_lt_of_le hi HA_6.out.size) (by omega)).mono ?_
  rintro e W_7 ⟨cs_x1, rfl, hown, hb⟩
  obtain ⟨A_x1_3, n_x1_3, c_x1_3, rfl⟩ := REntry_shape hown.rd
  have HO_x1_7 := Lib.hid (hown.alloc (.cells #[(.string y1.label), (.int .i64 y1.kind), (.int .i64 y1.value), (.slice A_x1_3 n_x1_3 c_x1_3)] 26))
  have HT_7 := Lib.hid (show W_7.heap.size ≤ (W_7.alloc (.cells #[(.string y1.label), (.int .i64 y1.kind), (.int .i64 y1.value), (.slice A_x1_3 n_x1_3 c_x1_3)] 26)).heap.size by simp)
  have hb6 := hb.alloc hb.size (.cells #[(.string y1.label), (.int .i64 y1.kind), (.int .i64 y1.value), (.slice A_x1_3 n_x1_3 c_x1_3)] 26)
  have HB_6 := Lib.hid hb6
  have HQ_7 := Lib.hid hb.size
  have HZ_6 := Lib.hid HB_6.out.size
  have HA_7 := Lib.hid (HA_6.out.trans (HB_6.out.mono HA_6.out.size))
  have HO_aA_7 := Lib.hid (REntry.keep HO_aA_6.out fun i hi => HB_6.out.block i (Nat.lt_of_lt_of_le hi HA_6.out.size))
  have HO_aB_7 := Lib.hid (REntry.keep HO_aB_6.out fun i hi => HB_6.out.block i (Nat.lt_of_lt_of_le hi HA_6.out.size))
  have HO_x0_7 := Lib.hid (HO_x0_6.out.below HB_6.out (Nat.le_trans HT_6.out (Nat.le_refl _)))
  have HX_aA_7 := Lib.hid (HX_aA_6.out.below HB_6.out HX_aA_6.out.lt)
  have HX_aB_7 := Lib.hid (HX_aB_6.out.below HB_6.out HX_aB_6.out.lt)
  have HX_x0_7 := Lib.hid (HX_x0_6.out.below HB_6.out HX_x0_6.out.lt)
  clear hb hown
  have HX_x1_7 := Lib.hid (show Box (W_7.alloc (.cells #[(.string y1.label), (.int .i64 y1.kind), (.int .i64 y1.value), (.slice A_x1_3 n_x1_3 c_x1_3)] 26)) W_7.heap.size [(.string y1.label), (.int .i64 y1.kind), (.int .i64 y1.value), (.slice A_x1_3 n_x1_3 c_x1_3)] from Box.new W_7 #[(.string y1.label), (.int .i64 y1.kind), (.int .i64 y1.value), (.slice A_x1_3 n_x1_3 c_x1_3)] 26)
  clear x_aB_0 x_aB_1 x_aB_2 x_aB_3
  have x_x0_0 := HX_x0_7.out.cell (j := 0) rfl
  have x_x0_1 := HX_x0_7.out.cell (j := 1) rfl
  have x_x0_2 := HX_x0_7.out.cell (j := 2) rfl
  have x_x0_3 := HX_x0_7.out.cell (j := 3) rfl
  have x_x1_0 := HX_x1_7.out.cell (j := 0) rfl
  have x_x1_1 := HX_x1_7.out.cell (j := 1) rfl
  have x_x1_2 := HX_x1_7.out.cell (j := 2) rfl
  have x_x1_3 := HX_x1_7.out.cell (j := 3) rfl
  go_wp2_with fail
  refine (HI.out [(.string y0.label), (.int .i64 y0.kind), (.int .i64 y0.value), (.slice A_x0_3 n_x0_3 c_x0_3)] [(.string y1.label), (.int .i64 y1.kind), (.int .i64 y1.value), (.slice A_x1_3 n_x1_3 c_x1_3)] _ (REntry.more HO_x0_7.out.rd fun i hi => Nat.lt_of_lt_of_le hi (Nat.le_trans HT_6.out HZ_6.out)) (REntry.more HO_x1_7.out.rd fun i hi => Nat.lt_of_lt_of_le hi (Nat.le_trans HT_7.out (Nat.le_refl _)))).mono ?_
  rintro e W_8 ⟨rfl, hb⟩
  have HB_7 := Lib.hid hb
  have HZ_7 := Lib.hid HB_7.out.size
  have HA_8 := Lib.hid (HA_7.out.trans (HB_7.out.mono HA_7.out.size))
  have HO_aA_8 := Lib.hid (REntry.keep HO_aA_7.out fun i hi => HB_7.out.block i (Nat.lt_of_lt_of_le hi HA_7.out.size))
  have HO_aB_8 := Lib.hid (REntry.keep HO_aB_7.out fun i hi => HB_7.out.block i (Nat.lt_of_lt_of_le hi HA_7.out.size))
  have HO_x0_8 := Lib.hid (HO_x0_7.out.below HB_7.out (Nat.le_trans HT_6.out HZ_6.out))
  have HO_x1_8 := Lib.hid (HO_x1_7.out.below HB_7.out (Nat.le_trans HT_7.out (Nat.le_refl _)))
  have HX_aA_8 := Lib.hid (HX_aA_7.out.below HB_7.out HX_aA_7.out.lt)
  have HX_aB_8 := Lib.hid (HX_aB_7.out.below HB_7.out HX_aB_7.out.lt)
  have HX_x0_8 := Lib.hid (HX_x0_7.out.below HB_7.out HX_x0_7.out.lt)
  have HX_x1_8 := Lib.hid (HX_x1_7.out.below HB_7.out HX_x1_7.out.lt)
  clear hb
  clear x_x0_0 x_x0_1 x_x0_2 x_x0_3 x_x1_0 x_x1_1 x_x1_2 x_x1_3
  have x_aA_0 := HX_aA_8.out.cell (j := 0) rfl
  have x_aA_1 := HX_aA_8.out.cell (j := 1) rfl
  have x_aA_2 := HX_aA_8.out.cell (j := 2) rfl
  have x_aA_3 := HX_aA_8.out.cell (j := 3) rfl
  have x_x0_0 := HX_x0_8.out.cell (j := 0) rfl
  have x_x0_1 := HX_x0_8.out.cell (j := 1) rfl
  have x_x0_2 := HX_x0_8.out.cell (j := 2) rfl
  have x_x0_3 := HX_x0_8.out.cell (j := 3) rfl
  have HD_aA := Lib.hid (show REntry.rd W_8.drew (Lt W_8.drew.heap.size) [u0_0, u0_1, u0_2, u0_3] y0 from REntry.keep (REntry.more HO_aA_8.out fun i hi => Nat.lt_of_lt_of_le hi HA_8.out.size) fun i _ => rfl)
  go_wp2_with fail
  go_region_held3 (fun w' => w'.cell? ⟨W0.heap.size, 0, none⟩ = some u0_0 ∧ w'.cell? ⟨W0.heap.size, 1, none⟩ = some u0_1 ∧ w'.cell? ⟨W0.heap.size, 2, none⟩ = some u0_2 ∧ w'.cell? ⟨W0.heap.size, 3, none⟩ = some u0_3 ∧ w'.cell? ⟨W_6.heap.size, 0, none⟩ = some (.string y0.label) ∧ w'.cell? ⟨W_6.heap.size, 1, none⟩ = some (.int .i64 y0.kind) ∧ w'.cell? ⟨W_6.heap.size, 2, none⟩ = some (.int .i64 y0.value) ∧ w'.cell? ⟨W_6.heap.size, 3, none⟩ = some (.slice A_x0_3 n_x0_3 c_x0_3)) (first | exact ⟨x_aA_0, x_aA_1, x_aA_2, x_aA_3, x_x0_0, x_x0_1, x_x0_2, x_x0_3⟩ | exact ⟨x_aA_0_9, x_aA_1_9, x_aA_2_9, x_aA_3_9, x_x0_0_9, x_x0_1_9, x_x0_2_9, x_x0_3_9⟩ | exact ⟨x_aA_0_10, x_aA_1_10, x_aA_2_10, x_aA_3_10, x_x0_0_10, x_x0_1_10, x_x0_2_10, x_x0_3_10⟩) ((first
    | (go_at_call 29; (with_reducible refine (toEntry_any [u0_0, u0_1, u0_2, u0_3] y0 W_8.drew HD_aA.out (by omega)).mono ?_); rintro e W_9 ⟨cs__t2, rfl, hown, hb⟩; obtain ⟨A__t2_3, n__t2_3, c__t2_3, rfl⟩ := REntry_shape hown.rd; have HO__t2_9 := Lib.hid (hown); have HB_8 := Lib.hid (below_drew hb); have HZ_8 := Lib.hid HB_8.out.size; have HA_9 := Lib.hid (HA_8.out.trans (HB_8.out.mono HA_8.out.size)); have HO_aA_9 := Lib.hid (REntry.keep HO_aA_8.out fun i hi => HB_8.out.block i (Nat.lt_of_lt_of_le hi HA_8.out.size)); have HO_aB_9 := Lib.hid (REntry.keep HO_aB_8.out fun i hi => HB_8.out.block i (Nat.lt_of_lt_of_le hi HA_8.out.size)); have HO_x0_9 := Lib.hid (HO_x0_8.out.below HB_8.out (Nat.le_trans HT_6.out (Nat.le_trans HZ_6.out HZ_7.out))); have HO_x1_9 := Lib.hid (HO_x1_8.out.below HB_8.out (Nat.le_trans HT_7.out HZ_7.out)); have HX_aA_9 := Lib.hid (HX_aA_8.out.below HB_8.out HX_aA_8.out.lt); have HX_aB_9 := Lib.hid (HX_aB_8.out.below HB_8.out HX_aB_8.out.lt); have HX_x0_9 := Lib.hid (HX_x0_8.out.below HB_8.out HX_x0_8.out.lt); have HX_x1_9 := Lib.hid (HX_x1_8.out.below HB_8.out HX_x1_8.out.lt); clear hb hown; have x_aA_0_9 := HX_aA_9.out.cell (j := 0) rfl; have x_aA_1_9 := HX_aA_9.out.cell (j := 1) rfl; have x_aA_2_9 := HX_aA_9.out.cell (j := 2) rfl; have x_aA_3_9 := HX_aA_9.out.cell (j := 3) rfl; have x_x0_0_9 := HX_x0_9.out.cell (j := 0) rfl; have x_x0_1_9 := HX_x0_9.out.cell (j := 1) rfl; have x_x0_2_9 := HX_x0_9.out.cell (j := 2) rfl; have x_x0_3_9 := HX_x0_9.out.cell (j := 3) rfl)
    | (go_at_call 30; (with_reducible refine (eqEntry_same _ _ [(.string y0.label), (.int .i64 y0.kind), (.int .i64 y0.value), (.slice A_x0_3 n_x0_3 c_x0_3)] [(.string y0.label), (.int .i64 y0.kind), (.int .i64 y0.value), (.slice A__t2_3 n__t2_3 c__t2_3)] y0 _ (REntry.more HO_x0_9.out.rd fun i hi => Nat.lt_of_lt_of_le hi (Nat.le_trans HT_6.out (Nat.le_trans (Nat.le_trans HZ_6.out HZ_7.out) HZ_8.out))) (REntry.more HO__t2_9.out.rd fun i hi => Nat.lt_of_lt_of_le hi (Nat.le_refl _)) (Nat.le_refl _) (Nat.le_refl _) (by omega)).mono ?_); rintro e W_10 ⟨rfl, hb⟩; have HB_9 := Lib.hid hb; have HZ_9 := Lib.hid HB_9.out.size; have HA_10 := Lib.hid (HA_9.out.trans (HB_9.out.mono HA_9.out.size)); have HO_aA_10 := Lib.hid (REntry.keep HO_aA_9.out fun i hi => HB_9.out.block i (Nat.lt_of_lt_of_le hi HA_9.out.size)); have HO_aB_10 := Lib.hid (REntry.keep HO_aB_9.out fun i hi => HB_9.out.block i (Nat.lt_of_lt_of_le hi HA_9.out.size)); have HO_x0_10 := Lib.hid (HO_x0_9.out.below HB_9.out (Nat.le_trans HT_6.out (Nat.le_trans (Nat.le_trans HZ_6.out HZ_7.out) HZ_8.out))); have HO_x1_10 := Lib.hid (HO_x1_9.out.below HB_9.out (Nat.le_trans HT_7.out (Nat.le_trans HZ_7.out HZ_8.out))); have HX_aA_10 := Lib.hid (HX_aA_9.out.below HB_9.out HX_aA_9.out.lt); have HX_aB_10 := Lib.hid (HX_aB_9.out.below HB_9.out HX_aB_9.out.lt); have HX_x0_10 := Lib.hid (HX_x0_9.out.below HB_9.out HX_x0_9.out.lt); have HX_x1_10 := Lib.hid (HX_x1_9.out.below HB_9.out HX_x1_9.out.lt); clear hb; have x_aA_0_10 := HX_aA_10.out.cell (j := 0) rfl; have x_aA_1_10 := HX_aA_10.out.cell (j := 1) rfl; have x_aA_2_10 := HX_aA_10.out.cell (j := 2) rfl; have x_aA_3_10 := HX_aA_10.out.cell (j := 3) rfl; have x_x0_0_10 := HX_x0_10.out.cell (j := 0) rfl; have x_x0_1_10 := HX_x0_10.out.cell (j := 1) rfl; have x_x0_2_10 := HX_x0_10.out.cell (j := 2) rfl; have x_x0_3_10 := HX_x0_10.out.cell (j := 3) rfl)))
  clear x_aA_0 x_aA_1 x_aA_2 x_aA_3 x_x0_0 x_x0_1 x_x0_2 x_x0_3
  have x_aB_0 := HX_aB_10.out.cell (j := 0) rfl
  have x_aB_1 := HX_aB_10.out.cell (j := 1) rfl
  have x_aB_2 := HX_aB_10.out.cell (j := 2) rfl
  have x_aB_3 := HX_aB_10.out.cell (j := 3) rfl
  have x_x1_0 := HX_x1_10.out.cell (j := 0) rfl
  have x_x1_1 := HX_x1_10.out.cell (j := 1) rfl
  have x_x1_2 := HX_x1_10.out.cell (j := 2) rfl
  have x_x1_3 := HX_x1_10.out.cell (j := 3) rfl
  have HD_aB := Lib.hid (show REntry.rd W_10.drew (Lt W_10.drew.heap.size) [u1_0, u1_1, u1_2, u1_3] y1 from REntry.keep (REntry.more HO_aB_10.out fun i hi => Nat.lt_of_lt_of_le hi HA_10.out.size) fun i _ => rfl)
  go_wp2_with fail
  go_region_held3 (fun w' => w'.cell? ⟨W0.heap.size + 1, 0, none⟩ = some u1_0 ∧ w'.cell? ⟨W0.heap.size + 1, 1, none⟩ = some u1_1 ∧ w'.cell? ⟨W0.heap.size + 1, 2, none⟩ = some u1_2 ∧ w'.cell? ⟨W0.heap.size + 1, 3, none⟩ = some u1_3 ∧ w'.cell? ⟨W_7.heap.size, 0, none⟩ = some (.string y1.label) ∧ w'.cell? ⟨W_7.heap.size, 1, none⟩ = some (.int .i64 y1.kind) ∧ w'.cell? ⟨W_7.heap.size, 2, none⟩ = some (.int .i64 y1.value) ∧ w'.cell? ⟨W_7.heap.size, 3, none⟩ = some (.slice A_x1_3 n_x1_3 c_x1_3)) (first | exact ⟨x_aB_0, x_aB_1, x_aB_2, x_aB_3, x_x1_0, x_x1_1, x_x1_2, x_x1_3⟩ | exact ⟨x_aB_0_11, x_aB_1_11, x_aB_2_11, x_aB_3_11, x_x1_0_11, x_x1_1_11, x_x1_2_11, x_x1_3_11⟩ | exact ⟨x_aB_0_12, x_aB_1_12, x_aB_2_12, x_aB_3_12, x_x1_0_12, x_x1_1_12, x_x1_2_12, x_x1_3_12⟩) ((first
    | (go_at_call 29; (with_reducible refine (toEntry_any [u1_0, u1_1, u1_2, u1_3] y1 W_10.drew HD_aB.out (by omega)).mono ?_); rintro e W_11 ⟨cs__t3, rfl, hown, hb⟩; obtain ⟨A__t3_3, n__t3_3, c__t3_3, rfl⟩ := REntry_shape hown.rd; have HO__t3_11 := Lib.hid (hown); have HB_10 := Lib.hid (below_drew hb); have HZ_10 := Lib.hid HB_10.out.size; have HA_11 := Lib.hid (HA_10.out.trans (HB_10.out.mono HA_10.out.size)); have HO_aB_11 := Lib.hid (REntry.keep HO_aB_10.out fun i hi => HB_10.out.block i (Nat.lt_of_lt_of_le hi HA_10.out.size)); have HO_x1_11 := Lib.hid (HO_x1_10.out.below HB_10.out (Nat.le_trans HT_7.out (Nat.le_trans (Nat.le_trans HZ_7.out HZ_8.out) HZ_9.out))); have HX_aB_11 := Lib.hid (HX_aB_10.out.below HB_10.out HX_aB_10.out.lt); have HX_x1_11 := Lib.hid (HX_x1_10.out.below HB_10.out HX_x1_10.out.lt); clear hb hown; have x_aB_0_11 := HX_aB_11.out.cell (j := 0) rfl; have x_aB_1_11 := HX_aB_11.out.cell (j := 1) rfl; have x_aB_2_11 := HX_aB_11.out.cell (j := 2) rfl; have x_aB_3_11 := HX_aB_11.out.cell (j := 3) rfl; have x_x1_0_11 := HX_x1_11.out.cell (j := 0) rfl; have x_x1_1_11 := HX_x1_11.out.cell (j := 1) rfl; have x_x1_2_11 := HX_x1_11.out.cell (j := 2) rfl; have x_x1_3_11 := HX_x1_11.out.cell (j := 3) rfl)
    | (go_at_call 30; (with_reducible refine (eqEntry_same _ _ [(.string y1.label), (.int .i64 y1.kind), (.int .i64 y1.value), (.slice A_x1_3 n_x1_3 c_x1_3)] [(.string y1.label), (.int .i64 y1.kind), (.int .i64 y1.value), (.slice A__t3_3 n__t3_3 c__t3_3)] y1 _ (REntry.more HO_x1_11.out.rd fun i hi => Nat.lt_of_lt_of_le hi (Nat.le_trans HT_7.out (Nat.le_trans (Nat.le_trans (Nat.le_trans HZ_7.out HZ_8.out) HZ_9.out) HZ_10.out))) (REntry.more HO__t3_11.out.rd fun i hi => Nat.lt_of_lt_of_le hi (Nat.le_refl _)) (Nat.le_refl _) (Nat.le_refl _) (by omega)).mono ?_); rintro e W_12 ⟨rfl, hb⟩; have HB_11 := Lib.hid hb; have HZ_11 := Lib.hid HB_11.out.size; have HA_12 := Lib.hid (HA_11.out.trans (HB_11.out.mono HA_11.out.size)); have HO_aB_12 := Lib.hid (REntry.keep HO_aB_11.out fun i hi => HB_11.out.block i (Nat.lt_of_lt_of_le hi HA_11.out.size)); have HO_x1_12 := Lib.hid (HO_x1_11.out.below HB_11.out (Nat.le_trans HT_7.out (Nat.le_trans (Nat.le_trans (Nat.le_trans HZ_7.out HZ_8.out) HZ_9.out) HZ_10.out))); have HX_aB_12 := Lib.hid (HX_aB_11.out.below HB_11.out HX_aB_11.out.lt); have HX_x1_12 := Lib.hid (HX_x1_11.out.below HB_11.out HX_x1_11.out.lt); clear hb; have x_aB_0_12 := HX_aB_12.out.cell (j := 0) rfl; have x_aB_1_12 := HX_aB_12.out.cell (j := 1) rfl; have x_aB_2_12 := HX_aB_12.out.cell (j := 2) rfl; have x_aB_3_12 := HX_aB_12.out.cell (j := 3) rfl; have x_x1_0_12 := HX_x1_12.out.cell (j := 0) rfl; have x_x1_1_12 := HX_x1_12.out.cell (j := 1) rfl; have x_x1_2_12 := HX_x1_12.out.cell (j := 2) rfl; have x_x1_3_12 := HX_x1_12.out.cell (j := 3) rfl)))
  clear x_aB_0 x_aB_1 x_aB_2 x_aB_3 x_x1_0 x_x1_1 x_x1_2 x_x1_3
  go_wp2
  go_ret
  exact ⟨rfl, HA_12.out⟩
end Go.Proofs.Ytobapahakcdibaa.W08
