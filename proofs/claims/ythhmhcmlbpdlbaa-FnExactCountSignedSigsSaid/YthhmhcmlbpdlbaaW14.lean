/- The walks of the exact laws of chapter 14: each law returns true, and writes into nothing that was there. -/
import Derived.Test.YthhmhcmlbpdlbaaC14U
import Derived.Test.YthhmhcmlbpdlbaaT06
import Derived.Test.YthhmhcmlbpdlbaaT13
import Derived.Test.YthhmhcmlbpdlbaaT14
import Derived.Test.YthhmhcmlbpdlbaaT01
import Derived.Test.YthhmhcmlbpdlbaaLD
import Derived.Deep.RegionHeld3
import Derived.Test.YthhmhcmlbpdlbaaRKA
namespace Go.Proofs.Ythhmhcmlbpdlbaa.W14
open Go.RowKit Mem MemS Rep BX Flat R06 R07 R13 R14 C14U T01 T06 T13S T13 T14 RG RGS
open RKA hiding inI64
set_option linter.unusedVariables false
set_option maxRecDepth 100000
set_option maxHeartbeats 4000000
theorem rgUp {α : Type} {R : Rep α} {w w' : World} {cs : List Value} {a : α} (h : R.rd w (Lt w.heap.size) cs a) (hb : Below w.heap.size w w') : R.rd w' (Lt w'.heap.size) cs a := R.more (R.keep h fun i hi => hb.block i hi) fun i hi => Nat.lt_of_lt_of_le hi hb.size
theorem FnExactZoneOf_walk (W0 : World) (u0_0 u0_1 : Value) (y0 : Keys) (w0 : RKeys.rd W0 (Lt W0.heap.size) [u0_0, u0_1] y0) (v1 : Int) (hv1 : (Lit.int .i64 v1).wf = true) :
    Calls Try.prog 3 #[.agg #[u0_0, u0_1], .int .i64 v1] W0 fun e w' => e = .returned (.bool true) ∧ Below W0.heap.size W0 w' := by
  have hV1 : -9223372036854775808 ≤ v1 ∧ v1 ≤ 9223372036854775807 := by simpa [Lit.wf, IntKind.min, IntKind.max, IntKind.signed, IntKind.bits] using hv1
  clear hv1
  have HA_0 := Lib.hid (show Below W0.heap.size W0 (W0.alloc (.cells #[u0_0, u0_1] 24)) from (Below.refl _ _).alloc (by first | (simp; done) | (simp; omega)) _)
  have HO_aK_0 := Lib.hid (RKeys.keep w0 fun i hi => HA_0.out.block i hi)
  have HX_aK_0 := Lib.hid (show Box (W0.alloc (.cells #[u0_0, u0_1] 24)) (W0.heap.size) [u0_0, u0_1] from (show Box (W0.alloc (.cells #[u0_0, u0_1] 24)) (W0.heap.size) [u0_0, u0_1] by have h := Box.new W0 #[u0_0, u0_1] 24; simpa using h))
  clear w0
  go_enter Try.func3, Try.ntmps3
  have x_aK_0 := HX_aK_0.out.cell (j := 0) rfl
  have x_aK_1 := HX_aK_0.out.cell (j := 1) rfl
  by_cases hn_aK : 1048576 < (totKeys y0 : Int)
  · have HN := Lib.hid hn_aK
    clear hn_aK
    go_wp2_with fail
    refine (szKeys_any [u0_0, u0_1] y0 1048576 _ (RKeys.more HO_aK_0.out fun i hi => Nat.lt_of_lt_of_le hi HA_0.out.size) (by omega) (by omega)).mono ?_
    rw [if_pos HN.out]
    rintro e W_1 ⟨rfl, hb⟩
    have HAe := Lib.hid (HA_0.out.trans (hb.mono HA_0.out.size))
    clear hb
    go_wp2
    go_ret
    exact ⟨rfl, HAe.out⟩
  have hY0 : totKeys y0 ≤ 1048576 := by omega
  have HN_aK := Lib.hid hn_aK
  clear hn_aK
  go_wp2_with fail
  refine (szKeys_any [u0_0, u0_1] y0 1048576 _ (RKeys.more HO_aK_0.out fun i hi => Nat.lt_of_lt_of_le hi HA_0.out.size) (by omega) (by omega)).mono ?_
  rw [if_neg (show ¬ 1048576 < (totKeys y0 : Int) by have := HN_aK.out; omega)]
  rintro e W_1 ⟨rfl, hb⟩
  obtain ⟨qq0, hqq0⟩ : ∃ x, x = 1048576 - (totKeys y0 : Int) := ⟨_, rfl⟩
  rw [← hqq0]
  have hqq0l : 0 ≤ qq0 ∧ qq0 ≤ 1048576 := by have := HN_aK.out; omega
  have hqq0n : ¬ qq0 < 0 := by omega
  clear hqq0
  have HB_0 := Lib.hid hb
  have HZ_0 := Lib.hid HB_0.out.size
  have HA_1 := Lib.hid (HA_0.out.trans (HB_0.out.mono HA_0.out.size))
  have HO_aK_1 := Lib.hid (RKeys.keep HO_aK_0.out fun i hi => HB_0.out.block i (Nat.lt_of_lt_of_le hi HA_0.out.size))
  have HX_aK_1 := Lib.hid (HX_aK_0.out.below HB_0.out HX_aK_0.out.lt)
  clear hb
  clear x_aK_0 x_aK_1
  have x_aK_0 := HX_aK_1.out.cell (j := 0) rfl
  have x_aK_1 := HX_aK_1.out.cell (j := 1) rfl
  obtain ⟨r0, hS, hI⟩ := both_ZoneOf y0 v1 hY0 hV1
  have HS := Lib.hid hS
  have HI := Lib.hid hI
  clear hS hI
  have hcy0 := cntKeys_le y0
  go_wp2_with fail
  refine (toKeys_any [u0_0, u0_1] y0 _ (RKeys.more HO_aK_1.out fun i hi => Nat.lt_of_lt_of_le hi HA_1.out.size) (by omega)).mono ?_
  rintro e W_2 ⟨cs__t0, rfl, hown, hb⟩
  obtain ⟨A__t0_0, n__t0_0, c__t0_0, rfl⟩ := RKeys_shape hown.rd
  have HO__t0_2 := Lib.hid (hown)
  have HB_1 := Lib.hid hb
  have HZ_1 := Lib.hid HB_1.out.size
  have HA_2 := Lib.hid (HA_1.out.trans (HB_1.out.mono HA_1.out.size))
  have HO_aK_2 := Lib.hid (RKeys.keep HO_aK_1.out fun i hi => HB_1.out.block i (Nat.lt_of_lt_of_le hi HA_1.out.size))
  have HX_aK_2 := Lib.hid (HX_aK_1.out.below HB_1.out HX_aK_1.out.lt)
  clear hb hown
  go_wp2_with fail
  refine (HS.out [(.slice A__t0_0 n__t0_0 c__t0_0), (.int .i64 y0.need)] _ (RKeys.more HO__t0_2.out.rd fun i hi => Nat.lt_of_lt_of_le hi (Nat.le_refl _))).mono ?_
  rintro e W_3 ⟨rfl, hb⟩
  have HB_2 := Lib.hid hb
  have HZ_2 := Lib.hid HB_2.out.size
  have HA_3 := Lib.hid (HA_2.out.trans (HB_2.out.mono HA_2.out.size))
  have HO_aK_3 := Lib.hid (RKeys.keep HO_aK_2.out fun i hi => HB_2.out.block i (Nat.lt_of_lt_of_le hi HA_2.out.size))
  have HX_aK_3 := Lib.hid (HX_aK_2.out.below HB_2.out HX_aK_2.out.lt)
  clear hb
  clear x_aK_0 x_aK_1
  have x_aK_0 := HX_aK_3.out.cell (j := 0) rfl
  have x_aK_1 := HX_aK_3.out.cell (j := 1) rfl
  go_wp2_with fail
  refine (toKeys_any [u0_0, u0_1] y0 _ (RKeys.more HO_aK_3.out fun i hi => Nat.lt_of_lt_of_le hi HA_3.out.size) (by omega)).mono ?_
  rintro e W_4 ⟨cs_x0, rfl, hown, hb⟩
  obtain ⟨A_x0_0, n_x0_0, c_x0_0, rfl⟩ := RKeys_shape hown.rd
  have HO_x0_4 := Lib.hid (hown.alloc (.cells #[(.slice A_x0_0 n_x0_0 c_x0_0), (.int .i64 y0.need)] 27))
  have HT_4 := Lib.hid (show W_4.heap.size ≤ (W_4.alloc (.cells #[(.slice A_x0_0 n_x0_0 c_x0_0), (.int .i64 y0.need)] 27)).heap.size by simp)
  have hb3 := hb.alloc hb.size (.cells #[(.slice A_x0_0 n_x0_0 c_x0_0), (.int .i64 y0.need)] 27)
  have HB_3 := Lib.hid hb3
  have HQ_4 := Lib.hid hb.size
  have HZ_3 := Lib.hid HB_3.out.size
  have HA_4 := Lib.hid (HA_3.out.trans (HB_3.out.mono HA_3.out.size))
  have HO_aK_4 := Lib.hid (RKeys.keep HO_aK_3.out fun i hi => HB_3.out.block i (Nat.lt_of_lt_of_le hi HA_3.out.size))
  have HX_aK_4 := Lib.hid (HX_aK_3.out.below HB_3.out HX_aK_3.out.lt)
  clear hb hown
  have HX_x0_4 := Lib.hid (show Box (W_4.alloc (.cells #[(.slice A_x0_0 n_x0_0 c_x0_0), (.int .i64 y0.need)] 27)) W_4.heap.size [(.slice A_x0_0 n_x0_0 c_x0_0), (.int .i64 y0.need)] from Box.new W_4 #[(.slice A_x0_0 n_x0_0 c_x0_0), (.int .i64 y0.need)] 27)
  clear x_aK_0 x_aK_1
  have x_x0_0 := HX_x0_4.out.cell (j := 0) rfl
  have x_x0_1 := HX_x0_4.out.cell (j := 1) rfl
  go_wp2_with fail
  refine (HI.out [(.slice A_x0_0 n_x0_0 c_x0_0), (.int .i64 y0.need)] _ (RKeys.more HO_x0_4.out.rd fun i hi => Nat.lt_of_lt_of_le hi (Nat.le_trans HT_4.out (Nat.le_refl _)))).mono ?_
  rintro e W_5 ⟨rfl, hb⟩
  have HB_4 := Lib.hid hb
  have HZ_4 := Lib.hid HB_4.out.size
  have HA_5 := Lib.hid (HA_4.out.trans (HB_4.out.mono HA_4.out.size))
  have HO_aK_5 := Lib.hid (RKeys.keep HO_aK_4.out fun i hi => HB_4.out.block i (Nat.lt_of_lt_of_le hi HA_4.out.size))
  have HO_x0_5 := Lib.hid (HO_x0_4.out.below HB_4.out (Nat.le_trans HT_4.out (Nat.le_refl _)))
  have HX_aK_5 := Lib.hid (HX_aK_4.out.below HB_4.out HX_aK_4.out.lt)
  have HX_x0_5 := Lib.hid (HX_x0_4.out.below HB_4.out HX_x0_4.out.lt)
  clear hb
  clear x_x0_0 x_x0_1
  go_wp2_with fail
  refine RG.region (tabP [sv (.agg #[(.slice A_x0_0 n_x0_0 c_x0_0), (.int .i64 y0.need)]), sv (.agg #[u0_0, u0_1]), srep RKeys (y0), sv (.bool (true)), sv (.bool (!(true)))]) (by kernel_rfl) (by kernel_rfl) (tab_keep _) ?_ ?_
  · refine steps_cons ?_ (steps_cons ?_ (steps_cons ?_ (steps_cons ?_ (steps_cons ?_ (steps_nil)))))
    · intro aa ww hA K hK
      refine free rfl ?_
      have e7 : aa.tmps.getD 7 undef = .pointer (some ⟨W_4.heap.size, 0, none⟩) := hA.old 7 (by kernel_rfl)
      have cqHX_x0_50 := (hA.bel.cell (p := ⟨W_4.heap.size, 0, none⟩) HX_x0_5.out.lt).trans (HX_x0_5.out.cell (j := 0) rfl)
      have cqHX_x0_51 := (hA.bel.cell (p := ⟨W_4.heap.size, 1, none⟩) HX_x0_5.out.lt).trans (HX_x0_5.out.cell (j := 1) rfl)
      exact gives hK (v := .agg #[(.slice A_x0_0 n_x0_0 c_x0_0), (.int .i64 y0.need)]) (by simp [execOp, Act.eval, e7, cqHX_x0_50, cqHX_x0_51, go_sem]) rfl
    · intro aa ww hA K hK
      refine free rfl ?_
      have e2 : aa.tmps.getD 2 undef = .pointer (some ⟨W0.heap.size, 0, none⟩) := hA.old 2 (by kernel_rfl)
      have cqHX_aK_50 := (hA.bel.cell (p := ⟨W0.heap.size, 0, none⟩) HX_aK_5.out.lt).trans (HX_aK_5.out.cell (j := 0) rfl)
      have cqHX_aK_51 := (hA.bel.cell (p := ⟨W0.heap.size, 1, none⟩) HX_aK_5.out.lt).trans (HX_aK_5.out.cell (j := 1) rfl)
      exact gives hK (v := .agg #[u0_0, u0_1]) (by simp [execOp, Act.eval, e2, cqHX_aK_50, cqHX_aK_51, go_sem]) rfl
    · intro aa ww hA K hK
      refine free rfl ?_
      have e27 : aa.tmps.getD 27 undef = .agg #[u0_0, u0_1] := hA.got 1 27 (by kernel_rfl)
      refine calls hK (by simp [Act.eval, e27, go_sem]) (toKeys_any [u0_0, u0_1] y0 ww (rgUp (RKeys.more HO_aK_5.out fun i hi => Nat.lt_of_lt_of_le hi HA_5.out.size) (RKA.below_drew hA.bel)) (by omega)) ?_
      rintro e w1 ⟨cs9, rfl, hown, hb⟩
      exact ⟨_, rfl, hb, ⟨cs9, rfl, hown.rd⟩⟩
    · intro aa ww hA K hK
      refine free rfl ?_
      have e26 : aa.tmps.getD 26 undef = .agg #[(.slice A_x0_0 n_x0_0 c_x0_0), (.int .i64 y0.need)] := hA.got 0 26 (by kernel_rfl)
      obtain ⟨q28, e28, h28⟩ := hA.got 2 28 (by kernel_rfl)
      refine calls hK (by simp [Act.eval, e26, e28, go_sem]) (eqKeys_same _ _ [(.slice A_x0_0 n_x0_0 c_x0_0), (.int .i64 y0.need)] q28 y0 ww (rgUp (RKeys.more HO_x0_5.out.rd fun i hi => Nat.lt_of_lt_of_le hi (Nat.le_trans HT_4.out HZ_4.out)) (RKA.below_drew hA.bel)) h28 (Nat.le_refl _) (Nat.le_refl _) (by omega)) ?_
      rintro e w1 ⟨rfl, hb⟩
      exact ⟨_, rfl, hb, rfl⟩
    · intro aa ww hA K hK
      refine free rfl ?_
      have e29 : aa.tmps.getD 29 undef = .bool (true) := hA.got 3 29 (by kernel_rfl)
      exact gives hK (v := .bool (!(true))) (by simp [execOp, Act.eval, e29, Op.unary, go_sem]) rfl
  · intro a1 W_6 hb hd hsz hold hgot
    have g30 : a1.tmps.getD 30 undef = .bool false := (hgot 4 30 (by kernel_rfl)).trans (rfl)
    have ea := act_put hd hsz hold [26, 27, 28, 29, 30] rfl
    simp only [List.foldl_cons, List.foldl_nil, g30] at ea
    rename_i K9 hK9
    refine hK9 a1 W_6 ?_
    generalize a1.tmps.getD 26 undef = v26 at ea
    generalize a1.tmps.getD 27 undef = v27 at ea
    generalize a1.tmps.getD 28 undef = v28 at ea
    generalize a1.tmps.getD 29 undef = v29 at ea
    clear hgot hold hsz hd g30
    simp only [Act.put, List.setIfInBounds_toArray, List.set_cons_succ, List.set_cons_zero] at ea
    subst ea
    have hb := RKA.below_drew hb
    have HB_5 := Lib.hid hb
    have HZ_5 := Lib.hid HB_5.out.size
    have HA_6 := Lib.hid (HA_5.out.trans (HB_5.out.mono HA_5.out.size))
    clear hb
    go_wp2
    go_ret
    exact ⟨rfl, HA_6.out⟩
theorem FnExactIsFirst_walk (W0 : World) (u0_0 u0_1 u0_2 u0_3 u0_4 u0_5 u0_6 u0_7 u0_8 u0_9 u0_10 u0_11 u0_12 u0_13 u0_14 u0_15 u0_16 : Value) (y0 : Signed) (w0 : RSigned.rd W0 (Lt W0.heap.size) [u0_0, u0_1, u0_2, u0_3, u0_4, u0_5, u0_6, u0_7, u0_8, u0_9, u0_10, u0_11, u0_12, u0_13, u0_14, u0_15, u0_16] y0) :
    Calls Try.prog 5 #[.agg #[u0_0, u0_1, u0_2, u0_3, u0_4, u0_5, u0_6, u0_7, u0_8, u0_9, u0_10, u0_11, u0_12, u0_13, u0_14, u0_15, u0_16]] W0 fun e w' => e = .returned (.bool true) ∧ Below W0.heap.size W0 w' := by
  have HA_0 := Lib.hid (show Below W0.heap.size W0 (W0.alloc (.cells #[u0_0, u0_1, u0_2, u0_3, u0_4, u0_5, u0_6, u0_7, u0_8, u0_9, u0_10, u0_11, u0_12, u0_13, u0_14, u0_15, u0_16] 51)) from (Below.refl _ _).alloc (by first | (simp; done) | (simp; omega)) _)
  have HO_aS_0 := Lib.hid (RSigned.keep w0 fun i hi => HA_0.out.block i hi)
  have HX_aS_0 := Lib.hid (show Box (W0.alloc (.cells #[u0_0, u0_1, u0_2, u0_3, u0_4, u0_5, u0_6, u0_7, u0_8, u0_9, u0_10, u0_11, u0_12, u0_13, u0_14, u0_15, u0_16] 51)) (W0.heap.size) [u0_0, u0_1, u0_2, u0_3, u0_4, u0_5, u0_6, u0_7, u0_8, u0_9, u0_10, u0_11, u0_12, u0_13, u0_14, u0_15, u0_16] from (show Box (W0.alloc (.cells #[u0_0, u0_1, u0_2, u0_3, u0_4, u0_5, u0_6, u0_7, u0_8, u0_9, u0_10, u0_11, u0_12, u0_13, u0_14, u0_15, u0_16] 51)) (W0.heap.size) [u0_0, u0_1, u0_2, u0_3, u0_4, u0_5, u0_6, u0_7, u0_8, u0_9, u0_10, u0_11, u0_12, u0_13, u0_14, u0_15, u0_16] by have h := Box.new W0 #[u0_0, u0_1, u0_2, u0_3, u0_4, u0_5, u0_6, u0_7, u0_8, u0_9, u0_10, u0_11, u0_12, u0_13, u0_14, u0_15, u0_16] 51; simpa using h))
  clear w0
  go_enter Try.func5, Try.ntmps5
  by_cases hn_aS : 1048576 < (totSigned y0 : Int)
  · have HN := Lib.hid hn_aS
    clear hn_aS
    go_wp2_with (refine LD.wp_ld LD.big_lSigned rfl _ rfl rfl HX_aS_0.out rfl ?_)
    refine (szSigned_any [u0_0, u0_1, u0_2, u0_3, u0_4, u0_5, u0_6, u0_7, u0_8, u0_9, u0_10, u0_11, u0_12, u0_13, u0_14, u0_15, u0_16] y0 1048576 _ (RSigned.more HO_aS_0.out fun i hi => Nat.lt_of_lt_of_le hi HA_0.out.size) (by omega) (by omega)).mono ?_
    rw [if_pos HN.out]
    rintro e W_1 ⟨rfl, hb⟩
    have HAe := Lib.hid (HA_0.out.trans (hb.mono HA_0.out.size))
    clear hb
    go_wp2
    go_ret
    exact ⟨rfl, HAe.out⟩
  have hY0 : totSigned y0 ≤ 1048576 := by omega
  have HN_aS := Lib.hid hn_aS
  clear hn_aS
  go_wp2_with (refine LD.wp_ld LD.big_lSigned rfl _ rfl rfl HX_aS_0.out rfl ?_)
  refine (szSigned_any [u0_0, u0_1, u0_2, u0_3, u0_4, u0_5, u0_6, u0_7, u0_8, u0_9, u0_10, u0_11, u0_12, u0_13, u0_14, u0_15, u0_16] y0 1048576 _ (RSigned.more HO_aS_0.out fun i hi => Nat.lt_of_lt_of_le hi HA_0.out.size) (by omega) (by omega)).mono ?_
  rw [if_neg (show ¬ 1048576 < (totSigned y0 : Int) by have := HN_aS.out; omega)]
  rintro e W_1 ⟨rfl, hb⟩
  obtain ⟨qq0, hqq0⟩ : ∃ x, x = 1048576 - (totSigned y0 : Int) := ⟨_, rfl⟩
  rw [← hqq0]
  have hqq0l : 0 ≤ qq0 ∧ qq0 ≤ 1048576 := by have := HN_aS.out; omega
  have hqq0n : ¬ qq0 < 0 := by omega
  clear hqq0
  have HB_0 := Lib.hid hb
  have HZ_0 := Lib.hid HB_0.out.size
  have HA_1 := Lib.hid (HA_0.out.trans (HB_0.out.mono HA_0.out.size))
  have HO_aS_1 := Lib.hid (RSigned.keep HO_aS_0.out fun i hi => HB_0.out.block i (Nat.lt_of_lt_of_le hi HA_0.out.size))
  have HX_aS_1 := Lib.hid (HX_aS_0.out.below HB_0.out HX_aS_0.out.lt)
  clear hb
  obtain ⟨r0, hS, hI⟩ := both_IsFirst y0 hY0
  have HS := Lib.hid hS
  have HI := Lib.hid hI
  clear hS hI
  have hcy0 := cntSigned_le y0
  go_wp2_with (refine LD.wp_ld LD.big_lSigned rfl _ rfl rfl HX_aS_1.out rfl ?_)
  refine (toSigned_any [u0_0, u0_1, u0_2, u0_3, u0_4, u0_5, u0_6, u0_7, u0_8, u0_9, u0_10, u0_11, u0_12, u0_13, u0_14, u0_15, u0_16] y0 _ (RSigned.more HO_aS_1.out fun i hi => Nat.lt_of_lt_of_le hi HA_1.out.size) (by omega)).mono ?_
  rintro e W_2 ⟨cs__t0, rfl, hown, hb⟩
  obtain ⟨A__t0_8, n__t0_8, c__t0_8, A__t0_10, n__t0_10, c__t0_10, A__t0_13, n__t0_13, c__t0_13, A__t0_16, n__t0_16, c__t0_16, rfl⟩ := RSigned_shape hown.rd
  have HO__t0_2 := Lib.hid (hown)
  have HB_1 := Lib.hid hb
  have HZ_1 := Lib.hid HB_1.out.size
  have HA_2 := Lib.hid (HA_1.out.trans (HB_1.out.mono HA_1.out.size))
  have HO_aS_2 := Lib.hid (RSigned.keep HO_aS_1.out fun i hi => HB_1.out.block i (Nat.lt_of_lt_of_le hi HA_1.out.size))
  have HX_aS_2 := Lib.hid (HX_aS_1.out.below HB_1.out HX_aS_1.out.lt)
  clear hb hown
  go_wp2_with (refine LD.wp_ld LD.big_lSigned rfl _ rfl rfl HX_aS_2.out rfl ?_)
  refine (HS.out [(.int .i64 y0.head.zone), (.int .i64 y0.head.epoch), (.int .i64 y0.head.kind), (.int .i64 y0.head.time), (.int .i64 y0.head.until_), (.int .i64 y0.head.count), (.int .i64 y0.head.root), (.int .i64 y0.head.prev), (.slice A__t0_8 n__t0_8 c__t0_8), (.int .i64 y0.head.keys.need), (.slice A__t0_10 n__t0_10 c__t0_10), (.int .i64 y0.head.heirs.need), (.int .i64 y0.head.wait), (.slice A__t0_13 n__t0_13 c__t0_13), (.int .i64 y0.head.judge.need), (.bool y0.head.frozen), (.slice A__t0_16 n__t0_16 c__t0_16)] _ (RSigned.more HO__t0_2.out.rd fun i hi => Nat.lt_of_lt_of_le hi (Nat.le_refl _))).mono ?_
  rintro e W_3 ⟨rfl, hb⟩
  have HB_2 := Lib.hid hb
  have HZ_2 := Lib.hid HB_2.out.size
  have HA_3 := Lib.hid (HA_2.out.trans (HB_2.out.mono HA_2.out.size))
  have HO_aS_3 := Lib.hid (RSigned.keep HO_aS_2.out fun i hi => HB_2.out.block i (Nat.lt_of_lt_of_le hi HA_2.out.size))
  have HX_aS_3 := Lib.hid (HX_aS_2.out.below HB_2.out HX_aS_2.out.lt)
  clear hb
  go_wp2_with (refine LD.wp_ld LD.big_lSigned rfl _ rfl rfl HX_aS_3.out rfl ?_)
  refine (toSigned_any [u0_0, u0_1, u0_2, u0_3, u0_4, u0_5, u0_6, u0_7, u0_8, u0_9, u0_10, u0_11, u0_12, u0_13, u0_14, u0_15, u0_16] y0 _ (RSigned.more HO_aS_3.out fun i hi => Nat.lt_of_lt_of_le hi HA_3.out.size) (by omega)).mono ?_
  rintro e W_4 ⟨cs_x0, rfl, hown, hb⟩
  obtain ⟨A_x0_8, n_x0_8, c_x0_8, A_x0_10, n_x0_10, c_x0_10, A_x0_13, n_x0_13, c_x0_13, A_x0_16, n_x0_16, c_x0_16, rfl⟩ := RSigned_shape hown.rd
  have HO_x0_4 := Lib.hid (hown.alloc (.cells #[(.int .i64 y0.head.zone), (.int .i64 y0.head.epoch), (.int .i64 y0.head.kind), (.int .i64 y0.head.time), (.int .i64 y0.head.until_), (.int .i64 y0.head.count), (.int .i64 y0.head.root), (.int .i64 y0.head.prev), (.slice A_x0_8 n_x0_8 c_x0_8), (.int .i64 y0.head.keys.need), (.slice A_x0_10 n_x0_10 c_x0_10), (.int .i64 y0.head.heirs.need), (.int .i64 y0.head.wait), (.slice A_x0_13 n_x0_13 c_x0_13), (.int .i64 y0.head.judge.need), (.bool y0.head.frozen), (.slice A_x0_16 n_x0_16 c_x0_16)] 38))
  have HT_4 := Lib.hid (show W_4.heap.size ≤ (W_4.alloc (.cells #[(.int .i64 y0.head.zone), (.int .i64 y0.head.epoch), (.int .i64 y0.head.kind), (.int .i64 y0.head.time), (.int .i64 y0.head.until_), (.int .i64 y0.head.count), (.int .i64 y0.head.root), (.int .i64 y0.head.prev), (.slice A_x0_8 n_x0_8 c_x0_8), (.int .i64 y0.head.keys.need), (.slice A_x0_10 n_x0_10 c_x0_10), (.int .i64 y0.head.heirs.need), (.int .i64 y0.head.wait), (.slice A_x0_13 n_x0_13 c_x0_13), (.int .i64 y0.head.judge.need), (.bool y0.head.frozen), (.slice A_x0_16 n_x0_16 c_x0_16)] 38)).heap.size by simp)
  have hb3 := hb.alloc hb.size (.cells #[(.int .i64 y0.head.zone), (.int .i64 y0.head.epoch), (.int .i64 y0.head.kind), (.int .i64 y0.head.time), (.int .i64 y0.head.until_), (.int .i64 y0.head.count), (.int .i64 y0.head.root), (.int .i64 y0.head.prev), (.slice A_x0_8 n_x0_8 c_x0_8), (.int .i64 y0.head.keys.need), (.slice A_x0_10 n_x0_10 c_x0_10), (.int .i64 y0.head.heirs.need), (.int .i64 y0.head.wait), (.slice A_x0_13 n_x0_13 c_x0_13), (.int .i64 y0.head.judge.need), (.bool y0.head.frozen), (.slice A_x0_16 n_x0_16 c_x0_16)] 38)
  have HB_3 := Lib.hid hb3
  have HQ_4 := Lib.hid hb.size
  have HZ_3 := Lib.hid HB_3.out.size
  have HA_4 := Lib.hid (HA_3.out.trans (HB_3.out.mono HA_3.out.size))
  have HO_aS_4 := Lib.hid (RSigned.keep HO_aS_3.out fun i hi => HB_3.out.block i (Nat.lt_of_lt_of_le hi HA_3.out.size))
  have HX_aS_4 := Lib.hid (HX_aS_3.out.below HB_3.out HX_aS_3.out.lt)
  clear hb hown
  have HX_x0_4 := Lib.hid (show Box (W_4.alloc (.cells #[(.int .i64 y0.head.zone), (.int .i64 y0.head.epoch), (.int .i64 y0.head.kind), (.int .i64 y0.head.time), (.int .i64 y0.head.until_), (.int .i64 y0.head.count), (.int .i64 y0.head.root), (.int .i64 y0.head.prev), (.slice A_x0_8 n_x0_8 c_x0_8), (.int .i64 y0.head.keys.need), (.slice A_x0_10 n_x0_10 c_x0_10), (.int .i64 y0.head.heirs.need), (.int .i64 y0.head.wait), (.slice A_x0_13 n_x0_13 c_x0_13), (.int .i64 y0.head.judge.need), (.bool y0.head.frozen), (.slice A_x0_16 n_x0_16 c_x0_16)] 38)) W_4.heap.size [(.int .i64 y0.head.zone), (.int .i64 y0.head.epoch), (.int .i64 y0.head.kind), (.int .i64 y0.head.time), (.int .i64 y0.head.until_), (.int .i64 y0.head.count), (.int .i64 y0.head.root), (.int .i64 y0.head.prev), (.slice A_x0_8 n_x0_8 c_x0_8), (.int .i64 y0.head.keys.need), (.slice A_x0_10 n_x0_10 c_x0_10), (.int .i64 y0.head.heirs.need), (.int .i64 y0.head.wait), (.slice A_x0_13 n_x0_13 c_x0_13), (.int .i64 y0.head.judge.need), (.bool y0.head.frozen), (.slice A_x0_16 n_x0_16 c_x0_16)] from Box.new W_4 #[(.int .i64 y0.head.zone), (.int .i64 y0.head.epoch), (.int .i64 y0.head.kind), (.int .i64 y0.head.time), (.int .i64 y0.head.until_), (.int .i64 y0.head.count), (.int .i64 y0.head.root), (.int .i64 y0.head.prev), (.slice A_x0_8 n_x0_8 c_x0_8), (.int .i64 y0.head.keys.need), (.slice A_x0_10 n_x0_10 c_x0_10), (.int .i64 y0.head.heirs.need), (.int .i64 y0.head.wait), (.slice A_x0_13 n_x0_13 c_x0_13), (.int .i64 y0.head.judge.need), (.bool y0.head.frozen), (.slice A_x0_16 n_x0_16 c_x0_16)] 38)
  go_wp2_with (first | (refine LD.wp_ld LD.big_Signed rfl _ rfl rfl HX_x0_4.out rfl ?_) | (refine LD.wp_new LD.big_Signed rfl _ _ rfl rfl rfl rfl rfl rfl ?_))
  refine (HI.out [(.int .i64 y0.head.zone), (.int .i64 y0.head.epoch), (.int .i64 y0.head.kind), (.int .i64 y0.head.time), (.int .i64 y0.head.until_), (.int .i64 y0.head.count), (.int .i64 y0.head.root), (.int .i64 y0.head.prev), (.slice A_x0_8 n_x0_8 c_x0_8), (.int .i64 y0.head.keys.need), (.slice A_x0_10 n_x0_10 c_x0_10), (.int .i64 y0.head.heirs.need), (.int .i64 y0.head.wait), (.slice A_x0_13 n_x0_13 c_x0_13), (.int .i64 y0.head.judge.need), (.bool y0.head.frozen), (.slice A_x0_16 n_x0_16 c_x0_16)] _ (RSigned.more HO_x0_4.out.rd fun i hi => Nat.lt_of_lt_of_le hi (Nat.le_trans HT_4.out (Nat.le_refl _)))).mono ?_
  rintro e W_5 ⟨rfl, hb⟩
  have HB_4 := Lib.hid hb
  have HZ_4 := Lib.hid HB_4.out.size
  have HA_5 := Lib.hid (HA_4.out.trans (HB_4.out.mono HA_4.out.size))
  have HO_aS_5 := Lib.hid (RSigned.keep HO_aS_4.out fun i hi => HB_4.out.block i (Nat.lt_of_lt_of_le hi HA_4.out.size))
  have HO_x0_5 := Lib.hid (HO_x0_4.out.below HB_4.out (Nat.le_trans HT_4.out (Nat.le_refl _)))
  have HX_aS_5 := Lib.hid (HX_aS_4.out.below HB_4.out HX_aS_4.out.lt)
  have HX_x0_5 := Lib.hid (HX_x0_4.out.below HB_4.out HX_x0_4.out.lt)
  clear hb
  go_wp2_with fail
  refine RG.region (tabP [sv (.agg #[(.int .i64 y0.head.zone), (.int .i64 y0.head.epoch), (.int .i64 y0.head.kind), (.int .i64 y0.head.time), (.int .i64 y0.head.until_), (.int .i64 y0.head.count), (.int .i64 y0.head.root), (.int .i64 y0.head.prev), (.slice A_x0_8 n_x0_8 c_x0_8), (.int .i64 y0.head.keys.need), (.slice A_x0_10 n_x0_10 c_x0_10), (.int .i64 y0.head.heirs.need), (.int .i64 y0.head.wait), (.slice A_x0_13 n_x0_13 c_x0_13), (.int .i64 y0.head.judge.need), (.bool y0.head.frozen), (.slice A_x0_16 n_x0_16 c_x0_16)]), sv (.agg #[u0_0, u0_1, u0_2, u0_3, u0_4, u0_5, u0_6, u0_7, u0_8, u0_9, u0_10, u0_11, u0_12, u0_13, u0_14, u0_15, u0_16]), srep RSigned (y0), sv (.bool (true)), sv (.bool (!(true)))]) (by kernel_rfl) (by kernel_rfl) (tab_keep _) ?_ ?_
  · refine steps_cons ?_ (steps_cons ?_ (steps_cons ?_ (steps_cons ?_ (steps_cons ?_ (steps_nil)))))
    · intro aa ww hA K hK
      refine free rfl ?_
      have e5 : aa.tmps.getD 5 undef = .pointer (some ⟨W_4.heap.size, 0, none⟩) := hA.old 5 (by kernel_rfl)
      have ldHX_x0_5 := LD.ld_run LD.big_Signed (HX_x0_5.out.keep (hA.bel.block (W_4.heap.size) HX_x0_5.out.lt)) rfl
      exact gives hK (v := .agg #[(.int .i64 y0.head.zone), (.int .i64 y0.head.epoch), (.int .i64 y0.head.kind), (.int .i64 y0.head.time), (.int .i64 y0.head.until_), (.int .i64 y0.head.count), (.int .i64 y0.head.root), (.int .i64 y0.head.prev), (.slice A_x0_8 n_x0_8 c_x0_8), (.int .i64 y0.head.keys.need), (.slice A_x0_10 n_x0_10 c_x0_10), (.int .i64 y0.head.heirs.need), (.int .i64 y0.head.wait), (.slice A_x0_13 n_x0_13 c_x0_13), (.int .i64 y0.head.judge.need), (.bool y0.head.frozen), (.slice A_x0_16 n_x0_16 c_x0_16)]) (by simp only [execOp, Act.eval, e5, ldHX_x0_5, Sem.run_bind, Sem.run_pure, Result.andThen_ok]) rfl
    · intro aa ww hA K hK
      refine free rfl ?_
      have e1 : aa.tmps.getD 1 undef = .pointer (some ⟨W0.heap.size, 0, none⟩) := hA.old 1 (by kernel_rfl)
      have ldHX_aS_5 := LD.ld_run LD.big_lSigned (HX_aS_5.out.keep (hA.bel.block (W0.heap.size) HX_aS_5.out.lt)) rfl
      exact gives hK (v := .agg #[u0_0, u0_1, u0_2, u0_3, u0_4, u0_5, u0_6, u0_7, u0_8, u0_9, u0_10, u0_11, u0_12, u0_13, u0_14, u0_15, u0_16]) (by simp only [execOp, Act.eval, e1, ldHX_aS_5, Sem.run_bind, Sem.run_pure, Result.andThen_ok]) rfl
    · intro aa ww hA K hK
      refine free rfl ?_
      have e23 : aa.tmps.getD 23 undef = .agg #[u0_0, u0_1, u0_2, u0_3, u0_4, u0_5, u0_6, u0_7, u0_8, u0_9, u0_10, u0_11, u0_12, u0_13, u0_14, u0_15, u0_16] := hA.got 1 23 (by kernel_rfl)
      refine calls hK (by simp [Act.eval, e23, go_sem]) (toSigned_any [u0_0, u0_1, u0_2, u0_3, u0_4, u0_5, u0_6, u0_7, u0_8, u0_9, u0_10, u0_11, u0_12, u0_13, u0_14, u0_15, u0_16] y0 ww (rgUp (RSigned.more HO_aS_5.out fun i hi => Nat.lt_of_lt_of_le hi HA_5.out.size) (RKA.below_drew hA.bel)) (by omega)) ?_
      rintro e w1 ⟨cs9, rfl, hown, hb⟩
      exact ⟨_, rfl, hb, ⟨cs9, rfl, hown.rd⟩⟩
    · intro aa ww hA K hK
      refine free rfl ?_
      have e22 : aa.tmps.getD 22 undef = .agg #[(.int .i64 y0.head.zone), (.int .i64 y0.head.epoch), (.int .i64 y0.head.kind), (.int .i64 y0.head.time), (.int .i64 y0.head.until_), (.int .i64 y0.head.count), (.int .i64 y0.head.root), (.int .i64 y0.head.prev), (.slice A_x0_8 n_x0_8 c_x0_8), (.int .i64 y0.head.keys.need), (.slice A_x0_10 n_x0_10 c_x0_10), (.int .i64 y0.head.heirs.need), (.int .i64 y0.head.wait), (.slice A_x0_13 n_x0_13 c_x0_13), (.int .i64 y0.head.judge.need), (.bool y0.head.frozen), (.slice A_x0_16 n_x0_16 c_x0_16)] := hA.got 0 22 (by kernel_rfl)
      obtain ⟨q24, e24, h24⟩ := hA.got 2 24 (by kernel_rfl)
      refine calls hK (by simp [Act.eval, e22, e24, go_sem]) (eqSigned_same _ _ [(.int .i64 y0.head.zone), (.int .i64 y0.head.epoch), (.int .i64 y0.head.kind), (.int .i64 y0.head.time), (.int .i64 y0.head.until_), (.int .i64 y0.head.count), (.int .i64 y0.head.root), (.int .i64 y0.head.prev), (.slice A_x0_8 n_x0_8 c_x0_8), (.int .i64 y0.head.keys.need), (.slice A_x0_10 n_x0_10 c_x0_10), (.int .i64 y0.head.heirs.need), (.int .i64 y0.head.wait), (.slice A_x0_13 n_x0_13 c_x0_13), (.int .i64 y0.head.judge.need), (.bool y0.head.frozen), (.slice A_x0_16 n_x0_16 c_x0_16)] q24 y0 ww (rgUp (RSigned.more HO_x0_5.out.rd fun i hi => Nat.lt_of_lt_of_le hi (Nat.le_trans HT_4.out HZ_4.out)) (RKA.below_drew hA.bel)) h24 (Nat.le_refl _) (Nat.le_refl _) (by omega)) ?_
      rintro e w1 ⟨rfl, hb⟩
      exact ⟨_, rfl, hb, rfl⟩
    · intro aa ww hA K hK
      refine free rfl ?_
      have e25 : aa.tmps.getD 25 undef = .bool (true) := hA.got 3 25 (by kernel_rfl)
      exact gives hK (v := .bool (!(true))) (by simp [execOp, Act.eval, e25, Op.unary, go_sem]) rfl
  · intro a1 W_6 hb hd hsz hold hgot
    have g26 : a1.tmps.getD 26 undef = .bool false := (hgot 4 26 (by kernel_rfl)).trans (rfl)
    have ea := act_put hd hsz hold [22, 23, 24, 25, 26] rfl
    simp only [List.foldl_cons, List.foldl_nil, g26] at ea
    rename_i K9 hK9
    refine hK9 a1 W_6 ?_
    generalize a1.tmps.getD 22 undef = v22 at ea
    generalize a1.tmps.getD 23 undef = v23 at ea
    generalize a1.tmps.getD 24 undef = v24 at ea
    generalize a1.tmps.getD 25 undef = v25 at ea
    clear hgot hold hsz hd g26
    simp only [Act.put, List.setIfInBounds_toArray, List.set_cons_succ, List.set_cons_zero] at ea
    subst ea
    have hb := RKA.below_drew hb
    have HB_5 := Lib.hid hb
    have HZ_5 := Lib.hid HB_5.out.size
    have HA_6 := Lib.hid (HA_5.out.trans (HB_5.out.mono HA_5.out.size))
    clear hb
    go_wp2
    go_ret
    exact ⟨rfl, HA_6.out⟩
theorem FnExactCountSignedSigs_walk (W0 : World) (u0_0 u0_1 u0_2 u0_3 u0_4 u0_5 u0_6 u0_7 u0_8 u0_9 u0_10 u0_11 u0_12 u0_13 u0_14 u0_15 u0_16 : Value) (y0 : Signed) (w0 : RSigned.rd W0 (Lt W0.heap.size) [u0_0, u0_1, u0_2, u0_3, u0_4, u0_5, u0_6, u0_7, u0_8, u0_9, u0_10, u0_11, u0_12, u0_13, u0_14, u0_15, u0_16] y0) (u1_0 u1_1 : Value) (y1 : Keys) (w1 : RKeys.rd W0 (Lt W0.heap.size) [u1_0, u1_1] y1) :
    Calls Try.prog 6 #[.agg #[u0_0, u0_1, u0_2, u0_3, u0_4, u0_5, u0_6, u0_7, u0_8, u0_9, u0_10, u0_11, u0_12, u0_13, u0_14, u0_15, u0_16], .agg #[u1_0, u1_1]] W0 fun e w' => e = .returned (.bool true) ∧ Below W0.heap.size W0 w' := by
  have HA_0 := Lib.hid (show Below W0.heap.size W0 ((W0.alloc (.cells #[u0_0, u0_1, u0_2, u0_3, u0_4, u0_5, u0_6, u0_7, u0_8, u0_9, u0_10, u0_11, u0_12, u0_13, u0_14, u0_15, u0_16] 51)).alloc (.cells #[u1_0, u1_1] 24)) from ((Below.refl _ _).alloc (by first | (simp; done) | (simp; omega)) _).alloc (by first | (simp; done) | (simp; omega)) _)
  have HO_aS_0 := Lib.hid (RSigned.keep w0 fun i hi => HA_0.out.block i hi)
  have HX_aS_0 := Lib.hid (show Box ((W0.alloc (.cells #[u0_0, u0_1, u0_2, u0_3, u0_4, u0_5, u0_6, u0_7, u0_8, u0_9, u0_10, u0_11, u0_12, u0_13, u0_14, u0_15, u0_16] 51)).alloc (.cells #[u1_0, u1_1] 24)) (W0.heap.size) [u0_0, u0_1, u0_2, u0_3, u0_4, u0_5, u0_6, u0_7, u0_8, u0_9, u0_10, u0_11, u0_12, u0_13, u0_14, u0_15, u0_16] from (show Box (W0.alloc (.cells #[u0_0, u0_1, u0_2, u0_3, u0_4, u0_5, u0_6, u0_7, u0_8, u0_9, u0_10, u0_11, u0_12, u0_13, u0_14, u0_15, u0_16] 51)) (W0.heap.size) [u0_0, u0_1, u0_2, u0_3, u0_4, u0_5, u0_6, u0_7, u0_8, u0_9, u0_10, u0_11, u0_12, u0_13, u0_14, u0_15, u0_16] by have h := Box.new W0 #[u0_0, u0_1, u0_2, u0_3, u0_4, u0_5, u0_6, u0_7, u0_8, u0_9, u0_10, u0_11, u0_12, u0_13, u0_14, u0_15, u0_16] 51; simpa using h).alloc _)
  have HO_aK_0 := Lib.hid (RKeys.keep w1 fun i hi => HA_0.out.block i hi)
  have HX_aK_0 := Lib.hid (show Box ((W0.alloc (.cells #[u0_0, u0_1, u0_2, u0_3, u0_4, u0_5, u0_6, u0_7, u0_8, u0_9, u0_10, u0_11, u0_12, u0_13, u0_14, u0_15, u0_16] 51)).alloc (.cells #[u1_0, u1_1] 24)) (W0.heap.size + 1) [u1_0, u1_1] from (show Box ((W0.alloc (.cells #[u0_0, u0_1, u0_2, u0_3, u0_4, u0_5, u0_6, u0_7, u0_8, u0_9, u0_10, u0_11, u0_12, u0_13, u0_14, u0_15, u0_16] 51)).alloc (.cells #[u1_0, u1_1] 24)) (W0.heap.size + 1) [u1_0, u1_1] by have h := Box.new (W0.alloc (.cells #[u0_0, u0_1, u0_2, u0_3, u0_4, u0_5, u0_6, u0_7, u0_8, u0_9, u0_10, u0_11, u0_12, u0_13, u0_14, u0_15, u0_16] 51)) #[u1_0, u1_1] 24; simpa using h))
  clear w0
  clear w1
  go_enter Try.func6, Try.ntmps6
  by_cases hn_aS : 1048576 < (totSigned y0 : Int)
  · have HN := Lib.hid hn_aS
    clear hn_aS
    go_wp2_with (refine LD.wp_ld LD.big_lSigned rfl _ rfl rfl HX_aS_0.out rfl ?_)
    refine (szSigned_any [u0_0, u0_1, u0_2, u0_3, u0_4, u0_5, u0_6, u0_7, u0_8, u0_9, u0_10, u0_11, u0_12, u0_13, u0_14, u0_15, u0_16] y0 1048576 _ (RSigned.more HO_aS_0.out fun i hi => Nat.lt_of_lt_of_le hi HA_0.out.size) (by omega) (by omega)).mono ?_
    rw [if_pos HN.out]
    rintro e W_1 ⟨rfl, hb⟩
    have HAe := Lib.hid (HA_0.out.trans (hb.mono HA_0.out.size))
    clear hb
    go_wp2
    go_ret
    exact ⟨rfl, HAe.out⟩
  have hY0 : totSigned y0 ≤ 1048576 := by omega
  have HN_aS := Lib.hid hn_aS
  clear hn_aS
  go_wp2_with (refine LD.wp_ld LD.big_lSigned rfl _ rfl rfl HX_aS_0.out rfl ?_)
  refine (szSigned_any [u0_0, u0_1, u0_2, u0_3, u0_4, u0_5, u0_6, u0_7, u0_8, u0_9, u0_10, u0_11, u0_12, u0_13, u0_14, u0_15, u0_16] y0 1048576 _ (RSigned.more HO_aS_0.out fun i hi => Nat.lt_of_lt_of_le hi HA_0.out.size) (by omega) (by omega)).mono ?_
  rw [if_neg (show ¬ 1048576 < (totSigned y0 : Int) by have := HN_aS.out; omega)]
  rintro e W_1 ⟨rfl, hb⟩
  obtain ⟨qq0, hqq0⟩ : ∃ x, x = 1048576 - (totSigned y0 : Int) := ⟨_, rfl⟩
  rw [← hqq0]
  have hqq0l : 0 ≤ qq0 ∧ qq0 ≤ 1048576 := by have := HN_aS.out; omega
  have hqq0n : ¬ qq0 < 0 := by omega
  clear hqq0
  have HB_0 := Lib.hid hb
  have HZ_0 := Lib.hid HB_0.out.size
  have HA_1 := Lib.hid (HA_0.out.trans (HB_0.out.mono HA_0.out.size))
  have HO_aS_1 := Lib.hid (RSigned.keep HO_aS_0.out fun i hi => HB_0.out.block i (Nat.lt_of_lt_of_le hi HA_0.out.size))
  have HO_aK_1 := Lib.hid (RKeys.keep HO_aK_0.out fun i hi => HB_0.out.block i (Nat.lt_of_lt_of_le hi HA_0.out.size))
  have HX_aS_1 := Lib.hid (HX_aS_0.out.below HB_0.out HX_aS_0.out.lt)
  have HX_aK_1 := Lib.hid (HX_aK_0.out.below HB_0.out HX_aK_0.out.lt)
  clear hb
  have x_aK_0 := HX_aK_1.out.cell (j := 0) rfl
  have x_aK_1 := HX_aK_1.out.cell (j := 1) rfl
  by_cases hn_aK : qq0 < (totKeys y1 : Int)
  · have HN := Lib.hid hn_aK
    clear hn_aK
    go_wp2_with fail
    refine (szKeys_any [u1_0, u1_1] y1 qq0 _ (RKeys.more HO_aK_1.out fun i hi => Nat.lt_of_lt_of_le hi HA_1.out.size) (by omega) (by omega)).mono ?_
    rw [if_pos HN.out]
    rintro e W_2 ⟨rfl, hb⟩
    have HAe := Lib.hid (HA_1.out.trans (hb.mono HA_1.out.size))
    clear hb
    go_wp2
    go_ret
    exact ⟨rfl, HAe.out⟩
  have hY1 : totKeys y1 ≤ 1048576 := by omega
  have HN_aK := Lib.hid hn_aK
  clear hn_aK
  go_wp2_with fail
  refine (szKeys_any [u1_0, u1_1] y1 qq0 _ (RKeys.more HO_aK_1.out fun i hi => Nat.lt_of_lt_of_le hi HA_1.out.size) (by omega) (by omega)).mono ?_
  rw [if_neg (show ¬ qq0 < (totKeys y1 : Int) by have := HN_aK.out; omega)]
  rintro e W_2 ⟨rfl, hb⟩
  obtain ⟨qq1, hqq1⟩ : ∃ x, x = qq0 - (totKeys y1 : Int) := ⟨_, rfl⟩
  rw [← hqq1]
  have hqq1l : 0 ≤ qq1 ∧ qq1 ≤ 1048576 := by have := HN_aK.out; omega
  have hqq1n : ¬ qq1 < 0 := by omega
  clear hqq1
  have HB_1 := Lib.hid hb
  have HZ_1 := Lib.hid HB_1.out.size
  have HA_2 := Lib.hid (HA_1.out.trans (HB_1.out.mono HA_1.out.size))
  have HO_aS_2 := Lib.hid (RSigned.keep HO_aS_1.out fun i hi => HB_1.out.block i (Nat.lt_of_lt_of_le hi HA_1.out.size))
  have HO_aK_2 := Lib.hid (RKeys.keep HO_aK_1.out fun i hi => HB_1.out.block i (Nat.lt_of_lt_of_le hi HA_1.out.size))
  have HX_aS_2 := Lib.hid (HX_aS_1.out.below HB_1.out HX_aS_1.out.lt)
  have HX_aK_2 := Lib.hid (HX_aK_1.out.below HB_1.out HX_aK_1.out.lt)
  clear hb
  clear x_aK_0 x_aK_1
  obtain ⟨r0, hS, hI⟩ := both_CountSignedSigs y0 y1 hY0 hY1
  have HS := Lib.hid hS
  have HI := Lib.hid hI
  clear hS hI
  have hcy0 := cntSigned_le y0
  have hcy1 := cntKeys_le y1
  go_wp2_with fail
  refine RG.region (tabP [sv (.agg #[u0_0, u0_1, u0_2, u0_3, u0_4, u0_5, u0_6, u0_7, u0_8, u0_9, u0_10, u0_11, u0_12, u0_13, u0_14, u0_15, u0_16]), srep RSigned (y0), sv (.agg #[u1_0, u1_1]), srep RKeys (y1), sv (.int .i64 (r0)), sv (.int .i64 (r0))]) (by kernel_rfl) (by kernel_rfl) (tab_keep _) ?_ ?_
  · refine steps_cons ?_ (steps_cons ?_ (steps_cons ?_ (steps_cons ?_ (steps_cons ?_ (steps_cons ?_ (steps_nil))))))
    · intro aa ww hA K hK
      refine free rfl ?_
      have e2 : aa.tmps.getD 2 undef = .pointer (some ⟨W0.heap.size, 0, none⟩) := hA.old 2 (by kernel_rfl)
      have ldHX_aS_2 := LD.ld_run LD.big_lSigned (HX_aS_2.out.keep (hA.bel.block (W0.heap.size) HX_aS_2.out.lt)) rfl
      exact gives hK (v := .agg #[u0_0, u0_1, u0_2, u0_3, u0_4, u0_5, u0_6, u0_7, u0_8, u0_9, u0_10, u0_11, u0_12, u0_13, u0_14, u0_15, u0_16]) (by simp only [execOp, Act.eval, e2, ldHX_aS_2, Sem.run_bind, Sem.run_pure, Result.andThen_ok]) rfl
    · intro aa ww hA K hK
      refine free rfl ?_
      have e20 : aa.tmps.getD 20 undef = .agg #[u0_0, u0_1, u0_2, u0_3, u0_4, u0_5, u0_6, u0_7, u0_8, u0_9, u0_10, u0_11, u0_12, u0_13, u0_14, u0_15, u0_16] := hA.got 0 20 (by kernel_rfl)
      refine calls hK (by simp [Act.eval, e20, go_sem]) (toSigned_any [u0_0, u0_1, u0_2, u0_3, u0_4, u0_5, u0_6, u0_7, u0_8, u0_9, u0_10, u0_11, u0_12, u0_13, u0_14, u0_15, u0_16] y0 ww (rgUp (RSigned.more HO_aS_2.out fun i hi => Nat.lt_of_lt_of_le hi HA_2.out.size) (RKA.below_drew hA.bel)) (by omega)) ?_
      rintro e w1 ⟨cs9, rfl, hown, hb⟩
      exact ⟨_, rfl, hb, ⟨cs9, rfl, hown.rd⟩⟩
    · intro aa ww hA K hK
      refine free rfl ?_
      have e3 : aa.tmps.getD 3 undef = .pointer (some ⟨W0.heap.size + 1, 0, none⟩) := hA.old 3 (by kernel_rfl)
      have cqHX_aK_20 := (hA.bel.cell (p := ⟨W0.heap.size + 1, 0, none⟩) HX_aK_2.out.lt).trans (HX_aK_2.out.cell (j := 0) rfl)
      have cqHX_aK_21 := (hA.bel.cell (p := ⟨W0.heap.size + 1, 1, none⟩) HX_aK_2.out.lt).trans (HX_aK_2.out.cell (j := 1) rfl)
      exact gives hK (v := .agg #[u1_0, u1_1]) (by simp [execOp, Act.eval, e3, cqHX_aK_20, cqHX_aK_21, go_sem]) rfl
    · intro aa ww hA K hK
      refine free rfl ?_
      have e22 : aa.tmps.getD 22 undef = .agg #[u1_0, u1_1] := hA.got 2 22 (by kernel_rfl)
      refine calls hK (by simp [Act.eval, e22, go_sem]) (toKeys_any [u1_0, u1_1] y1 ww (rgUp (RKeys.more HO_aK_2.out fun i hi => Nat.lt_of_lt_of_le hi HA_2.out.size) (RKA.below_drew hA.bel)) (by omega)) ?_
      rintro e w1 ⟨cs9, rfl, hown, hb⟩
      exact ⟨_, rfl, hb, ⟨cs9, rfl, hown.rd⟩⟩
    · intro aa ww hA K hK
      refine free rfl ?_
      obtain ⟨q21, e21, h21⟩ := hA.got 1 21 (by kernel_rfl)
      obtain ⟨q23, e23, h23⟩ := hA.got 3 23 (by kernel_rfl)
      refine calls hK (by simp [Act.eval, e21, e23, go_sem]) (HS.out q21 q23 ww h21 h23) ?_
      rintro e w1 ⟨rfl, hb⟩
      exact ⟨_, rfl, hb, rfl⟩
    · intro aa ww hA K hK
      refine free rfl ?_
      exact gives hK rfl (hA.got 4 24 (by kernel_rfl))
  · intro a1 W_3 hb hd hsz hold hgot
    have g6 : a1.tmps.getD 6 undef = .int .i64 (r0) := hgot 5 6 (by kernel_rfl)
    have ea := act_put hd hsz hold [20, 21, 22, 23, 24, 6] rfl
    simp only [List.foldl_cons, List.foldl_nil, g6] at ea
    rename_i K9 hK9
    refine hK9 a1 W_3 ?_
    generalize a1.tmps.getD 20 undef = v20 at ea
    generalize a1.tmps.getD 21 undef = v21 at ea
    generalize a1.tmps.getD 22 undef = v22 at ea
    generalize a1.tmps.getD 23 undef = v23 at ea
    generalize a1.tmps.getD 24 undef = v24 at ea
    clear hgot hold hsz hd g6
    simp only [Act.put, List.setIfInBounds_toArray, List.set_cons_succ, List.set_cons_zero] at ea
    subst ea
    have hb := RKA.below_drew hb
    have HB_2 := Lib.hid hb
    have HZ_2 := Lib.hid HB_2.out.size
    have HA_3 := Lib.hid (HA_2.out.trans (HB_2.out.mono HA_2.out.size))
    have HO_aS_3 := Lib.hid (RSigned.keep HO_aS_2.out fun i hi => HB_2.out.block i (Nat.lt_of_lt_of_le hi HA_2.out.size))
    have HO_aK_3 := Lib.hid (RKeys.keep HO_aK_2.out fun i hi => HB_2.out.block i (Nat.lt_of_lt_of_le hi HA_2.out.size))
    have HX_aS_3 := Lib.hid (HX_aS_2.out.below HB_2.out HX_aS_2.out.lt)
    have HX_aK_3 := Lib.hid (HX_aK_2.out.below HB_2.out HX_aK_2.out.lt)
    clear hb
    go_wp2_with (refine LD.wp_ld LD.big_lSigned rfl _ rfl rfl HX_aS_3.out rfl ?_)
    refine (toSigned_any [u0_0, u0_1, u0_2, u0_3, u0_4, u0_5, u0_6, u0_7, u0_8, u0_9, u0_10, u0_11, u0_12, u0_13, u0_14, u0_15, u0_16] y0 _ (RSigned.more HO_aS_3.out fun i hi => Nat.lt_of_lt_of_le hi HA_3.out.size) (by omega)).mono ?_
    rintro e W_4 ⟨cs_x0, rfl, hown, hb⟩
    obtain ⟨A_x0_8, n_x0_8, c_x0_8, A_x0_10, n_x0_10, c_x0_10, A_x0_13, n_x0_13, c_x0_13, A_x0_16, n_x0_16, c_x0_16, rfl⟩ := RSigned_shape hown.rd
    have HO_x0_4 := Lib.hid (hown.alloc (.cells #[(.int .i64 y0.head.zone), (.int .i64 y0.head.epoch), (.int .i64 y0.head.kind), (.int .i64 y0.head.time), (.int .i64 y0.head.until_), (.int .i64 y0.head.count), (.int .i64 y0.head.root), (.int .i64 y0.head.prev), (.slice A_x0_8 n_x0_8 c_x0_8), (.int .i64 y0.head.keys.need), (.slice A_x0_10 n_x0_10 c_x0_10), (.int .i64 y0.head.heirs.need), (.int .i64 y0.head.wait), (.slice A_x0_13 n_x0_13 c_x0_13), (.int .i64 y0.head.judge.need), (.bool y0.head.frozen), (.slice A_x0_16 n_x0_16 c_x0_16)] 38))
    have HT_4 := Lib.hid (show W_4.heap.size ≤ (W_4.alloc (.cells #[(.int .i64 y0.head.zone), (.int .i64 y0.head.epoch), (.int .i64 y0.head.kind), (.int .i64 y0.head.time), (.int .i64 y0.head.until_), (.int .i64 y0.head.count), (.int .i64 y0.head.root), (.int .i64 y0.head.prev), (.slice A_x0_8 n_x0_8 c_x0_8), (.int .i64 y0.head.keys.need), (.slice A_x0_10 n_x0_10 c_x0_10), (.int .i64 y0.head.heirs.need), (.int .i64 y0.head.wait), (.slice A_x0_13 n_x0_13 c_x0_13), (.int .i64 y0.head.judge.need), (.bool y0.head.frozen), (.slice A_x0_16 n_x0_16 c_x0_16)] 38)).heap.size by simp)
    have hb3 := hb.alloc hb.size (.cells #[(.int .i64 y0.head.zone), (.int .i64 y0.head.epoch), (.int .i64 y0.head.kind), (.int .i64 y0.head.time), (.int .i64 y0.head.until_), (.int .i64 y0.head.count), (.int .i64 y0.head.root), (.int .i64 y0.head.prev), (.slice A_x0_8 n_x0_8 c_x0_8), (.int .i64 y0.head.keys.need), (.slice A_x0_10 n_x0_10 c_x0_10), (.int .i64 y0.head.heirs.need), (.int .i64 y0.head.wait), (.slice A_x0_13 n_x0_13 c_x0_13), (.int .i64 y0.head.judge.need), (.bool y0.head.frozen), (.slice A_x0_16 n_x0_16 c_x0_16)] 38)
    have HB_3 := Lib.hid hb3
    have HQ_4 := Lib.hid hb.size
    have HZ_3 := Lib.hid HB_3.out.size
    have HA_4 := Lib.hid (HA_3.out.trans (HB_3.out.mono HA_3.out.size))
    have HO_aS_4 := Lib.hid (RSigned.keep HO_aS_3.out fun i hi => HB_3.out.block i (Nat.lt_of_lt_of_le hi HA_3.out.size))
    have HO_aK_4 := Lib.hid (RKeys.keep HO_aK_3.out fun i hi => HB_3.out.block i (Nat.lt_of_lt_of_le hi HA_3.out.size))
    have HX_aS_4 := Lib.hid (HX_aS_3.out.below HB_3.out HX_aS_3.out.lt)
    have HX_aK_4 := Lib.hid (HX_aK_3.out.below HB_3.out HX_aK_3.out.lt)
    clear hb hown
    have HX_x0_4 := Lib.hid (show Box (W_4.alloc (.cells #[(.int .i64 y0.head.zone), (.int .i64 y0.head.epoch), (.int .i64 y0.head.kind), (.int .i64 y0.head.time), (.int .i64 y0.head.until_), (.int .i64 y0.head.count), (.int .i64 y0.head.root), (.int .i64 y0.head.prev), (.slice A_x0_8 n_x0_8 c_x0_8), (.int .i64 y0.head.keys.need), (.slice A_x0_10 n_x0_10 c_x0_10), (.int .i64 y0.head.heirs.need), (.int .i64 y0.head.wait), (.slice A_x0_13 n_x0_13 c_x0_13), (.int .i64 y0.head.judge.need), (.bool y0.head.frozen), (.slice A_x0_16 n_x0_16 c_x0_16)] 38)) W_4.heap.size [(.int .i64 y0.head.zone), (.int .i64 y0.head.epoch), (.int .i64 y0.head.kind), (.int .i64 y0.head.time), (.int .i64 y0.head.until_), (.int .i64 y0.head.count), (.int .i64 y0.head.root), (.int .i64 y0.head.prev), (.slice A_x0_8 n_x0_8 c_x0_8), (.int .i64 y0.head.keys.need), (.slice A_x0_10 n_x0_10 c_x0_10), (.int .i64 y0.head.heirs.need), (.int .i64 y0.head.wait), (.slice A_x0_13 n_x0_13 c_x0_13), (.int .i64 y0.head.judge.need), (.bool y0.head.frozen), (.slice A_x0_16 n_x0_16 c_x0_16)] from Box.new W_4 #[(.int .i64 y0.head.zone), (.int .i64 y0.head.epoch), (.int .i64 y0.head.kind), (.int .i64 y0.head.time), (.int .i64 y0.head.until_), (.int .i64 y0.head.count), (.int .i64 y0.head.root), (.int .i64 y0.head.prev), (.slice A_x0_8 n_x0_8 c_x0_8), (.int .i64 y0.head.keys.need), (.slice A_x0_10 n_x0_10 c_x0_10), (.int .i64 y0.head.heirs.need), (.int .i64 y0.head.wait), (.slice A_x0_13 n_x0_13 c_x0_13), (.int .i64 y0.head.judge.need), (.bool y0.head.frozen), (.slice A_x0_16 n_x0_16 c_x0_16)] 38)
    have x_aK_0 := HX_aK_4.out.cell (j := 0) rfl
    have x_aK_1 := HX_aK_4.out.cell (j := 1) rfl
    go_wp2_with (refine LD.wp_new LD.big_Signed rfl _ _ rfl rfl rfl rfl rfl rfl ?_)
    refine (toKeys_any [u1_0, u1_1] y1 _ (RKeys.more HO_aK_4.out fun i hi => Nat.lt_of_lt_of_le hi HA_4.out.size) (by omega)).mono ?_
    rintro e W_5 ⟨cs_x1, rfl, hown, hb⟩
    obtain ⟨A_x1_0, n_x1_0, c_x1_0, rfl⟩ := RKeys_shape hown.rd
    have HO_x1_5 := Lib.hid (hown.alloc (.cells #[(.slice A_x1_0 n_x1_0 c_x1_0), (.int .i64 y1.need)] 27))
    have HT_5 := Lib.hid (show W_5.heap.size ≤ (W_5.alloc (.cells #[(.slice A_x1_0 n_x1_0 c_x1_0), (.int .i64 y1.need)] 27)).heap.size by simp)
    have hb4 := hb.alloc hb.size (.cells #[(.slice A_x1_0 n_x1_0 c_x1_0), (.int .i64 y1.need)] 27)
    have HB_4 := Lib.hid hb4
    have HQ_5 := Lib.hid hb.size
    have HZ_4 := Lib.hid HB_4.out.size
    have HA_5 := Lib.hid (HA_4.out.trans (HB_4.out.mono HA_4.out.size))
    have HO_aS_5 := Lib.hid (RSigned.keep HO_aS_4.out fun i hi => HB_4.out.block i (Nat.lt_of_lt_of_le hi HA_4.out.size))
    have HO_aK_5 := Lib.hid (RKeys.keep HO_aK_4.out fun i hi => HB_4.out.block i (Nat.lt_of_lt_of_le hi HA_4.out.size))
    have HO_x0_5 := Lib.hid (HO_x0_4.out.below HB_4.out (Nat.le_trans HT_4.out (Nat.le_refl _)))
    have HX_aS_5 := Lib.hid (HX_aS_4.out.below HB_4.out HX_aS_4.out.lt)
    have HX_aK_5 := Lib.hid (HX_aK_4.out.below HB_4.out HX_aK_4.out.lt)
    have HX_x0_5 := Lib.hid (HX_x0_4.out.below HB_4.out HX_x0_4.out.lt)
    clear hb hown
    have HX_x1_5 := Lib.hid (show Box (W_5.alloc (.cells #[(.slice A_x1_0 n_x1_0 c_x1_0), (.int .i64 y1.need)] 27)) W_5.heap.size [(.slice A_x1_0 n_x1_0 c_x1_0), (.int .i64 y1.need)] from Box.new W_5 #[(.slice A_x1_0 n_x1_0 c_x1_0), (.int .i64 y1.need)] 27)
    clear x_aK_0 x_aK_1
    have x_x1_0 := HX_x1_5.out.cell (j := 0) rfl
    have x_x1_1 := HX_x1_5.out.cell (j := 1) rfl
    go_wp2_with (refine LD.wp_ld LD.big_Signed rfl _ rfl rfl HX_x0_5.out rfl ?_)
    refine (HI.out [(.int .i64 y0.head.zone), (.int .i64 y0.head.epoch), (.int .i64 y0.head.kind), (.int .i64 y0.head.time), (.int .i64 y0.head.until_), (.int .i64 y0.head.count), (.int .i64 y0.head.root), (.int .i64 y0.head.prev), (.slice A_x0_8 n_x0_8 c_x0_8), (.int .i64 y0.head.keys.need), (.slice A_x0_10 n_x0_10 c_x0_10), (.int .i64 y0.head.heirs.need), (.int .i64 y0.head.wait), (.slice A_x0_13 n_x0_13 c_x0_13), (.int .i64 y0.head.judge.need), (.bool y0.head.frozen), (.slice A_x0_16 n_x0_16 c_x0_16)] [(.slice A_x1_0 n_x1_0 c_x1_0), (.int .i64 y1.need)] _ (RSigned.more HO_x0_5.out.rd fun i hi => Nat.lt_of_lt_of_le hi (Nat.le_trans HT_4.out HZ_4.out)) (RKeys.more HO_x1_5.out.rd fun i hi => Nat.lt_of_lt_of_le hi (Nat.le_trans HT_5.out (Nat.le_refl _)))).mono ?_
    rintro e W_6 ⟨rfl, hb⟩
    have HB_5 := Lib.hid hb
    have HZ_5 := Lib.hid HB_5.out.size
    have HA_6 := Lib.hid (HA_5.out.trans (HB_5.out.mono HA_5.out.size))
    have HO_aS_6 := Lib.hid (RSigned.keep HO_aS_5.out fun i hi => HB_5.out.block i (Nat.lt_of_lt_of_le hi HA_5.out.size))
    have HO_aK_6 := Lib.hid (RKeys.keep HO_aK_5.out fun i hi => HB_5.out.block i (Nat.lt_of_lt_of_le hi HA_5.out.size))
    have HO_x0_6 := Lib.hid (HO_x0_5.out.below HB_5.out (Nat.le_trans HT_4.out HZ_4.out))
    have HO_x1_6 := Lib.hid (HO_x1_5.out.below HB_5.out (Nat.le_trans HT_5.out (Nat.le_refl _)))
    have HX_aS_6 := Lib.hid (HX_aS_5.out.below HB_5.out HX_aS_5.out.lt)
    have HX_aK_6 := Lib.hid (HX_aK_5.out.below HB_5.out HX_aK_5.out.lt)
    have HX_x0_6 := Lib.hid (HX_x0_5.out.below HB_5.out HX_x0_5.out.lt)
    have HX_x1_6 := Lib.hid (HX_x1_5.out.below HB_5.out HX_x1_5.out.lt)
    clear hb
    clear x_x1_0 x_x1_1
    go_wp2_with fail
    refine RG.region (tabP [sv (.agg #[(.int .i64 y0.head.zone), (.int .i64 y0.head.epoch), (.int .i64 y0.head.kind), (.int .i64 y0.head.time), (.int .i64 y0.head.until_), (.int .i64 y0.head.count), (.int .i64 y0.head.root), (.int .i64 y0.head.prev), (.slice A_x0_8 n_x0_8 c_x0_8), (.int .i64 y0.head.keys.need), (.slice A_x0_10 n_x0_10 c_x0_10), (.int .i64 y0.head.heirs.need), (.int .i64 y0.head.wait), (.slice A_x0_13 n_x0_13 c_x0_13), (.int .i64 y0.head.judge.need), (.bool y0.head.frozen), (.slice A_x0_16 n_x0_16 c_x0_16)]), sv (.agg #[u0_0, u0_1, u0_2, u0_3, u0_4, u0_5, u0_6, u0_7, u0_8, u0_9, u0_10, u0_11, u0_12, u0_13, u0_14, u0_15, u0_16]), srep RSigned (y0), sv (.bool (true)), sv (.bool (!(true)))]) (by kernel_rfl) (by kernel_rfl) (tab_keep _) ?_ ?_
    · refine steps_cons ?_ (steps_cons ?_ (steps_cons ?_ (steps_cons ?_ (steps_cons ?_ (steps_nil)))))
      · intro aa ww hA K hK
        refine free rfl ?_
        have e7 : aa.tmps.getD 7 undef = .pointer (some ⟨W_4.heap.size, 0, none⟩) := hA.old 7 (by kernel_rfl)
        have ldHX_x0_6 := LD.ld_run LD.big_Signed (HX_x0_6.out.keep (hA.bel.block (W_4.heap.size) HX_x0_6.out.lt)) rfl
        exact gives hK (v := .agg #[(.int .i64 y0.head.zone), (.int .i64 y0.head.epoch), (.int .i64 y0.head.kind), (.int .i64 y0.head.time), (.int .i64 y0.head.until_), (.int .i64 y0.head.count), (.int .i64 y0.head.root), (.int .i64 y0.head.prev), (.slice A_x0_8 n_x0_8 c_x0_8), (.int .i64 y0.head.keys.need), (.slice A_x0_10 n_x0_10 c_x0_10), (.int .i64 y0.head.heirs.need), (.int .i64 y0.head.wait), (.slice A_x0_13 n_x0_13 c_x0_13), (.int .i64 y0.head.judge.need), (.bool y0.head.frozen), (.slice A_x0_16 n_x0_16 c_x0_16)]) (by simp only [execOp, Act.eval, e7, ldHX_x0_6, Sem.run_bind, Sem.run_pure, Result.andThen_ok]) rfl
      · intro aa ww hA K hK
        refine free rfl ?_
        have e2 : aa.tmps.getD 2 undef = .pointer (some ⟨W0.heap.size, 0, none⟩) := hA.old 2 (by kernel_rfl)
        have ldHX_aS_6 := LD.ld_run LD.big_lSigned (HX_aS_6.out.keep (hA.bel.block (W0.heap.size) HX_aS_6.out.lt)) rfl
        exact gives hK (v := .agg #[u0_0, u0_1, u0_2, u0_3, u0_4, u0_5, u0_6, u0_7, u0_8, u0_9, u0_10, u0_11, u0_12, u0_13, u0_14, u0_15, u0_16]) (by simp only [execOp, Act.eval, e2, ldHX_aS_6, Sem.run_bind, Sem.run_pure, Result.andThen_ok]) rfl
      · intro aa ww hA K hK
        refine free rfl ?_
        have e36 : aa.tmps.getD 36 undef = .agg #[u0_0, u0_1, u0_2, u0_3, u0_4, u0_5, u0_6, u0_7, u0_8, u0_9, u0_10, u0_11, u0_12, u0_13, u0_14, u0_15, u0_16] := hA.got 1 36 (by kernel_rfl)
        refine calls hK (by simp [Act.eval, e36, go_sem]) (toSigned_any [u0_0, u0_1, u0_2, u0_3, u0_4, u0_5, u0_6, u0_7, u0_8, u0_9, u0_10, u0_11, u0_12, u0_13, u0_14, u0_15, u0_16] y0 ww (rgUp (RSigned.more HO_aS_6.out fun i hi => Nat.lt_of_lt_of_le hi HA_6.out.size) (RKA.below_drew hA.bel)) (by omega)) ?_
        rintro e w1 ⟨cs9, rfl, hown, hb⟩
        exact ⟨_, rfl, hb, ⟨cs9, rfl, hown.rd⟩⟩
      · intro aa ww hA K hK
        refine free rfl ?_
        have e35 : aa.tmps.getD 35 undef = .agg #[(.int .i64 y0.head.zone), (.int .i64 y0.head.epoch), (.int .i64 y0.head.kind), (.int .i64 y0.head.time), (.int .i64 y0.head.until_), (.int .i64 y0.head.count), (.int .i64 y0.head.root), (.int .i64 y0.head.prev), (.slice A_x0_8 n_x0_8 c_x0_8), (.int .i64 y0.head.keys.need), (.slice A_x0_10 n_x0_10 c_x0_10), (.int .i64 y0.head.heirs.need), (.int .i64 y0.head.wait), (.slice A_x0_13 n_x0_13 c_x0_13), (.int .i64 y0.head.judge.need), (.bool y0.head.frozen), (.slice A_x0_16 n_x0_16 c_x0_16)] := hA.got 0 35 (by kernel_rfl)
        obtain ⟨q37, e37, h37⟩ := hA.got 2 37 (by kernel_rfl)
        refine calls hK (by simp [Act.eval, e35, e37, go_sem]) (eqSigned_same _ _ [(.int .i64 y0.head.zone), (.int .i64 y0.head.epoch), (.int .i64 y0.head.kind), (.int .i64 y0.head.time), (.int .i64 y0.head.until_), (.int .i64 y0.head.count), (.int .i64 y0.head.root), (.int .i64 y0.head.prev), (.slice A_x0_8 n_x0_8 c_x0_8), (.int .i64 y0.head.keys.need), (.slice A_x0_10 n_x0_10 c_x0_10), (.int .i64 y0.head.heirs.need), (.int .i64 y0.head.wait), (.slice A_x0_13 n_x0_13 c_x0_13), (.int .i64 y0.head.judge.need), (.bool y0.head.frozen), (.slice A_x0_16 n_x0_16 c_x0_16)] q37 y0 ww (rgUp (RSigned.more HO_x0_6.out.rd fun i hi => Nat.lt_of_lt_of_le hi (Nat.le_trans HT_4.out (Nat.le_trans HZ_4.out HZ_5.out))) (RKA.below_drew hA.bel)) h37 (Nat.le_refl _) (Nat.le_refl _) (by omega)) ?_
        rintro e w1 ⟨rfl, hb⟩
        exact ⟨_, rfl, hb, rfl⟩
      · intro aa ww hA K hK
        refine free rfl ?_
        have e38 : aa.tmps.getD 38 undef = .bool (true) := hA.got 3 38 (by kernel_rfl)
        exact gives hK (v := .bool (!(true))) (by simp [execOp, Act.eval, e38, Op.unary, go_sem]) rfl
    · intro a1 W_7 hb hd hsz hold hgot
      have g39 : a1.tmps.getD 39 undef = .bool false := (hgot 4 39 (by kernel_rfl)).trans (rfl)
      have ea := act_put hd hsz hold [35, 36, 37, 38, 39] rfl
      simp only [List.foldl_cons, List.foldl_nil, g39] at ea
      rename_i K9 hK9
      refine hK9 a1 W_7 ?_
      generalize a1.tmps.getD 35 undef = v35 at ea
      generalize a1.tmps.getD 36 undef = v36 at ea
      generalize a1.tmps.getD 37 undef = v37 at ea
      generalize a1.tmps.getD 38 undef = v38 at ea
      clear hgot hold hsz hd g39
      simp only [Act.put, List.setIfInBounds_toArray, List.set_cons_succ, List.set_cons_zero] at ea
      subst ea
      have hb := RKA.below_drew hb
      have HB_6 := Lib.hid hb
      have HZ_6 := Lib.hid HB_6.out.size
      have HA_7 := Lib.hid (HA_6.out.trans (HB_6.out.mono HA_6.out.size))
      have HO_aK_7 := Lib.hid (RKeys.keep HO_aK_6.out fun i hi => HB_6.out.block i (Nat.lt_of_lt_of_le hi HA_6.out.size))
      have HO_x1_7 := Lib.hid (HO_x1_6.out.below HB_6.out (Nat.le_trans HT_5.out HZ_5.out))
      have HX_aK_7 := Lib.hid (HX_aK_6.out.below HB_6.out HX_aK_6.out.lt)
      have HX_x1_7 := Lib.hid (HX_x1_6.out.below HB_6.out HX_x1_6.out.lt)
      clear hb
      go_wp2_with fail
      refine RG.region (tabP [sv (.agg #[(.slice A_x1_0 n_x1_0 c_x1_0), (.int .i64 y1.need)]), sv (.agg #[u1_0, u1_1]), srep RKeys (y1), sv (.bool (true)), sv (.bool (!(true)))]) (by kernel_rfl) (by kernel_rfl) (tab_keep _) ?_ ?_
      · refine steps_cons ?_ (steps_cons ?_ (steps_cons ?_ (steps_cons ?_ (steps_cons ?_ (steps_nil)))))
        · intro aa ww hA K hK
          refine free rfl ?_
          have e8 : aa.tmps.getD 8 undef = .pointer (some ⟨W_5.heap.size, 0, none⟩) := hA.old 8 (by kernel_rfl)
          have cqHX_x1_70 := (hA.bel.cell (p := ⟨W_5.heap.size, 0, none⟩) HX_x1_7.out.lt).trans (HX_x1_7.out.cell (j := 0) rfl)
          have cqHX_x1_71 := (hA.bel.cell (p := ⟨W_5.heap.size, 1, none⟩) HX_x1_7.out.lt).trans (HX_x1_7.out.cell (j := 1) rfl)
          exact gives hK (v := .agg #[(.slice A_x1_0 n_x1_0 c_x1_0), (.int .i64 y1.need)]) (by simp [execOp, Act.eval, e8, cqHX_x1_70, cqHX_x1_71, go_sem]) rfl
        · intro aa ww hA K hK
          refine free rfl ?_
          have e3 : aa.tmps.getD 3 undef = .pointer (some ⟨W0.heap.size + 1, 0, none⟩) := hA.old 3 (by kernel_rfl)
          have cqHX_aK_70 := (hA.bel.cell (p := ⟨W0.heap.size + 1, 0, none⟩) HX_aK_7.out.lt).trans (HX_aK_7.out.cell (j := 0) rfl)
          have cqHX_aK_71 := (hA.bel.cell (p := ⟨W0.heap.size + 1, 1, none⟩) HX_aK_7.out.lt).trans (HX_aK_7.out.cell (j := 1) rfl)
          exact gives hK (v := .agg #[u1_0, u1_1]) (by simp [execOp, Act.eval, e3, cqHX_aK_70, cqHX_aK_71, go_sem]) rfl
        · intro aa ww hA K hK
          refine free rfl ?_
          have e41 : aa.tmps.getD 41 undef = .agg #[u1_0, u1_1] := hA.got 1 41 (by kernel_rfl)
          refine calls hK (by simp [Act.eval, e41, go_sem]) (toKeys_any [u1_0, u1_1] y1 ww (rgUp (RKeys.more HO_aK_7.out fun i hi => Nat.lt_of_lt_of_le hi HA_7.out.size) (RKA.below_drew hA.bel)) (by omega)) ?_
          rintro e w1 ⟨cs9, rfl, hown, hb⟩
          exact ⟨_, rfl, hb, ⟨cs9, rfl, hown.rd⟩⟩
        · intro aa ww hA K hK
          refine free rfl ?_
          have e40 : aa.tmps.getD 40 undef = .agg #[(.slice A_x1_0 n_x1_0 c_x1_0), (.int .i64 y1.need)] := hA.got 0 40 (by kernel_rfl)
          obtain ⟨q42, e42, h42⟩ := hA.got 2 42 (by kernel_rfl)
          refine calls hK (by simp [Act.eval, e40, e42, go_sem]) (eqKeys_same _ _ [(.slice A_x1_0 n_x1_0 c_x1_0), (.int .i64 y1.need)] q42 y1 ww (rgUp (RKeys.more HO_x1_7.out.rd fun i hi => Nat.lt_of_lt_of_le hi (Nat.le_trans HT_5.out (Nat.le_trans HZ_5.out HZ_6.out))) (RKA.below_drew hA.bel)) h42 (Nat.le_refl _) (Nat.le_refl _) (by omega)) ?_
          rintro e w1 ⟨rfl, hb⟩
          exact ⟨_, rfl, hb, rfl⟩
        · intro aa ww hA K hK
          refine free rfl ?_
          have e43 : aa.tmps.getD 43 undef = .bool (true) := hA.got 3 43 (by kernel_rfl)
          exact gives hK (v := .bool (!(true))) (by simp [execOp, Act.eval, e43, Op.unary, go_sem]) rfl
      · intro a1 W_8 hb hd hsz hold hgot
        have g44 : a1.tmps.getD 44 undef = .bool false := (hgot 4 44 (by kernel_rfl)).trans (rfl)
        have ea := act_put hd hsz hold [40, 41, 42, 43, 44] rfl
        simp only [List.foldl_cons, List.foldl_nil, g44] at ea
        rename_i K9 hK9
        refine hK9 a1 W_8 ?_
        generalize a1.tmps.getD 40 undef = v40 at ea
        generalize a1.tmps.getD 41 undef = v41 at ea
        generalize a1.tmps.getD 42 undef = v42 at ea
        generalize a1.tmps.getD 43 undef = v43 at ea
        clear hgot hold hsz hd g44
        simp only [Act.put, List.setIfInBounds_toArray, List.set_cons_succ, List.set_cons_zero] at ea
        subst ea
        have hb := RKA.below_drew hb
        have HB_7 := Lib.hid hb
        have HZ_7 := Lib.hid HB_7.out.size
        have HA_8 := Lib.hid (HA_7.out.trans (HB_7.out.mono HA_7.out.size))
        clear hb
        go_wp2
        go_ret
        exact ⟨rfl, HA_8.out⟩
theorem FnExactEqualSigned_walk (W0 : World) (u0_0 u0_1 u0_2 u0_3 u0_4 u0_5 u0_6 u0_7 u0_8 u0_9 u0_10 u0_11 u0_12 u0_13 u0_14 u0_15 u0_16 : Value) (y0 : Signed) (w0 : RSigned.rd W0 (Lt W0.heap.size) [u0_0, u0_1, u0_2, u0_3, u0_4, u0_5, u0_6, u0_7, u0_8, u0_9, u0_10, u0_11, u0_12, u0_13, u0_14, u0_15, u0_16] y0) (u1_0 u1_1 u1_2 u1_3 u1_4 u1_5 u1_6 u1_7 u1_8 u1_9 u1_10 u1_11 u1_12 u1_13 u1_14 u1_15 u1_16 : Value) (y1 : Signed) (w1 : RSigned.rd W0 (Lt W0.heap.size) [u1_0, u1_1, u1_2, u1_3, u1_4, u1_5, u1_6, u1_7, u1_8, u1_9, u1_10, u1_11, u1_12, u1_13, u1_14, u1_15, u1_16] y1) :
    Calls Try.prog 7 #[.agg #[u0_0, u0_1, u0_2, u0_3, u0_4, u0_5, u0_6, u0_7, u0_8, u0_9, u0_10, u0_11, u0_12, u0_13, u0_14, u0_15, u0_16], .agg #[u1_0, u1_1, u1_2, u1_3, u1_4, u1_5, u1_6, u1_7, u1_8, u1_9, u1_10, u1_11, u1_12, u1_13, u1_14, u1_15, u1_16]] W0 fun e w' => e = .returned (.bool true) ∧ Below W0.heap.size W0 w' := by
  have HA_0 := Lib.hid (show Below W0.heap.size W0 ((W0.alloc (.cells #[u0_0, u0_1, u0_2, u0_3, u0_4, u0_5, u0_6, u0_7, u0_8, u0_9, u0_10, u0_11, u0_12, u0_13, u0_14, u0_15, u0_16] 51)).alloc (.cells #[u1_0, u1_1, u1_2, u1_3, u1_4, u1_5, u1_6, u1_7, u1_8, u1_9, u1_10, u1_11, u1_12, u1_13, u1_14, u1_15, u1_16] 51)) from ((Below.refl _ _).alloc (by first | (simp; done) | (simp; omega)) _).alloc (by first | (simp; done) | (simp; omega)) _)
  have HO_aA_0 := Lib.hid (RSigned.keep w0 fun i hi => HA_0.out.block i hi)
  have HX_aA_0 := Lib.hid (show Box ((W0.alloc (.cells #[u0_0, u0_1, u0_2, u0_3, u0_4, u0_5, u0_6, u0_7, u0_8, u0_9, u0_10, u0_11, u0_12, u0_13, u0_14, u0_15, u0_16] 51)).alloc (.cells #[u1_0, u1_1, u1_2, u1_3, u1_4, u1_5, u1_6, u1_7, u1_8, u1_9, u1_10, u1_11, u1_12, u1_13, u1_14, u1_15, u1_16] 51)) (W0.heap.size) [u0_0, u0_1, u0_2, u0_3, u0_4, u0_5, u0_6, u0_7, u0_8, u0_9, u0_10, u0_11, u0_12, u0_13, u0_14, u0_15, u0_16] from (show Box (W0.alloc (.cells #[u0_0, u0_1, u0_2, u0_3, u0_4, u0_5, u0_6, u0_7, u0_8, u0_9, u0_10, u0_11, u0_12, u0_13, u0_14, u0_15, u0_16] 51)) (W0.heap.size) [u0_0, u0_1, u0_2, u0_3, u0_4, u0_5, u0_6, u0_7, u0_8, u0_9, u0_10, u0_11, u0_12, u0_13, u0_14, u0_15, u0_16] by have h := Box.new W0 #[u0_0, u0_1, u0_2, u0_3, u0_4, u0_5, u0_6, u0_7, u0_8, u0_9, u0_10, u0_11, u0_12, u0_13, u0_14, u0_15, u0_16] 51; simpa using h).alloc _)
  have HO_aB_0 := Lib.hid (RSigned.keep w1 fun i hi => HA_0.out.block i hi)
  have HX_aB_0 := Lib.hid (show Box ((W0.alloc (.cells #[u0_0, u0_1, u0_2, u0_3, u0_4, u0_5, u0_6, u0_7, u0_8, u0_9, u0_10, u0_11, u0_12, u0_13, u0_14, u0_15, u0_16] 51)).alloc (.cells #[u1_0, u1_1, u1_2, u1_3, u1_4, u1_5, u1_6, u1_7, u1_8, u1_9, u1_10, u1_11, u1_12, u1_13, u1_14, u1_15, u1_16] 51)) (W0.heap.size + 1) [u1_0, u1_1, u1_2, u1_3, u1_4, u1_5, u1_6, u1_7, u1_8, u1_9, u1_10, u1_11, u1_12, u1_13, u1_14, u1_15, u1_16] from (show Box ((W0.alloc (.cells #[u0_0, u0_1, u0_2, u0_3, u0_4, u0_5, u0_6, u0_7, u0_8, u0_9, u0_10, u0_11, u0_12, u0_13, u0_14, u0_15, u0_16] 51)).alloc (.cells #[u1_0, u1_1, u1_2, u1_3, u1_4, u1_5, u1_6, u1_7, u1_8, u1_9, u1_10, u1_11, u1_12, u1_13, u1_14, u1_15, u1_16] 51)) (W0.heap.size + 1) [u1_0, u1_1, u1_2, u1_3, u1_4, u1_5, u1_6, u1_7, u1_8, u1_9, u1_10, u1_11, u1_12, u1_13, u1_14, u1_15, u1_16] by have h := Box.new (W0.alloc (.cells #[u0_0, u0_1, u0_2, u0_3, u0_4, u0_5, u0_6, u0_7, u0_8, u0_9, u0_10, u0_11, u0_12, u0_13, u0_14, u0_15, u0_16] 51)) #[u1_0, u1_1, u1_2, u1_3, u1_4, u1_5, u1_6, u1_7, u1_8, u1_9, u1_10, u1_11, u1_12, u1_13, u1_14, u1_15, u1_16] 51; simpa using h))
  clear w0
  clear w1
  go_enter Try.func7, Try.ntmps7
  by_cases hn_aA : 1048576 < (totSigned y0 : Int)
  · have HN := Lib.hid hn_aA
    clear hn_aA
    go_wp2_with (refine LD.wp_ld LD.big_lSigned rfl _ rfl rfl HX_aA_0.out rfl ?_)
    refine (szSigned_any [u0_0, u0_1, u0_2, u0_3, u0_4, u0_5, u0_6, u0_7, u0_8, u0_9, u0_10, u0_11, u0_12, u0_13, u0_14, u0_15, u0_16] y0 1048576 _ (RSigned.more HO_aA_0.out fun i hi => Nat.lt_of_lt_of_le hi HA_0.out.size) (by omega) (by omega)).mono ?_
    rw [if_pos HN.out]
    rintro e W_1 ⟨rfl, hb⟩
    have HAe := Lib.hid (HA_0.out.trans (hb.mono HA_0.out.size))
    clear hb
    go_wp2
    go_ret
    exact ⟨rfl, HAe.out⟩
  have hY0 : totSigned y0 ≤ 1048576 := by omega
  have HN_aA := Lib.hid hn_aA
  clear hn_aA
  go_wp2_with (refine LD.wp_ld LD.big_lSigned rfl _ rfl rfl HX_aA_0.out rfl ?_)
  refine (szSigned_any [u0_0, u0_1, u0_2, u0_3, u0_4, u0_5, u0_6, u0_7, u0_8, u0_9, u0_10, u0_11, u0_12, u0_13, u0_14, u0_15, u0_16] y0 1048576 _ (RSigned.more HO_aA_0.out fun i hi => Nat.lt_of_lt_of_le hi HA_0.out.size) (by omega) (by omega)).mono ?_
  rw [if_neg (show ¬ 1048576 < (totSigned y0 : Int) by have := HN_aA.out; omega)]
  rintro e W_1 ⟨rfl, hb⟩
  obtain ⟨qq0, hqq0⟩ : ∃ x, x = 1048576 - (totSigned y0 : Int) := ⟨_, rfl⟩
  rw [← hqq0]
  have hqq0l : 0 ≤ qq0 ∧ qq0 ≤ 1048576 := by have := HN_aA.out; omega
  have hqq0n : ¬ qq0 < 0 := by omega
  clear hqq0
  have HB_0 := Lib.hid hb
  have HZ_0 := Lib.hid HB_0.out.size
  have HA_1 := Lib.hid (HA_0.out.trans (HB_0.out.mono HA_0.out.size))
  have HO_aA_1 := Lib.hid (RSigned.keep HO_aA_0.out fun i hi => HB_0.out.block i (Nat.lt_of_lt_of_le hi HA_0.out.size))
  have HO_aB_1 := Lib.hid (RSigned.keep HO_aB_0.out fun i hi => HB_0.out.block i (Nat.lt_of_lt_of_le hi HA_0.out.size))
  have HX_aA_1 := Lib.hid (HX_aA_0.out.below HB_0.out HX_aA_0.out.lt)
  have HX_aB_1 := Lib.hid (HX_aB_0.out.below HB_0.out HX_aB_0.out.lt)
  clear hb
  by_cases hn_aB : qq0 < (totSigned y1 : Int)
  · have HN := Lib.hid hn_aB
    clear hn_aB
    go_wp2_with (refine LD.wp_ld LD.big_lSigned rfl _ rfl rfl HX_aB_1.out rfl ?_)
    refine (szSigned_any [u1_0, u1_1, u1_2, u1_3, u1_4, u1_5, u1_6, u1_7, u1_8, u1_9, u1_10, u1_11, u1_12, u1_13, u1_14, u1_15, u1_16] y1 qq0 _ (RSigned.more HO_aB_1.out fun i hi => Nat.lt_of_lt_of_le hi HA_1.out.size) (by omega) (by omega)).mono ?_
    rw [if_pos HN.out]
    rintro e W_2 ⟨rfl, hb⟩
    have HAe := Lib.hid (HA_1.out.trans (hb.mono HA_1.out.size))
    clear hb
    go_wp2
    go_ret
    exact ⟨rfl, HAe.out⟩
  have hY1 : totSigned y1 ≤ 1048576 := by omega
  have HN_aB := Lib.hid hn_aB
  clear hn_aB
  go_wp2_with (refine LD.wp_ld LD.big_lSigned rfl _ rfl rfl HX_aB_1.out rfl ?_)
  refine (szSigned_any [u1_0, u1_1, u1_2, u1_3, u1_4, u1_5, u1_6, u1_7, u1_8, u1_9, u1_10, u1_11, u1_12, u1_13, u1_14, u1_15, u1_16] y1 qq0 _ (RSigned.more HO_aB_1.out fun i hi => Nat.lt_of_lt_of_le hi HA_1.out.size) (by omega) (by omega)).mono ?_
  rw [if_neg (show ¬ qq0 < (totSigned y1 : Int) by have := HN_aB.out; omega)]
  rintro e W_2 ⟨rfl, hb⟩
  obtain ⟨qq1, hqq1⟩ : ∃ x, x = qq0 - (totSigned y1 : Int) := ⟨_, rfl⟩
  rw [← hqq1]
  have hqq1l : 0 ≤ qq1 ∧ qq1 ≤ 1048576 := by have := HN_aB.out; omega
  have hqq1n : ¬ qq1 < 0 := by omega
  clear hqq1
  have HB_1 := Lib.hid hb
  have HZ_1 := Lib.hid HB_1.out.size
  have HA_2 := Lib.hid (HA_1.out.trans (HB_1.out.mono HA_1.out.size))
  have HO_aA_2 := Lib.hid (RSigned.keep HO_aA_1.out fun i hi => HB_1.out.block i (Nat.lt_of_lt_of_le hi HA_1.out.size))
  have HO_aB_2 := Lib.hid (RSigned.keep HO_aB_1.out fun i hi => HB_1.out.block i (Nat.lt_of_lt_of_le hi HA_1.out.size))
  have HX_aA_2 := Lib.hid (HX_aA_1.out.below HB_1.out HX_aA_1.out.lt)
  have HX_aB_2 := Lib.hid (HX_aB_1.out.below HB_1.out HX_aB_1.out.lt)
  clear hb
  obtain ⟨r0, hS, hI⟩ := both_EqualSigned y0 y1 hY0 hY1
  have HS := Lib.hid hS
  have HI := Lib.hid hI
  clear hS hI
  have hcy0 := cntSigned_le y0
  have hcy1 := cntSigned_le y1
  go_wp2_with fail
  refine RG.region (tabP [sv (.agg #[u0_0, u0_1, u0_2, u0_3, u0_4, u0_5, u0_6, u0_7, u0_8, u0_9, u0_10, u0_11, u0_12, u0_13, u0_14, u0_15, u0_16]), srep RSigned (y0), sv (.agg #[u1_0, u1_1, u1_2, u1_3, u1_4, u1_5, u1_6, u1_7, u1_8, u1_9, u1_10, u1_11, u1_12, u1_13, u1_14, u1_15, u1_16]), srep RSigned (y1), sv (.bool (r0)), sv (.bool (r0))]) (by kernel_rfl) (by kernel_rfl) (tab_keep _) ?_ ?_
  · refine steps_cons ?_ (steps_cons ?_ (steps_cons ?_ (steps_cons ?_ (steps_cons ?_ (steps_cons ?_ (steps_nil))))))
    · intro aa ww hA K hK
      refine free rfl ?_
      have e2 : aa.tmps.getD 2 undef = .pointer (some ⟨W0.heap.size, 0, none⟩) := hA.old 2 (by kernel_rfl)
      have ldHX_aA_2 := LD.ld_run LD.big_lSigned (HX_aA_2.out.keep (hA.bel.block (W0.heap.size) HX_aA_2.out.lt)) rfl
      exact gives hK (v := .agg #[u0_0, u0_1, u0_2, u0_3, u0_4, u0_5, u0_6, u0_7, u0_8, u0_9, u0_10, u0_11, u0_12, u0_13, u0_14, u0_15, u0_16]) (by simp only [execOp, Act.eval, e2, ldHX_aA_2, Sem.run_bind, Sem.run_pure, Result.andThen_ok]) rfl
    · intro aa ww hA K hK
      refine free rfl ?_
      have e20 : aa.tmps.getD 20 undef = .agg #[u0_0, u0_1, u0_2, u0_3, u0_4, u0_5, u0_6, u0_7, u0_8, u0_9, u0_10, u0_11, u0_12, u0_13, u0_14, u0_15, u0_16] := hA.got 0 20 (by kernel_rfl)
      refine calls hK (by simp [Act.eval, e20, go_sem]) (toSigned_any [u0_0, u0_1, u0_2, u0_3, u0_4, u0_5, u0_6, u0_7, u0_8, u0_9, u0_10, u0_11, u0_12, u0_13, u0_14, u0_15, u0_16] y0 ww (rgUp (RSigned.more HO_aA_2.out fun i hi => Nat.lt_of_lt_of_le hi HA_2.out.size) (RKA.below_drew hA.bel)) (by omega)) ?_
      rintro e w1 ⟨cs9, rfl, hown, hb⟩
      exact ⟨_, rfl, hb, ⟨cs9, rfl, hown.rd⟩⟩
    · intro aa ww hA K hK
      refine free rfl ?_
      have e3 : aa.tmps.getD 3 undef = .pointer (some ⟨W0.heap.size + 1, 0, none⟩) := hA.old 3 (by kernel_rfl)
      have ldHX_aB_2 := LD.ld_run LD.big_lSigned (HX_aB_2.out.keep (hA.bel.block (W0.heap.size + 1) HX_aB_2.out.lt)) rfl
      exact gives hK (v := .agg #[u1_0, u1_1, u1_2, u1_3, u1_4, u1_5, u1_6, u1_7, u1_8, u1_9, u1_10, u1_11, u1_12, u1_13, u1_14, u1_15, u1_16]) (by simp only [execOp, Act.eval, e3, ldHX_aB_2, Sem.run_bind, Sem.run_pure, Result.andThen_ok]) rfl
    · intro aa ww hA K hK
      refine free rfl ?_
      have e22 : aa.tmps.getD 22 undef = .agg #[u1_0, u1_1, u1_2, u1_3, u1_4, u1_5, u1_6, u1_7, u1_8, u1_9, u1_10, u1_11, u1_12, u1_13, u1_14, u1_15, u1_16] := hA.got 2 22 (by kernel_rfl)
      refine calls hK (by simp [Act.eval, e22, go_sem]) (toSigned_any [u1_0, u1_1, u1_2, u1_3, u1_4, u1_5, u1_6, u1_7, u1_8, u1_9, u1_10, u1_11, u1_12, u1_13, u1_14, u1_15, u1_16] y1 ww (rgUp (RSigned.more HO_aB_2.out fun i hi => Nat.lt_of_lt_of_le hi HA_2.out.size) (RKA.below_drew hA.bel)) (by omega)) ?_
      rintro e w1 ⟨cs9, rfl, hown, hb⟩
      exact ⟨_, rfl, hb, ⟨cs9, rfl, hown.rd⟩⟩
    · intro aa ww hA K hK
      refine free rfl ?_
      obtain ⟨q21, e21, h21⟩ := hA.got 1 21 (by kernel_rfl)
      obtain ⟨q23, e23, h23⟩ := hA.got 3 23 (by kernel_rfl)
      refine calls hK (by simp [Act.eval, e21, e23, go_sem]) (HS.out q21 q23 ww h21 h23) ?_
      rintro e w1 ⟨rfl, hb⟩
      exact ⟨_, rfl, hb, rfl⟩
    · intro aa ww hA K hK
      refine free rfl ?_
      exact gives hK rfl (hA.got 4 24 (by kernel_rfl))
  · intro a1 W_3 hb hd hsz hold hgot
    have g6 : a1.tmps.getD 6 undef = .bool (r0) := hgot 5 6 (by kernel_rfl)
    have ea := act_put hd hsz hold [20, 21, 22, 23, 24, 6] rfl
    simp only [List.foldl_cons, List.foldl_nil, g6] at ea
    rename_i K9 hK9
    refine hK9 a1 W_3 ?_
    generalize a1.tmps.getD 20 undef = v20 at ea
    generalize a1.tmps.getD 21 undef = v21 at ea
    generalize a1.tmps.getD 22 undef = v22 at ea
    generalize a1.tmps.getD 23 undef = v23 at ea
    generalize a1.tmps.getD 24 undef = v24 at ea
    clear hgot hold hsz hd g6
    simp only [Act.put, List.setIfInBounds_toArray, List.set_cons_succ, List.set_cons_zero] at ea
    subst ea
    have hb := RKA.below_drew hb
    have HB_2 := Lib.hid hb
    have HZ_2 := Lib.hid HB_2.out.size
    have HA_3 := Lib.hid (HA_2.out.trans (HB_2.out.mono HA_2.out.size))
    have HO_aA_3 := Lib.hid (RSigned.keep HO_aA_2.out fun i hi => HB_2.out.block i (Nat.lt_of_lt_of_le hi HA_2.out.size))
    have HO_aB_3 := Lib.hid (RSigned.keep HO_aB_2.out fun i hi => HB_2.out.block i (Nat.lt_of_lt_of_le hi HA_2.out.size))
    have HX_aA_3 := Lib.hid (HX_aA_2.out.below HB_2.out HX_aA_2.out.lt)
    have HX_aB_3 := Lib.hid (HX_aB_2.out.below HB_2.out HX_aB_2.out.lt)
    clear hb
    go_wp2_with (refine LD.wp_ld LD.big_lSigned rfl _ rfl rfl HX_aA_3.out rfl ?_)
    refine (toSigned_any [u0_0, u0_1, u0_2, u0_3, u0_4, u0_5, u0_6, u0_7, u0_8, u0_9, u0_10, u0_11, u0_12, u0_13, u0_14, u0_15, u0_16] y0 _ (RSigned.more HO_aA_3.out fun i hi => Nat.lt_of_lt_of_le hi HA_3.out.size) (by omega)).mono ?_
    rintro e W_4 ⟨cs_x0, rfl, hown, hb⟩
    obtain ⟨A_x0_8, n_x0_8, c_x0_8, A_x0_10, n_x0_10, c_x0_10, A_x0_13, n_x0_13, c_x0_13, A_x0_16, n_x0_16, c_x0_16, rfl⟩ := RSigned_shape hown.rd
    have HO_x0_4 := Lib.hid (hown.alloc (.cells #[(.int .i64 y0.head.zone), (.int .i64 y0.head.epoch), (.int .i64 y0.head.kind), (.int .i64 y0.head.time), (.int .i64 y0.head.until_), (.int .i64 y0.head.count), (.int .i64 y0.head.root), (.int .i64 y0.head.prev), (.slice A_x0_8 n_x0_8 c_x0_8), (.int .i64 y0.head.keys.need), (.slice A_x0_10 n_x0_10 c_x0_10), (.int .i64 y0.head.heirs.need), (.int .i64 y0.head.wait), (.slice A_x0_13 n_x0_13 c_x0_13), (.int .i64 y0.head.judge.need), (.bool y0.head.frozen), (.slice A_x0_16 n_x0_16 c_x0_16)] 38))
    have HT_4 := Lib.hid (show W_4.heap.size ≤ (W_4.alloc (.cells #[(.int .i64 y0.head.zone), (.int .i64 y0.head.epoch), (.int .i64 y0.head.kind), (.int .i64 y0.head.time), (.int .i64 y0.head.until_), (.int .i64 y0.head.count), (.int .i64 y0.head.root), (.int .i64 y0.head.prev), (.slice A_x0_8 n_x0_8 c_x0_8), (.int .i64 y0.head.keys.need), (.slice A_x0_10 n_x0_10 c_x0_10), (.int .i64 y0.head.heirs.need), (.int .i64 y0.head.wait), (.slice A_x0_13 n_x0_13 c_x0_13), (.int .i64 y0.head.judge.need), (.bool y0.head.frozen), (.slice A_x0_16 n_x0_16 c_x0_16)] 38)).heap.size by simp)
    have hb3 := hb.alloc hb.size (.cells #[(.int .i64 y0.head.zone), (.int .i64 y0.head.epoch), (.int .i64 y0.head.kind), (.int .i64 y0.head.time), (.int .i64 y0.head.until_), (.int .i64 y0.head.count), (.int .i64 y0.head.root), (.int .i64 y0.head.prev), (.slice A_x0_8 n_x0_8 c_x0_8), (.int .i64 y0.head.keys.need), (.slice A_x0_10 n_x0_10 c_x0_10), (.int .i64 y0.head.heirs.need), (.int .i64 y0.head.wait), (.slice A_x0_13 n_x0_13 c_x0_13), (.int .i64 y0.head.judge.need), (.bool y0.head.frozen), (.slice A_x0_16 n_x0_16 c_x0_16)] 38)
    have HB_3 := Lib.hid hb3
    have HQ_4 := Lib.hid hb.size
    have HZ_3 := Lib.hid HB_3.out.size
    have HA_4 := Lib.hid (HA_3.out.trans (HB_3.out.mono HA_3.out.size))
    have HO_aA_4 := Lib.hid (RSigned.keep HO_aA_3.out fun i hi => HB_3.out.block i (Nat.lt_of_lt_of_le hi HA_3.out.size))
    have HO_aB_4 := Lib.hid (RSigned.keep HO_aB_3.out fun i hi => HB_3.out.block i (Nat.lt_of_lt_of_le hi HA_3.out.size))
    have HX_aA_4 := Lib.hid (HX_aA_3.out.below HB_3.out HX_aA_3.out.lt)
    have HX_aB_4 := Lib.hid (HX_aB_3.out.below HB_3.out HX_aB_3.out.lt)
    clear hb hown
    have HX_x0_4 := Lib.hid (show Box (W_4.alloc (.cells #[(.int .i64 y0.head.zone), (.int .i64 y0.head.epoch), (.int .i64 y0.head.kind), (.int .i64 y0.head.time), (.int .i64 y0.head.until_), (.int .i64 y0.head.count), (.int .i64 y0.head.root), (.int .i64 y0.head.prev), (.slice A_x0_8 n_x0_8 c_x0_8), (.int .i64 y0.head.keys.need), (.slice A_x0_10 n_x0_10 c_x0_10), (.int .i64 y0.head.heirs.need), (.int .i64 y0.head.wait), (.slice A_x0_13 n_x0_13 c_x0_13), (.int .i64 y0.head.judge.need), (.bool y0.head.frozen), (.slice A_x0_16 n_x0_16 c_x0_16)] 38)) W_4.heap.size [(.int .i64 y0.head.zone), (.int .i64 y0.head.epoch), (.int .i64 y0.head.kind), (.int .i64 y0.head.time), (.int .i64 y0.head.until_), (.int .i64 y0.head.count), (.int .i64 y0.head.root), (.int .i64 y0.head.prev), (.slice A_x0_8 n_x0_8 c_x0_8), (.int .i64 y0.head.keys.need), (.slice A_x0_10 n_x0_10 c_x0_10), (.int .i64 y0.head.heirs.need), (.int .i64 y0.head.wait), (.slice A_x0_13 n_x0_13 c_x0_13), (.int .i64 y0.head.judge.need), (.bool y0.head.frozen), (.slice A_x0_16 n_x0_16 c_x0_16)] from Box.new W_4 #[(.int .i64 y0.head.zone), (.int .i64 y0.head.epoch), (.int .i64 y0.head.kind), (.int .i64 y0.head.time), (.int .i64 y0.head.until_), (.int .i64 y0.head.count), (.int .i64 y0.head.root), (.int .i64 y0.head.prev), (.slice A_x0_8 n_x0_8 c_x0_8), (.int .i64 y0.head.keys.need), (.slice A_x0_10 n_x0_10 c_x0_10), (.int .i64 y0.head.heirs.need), (.int .i64 y0.head.wait), (.slice A_x0_13 n_x0_13 c_x0_13), (.int .i64 y0.head.judge.need), (.bool y0.head.frozen), (.slice A_x0_16 n_x0_16 c_x0_16)] 38)
    go_wp2_with (first | (refine LD.wp_ld LD.big_lSigned rfl _ rfl rfl HX_aB_4.out rfl ?_) | (refine LD.wp_new LD.big_Signed rfl _ _ rfl rfl rfl rfl rfl rfl ?_))
    refine (toSigned_any [u1_0, u1_1, u1_2, u1_3, u1_4, u1_5, u1_6, u1_7, u1_8, u1_9, u1_10, u1_11, u1_12, u1_13, u1_14, u1_15, u1_16] y1 _ (RSigned.more HO_aB_4.out fun i hi => Nat.lt_of_lt_of_le hi HA_4.out.size) (by omega)).mono ?_
    rintro e W_5 ⟨cs_x1, rfl, hown, hb⟩
    obtain ⟨A_x1_8, n_x1_8, c_x1_8, A_x1_10, n_x1_10, c_x1_10, A_x1_13, n_x1_13, c_x1_13, A_x1_16, n_x1_16, c_x1_16, rfl⟩ := RSigned_shape hown.rd
    have HO_x1_5 := Lib.hid (hown.alloc (.cells #[(.int .i64 y1.head.zone), (.int .i64 y1.head.epoch), (.int .i64 y1.head.kind), (.int .i64 y1.head.time), (.int .i64 y1.head.until_), (.int .i64 y1.head.count), (.int .i64 y1.head.root), (.int .i64 y1.head.prev), (.slice A_x1_8 n_x1_8 c_x1_8), (.int .i64 y1.head.keys.need), (.slice A_x1_10 n_x1_10 c_x1_10), (.int .i64 y1.head.heirs.need), (.int .i64 y1.head.wait), (.slice A_x1_13 n_x1_13 c_x1_13), (.int .i64 y1.head.judge.need), (.bool y1.head.frozen), (.slice A_x1_16 n_x1_16 c_x1_16)] 38))
    have HT_5 := Lib.hid (show W_5.heap.size ≤ (W_5.alloc (.cells #[(.int .i64 y1.head.zone), (.int .i64 y1.head.epoch), (.int .i64 y1.head.kind), (.int .i64 y1.head.time), (.int .i64 y1.head.until_), (.int .i64 y1.head.count), (.int .i64 y1.head.root), (.int .i64 y1.head.prev), (.slice A_x1_8 n_x1_8 c_x1_8), (.int .i64 y1.head.keys.need), (.slice A_x1_10 n_x1_10 c_x1_10), (.int .i64 y1.head.heirs.need), (.int .i64 y1.head.wait), (.slice A_x1_13 n_x1_13 c_x1_13), (.int .i64 y1.head.judge.need), (.bool y1.head.frozen), (.slice A_x1_16 n_x1_16 c_x1_16)] 38)).heap.size by simp)
    have hb4 := hb.alloc hb.size (.cells #[(.int .i64 y1.head.zone), (.int .i64 y1.head.epoch), (.int .i64 y1.head.kind), (.int .i64 y1.head.time), (.int .i64 y1.head.until_), (.int .i64 y1.head.count), (.int .i64 y1.head.root), (.int .i64 y1.head.prev), (.slice A_x1_8 n_x1_8 c_x1_8), (.int .i64 y1.head.keys.need), (.slice A_x1_10 n_x1_10 c_x1_10), (.int .i64 y1.head.heirs.need), (.int .i64 y1.head.wait), (.slice A_x1_13 n_x1_13 c_x1_13), (.int .i64 y1.head.judge.need), (.bool y1.head.frozen), (.slice A_x1_16 n_x1_16 c_x1_16)] 38)
    have HB_4 := Lib.hid hb4
    have HQ_5 := Lib.hid hb.size
    have HZ_4 := Lib.hid HB_4.out.size
    have HA_5 := Lib.hid (HA_4.out.trans (HB_4.out.mono HA_4.out.size))
    have HO_aA_5 := Lib.hid (RSigned.keep HO_aA_4.out fun i hi => HB_4.out.block i (Nat.lt_of_lt_of_le hi HA_4.out.size))
    have HO_aB_5 := Lib.hid (RSigned.keep HO_aB_4.out fun i hi => HB_4.out.block i (Nat.lt_of_lt_of_le hi HA_4.out.size))
    have HO_x0_5 := Lib.hid (HO_x0_4.out.below HB_4.out (Nat.le_trans HT_4.out (Nat.le_refl _)))
    have HX_aA_5 := Lib.hid (HX_aA_4.out.below HB_4.out HX_aA_4.out.lt)
    have HX_aB_5 := Lib.hid (HX_aB_4.out.below HB_4.out HX_aB_4.out.lt)
    have HX_x0_5 := Lib.hid (HX_x0_4.out.below HB_4.out HX_x0_4.out.lt)
    clear hb hown
    have HX_x1_5 := Lib.hid (show Box (W_5.alloc (.cells #[(.int .i64 y1.head.zone), (.int .i64 y1.head.epoch), (.int .i64 y1.head.kind), (.int .i64 y1.head.time), (.int .i64 y1.head.until_), (.int .i64 y1.head.count), (.int .i64 y1.head.root), (.int .i64 y1.head.prev), (.slice A_x1_8 n_x1_8 c_x1_8), (.int .i64 y1.head.keys.need), (.slice A_x1_10 n_x1_10 c_x1_10), (.int .i64 y1.head.heirs.need), (.int .i64 y1.head.wait), (.slice A_x1_13 n_x1_13 c_x1_13), (.int .i64 y1.head.judge.need), (.bool y1.head.frozen), (.slice A_x1_16 n_x1_16 c_x1_16)] 38)) W_5.heap.size [(.int .i64 y1.head.zone), (.int .i64 y1.head.epoch), (.int .i64 y1.head.kind), (.int .i64 y1.head.time), (.int .i64 y1.head.until_), (.int .i64 y1.head.count), (.int .i64 y1.head.root), (.int .i64 y1.head.prev), (.slice A_x1_8 n_x1_8 c_x1_8), (.int .i64 y1.head.keys.need), (.slice A_x1_10 n_x1_10 c_x1_10), (.int .i64 y1.head.heirs.need), (.int .i64 y1.head.wait), (.slice A_x1_13 n_x1_13 c_x1_13), (.int .i64 y1.head.judge.need), (.bool y1.head.frozen), (.slice A_x1_16 n_x1_16 c_x1_16)] from Box.new W_5 #[(.int .i64 y1.head.zone), (.int .i64 y1.head.epoch), (.int .i64 y1.head.kind), (.int .i64 y1.head.time), (.int .i64 y1.head.until_), (.int .i64 y1.head.count), (.int .i64 y1.head.root), (.int .i64 y1.head.prev), (.slice A_x1_8 n_x1_8 c_x1_8), (.int .i64 y1.head.keys.need), (.slice A_x1_10 n_x1_10 c_x1_10), (.int .i64 y1.head.heirs.need), (.int .i64 y1.head.wait), (.slice A_x1_13 n_x1_13 c_x1_13), (.int .i64 y1.head.judge.need), (.bool y1.head.frozen), (.slice A_x1_16 n_x1_16 c_x1_16)] 38)
    go_wp2_with (first | (refine LD.wp_ld LD.big_Signed rfl _ rfl rfl HX_x0_5.out rfl ?_) | (refine LD.wp_ld LD.big_Signed rfl _ rfl rfl HX_x1_5.out rfl ?_) | (refine LD.wp_new LD.big_Signed rfl _ _ rfl rfl rfl rfl rfl rfl ?_))
    refine (HI.out [(.int .i64 y0.head.zone), (.int .i64 y0.head.epoch), (.int .i64 y0.head.kind), (.int .i64 y0.head.time), (.int .i64 y0.head.until_), (.int .i64 y0.head.count), (.int .i64 y0.head.root), (.int .i64 y0.head.prev), (.slice A_x0_8 n_x0_8 c_x0_8), (.int .i64 y0.head.keys.need), (.slice A_x0_10 n_x0_10 c_x0_10), (.int .i64 y0.head.heirs.need), (.int .i64 y0.head.wait), (.slice A_x0_13 n_x0_13 c_x0_13), (.int .i64 y0.head.judge.need), (.bool y0.head.frozen), (.slice A_x0_16 n_x0_16 c_x0_16)] [(.int .i64 y1.head.zone), (.int .i64 y1.head.epoch), (.int .i64 y1.head.kind), (.int .i64 y1.head.time), (.int .i64 y1.head.until_), (.int .i64 y1.head.count), (.int .i64 y1.head.root), (.int .i64 y1.head.prev), (.slice A_x1_8 n_x1_8 c_x1_8), (.int .i64 y1.head.keys.need), (.slice A_x1_10 n_x1_10 c_x1_10), (.int .i64 y1.head.heirs.need), (.int .i64 y1.head.wait), (.slice A_x1_13 n_x1_13 c_x1_13), (.int .i64 y1.head.judge.need), (.bool y1.head.frozen), (.slice A_x1_16 n_x1_16 c_x1_16)] _ (RSigned.more HO_x0_5.out.rd fun i hi => Nat.lt_of_lt_of_le hi (Nat.le_trans HT_4.out HZ_4.out)) (RSigned.more HO_x1_5.out.rd fun i hi => Nat.lt_of_lt_of_le hi (Nat.le_trans HT_5.out (Nat.le_refl _)))).mono ?_
    rintro e W_6 ⟨rfl, hb⟩
    have HB_5 := Lib.hid hb
    have HZ_5 := Lib.hid HB_5.out.size
    have HA_6 := Lib.hid (HA_5.out.trans (HB_5.out.mono HA_5.out.size))
    have HO_aA_6 := Lib.hid (RSigned.keep HO_aA_5.out fun i hi => HB_5.out.block i (Nat.lt_of_lt_of_le hi HA_5.out.size))
    have HO_aB_6 := Lib.hid (RSigned.keep HO_aB_5.out fun i hi => HB_5.out.block i (Nat.lt_of_lt_of_le hi HA_5.out.size))
    have HO_x0_6 := Lib.hid (HO_x0_5.out.below HB_5.out (Nat.le_trans HT_4.out HZ_4.out))
    have HO_x1_6 := Lib.hid (HO_x1_5.out.below HB_5.out (Nat.le_trans HT_5.out (Nat.le_refl _)))
    have HX_aA_6 := Lib.hid (HX_aA_5.out.below HB_5.out HX_aA_5.out.lt)
    have HX_aB_6 := Lib.hid (HX_aB_5.out.below HB_5.out HX_aB_5.out.lt)
    have HX_x0_6 := Lib.hid (HX_x0_5.out.below HB_5.out HX_x0_5.out.lt)
    have HX_x1_6 := Lib.hid (HX_x1_5.out.below HB_5.out HX_x1_5.out.lt)
    clear hb
    go_wp2_with fail
    refine RG.region (tabP [sv (.agg #[(.int .i64 y0.head.zone), (.int .i64 y0.head.epoch), (.int .i64 y0.head.kind), (.int .i64 y0.head.time), (.int .i64 y0.head.until_), (.int .i64 y0.head.count), (.int .i64 y0.head.root), (.int .i64 y0.head.prev), (.slice A_x0_8 n_x0_8 c_x0_8), (.int .i64 y0.head.keys.need), (.slice A_x0_10 n_x0_10 c_x0_10), (.int .i64 y0.head.heirs.need), (.int .i64 y0.head.wait), (.slice A_x0_13 n_x0_13 c_x0_13), (.int .i64 y0.head.judge.need), (.bool y0.head.frozen), (.slice A_x0_16 n_x0_16 c_x0_16)]), sv (.agg #[u0_0, u0_1, u0_2, u0_3, u0_4, u0_5, u0_6, u0_7, u0_8, u0_9, u0_10, u0_11, u0_12, u0_13, u0_14, u0_15, u0_16]), srep RSigned (y0), sv (.bool (true)), sv (.bool (!(true)))]) (by kernel_rfl) (by kernel_rfl) (tab_keep _) ?_ ?_
    · refine steps_cons ?_ (steps_cons ?_ (steps_cons ?_ (steps_cons ?_ (steps_cons ?_ (steps_nil)))))
      · intro aa ww hA K hK
        refine free rfl ?_
        have e7 : aa.tmps.getD 7 undef = .pointer (some ⟨W_4.heap.size, 0, none⟩) := hA.old 7 (by kernel_rfl)
        have ldHX_x0_6 := LD.ld_run LD.big_Signed (HX_x0_6.out.keep (hA.bel.block (W_4.heap.size) HX_x0_6.out.lt)) rfl
        exact gives hK (v := .agg #[(.int .i64 y0.head.zone), (.int .i64 y0.head.epoch), (.int .i64 y0.head.kind), (.int .i64 y0.head.time), (.int .i64 y0.head.until_), (.int .i64 y0.head.count), (.int .i64 y0.head.root), (.int .i64 y0.head.prev), (.slice A_x0_8 n_x0_8 c_x0_8), (.int .i64 y0.head.keys.need), (.slice A_x0_10 n_x0_10 c_x0_10), (.int .i64 y0.head.heirs.need), (.int .i64 y0.head.wait), (.slice A_x0_13 n_x0_13 c_x0_13), (.int .i64 y0.head.judge.need), (.bool y0.head.frozen), (.slice A_x0_16 n_x0_16 c_x0_16)]) (by simp only [execOp, Act.eval, e7, ldHX_x0_6, Sem.run_bind, Sem.run_pure, Result.andThen_ok]) rfl
      · intro aa ww hA K hK
        refine free rfl ?_
        have e2 : aa.tmps.getD 2 undef = .pointer (some ⟨W0.heap.size, 0, none⟩) := hA.old 2 (by kernel_rfl)
        have ldHX_aA_6 := LD.ld_run LD.big_lSigned (HX_aA_6.out.keep (hA.bel.block (W0.heap.size) HX_aA_6.out.lt)) rfl
        exact gives hK (v := .agg #[u0_0, u0_1, u0_2, u0_3, u0_4, u0_5, u0_6, u0_7, u0_8, u0_9, u0_10, u0_11, u0_12, u0_13, u0_14, u0_15, u0_16]) (by simp only [execOp, Act.eval, e2, ldHX_aA_6, Sem.run_bind, Sem.run_pure, Result.andThen_ok]) rfl
      · intro aa ww hA K hK
        refine free rfl ?_
        have e36 : aa.tmps.getD 36 undef = .agg #[u0_0, u0_1, u0_2, u0_3, u0_4, u0_5, u0_6, u0_7, u0_8, u0_9, u0_10, u0_11, u0_12, u0_13, u0_14, u0_15, u0_16] := hA.got 1 36 (by kernel_rfl)
        refine calls hK (by simp [Act.eval, e36, go_sem]) (toSigned_any [u0_0, u0_1, u0_2, u0_3, u0_4, u0_5, u0_6, u0_7, u0_8, u0_9, u0_10, u0_11, u0_12, u0_13, u0_14, u0_15, u0_16] y0 ww (rgUp (RSigned.more HO_aA_6.out fun i hi => Nat.lt_of_lt_of_le hi HA_6.out.size) (RKA.below_drew hA.bel)) (by omega)) ?_
        rintro e w1 ⟨cs9, rfl, hown, hb⟩
        exact ⟨_, rfl, hb, ⟨cs9, rfl, hown.rd⟩⟩
      · intro aa ww hA K hK
        refine free rfl ?_
        have e35 : aa.tmps.getD 35 undef = .agg #[(.int .i64 y0.head.zone), (.int .i64 y0.head.epoch), (.int .i64 y0.head.kind), (.int .i64 y0.head.time), (.int .i64 y0.head.until_), (.int .i64 y0.head.count), (.int .i64 y0.head.root), (.int .i64 y0.head.prev), (.slice A_x0_8 n_x0_8 c_x0_8), (.int .i64 y0.head.keys.need), (.slice A_x0_10 n_x0_10 c_x0_10), (.int .i64 y0.head.heirs.need), (.int .i64 y0.head.wait), (.slice A_x0_13 n_x0_13 c_x0_13), (.int .i64 y0.head.judge.need), (.bool y0.head.frozen), (.slice A_x0_16 n_x0_16 c_x0_16)] := hA.got 0 35 (by kernel_rfl)
        obtain ⟨q37, e37, h37⟩ := hA.got 2 37 (by kernel_rfl)
        refine calls hK (by simp [Act.eval, e35, e37, go_sem]) (eqSigned_same _ _ [(.int .i64 y0.head.zone), (.int .i64 y0.head.epoch), (.int .i64 y0.head.kind), (.int .i64 y0.head.time), (.int .i64 y0.head.until_), (.int .i64 y0.head.count), (.int .i64 y0.head.root), (.int .i64 y0.head.prev), (.slice A_x0_8 n_x0_8 c_x0_8), (.int .i64 y0.head.keys.need), (.slice A_x0_10 n_x0_10 c_x0_10), (.int .i64 y0.head.heirs.need), (.int .i64 y0.head.wait), (.slice A_x0_13 n_x0_13 c_x0_13), (.int .i64 y0.head.judge.need), (.bool y0.head.frozen), (.slice A_x0_16 n_x0_16 c_x0_16)] q37 y0 ww (rgUp (RSigned.more HO_x0_6.out.rd fun i hi => Nat.lt_of_lt_of_le hi (Nat.le_trans HT_4.out (Nat.le_trans HZ_4.out HZ_5.out))) (RKA.below_drew hA.bel)) h37 (Nat.le_refl _) (Nat.le_refl _) (by omega)) ?_
        rintro e w1 ⟨rfl, hb⟩
        exact ⟨_, rfl, hb, rfl⟩
      · intro aa ww hA K hK
        refine free rfl ?_
        have e38 : aa.tmps.getD 38 undef = .bool (true) := hA.got 3 38 (by kernel_rfl)
        exact gives hK (v := .bool (!(true))) (by simp [execOp, Act.eval, e38, Op.unary, go_sem]) rfl
    · intro a1 W_7 hb hd hsz hold hgot
      have g39 : a1.tmps.getD 39 undef = .bool false := (hgot 4 39 (by kernel_rfl)).trans (rfl)
      have ea := act_put hd hsz hold [35, 36, 37, 38, 39] rfl
      simp only [List.foldl_cons, List.foldl_nil, g39] at ea
      rename_i K9 hK9
      refine hK9 a1 W_7 ?_
      generalize a1.tmps.getD 35 undef = v35 at ea
      generalize a1.tmps.getD 36 undef = v36 at ea
      generalize a1.tmps.getD 37 undef = v37 at ea
      generalize a1.tmps.getD 38 undef = v38 at ea
      clear hgot hold hsz hd g39
      simp only [Act.put, List.setIfInBounds_toArray, List.set_cons_succ, List.set_cons_zero] at ea
      subst ea
      have hb := RKA.below_drew hb
      have HB_6 := Lib.hid hb
      have HZ_6 := Lib.hid HB_6.out.size
      have HA_7 := Lib.hid (HA_6.out.trans (HB_6.out.mono HA_6.out.size))
      have HO_aB_7 := Lib.hid (RSigned.keep HO_aB_6.out fun i hi => HB_6.out.block i (Nat.lt_of_lt_of_le hi HA_6.out.size))
      have HO_x1_7 := Lib.hid (HO_x1_6.out.below HB_6.out (Nat.le_trans HT_5.out HZ_5.out))
      have HX_aB_7 := Lib.hid (HX_aB_6.out.below HB_6.out HX_aB_6.out.lt)
      have HX_x1_7 := Lib.hid (HX_x1_6.out.below HB_6.out HX_x1_6.out.lt)
      clear hb
      go_wp2_with fail
      refine RG.region (tabP [sv (.agg #[(.int .i64 y1.head.zone), (.int .i64 y1.head.epoch), (.int .i64 y1.head.kind), (.int .i64 y1.head.time), (.int .i64 y1.head.until_), (.int .i64 y1.head.count), (.int .i64 y1.head.root), (.int .i64 y1.head.prev), (.slice A_x1_8 n_x1_8 c_x1_8), (.int .i64 y1.head.keys.need), (.slice A_x1_10 n_x1_10 c_x1_10), (.int .i64 y1.head.heirs.need), (.int .i64 y1.head.wait), (.slice A_x1_13 n_x1_13 c_x1_13), (.int .i64 y1.head.judge.need), (.bool y1.head.frozen), (.slice A_x1_16 n_x1_16 c_x1_16)]), sv (.agg #[u1_0, u1_1, u1_2, u1_3, u1_4, u1_5, u1_6, u1_7, u1_8, u1_9, u1_10, u1_11, u1_12, u1_13, u1_14, u1_15, u1_16]), srep RSigned (y1), sv (.bool (true)), sv (.bool (!(true)))]) (by kernel_rfl) (by kernel_rfl) (tab_keep _) ?_ ?_
      · refine steps_cons ?_ (steps_cons ?_ (steps_cons ?_ (steps_cons ?_ (steps_cons ?_ (steps_nil)))))
        · intro aa ww hA K hK
          refine free rfl ?_
          have e8 : aa.tmps.getD 8 undef = .pointer (some ⟨W_5.heap.size, 0, none⟩) := hA.old 8 (by kernel_rfl)
          have ldHX_x1_7 := LD.ld_run LD.big_Signed (HX_x1_7.out.keep (hA.bel.block (W_5.heap.size) HX_x1_7.out.lt)) rfl
          exact gives hK (v := .agg #[(.int .i64 y1.head.zone), (.int .i64 y1.head.epoch), (.int .i64 y1.head.kind), (.int .i64 y1.head.time), (.int .i64 y1.head.until_), (.int .i64 y1.head.count), (.int .i64 y1.head.root), (.int .i64 y1.head.prev), (.slice A_x1_8 n_x1_8 c_x1_8), (.int .i64 y1.head.keys.need), (.slice A_x1_10 n_x1_10 c_x1_10), (.int .i64 y1.head.heirs.need), (.int .i64 y1.head.wait), (.slice A_x1_13 n_x1_13 c_x1_13), (.int .i64 y1.head.judge.need), (.bool y1.head.frozen), (.slice A_x1_16 n_x1_16 c_x1_16)]) (by simp only [execOp, Act.eval, e8, ldHX_x1_7, Sem.run_bind, Sem.run_pure, Result.andThen_ok]) rfl
        · intro aa ww hA K hK
          refine free rfl ?_
          have e3 : aa.tmps.getD 3 undef = .pointer (some ⟨W0.heap.size + 1, 0, none⟩) := hA.old 3 (by kernel_rfl)
          have ldHX_aB_7 := LD.ld_run LD.big_lSigned (HX_aB_7.out.keep (hA.bel.block (W0.heap.size + 1) HX_aB_7.out.lt)) rfl
          exact gives hK (v := .agg #[u1_0, u1_1, u1_2, u1_3, u1_4, u1_5, u1_6, u1_7, u1_8, u1_9, u1_10, u1_11, u1_12, u1_13, u1_14, u1_15, u1_16]) (by simp only [execOp, Act.eval, e3, ldHX_aB_7, Sem.run_bind, Sem.run_pure, Result.andThen_ok]) rfl
        · intro aa ww hA K hK
          refine free rfl ?_
          have e41 : aa.tmps.getD 41 undef = .agg #[u1_0, u1_1, u1_2, u1_3, u1_4, u1_5, u1_6, u1_7, u1_8, u1_9, u1_10, u1_11, u1_12, u1_13, u1_14, u1_15, u1_16] := hA.got 1 41 (by kernel_rfl)
          refine calls hK (by simp [Act.eval, e41, go_sem]) (toSigned_any [u1_0, u1_1, u1_2, u1_3, u1_4, u1_5, u1_6, u1_7, u1_8, u1_9, u1_10, u1_11, u1_12, u1_13, u1_14, u1_15, u1_16] y1 ww (rgUp (RSigned.more HO_aB_7.out fun i hi => Nat.lt_of_lt_of_le hi HA_7.out.size) (RKA.below_drew hA.bel)) (by omega)) ?_
          rintro e w1 ⟨cs9, rfl, hown, hb⟩
          exact ⟨_, rfl, hb, ⟨cs9, rfl, hown.rd⟩⟩
        · intro aa ww hA K hK
          refine free rfl ?_
          have e40 : aa.tmps.getD 40 undef = .agg #[(.int .i64 y1.head.zone), (.int .i64 y1.head.epoch), (.int .i64 y1.head.kind), (.int .i64 y1.head.time), (.int .i64 y1.head.until_), (.int .i64 y1.head.count), (.int .i64 y1.head.root), (.int .i64 y1.head.prev), (.slice A_x1_8 n_x1_8 c_x1_8), (.int .i64 y1.head.keys.need), (.slice A_x1_10 n_x1_10 c_x1_10), (.int .i64 y1.head.heirs.need), (.int .i64 y1.head.wait), (.slice A_x1_13 n_x1_13 c_x1_13), (.int .i64 y1.head.judge.need), (.bool y1.head.frozen), (.slice A_x1_16 n_x1_16 c_x1_16)] := hA.got 0 40 (by kernel_rfl)
          obtain ⟨q42, e42, h42⟩ := hA.got 2 42 (by kernel_rfl)
          refine calls hK (by simp [Act.eval, e40, e42, go_sem]) (eqSigned_same _ _ [(.int .i64 y1.head.zone), (.int .i64 y1.head.epoch), (.int .i64 y1.head.kind), (.int .i64 y1.head.time), (.int .i64 y1.head.until_), (.int .i64 y1.head.count), (.int .i64 y1.head.root), (.int .i64 y1.head.prev), (.slice A_x1_8 n_x1_8 c_x1_8), (.int .i64 y1.head.keys.need), (.slice A_x1_10 n_x1_10 c_x1_10), (.int .i64 y1.head.heirs.need), (.int .i64 y1.head.wait), (.slice A_x1_13 n_x1_13 c_x1_13), (.int .i64 y1.head.judge.need), (.bool y1.head.frozen), (.slice A_x1_16 n_x1_16 c_x1_16)] q42 y1 ww (rgUp (RSigned.more HO_x1_7.out.rd fun i hi => Nat.lt_of_lt_of_le hi (Nat.le_trans HT_5.out (Nat.le_trans HZ_5.out HZ_6.out))) (RKA.below_drew hA.bel)) h42 (Nat.le_refl _) (Nat.le_refl _) (by omega)) ?_
          rintro e w1 ⟨rfl, hb⟩
          exact ⟨_, rfl, hb, rfl⟩
        · intro aa ww hA K hK
          refine free rfl ?_
          have e43 : aa.tmps.getD 43 undef = .bool (true) := hA.got 3 43 (by kernel_rfl)
          exact gives hK (v := .bool (!(true))) (by simp [execOp, Act.eval, e43, Op.unary, go_sem]) rfl
      · intro a1 W_8 hb hd hsz hold hgot
        have g44 : a1.tmps.getD 44 undef = .bool false := (hgot 4 44 (by kernel_rfl)).trans (rfl)
        have ea := act_put hd hsz hold [40, 41, 42, 43, 44] rfl
        simp only [List.foldl_cons, List.foldl_nil, g44] at ea
        rename_i K9 hK9
        refine hK9 a1 W_8 ?_
        generalize a1.tmps.getD 40 undef = v40 at ea
        generalize a1.tmps.getD 41 undef = v41 at ea
        generalize a1.tmps.getD 42 undef = v42 at ea
        generalize a1.tmps.getD 43 undef = v43 at ea
        clear hgot hold hsz hd g44
        simp only [Act.put, List.setIfInBounds_toArray, List.set_cons_succ, List.set_cons_zero] at ea
        subst ea
        have hb := RKA.below_drew hb
        have HB_7 := Lib.hid hb
        have HZ_7 := Lib.hid HB_7.out.size
        have HA_8 := Lib.hid (HA_7.out.trans (HB_7.out.mono HA_7.out.size))
        clear hb
        go_wp2
        go_ret
        exact ⟨rfl, HA_8.out⟩
end Go.Proofs.Ythhmhcmlbpdlbaa.W14
