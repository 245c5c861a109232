/- Chapter 8: entries, what the program's functions return. -/
import Derived.Test.YthhmhcmlbpdlbaaGreatM08
import Derived.Test.YthhmhcmlbpdlbaaGreatC03H
import Derived.Test.YthhmhcmlbpdlbaaGreatC05I
import Derived.Test.YthhmhcmlbpdlbaaGreatRKA
import Derived.Deep.RegionHeld3
namespace Go.Proofs.YthhmhcmlbpdlbaaGreat.C08I
open Go.RowKit Mem MemS M02 M03 M04 M05 M08 C01 C02 C03S C03D C03H C04S C04I C05S C05I Rep RepA R08 RG RGS RKA
set_option linter.unusedVariables false
set_option maxRecDepth 100000
theorem iLabelInts_b (s : ByteArray) (w : World) (hs : s.size ≤ 1048576) :
    Calls Tryz.prog 163 #[.string s] w fun e w' => ∃ A' c', e = .returned (.slice A' (bti (nums s)).length c') ∧ Own .i64 w' w.heap.size w'.heap.size A' (bti (nums s)).length c' (bti (nums s)) ∧ Below w.heap.size w w' := by
  rw [bti_len, nums_len]
  exact iLabelInts_any s w hs
set_option maxHeartbeats 2000000 in
theorem iEntryInts_any (cs : List Value) (k : Entry) (w : World) (h : REntry.rd w (Lt w.heap.size) cs k) (hn : totEntry k ≤ 1048576) :
    Calls Tryz.prog 149 #[.agg cs.toArray] w fun e w' => ∃ A' c', e = .returned (.slice A' (entryInts k).length c') ∧ Own .i64 w' w.heap.size w'.heap.size A' (entryInts k).length c' (entryInts k) ∧ Below w.heap.size w w' := by
  obtain ⟨A, n, c, rfl, h0, h1, h2, h3, h4, h5⟩ := REntry_rd.1 h
  obtain ⟨kl, kk, kv, kp⟩ := k
  simp only at h0 h1 h2 h5
  have hl := h5.len
  have hnn : n ≤ 1048576 := by
    have := totSS_len kp
    unfold totEntry at hn
    simp only at hn
    omega
  have HKL := Lib.hid (show kl.size ≤ 1048576 by unfold totEntry at hn; simp only at hn; omega)
  have HLIT := Lib.hid (show ∀ z ∈ [kk, kv, (n : Int)], In .i64 z from fun z hz => by
    simp only [List.mem_cons, List.not_mem_nil, or_false] at hz
    rcases hz with rfl | rfl | rfl
    · exact h1
    · exact h2
    · exact inI64 (by omega) (by omega))
  have HS := Lib.hid (show ∀ s ∈ kp, s.size ≤ 1048576 from fun s hs => by
    have := totSS_mem hs
    unfold totEntry at hn
    simp only at hn
    omega)
  have HT := Lib.hid (fun j => eiUpto_len ⟨kl, kk, kv, kp⟩ j)
  have HTN := Lib.hid hn
  have HST := Lib.hid (fun j h => ei_step (k := ⟨kl, kk, kv, kp⟩) (j := j) h)
  have HE0 := Lib.hid (ei_zero ⟨kl, kk, kv, kp⟩)
  have heq : entryInts ⟨kl, kk, kv, kp⟩ = eiUpto ⟨kl, kk, kv, kp⟩ n := by
    unfold entryInts
    simp only
    rw [hl]
  rw [heq]
  have HL := Lib.hid hl
  have HX := Lib.hid (show Box (w.alloc (.cells #[.string kl, .int .i64 kk, .int .i64 kv, .slice A n c] 84)) w.heap.size [.string kl, .int .i64 kk, .int .i64 kv, .slice A n c] from by
    have := Box.new w #[.string kl, .int .i64 kk, .int .i64 kv, .slice A n c] 84
    simpa using this)
  have HZ0 := Lib.hid (HX.out.cell (j := 0) rfl)
  have HZ1 := Lib.hid (HX.out.cell (j := 1) rfl)
  have HZ2 := Lib.hid (HX.out.cell (j := 2) rfl)
  have HZ3 := Lib.hid (HX.out.cell (j := 3) rfl)
  have HB := Lib.hid ((Below.refl w.heap.size w).alloc (Nat.le_refl _) (.cells #[.string kl, .int .i64 kk, .int .i64 kv, .slice A n c] 84))
  have H5 := Lib.hid (h5.alloc (Nat.le_refl _) (.cells #[.string kl, .int .i64 kk, .int .i64 kv, .slice A n c] 84))
  have HI := Lib.hid h3
  clear h h0 h1 h2 h3 h4 h5 hl hn heq
  go_enter Tryz.func149, Tryz.ntmps149
  go_wp2_with fail
  refine RK.region (RKS.kill _ (fun q => q == 11) (B := (w.alloc (.cells #[.string kl, .int .i64 kk, .int .i64 kv, .slice A n c] 84)).drew.heap.size) [RKS.sv (.pointer (some ⟨w.heap.size, 0, none⟩)), RKS.sv (.string (kl)), RKS.sown .i64 (bti (nums kl)), RKS.sv (.pointer (some ⟨w.heap.size, 1, none⟩)), RKS.sv (.int .i64 (kk)), RKS.sv (.pointer (some ⟨w.heap.size, 2, none⟩)), RKS.sv (.int .i64 (kv)), RKS.sv (.pointer (some ⟨w.heap.size, 3, none⟩)), RKS.sv (.slice A n c), RKS.sv (.int .i64 ((n : Int))), RKS.sown .i64 ([kk, kv, (n : Int)]), RKS.sown .i64 (bti (nums kl) ++ [kk, kv, (n : Int)]), RKS.sown .i64 (bti (nums kl) ++ [kk, kv, (n : Int)])]) (RKS.eff ((w.alloc (.cells #[.string kl, .int .i64 kk, .int .i64 kv, .slice A n c] 84)).drew.heap.size) (fun q => q == 11)) (RKS.tabP [RKS.sv (.pointer (some ⟨w.heap.size, 0, none⟩)), RKS.sv (.string (kl)), RKS.sown .i64 (bti (nums kl)), RKS.sv (.pointer (some ⟨w.heap.size, 1, none⟩)), RKS.sv (.int .i64 (kk)), RKS.sv (.pointer (some ⟨w.heap.size, 2, none⟩)), RKS.sv (.int .i64 (kv)), RKS.sv (.pointer (some ⟨w.heap.size, 3, none⟩)), RKS.sv (.slice A n c), RKS.sv (.int .i64 ((n : Int))), RKS.sown .i64 ([kk, kv, (n : Int)]), RKS.sown .i64 (bti (nums kl) ++ [kk, kv, (n : Int)]), RKS.sown .i64 (bti (nums kl) ++ [kk, kv, (n : Int)])]) (by kernel_rfl) (by kernel_rfl) RKS.eff_below RKS.eff_keep ?_ ?_
  · refine RK.steps_cons ?_ (RK.steps_cons ?_ (RK.steps_cons ?_ (RK.steps_cons ?_ (RK.steps_cons ?_ (RK.steps_cons ?_ (RK.steps_cons ?_ (RK.steps_cons ?_ (RK.steps_cons ?_ (RK.steps_cons ?_ (RK.steps_cons ?_ (RK.steps_cons ?_ (RK.steps_cons ?_ (RK.steps_nil)))))))))))))
    · intro aa ww hA K hK0
      have hK := RKA.quietE rfl hK0
      refine RKS.free rfl fun _ => ?_
      have e1 : aa.tmps.getD 1 undef = .pointer (some ⟨w.heap.size, 0, none⟩) := hA.old 1 (by kernel_rfl)
      exact gives hK (v := .pointer (some ⟨w.heap.size, 0, none⟩)) (by simp [execOp, Act.eval, e1, go_sem]) rfl
    · intro aa ww hA K hK0
      have hK := RKA.quietE rfl hK0
      refine RKS.free rfl fun _ => ?_
      have e6 : aa.tmps.getD 6 undef = .pointer (some ⟨w.heap.size, 0, none⟩) := hA.got 0 6 (by kernel_rfl)
      have c0 := (hA.bel.cell (p := ⟨w.heap.size, 0, none⟩) HX.out.lt).trans HZ0.out
      exact gives hK (v := .string kl) (by simp [execOp, Act.eval, e6, c0, go_sem]) rfl
    · intro aa ww hA K hK0
      have hK := RKA.quietE rfl hK0
      refine RKS.free rfl fun _ => ?_
      have e7 : aa.tmps.getD 7 undef = .string (kl) := hA.got 1 7 (by kernel_rfl)
      refine calls hK (by simp [Act.eval, e7, go_sem]) (iLabelInts_b kl ww HKL.out) ?_
      rintro e w1 ⟨A9, c9, rfl, hown, hb⟩
      exact ⟨_, rfl, hb, ⟨A9, c9, rfl, hown.base hA.bel.size⟩⟩
    · intro aa ww hA K hK0
      have hK := RKA.quietE rfl hK0
      refine RKS.free rfl fun _ => ?_
      have e1 : aa.tmps.getD 1 undef = .pointer (some ⟨w.heap.size, 0, none⟩) := hA.old 1 (by kernel_rfl)
      exact gives hK (v := .pointer (some ⟨w.heap.size, 1, none⟩)) (by simp [execOp, Act.eval, e1, go_sem]) rfl
    · intro aa ww hA K hK0
      have hK := RKA.quietE rfl hK0
      refine RKS.free rfl fun _ => ?_
      have e9 : aa.tmps.getD 9 undef = .pointer (some ⟨w.heap.size, 1, none⟩) := hA.got 3 9 (by kernel_rfl)
      have c1 := (hA.bel.cell (p := ⟨w.heap.size, 1, none⟩) HX.out.lt).trans HZ1.out
      exact gives hK (v := .int .i64 kk) (by simp [execOp, Act.eval, e9, c1, go_sem]) rfl
    · intro aa ww hA K hK0
      have hK := RKA.quietE rfl hK0
      refine RKS.free rfl fun _ => ?_
      have e1 : aa.tmps.getD 1 undef = .pointer (some ⟨w.heap.size, 0, none⟩) := hA.old 1 (by kernel_rfl)
      exact gives hK (v := .pointer (some ⟨w.heap.size, 2, none⟩)) (by simp [execOp, Act.eval, e1, go_sem]) rfl
    · intro aa ww hA K hK0
      have hK := RKA.quietE rfl hK0
      refine RKS.free rfl fun _ => ?_
      have e11 : aa.tmps.getD 11 undef = .pointer (some ⟨w.heap.size, 2, none⟩) := hA.got 5 11 (by kernel_rfl)
      have c2 := (hA.bel.cell (p := ⟨w.heap.size, 2, none⟩) HX.out.lt).trans HZ2.out
      exact gives hK (v := .int .i64 kv) (by simp [execOp, Act.eval, e11, c2, go_sem]) rfl
    · intro aa ww hA K hK0
      have hK := RKA.quietE rfl hK0
      refine RKS.free rfl fun _ => ?_
      have e1 : aa.tmps.getD 1 undef = .pointer (some ⟨w.heap.size, 0, none⟩) := hA.old 1 (by kernel_rfl)
      exact gives hK (v := .pointer (some ⟨w.heap.size, 3, none⟩)) (by simp [execOp, Act.eval, e1, go_sem]) rfl
    · intro aa ww hA K hK0
      have hK := RKA.quietE rfl hK0
      refine RKS.free rfl fun _ => ?_
      have e13 : aa.tmps.getD 13 undef = .pointer (some ⟨w.heap.size, 3, none⟩) := hA.got 7 13 (by kernel_rfl)
      have c3 := (hA.bel.cell (p := ⟨w.heap.size, 3, none⟩) HX.out.lt).trans HZ3.out
      exact gives hK (v := .slice A n c) (by simp [execOp, Act.eval, e13, c3, go_sem]) rfl
    · intro aa ww hA K hK0
      have hK := RKA.quietE rfl hK0
      refine RKS.free rfl fun _ => ?_
      have e14 : aa.tmps.getD 14 undef = .slice A n c := hA.got 8 14 (by kernel_rfl)
      exact gives hK (v := .int .i64 ((n : Int))) (by simp [Act.eval, e14, go_sem]) rfl
    · intro aa ww hA K hK0
      have hK := RKA.quietE rfl hK0
      refine RKS.free rfl fun _ => ?_
      have e10 : aa.tmps.getD 10 undef = .int .i64 (kk) := hA.got 4 10 (by kernel_rfl)
      have e12 : aa.tmps.getD 12 undef = .int .i64 (kv) := hA.got 6 12 (by kernel_rfl)
      have e15 : aa.tmps.getD 15 undef = .int .i64 ((n : Int)) := hA.got 9 15 (by kernel_rfl)
      exact lays hK (v := .slice (some ⟨ww.heap.size, 0, none⟩) 3 3) (w' := ww.alloc (.cells #[.int .i64 (kk), .int .i64 (kv), .int .i64 ((n : Int))] 3)) (by simp only [execOp, List.map_toArray, List.map_cons, List.map_nil, Act.eval, e10, e12, e15]; simp [go_sem]) ((Below.refl _ _).alloc (Nat.le_refl _) _) (RKA.sown_lits (zs := [kk, kv, (n : Int)]) HLIT.out hA.bel.size (by simp [maxLen]))
    · intro aa ww hA K hK0
      have hK := RKA.loudE rfl hK0
      refine RKS.free rfl fun _ => ?_
      obtain ⟨A8, c8, e8, h8⟩ := hA.got 2 8 (by kernel_rfl)
      obtain ⟨A16, c16, e16, h16⟩ := hA.got 10 16 (by kernel_rfl)
      exact RKA.app1 (B := (w.alloc (.cells #[.string kl, .int .i64 kk, .int .i64 kv, .slice A n c] 84)).drew.heap.size) hK (.tmp 8) (.tmp 16) rfl e8 e16 h8 h16.rd (by have := HKL.out; rw [bti_len, nums_len]; simp; omega) hA.bel.size (fun _ _ h => h)
    · intro aa ww hA K hK0
      have hK := RKA.quietE rfl hK0
      refine RKS.free rfl fun _ => ?_
      exact gives hK rfl (hA.got 11 17 (by kernel_rfl))
  · intro a1 w1 hb hd hsz hold hgot
    obtain ⟨B3, d3, g3, p3⟩ := hgot 12 3 (by kernel_rfl) (by kernel_rfl)
    have ea := act_put hd hsz hold [6, 7, 8, 9, 10, 11, 12, 13, 14, 15, 16, 17, 3] rfl
    simp only [List.foldl_cons, List.foldl_nil, g3] at ea
    rename_i K9 hK9
    refine hK9 a1 w1 ?_
    generalize a1.tmps.getD 6 undef = v6 at ea
    generalize a1.tmps.getD 7 undef = v7 at ea
    generalize a1.tmps.getD 8 undef = v8 at ea
    generalize a1.tmps.getD 9 undef = v9 at ea
    generalize a1.tmps.getD 10 undef = v10 at ea
    generalize a1.tmps.getD 11 undef = v11 at ea
    generalize a1.tmps.getD 12 undef = v12 at ea
    generalize a1.tmps.getD 13 undef = v13 at ea
    generalize a1.tmps.getD 14 undef = v14 at ea
    generalize a1.tmps.getD 15 undef = v15 at ea
    generalize a1.tmps.getD 16 undef = v16 at ea
    generalize a1.tmps.getD 17 undef = v17 at ea
    clear hgot hold hsz hd g3
    simp only [Act.put, List.setIfInBounds_toArray, List.set_cons_succ, List.set_cons_zero] at ea
    subst ea
    have HB1 := Lib.hid (HB.out.trans ((below_drew hb).mono (by simp)))
    have HX1 := Lib.hid (HX.out.below (below_drew hb) (by simp))
    have HO1 := Lib.hid p3
    have HR1 := Lib.hid (H5.out.below (below_drew hb) (by simp))
    clear hb p3
    have z3 := HX1.out.cell (j := 3) rfl
    go_wp2
    clear z3
    go_loopw [3, 21] (fun ov iv wr => ∃ (j : Nat) (A' : Option Addr) (c' : Nat), j ≤ n ∧ iv = .int .i64 j ∧ ov = .slice A' (eiUpto ⟨kl, kk, kv, kp⟩ j).length c' ∧ Own .i64 wr (w.heap.size + 1) wr.heap.size A' (eiUpto ⟨kl, kk, kv, kp⟩ j).length c' (eiUpto ⟨kl, kk, kv, kp⟩ j) ∧ Box wr w.heap.size [.string kl, .int .i64 kk, .int .i64 kv, .slice A n c] ∧ Below w.heap.size w wr ∧ RdS wr w.heap.size A n kp) (fun _ iv _ => n - (intOf iv).toNat)
    case atStart =>
      refine ⟨0, B3, d3, by omega, rfl, ?_, ?_, HX1.out, HB1.out, HR1.out⟩
      · rw [HE0.out, HL.out]
      · rw [HE0.out, HL.out]
        exact HO1.out.base (by simp)
    case round =>
      obtain ⟨j, A', c', hj, rfl, rfl, hown, hx, hbel, hrs⟩ := hrel
      have z3 := hx.cell (j := 3) rfl
      have HXr := Lib.hid hx
      have HBr := Lib.hid hbel
      have HO := Lib.hid hown
      by_cases hjn : j < n
      · have hlen := HT.out j
        have htn := HTN.out
        have HRr := Lib.hid hrs
        obtain ⟨b, off, rfl, hlt, hcc⟩ := hrs.cells (by omega)
        have hcj := hcc j hjn
        have hjl : j < kp.length := by rw [HL.out]; exact hjn
        have hst := HST.out j hjl
        have hzs : (kp.getD j .empty).size ≤ 1048576 := HS.out _ (by
          simp only [List.getD, List.getElem?_eq_getElem hjl, Option.getD_some]
          exact List.getElem_mem hjl)
        generalize kp.getD j .empty = z at hcj hst hzs
        generalize eiUpto ⟨kl, kk, kv, kp⟩ j = zs at HO hst hlen
        have HST1 := Lib.hid hst
        have hzl : (bti (nums z)).length ≤ 1048577 := by rw [bti_len, nums_len]; omega
        have hzk : zs.length ≤ 1048580 := by omega
        clear hst hlen htn hcc hrs hown hx hbel
        go_wp2_with fail
        refine (iLabelInts_b z wr hzs).mono ?_
        rintro e w2 ⟨A2, c2, rfl, ho2, hb2⟩
        have HO2 := Lib.hid (HO.out.below hb2 (Nat.le_refl _))
        have HL2 := Lib.hid ho2
        have HX2 := Lib.hid (HXr.out.below hb2 HXr.out.lt)
        have HB2 := Lib.hid (HBr.out.trans (hb2.mono HBr.out.size))
        have HR2 := Lib.hid (HRr.out.below hb2 HBr.out.size)
        have hsz : w.heap.size + 1 ≤ w2.heap.size := Nat.le_trans HXr.out.lt hb2.size
        clear ho2 hb2 z3
        go_wp2_with (at_builtin; refine wp_app (k := .i64) (by unfold BI; decide) rfl _ _ rfl rfl HO2.out rfl HL2.out.rd (by omega) hsz ?_; intro A3 c3 w3 hown3 hgr3)
        have HO3 := Lib.hid hown3
        have HG3 := Lib.hid (hgr3.below hsz HO2.out.ge)
        clear hown3 hgr3
        go_wp2
        go_roundw
        case rel =>
          refine ⟨j + 1, A3, c3, by omega, by go_num, ?_, ?_, HX2.out.below HG3.out (by omega), HB2.out.trans (HG3.out.mono (by omega)), HR2.out.below HG3.out (by omega)⟩
          · rw [← HST1.out, List.length_append]
          · rw [← HST1.out, List.length_append]
            exact HO3.out
        case measure => simp [intOf]; omega
      · obtain rfl : j = n := by omega
        clear hjn hj hrs hown hx hbel
        go_wp2
        go_ret
        exact ⟨A', c', rfl, HO.out.base (by omega), HBr.out⟩
theorem iLeafOf_any (cs : List Value) (k : Entry) (w : World) (h : REntry.rd w (Lt w.heap.size) cs k) (hn : totEntry k ≤ 1048576) :
    Calls Tryz.prog 116 #[.agg cs.toArray] w fun e w' => e = .returned (.int .i64 (leafOf k)) ∧ Below w.heap.size w w' := by
  have hlen := eiUpto_len k k.path.length
  obtain ⟨v0, v1, v2, v3, rfl⟩ : ∃ v0 v1 v2 v3, cs = [v0, v1, v2, v3] := by
    obtain ⟨A, n, c, e, _⟩ := REntry_rd.1 h
    exact ⟨_, _, _, _, e⟩
  have HB := Lib.hid ((Below.refl w.heap.size w).alloc (Nat.le_refl _) (.cells #[v0, v1, v2, v3] 84) |>.alloc (by simp) (.cells #[.int .i64 227] 3))
  have H := Lib.hid (REntry.more (REntry.keep h fun i hi => HB.out.block i hi) (P' := Lt ((w.alloc (.cells #[v0, v1, v2, v3] 84)).alloc (.cells #[.int .i64 227] 3)).heap.size) fun i hi => Nat.lt_of_lt_of_le hi HB.out.size)
  have H0 := Lib.hid (show Own .i64 ((w.alloc (.cells #[v0, v1, v2, v3] 84)).alloc (.cells #[.int .i64 227] 3)) w.heap.size (w.heap.size + 1 + 1) (some ⟨w.heap.size + 1, 0, none⟩) 1 1 [227] from by
    have := RKA.own_lits (w := w.alloc (.cells #[v0, v1, v2, v3] 84)) (lo := w.heap.size) (zs := [227]) (by intro z hz; rw [List.mem_singleton.1 hz]; exact inI64 (by omega) (by omega)) (by simp) (by simp [maxLen])
    simp at this
    exact this)
  have HL := Lib.hid (show (entryInts k).length ≤ 1048580 by unfold entryInts; omega)
  have HE := Lib.hid (show leafOf k = hsh ([227] ++ entryInts k) from rfl)
  rw [HE.out]
  clear h hlen
  go_enter Tryz.func116, Tryz.ntmps116
  go_wp2_with fail
  refine (iEntryInts_any [v0, v1, v2, v3] k _ H.out hn).mono ?_
  rintro e w2 ⟨A2, c2, rfl, hown, hb⟩
  have HO := Lib.hid hown
  have HB2 := Lib.hid (HB.out.trans (hb.mono (by simp; omega)))
  have H02 := Lib.hid (H0.out.below hb (by simp))
  clear hown hb
  go_wp2_with (at_builtin; refine wp_app (k := .i64) (by unfold BI; decide) rfl _ _ rfl rfl H02.out rfl HO.out.rd (by have := HL.out; omega) HB2.out.size ?_; intro A3 c3 w3 hown3 hgr3)
  have HO3 := Lib.hid hown3
  have HB3 := Lib.hid (HB2.out.trans (hgr3.below HB2.out.size H02.out.ge))
  clear hown3 hgr3
  go_wp2_with fail
  refine (iHash_any A3 _ c3 _ _ HO3.out.rd (by have := HL.out; omega)).mono ?_
  rintro e w4 ⟨rfl, hb4⟩
  have HB4 := Lib.hid (HB3.out.trans (hb4.mono HB3.out.size))
  clear hb4
  go_wp2
  go_ret
  exact ⟨rfl, HB4.out⟩
theorem iisZoneNumber_any (x : Int) (w : World) : Calls Tryz.prog 77 #[.int .i64 x] w fun e w' => e = .returned (.bool (inR x 0 2147483646)) ∧ w' = w := by
  have HI := Lib.hid (inRange_any x 0 2147483646 w)
  go_enter Tryz.func77, Tryz.ntmps77
  go_wp2_with fail
  refine HI.out.mono ?_
  rintro e w1 ⟨rfl, rfl⟩
  go_wp2
  go_ret
  exact ⟨rfl, rfl⟩
theorem ivaluePossible_any (x : Int) (w : World) : Calls Tryz.prog 206 #[.agg #[.int .i64 x]] w fun e w' => e = .returned (.bool (inR x 0 999999)) ∧ Below w.heap.size w w' := by
  have HI := fun w1 => Lib.hid (inRange_any x 0 999999 w1)
  have HB := Lib.hid ((Below.refl w.heap.size w).alloc (Nat.le_refl _) (.cells #[.int .i64 x] 156))
  go_enter Tryz.func206, Tryz.ntmps206
  go_wp2_with fail
  refine (HI _).out.mono ?_
  rintro e w1 ⟨rfl, rfl⟩
  go_wp2
  go_ret
  exact ⟨rfl, HB.out⟩
theorem izonePossible_any (x : Int) (w : World) : Calls Tryz.prog 207 #[.agg #[.int .i64 x]] w fun e w' => e = .returned (.bool (inR x 0 2147483646)) ∧ Below w.heap.size w w' := by
  have HI := fun w1 => Lib.hid (iisZoneNumber_any x w1)
  have HB := Lib.hid ((Below.refl w.heap.size w).alloc (Nat.le_refl _) (.cells #[.int .i64 x] 158))
  go_enter Tryz.func207, Tryz.ntmps207
  go_wp2_with fail
  refine (HI _).out.mono ?_
  rintro e w1 ⟨rfl, rfl⟩
  go_wp2
  go_ret
  exact ⟨rfl, HB.out⟩
theorem imovedPossible_any (x : Int) (A : Option Addr) (n c : Nat) (p : List ByteArray) (w : World) (h : RdS w w.heap.size A n p) (hn : n ≤ 1099511627776) (hss : ∀ s ∈ p, s.size ≤ 1099511627776) :
    Calls Tryz.prog 209 #[.agg #[.int .i64 x, .slice A n c]] w fun e w' => e = .returned (.bool (inR x 0 2147483646 && isPth p)) ∧ Below w.heap.size w w' := by
  have HB := Lib.hid ((Below.refl w.heap.size w).alloc (Nat.le_refl _) (.cells #[.int .i64 x, .slice A n c] 161))
  have hK := iisPath_any w.heap.size A n c p _ (h.alloc (Nat.le_refl _) (.cells #[.int .i64 x, .slice A n c] 161)) (by simp) hn hss
  have hI := fun w1 => iisZoneNumber_any x w1
  clear h hss
  rcases hin : inR x 0 2147483646 with _ | _
  all_goals
    rw [hin] at hI
    have HI := Lib.hid hI
    have HK := Lib.hid hK
    clear hI hK hin
    go_enter Tryz.func209, Tryz.ntmps209
    go_wp2_with fail
    refine (HI.out _).mono ?_
    rintro e w1 ⟨rfl, rfl⟩
    first
      | (go_wp2_with fail; go_ret; exact ⟨rfl, HB.out⟩; done)
      | (go_wp2_with fail
         refine HK.out.mono ?_
         rintro e w2 ⟨rfl, hb2⟩
         have HB2 := Lib.hid (HB.out.trans (hb2.mono (by simp)))
         clear hb2
         go_wp2
         go_ret
         exact ⟨rfl, HB2.out⟩
         done)
/- what an entry's kind gives: the meaning and whether there is one -/
def Mng (kk kv : Int) (A : Option Addr) (n c : Nat) (v : Value) (b : Bool) : Prop :=
  (kk = 1 ∧ n = 0 ∧ v = .iface 156 (.agg #[.int .i64 kv]) ∧ b = true) ∨ (kk = 2 ∧ n = 0 ∧ v = .iface 158 (.agg #[.int .i64 kv]) ∧ b = true) ∨
  (kk = 3 ∧ v = .iface 161 (.agg #[.int .i64 kv, .slice A n c]) ∧ b = true) ∨ (kk ≠ 3 ∧ 0 < n ∧ v = .nilIface ∧ b = false) ∨ (kk ≠ 1 ∧ kk ≠ 2 ∧ kk ≠ 3 ∧ n = 0 ∧ v = .nilIface ∧ b = false)
theorem mng_cases (kk kv : Int) (A : Option Addr) (n c : Nat) : ∃ v b, Mng kk kv A n c v b := by
  unfold Mng
  by_cases h3 : kk = 3
  · exact ⟨_, _, .inr (.inr (.inl ⟨h3, rfl, rfl⟩))⟩
  · by_cases hn : 0 < n
    · exact ⟨_, _, .inr (.inr (.inr (.inl ⟨h3, hn, rfl, rfl⟩)))⟩
    · by_cases h1 : kk = 1
      · exact ⟨_, _, .inl ⟨h1, by omega, rfl, rfl⟩⟩
      · by_cases h2 : kk = 2
        · exact ⟨_, _, .inr (.inl ⟨h2, by omega, rfl, rfl⟩)⟩
        · exact ⟨_, _, .inr (.inr (.inr (.inr ⟨h1, h2, h3, by omega, rfl, rfl⟩)))⟩
theorem imeaningOf_any (kl : ByteArray) (kk kv : Int) (A : Option Addr) (n c : Nat) (v : Value) (b : Bool) (w : World) (hn : n ≤ 1099511627776) (hM : Mng kk kv A n c v b) :
    Calls Tryz.prog 144 #[.agg #[.string kl, .int .i64 kk, .int .i64 kv, .slice A n c]] w fun e w' => e = .returned (.tuple #[v, .bool b]) ∧ Below w.heap.size w w' := by
  have HB := Lib.hid ((Below.refl w.heap.size w).alloc (Nat.le_refl _) (.cells #[.string kl, .int .i64 kk, .int .i64 kv, .slice A n c] 84))
  rcases hM with ⟨rfl, rfl, rfl, rfl⟩ | ⟨rfl, rfl, rfl, rfl⟩ | ⟨rfl, rfl, rfl⟩ | ⟨h3, h0, rfl, rfl⟩ | ⟨h1, h2, h3, rfl, rfl, rfl⟩
  · go_enter Tryz.func144, Tryz.ntmps144
    go_wp2
    go_ret2
    exact ⟨rfl, HB.out⟩
  · go_enter Tryz.func144, Tryz.ntmps144
    go_wp2
    go_ret2
    exact ⟨rfl, HB.out⟩
  · go_enter Tryz.func144, Tryz.ntmps144
    go_wp2
    go_ret2
    exact ⟨rfl, HB.out⟩
  · have e3 : (kk == 3) = false := beq_eq_false_iff_ne.2 h3
    have e0 : decide ((0 : Int) < n) = true := decide_eq_true (by omega)
    go_enter Tryz.func144, Tryz.ntmps144
    go_wp2
    go_ret2
    exact ⟨rfl, HB.out⟩
  · have e1 : (kk == 1) = false := beq_eq_false_iff_ne.2 h1
    have e2 : (kk == 2) = false := beq_eq_false_iff_ne.2 h2
    have e3 : (kk == 3) = false := beq_eq_false_iff_ne.2 h3
    go_enter Tryz.func144, Tryz.ntmps144
    go_wp2
    go_ret2
    exact ⟨rfl, HB.out⟩
theorem meth_value (x : Int) (w : World) : (method 306 156 (.agg #[.int .i64 x]) "loop.example/g00588/impl.isPossible").run Tryz.prog w = .ok (206, .agg #[.int .i64 x]) w := by kernel_rfl
theorem meth_zone (x : Int) (w : World) : (method 306 158 (.agg #[.int .i64 x]) "loop.example/g00588/impl.isPossible").run Tryz.prog w = .ok (207, .agg #[.int .i64 x]) w := by kernel_rfl
theorem meth_moved (x : Int) (A : Option Addr) (n c : Nat) (w : World) : (method 306 161 (.agg #[.int .i64 x, .slice A n c]) "loop.example/g00588/impl.isPossible").run Tryz.prog w = .ok (209, .agg #[.int .i64 x, .slice A n c]) w := by kernel_rfl
set_option maxHeartbeats 4000000 in
theorem iIsEntry_any (cs : List Value) (k : Entry) (w : World) (h : REntry.rd w (Lt w.heap.size) cs k) (hn : totEntry k ≤ 1099511627776) :
    Calls Tryz.prog 111 #[.agg cs.toArray] w fun e w' => e = .returned (.bool (isEntry k)) ∧ Below w.heap.size w w' := by
  obtain ⟨A, n, c, rfl, h0, h1, h2, h3, h4, h5⟩ := REntry_rd.1 h
  obtain ⟨kl, kk, kv, kp⟩ := k
  simp only at h0 h1 h2 h5
  have hl := h5.len
  have hlen : kl.size ≤ 1099511627776 ∧ n ≤ 1099511627776 := by
    have := totSS_len kp
    unfold totEntry at hn
    simp only at hn
    omega
  have hss : ∀ s ∈ kp, s.size ≤ 1099511627776 := fun s hs => by
    have := totSS_mem hs
    unfold totEntry at hn
    simp only at hn
    omega
  have HB := Lib.hid ((Below.refl w.heap.size w).alloc (Nat.le_refl _) (.cells #[.string kl, .int .i64 kk, .int .i64 kv, .slice A n c] 84))
  have hL := fun w1 => iIsLabel_b kl w1 hlen.1
  have HP := fun w1 (hb : Below w.heap.size w w1) => Lib.hid (imovedPossible_any kv A n c kp w1 ((h5.below hb (Nat.le_refl _)).more hb.size) hlen.2 hss)
  have HN := Lib.hid hlen.2
  obtain ⟨v, b, hM⟩ := mng_cases kk kv A n c
  have HM := fun w1 => Lib.hid (imeaningOf_any kl kk kv A n c v b w1 hlen.2 hM)
  have heq : isEntry ⟨kl, kk, kv, kp⟩ = (b && isLab kl && (if kk = 1 then inR kv 0 999999 else if kk = 2 then inR kv 0 2147483646 else inR kv 0 2147483646 && isPth kp)) := by
    rcases hM with ⟨rfl, rfl, rfl, rfl⟩ | ⟨rfl, rfl, rfl, rfl⟩ | ⟨rfl, rfl, rfl⟩ | ⟨k3, k0, rfl, rfl⟩ | ⟨k1, k2, k3, rfl, rfl, rfl⟩
    · unfold isEntry
      simp [hl, Bool.and_comm]
    · unfold isEntry
      simp [hl, Bool.and_comm]
    · unfold isEntry
      simp
      cases isLab kl <;> cases inR kv 0 2147483646 <;> cases isPth kp <;> rfl
    · unfold isEntry
      have : n ≠ 0 := by omega
      simp [hl, k3, this]
    · unfold isEntry
      simp [k1, k2, k3]
  obtain ⟨r, hr⟩ : ∃ r, r = isEntry ⟨kl, kk, kv, kp⟩ := ⟨_, rfl⟩
  rw [← hr]
  rw [heq] at hr
  clear heq
  clear h h0 h1 h2 h3 h4 h5 hn hss hlen hl
  rcases hbl : isLab kl with _ | _
  · rw [hbl] at hL hr
    obtain rfl : r = false := by rw [hr]; simp
    have HLb := Lib.hid hL
    clear hL hbl hM hr
    rcases b with _ | _
    all_goals
      go_enter Tryz.func111, Tryz.ntmps111
      go_wp2_with fail
      refine (HM _).out.mono ?_
      rintro e w1 ⟨rfl, hb⟩
      have HB2 := Lib.hid (HB.out.trans (hb.mono (by simp)))
      obtain ⟨hc, hf⟩ := bcell hb
      clear hb
      first
        | (go_wp2_with fail; go_ret; exact ⟨rfl, HB2.out⟩; done)
        | (go_wp2_with fail
           refine (HLb.out _).mono ?_
           rintro e w2 ⟨rfl, hb⟩
           have HB3 := Lib.hid (HB2.out.trans (hb.mono HB2.out.size))
           clear hb
           go_wp2
           go_ret
           exact ⟨rfl, HB3.out⟩
           done)
  · rw [hbl] at hL hr
    have HLb := Lib.hid hL
    clear hL hbl
    rcases hM with ⟨rfl, rfl, rfl, rfl⟩ | ⟨rfl, rfl, rfl, rfl⟩ | ⟨rfl, rfl, rfl⟩ | ⟨k3, k0, rfl, rfl⟩ | ⟨k1, k2, k3, rfl, rfl, rfl⟩
    · have hm := fun w1 => meth_value kv w1
      obtain rfl : r = inR kv 0 999999 := by rw [hr]; simp
      clear hr
      go_enter Tryz.func111, Tryz.ntmps111
      go_wp2_with fail
      refine (HM _).out.mono ?_
      rintro e w1 ⟨rfl, hb⟩
      have HB2 := Lib.hid (HB.out.trans (hb.mono (by simp)))
      obtain ⟨hc, hf⟩ := bcell hb
      clear hb
      go_wp2_with fail
      refine (HLb.out _).mono ?_
      rintro e w2 ⟨rfl, hb⟩
      have HB3 := Lib.hid (HB2.out.trans (hb.mono HB2.out.size))
      clear hb hc hf
      go_wp2_with fail
      refine (ivaluePossible_any kv w2).mono ?_
      rintro e w3 ⟨rfl, hb⟩
      have HB4 := Lib.hid (HB3.out.trans (hb.mono HB3.out.size))
      clear hb
      go_wp2
      go_ret
      exact ⟨rfl, HB4.out⟩
    · have hm := fun w1 => meth_zone kv w1
      obtain rfl : r = inR kv 0 2147483646 := by rw [hr]; simp
      clear hr
      go_enter Tryz.func111, Tryz.ntmps111
      go_wp2_with fail
      refine (HM _).out.mono ?_
      rintro e w1 ⟨rfl, hb⟩
      have HB2 := Lib.hid (HB.out.trans (hb.mono (by simp)))
      obtain ⟨hc, hf⟩ := bcell hb
      clear hb
      go_wp2_with fail
      refine (HLb.out _).mono ?_
      rintro e w2 ⟨rfl, hb⟩
      have HB3 := Lib.hid (HB2.out.trans (hb.mono HB2.out.size))
      clear hb hc hf
      go_wp2_with fail
      refine (izonePossible_any kv w2).mono ?_
      rintro e w3 ⟨rfl, hb⟩
      have HB4 := Lib.hid (HB3.out.trans (hb.mono HB3.out.size))
      clear hb
      go_wp2
      go_ret
      exact ⟨rfl, HB4.out⟩
    · have hm := fun w1 => meth_moved kv A n c w1
      obtain rfl : r = (inR kv 0 2147483646 && isPth kp) := by rw [hr]; simp
      clear hr
      go_enter Tryz.func111, Tryz.ntmps111
      go_wp2_with fail
      refine (HM _).out.mono ?_
      rintro e w1 ⟨rfl, hb⟩
      have HB2 := Lib.hid (HB.out.trans (hb.mono (by simp)))
      obtain ⟨hc, hf⟩ := bcell hb
      clear hb
      go_wp2_with fail
      refine (HLb.out _).mono ?_
      rintro e w2 ⟨rfl, hb⟩
      have HB3 := Lib.hid (HB2.out.trans (hb.mono HB2.out.size))
      clear hb hc hf
      go_wp2_with fail
      refine ((HP _ HB3.out).out).mono ?_
      rintro e w3 ⟨rfl, hb⟩
      have HB4 := Lib.hid (HB3.out.trans (hb.mono HB3.out.size))
      clear hb
      go_wp2
      go_ret
      exact ⟨rfl, HB4.out⟩
    · obtain rfl : r = false := by rw [hr]; rfl
      clear hr
      go_enter Tryz.func111, Tryz.ntmps111
      go_wp2_with fail
      refine (HM _).out.mono ?_
      rintro e w1 ⟨rfl, hb⟩
      have HB2 := Lib.hid (HB.out.trans (hb.mono (by simp)))
      obtain ⟨hc, hf⟩ := bcell hb
      clear hb
      go_wp2
      go_ret
      exact ⟨rfl, HB2.out⟩
    · obtain rfl : r = false := by rw [hr]; rfl
      clear hr
      go_enter Tryz.func111, Tryz.ntmps111
      go_wp2_with fail
      refine (HM _).out.mono ?_
      rintro e w1 ⟨rfl, hb⟩
      have HB2 := Lib.hid (HB.out.trans (hb.mono (by simp)))
      obtain ⟨hc, hf⟩ := bcell hb
      clear hb
      go_wp2
      go_ret
      exact ⟨rfl, HB2.out⟩
end Go.Proofs.YthhmhcmlbpdlbaaGreat.C08I
