/- Chapter 8: entries, what the model's functions return. -/
import Derived.Test.YthhmhcmlbpdlbaaGreatM08
import Derived.Test.YthhmhcmlbpdlbaaGreatC03H
import Derived.Test.YthhmhcmlbpdlbaaGreatC05I
import Derived.Test.YthhmhcmlbpdlbaaGreatRKA
import Derived.Deep.RegionHeld3
namespace Go.Proofs.YthhmhcmlbpdlbaaGreat.C08S
open Go.RowKit Mem MemS M02 M03 M04 M05 M08 C01 C02 C03S C03D C03H C04S C04I C05S C05I Rep RepA R08 RG RGS RKA
set_option linter.unusedVariables false
set_option maxRecDepth 100000
theorem sLabelInts_b (s : ByteArray) (w : World) (hs : s.size ≤ 1048576) :
    Calls Tryz.prog 164 #[.string s] w fun e w' => ∃ A' c', e = .returned (.slice A' (bti (nums s)).length c') ∧ Own .i64 w' w.heap.size w'.heap.size A' (bti (nums s)).length c' (bti (nums s)) ∧ Below w.heap.size w w' := by
  rw [bti_len, nums_len]
  exact sLabelInts_any s w hs
set_option maxHeartbeats 2000000 in
theorem sEntryInts_any (cs : List Value) (k : Entry) (w : World) (h : REntry.rd w (Lt w.heap.size) cs k) (hn : totEntry k ≤ 1048576) :
    Calls Tryz.prog 153 #[.agg cs.toArray] w fun e w' => ∃ A' c', e = .returned (.slice A' (entryInts k).length c') ∧ Own .i64 w' w.heap.size w'.heap.size A' (entryInts k).length c' (entryInts k) ∧ Below w.heap.size w w' := by
  obtain ⟨A, n, c, rfl, h0, h1, h2, h3, h4, h5⟩ := REntry_rd.1 h
  obtain ⟨kl, kk, kv, kp⟩ := k
  simp only at h0 h1 h2 h5
  have hl := h5.len
  have hnn : n ≤ 1048576 := by
    have := totSS_len kp
    unfold totEntry at hn
    simp only at hn
    omega
  have HKL := Lib.hid (show kl.size ≤ 1048576 by unfold totEntry at hn; simp only at hn; omega)
  have HLIT := Lib.hid (show ∀ z ∈ [kk, kv, (n : Int)], In .i64 z from fun z hz => by
    simp only [List.mem_cons, List.not_mem_nil, or_false] at hz
    rcases hz with rfl | rfl | rfl
    · exact h1
    · exact h2
    · exact inI64 (by omega) (by omega))
  have HS := Lib.hid (show ∀ s ∈ kp, s.size ≤ 1048576 from fun s hs => by
    have := totSS_mem hs
    unfold totEntry at hn
    simp only at hn
    omega)
  have HT := Lib.hid (fun j => eiUpto_len ⟨kl, kk, kv, kp⟩ j)
  have HTN := Lib.hid hn
  have HST := Lib.hid (fun j h => ei_step (k := ⟨kl, kk, kv, kp⟩) (j := j) h)
  have HE0 := Lib.hid (ei_zero ⟨kl, kk, kv, kp⟩)
  have heq : entryInts ⟨kl, kk, kv, kp⟩ = eiUpto ⟨kl, kk, kv, kp⟩ n := by
    unfold entryInts
    simp only
    rw [hl]
  rw [heq]
  have HL := Lib.hid hl
  have HX := Lib.hid (show Box (w.alloc (.cells #[.string kl, .int .i64 kk, .int .i64 kv, .slice A n c] 84)) w.heap.size [.string kl, .int .i64 kk, .int .i64 kv, .slice A n c] from by
    have := Box.new w #[.string kl, .int .i64 kk, .int .i64 kv, .slice A n c] 84
    simpa using this)
  have HZ0 := Lib.hid (HX.out.cell (j := 0) rfl)
  have HZ1 := Lib.hid (HX.out.cell (j := 1) rfl)
  have HZ2 := Lib.hid (HX.out.cell (j := 2) rfl)
  have HZ3 := Lib.hid (HX.out.cell (j := 3) rfl)
  have HB := Lib.hid ((Below.refl w.heap.size w).alloc (Nat.le_refl _) (.cells #[.string kl, .int .i64 kk, .int .i64 kv, .slice A n c] 84))
  have H5 := Lib.hid (h5.alloc (Nat.le_refl _) (.cells #[.string kl, .int .i64 kk, .int .i64 kv, .slice A n c] 84))
  have HI := Lib.hid h3
  clear h h0 h1 h2 h3 h4 h5 hl hn heq
  go_enter Tryz.func153, Tryz.ntmps153
  go_wp2_with fail
  refine RK.region (RKS.kill _ (fun q => q == 11) (B := (w.alloc (.cells #[.string kl, .int .i64 kk, .int .i64 kv, .slice A n c] 84)).drew.heap.size) [RKS.sv (.pointer (some ⟨w.heap.size, 0, none⟩)), RKS.sv (.string (kl)), RKS.sown .i64 (bti (nums kl)), RKS.sv (.pointer (some ⟨w.heap.size, 1, none⟩)), RKS.sv (.int .i64 (kk)), RKS.sv (.pointer (some ⟨w.heap.size, 2, none⟩)), RKS.sv (.int .i64 (kv)), RKS.sv (.pointer (some ⟨w.heap.size, 3, none⟩)), RKS.sv (.slice A n c), RKS.sv (.int .i64 ((n : Int))), RKS.sown .i64 ([kk, kv, (n : Int)]), RKS.sown .i64 (bti (nums kl) ++ [kk, kv, (n : Int)]), RKS.sown .i64 (bti (nums kl) ++ [kk, kv, (n : Int)])]) (RKS.eff ((w.alloc (.cells #[.string kl, .int .i64 kk, .int .i64 kv, .slice A n c] 84)).drew.heap.size) (fun q => q == 11)) (RKS.tabP [RKS.sv (.pointer (some ⟨w.heap.size, 0, none⟩)), RKS.sv (.string (kl)), RKS.sown .i64 (bti (nums kl)), RKS.sv (.pointer (some ⟨w.heap.size, 1, none⟩)), RKS.sv (.int .i64 (kk)), RKS.sv (.pointer (some ⟨w.heap.size, 2, none⟩)), RKS.sv (.int .i64 (kv)), RKS.sv (.pointer (some ⟨w.heap.size, 3, none⟩)), RKS.sv (.slice A n c), RKS.sv (.int .i64 ((n : Int))), RKS.sown .i64 ([kk, kv, (n : Int)]), RKS.sown .i64 (bti (nums kl) ++ [kk, kv, (n : Int)]), RKS.sown .i64 (bti (nums kl) ++ [kk, kv, (n : Int)])]) (by kernel_rfl) (by kernel_rfl) RKS.eff_below RKS.eff_keep ?_ ?_
  · refine RK.steps_cons ?_ (RK.steps_cons ?_ (RK.steps_cons ?_ (RK.steps_cons ?_ (RK.steps_cons ?_ (RK.steps_cons ?_ (RK.steps_cons ?_ (RK.steps_cons ?_ (RK.steps_cons ?_ (RK.steps_cons ?_ (RK.steps_cons ?_ (RK.steps_cons ?_ (RK.steps_cons ?_ (RK.steps_nil)))))))))))))
    · intro aa ww hA K hK0
      have hK := RKA.quietE rfl hK0
      refine RKS.free rfl fun _ => ?_
      have e1 : aa.tmps.getD 1 undef = .pointer (some ⟨w.heap.size, 0, none⟩) := hA.old 1 (by kernel_rfl)
      exact gives hK (v := .pointer (some ⟨w.heap.size, 0, none⟩)) (by simp [execOp, Act.eval, e1, go_sem]) rfl
    · intro aa ww hA K hK0
      have hK := RKA.quietE rfl hK0
      refine RKS.free rfl fun _ => ?_
      have e5 : aa.tmps.getD 5 undef = .pointer (some ⟨w.heap.size, 0, none⟩) := hA.got 0 5 (by kernel_rfl)
      have c0 := (hA.bel.cell (p := ⟨w.heap.size, 0, none⟩) HX.out.lt).trans HZ0.out
      exact gives hK (v := .string kl) (by simp [execOp, Act.eval, e5, c0, go_sem]) rfl
    · intro aa ww hA K hK0
      have hK := RKA.quietE rfl hK0
      refine RKS.free rfl fun _ => ?_
      have e6 : aa.tmps.getD 6 undef = .string (kl) := hA.got 1 6 (by kernel_rfl)
      refine calls hK (by simp [Act.eval, e6, go_sem]) (sLabelInts_b kl ww HKL.out) ?_
      rintro e w1 ⟨A9, c9, rfl, hown, hb⟩
      exact ⟨_, rfl, hb, ⟨A9, c9, rfl, hown.base hA.bel.size⟩⟩
    · intro aa ww hA K hK0
      have hK := RKA.quietE rfl hK0
      refine RKS.free rfl fun _ => ?_
      have e1 : aa.tmps.getD 1 undef = .pointer (some ⟨w.heap.size, 0, none⟩) := hA.old 1 (by kernel_rfl)
      exact gives hK (v := .pointer (some ⟨w.heap.size, 1, none⟩)) (by simp [execOp, Act.eval, e1, go_sem]) rfl
    · intro aa ww hA K hK0
      have hK := RKA.quietE rfl hK0
      refine RKS.free rfl fun _ => ?_
      have e8 : aa.tmps.getD 8 undef = .pointer (some ⟨w.heap.size, 1, none⟩) := hA.got 3 8 (by kernel_rfl)
      have c1 := (hA.bel.cell (p := ⟨w.heap.size, 1, none⟩) HX.out.lt).trans HZ1.out
      exact gives hK (v := .int .i64 kk) (by simp [execOp, Act.eval, e8, c1, go_sem]) rfl
    · intro aa ww hA K hK0
      have hK := RKA.quietE rfl hK0
      refine RKS.free rfl fun _ => ?_
      have e1 : aa.tmps.getD 1 undef = .pointer (some ⟨w.heap.size, 0, none⟩) := hA.old 1 (by kernel_rfl)
      exact gives hK (v := .pointer (some ⟨w.heap.size, 2, none⟩)) (by simp [execOp, Act.eval, e1, go_sem]) rfl
    · intro aa ww hA K hK0
      have hK := RKA.quietE rfl hK0
      refine RKS.free rfl fun _ => ?_
      have e10 : aa.tmps.getD 10 undef = .pointer (some ⟨w.heap.size, 2, none⟩) := hA.got 5 10 (by kernel_rfl)
      have c2 := (hA.bel.cell (p := ⟨w.heap.size, 2, none⟩) HX.out.lt).trans HZ2.out
      exact gives hK (v := .int .i64 kv) (by simp [execOp, Act.eval, e10, c2, go_sem]) rfl
    · intro aa ww hA K hK0
      have hK := RKA.quietE rfl hK0
      refine RKS.free rfl fun _ => ?_
      have e1 : aa.tmps.getD 1 undef = .pointer (some ⟨w.heap.size, 0, none⟩) := hA.old 1 (by kernel_rfl)
      exact gives hK (v := .pointer (some ⟨w.heap.size, 3, none⟩)) (by simp [execOp, Act.eval, e1, go_sem]) rfl
    · intro aa ww hA K hK0
      have hK := RKA.quietE rfl hK0
      refine RKS.free rfl fun _ => ?_
      have e12 : aa.tmps.getD 12 undef = .pointer (some ⟨w.heap.size, 3, none⟩) := hA.got 7 12 (by kernel_rfl)
      have c3 := (hA.bel.cell (p := ⟨w.heap.size, 3, none⟩) HX.out.lt).trans HZ3.out
      exact gives hK (v := .slice A n c) (by simp [execOp, Act.eval, e12, c3, go_sem]) rfl
    · intro aa ww hA K hK0
      have hK := RKA.quietE rfl hK0
      refine RKS.free rfl fun _ => ?_
      have e13 : aa.tmps.getD 13 undef = .slice A n c := hA.got 8 13 (by kernel_rfl)
      exact gives hK (v := .int .i64 ((n : Int))) (by simp [Act.eval, e13, go_sem]) rfl
    · intro aa ww hA K hK0
      have hK := RKA.quietE rfl hK0
      refine RKS.free rfl fun _ => ?_
      have e9 : aa.tmps.getD 9 undef = .int .i64 (kk) := hA.got 4 9 (by kernel_rfl)
      have e11 : aa.tmps.getD 11 undef = .int .i64 (kv) := hA.got 6 11 (by kernel_rfl)
      have e14 : aa.tmps.getD 14 undef = .int .i64 ((n : Int)) := hA.got 9 14 (by kernel_rfl)
      exact lays hK (v := .slice (some ⟨ww.heap.size, 0, none⟩) 3 3) (w' := ww.alloc (.cells #[.int .i64 (kk), .int .i64 (kv), .int .i64 ((n : Int))] 3)) (by simp only [execOp, List.map_toArray, List.map_cons, List.map_nil, Act.eval, e9, e11, e14]; simp [go_sem]) ((Below.refl _ _).alloc (Nat.le_refl _) _) (RKA.sown_lits (zs := [kk, kv, (n : Int)]) HLIT.out hA.bel.size (by simp [maxLen]))
    · intro aa ww hA K hK0
      have hK := RKA.loudE rfl hK0
      refine RKS.free rfl fun _ => ?_
      obtain ⟨A7, c7, e7, h7⟩ := hA.got 2 7 (by kernel_rfl)
      obtain ⟨A15, c15, e15, h15⟩ := hA.got 10 15 (by kernel_rfl)
      exact RKA.app1 (B := (w.alloc (.cells #[.string kl, .int .i64 kk, .int .i64 kv, .slice A n c] 84)).drew.heap.size) hK (.tmp 7) (.tmp 15) rfl e7 e15 h7 h15.rd (by have := HKL.out; rw [bti_len, nums_len]; simp; omega) hA.bel.size (fun _ _ h => h)
    · intro aa ww hA K hK0
      have hK := RKA.quietE rfl hK0
      refine RKS.free rfl fun _ => ?_
      exact gives hK rfl (hA.got 11 16 (by kernel_rfl))
  · intro a1 w1 hb hd hsz hold hgot
    obtain ⟨B3, d3, g3, p3⟩ := hgot 12 3 (by kernel_rfl) (by kernel_rfl)
    have ea := act_put hd hsz hold [5, 6, 7, 8, 9, 10, 11, 12, 13, 14, 15, 16, 3] rfl
    simp only [List.foldl_cons, List.foldl_nil, g3] at ea
    rename_i K9 hK9
    refine hK9 a1 w1 ?_
    generalize a1.tmps.getD 5 undef = v5 at ea
    generalize a1.tmps.getD 6 undef = v6 at ea
    generalize a1.tmps.getD 7 undef = v7 at ea
    generalize a1.tmps.getD 8 undef = v8 at ea
    generalize a1.tmps.getD 9 undef = v9 at ea
    generalize a1.tmps.getD 10 undef = v10 at ea
    generalize a1.tmps.getD 11 undef = v11 at ea
    generalize a1.tmps.getD 12 undef = v12 at ea
    generalize a1.tmps.getD 13 undef = v13 at ea
    generalize a1.tmps.getD 14 undef = v14 at ea
    generalize a1.tmps.getD 15 undef = v15 at ea
    generalize a1.tmps.getD 16 undef = v16 at ea
    clear hgot hold hsz hd g3
    simp only [Act.put, List.setIfInBounds_toArray, List.set_cons_succ, List.set_cons_zero] at ea
    subst ea
    have HB1 := Lib.hid (HB.out.trans ((below_drew hb).mono (by simp)))
    have HX1 := Lib.hid (HX.out.below (below_drew hb) (by simp))
    have HO1 := Lib.hid p3
    have HR1 := Lib.hid (H5.out.below (below_drew hb) (by simp))
    clear hb p3
    go_wp2
    go_loopw [3, 4] (fun ov iv wr => ∃ (j : Nat) (A' : Option Addr) (c' : Nat), j ≤ n ∧ iv = .int .i64 j ∧ ov = .slice A' (eiUpto ⟨kl, kk, kv, kp⟩ j).length c' ∧ Own .i64 wr (w.heap.size + 1) wr.heap.size A' (eiUpto ⟨kl, kk, kv, kp⟩ j).length c' (eiUpto ⟨kl, kk, kv, kp⟩ j) ∧ Box wr w.heap.size [.string kl, .int .i64 kk, .int .i64 kv, .slice A n c] ∧ Below w.heap.size w wr ∧ RdS wr w.heap.size A n kp) (fun _ iv _ => n - (intOf iv).toNat)
    case atStart =>
      refine ⟨0, B3, d3, by omega, rfl, ?_, ?_, HX1.out, HB1.out, HR1.out⟩
      · rw [HE0.out, HL.out]
      · rw [HE0.out, HL.out]
        exact HO1.out.base (by simp)
    case round =>
      obtain ⟨j, A', c', hj, rfl, rfl, hown, hx, hbel, hrs⟩ := hrel
      have z3 := hx.cell (j := 3) rfl
      have HXr := Lib.hid hx
      have HBr := Lib.hid hbel
      have HO := Lib.hid hown
      by_cases hjn : j < n
      · have hlen := HT.out j
        have htn := HTN.out
        have HRr := Lib.hid hrs
        obtain ⟨b, off, rfl, hlt, hcc⟩ := hrs.cells (by omega)
        have hcj := hcc j hjn
        have hjl : j < kp.length := by rw [HL.out]; exact hjn
        have hst := HST.out j hjl
        have hzs : (kp.getD j .empty).size ≤ 1048576 := HS.out _ (by
          simp only [List.getD, List.getElem?_eq_getElem hjl, Option.getD_some]
          exact List.getElem_mem hjl)
        generalize kp.getD j .empty = z at hcj hst hzs
        generalize eiUpto ⟨kl, kk, kv, kp⟩ j = zs at HO hst hlen
        have HST1 := Lib.hid hst
        have hzl : (bti (nums z)).length ≤ 1048577 := by rw [bti_len, nums_len]; omega
        have hzk : zs.length ≤ 1048580 := by omega
        clear hst hlen htn hcc hrs hown hx hbel
        go_wp2_with fail
        refine (sLabelInts_b z wr hzs).mono ?_
        rintro e w2 ⟨A2, c2, rfl, ho2, hb2⟩
        have HO2 := Lib.hid (HO.out.below hb2 (Nat.le_refl _))
        have HL2 := Lib.hid ho2
        have HX2 := Lib.hid (HXr.out.below hb2 HXr.out.lt)
        have HB2 := Lib.hid (HBr.out.trans (hb2.mono HBr.out.size))
        have HR2 := Lib.hid (HRr.out.below hb2 HBr.out.size)
        have hsz : w.heap.size + 1 ≤ w2.heap.size := Nat.le_trans HXr.out.lt hb2.size
        clear ho2 hb2 z3
        go_wp2_with (at_builtin; refine wp_app (k := .i64) (by unfold BI; decide) rfl _ _ rfl rfl HO2.out rfl HL2.out.rd (by omega) hsz ?_; intro A3 c3 w3 hown3 hgr3)
        have HO3 := Lib.hid hown3
        have HG3 := Lib.hid (hgr3.below hsz HO2.out.ge)
        clear hown3 hgr3
        go_wp2
        go_roundw
        case rel =>
          refine ⟨j + 1, A3, c3, by omega, by go_num, ?_, ?_, HX2.out.below HG3.out (by omega), HB2.out.trans (HG3.out.mono (by omega)), HR2.out.below HG3.out (by omega)⟩
          · rw [← HST1.out, List.length_append]
          · rw [← HST1.out, List.length_append]
            exact HO3.out
        case measure => simp [intOf]; omega
      · obtain rfl : j = n := by omega
        clear hjn hj hrs hown hx hbel
        go_wp2
        go_ret
        exact ⟨A', c', rfl, HO.out.base (by omega), HBr.out⟩
set_option maxHeartbeats 4000000 in
theorem sIsEntry_any (cs : List Value) (k : Entry) (w : World) (h : REntry.rd w (Lt w.heap.size) cs k) (hn : totEntry k ≤ 1099511627776) :
    Calls Tryz.prog 82 #[.agg cs.toArray] w fun e w' => e = .returned (.bool (isEntry k)) ∧ Below w.heap.size w w' := by
  obtain ⟨A, n, c, rfl, h0, h1, h2, h3, h4, h5⟩ := REntry_rd.1 h
  obtain ⟨kl, kk, kv, kp⟩ := k
  simp only at h0 h1 h2 h5
  have hl := h5.len
  have hlen : kl.size ≤ 1099511627776 ∧ n ≤ 1099511627776 := by
    have := totSS_len kp
    unfold totEntry at hn
    simp only at hn
    omega
  have hss : ∀ s ∈ kp, s.size ≤ 1099511627776 := fun s hs => by
    have := totSS_mem hs
    unfold totEntry at hn
    simp only at hn
    omega
  have HB := Lib.hid ((Below.refl w.heap.size w).alloc (Nat.le_refl _) (.cells #[.string kl, .int .i64 kk, .int .i64 kv, .slice A n c] 84))
  have hL := fun w1 => sIsLabel_b kl w1 hlen.1
  have hP := fun w1 (hb : Below w.heap.size w w1) => sIsPath_any w.heap.size A n c kp w1 (h5.below hb (Nat.le_refl _)) hb.size hlen.2 hss
  have HN := Lib.hid hlen.2
  unfold isEntry
  simp only
  clear h h0 h1 h2 h3 h4 h5 hn hss hlen
  have hcase : kk = 1 ∨ kk = 2 ∨ kk = 3 ∨ (kk ≠ 1 ∧ kk ≠ 2 ∧ kk ≠ 3) := by omega
  rcases hcase with rfl | rfl | rfl | ⟨k1, k2, k3⟩
  · rw [if_pos rfl, hl]
    have hI := fun w1 => l1In_any kv 0 999999 w1
    clear hP hl
    rcases hbl : isLab kl with _ | _ <;> rcases hin : inR kv 0 999999 with _ | _ <;> rcases Nat.eq_zero_or_pos n with hz | hz
    all_goals
      rw [hbl] at hL
      rw [hin] at hI
      have HLb := Lib.hid hL
      have HI := Lib.hid hI
      have HZ := Lib.hid hz
      have hzi : ((n : Int) == 0) = decide (n = 0) := by first | (subst hz; rfl) | (rw [decide_eq_false (by omega)]; exact beq_eq_false_iff_ne.2 (by omega))
      clear hL hI hbl hin hz
      go_enter Tryz.func82, Tryz.ntmps82
      go_wp2_with fail
      refine (HLb.out _).mono ?_
      rintro e w1 ⟨rfl, hb⟩
      have HB2 := Lib.hid (HB.out.trans (hb.mono (by simp)))
      obtain ⟨hc, hf⟩ := bcell hb
      clear hb
      first
        | (go_wp2_with fail; go_ret; exact ⟨rfl, HB2.out⟩; done)
        | (go_wp2_with fail
           refine (HI.out _).mono ?_
           rintro e w2 ⟨rfl, rfl⟩
           go_wp2
           go_ret
           exact ⟨by first | rfl | (rw [hzi]; rfl), HB2.out⟩
           done)
  · rw [if_neg (by decide), if_pos rfl, hl]
    have hI := fun w1 => l1In_any kv 0 2147483646 w1
    clear hP hl
    rcases hbl : isLab kl with _ | _ <;> rcases hin : inR kv 0 2147483646 with _ | _ <;> rcases Nat.eq_zero_or_pos n with hz | hz
    all_goals
      rw [hbl] at hL
      rw [hin] at hI
      have HLb := Lib.hid hL
      have HI := Lib.hid hI
      have HZ := Lib.hid hz
      have hzi : ((n : Int) == 0) = decide (n = 0) := by first | (subst hz; rfl) | (rw [decide_eq_false (by omega)]; exact beq_eq_false_iff_ne.2 (by omega))
      clear hL hI hbl hin hz
      go_enter Tryz.func82, Tryz.ntmps82
      go_wp2_with fail
      refine (HLb.out _).mono ?_
      rintro e w1 ⟨rfl, hb⟩
      have HB2 := Lib.hid (HB.out.trans (hb.mono (by simp)))
      obtain ⟨hc, hf⟩ := bcell hb
      clear hb
      first
        | (go_wp2_with fail; go_ret; exact ⟨rfl, HB2.out⟩; done)
        | (go_wp2_with fail
           refine (HI.out _).mono ?_
           rintro e w2 ⟨rfl, rfl⟩
           go_wp2
           go_ret
           exact ⟨by first | rfl | (rw [hzi]; rfl), HB2.out⟩
           done)
  · rw [if_neg (by decide), if_neg (by decide), if_pos rfl]
    have hI := fun w1 => l1In_any kv 0 2147483646 w1
    clear hl
    rcases hbl : isLab kl with _ | _ <;> rcases hin : inR kv 0 2147483646 with _ | _
    all_goals
      rw [hbl] at hL
      rw [hin] at hI
      have HLb := Lib.hid hL
      have HI := Lib.hid hI
      have HP := Lib.hid hP
      clear hL hI hbl hin hP
      go_enter Tryz.func82, Tryz.ntmps82
      go_wp2_with fail
      refine (HLb.out _).mono ?_
      rintro e w1 ⟨rfl, hb⟩
      have HB2 := Lib.hid (HB.out.trans (hb.mono (by simp)))
      obtain ⟨hc, hf⟩ := bcell hb
      clear hb
      first
        | (go_wp2_with fail; go_ret; exact ⟨rfl, HB2.out⟩; done)
        | (go_wp2_with fail
           refine (HI.out _).mono ?_
           rintro e w2 ⟨rfl, rfl⟩
           go_wp2_with fail
           go_ret
           exact ⟨rfl, HB2.out⟩
           done)
        | (go_wp2_with fail
           refine (HI.out _).mono ?_
           rintro e w2 ⟨rfl, rfl⟩
           go_wp2_with fail
           refine (HP.out _ HB2.out).mono ?_
           rintro e w3 ⟨rfl, hb3⟩
           have HB3 := Lib.hid (HB2.out.trans (hb3.mono HB2.out.size))
           clear hb3
           go_wp2
           go_ret
           exact ⟨rfl, HB3.out⟩)
  · rw [if_neg k1, if_neg k2, if_neg k3]
    have e1 : (kk == 1) = false := beq_eq_false_iff_ne.2 k1
    have e2 : (kk == 2) = false := beq_eq_false_iff_ne.2 k2
    have e3 : (kk == 3) = false := beq_eq_false_iff_ne.2 k3
    clear hL hP
    go_enter Tryz.func82, Tryz.ntmps82
    go_wp2
    go_ret
    exact ⟨rfl, HB.out⟩
theorem sLeafOf_any (cs : List Value) (k : Entry) (w : World) (h : REntry.rd w (Lt w.heap.size) cs k) (hn : totEntry k ≤ 1048576) :
    Calls Tryz.prog 124 #[.agg cs.toArray] w fun e w' => e = .returned (.int .i64 (leafOf k)) ∧ Below w.heap.size w w' := by
  have hlen := eiUpto_len k k.path.length
  obtain ⟨v0, v1, v2, v3, rfl⟩ : ∃ v0 v1 v2 v3, cs = [v0, v1, v2, v3] := by
    obtain ⟨A, n, c, e, _⟩ := REntry_rd.1 h
    exact ⟨_, _, _, _, e⟩
  have HB := Lib.hid ((Below.refl w.heap.size w).alloc (Nat.le_refl _) (.cells #[v0, v1, v2, v3] 84) |>.alloc (by simp) (.cells #[.int .i64 227] 3))
  have H := Lib.hid (REntry.more (REntry.keep h fun i hi => HB.out.block i hi) (P' := Lt ((w.alloc (.cells #[v0, v1, v2, v3] 84)).alloc (.cells #[.int .i64 227] 3)).heap.size) fun i hi => Nat.lt_of_lt_of_le hi HB.out.size)
  have H0 := Lib.hid (show Own .i64 ((w.alloc (.cells #[v0, v1, v2, v3] 84)).alloc (.cells #[.int .i64 227] 3)) w.heap.size (w.heap.size + 1 + 1) (some ⟨w.heap.size + 1, 0, none⟩) 1 1 [227] from by
    have := RKA.own_lits (w := w.alloc (.cells #[v0, v1, v2, v3] 84)) (lo := w.heap.size) (zs := [227]) (by intro z hz; rw [List.mem_singleton.1 hz]; exact inI64 (by omega) (by omega)) (by simp) (by simp [maxLen])
    simp at this
    exact this)
  have HL := Lib.hid (show (entryInts k).length ≤ 1048580 by unfold entryInts; omega)
  have HE := Lib.hid (show leafOf k = hsh ([227] ++ entryInts k) from rfl)
  rw [HE.out]
  clear h hlen
  go_enter Tryz.func124, Tryz.ntmps124
  go_wp2_with fail
  refine (sEntryInts_any [v0, v1, v2, v3] k _ H.out hn).mono ?_
  rintro e w2 ⟨A2, c2, rfl, hown, hb⟩
  have HO := Lib.hid hown
  have HB2 := Lib.hid (HB.out.trans (hb.mono (by simp; omega)))
  have H02 := Lib.hid (H0.out.below hb (by simp))
  clear hown hb
  go_wp2_with (at_builtin; refine wp_app (k := .i64) (by unfold BI; decide) rfl _ _ rfl rfl H02.out rfl HO.out.rd (by have := HL.out; omega) HB2.out.size ?_; intro A3 c3 w3 hown3 hgr3)
  have HO3 := Lib.hid hown3
  have HB3 := Lib.hid (HB2.out.trans (hgr3.below HB2.out.size H02.out.ge))
  clear hown3 hgr3
  go_wp2_with fail
  refine (sHash_any _ A3 _ c3 _ _ HO3.out.rd (by have := HL.out; omega)).mono ?_
  rintro e w4 ⟨rfl, rfl⟩
  have HB4 := HB3
  go_wp2
  go_ret
  exact ⟨rfl, HB4.out⟩
theorem sValueEntry_any (s : ByteArray) (x : Int) (w : World) (hs : InS s) (hx : In .i64 x) :
    Calls Tryz.prog 72 #[.string s, .int .i64 x] w fun e w' => ∃ cs, e = .returned (.agg (List.toArray cs)) ∧ OwnI REntry w' w.heap.size w'.heap.size cs ⟨s, 1, x, []⟩ ∧ Below w.heap.size w w' := by
  have HS := Lib.hid hs
  have HX := Lib.hid hx
  clear hs hx
  go_enter Tryz.func72, Tryz.ntmps72
  go_wp2
  refine bodyPost_ret (v := .agg #[.string s, .int .i64 1, .int .i64 x, .slice none 0 0]) (by simp [results, Tryz.results72, go_sem]) rfl ⟨[.string s, .int .i64 1, .int .i64 x, .slice none 0 0], rfl, ?_, ?_⟩
  · exact REntry_own.2 ⟨none, 0, 0, rfl, HS.out, inI64 (by simp) (by simp), HX.out, OwnS.nil _ _ _⟩
  · exact (Below.refl _ _).alloc (Nat.le_refl _) _
theorem sZoneEntry_any (s : ByteArray) (x : Int) (w : World) (hs : InS s) (hx : In .i64 x) :
    Calls Tryz.prog 138 #[.string s, .int .i64 x] w fun e w' => ∃ cs, e = .returned (.agg (List.toArray cs)) ∧ OwnI REntry w' w.heap.size w'.heap.size cs ⟨s, 2, x, []⟩ ∧ Below w.heap.size w w' := by
  have HS := Lib.hid hs
  have HX := Lib.hid hx
  clear hs hx
  go_enter Tryz.func138, Tryz.ntmps138
  go_wp2
  refine bodyPost_ret (v := .agg #[.string s, .int .i64 2, .int .i64 x, .slice none 0 0]) (by simp [results, Tryz.results138, go_sem]) rfl ⟨[.string s, .int .i64 2, .int .i64 x, .slice none 0 0], rfl, ?_, ?_⟩
  · exact REntry_own.2 ⟨none, 0, 0, rfl, HS.out, inI64 (by simp) (by simp), HX.out, OwnS.nil _ _ _⟩
  · exact (Below.refl _ _).alloc (Nat.le_refl _) _
theorem sMovedEntry_any (s : ByteArray) (x : Int) (A : Option Addr) (n c : Nat) (p : List ByteArray) (w : World) (hs : InS s) (hx : In .i64 x) (hp : RdS w w.heap.size A n p) (hn : n ≤ 1099511627776) :
    Calls Tryz.prog 139 #[.string s, .int .i64 x, .slice A n c] w fun e w' => ∃ cs, e = .returned (.agg (List.toArray cs)) ∧ OwnI REntry w' w.heap.size w'.heap.size cs ⟨s, 3, x, p⟩ ∧ Below w.heap.size w w' := by
  have HS := Lib.hid hs
  have HX := Lib.hid hx
  have HP := Lib.hid ((hp.alloc (Nat.le_refl _) (.cells #[.string .empty, .int .i64 0, .int .i64 0, .slice none 0 0] 84)).more (show w.heap.size ≤ (w.alloc (.cells #[.string .empty, .int .i64 0, .int .i64 0, .slice none 0 0] 84)).heap.size by simp))
  clear hs hx hp
  go_enter Tryz.func139, Tryz.ntmps139
  go_wp2_with fail
  refine (l5Copy_any A n c p _ HP.out hn).mono ?_
  rintro e w2 ⟨A2, c2, rfl, hown, hb⟩
  have HO := Lib.hid hown
  have HB := Lib.hid (((Below.refl w.heap.size w).alloc (Nat.le_refl _) _).trans (hb.mono (by simp)))
  obtain ⟨hc, hf⟩ := bcell hb
  clear hown hb
  go_wp2
  refine bodyPost_ret (v := .agg #[.string s, .int .i64 3, .int .i64 x, .slice A2 n c2]) (by simp [results, Tryz.results139, go_sem, hc]) rfl ⟨[.string s, .int .i64 3, .int .i64 x, .slice A2 n c2], rfl, ?_, ?_⟩
  · refine REntry_own.2 ⟨A2, n, c2, rfl, HS.out, inI64 (by simp) (by simp), HX.out, ?_⟩
    refine OwnS.base (lo := w.heap.size + 1) (OwnS.top (hi := w2.heap.size) ?_) (by omega)
    repeat refine OwnS.store ?_ _ (.inl (by simp))
    exact HO.out.base (by simp)
  · repeat' refine Below.setCell ?_ ?_ _
    all_goals first | exact HB.out | (simp; done) | (simp; omega)
theorem l8Copy_any (cs : List Value) (k : Entry) (w : World) (h : REntry.rd w (Lt w.heap.size) cs k) (hn : totEntry k ≤ 1099511627776) :
    Calls Tryz.prog 109 #[.agg cs.toArray] w fun e w' => ∃ cs, e = .returned (.agg (List.toArray cs)) ∧ OwnI REntry w' w.heap.size w'.heap.size cs k ∧ Below w.heap.size w w' := by
  obtain ⟨A, n, c, rfl, h0, h1, h2, h3, h4, h5⟩ := REntry_rd.1 h
  obtain ⟨kl, kk, kv, kp⟩ := k
  simp only at h0 h1 h2 h5
  have hl := h5.len
  have hn' : n ≤ 1099511627776 := by
    have := totSS_len kp
    unfold totEntry at hn
    simp only at hn
    omega
  have H0 := Lib.hid h0
  have H1 := Lib.hid h1
  have H2 := Lib.hid h2
  have H5 := Lib.hid h5
  clear h h3 h4 h5 hl hn h0 h1 h2
  have HXa := Lib.hid (show Box ((w.alloc (.cells #[.string kl, .int .i64 kk, .int .i64 kv, .slice A n c] 84)).alloc (.cells #[.string ⟨#[]⟩, .int .i64 0, .int .i64 0, .slice none 0 0] 84)) w.heap.size [.string kl, .int .i64 kk, .int .i64 kv, .slice A n c] from by
    have := (Box.new w #[.string kl, .int .i64 kk, .int .i64 kv, .slice A n c] 84).alloc (.cells #[.string ⟨#[]⟩, .int .i64 0, .int .i64 0, .slice none 0 0] 84)
    simpa using this)
  have HXb := Lib.hid (show Box ((w.alloc (.cells #[.string kl, .int .i64 kk, .int .i64 kv, .slice A n c] 84)).alloc (.cells #[.string ⟨#[]⟩, .int .i64 0, .int .i64 0, .slice none 0 0] 84)) (w.heap.size + 1) [.string ⟨#[]⟩, .int .i64 0, .int .i64 0, .slice none 0 0] from by
    have := Box.new (w.alloc (.cells #[.string kl, .int .i64 kk, .int .i64 kv, .slice A n c] 84)) #[.string ⟨#[]⟩, .int .i64 0, .int .i64 0, .slice none 0 0] 84
    simpa using this)
  have HB0 := Lib.hid ((Below.refl w.heap.size w).alloc (Nat.le_refl _) (.cells #[.string kl, .int .i64 kk, .int .i64 kv, .slice A n c] 84) |>.alloc (by simp) (.cells #[.string ⟨#[]⟩, .int .i64 0, .int .i64 0, .slice none 0 0] 84))
  have H5a := Lib.hid ((H5.out.below HB0.out (Nat.le_refl _)).more HB0.out.size)
  obtain ⟨W, hW⟩ : ∃ W, W = (w.alloc (.cells #[.string kl, .int .i64 kk, .int .i64 kv, .slice A n c] 84)).alloc (.cells #[.string ⟨#[]⟩, .int .i64 0, .int .i64 0, .slice none 0 0] 84) := ⟨_, rfl⟩
  rw [← hW] at HXa HXb HB0 H5a
  have HW := Lib.hid hW
  have hws : w.heap.size + 1 < W.heap.size := by rw [hW]; simp
  have H5d := Lib.hid (show RdS W.drew W.drew.heap.size A n kp from H5a.out.keep fun i hi => rfl)
  clear hW H5 H5a
  go_enter Tryz.func109, Tryz.ntmps109
  go_wp2_with fail
  have c0 := HXa.out.cell (j := 0) rfl
  have c1 := HXa.out.cell (j := 1) rfl
  have c2 := HXa.out.cell (j := 2) rfl
  have c3 := HXa.out.cell (j := 3) rfl
  rw [show ((w.alloc (.cells #[.string kl, .int .i64 kk, .int .i64 kv, .slice A n c] 84)).alloc (.cells #[.string ⟨#[]⟩, .int .i64 0, .int .i64 0, .slice none 0 0] 84)) = W from HW.out.symm]
  go_region_held3 (fun w' => w'.cell? ⟨w.heap.size, 0, none⟩ = some (.string kl) ∧ w'.cell? ⟨w.heap.size, 1, none⟩ = some (.int .i64 kk) ∧ w'.cell? ⟨w.heap.size, 2, none⟩ = some (.int .i64 kv) ∧ w'.cell? ⟨w.heap.size, 3, none⟩ = some (.slice A n c)) (go_keep) ((first
    | (go_at_call 143; refine (l5Copy_any A n c kp W.drew H5d.out hn').mono ?_; rintro e w2 ⟨A', c', rfl, hown, hb⟩; have HB2 := Lib.hid (HB0.out.trans ((RKA.below_drew hb).mono HB0.out.size)); have HO := Lib.hid (hown.base (show w.heap.size + 2 ≤ _ from hws)); have HXa2 := Lib.hid (HXa.out.below (RKA.below_drew hb) (by omega)); have HXb2 := Lib.hid (HXb.out.below (RKA.below_drew hb) (by omega)); have d0 := HXa2.out.cell (j := 0) rfl; have d1 := HXa2.out.cell (j := 1) rfl; have d2 := HXa2.out.cell (j := 2) rfl; have d3 := HXa2.out.cell (j := 3) rfl; have r0 := HXb2.out.cell (j := 0) rfl; have r1 := HXb2.out.cell (j := 1) rfl; have r2 := HXb2.out.cell (j := 2) rfl; have r3 := HXb2.out.cell (j := 3) rfl; have f0 := HXb2.out.warm (j := 0) rfl; have f1 := HXb2.out.warm (j := 1) rfl; have f2 := HXb2.out.warm (j := 2) rfl; have f3 := HXb2.out.warm (j := 3) rfl; clear hb hown)))
  clear c0 c1 c2 c3
  go_wp2
  refine bodyPost_ret (v := .agg #[.string kl, .int .i64 kk, .int .i64 kv, .slice A' n c']) (by simp [results, Tryz.results109, go_sem, r0, r1, r2, r3]) rfl ⟨[.string kl, .int .i64 kk, .int .i64 kv, .slice A' n c'], rfl, ?_, ?_⟩
  · refine REntry_own.2 ⟨A', n, c', rfl, H0.out, H1.out, H2.out, ?_⟩
    refine OwnS.base (lo := w.heap.size + 2) (OwnS.top (hi := w2.heap.size) ?_) (by omega)
    repeat refine OwnS.store ?_ _ (.inl (by simp))
    exact HO.out
  · repeat' refine Below.setCell ?_ ?_ _
    all_goals first | exact HB2.out | (simp; done) | (simp; omega)
end Go.Proofs.YthhmhcmlbpdlbaaGreat.C08S
