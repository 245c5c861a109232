/- The walk of the statement 'FnContents': the law returns true, and writes into nothing that was there. -/
import Derived.Test.YtpjfmbcandgpeaaC09SP
import Derived.Test.YtpjfmbcandgpeaaC09SD
import Derived.Test.YtpjfmbcandgpeaaC09I
import Derived.Test.YtpjfmbcandgpeaaC09IP
import Derived.Test.YtpjfmbcandgpeaaC09ID
import Derived.Test.YtpjfmbcandgpeaaD09
import Derived.Test.YtpjfmbcandgpeaaM09F
import Derived.Test.YtpjfmbcandgpeaaTB
import Derived.RegionTactic
namespace Go.Proofs.Ytpjfmbcandgpeaa.W09F
set_option linter.unusedVariables false
set_option maxRecDepth 100000
open Go.RowKit Mem MemS M02 C01 C02 Rep RW R08 Q08 M04 M05 M08 M09 M09F C04I C05I C08S C08I C09S C09SP C09SD C09I C09IP C09ID D01 D08 D09 SL TB RG RGS
theorem up_ent {B : Nat} {w w' : World} {cs : List Value} {k : Entry} (h : REntry.rd w (Lt B) cs k) (hb : Below B w w') (hB : B ≤ w'.heap.size) : REntry.rd w' (Lt w'.heap.size) cs k :=
  REntry.more (REntry.keep h fun i hi => hb.block i hi) fun i hi => Nat.lt_of_lt_of_le hi hB
theorem up_row {B n : Nat} {w w' : World} {A : Option Addr} {l : List Entry} (h : FRdEntry w B A n l) (hb : Below B w w') (hB : B ≤ w'.heap.size) : FRdEntry w' w'.heap.size A n l := (h.below hb (Nat.le_refl _)).more hB
theorem put_no {l : List Entry} {e : Entry} (h : (putE l e).2 = false) : (putE l e).1 = l := by
  unfold putE at h ⊢
  split
  · rw [if_pos (by assumption)] at h
    cases h
  · rfl
theorem put_yes {l : List Entry} {e : Entry} (h : (putE l e).2 = true) : (putE l e).1 = putAll e l ∧ areE (putAll e l) = true := by
  unfold putE at h ⊢
  split at h
  · rename_i hc
    rw [if_pos hc]
    exact ⟨rfl, (Bool.and_eq_true _ _ ▸ hc).2⟩
  · cases h
set_option maxHeartbeats 8000000 in
theorem FnContents_walk (W0 : World) (A : Option Addr) (n c : Nat) (hn : n ≤ maxLen) (hr : BRow W0 W0.heap.size A n) :
    Calls Try.prog 3 #[.slice A n c] W0 fun e w' => e = .returned (.bool true) ∧ Below W0.heap.size W0 w' := by
  by_cases hbig : 1048576 < n
  · go_enter Try.func3, Try.ntmps3
    go_wp2_with fail
    refine (big_yes _ _ _ _ hbig).mono ?_
    rintro e w1 ⟨rfl, rfl⟩
    go_wp2
    go_ret
    exact ⟨rfl, Below.refl _ _⟩
  have HR := Lib.hid hr
  clear hr
  go_enter Try.func3, Try.ntmps3
  go_wp2_with fail
  refine (big_no _ _ _ _ (by omega)).mono ?_
  rintro e w1 ⟨rfl, rfl⟩
  go_wp2_with fail
  refine (drawPutEntry_any W0 A n c hn HR.out).mono ?_
  rintro e W1 ⟨Al, nl, cl, l, Ae, ne, ce, kl, kk, kv, kp, rfl, hsl, hsm, hol, hoe, hb1⟩
  have HTL := Lib.hid (smL_tot hsl)
  have HTE := Lib.hid (sm_tot hsm)
  have HLL := Lib.hid hol.len
  have hnl : nl ≤ 18 := by have := hsl.1; have := hol.len; omega
  have HB1 := Lib.hid (hb1.alloc hb1.size (.cells #[.string kl, .int .i64 kk, .int .i64 kv, .slice Ae ne ce] 27))
  have HN1 := (Below.refl W1.heap.size W1).alloc (Nat.le_refl _) (.cells #[.string kl, .int .i64 kk, .int .i64 kv, .slice Ae ne ce] 27)
  have HX1 := Lib.hid (Box.new W1 #[.string kl, .int .i64 kk, .int .i64 kv, .slice Ae ne ce] 27)
  have HE1 := Lib.hid (up_ent (sm_rd (k := Entry.mk kl kk kv kp) hoe hsm) HN1 HN1.size)
  have HL1 := Lib.hid (up_row hol.rd HN1 HN1.size)
  generalize hV1 : W1.alloc (.cells #[.string kl, .int .i64 kk, .int .i64 kv, .slice Ae ne ce] 27) = V1 at HB1 HN1 HX1 HE1 HL1
  have HV1 := Lib.hid hV1
  have hP := iPutEntry_any Al nl cl l [.string kl, .int .i64 kk, .int .i64 kv, .slice Ae ne ce] ⟨kl, kk, kv, kp⟩ V1 HL1.out HE1.out (by have := HTL.out; omega) (by have := HTE.out; omega)
  have hPS := fun w1 hl he => sPutEntry_any Al nl cl l [.string kl, .int .i64 kk, .int .i64 kv, .slice Ae ne ce] ⟨kl, kk, kv, kp⟩ w1 hl he (by have := HTL.out; omega) (by have := HTE.out; omega)
  have hno := put_no (l := l) (e := ⟨kl, kk, kv, kp⟩)
  have hyes := put_yes (l := l) (e := ⟨kl, kk, kv, kp⟩)
  have htm := putE_tot l ⟨kl, kk, kv, kp⟩
  have hfd := put_found (l := l) (e := ⟨kl, kk, kv, kp⟩)
  have hot := fun h i (hi : i < l.length) => put_other (l := l) (e := ⟨kl, kk, kv, kp⟩) h hi
  simp only at hfd hot
  obtain ⟨⟨m, ok⟩, hp⟩ : ∃ p, p = putE l ⟨kl, kk, kv, kp⟩ := ⟨_, rfl⟩
  rw [← hp] at hP hPS hno hyes htm
  simp only at hP hPS hno hyes htm
  have HP := Lib.hid hP
  have HPS := Lib.hid hPS
  have HTM := Lib.hid (show totR totEntry m ≤ 1099511627776 by have := HTL.out; have := HTE.out; omega)
  have HTM2 := Lib.hid (show totR totEntry m ≤ 8589934592 by have := HTL.out; have := HTE.out; omega)
  have hmn : m.length ≤ 1099511627776 := by have := totR_len totEntry m; have := HTM.out; omega
  have HFD := Lib.hid hfd
  have HOT := Lib.hid hot
  have HYES := Lib.hid hyes
  have HNO := Lib.hid hno
  clear hsl hsm hol hoe hb1 HN1 hV1 hP hPS htm hp hfd hot hno hyes
  go_wp2_with fail
  rw [HV1.out]
  refine HP.out.mono ?_
  rintro e W2 ⟨Am, cm, rfl, hom, hb2⟩
  have HM2 := Lib.hid hom
  have HE2 := Lib.hid (up_ent HE1.out hb2 hb2.size)
  have HL2 := Lib.hid (up_row HL1.out hb2 hb2.size)
  have HX2 := HX1.out.below hb2 HX1.out.lt
  have HX2h := Lib.hid HX2
  have HB2 := Lib.hid (HB1.out.trans (hb2.mono HB1.out.size))
  have HCM := Lib.hid hom.cap.1
  have x0 := HX2.cell (j := 0) rfl
  have x1 := HX2.cell (j := 1) rfl
  have x2 := HX2.cell (j := 2) rfl
  have x3 := HX2.cell (j := 3) rfl
  clear hom hb2 HX2
  go_wp2_with fail
  refine (HPS.out _ HL2.out HE2.out).mono ?_
  rintro e W3 ⟨Aq, cq, rfl, -, hb3⟩
  have HM3 := Lib.hid (up_row HM2.out.rd hb3 hb3.size)
  have HE3 := Lib.hid (up_ent HE2.out hb3 hb3.size)
  have HL3 := Lib.hid (up_row HL2.out hb3 hb3.size)
  have HX3 := Lib.hid (HX2h.out.below hb3 HX2h.out.lt)
  have HB3 := Lib.hid (HB2.out.trans (hb3.mono HB2.out.size))
  clear hb3 x0 x1 x2 x3
  rcases ok with _ | _
  · have hml : m = l := HNO.out rfl
    subst hml
    have HSM := Lib.hid (iSameEntries_any Am Al _ cm nl cl m m W3 HM3.out HL3.out HTM.out HTM.out)
    have HSR := Lib.hid (sameE_refl m)
    go_wp2_with fail
    refine HSM.out.mono ?_
    rw [HSR.out]
    rintro e W4 ⟨rfl, hb4⟩
    have HB4 := Lib.hid (HB3.out.trans (hb4.mono HB3.out.size))
    clear hb4
    go_wp2_with fail
    refine (drawAlikeIn_any W4 A n c hn ((HR.out.below HB4.out).more HB4.out.size)).mono ?_
    rintro e W7 ⟨Ax, nx, cx, x, s, rfl, hsx, hs, hox, hb7⟩
    have HTX := Lib.hid (smL_tot hsx)
    have HSZ := Lib.hid (show s.size ≤ 1099511627776 from Nat.le_trans hs (by decide))
    have HX7 := Lib.hid hox.rd
    have HXL := Lib.hid hox.len
    have hnx : nx ≤ 18 := by have := hsx.1; have := hox.len; omega
    have HB7 := Lib.hid (HB4.out.trans (hb7.mono HB4.out.size))
    have HAI := Lib.hid (fun w1 (hr : FRdEntry w1 w1.heap.size Ax nx x) => iAlikeIn_any Ax nx cx x s w1 hr (by have := HTX.out; omega) HSZ.out)
    have HAS := Lib.hid (fun w1 (hr : FRdEntry w1 w1.heap.size Ax nx x) => sAlikeIn_any Ax nx cx x s w1 hr (by have := HTX.out; omega) HSZ.out)
    have HRI := Lib.hid (fun w1 (hr : FRdEntry w1 w1.heap.size Ax nx x) => iAreEntries_any Ax nx cx x w1 hr (by have := HTX.out; omega))
    have HRS := Lib.hid (fun w1 (hr : FRdEntry w1 w1.heap.size Ax nx x) => sAreEntries_any Ax nx cx x w1 hr (by have := HTX.out; omega))
    have HLI := Lib.hid (fun w1 (hr : FRdEntry w1 w1.heap.size Ax nx x) => iLabelsOf_any Ax nx cx x w1 hr (by omega))
    have HGET := Lib.hid (fun i hi => alike_get (l := x) (s := s) (i := i) hi)
    have HALE := Lib.hid (alike_le x s)
    generalize alikeE x s = av at HAI HAS HGET HALE
    generalize areE x = ar at HRI HRS
    clear hsx hs hox hb7
    go_wp2_with fail
    refine (HAI.out _ HX7.out).mono ?_
    rintro e W8 ⟨Av, cv, rfl, hov, hb8⟩
    have HV8 := Lib.hid hov.rd
    have HX8 := Lib.hid (up_row HX7.out hb8 hb8.size)
    have HB8 := Lib.hid (HB7.out.trans (hb8.mono HB7.out.size))
    have hal : av.length ≤ 18 := by have := HALE.out; have := HXL.out; omega
    clear hov hb8
    go_wp2
    go_loopw [17] (fun i wr => ∃ j : Nat, j ≤ av.length ∧ i = .int .i64 j ∧ Below W8.heap.size W8 wr) (fun i _ => av.length - (intOf i).toNat)
    case atStart => exact ⟨0, by omega, rfl, Below.refl _ _⟩
    case round =>
      obtain ⟨j, hj, rfl, hbel⟩ := hrel
      have HBr := Lib.hid hbel
      clear hbel
      by_cases hjn : j < av.length
      · obtain ⟨b, off, rfl, hlt, hcj⟩ := (HV8.out.below HBr.out (Nat.le_refl _)).cell_at hjn
        obtain ⟨hg1, hg2⟩ := HGET.out j hjn
        have hwf := (HV8.out.wf (av.getD j .empty) (by simp [List.getD, hjn]))
        have hK := fun w1 (hz : (av.getD j .empty).size ≤ 1099511627776) => iLooksLike_any (av.getD j .empty) s w1 hz HSZ.out
        have hz9 : (av.getD j .empty).size ≤ 1099511627776 := by
          by_cases h9 : (av.getD j .empty).size ≤ 1099511627776
          · exact h9
          · exfalso
            have := isLab_size (s := av.getD j .empty) (by unfold looks at hg2; rw [Bool.and_eq_true] at hg2; exact hg2.1)
            omega
        have hK2 := fun w1 => hK w1 hz9
        rw [hg2] at hK2
        have hb9 : ((av.getD j .empty).toList == s.toList) = false := by rw [toList_beq, decide_eq_false hg1]
        generalize av.getD j .empty = y at hcj hK2 hb9
        have HK := Lib.hid hK2
        clear hK hK2 hg1 hg2 hz9 hwf hlt
        go_wp2_with fail
        refine (HK.out _).mono ?_
        rintro e w9 ⟨rfl, hb10⟩
        have HBs := Lib.hid (HBr.out.trans (hb10.mono HBr.out.size))
        clear hb10 hcj
        go_wp2
        go_roundw
        case rel => exact ⟨j + 1, by omega, by go_num, HBs.out⟩
        case measure => simp [intOf]; omega
      · obtain rfl : j = av.length := by omega
        have HBt := Lib.hid (HB8.out.trans (HBr.out.mono HB8.out.size))
        have HXr := Lib.hid (up_row HX8.out HBr.out HBr.out.size)
        go_wp2_with fail
        refine (HLI.out _ HXr.out).mono ?_
        rintro e V2 ⟨A2, c2, rfl, -, hb11⟩
        have HXs := Lib.hid (up_row HXr.out hb11 hb11.size)
        have HBu := Lib.hid (HBt.out.trans (hb11.mono HBt.out.size))
        clear hb11
        go_wp2_with fail
        refine (HAS.out _ HXs.out).mono ?_
        rintro e V3 ⟨A3, c3, rfl, -, hb12⟩
        have HXt := Lib.hid (up_row HXs.out hb12 hb12.size)
        have HBv := Lib.hid (HBu.out.trans (hb12.mono HBu.out.size))
        clear hb12
        go_wp2_with fail
        refine (HRI.out _ HXt.out).mono ?_
        rintro e V4 ⟨rfl, hb13⟩
        have HXu := Lib.hid (up_row HXt.out hb13 hb13.size)
        have HBw := Lib.hid (HBv.out.trans (hb13.mono HBv.out.size))
        clear hb13
        go_wp2_with fail
        refine (HRS.out _ HXu.out).mono ?_
        rintro e V5 ⟨rfl, hb14⟩
        have HBz := Lib.hid (HBw.out.trans (hb14.mono HBw.out.size))
        clear hb14
        go_wp2
        go_ret
        exact ⟨by simp, HBz.out⟩
  · obtain ⟨hm1, hm2⟩ := HYES.out rfl
    rw [← hm1] at hm2
    have hfd := HFD.out (by rw [← hm1]; exact hm2)
    rw [← hm1] at hfd
    obtain ⟨k, hk, hfk, hke⟩ := hfd
    have HOTM := Lib.hid (show ∀ i, i < l.length → ∃ j : Nat, j < m.length ∧ fndE m (at0 l i).label = j ∧ ((at0 l i).label ≠ kl → at0 m j = at0 l i) from fun i hi => by
      have := HOT.out (by rw [← hm1]; exact hm2) i hi
      rw [← hm1] at this
      exact this)
    have HAM := Lib.hid hm2
    obtain ⟨hdr, hdf, hdl⟩ := drop_gone hm2 hk (s := kl) (by rw [hke])
    have HDR := Lib.hid hdr
    have HDF := Lib.hid hdf
    have HDL := Lib.hid hdl
    obtain ⟨bm, om, cs9, rfl, hlt9, hrd9, hcc9⟩ := HM3.out.at hk
    rw [show m.getD k default = ⟨kl, kk, kv, kp⟩ from hke] at hrd9
    obtain ⟨A9, n9, c9, rfl, -⟩ := REntry_rd.1 hrd9
    have HFK := Lib.hid (show ∀ w1, FRdEntry w1 w1.heap.size (some ⟨bm, om, none⟩) m.length m → Calls Try.prog 16 #[.slice (some ⟨bm, om, none⟩) m.length cm, .string kl] w1 fun e w' => e = .returned (.int .i64 (k : Int)) ∧ Below w1.heap.size w1 w' from fun w1 h => by have := iFindEntry_any _ _ cm m kl w1 h hmn; rw [hfk] at this; exact this)
    have HFI := Lib.hid (fun s w1 (h : FRdEntry w1 w1.heap.size (some ⟨bm, om, none⟩) m.length m) => iFindEntry_any _ _ cm m s w1 h hmn)
    have HTE2 := Lib.hid (show totEntry ⟨kl, kk, kv, kp⟩ ≤ 1099511627776 by have := HTE.out; omega)
    have hkl : (k : Int) < m.length := by omega
    have hk0 : ¬ (k : Int) < 0 := by omega
    have x0 := HX3.out.cell (j := 0) rfl
    clear hm1 hm2 hfk hke hdr hdf hdl
    have HC9 := Lib.hid hcc9
    have HR8 := Lib.hid hrd9
    clear hcc9 hrd9
    go_wp2_with fail
    refine (HFK.out _ HM3.out).mono ?_
    rintro e w4 ⟨rfl, hb4⟩
    have HB3 := Lib.hid (HB3.out.trans (hb4.mono HB3.out.size))
    have HM3 := Lib.hid (up_row HM3.out hb4 hb4.size)
    have HL3 := Lib.hid (up_row HL3.out hb4 hb4.size)
    have HE3 := Lib.hid (up_ent HE3.out hb4 hb4.size)
    have HX3 := Lib.hid (HX3.out.below hb4 HX3.out.lt)
    have HD0 := Lib.hid (show w4.drew.cell? ⟨bm, om + k * 4, none⟩ = some (.string kl) from (hb4.cell (p := ⟨bm, om + k * 4, none⟩) hlt9).trans (HC9.out 0 (by decide)))
    have HD1 := Lib.hid (show w4.drew.cell? ⟨bm, om + k * 4 + 1, none⟩ = some (.int .i64 kk) from (hb4.cell (p := ⟨bm, om + k * 4 + 1, none⟩) hlt9).trans (HC9.out 1 (by decide)))
    have HD2 := Lib.hid (show w4.drew.cell? ⟨bm, om + k * 4 + 2, none⟩ = some (.int .i64 kv) from (hb4.cell (p := ⟨bm, om + k * 4 + 2, none⟩) hlt9).trans (HC9.out 2 (by decide)))
    have HD3 := Lib.hid (show w4.drew.cell? ⟨bm, om + k * 4 + 3, none⟩ = some (.slice A9 n9 c9) from (hb4.cell (p := ⟨bm, om + k * 4 + 3, none⟩) hlt9).trans (HC9.out 3 (by decide)))
    have HR9 := Lib.hid (show REntry.rd w4.drew (Lt w4.drew.heap.size) [.string kl, .int .i64 kk, .int .i64 kv, .slice A9 n9 c9] ⟨kl, kk, kv, kp⟩ from up_ent HR8.out hb4.drew hb4.drew.size)
    have HBM := Lib.hid (show bm < w4.drew.heap.size from Nat.lt_of_lt_of_le hlt9 hb4.size)
    have HEW := Lib.hid (show REntry.rd w4.drew (Lt w4.drew.heap.size) [.string kl, .int .i64 kk, .int .i64 kv, .slice Ae ne ce] ⟨kl, kk, kv, kp⟩ from REntry.keep HE3.out fun i _ => rfl)
    have HMD := Lib.hid (show FRdEntry w4.drew w4.drew.heap.size (some ⟨bm, om, none⟩) m.length m from HM3.out.keep fun i _ => rfl)
    have HXD := Lib.hid (show Box w4.drew W1.heap.size [.string kl, .int .i64 kk, .int .i64 kv, .slice Ae ne ce] from HX3.out.keep rfl)
    clear x0 hb4 hlt9
    go_wp2_with fail
    obtain ⟨z2, hz2⟩ : ∃ zz : Bool, zz = (decide (((k : Int) : Int) < (0 : Int))) := ⟨_, rfl⟩
    have Hz2 := Lib.hid hz2
    clear hz2
    obtain ⟨z11, hz11⟩ : ∃ zz : Bool, zz = ((z2) || (!(true))) := ⟨_, rfl⟩
    have Hz11 := Lib.hid hz11
    clear hz11
    refine RG.region (tabP [sv (.int .i64 ((k : Int))), sv (.bool (decide (((k : Int) : Int) < (0 : Int)))), sv (.bool (z2)), swhen (z2 == false) (sv (.slice (some ⟨bm, om, none⟩) m.length cm)), swhen (z2 == false) (sv (.int .i64 ((k : Int)))), swhen (z2 == false) (sv (.pointer (some ⟨bm, om + k * 4, none⟩))), swhen (z2 == false) (sv (.agg #[.string kl, .int .i64 kk, .int .i64 kv, .slice A9 n9 c9])), swhen (z2 == false) (sv (.agg #[.string kl, .int .i64 kk, .int .i64 kv, .slice Ae ne ce])), swhen (z2 == false) (sv (.bool (true))), swhen (z2 == false) (sv (.bool (!(true)))), sv (.bool ((z2) || (!(true)))), sv (.bool (z11)), swhen (z11 == false) (sv (.slice (some ⟨bm, om, none⟩) m.length cm)), swhen (z11 == false) (sv (.bool (true))), swhen (z11 == false) (sv (.bool (!(true)))), sv (.bool ((z11) || (!(true))))]) (by kernel_rfl) (by kernel_rfl) (tab_keep _) ?_ ?_
    · refine steps_cons ?_ (steps_cons ?_ (steps_cons ?_ (steps_cons ?_ (steps_cons ?_ (steps_cons ?_ (steps_cons ?_ (steps_cons ?_ (steps_cons ?_ (steps_cons ?_ (steps_cons ?_ (steps_cons ?_ (steps_cons ?_ (steps_cons ?_ (steps_cons ?_ (steps_cons ?_ (steps_nil))))))))))))))))
      · intro aa ww hA K hK
        refine free rfl ?_
        exact gives hK rfl (hA.old 9 (by kernel_rfl))
      · intro aa ww hA K hK
        refine free rfl ?_
        have e55 : aa.tmps.getD 55 undef = .int .i64 ((k : Int)) := hA.got 0 55 (by kernel_rfl)
        exact gives hK (v := .bool (decide (((k : Int) : Int) < (0 : Int)))) (by simp [execOp, Act.eval, e55, binOp, eqGuard, go_sem]) rfl
      · intro aa ww hA K hK
        refine free rfl ?_
        have e56 : aa.tmps.getD 56 undef = .bool (decide (((k : Int) : Int) < (0 : Int))) := hA.got 1 56 (by kernel_rfl)
        exact gives hK rfl (show aa.tmps.getD 56 undef = .bool z2 from by rw [e56, Hz2.out])
      · intro aa ww hA K hK
        refine guarded (s := sv (.slice (some ⟨bm, om, none⟩) m.length cm)) rfl rfl (hA.got 2 57 (by kernel_rfl)) hK fun hB hK => ?_
        exact gives hK rfl (hA.old 5 (by kernel_rfl))
      · intro aa ww hA K hK
        refine guarded (s := sv (.int .i64 ((k : Int)))) rfl rfl (hA.got 2 57 (by kernel_rfl)) hK fun hB hK => ?_
        exact gives hK rfl (hA.old 9 (by kernel_rfl))
      · intro aa ww hA K hK
        refine guarded (s := sv (.pointer (some ⟨bm, om + k * 4, none⟩))) rfl rfl (hA.got 2 57 (by kernel_rfl)) hK fun hB hK => ?_
        have e58 : aa.tmps.getD 58 undef = .slice (some ⟨bm, om, none⟩) m.length cm := (hA.got 3 58 (by kernel_rfl)).1 hB
        have e59 : aa.tmps.getD 59 undef = .int .i64 ((k : Int)) := (hA.got 4 59 (by kernel_rfl)).1 hB
        exact gives hK (v := .pointer (some ⟨bm, om + k * 4, none⟩)) (by simp [execOp, Act.eval, e58, e59, go_sem, hkl]) rfl
      · intro aa ww hA K hK
        refine guarded (s := sv (.agg #[.string kl, .int .i64 kk, .int .i64 kv, .slice A9 n9 c9])) rfl rfl (hA.got 2 57 (by kernel_rfl)) hK fun hB hK => ?_
        have e60 : aa.tmps.getD 60 undef = .pointer (some ⟨bm, om + k * 4, none⟩) := (hA.got 5 60 (by kernel_rfl)).1 hB
        have c0 := (hA.bel.cell (p := ⟨bm, om + k * 4, none⟩) HBM.out).trans HD0.out
        have c1 := (hA.bel.cell (p := ⟨bm, om + k * 4 + 1, none⟩) HBM.out).trans HD1.out
        have c2 := (hA.bel.cell (p := ⟨bm, om + k * 4 + 2, none⟩) HBM.out).trans HD2.out
        have c3 := (hA.bel.cell (p := ⟨bm, om + k * 4 + 3, none⟩) HBM.out).trans HD3.out
        exact gives hK (v := .agg #[.string kl, .int .i64 kk, .int .i64 kv, .slice A9 n9 c9]) (by simp [execOp, Act.eval, e60, c0, c1, c2, c3, go_sem]) rfl
      · intro aa ww hA K hK
        refine guarded (s := sv (.agg #[.string kl, .int .i64 kk, .int .i64 kv, .slice Ae ne ce])) rfl rfl (hA.got 2 57 (by kernel_rfl)) hK fun hB hK => ?_
        have e4 : aa.tmps.getD 4 undef = .pointer (some ⟨W1.heap.size, 0, none⟩) := hA.old 4 (by kernel_rfl)
        have d0 := (hA.bel.cell (p := ⟨W1.heap.size, 0, none⟩) HXD.out.lt).trans (HXD.out.cell (j := 0) rfl)
        have d1 := (hA.bel.cell (p := ⟨W1.heap.size, 1, none⟩) HXD.out.lt).trans (HXD.out.cell (j := 1) rfl)
        have d2 := (hA.bel.cell (p := ⟨W1.heap.size, 2, none⟩) HXD.out.lt).trans (HXD.out.cell (j := 2) rfl)
        have d3 := (hA.bel.cell (p := ⟨W1.heap.size, 3, none⟩) HXD.out.lt).trans (HXD.out.cell (j := 3) rfl)
        exact gives hK (v := .agg #[.string kl, .int .i64 kk, .int .i64 kv, .slice Ae ne ce]) (by simp [execOp, Act.eval, e4, d0, d1, d2, d3, go_sem]) rfl
      · intro aa ww hA K hK
        refine guarded (s := sv (.bool (true))) rfl rfl (hA.got 2 57 (by kernel_rfl)) hK fun hB hK => ?_
        have e61 : aa.tmps.getD 61 undef = .agg #[.string kl, .int .i64 kk, .int .i64 kv, .slice A9 n9 c9] := (hA.got 6 61 (by kernel_rfl)).1 hB
        have e62 : aa.tmps.getD 62 undef = .agg #[.string kl, .int .i64 kk, .int .i64 kv, .slice Ae ne ce] := (hA.got 7 62 (by kernel_rfl)).1 hB
        refine calls hK (by simp [Act.eval, e61, e62, go_sem]) (iEqualEntries_any [.string kl, .int .i64 kk, .int .i64 kv, .slice A9 n9 c9] [.string kl, .int .i64 kk, .int .i64 kv, .slice Ae ne ce] ⟨kl, kk, kv, kp⟩ ⟨kl, kk, kv, kp⟩ ww (up_ent HR9.out hA.bel hA.bel.size) (up_ent HEW.out hA.bel hA.bel.size) HTE2.out HTE2.out) ?_
        rw [eqEntryB_refl]
        rintro e w1 ⟨rfl, hb⟩
        exact ⟨_, rfl, hb, rfl⟩
      · intro aa ww hA K hK
        refine guarded (s := sv (.bool (!(true)))) rfl rfl (hA.got 2 57 (by kernel_rfl)) hK fun hB hK => ?_
        have e63 : aa.tmps.getD 63 undef = .bool (true) := (hA.got 8 63 (by kernel_rfl)).1 hB
        exact gives hK (v := .bool (!(true))) (by simp [execOp, Act.eval, e63, Op.unary, go_sem]) rfl
      · intro aa ww hA K hK
        refine free rfl ?_
        have e57 : aa.tmps.getD 57 undef = .bool (z2) := hA.got 2 57 (by kernel_rfl)
        rcases hq : (z2) with _ | _
        · have ex : aa.tmps.getD 64 undef = .bool (!(true)) := (hA.got 9 64 (by kernel_rfl)).1 (by rw [hq]; rfl)
          rw [hq] at e57
          exact gives hK (v := .bool (!(true))) (by simp [execOp, Act.eval, e57, ex, asBool, go_sem]) (show Value.bool _ = .bool _ by rw [hq]; simp)
        · rw [hq] at e57
          exact gives hK (v := .bool true) (by simp [execOp, Act.eval, e57, asBool, go_sem]) (show Value.bool _ = .bool _ by rw [hq]; simp)
      · intro aa ww hA K hK
        refine free rfl ?_
        have e65 : aa.tmps.getD 65 undef = .bool ((z2) || (!(true))) := hA.got 10 65 (by kernel_rfl)
        exact gives hK rfl (show aa.tmps.getD 65 undef = .bool z11 from by rw [e65, Hz11.out])
      · intro aa ww hA K hK
        refine guarded (s := sv (.slice (some ⟨bm, om, none⟩) m.length cm)) rfl rfl (hA.got 11 66 (by kernel_rfl)) hK fun hB hK => ?_
        exact gives hK rfl (hA.old 5 (by kernel_rfl))
      · intro aa ww hA K hK
        refine guarded (s := sv (.bool (true))) rfl rfl (hA.got 11 66 (by kernel_rfl)) hK fun hB hK => ?_
        have e67 : aa.tmps.getD 67 undef = .slice (some ⟨bm, om, none⟩) m.length cm := (hA.got 12 67 (by kernel_rfl)).1 hB
        refine calls hK (by simp [Act.eval, e67, go_sem]) (iAreEntries_any (some ⟨bm, om, none⟩) m.length cm m ww (up_row HMD.out hA.bel hA.bel.size) HTM.out) ?_
        rw [HAM.out]
        rintro e w1 ⟨rfl, hb⟩
        exact ⟨_, rfl, hb, rfl⟩
      · intro aa ww hA K hK
        refine guarded (s := sv (.bool (!(true)))) rfl rfl (hA.got 11 66 (by kernel_rfl)) hK fun hB hK => ?_
        have e68 : aa.tmps.getD 68 undef = .bool (true) := (hA.got 13 68 (by kernel_rfl)).1 hB
        exact gives hK (v := .bool (!(true))) (by simp [execOp, Act.eval, e68, Op.unary, go_sem]) rfl
      · intro aa ww hA K hK
        refine free rfl ?_
        have e66 : aa.tmps.getD 66 undef = .bool (z11) := hA.got 11 66 (by kernel_rfl)
        rcases hq : (z11) with _ | _
        · have ex : aa.tmps.getD 69 undef = .bool (!(true)) := (hA.got 14 69 (by kernel_rfl)).1 (by rw [hq]; rfl)
          rw [hq] at e66
          exact gives hK (v := .bool (!(true))) (by simp [execOp, Act.eval, e66, ex, asBool, go_sem]) (show Value.bool _ = .bool _ by rw [hq]; simp)
        · rw [hq] at e66
          exact gives hK (v := .bool true) (by simp [execOp, Act.eval, e66, asBool, go_sem]) (show Value.bool _ = .bool _ by rw [hq]; simp)
    · intro a1 w1 hb hd hsz hold hgot
      have g70 : a1.tmps.getD 70 undef = .bool ((z11) || (!(true))) := hgot 15 70 (by kernel_rfl)
      have ea := act_put hd hsz hold [55, 56, 57, 58, 59, 60, 61, 62, 63, 64, 65, 66, 67, 68, 69, 70] rfl
      simp only [List.foldl_cons, List.foldl_nil, g70] at ea
      rename_i K9 hK9
      refine hK9 a1 w1 ?_
      generalize a1.tmps.getD 55 undef = v55 at ea
      generalize a1.tmps.getD 56 undef = v56 at ea
      generalize a1.tmps.getD 57 undef = v57 at ea
      generalize a1.tmps.getD 58 undef = v58 at ea
      generalize a1.tmps.getD 59 undef = v59 at ea
      generalize a1.tmps.getD 60 undef = v60 at ea
      generalize a1.tmps.getD 61 undef = v61 at ea
      generalize a1.tmps.getD 62 undef = v62 at ea
      generalize a1.tmps.getD 63 undef = v63 at ea
      generalize a1.tmps.getD 64 undef = v64 at ea
      generalize a1.tmps.getD 65 undef = v65 at ea
      generalize a1.tmps.getD 66 undef = v66 at ea
      generalize a1.tmps.getD 67 undef = v67 at ea
      generalize a1.tmps.getD 68 undef = v68 at ea
      generalize a1.tmps.getD 69 undef = v69 at ea
      clear hgot hold hsz hd g70
      simp only [Act.put, List.setIfInBounds_toArray, List.set_cons_succ, List.set_cons_zero] at ea
      subst ea
      have HB4 := Lib.hid ((HB3.out.drew).trans (hb.mono HB3.out.drew.size))
      have HM4 := Lib.hid (up_row HMD.out hb hb.size)
      have HE4 := Lib.hid (up_ent HEW.out hb hb.size)
      have HL4 := Lib.hid (up_row (show FRdEntry w4.drew w4.drew.heap.size Al nl l from HL3.out.keep fun i _ => rfl) hb hb.size)
      have HX4 := Lib.hid (HXD.out.below hb HXD.out.lt)
      clear hb
      rw [show ((z11) || (!(true))) = false from by rw [Hz11.out, Hz2.out, decide_eq_false (Int.not_lt.2 hk0)]; rfl]
      go_wp2
      go_loopw [10] (fun i wr => ∃ j : Nat, j ≤ nl ∧ i = .int .i64 j ∧ Below w1.heap.size w1 wr) (fun i _ => nl - (intOf i).toNat)
      case atStart => exact ⟨0, by omega, rfl, Below.refl _ _⟩
      case round =>
        obtain ⟨i, hi, rfl, hbel⟩ := hrel
        have HBr := Lib.hid hbel
        clear hbel
        have HMr := Lib.hid (up_row HM4.out HBr.out HBr.out.size)
        have HXr := Lib.hid (HX4.out.below HBr.out HX4.out.lt)
        by_cases hin : i < nl
        · obtain ⟨b, off, csz, rfl, hlt, hrd, hcc⟩ := (up_row HL4.out HBr.out HBr.out.size).at hin
          obtain ⟨j, hj, hfj, hjz⟩ := HOTM.out i (by rw [HLL.out]; exact hin)
          obtain ⟨bm2, om2, csy, e, hlt2, hrd2, hcc2⟩ := HMr.out.at hj
          injection e with e
          injection e with e1 e2 _
          subst e1 e2
          have htz : totEntry (at0 l i) ≤ 1099511627776 := by have h1 := totR_mem totEntry (zs := l) (j := i) (by rw [HLL.out]; exact hin); have := HTL.out; show totEntry (l.getD i default) ≤ _; omega
          have hty : totEntry (at0 m j) ≤ 1099511627776 := Nat.le_trans (totR_mem totEntry hj) HTM.out
          obtain ⟨z, hz⟩ : ∃ z, z = at0 l i := ⟨_, rfl⟩
          obtain ⟨y, hy⟩ : ∃ y, y = at0 m j := ⟨_, rfl⟩
          rw [show l.getD i default = z from hz.symm] at hrd
          rw [show m.getD j default = y from hy.symm] at hrd2
          rw [← hz] at hfj hjz htz
          rw [← hy] at hjz hty
          obtain ⟨Az, nz, cz, rfl, -⟩ := REntry_rd.1 hrd
          obtain ⟨Ay, ny, cy, rfl, -⟩ := REntry_rd.1 hrd2
          have HTZ := Lib.hid htz
          have HTY := Lib.hid hty
          have HJZ := Lib.hid (show (!(z.label.toList == kl.toList)) = true → eqEntryB y z = true from fun h => by
            rw [hjz fun e => by rw [e] at h; simp at h]
            exact eqEntryB_refl _)
          have hK := HFI.out z.label wr HMr.out
          rw [hfj] at hK
          have HK := Lib.hid hK
          have d0 : wr.cell? ⟨b, off + i * 4, none⟩ = some (.string z.label) := hcc 0 (by decide)
          have hin2 : (i : Int) < nl := by omega
          have hjm2 : (j : Int) < m.length := by omega
          have hj0 : ¬ (j : Int) < 0 := by omega
          have HCZ := Lib.hid hcc
          have HCY := Lib.hid hcc2
          have HCR := Lib.hid hrd
          have HCS := Lib.hid hrd2
          clear hcc hcc2 hrd hrd2 hz hy hfj hjz htz hty hK
          go_wp2_with fail
          refine HK.out.mono ?_
          rintro e w5 ⟨rfl, hb5⟩
          have HBr := Lib.hid (HBr.out.trans (hb5.mono HBr.out.size))
          have HZ0 := Lib.hid (show w5.drew.cell? ⟨b, off + i * 4, none⟩ = some (.string z.label) from (hb5.cell (p := ⟨b, off + i * 4, none⟩) hlt).trans (HCZ.out 0 (by decide)))
          have HZ1 := Lib.hid (show w5.drew.cell? ⟨b, off + i * 4 + 1, none⟩ = some (.int .i64 z.kind) from (hb5.cell (p := ⟨b, off + i * 4 + 1, none⟩) hlt).trans (HCZ.out 1 (by decide)))
          have HZ2 := Lib.hid (show w5.drew.cell? ⟨b, off + i * 4 + 2, none⟩ = some (.int .i64 z.value) from (hb5.cell (p := ⟨b, off + i * 4 + 2, none⟩) hlt).trans (HCZ.out 2 (by decide)))
          have HZ3 := Lib.hid (show w5.drew.cell? ⟨b, off + i * 4 + 3, none⟩ = some (.slice Az nz cz) from (hb5.cell (p := ⟨b, off + i * 4 + 3, none⟩) hlt).trans (HCZ.out 3 (by decide)))
          have HY0 := Lib.hid (show w5.drew.cell? ⟨bm, om + j * 4, none⟩ = some (.string y.label) from (hb5.cell (p := ⟨bm, om + j * 4, none⟩) hlt2).trans (HCY.out 0 (by decide)))
          have HY1 := Lib.hid (show w5.drew.cell? ⟨bm, om + j * 4 + 1, none⟩ = some (.int .i64 y.kind) from (hb5.cell (p := ⟨bm, om + j * 4 + 1, none⟩) hlt2).trans (HCY.out 1 (by decide)))
          have HY2 := Lib.hid (show w5.drew.cell? ⟨bm, om + j * 4 + 2, none⟩ = some (.int .i64 y.value) from (hb5.cell (p := ⟨bm, om + j * 4 + 2, none⟩) hlt2).trans (HCY.out 2 (by decide)))
          have HY3 := Lib.hid (show w5.drew.cell? ⟨bm, om + j * 4 + 3, none⟩ = some (.slice Ay ny cy) from (hb5.cell (p := ⟨bm, om + j * 4 + 3, none⟩) hlt2).trans (HCY.out 3 (by decide)))
          have HRZ := Lib.hid (show REntry.rd w5.drew (Lt w5.drew.heap.size) [.string z.label, .int .i64 z.kind, .int .i64 z.value, .slice Az nz cz] z from up_ent HCR.out hb5.drew hb5.drew.size)
          have HRY := Lib.hid (show REntry.rd w5.drew (Lt w5.drew.heap.size) [.string y.label, .int .i64 y.kind, .int .i64 y.value, .slice Ay ny cy] y from up_ent HCS.out hb5.drew hb5.drew.size)
          have HBb := Lib.hid (show b < w5.drew.heap.size from Nat.lt_of_lt_of_le hlt hb5.size)
          have HBy := Lib.hid (show bm < w5.drew.heap.size from Nat.lt_of_lt_of_le hlt2 hb5.size)
          have HXw := Lib.hid (show Box w5.drew W1.heap.size [.string kl, .int .i64 kk, .int .i64 kv, .slice Ae ne ce] from (HXr.out.below hb5 HXr.out.lt).keep rfl)
          clear d0 hb5 hlt hlt2
          go_wp2_with fail
          obtain ⟨z2, hz2⟩ : ∃ zz : Bool, zz = (decide (((j : Int) : Int) < (0 : Int))) := ⟨_, rfl⟩
          have Hz2 := Lib.hid hz2
          clear hz2
          obtain ⟨z11, hz11⟩ : ∃ zz : Bool, zz = (!((z.label).toList == (kl).toList)) := ⟨_, rfl⟩
          have Hz11 := Lib.hid hz11
          clear hz11
          have HQG := Lib.hid (show ∀ (x : Bool), (x && (z11 == true)) = true → (!(z.label.toList == kl.toList)) = true from fun x h => by rw [Bool.and_eq_true] at h; have h2 := h.2; rw [Hz11.out] at h2; simpa using h2)
          refine RG.region (tabP [sv (.int .i64 ((j : Int))), sv (.bool (decide (((j : Int) : Int) < (0 : Int)))), sv (.bool (z2)), swhen (z2 == false) (sv (.slice (some ⟨b, off, none⟩) nl cl)), swhen (z2 == false) (sv (.int .i64 ((i : Int)))), swhen (z2 == false) (sv (.pointer (some ⟨b, off + i * 4, none⟩))), swhen (z2 == false) (sv (.pointer (some ⟨b, off + i * 4, none⟩))), swhen (z2 == false) (sv (.string (z.label))), swhen (z2 == false) (sv (.pointer (some ⟨W1.heap.size, 0, none⟩))), swhen (z2 == false) (sv (.string (kl))), swhen (z2 == false) (sv (.bool (!((z.label).toList == (kl).toList)))), swhen (z2 == false) (sv (.bool (z11))), swhen ((z2 == false) && (z11 == true)) (sv (.slice (some ⟨bm, om, none⟩) m.length cm)), swhen ((z2 == false) && (z11 == true)) (sv (.int .i64 ((j : Int)))), swhen ((z2 == false) && (z11 == true)) (sv (.pointer (some ⟨bm, om + j * 4, none⟩))), swhen ((z2 == false) && (z11 == true)) (sv (.agg #[.string y.label, .int .i64 y.kind, .int .i64 y.value, .slice Ay ny cy])), swhen ((z2 == false) && (z11 == true)) (sv (.slice (some ⟨b, off, none⟩) nl cl)), swhen ((z2 == false) && (z11 == true)) (sv (.int .i64 ((i : Int)))), swhen ((z2 == false) && (z11 == true)) (sv (.pointer (some ⟨b, off + i * 4, none⟩))), swhen ((z2 == false) && (z11 == true)) (sv (.agg #[.string z.label, .int .i64 z.kind, .int .i64 z.value, .slice Az nz cz])), swhen ((z2 == false) && (z11 == true)) (sv (.bool (true))), swhen ((z2 == false) && (z11 == true)) (sv (.bool (!(true)))), swhen (z2 == false) (sv (.bool ((z11) && (!(true))))), sv (.bool ((z2) || ((z11) && (!(true)))))]) (by kernel_rfl) (by kernel_rfl) (tab_keep _) ?_ ?_
          · refine steps_cons ?_ (steps_cons ?_ (steps_cons ?_ (steps_cons ?_ (steps_cons ?_ (steps_cons ?_ (steps_cons ?_ (steps_cons ?_ (steps_cons ?_ (steps_cons ?_ (steps_cons ?_ (steps_cons ?_ (steps_cons ?_ (steps_cons ?_ (steps_cons ?_ (steps_cons ?_ (steps_cons ?_ (steps_cons ?_ (steps_cons ?_ (steps_cons ?_ (steps_cons ?_ (steps_cons ?_ (steps_cons ?_ (steps_cons ?_ (steps_nil))))))))))))))))))))))))
            · intro aa ww hA K hK
              refine free rfl ?_
              exact gives hK rfl (hA.old 11 (by kernel_rfl))
            · intro aa ww hA K hK
              refine free rfl ?_
              have e84 : aa.tmps.getD 84 undef = .int .i64 ((j : Int)) := hA.got 0 84 (by kernel_rfl)
              exact gives hK (v := .bool (decide (((j : Int) : Int) < (0 : Int)))) (by simp [execOp, Act.eval, e84, binOp, eqGuard, go_sem]) rfl
            · intro aa ww hA K hK
              refine free rfl ?_
              have e85 : aa.tmps.getD 85 undef = .bool (decide (((j : Int) : Int) < (0 : Int))) := hA.got 1 85 (by kernel_rfl)
              exact gives hK rfl (show aa.tmps.getD 85 undef = .bool z2 from by rw [e85, Hz2.out])
            · intro aa ww hA K hK
              refine guarded (s := sv (.slice (some ⟨b, off, none⟩) nl cl)) rfl rfl (hA.got 2 86 (by kernel_rfl)) hK fun hB hK => ?_
              exact gives hK rfl (hA.old 3 (by kernel_rfl))
            · intro aa ww hA K hK
              refine guarded (s := sv (.int .i64 ((i : Int)))) rfl rfl (hA.got 2 86 (by kernel_rfl)) hK fun hB hK => ?_
              exact gives hK rfl (hA.old 10 (by kernel_rfl))
            · intro aa ww hA K hK
              refine guarded (s := sv (.pointer (some ⟨b, off + i * 4, none⟩))) rfl rfl (hA.got 2 86 (by kernel_rfl)) hK fun hB hK => ?_
              have e87 : aa.tmps.getD 87 undef = .slice (some ⟨b, off, none⟩) nl cl := (hA.got 3 87 (by kernel_rfl)).1 hB
              have e88 : aa.tmps.getD 88 undef = .int .i64 ((i : Int)) := (hA.got 4 88 (by kernel_rfl)).1 hB
              exact gives hK (v := .pointer (some ⟨b, off + i * 4, none⟩)) (by simp [execOp, Act.eval, e87, e88, go_sem, hin2]) rfl
            · intro aa ww hA K hK
              refine guarded (s := sv (.pointer (some ⟨b, off + i * 4, none⟩))) rfl rfl (hA.got 2 86 (by kernel_rfl)) hK fun hB hK => ?_
              have e89 : aa.tmps.getD 89 undef = .pointer (some ⟨b, off + i * 4, none⟩) := (hA.got 5 89 (by kernel_rfl)).1 hB
              exact gives hK (v := .pointer (some ⟨b, off + i * 4, none⟩)) (by simp [execOp, Act.eval, e89, go_sem]) rfl
            · intro aa ww hA K hK
              refine guarded (s := sv (.string (z.label))) rfl rfl (hA.got 2 86 (by kernel_rfl)) hK fun hB hK => ?_
              have e90 : aa.tmps.getD 90 undef = .pointer (some ⟨b, off + i * 4, none⟩) := (hA.got 6 90 (by kernel_rfl)).1 hB
              have c0 := (hA.bel.cell (p := ⟨b, off + i * 4, none⟩) HBb.out).trans HZ0.out
              exact gives hK (v := .string z.label) (by simp [execOp, Act.eval, e90, c0, go_sem]) rfl
            · intro aa ww hA K hK
              refine guarded (s := sv (.pointer (some ⟨W1.heap.size, 0, none⟩))) rfl rfl (hA.got 2 86 (by kernel_rfl)) hK fun hB hK => ?_
              have e4 : aa.tmps.getD 4 undef = .pointer (some ⟨W1.heap.size, 0, none⟩) := hA.old 4 (by kernel_rfl)
              exact gives hK (v := .pointer (some ⟨W1.heap.size, 0, none⟩)) (by simp [execOp, Act.eval, e4, go_sem]) rfl
            · intro aa ww hA K hK
              refine guarded (s := sv (.string (kl))) rfl rfl (hA.got 2 86 (by kernel_rfl)) hK fun hB hK => ?_
              have e92 : aa.tmps.getD 92 undef = .pointer (some ⟨W1.heap.size, 0, none⟩) := (hA.got 8 92 (by kernel_rfl)).1 hB
              have d0 := (hA.bel.cell (p := ⟨W1.heap.size, 0, none⟩) HXw.out.lt).trans (HXw.out.cell (j := 0) rfl)
              exact gives hK (v := .string kl) (by simp [execOp, Act.eval, e92, d0, go_sem]) rfl
            · intro aa ww hA K hK
              refine guarded (s := sv (.bool (!((z.label).toList == (kl).toList)))) rfl rfl (hA.got 2 86 (by kernel_rfl)) hK fun hB hK => ?_
              have e91 : aa.tmps.getD 91 undef = .string (z.label) := (hA.got 7 91 (by kernel_rfl)).1 hB
              have e93 : aa.tmps.getD 93 undef = .string (kl) := (hA.got 9 93 (by kernel_rfl)).1 hB
              exact gives hK (v := .bool (!((z.label).toList == (kl).toList))) (by simp [execOp, Act.eval, e91, e93, binOp, eqGuard, Op.stringOp, go_sem]) rfl
            · intro aa ww hA K hK
              refine guarded (s := sv (.bool (z11))) rfl rfl (hA.got 2 86 (by kernel_rfl)) hK fun hB hK => ?_
              have e94 : aa.tmps.getD 94 undef = .bool (!((z.label).toList == (kl).toList)) := (hA.got 10 94 (by kernel_rfl)).1 hB
              exact gives hK rfl (show aa.tmps.getD 94 undef = .bool z11 from by rw [e94, Hz11.out])
            · intro aa ww hA K hK
              refine guarded2 (s := sv (.slice (some ⟨bm, om, none⟩) m.length cm)) rfl rfl (hA.got 11 95 (by kernel_rfl)) hK fun hB hK => ?_
              exact gives hK rfl (hA.old 5 (by kernel_rfl))
            · intro aa ww hA K hK
              refine guarded2 (s := sv (.int .i64 ((j : Int)))) rfl rfl (hA.got 11 95 (by kernel_rfl)) hK fun hB hK => ?_
              exact gives hK rfl (hA.old 11 (by kernel_rfl))
            · intro aa ww hA K hK
              refine guarded2 (s := sv (.pointer (some ⟨bm, om + j * 4, none⟩))) rfl rfl (hA.got 11 95 (by kernel_rfl)) hK fun hB hK => ?_
              have e96 : aa.tmps.getD 96 undef = .slice (some ⟨bm, om, none⟩) m.length cm := (hA.got 12 96 (by kernel_rfl)).1 hB
              have e97 : aa.tmps.getD 97 undef = .int .i64 ((j : Int)) := (hA.got 13 97 (by kernel_rfl)).1 hB
              exact gives hK (v := .pointer (some ⟨bm, om + j * 4, none⟩)) (by simp [execOp, Act.eval, e96, e97, go_sem, hjm2]) rfl
            · intro aa ww hA K hK
              refine guarded2 (s := sv (.agg #[.string y.label, .int .i64 y.kind, .int .i64 y.value, .slice Ay ny cy])) rfl rfl (hA.got 11 95 (by kernel_rfl)) hK fun hB hK => ?_
              have e98 : aa.tmps.getD 98 undef = .pointer (some ⟨bm, om + j * 4, none⟩) := (hA.got 14 98 (by kernel_rfl)).1 hB
              have d0 := (hA.bel.cell (p := ⟨bm, om + j * 4, none⟩) HBy.out).trans HY0.out
              have d1 := (hA.bel.cell (p := ⟨bm, om + j * 4 + 1, none⟩) HBy.out).trans HY1.out
              have d2 := (hA.bel.cell (p := ⟨bm, om + j * 4 + 2, none⟩) HBy.out).trans HY2.out
              have d3 := (hA.bel.cell (p := ⟨bm, om + j * 4 + 3, none⟩) HBy.out).trans HY3.out
              exact gives hK (v := .agg #[.string y.label, .int .i64 y.kind, .int .i64 y.value, .slice Ay ny cy]) (by simp [execOp, Act.eval, e98, d0, d1, d2, d3, go_sem]) rfl
            · intro aa ww hA K hK
              refine guarded2 (s := sv (.slice (some ⟨b, off, none⟩) nl cl)) rfl rfl (hA.got 11 95 (by kernel_rfl)) hK fun hB hK => ?_
              exact gives hK rfl (hA.old 3 (by kernel_rfl))
            · intro aa ww hA K hK
              refine guarded2 (s := sv (.int .i64 ((i : Int)))) rfl rfl (hA.got 11 95 (by kernel_rfl)) hK fun hB hK => ?_
              exact gives hK rfl (hA.old 10 (by kernel_rfl))
            · intro aa ww hA K hK
              refine guarded2 (s := sv (.pointer (some ⟨b, off + i * 4, none⟩))) rfl rfl (hA.got 11 95 (by kernel_rfl)) hK fun hB hK => ?_
              have e100 : aa.tmps.getD 100 undef = .slice (some ⟨b, off, none⟩) nl cl := (hA.got 16 100 (by kernel_rfl)).1 hB
              have e101 : aa.tmps.getD 101 undef = .int .i64 ((i : Int)) := (hA.got 17 101 (by kernel_rfl)).1 hB
              exact gives hK (v := .pointer (some ⟨b, off + i * 4, none⟩)) (by simp [execOp, Act.eval, e100, e101, go_sem, hin2]) rfl
            · intro aa ww hA K hK
              refine guarded2 (s := sv (.agg #[.string z.label, .int .i64 z.kind, .int .i64 z.value, .slice Az nz cz])) rfl rfl (hA.got 11 95 (by kernel_rfl)) hK fun hB hK => ?_
              have e102 : aa.tmps.getD 102 undef = .pointer (some ⟨b, off + i * 4, none⟩) := (hA.got 18 102 (by kernel_rfl)).1 hB
              have c0 := (hA.bel.cell (p := ⟨b, off + i * 4, none⟩) HBb.out).trans HZ0.out
              have c1 := (hA.bel.cell (p := ⟨b, off + i * 4 + 1, none⟩) HBb.out).trans HZ1.out
              have c2 := (hA.bel.cell (p := ⟨b, off + i * 4 + 2, none⟩) HBb.out).trans HZ2.out
              have c3 := (hA.bel.cell (p := ⟨b, off + i * 4 + 3, none⟩) HBb.out).trans HZ3.out
              exact gives hK (v := .agg #[.string z.label, .int .i64 z.kind, .int .i64 z.value, .slice Az nz cz]) (by simp [execOp, Act.eval, e102, c0, c1, c2, c3, go_sem]) rfl
            · intro aa ww hA K hK
              refine guarded2 (s := sv (.bool (true))) rfl rfl (hA.got 11 95 (by kernel_rfl)) hK fun hB hK => ?_
              have e99 : aa.tmps.getD 99 undef = .agg #[.string y.label, .int .i64 y.kind, .int .i64 y.value, .slice Ay ny cy] := (hA.got 15 99 (by kernel_rfl)).1 hB
              have e103 : aa.tmps.getD 103 undef = .agg #[.string z.label, .int .i64 z.kind, .int .i64 z.value, .slice Az nz cz] := (hA.got 19 103 (by kernel_rfl)).1 hB
              have hq := HJZ.out (HQG.out _ hB)
              refine calls hK (by simp [Act.eval, e99, e103, go_sem]) (iEqualEntries_any [.string y.label, .int .i64 y.kind, .int .i64 y.value, .slice Ay ny cy] [.string z.label, .int .i64 z.kind, .int .i64 z.value, .slice Az nz cz] y z ww (up_ent HRY.out hA.bel hA.bel.size) (up_ent HRZ.out hA.bel hA.bel.size) HTY.out HTZ.out) ?_
              rw [hq]
              rintro e w1 ⟨rfl, hb⟩
              exact ⟨_, rfl, hb, rfl⟩
            · intro aa ww hA K hK
              refine guarded2 (s := sv (.bool (!(true)))) rfl rfl (hA.got 11 95 (by kernel_rfl)) hK fun hB hK => ?_
              have e104 : aa.tmps.getD 104 undef = .bool (true) := (hA.got 20 104 (by kernel_rfl)).1 hB
              exact gives hK (v := .bool (!(true))) (by simp [execOp, Act.eval, e104, Op.unary, go_sem]) rfl
            · intro aa ww hA K hK
              refine guarded (s := sv (.bool ((z11) && (!(true))))) rfl rfl (hA.got 2 86 (by kernel_rfl)) hK fun hB hK => ?_
              have e95 : aa.tmps.getD 95 undef = .bool (z11) := (hA.got 11 95 (by kernel_rfl)).1 hB
              rcases hq : (z11) with _ | _
              · rw [hq] at e95
                exact gives hK (v := .bool false) (by simp [execOp, Act.eval, e95, asBool, go_sem]) (show Value.bool _ = .bool _ by rw [hq]; simp)
              · have ex : aa.tmps.getD 105 undef = .bool (!(true)) := (hA.got 21 105 (by kernel_rfl)).1 (and_i hB (by rw [hq]; rfl))
                rw [hq] at e95
                exact gives hK (v := .bool (!(true))) (by simp [execOp, Act.eval, e95, ex, asBool, go_sem]) (show Value.bool _ = .bool _ by rw [hq]; simp)
            · intro aa ww hA K hK
              refine free rfl ?_
              have e86 : aa.tmps.getD 86 undef = .bool (z2) := hA.got 2 86 (by kernel_rfl)
              rcases hq : (z2) with _ | _
              · have ex : aa.tmps.getD 106 undef = .bool ((z11) && (!(true))) := (hA.got 22 106 (by kernel_rfl)).1 (by rw [hq]; rfl)
                rw [hq] at e86
                exact gives hK (v := .bool ((z11) && (!(true)))) (by simp [execOp, Act.eval, e86, ex, asBool, go_sem]) (show Value.bool _ = .bool _ by rw [hq]; simp)
              · rw [hq] at e86
                exact gives hK (v := .bool true) (by simp [execOp, Act.eval, e86, asBool, go_sem]) (show Value.bool _ = .bool _ by rw [hq]; simp)
          · intro a1 w1 hb hd hsz hold hgot
            have g107 : a1.tmps.getD 107 undef = .bool ((z2) || ((z11) && (!(true)))) := hgot 23 107 (by kernel_rfl)
            have ea := act_put hd hsz hold [84, 85, 86, 87, 88, 89, 90, 91, 92, 93, 94, 95, 96, 97, 98, 99, 100, 101, 102, 103, 104, 105, 106, 107] rfl
            simp only [List.foldl_cons, List.foldl_nil, g107] at ea
            rename_i K9 hK9
            refine hK9 a1 w1 ?_
            generalize a1.tmps.getD 84 undef = v84 at ea
            generalize a1.tmps.getD 85 undef = v85 at ea
            generalize a1.tmps.getD 86 undef = v86 at ea
            generalize a1.tmps.getD 87 undef = v87 at ea
            generalize a1.tmps.getD 88 undef = v88 at ea
            generalize a1.tmps.getD 89 undef = v89 at ea
            generalize a1.tmps.getD 90 undef = v90 at ea
            generalize a1.tmps.getD 91 undef = v91 at ea
            generalize a1.tmps.getD 92 undef = v92 at ea
            generalize a1.tmps.getD 93 undef = v93 at ea
            generalize a1.tmps.getD 94 undef = v94 at ea
            generalize a1.tmps.getD 95 undef = v95 at ea
            generalize a1.tmps.getD 96 undef = v96 at ea
            generalize a1.tmps.getD 97 undef = v97 at ea
            generalize a1.tmps.getD 98 undef = v98 at ea
            generalize a1.tmps.getD 99 undef = v99 at ea
            generalize a1.tmps.getD 100 undef = v100 at ea
            generalize a1.tmps.getD 101 undef = v101 at ea
            generalize a1.tmps.getD 102 undef = v102 at ea
            generalize a1.tmps.getD 103 undef = v103 at ea
            generalize a1.tmps.getD 104 undef = v104 at ea
            generalize a1.tmps.getD 105 undef = v105 at ea
            generalize a1.tmps.getD 106 undef = v106 at ea
            clear hgot hold hsz hd g107
            simp only [Act.put, List.setIfInBounds_toArray, List.set_cons_succ, List.set_cons_zero] at ea
            subst ea
            have HBs := Lib.hid (HBr.out.drew.trans (hb.mono HBr.out.drew.size))
            clear hb
            rw [show ((z2) || ((z11) && (!(true)))) = false from by rw [Hz2.out, decide_eq_false (Int.not_lt.2 hj0)]; cases z11 <;> rfl]
            go_wp2
            go_roundw
            case rel => exact ⟨i + 1, by omega, by go_num, HBs.out⟩
            case measure => simp [intOf]; omega
        · obtain rfl : i = nl := by omega
          have hD := iDropEntry_any (some ⟨bm, om, none⟩) m.length cm m kl wr HMr.out (by obtain ⟨_, _, _, _, h0, _⟩ := REntry_rd.1 HE4.out; exact h0) HTM2.out
          rw [HDR.out] at hD
          simp only at hD
          have HTD := Lib.hid (show (m.take k ++ m.drop (k + 1)).length ≤ 1099511627776 by have := HDL.out; omega)
          have HDF2 := HDF.out
          have HDL2 := HDL.out
          generalize m.take k ++ m.drop (k + 1) = dm at hD HTD HDF2 HDL2
          have hF := fun Ad cd w1 (h : FRdEntry w1 w1.heap.size Ad dm.length dm) => iFindEntry_any Ad _ cd dm kl w1 h HTD.out
          rw [HDF2] at hF
          have HF9 := Lib.hid hF
          have HD9 := Lib.hid hD
          have hdn : ¬ ((dm.length : Int) ≠ (m.length : Int) - 1) := by omega
          have hdq : ((dm.length : Int) != (m.length : Int) - 1) = false := by simpa using hdn
          have HBt := Lib.hid (HB4.out.trans (HBr.out.mono HB4.out.size))
          have x0 := HXr.out.cell (j := 0) rfl
          generalize dm.length = nd at HD9 HF9 hdq HTD
          clear hD hF HDF2 HDL2 hdn
          go_wp2_with fail
          refine HD9.out.mono ?_
          rintro e W5 ⟨Ad, cd, rfl, hod, hb5⟩
          have x0b := (HXr.out.below hb5 HXr.out.lt).cell (j := 0) rfl
          have HDr := Lib.hid hod.rd
          have HB5 := Lib.hid (HBt.out.trans (hb5.mono HBt.out.size))
          clear hod hb5 x0
          go_wp2_with fail
          refine (HF9.out _ _ _ HDr.out).mono ?_
          rintro e w6 ⟨rfl, hb6⟩
          have HB6 := Lib.hid (HB5.out.trans (hb6.mono HB5.out.size))
          clear x0b hb6
          go_wp2_with fail
          refine (drawAlikeIn_any w6 A n c hn ((HR.out.below HB6.out).more HB6.out.size)).mono ?_
          rintro e W7 ⟨Ax, nx, cx, x, s, rfl, hsx, hs, hox, hb7⟩
          have HTX := Lib.hid (smL_tot hsx)
          have HSZ := Lib.hid (show s.size ≤ 1099511627776 from Nat.le_trans hs (by decide))
          have HX7 := Lib.hid hox.rd
          have HXL := Lib.hid hox.len
          have hnx : nx ≤ 18 := by have := hsx.1; have := hox.len; omega
          have HB7 := Lib.hid (HB6.out.trans (hb7.mono HB6.out.size))
          have HAI := Lib.hid (fun w1 (hr : FRdEntry w1 w1.heap.size Ax nx x) => iAlikeIn_any Ax nx cx x s w1 hr (by have := HTX.out; omega) HSZ.out)
          have HAS := Lib.hid (fun w1 (hr : FRdEntry w1 w1.heap.size Ax nx x) => sAlikeIn_any Ax nx cx x s w1 hr (by have := HTX.out; omega) HSZ.out)
          have HRI := Lib.hid (fun w1 (hr : FRdEntry w1 w1.heap.size Ax nx x) => iAreEntries_any Ax nx cx x w1 hr (by have := HTX.out; omega))
          have HRS := Lib.hid (fun w1 (hr : FRdEntry w1 w1.heap.size Ax nx x) => sAreEntries_any Ax nx cx x w1 hr (by have := HTX.out; omega))
          have HLI := Lib.hid (fun w1 (hr : FRdEntry w1 w1.heap.size Ax nx x) => iLabelsOf_any Ax nx cx x w1 hr (by omega))
          have HGET := Lib.hid (fun i hi => alike_get (l := x) (s := s) (i := i) hi)
          have HALE := Lib.hid (alike_le x s)
          generalize alikeE x s = av at HAI HAS HGET HALE
          generalize areE x = ar at HRI HRS
          clear hsx hs hox hb7
          go_wp2_with fail
          refine (HAI.out _ HX7.out).mono ?_
          rintro e W8 ⟨Av, cv, rfl, hov, hb8⟩
          have HV8 := Lib.hid hov.rd
          have HX8 := Lib.hid (up_row HX7.out hb8 hb8.size)
          have HB8 := Lib.hid (HB7.out.trans (hb8.mono HB7.out.size))
          have hal : av.length ≤ 18 := by have := HALE.out; have := HXL.out; omega
          clear hov hb8
          go_wp2
          go_loopw [17] (fun i wr => ∃ j : Nat, j ≤ av.length ∧ i = .int .i64 j ∧ Below W8.heap.size W8 wr) (fun i _ => av.length - (intOf i).toNat)
          case atStart => exact ⟨0, by omega, rfl, Below.refl _ _⟩
          case round =>
            obtain ⟨j, hj, rfl, hbel⟩ := hrel
            have HBr := Lib.hid hbel
            clear hbel
            by_cases hjn : j < av.length
            · obtain ⟨b, off, rfl, hlt, hcj⟩ := (HV8.out.below HBr.out (Nat.le_refl _)).cell_at hjn
              obtain ⟨hg1, hg2⟩ := HGET.out j hjn
              have hwf := (HV8.out.wf (av.getD j .empty) (by simp [List.getD, hjn]))
              have hK := fun w1 (hz : (av.getD j .empty).size ≤ 1099511627776) => iLooksLike_any (av.getD j .empty) s w1 hz HSZ.out
              have hz9 : (av.getD j .empty).size ≤ 1099511627776 := by
                by_cases h9 : (av.getD j .empty).size ≤ 1099511627776
                · exact h9
                · exfalso
                  have := isLab_size (s := av.getD j .empty) (by unfold looks at hg2; rw [Bool.and_eq_true] at hg2; exact hg2.1)
                  omega
              have hK2 := fun w1 => hK w1 hz9
              rw [hg2] at hK2
              have hb9 : ((av.getD j .empty).toList == s.toList) = false := by rw [toList_beq, decide_eq_false hg1]
              generalize av.getD j .empty = y at hcj hK2 hb9
              have HK := Lib.hid hK2
              clear hK hK2 hg1 hg2 hz9 hwf hlt
              go_wp2_with fail
              refine (HK.out _).mono ?_
              rintro e w9 ⟨rfl, hb10⟩
              have HBs := Lib.hid (HBr.out.trans (hb10.mono HBr.out.size))
              clear hb10 hcj
              go_wp2
              go_roundw
              case rel => exact ⟨j + 1, by omega, by go_num, HBs.out⟩
              case measure => simp [intOf]; omega
            · obtain rfl : j = av.length := by omega
              have HBt := Lib.hid (HB8.out.trans (HBr.out.mono HB8.out.size))
              have HXr := Lib.hid (up_row HX8.out HBr.out HBr.out.size)
              go_wp2_with fail
              refine (HLI.out _ HXr.out).mono ?_
              rintro e V2 ⟨A2, c2, rfl, -, hb11⟩
              have HXs := Lib.hid (up_row HXr.out hb11 hb11.size)
              have HBu := Lib.hid (HBt.out.trans (hb11.mono HBt.out.size))
              clear hb11
              go_wp2_with fail
              refine (HAS.out _ HXs.out).mono ?_
              rintro e V3 ⟨A3, c3, rfl, -, hb12⟩
              have HXt := Lib.hid (up_row HXs.out hb12 hb12.size)
              have HBv := Lib.hid (HBu.out.trans (hb12.mono HBu.out.size))
              clear hb12
              go_wp2_with fail
              refine (HRI.out _ HXt.out).mono ?_
              rintro e V4 ⟨rfl, hb13⟩
              have HXu := Lib.hid (up_row HXt.out hb13 hb13.size)
              have HBw := Lib.hid (HBv.out.trans (hb13.mono HBv.out.size))
              clear hb13
              go_wp2_with fail
              refine (HRS.out _ HXu.out).mono ?_
              rintro e V5 ⟨rfl, hb14⟩
              have HBz := Lib.hid (HBw.out.trans (hb14.mono HBw.out.size))
              clear hb14
              go_wp2
              go_ret
              exact ⟨by simp, HBz.out⟩
end Go.Proofs.Ytpjfmbcandgpeaa.W09F
