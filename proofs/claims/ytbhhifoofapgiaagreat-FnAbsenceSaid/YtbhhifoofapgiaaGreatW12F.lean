/- The walk of the statement 'FnAbsence': the law returns true, and writes into nothing that was there. -/
import Derived.Test.YtbhhifoofapgiaaGreatC12SP
import Derived.Test.YtbhhifoofapgiaaGreatC12IP
import Derived.Test.YtbhhifoofapgiaaGreatC10I
import Derived.Test.YtbhhifoofapgiaaGreatD12
import Derived.Test.YtbhhifoofapgiaaGreatD02
namespace Go.Proofs.YtbhhifoofapgiaaGreat.W12F
set_option linter.unusedVariables false
set_option linter.unusedSimpArgs false
set_option maxRecDepth 100000
open Go.RowKit Mem MemS M02 M05 M08 M09 M10 M10F M11 M12P M12 C01 C02 Rep RW R08 R11 R12 Q08 C08I C08S C09S C09SP C10S C10I C11S C11I C12S C12SP C12I C12IP D01 D08 D09 D10 D11 D11B D12 SL TB RKA RG RGS
theorem upG {w w' : World} {cs : List Value} {k : Gap} (h : RGap.rd w (Lt w.heap.size) cs k) (hb : Below w.heap.size w w') : RGap.rd w' (Lt w'.heap.size) cs k := RGap.more (RGap.keep h fun i hi => hb.block i hi) fun i hi => Nat.lt_of_lt_of_le hi hb.size
theorem eqG_self (k : Gap) : eqG k k = true := by unfold eqG eqEntryB eqP; simp
theorem sm_lab {l : List Entry} {m j : Nat} (h : SmL m l) (hj : j < l.length) : (at0 l j).label.size ≤ 16 := (h.2 _ (by unfold at0; rw [List.getD, List.getElem?_eq_getElem hj, Option.getD_some]; exact List.getElem_mem _)).1
set_option maxHeartbeats 16000000 in
theorem FnAbsence_walk (W0 : World) (A : Option Addr) (n c : Nat) (hn : n ≤ maxLen) (hr : BRow W0 W0.heap.size A n) :
    Calls Tryz.prog 3 #[.slice A n c] W0 fun e w' => e = .returned (.bool true) ∧ Below W0.heap.size W0 w' := by
  by_cases hbig : 1048576 < n
  · go_enter Tryz.func3, Tryz.ntmps3
    go_wp2_with fail
    refine (big_yes _ _ _ _ hbig).mono ?_
    rintro e w1 ⟨rfl, rfl⟩
    go_wp2
    go_ret
    exact ⟨rfl, Below.refl _ _⟩
  have HR := Lib.hid hr
  clear hr
  go_enter Tryz.func3, Tryz.ntmps3
  go_wp2_with fail
  refine (big_no _ _ _ _ (by omega)).mono ?_
  rintro e w1 ⟨rfl, rfl⟩
  go_wp2_with fail
  refine (drawProveAbsence_any W0 A n c hn HR.out).mono ?_
  rintro e W1 ⟨Al, nl, cl, l, s, rfl, hsl, hs, hown, hb⟩
  have HL_1 := Lib.hid hown.rd
  have HB_1 := Lib.hid hb
  have hll := hown.len
  have htr : totR totEntry l ≤ 3618 := by have := smL_fine hsl.1; omega
  have htl : totR totEntry l ≤ 1048576 := by omega
  have hnl : nl ≤ 18 := by have := hsl.1.1; omega
  have hro : 0 ≤ rootOf l ∧ rootOf l < 2147483647 := rootOf_in l
  have hgs := gap_small (s := s) htr
  have HIP := Lib.hid (fun w1 h => iProveAbsence_any Al nl cl l s w1 h htl (by omega))
  have HSP := Lib.hid (fun w1 h => sProveAbsence_any Al nl cl l s w1 h htl (by omega))
  have HRO := Lib.hid (fun w1 h => iRootOf_any Al nl cl l w1 h htl)
  have HRK := Lib.hid (fun w1 h => iRankOf_any Al nl cl l s w1 h (by omega))
  have HGP := Lib.hid (fun (ho : (proveA l s).2 = true) => gaps ho)
  rw [hll] at HGP
  have HLB := Lib.hid (fun (j : Nat) (hj : j < nl) => sm_lab hsl.1 (show j < l.length by omega))
  generalize proveA l s = pr at HIP HSP HGP hgs
  obtain ⟨k, ok⟩ := pr
  simp only at HIP HSP HGP hgs
  generalize rootOf l = r at HRO HGP hro
  generalize rankN l s = rk at HRK HGP
  have htk : totGap k ≤ 1048576 := by unfold totGap totProof; omega
  clear hown hb hsl hgs
  rcases ok with _ | _
  · skip
    have hbn : (false != false) = false := by decide
    go_wp2_with fail
    refine (HIP.out _ HL_1.out).mono ?_
    rintro e W2 ⟨cs2, rfl, hown, hb⟩
    have HL_2 := Lib.hid (C11S.fup HL_1.out hb)
    have HB_2 := Lib.hid (HB_1.out.trans (hb.mono HB_1.out.size))
    clear hb
    obtain ⟨X0, xn0, xc0, X1, xn1, xc1, X2, xn2, xc2, X3, xn3, xc3, rfl⟩ := RGap_shape hown.rd
    have HP_2 := Lib.hid (show RGap.rd W2 (Lt W2.heap.size) [.int .i64 k.at_, .string k.before.label, .int .i64 k.before.kind, .int .i64 k.before.value, .slice X0 xn0 xc0, .string k.after.label, .int .i64 k.after.kind, .int .i64 k.after.value, .slice X1 xn1 xc1, .int .i64 k.left.at_, .slice X2 xn2 xc2, .int .i64 k.right.at_, .slice X3 xn3 xc3] k from hown.rd)
    clear hown
    have hal : Below W2.heap.size W2 (W2.alloc (.cells #[.int .i64 k.at_, .string k.before.label, .int .i64 k.before.kind, .int .i64 k.before.value, .slice X0 xn0 xc0, .string k.after.label, .int .i64 k.after.kind, .int .i64 k.after.value, .slice X1 xn1 xc1, .int .i64 k.left.at_, .slice X2 xn2 xc2, .int .i64 k.right.at_, .slice X3 xn3 xc3] 34)) := (Below.refl _ _).alloc (Nat.le_refl _) _
    have HL_3 := Lib.hid (C11S.fup HL_2.out hal)
    have HB_3 := Lib.hid (HB_2.out.trans (hal.mono HB_2.out.size))
    have HP_3 := Lib.hid (upG HP_2.out hal)
    have HX_3 := Lib.hid (Box.new W2 #[.int .i64 k.at_, .string k.before.label, .int .i64 k.before.kind, .int .i64 k.before.value, .slice X0 xn0 xc0, .string k.after.label, .int .i64 k.after.kind, .int .i64 k.after.value, .slice X1 xn1 xc1, .int .i64 k.left.at_, .slice X2 xn2 xc2, .int .i64 k.right.at_, .slice X3 xn3 xc3] 34)
    obtain ⟨V2, hW⟩ : ∃ V, W2.alloc (.cells #[.int .i64 k.at_, .string k.before.label, .int .i64 k.before.kind, .int .i64 k.before.value, .slice X0 xn0 xc0, .string k.after.label, .int .i64 k.after.kind, .int .i64 k.after.value, .slice X1 xn1 xc1, .int .i64 k.left.at_, .slice X2 xn2 xc2, .int .i64 k.right.at_, .slice X3 xn3 xc3] 34) = V := ⟨_, rfl⟩
    rw [hW] at HL_3 HB_3 HP_3 HX_3
    have HWV2 := Lib.hid hW
    clear hW hal
    go_wp2_with fail
    rw [HWV2.out]
    refine (HSP.out _ HL_3.out).mono ?_
    rintro e W3 ⟨cs3, rfl, hown, hb⟩
    have HL_4 := Lib.hid (C11S.fup HL_3.out hb)
    have HB_4 := Lib.hid (HB_3.out.trans (hb.mono HB_3.out.size))
    have HP_4 := Lib.hid (upG HP_3.out hb)
    have HX_4 := Lib.hid (HX_3.out.below hb HX_3.out.lt)
    clear hb
    obtain ⟨Y0, yn0, yc0, Y1, yn1, yc1, Y2, yn2, yc2, Y3, yn3, yc3, rfl⟩ := RGap_shape hown.rd
    have HQ_4 := Lib.hid (show RGap.rd W3 (Lt W3.heap.size) [.int .i64 k.at_, .string k.before.label, .int .i64 k.before.kind, .int .i64 k.before.value, .slice Y0 yn0 yc0, .string k.after.label, .int .i64 k.after.kind, .int .i64 k.after.value, .slice Y1 yn1 yc1, .int .i64 k.left.at_, .slice Y2 yn2 yc2, .int .i64 k.right.at_, .slice Y3 yn3 yc3] k from hown.rd)
    clear hown
    have hal : Below W3.heap.size W3 (W3.alloc (.cells #[.int .i64 k.at_, .string k.before.label, .int .i64 k.before.kind, .int .i64 k.before.value, .slice Y0 yn0 yc0, .string k.after.label, .int .i64 k.after.kind, .int .i64 k.after.value, .slice Y1 yn1 yc1, .int .i64 k.left.at_, .slice Y2 yn2 yc2, .int .i64 k.right.at_, .slice Y3 yn3 yc3] 34)) := (Below.refl _ _).alloc (Nat.le_refl _) _
    have HL_5 := Lib.hid (C11S.fup HL_4.out hal)
    have HB_5 := Lib.hid (HB_4.out.trans (hal.mono HB_4.out.size))
    have HP_5 := Lib.hid (upG HP_4.out hal)
    have HX_5 := Lib.hid (HX_4.out.below hal HX_4.out.lt)
    have HQ_5 := Lib.hid (upG HQ_4.out hal)
    have HY_5 := Lib.hid (Box.new W3 #[.int .i64 k.at_, .string k.before.label, .int .i64 k.before.kind, .int .i64 k.before.value, .slice Y0 yn0 yc0, .string k.after.label, .int .i64 k.after.kind, .int .i64 k.after.value, .slice Y1 yn1 yc1, .int .i64 k.left.at_, .slice Y2 yn2 yc2, .int .i64 k.right.at_, .slice Y3 yn3 yc3] 34)
    have zX0 := HX_5.out.cell (j := 0) rfl
    have zX1 := HX_5.out.cell (j := 1) rfl
    have zX2 := HX_5.out.cell (j := 2) rfl
    have zX3 := HX_5.out.cell (j := 3) rfl
    have zX4 := HX_5.out.cell (j := 4) rfl
    have zX5 := HX_5.out.cell (j := 5) rfl
    have zX6 := HX_5.out.cell (j := 6) rfl
    have zX7 := HX_5.out.cell (j := 7) rfl
    have zX8 := HX_5.out.cell (j := 8) rfl
    have zX9 := HX_5.out.cell (j := 9) rfl
    have zX10 := HX_5.out.cell (j := 10) rfl
    have zX11 := HX_5.out.cell (j := 11) rfl
    have zX12 := HX_5.out.cell (j := 12) rfl
    have zY0 := HY_5.out.cell (j := 0) rfl
    have zY1 := HY_5.out.cell (j := 1) rfl
    have zY2 := HY_5.out.cell (j := 2) rfl
    have zY3 := HY_5.out.cell (j := 3) rfl
    have zY4 := HY_5.out.cell (j := 4) rfl
    have zY5 := HY_5.out.cell (j := 5) rfl
    have zY6 := HY_5.out.cell (j := 6) rfl
    have zY7 := HY_5.out.cell (j := 7) rfl
    have zY8 := HY_5.out.cell (j := 8) rfl
    have zY9 := HY_5.out.cell (j := 9) rfl
    have zY10 := HY_5.out.cell (j := 10) rfl
    have zY11 := HY_5.out.cell (j := 11) rfl
    have zY12 := HY_5.out.cell (j := 12) rfl
    go_wp2_with fail
    clear zX0 zX1 zX2 zX3 zX4 zX5 zX6 zX7 zX8 zX9 zX10 zX11 zX12 zY0 zY1 zY2 zY3 zY4 zY5 zY6 zY7 zY8 zY9 zY10 zY11 zY12
    obtain ⟨V3, hW⟩ : ∃ V, W3.alloc (.cells #[.int .i64 k.at_, .string k.before.label, .int .i64 k.before.kind, .int .i64 k.before.value, .slice Y0 yn0 yc0, .string k.after.label, .int .i64 k.after.kind, .int .i64 k.after.value, .slice Y1 yn1 yc1, .int .i64 k.left.at_, .slice Y2 yn2 yc2, .int .i64 k.right.at_, .slice Y3 yn3 yc3] 34) = V := ⟨_, rfl⟩
    rw [hW] at HL_5 HB_5 HP_5 HX_5 HQ_5 HY_5
    have HWV3 := Lib.hid hW
    clear hW hal
    rw [HWV3.out]
    refine (iEqualGaps_any _ _ k k V3 HP_5.out HQ_5.out htk htk).mono ?_
    rintro e W4 ⟨rfl, hb⟩
    have HL_6 := Lib.hid (C11S.fup HL_5.out hb)
    have HB_6 := Lib.hid (HB_5.out.trans (hb.mono HB_5.out.size))
    have HP_6 := Lib.hid (upG HP_5.out hb)
    have HX_6 := Lib.hid (HX_5.out.below hb HX_5.out.lt)
    have HQ_6 := Lib.hid (upG HQ_5.out hb)
    have HY_6 := Lib.hid (HY_5.out.below hb HY_5.out.lt)
    clear hb
    rw [eqG_self]
    have zX0 := HX_6.out.cell (j := 0) rfl
    have zX1 := HX_6.out.cell (j := 1) rfl
    have zX2 := HX_6.out.cell (j := 2) rfl
    have zX3 := HX_6.out.cell (j := 3) rfl
    have zX4 := HX_6.out.cell (j := 4) rfl
    have zX5 := HX_6.out.cell (j := 5) rfl
    have zX6 := HX_6.out.cell (j := 6) rfl
    have zX7 := HX_6.out.cell (j := 7) rfl
    have zX8 := HX_6.out.cell (j := 8) rfl
    have zX9 := HX_6.out.cell (j := 9) rfl
    have zX10 := HX_6.out.cell (j := 10) rfl
    have zX11 := HX_6.out.cell (j := 11) rfl
    have zX12 := HX_6.out.cell (j := 12) rfl
    go_wp2_with fail
    clear zX0 zX1 zX2 zX3 zX4 zX5 zX6 zX7 zX8 zX9 zX10 zX11 zX12
    refine (drawCheckAbsence_any W4 A n c hn ((HR.out.below HB_6.out).more HB_6.out.size)).mono ?_
    rintro e Y1 ⟨r1, m1, s1, cs9, x, rfl, hr1, hm1, hs1, hk9, htx, hb⟩
    obtain ⟨Z0, zn0, zc0, Z1, zn1, zc1, Z2, zn2, zc2, Z3, zn3, zc3, rfl⟩ := RGap_shape hk9
    have HB_7 := Lib.hid (HB_6.out.trans (hb.mono HB_6.out.size))
    have HE_7 := Lib.hid hk9
    have HIC := Lib.hid (fun w1 h => iCheckAbsence_any r1 m1 s1 [.int .i64 x.at_, .string x.before.label, .int .i64 x.before.kind, .int .i64 x.before.value, .slice Z0 zn0 zc0, .string x.after.label, .int .i64 x.after.kind, .int .i64 x.after.value, .slice Z1 zn1 zc1, .int .i64 x.left.at_, .slice Z2 zn2 zc2, .int .i64 x.right.at_, .slice Z3 zn3 zc3] x w1 (inI64 (by omega) (by omega)) (inI64 (by omega) (by omega)) (by omega) h htx)
    have HSC := Lib.hid (fun w1 h => sCheckAbsence_any r1 m1 s1 [.int .i64 x.at_, .string x.before.label, .int .i64 x.before.kind, .int .i64 x.before.value, .slice Z0 zn0 zc0, .string x.after.label, .int .i64 x.after.kind, .int .i64 x.after.value, .slice Z1 zn1 zc1, .int .i64 x.left.at_, .slice Z2 zn2 zc2, .int .i64 x.right.at_, .slice Z3 zn3 zc3] x w1 (inI64 (by omega) (by omega)) (inI64 (by omega) (by omega)) (by omega) h htx)
    generalize checkG r1 m1 s1 x = b1 at HIC HSC
    obtain ⟨b2, hb2⟩ : ∃ b2, b1 = b2 := ⟨_, rfl⟩
    rw [hb2] at HSC
    have HBB := Lib.hid hb2
    clear hb2
    clear hk9 hb htx
    have hal : Below Y1.heap.size Y1 (Y1.alloc (.cells #[.int .i64 x.at_, .string x.before.label, .int .i64 x.before.kind, .int .i64 x.before.value, .slice Z0 zn0 zc0, .string x.after.label, .int .i64 x.after.kind, .int .i64 x.after.value, .slice Z1 zn1 zc1, .int .i64 x.left.at_, .slice Z2 zn2 zc2, .int .i64 x.right.at_, .slice Z3 zn3 zc3] 34)) := (Below.refl _ _).alloc (Nat.le_refl _) _
    have HB_8 := Lib.hid (HB_7.out.trans (hal.mono HB_7.out.size))
    have HE_8 := Lib.hid (upG HE_7.out hal)
    have HX_8 := Lib.hid (Box.new Y1 #[.int .i64 x.at_, .string x.before.label, .int .i64 x.before.kind, .int .i64 x.before.value, .slice Z0 zn0 zc0, .string x.after.label, .int .i64 x.after.kind, .int .i64 x.after.value, .slice Z1 zn1 zc1, .int .i64 x.left.at_, .slice Z2 zn2 zc2, .int .i64 x.right.at_, .slice Z3 zn3 zc3] 34)
    obtain ⟨Y2, hW⟩ : ∃ V, Y1.alloc (.cells #[.int .i64 x.at_, .string x.before.label, .int .i64 x.before.kind, .int .i64 x.before.value, .slice Z0 zn0 zc0, .string x.after.label, .int .i64 x.after.kind, .int .i64 x.after.value, .slice Z1 zn1 zc1, .int .i64 x.left.at_, .slice Z2 zn2 zc2, .int .i64 x.right.at_, .slice Z3 zn3 zc3] 34) = V := ⟨_, rfl⟩
    rw [hW] at HB_8 HE_8 HX_8
    have HWY2 := Lib.hid hW
    clear hW hal
    go_wp2_with fail
    rw [HWY2.out]
    refine RG.region (tabP [sv (.int .i64 (r1)), sv (.int .i64 (m1)), sv (.string (s1)), sv (.agg #[.int .i64 x.at_, .string x.before.label, .int .i64 x.before.kind, .int .i64 x.before.value, .slice Z0 zn0 zc0, .string x.after.label, .int .i64 x.after.kind, .int .i64 x.after.value, .slice Z1 zn1 zc1, .int .i64 x.left.at_, .slice Z2 zn2 zc2, .int .i64 x.right.at_, .slice Z3 zn3 zc3]), sv (.bool (b1)), sv (.int .i64 (r1)), sv (.int .i64 (m1)), sv (.string (s1)), sv (.agg #[.int .i64 x.at_, .string x.before.label, .int .i64 x.before.kind, .int .i64 x.before.value, .slice Z0 zn0 zc0, .string x.after.label, .int .i64 x.after.kind, .int .i64 x.after.value, .slice Z1 zn1 zc1, .int .i64 x.left.at_, .slice Z2 zn2 zc2, .int .i64 x.right.at_, .slice Z3 zn3 zc3]), sv (.bool (b2)), sv (.bool ((b1) == (b2))), sv (.bool ((b1) == (b2)))]) (by kernel_rfl) (by kernel_rfl) (tab_keep _) ?_ ?_
    · refine steps_cons ?_ (steps_cons ?_ (steps_cons ?_ (steps_cons ?_ (steps_cons ?_ (steps_cons ?_ (steps_cons ?_ (steps_cons ?_ (steps_cons ?_ (steps_cons ?_ (steps_cons ?_ (steps_cons ?_ (steps_nil))))))))))))
      · intro aa ww hA K hK
        refine free rfl ?_
        exact gives hK rfl (hA.old 11 (by kernel_rfl))
      · intro aa ww hA K hK
        refine free rfl ?_
        exact gives hK rfl (hA.old 12 (by kernel_rfl))
      · intro aa ww hA K hK
        refine free rfl ?_
        exact gives hK rfl (hA.old 13 (by kernel_rfl))
      · intro aa ww hA K hK
        refine free rfl ?_
        have e14 : aa.tmps.getD 14 undef = .pointer (some ⟨Y1.heap.size, 0, none⟩) := hA.old 14 (by kernel_rfl)
        have cqHX_80 := (hA.bel.cell (p := ⟨Y1.heap.size, 0, none⟩) HX_8.out.lt).trans (HX_8.out.cell (j := 0) rfl)
        have cqHX_81 := (hA.bel.cell (p := ⟨Y1.heap.size, 1, none⟩) HX_8.out.lt).trans (HX_8.out.cell (j := 1) rfl)
        have cqHX_82 := (hA.bel.cell (p := ⟨Y1.heap.size, 2, none⟩) HX_8.out.lt).trans (HX_8.out.cell (j := 2) rfl)
        have cqHX_83 := (hA.bel.cell (p := ⟨Y1.heap.size, 3, none⟩) HX_8.out.lt).trans (HX_8.out.cell (j := 3) rfl)
        have cqHX_84 := (hA.bel.cell (p := ⟨Y1.heap.size, 4, none⟩) HX_8.out.lt).trans (HX_8.out.cell (j := 4) rfl)
        have cqHX_85 := (hA.bel.cell (p := ⟨Y1.heap.size, 5, none⟩) HX_8.out.lt).trans (HX_8.out.cell (j := 5) rfl)
        have cqHX_86 := (hA.bel.cell (p := ⟨Y1.heap.size, 6, none⟩) HX_8.out.lt).trans (HX_8.out.cell (j := 6) rfl)
        have cqHX_87 := (hA.bel.cell (p := ⟨Y1.heap.size, 7, none⟩) HX_8.out.lt).trans (HX_8.out.cell (j := 7) rfl)
        have cqHX_88 := (hA.bel.cell (p := ⟨Y1.heap.size, 8, none⟩) HX_8.out.lt).trans (HX_8.out.cell (j := 8) rfl)
        have cqHX_89 := (hA.bel.cell (p := ⟨Y1.heap.size, 9, none⟩) HX_8.out.lt).trans (HX_8.out.cell (j := 9) rfl)
        have cqHX_810 := (hA.bel.cell (p := ⟨Y1.heap.size, 10, none⟩) HX_8.out.lt).trans (HX_8.out.cell (j := 10) rfl)
        have cqHX_811 := (hA.bel.cell (p := ⟨Y1.heap.size, 11, none⟩) HX_8.out.lt).trans (HX_8.out.cell (j := 11) rfl)
        have cqHX_812 := (hA.bel.cell (p := ⟨Y1.heap.size, 12, none⟩) HX_8.out.lt).trans (HX_8.out.cell (j := 12) rfl)
        exact gives hK (v := .agg #[.int .i64 x.at_, .string x.before.label, .int .i64 x.before.kind, .int .i64 x.before.value, .slice Z0 zn0 zc0, .string x.after.label, .int .i64 x.after.kind, .int .i64 x.after.value, .slice Z1 zn1 zc1, .int .i64 x.left.at_, .slice Z2 zn2 zc2, .int .i64 x.right.at_, .slice Z3 zn3 zc3]) (by simp [execOp, Act.eval, e14, cqHX_80, cqHX_81, cqHX_82, cqHX_83, cqHX_84, cqHX_85, cqHX_86, cqHX_87, cqHX_88, cqHX_89, cqHX_810, cqHX_811, cqHX_812, go_sem]) rfl
      · intro aa ww hA K hK
        refine free rfl ?_
        have e93 : aa.tmps.getD 93 undef = .int .i64 (r1) := hA.got 0 93 (by kernel_rfl)
        have e94 : aa.tmps.getD 94 undef = .int .i64 (m1) := hA.got 1 94 (by kernel_rfl)
        have e95 : aa.tmps.getD 95 undef = .string (s1) := hA.got 2 95 (by kernel_rfl)
        have e96 : aa.tmps.getD 96 undef = .agg #[.int .i64 x.at_, .string x.before.label, .int .i64 x.before.kind, .int .i64 x.before.value, .slice Z0 zn0 zc0, .string x.after.label, .int .i64 x.after.kind, .int .i64 x.after.value, .slice Z1 zn1 zc1, .int .i64 x.left.at_, .slice Z2 zn2 zc2, .int .i64 x.right.at_, .slice Z3 zn3 zc3] := hA.got 3 96 (by kernel_rfl)
        refine calls hK (by simp [Act.eval, e93, e94, e95, e96, go_sem]) (HIC.out ww (upG HE_8.out (RKA.below_drew hA.bel))) ?_
        rintro e w1 ⟨rfl, hb⟩
        exact ⟨_, rfl, hb, rfl⟩
      · intro aa ww hA K hK
        refine free rfl ?_
        exact gives hK rfl (hA.old 11 (by kernel_rfl))
      · intro aa ww hA K hK
        refine free rfl ?_
        exact gives hK rfl (hA.old 12 (by kernel_rfl))
      · intro aa ww hA K hK
        refine free rfl ?_
        exact gives hK rfl (hA.old 13 (by kernel_rfl))
      · intro aa ww hA K hK
        refine free rfl ?_
        have e14 : aa.tmps.getD 14 undef = .pointer (some ⟨Y1.heap.size, 0, none⟩) := hA.old 14 (by kernel_rfl)
        have cqHX_80 := (hA.bel.cell (p := ⟨Y1.heap.size, 0, none⟩) HX_8.out.lt).trans (HX_8.out.cell (j := 0) rfl)
        have cqHX_81 := (hA.bel.cell (p := ⟨Y1.heap.size, 1, none⟩) HX_8.out.lt).trans (HX_8.out.cell (j := 1) rfl)
        have cqHX_82 := (hA.bel.cell (p := ⟨Y1.heap.size, 2, none⟩) HX_8.out.lt).trans (HX_8.out.cell (j := 2) rfl)
        have cqHX_83 := (hA.bel.cell (p := ⟨Y1.heap.size, 3, none⟩) HX_8.out.lt).trans (HX_8.out.cell (j := 3) rfl)
        have cqHX_84 := (hA.bel.cell (p := ⟨Y1.heap.size, 4, none⟩) HX_8.out.lt).trans (HX_8.out.cell (j := 4) rfl)
        have cqHX_85 := (hA.bel.cell (p := ⟨Y1.heap.size, 5, none⟩) HX_8.out.lt).trans (HX_8.out.cell (j := 5) rfl)
        have cqHX_86 := (hA.bel.cell (p := ⟨Y1.heap.size, 6, none⟩) HX_8.out.lt).trans (HX_8.out.cell (j := 6) rfl)
        have cqHX_87 := (hA.bel.cell (p := ⟨Y1.heap.size, 7, none⟩) HX_8.out.lt).trans (HX_8.out.cell (j := 7) rfl)
        have cqHX_88 := (hA.bel.cell (p := ⟨Y1.heap.size, 8, none⟩) HX_8.out.lt).trans (HX_8.out.cell (j := 8) rfl)
        have cqHX_89 := (hA.bel.cell (p := ⟨Y1.heap.size, 9, none⟩) HX_8.out.lt).trans (HX_8.out.cell (j := 9) rfl)
        have cqHX_810 := (hA.bel.cell (p := ⟨Y1.heap.size, 10, none⟩) HX_8.out.lt).trans (HX_8.out.cell (j := 10) rfl)
        have cqHX_811 := (hA.bel.cell (p := ⟨Y1.heap.size, 11, none⟩) HX_8.out.lt).trans (HX_8.out.cell (j := 11) rfl)
        have cqHX_812 := (hA.bel.cell (p := ⟨Y1.heap.size, 12, none⟩) HX_8.out.lt).trans (HX_8.out.cell (j := 12) rfl)
        exact gives hK (v := .agg #[.int .i64 x.at_, .string x.before.label, .int .i64 x.before.kind, .int .i64 x.before.value, .slice Z0 zn0 zc0, .string x.after.label, .int .i64 x.after.kind, .int .i64 x.after.value, .slice Z1 zn1 zc1, .int .i64 x.left.at_, .slice Z2 zn2 zc2, .int .i64 x.right.at_, .slice Z3 zn3 zc3]) (by simp [execOp, Act.eval, e14, cqHX_80, cqHX_81, cqHX_82, cqHX_83, cqHX_84, cqHX_85, cqHX_86, cqHX_87, cqHX_88, cqHX_89, cqHX_810, cqHX_811, cqHX_812, go_sem]) rfl
      · intro aa ww hA K hK
        refine free rfl ?_
        have e98 : aa.tmps.getD 98 undef = .int .i64 (r1) := hA.got 5 98 (by kernel_rfl)
        have e99 : aa.tmps.getD 99 undef = .int .i64 (m1) := hA.got 6 99 (by kernel_rfl)
        have e100 : aa.tmps.getD 100 undef = .string (s1) := hA.got 7 100 (by kernel_rfl)
        have e101 : aa.tmps.getD 101 undef = .agg #[.int .i64 x.at_, .string x.before.label, .int .i64 x.before.kind, .int .i64 x.before.value, .slice Z0 zn0 zc0, .string x.after.label, .int .i64 x.after.kind, .int .i64 x.after.value, .slice Z1 zn1 zc1, .int .i64 x.left.at_, .slice Z2 zn2 zc2, .int .i64 x.right.at_, .slice Z3 zn3 zc3] := hA.got 8 101 (by kernel_rfl)
        refine calls hK (by simp [Act.eval, e98, e99, e100, e101, go_sem]) (HSC.out ww (upG HE_8.out (RKA.below_drew hA.bel))) ?_
        rintro e w1 ⟨rfl, hb⟩
        exact ⟨_, rfl, hb, rfl⟩
      · intro aa ww hA K hK
        refine free rfl ?_
        have e97 : aa.tmps.getD 97 undef = .bool (b1) := hA.got 4 97 (by kernel_rfl)
        have e102 : aa.tmps.getD 102 undef = .bool (b2) := hA.got 9 102 (by kernel_rfl)
        exact gives hK (v := .bool ((b1) == (b2))) (by simp [execOp, Act.eval, e97, e102, binOp, eqGuard, eq_bool, go_sem]) rfl
      · intro aa ww hA K hK
        refine free rfl ?_
        exact gives hK rfl (hA.got 10 103 (by kernel_rfl))
    · intro a1 w1 hb hd hsz hold hgot
      have e2 : a1.tmps.getD 2 undef = .bool ((b1) == (b2)) := hgot 11 2 (by kernel_rfl)
      rename_i K9 hK9
      refine hK9 a1 w1 (wp_ret ?_)
      exact bodyPost_ret (v := .bool ((b1) == (b2))) (by simp [results, Tryz.results3, go_sem]; rw [← Array.getD_eq_getD_getElem?]; exact e2) (hd.trans rfl) ⟨by rw [HBB.out]; simp, HB_8.out.trans ((RKA.below_drew hb).mono HB_8.out.size)⟩
  · skip
    have hbn : (true != true) = false := by decide
    go_wp2_with fail
    refine (HIP.out _ HL_1.out).mono ?_
    rintro e W2 ⟨cs2, rfl, hown, hb⟩
    have HL_2 := Lib.hid (C11S.fup HL_1.out hb)
    have HB_2 := Lib.hid (HB_1.out.trans (hb.mono HB_1.out.size))
    clear hb
    obtain ⟨X0, xn0, xc0, X1, xn1, xc1, X2, xn2, xc2, X3, xn3, xc3, rfl⟩ := RGap_shape hown.rd
    have HP_2 := Lib.hid (show RGap.rd W2 (Lt W2.heap.size) [.int .i64 k.at_, .string k.before.label, .int .i64 k.before.kind, .int .i64 k.before.value, .slice X0 xn0 xc0, .string k.after.label, .int .i64 k.after.kind, .int .i64 k.after.value, .slice X1 xn1 xc1, .int .i64 k.left.at_, .slice X2 xn2 xc2, .int .i64 k.right.at_, .slice X3 xn3 xc3] k from hown.rd)
    clear hown
    have hal : Below W2.heap.size W2 (W2.alloc (.cells #[.int .i64 k.at_, .string k.before.label, .int .i64 k.before.kind, .int .i64 k.before.value, .slice X0 xn0 xc0, .string k.after.label, .int .i64 k.after.kind, .int .i64 k.after.value, .slice X1 xn1 xc1, .int .i64 k.left.at_, .slice X2 xn2 xc2, .int .i64 k.right.at_, .slice X3 xn3 xc3] 34)) := (Below.refl _ _).alloc (Nat.le_refl _) _
    have HL_3 := Lib.hid (C11S.fup HL_2.out hal)
    have HB_3 := Lib.hid (HB_2.out.trans (hal.mono HB_2.out.size))
    have HP_3 := Lib.hid (upG HP_2.out hal)
    have HX_3 := Lib.hid (Box.new W2 #[.int .i64 k.at_, .string k.before.label, .int .i64 k.before.kind, .int .i64 k.before.value, .slice X0 xn0 xc0, .string k.after.label, .int .i64 k.after.kind, .int .i64 k.after.value, .slice X1 xn1 xc1, .int .i64 k.left.at_, .slice X2 xn2 xc2, .int .i64 k.right.at_, .slice X3 xn3 xc3] 34)
    obtain ⟨V2, hW⟩ : ∃ V, W2.alloc (.cells #[.int .i64 k.at_, .string k.before.label, .int .i64 k.before.kind, .int .i64 k.before.value, .slice X0 xn0 xc0, .string k.after.label, .int .i64 k.after.kind, .int .i64 k.after.value, .slice X1 xn1 xc1, .int .i64 k.left.at_, .slice X2 xn2 xc2, .int .i64 k.right.at_, .slice X3 xn3 xc3] 34) = V := ⟨_, rfl⟩
    rw [hW] at HL_3 HB_3 HP_3 HX_3
    have HWV2 := Lib.hid hW
    clear hW hal
    go_wp2_with fail
    rw [HWV2.out]
    refine (HSP.out _ HL_3.out).mono ?_
    rintro e W3 ⟨cs3, rfl, hown, hb⟩
    have HL_4 := Lib.hid (C11S.fup HL_3.out hb)
    have HB_4 := Lib.hid (HB_3.out.trans (hb.mono HB_3.out.size))
    have HP_4 := Lib.hid (upG HP_3.out hb)
    have HX_4 := Lib.hid (HX_3.out.below hb HX_3.out.lt)
    clear hb
    obtain ⟨Y0, yn0, yc0, Y1, yn1, yc1, Y2, yn2, yc2, Y3, yn3, yc3, rfl⟩ := RGap_shape hown.rd
    have HQ_4 := Lib.hid (show RGap.rd W3 (Lt W3.heap.size) [.int .i64 k.at_, .string k.before.label, .int .i64 k.before.kind, .int .i64 k.before.value, .slice Y0 yn0 yc0, .string k.after.label, .int .i64 k.after.kind, .int .i64 k.after.value, .slice Y1 yn1 yc1, .int .i64 k.left.at_, .slice Y2 yn2 yc2, .int .i64 k.right.at_, .slice Y3 yn3 yc3] k from hown.rd)
    clear hown
    have hal : Below W3.heap.size W3 (W3.alloc (.cells #[.int .i64 k.at_, .string k.before.label, .int .i64 k.before.kind, .int .i64 k.before.value, .slice Y0 yn0 yc0, .string k.after.label, .int .i64 k.after.kind, .int .i64 k.after.value, .slice Y1 yn1 yc1, .int .i64 k.left.at_, .slice Y2 yn2 yc2, .int .i64 k.right.at_, .slice Y3 yn3 yc3] 34)) := (Below.refl _ _).alloc (Nat.le_refl _) _
    have HL_5 := Lib.hid (C11S.fup HL_4.out hal)
    have HB_5 := Lib.hid (HB_4.out.trans (hal.mono HB_4.out.size))
    have HP_5 := Lib.hid (upG HP_4.out hal)
    have HX_5 := Lib.hid (HX_4.out.below hal HX_4.out.lt)
    have HQ_5 := Lib.hid (upG HQ_4.out hal)
    have HY_5 := Lib.hid (Box.new W3 #[.int .i64 k.at_, .string k.before.label, .int .i64 k.before.kind, .int .i64 k.before.value, .slice Y0 yn0 yc0, .string k.after.label, .int .i64 k.after.kind, .int .i64 k.after.value, .slice Y1 yn1 yc1, .int .i64 k.left.at_, .slice Y2 yn2 yc2, .int .i64 k.right.at_, .slice Y3 yn3 yc3] 34)
    have zX0 := HX_5.out.cell (j := 0) rfl
    have zX1 := HX_5.out.cell (j := 1) rfl
    have zX2 := HX_5.out.cell (j := 2) rfl
    have zX3 := HX_5.out.cell (j := 3) rfl
    have zX4 := HX_5.out.cell (j := 4) rfl
    have zX5 := HX_5.out.cell (j := 5) rfl
    have zX6 := HX_5.out.cell (j := 6) rfl
    have zX7 := HX_5.out.cell (j := 7) rfl
    have zX8 := HX_5.out.cell (j := 8) rfl
    have zX9 := HX_5.out.cell (j := 9) rfl
    have zX10 := HX_5.out.cell (j := 10) rfl
    have zX11 := HX_5.out.cell (j := 11) rfl
    have zX12 := HX_5.out.cell (j := 12) rfl
    have zY0 := HY_5.out.cell (j := 0) rfl
    have zY1 := HY_5.out.cell (j := 1) rfl
    have zY2 := HY_5.out.cell (j := 2) rfl
    have zY3 := HY_5.out.cell (j := 3) rfl
    have zY4 := HY_5.out.cell (j := 4) rfl
    have zY5 := HY_5.out.cell (j := 5) rfl
    have zY6 := HY_5.out.cell (j := 6) rfl
    have zY7 := HY_5.out.cell (j := 7) rfl
    have zY8 := HY_5.out.cell (j := 8) rfl
    have zY9 := HY_5.out.cell (j := 9) rfl
    have zY10 := HY_5.out.cell (j := 10) rfl
    have zY11 := HY_5.out.cell (j := 11) rfl
    have zY12 := HY_5.out.cell (j := 12) rfl
    go_wp2_with fail
    clear zX0 zX1 zX2 zX3 zX4 zX5 zX6 zX7 zX8 zX9 zX10 zX11 zX12 zY0 zY1 zY2 zY3 zY4 zY5 zY6 zY7 zY8 zY9 zY10 zY11 zY12
    obtain ⟨V3, hW⟩ : ∃ V, W3.alloc (.cells #[.int .i64 k.at_, .string k.before.label, .int .i64 k.before.kind, .int .i64 k.before.value, .slice Y0 yn0 yc0, .string k.after.label, .int .i64 k.after.kind, .int .i64 k.after.value, .slice Y1 yn1 yc1, .int .i64 k.left.at_, .slice Y2 yn2 yc2, .int .i64 k.right.at_, .slice Y3 yn3 yc3] 34) = V := ⟨_, rfl⟩
    rw [hW] at HL_5 HB_5 HP_5 HX_5 HQ_5 HY_5
    have HWV3 := Lib.hid hW
    clear hW hal
    rw [HWV3.out]
    refine (iEqualGaps_any _ _ k k V3 HP_5.out HQ_5.out htk htk).mono ?_
    rintro e W4 ⟨rfl, hb⟩
    have HL_6 := Lib.hid (C11S.fup HL_5.out hb)
    have HB_6 := Lib.hid (HB_5.out.trans (hb.mono HB_5.out.size))
    have HP_6 := Lib.hid (upG HP_5.out hb)
    have HX_6 := Lib.hid (HX_5.out.below hb HX_5.out.lt)
    have HQ_6 := Lib.hid (upG HQ_5.out hb)
    have HY_6 := Lib.hid (HY_5.out.below hb HY_5.out.lt)
    clear hb
    rw [eqG_self]
    have zX0 := HX_6.out.cell (j := 0) rfl
    have zX1 := HX_6.out.cell (j := 1) rfl
    have zX2 := HX_6.out.cell (j := 2) rfl
    have zX3 := HX_6.out.cell (j := 3) rfl
    have zX4 := HX_6.out.cell (j := 4) rfl
    have zX5 := HX_6.out.cell (j := 5) rfl
    have zX6 := HX_6.out.cell (j := 6) rfl
    have zX7 := HX_6.out.cell (j := 7) rfl
    have zX8 := HX_6.out.cell (j := 8) rfl
    have zX9 := HX_6.out.cell (j := 9) rfl
    have zX10 := HX_6.out.cell (j := 10) rfl
    have zX11 := HX_6.out.cell (j := 11) rfl
    have zX12 := HX_6.out.cell (j := 12) rfl
    go_wp2_with fail
    clear zX0 zX1 zX2 zX3 zX4 zX5 zX6 zX7 zX8 zX9 zX10 zX11 zX12
    refine (HRO.out _ HL_6.out).mono ?_
    rintro e W5 ⟨rfl, hb⟩
    have HL_7 := Lib.hid (C11S.fup HL_6.out hb)
    have HB_7 := Lib.hid (HB_6.out.trans (hb.mono HB_6.out.size))
    have HP_7 := Lib.hid (upG HP_6.out hb)
    have HX_7 := Lib.hid (HX_6.out.below hb HX_6.out.lt)
    clear hb
    obtain ⟨hat, hc1, hc2, hc3⟩ := HGP.out (by first | rfl | trivial)
    rw [← hat] at HRK
    have HC3 := Lib.hid hc3
    have HC1 := Lib.hid (fun w1 h => iCheckAbsence_any r nl s [.int .i64 k.at_, .string k.before.label, .int .i64 k.before.kind, .int .i64 k.before.value, .slice X0 xn0 xc0, .string k.after.label, .int .i64 k.after.kind, .int .i64 k.after.value, .slice X1 xn1 xc1, .int .i64 k.left.at_, .slice X2 xn2 xc2, .int .i64 k.right.at_, .slice X3 xn3 xc3] k w1 (inI64 (by omega) (by omega)) (inI64 (by omega) (by omega)) (by omega) h htk)
    have HC2 := Lib.hid (fun w1 h => iCheckAbsence_any (r + 1) nl s [.int .i64 k.at_, .string k.before.label, .int .i64 k.before.kind, .int .i64 k.before.value, .slice X0 xn0 xc0, .string k.after.label, .int .i64 k.after.kind, .int .i64 k.after.value, .slice X1 xn1 xc1, .int .i64 k.left.at_, .slice X2 xn2 xc2, .int .i64 k.right.at_, .slice X3 xn3 xc3] k w1 (inI64 (by omega) (by omega)) (inI64 (by omega) (by omega)) (by omega) h htk)
    rw [hc1] at HC1
    rw [hc2] at HC2
    have hwr : IntKind.i64.wrap (r + 1) = r + 1 := by rw [IntKind.wrap_i64]; omega
    clear hc1 hc2 hc3 HGP
    go_wp2_with fail
    obtain ⟨z7, hz7⟩ : ∃ zz : Bool, zz = (!(true)) := ⟨_, rfl⟩
    have Hz7 := Lib.hid hz7
    clear hz7
    obtain ⟨z15, hz15⟩ : ∃ zz : Bool, zz = ((z7) || ((k.at_ : Int) != (k.at_ : Int))) := ⟨_, rfl⟩
    have Hz15 := Lib.hid hz15
    clear hz15
    refine RG.region (tabP [sv (.int .i64 (r)), sv (.slice Al nl cl), sv (.int .i64 ((nl : Int))), sv (.string (s)), sv (.agg #[.int .i64 k.at_, .string k.before.label, .int .i64 k.before.kind, .int .i64 k.before.value, .slice X0 xn0 xc0, .string k.after.label, .int .i64 k.after.kind, .int .i64 k.after.value, .slice X1 xn1 xc1, .int .i64 k.left.at_, .slice X2 xn2 xc2, .int .i64 k.right.at_, .slice X3 xn3 xc3]), sv (.bool (true)), sv (.bool (!(true))), sv (.bool (z7)), swhen (z7 == false) (sv (.pointer (some ⟨W2.heap.size, 0, none⟩))), swhen (z7 == false) (sv (.int .i64 (k.at_))), swhen (z7 == false) (sv (.slice Al nl cl)), swhen (z7 == false) (sv (.string (s))), swhen (z7 == false) (sv (.int .i64 (k.at_))), swhen (z7 == false) (sv (.bool ((k.at_ : Int) != (k.at_ : Int)))), sv (.bool ((z7) || ((k.at_ : Int) != (k.at_ : Int)))), sv (.bool (z15)), swhen (z15 == false) (sv (.int .i64 (r))), swhen (z15 == false) (sv (.int .i64 (r + 1))), swhen (z15 == false) (sv (.slice Al nl cl)), swhen (z15 == false) (sv (.int .i64 ((nl : Int)))), swhen (z15 == false) (sv (.string (s))), swhen (z15 == false) (sv (.agg #[.int .i64 k.at_, .string k.before.label, .int .i64 k.before.kind, .int .i64 k.before.value, .slice X0 xn0 xc0, .string k.after.label, .int .i64 k.after.kind, .int .i64 k.after.value, .slice X1 xn1 xc1, .int .i64 k.left.at_, .slice X2 xn2 xc2, .int .i64 k.right.at_, .slice X3 xn3 xc3])), swhen (z15 == false) (sv (.bool (false))), sv (.bool ((z15) || (false)))]) (by kernel_rfl) (by kernel_rfl) (tab_keep _) ?_ ?_
    · refine steps_cons ?_ (steps_cons ?_ (steps_cons ?_ (steps_cons ?_ (steps_cons ?_ (steps_cons ?_ (steps_cons ?_ (steps_cons ?_ (steps_cons ?_ (steps_cons ?_ (steps_cons ?_ (steps_cons ?_ (steps_cons ?_ (steps_cons ?_ (steps_cons ?_ (steps_cons ?_ (steps_cons ?_ (steps_cons ?_ (steps_cons ?_ (steps_cons ?_ (steps_cons ?_ (steps_cons ?_ (steps_cons ?_ (steps_cons ?_ (steps_nil))))))))))))))))))))))))
      · intro aa ww hA K hK
        refine free rfl ?_
        exact gives hK rfl (hA.old 9 (by kernel_rfl))
      · intro aa ww hA K hK
        refine free rfl ?_
        exact gives hK rfl (hA.old 3 (by kernel_rfl))
      · intro aa ww hA K hK
        refine free rfl ?_
        have e47 : aa.tmps.getD 47 undef = .slice Al nl cl := hA.got 1 47 (by kernel_rfl)
        exact gives hK (v := .int .i64 ((nl : Int))) (by simp [Act.eval, e47, go_sem]) rfl
      · intro aa ww hA K hK
        refine free rfl ?_
        exact gives hK rfl (hA.old 4 (by kernel_rfl))
      · intro aa ww hA K hK
        refine free rfl ?_
        have e5 : aa.tmps.getD 5 undef = .pointer (some ⟨W2.heap.size, 0, none⟩) := hA.old 5 (by kernel_rfl)
        have cqHX_70 := (hA.bel.cell (p := ⟨W2.heap.size, 0, none⟩) HX_7.out.lt).trans (HX_7.out.cell (j := 0) rfl)
        have cqHX_71 := (hA.bel.cell (p := ⟨W2.heap.size, 1, none⟩) HX_7.out.lt).trans (HX_7.out.cell (j := 1) rfl)
        have cqHX_72 := (hA.bel.cell (p := ⟨W2.heap.size, 2, none⟩) HX_7.out.lt).trans (HX_7.out.cell (j := 2) rfl)
        have cqHX_73 := (hA.bel.cell (p := ⟨W2.heap.size, 3, none⟩) HX_7.out.lt).trans (HX_7.out.cell (j := 3) rfl)
        have cqHX_74 := (hA.bel.cell (p := ⟨W2.heap.size, 4, none⟩) HX_7.out.lt).trans (HX_7.out.cell (j := 4) rfl)
        have cqHX_75 := (hA.bel.cell (p := ⟨W2.heap.size, 5, none⟩) HX_7.out.lt).trans (HX_7.out.cell (j := 5) rfl)
        have cqHX_76 := (hA.bel.cell (p := ⟨W2.heap.size, 6, none⟩) HX_7.out.lt).trans (HX_7.out.cell (j := 6) rfl)
        have cqHX_77 := (hA.bel.cell (p := ⟨W2.heap.size, 7, none⟩) HX_7.out.lt).trans (HX_7.out.cell (j := 7) rfl)
        have cqHX_78 := (hA.bel.cell (p := ⟨W2.heap.size, 8, none⟩) HX_7.out.lt).trans (HX_7.out.cell (j := 8) rfl)
        have cqHX_79 := (hA.bel.cell (p := ⟨W2.heap.size, 9, none⟩) HX_7.out.lt).trans (HX_7.out.cell (j := 9) rfl)
        have cqHX_710 := (hA.bel.cell (p := ⟨W2.heap.size, 10, none⟩) HX_7.out.lt).trans (HX_7.out.cell (j := 10) rfl)
        have cqHX_711 := (hA.bel.cell (p := ⟨W2.heap.size, 11, none⟩) HX_7.out.lt).trans (HX_7.out.cell (j := 11) rfl)
        have cqHX_712 := (hA.bel.cell (p := ⟨W2.heap.size, 12, none⟩) HX_7.out.lt).trans (HX_7.out.cell (j := 12) rfl)
        exact gives hK (v := .agg #[.int .i64 k.at_, .string k.before.label, .int .i64 k.before.kind, .int .i64 k.before.value, .slice X0 xn0 xc0, .string k.after.label, .int .i64 k.after.kind, .int .i64 k.after.value, .slice X1 xn1 xc1, .int .i64 k.left.at_, .slice X2 xn2 xc2, .int .i64 k.right.at_, .slice X3 xn3 xc3]) (by simp [execOp, Act.eval, e5, cqHX_70, cqHX_71, cqHX_72, cqHX_73, cqHX_74, cqHX_75, cqHX_76, cqHX_77, cqHX_78, cqHX_79, cqHX_710, cqHX_711, cqHX_712, go_sem]) rfl
      · intro aa ww hA K hK
        refine free rfl ?_
        have e46 : aa.tmps.getD 46 undef = .int .i64 (r) := hA.got 0 46 (by kernel_rfl)
        have e48 : aa.tmps.getD 48 undef = .int .i64 ((nl : Int)) := hA.got 2 48 (by kernel_rfl)
        have e49 : aa.tmps.getD 49 undef = .string (s) := hA.got 3 49 (by kernel_rfl)
        have e50 : aa.tmps.getD 50 undef = .agg #[.int .i64 k.at_, .string k.before.label, .int .i64 k.before.kind, .int .i64 k.before.value, .slice X0 xn0 xc0, .string k.after.label, .int .i64 k.after.kind, .int .i64 k.after.value, .slice X1 xn1 xc1, .int .i64 k.left.at_, .slice X2 xn2 xc2, .int .i64 k.right.at_, .slice X3 xn3 xc3] := hA.got 4 50 (by kernel_rfl)
        refine calls hK (by simp [Act.eval, e46, e48, e49, e50, go_sem]) (HC1.out ww (upG HP_7.out (RKA.below_drew hA.bel))) ?_
        rintro e w1 ⟨rfl, hb⟩
        exact ⟨_, rfl, hb, rfl⟩
      · intro aa ww hA K hK
        refine free rfl ?_
        have e51 : aa.tmps.getD 51 undef = .bool (true) := hA.got 5 51 (by kernel_rfl)
        exact gives hK (v := .bool (!(true))) (by simp [execOp, Act.eval, e51, Op.unary, go_sem]) rfl
      · intro aa ww hA K hK
        refine free rfl ?_
        have e52 : aa.tmps.getD 52 undef = .bool (!(true)) := hA.got 6 52 (by kernel_rfl)
        exact gives hK rfl (show aa.tmps.getD 52 undef = .bool z7 from by rw [e52, Hz7.out])
      · intro aa ww hA K hK
        refine guarded (s := sv (.pointer (some ⟨W2.heap.size, 0, none⟩))) rfl rfl (hA.got 7 53 (by kernel_rfl)) hK fun hB hK => ?_
        have e5 : aa.tmps.getD 5 undef = .pointer (some ⟨W2.heap.size, 0, none⟩) := hA.old 5 (by kernel_rfl)
        exact gives hK (v := .pointer (some ⟨W2.heap.size, 0, none⟩)) (by simp [execOp, Act.eval, e5, go_sem]) rfl
      · intro aa ww hA K hK
        refine guarded (s := sv (.int .i64 (k.at_))) rfl rfl (hA.got 7 53 (by kernel_rfl)) hK fun hB hK => ?_
        have e54 : aa.tmps.getD 54 undef = .pointer (some ⟨W2.heap.size, 0, none⟩) := (hA.got 8 54 (by kernel_rfl)).1 hB
        have cqHX_70 := (hA.bel.cell (p := ⟨W2.heap.size, 0, none⟩) HX_7.out.lt).trans (HX_7.out.cell (j := 0) rfl)
        exact gives hK (v := .int .i64 k.at_) (by simp [execOp, Act.eval, e54, cqHX_70, go_sem]) rfl
      · intro aa ww hA K hK
        refine guarded (s := sv (.slice Al nl cl)) rfl rfl (hA.got 7 53 (by kernel_rfl)) hK fun hB hK => ?_
        exact gives hK rfl (hA.old 3 (by kernel_rfl))
      · intro aa ww hA K hK
        refine guarded (s := sv (.string (s))) rfl rfl (hA.got 7 53 (by kernel_rfl)) hK fun hB hK => ?_
        exact gives hK rfl (hA.old 4 (by kernel_rfl))
      · intro aa ww hA K hK
        refine guarded (s := sv (.int .i64 (k.at_))) rfl rfl (hA.got 7 53 (by kernel_rfl)) hK fun hB hK => ?_
        have e56 : aa.tmps.getD 56 undef = .slice Al nl cl := (hA.got 10 56 (by kernel_rfl)).1 hB
        have e57 : aa.tmps.getD 57 undef = .string (s) := (hA.got 11 57 (by kernel_rfl)).1 hB
        refine calls hK (by simp [Act.eval, e56, e57, go_sem]) (HRK.out ww (C11S.fup HL_7.out (RKA.below_drew hA.bel))) ?_
        rintro e w1 ⟨rfl, hb⟩
        exact ⟨_, rfl, hb, rfl⟩
      · intro aa ww hA K hK
        refine guarded (s := sv (.bool ((k.at_ : Int) != (k.at_ : Int)))) rfl rfl (hA.got 7 53 (by kernel_rfl)) hK fun hB hK => ?_
        have e55 : aa.tmps.getD 55 undef = .int .i64 (k.at_) := (hA.got 9 55 (by kernel_rfl)).1 hB
        have e58 : aa.tmps.getD 58 undef = .int .i64 (k.at_) := (hA.got 12 58 (by kernel_rfl)).1 hB
        exact gives hK (v := .bool ((k.at_ : Int) != (k.at_ : Int))) (by simp [execOp, Act.eval, e55, e58, binOp, eqGuard, go_sem]) rfl
      · intro aa ww hA K hK
        refine free rfl ?_
        have e53 : aa.tmps.getD 53 undef = .bool (z7) := hA.got 7 53 (by kernel_rfl)
        rcases hq : (z7) with _ | _
        · have ex : aa.tmps.getD 59 undef = .bool ((k.at_ : Int) != (k.at_ : Int)) := (hA.got 13 59 (by kernel_rfl)).1 (by rw [hq]; rfl)
          rw [hq] at e53
          exact gives hK (v := .bool ((k.at_ : Int) != (k.at_ : Int))) (by simp [execOp, Act.eval, e53, ex, asBool, go_sem]) (show Value.bool _ = .bool _ by rw [hq]; simp)
        · rw [hq] at e53
          exact gives hK (v := .bool true) (by simp [execOp, Act.eval, e53, asBool, go_sem]) (show Value.bool _ = .bool _ by rw [hq]; simp)
      · intro aa ww hA K hK
        refine free rfl ?_
        have e60 : aa.tmps.getD 60 undef = .bool ((z7) || ((k.at_ : Int) != (k.at_ : Int))) := hA.got 14 60 (by kernel_rfl)
        exact gives hK rfl (show aa.tmps.getD 60 undef = .bool z15 from by rw [e60, Hz15.out])
      · intro aa ww hA K hK
        refine guarded (s := sv (.int .i64 (r))) rfl rfl (hA.got 15 61 (by kernel_rfl)) hK fun hB hK => ?_
        exact gives hK rfl (hA.old 9 (by kernel_rfl))
      · intro aa ww hA K hK
        refine guarded (s := sv (.int .i64 (r + 1))) rfl rfl (hA.got 15 61 (by kernel_rfl)) hK fun hB hK => ?_
        have e62 : aa.tmps.getD 62 undef = .int .i64 (r) := (hA.got 16 62 (by kernel_rfl)).1 hB
        exact gives hK (v := .int .i64 (r + 1)) (by simp [execOp, Act.eval, e62, binOp, eqGuard, go_sem, hwr]) rfl
      · intro aa ww hA K hK
        refine guarded (s := sv (.slice Al nl cl)) rfl rfl (hA.got 15 61 (by kernel_rfl)) hK fun hB hK => ?_
        exact gives hK rfl (hA.old 3 (by kernel_rfl))
      · intro aa ww hA K hK
        refine guarded (s := sv (.int .i64 ((nl : Int)))) rfl rfl (hA.got 15 61 (by kernel_rfl)) hK fun hB hK => ?_
        have e64 : aa.tmps.getD 64 undef = .slice Al nl cl := (hA.got 18 64 (by kernel_rfl)).1 hB
        exact gives hK (v := .int .i64 ((nl : Int))) (by simp [Act.eval, e64, go_sem]) rfl
      · intro aa ww hA K hK
        refine guarded (s := sv (.string (s))) rfl rfl (hA.got 15 61 (by kernel_rfl)) hK fun hB hK => ?_
        exact gives hK rfl (hA.old 4 (by kernel_rfl))
      · intro aa ww hA K hK
        refine guarded (s := sv (.agg #[.int .i64 k.at_, .string k.before.label, .int .i64 k.before.kind, .int .i64 k.before.value, .slice X0 xn0 xc0, .string k.after.label, .int .i64 k.after.kind, .int .i64 k.after.value, .slice X1 xn1 xc1, .int .i64 k.left.at_, .slice X2 xn2 xc2, .int .i64 k.right.at_, .slice X3 xn3 xc3])) rfl rfl (hA.got 15 61 (by kernel_rfl)) hK fun hB hK => ?_
        have e5 : aa.tmps.getD 5 undef = .pointer (some ⟨W2.heap.size, 0, none⟩) := hA.old 5 (by kernel_rfl)
        have cqHX_70 := (hA.bel.cell (p := ⟨W2.heap.size, 0, none⟩) HX_7.out.lt).trans (HX_7.out.cell (j := 0) rfl)
        have cqHX_71 := (hA.bel.cell (p := ⟨W2.heap.size, 1, none⟩) HX_7.out.lt).trans (HX_7.out.cell (j := 1) rfl)
        have cqHX_72 := (hA.bel.cell (p := ⟨W2.heap.size, 2, none⟩) HX_7.out.lt).trans (HX_7.out.cell (j := 2) rfl)
        have cqHX_73 := (hA.bel.cell (p := ⟨W2.heap.size, 3, none⟩) HX_7.out.lt).trans (HX_7.out.cell (j := 3) rfl)
        have cqHX_74 := (hA.bel.cell (p := ⟨W2.heap.size, 4, none⟩) HX_7.out.lt).trans (HX_7.out.cell (j := 4) rfl)
        have cqHX_75 := (hA.bel.cell (p := ⟨W2.heap.size, 5, none⟩) HX_7.out.lt).trans (HX_7.out.cell (j := 5) rfl)
        have cqHX_76 := (hA.bel.cell (p := ⟨W2.heap.size, 6, none⟩) HX_7.out.lt).trans (HX_7.out.cell (j := 6) rfl)
        have cqHX_77 := (hA.bel.cell (p := ⟨W2.heap.size, 7, none⟩) HX_7.out.lt).trans (HX_7.out.cell (j := 7) rfl)
        have cqHX_78 := (hA.bel.cell (p := ⟨W2.heap.size, 8, none⟩) HX_7.out.lt).trans (HX_7.out.cell (j := 8) rfl)
        have cqHX_79 := (hA.bel.cell (p := ⟨W2.heap.size, 9, none⟩) HX_7.out.lt).trans (HX_7.out.cell (j := 9) rfl)
        have cqHX_710 := (hA.bel.cell (p := ⟨W2.heap.size, 10, none⟩) HX_7.out.lt).trans (HX_7.out.cell (j := 10) rfl)
        have cqHX_711 := (hA.bel.cell (p := ⟨W2.heap.size, 11, none⟩) HX_7.out.lt).trans (HX_7.out.cell (j := 11) rfl)
        have cqHX_712 := (hA.bel.cell (p := ⟨W2.heap.size, 12, none⟩) HX_7.out.lt).trans (HX_7.out.cell (j := 12) rfl)
        exact gives hK (v := .agg #[.int .i64 k.at_, .string k.before.label, .int .i64 k.before.kind, .int .i64 k.before.value, .slice X0 xn0 xc0, .string k.after.label, .int .i64 k.after.kind, .int .i64 k.after.value, .slice X1 xn1 xc1, .int .i64 k.left.at_, .slice X2 xn2 xc2, .int .i64 k.right.at_, .slice X3 xn3 xc3]) (by simp [execOp, Act.eval, e5, cqHX_70, cqHX_71, cqHX_72, cqHX_73, cqHX_74, cqHX_75, cqHX_76, cqHX_77, cqHX_78, cqHX_79, cqHX_710, cqHX_711, cqHX_712, go_sem]) rfl
      · intro aa ww hA K hK
        refine guarded (s := sv (.bool (false))) rfl rfl (hA.got 15 61 (by kernel_rfl)) hK fun hB hK => ?_
        have e63 : aa.tmps.getD 63 undef = .int .i64 (r + 1) := (hA.got 17 63 (by kernel_rfl)).1 hB
        have e65 : aa.tmps.getD 65 undef = .int .i64 ((nl : Int)) := (hA.got 19 65 (by kernel_rfl)).1 hB
        have e66 : aa.tmps.getD 66 undef = .string (s) := (hA.got 20 66 (by kernel_rfl)).1 hB
        have e67 : aa.tmps.getD 67 undef = .agg #[.int .i64 k.at_, .string k.before.label, .int .i64 k.before.kind, .int .i64 k.before.value, .slice X0 xn0 xc0, .string k.after.label, .int .i64 k.after.kind, .int .i64 k.after.value, .slice X1 xn1 xc1, .int .i64 k.left.at_, .slice X2 xn2 xc2, .int .i64 k.right.at_, .slice X3 xn3 xc3] := (hA.got 21 67 (by kernel_rfl)).1 hB
        refine calls hK (by simp [Act.eval, e63, e65, e66, e67, go_sem]) (HC2.out ww (upG HP_7.out (RKA.below_drew hA.bel))) ?_
        rintro e w1 ⟨rfl, hb⟩
        exact ⟨_, rfl, hb, rfl⟩
      · intro aa ww hA K hK
        refine free rfl ?_
        have e61 : aa.tmps.getD 61 undef = .bool (z15) := hA.got 15 61 (by kernel_rfl)
        rcases hq : (z15) with _ | _
        · have ex : aa.tmps.getD 68 undef = .bool (false) := (hA.got 22 68 (by kernel_rfl)).1 (by rw [hq]; rfl)
          rw [hq] at e61
          exact gives hK (v := .bool (false)) (by simp [execOp, Act.eval, e61, ex, asBool, go_sem]) (show Value.bool _ = .bool _ by rw [hq]; simp)
        · rw [hq] at e61
          exact gives hK (v := .bool true) (by simp [execOp, Act.eval, e61, asBool, go_sem]) (show Value.bool _ = .bool _ by rw [hq]; simp)
    · intro a1 W6 hb hd hsz hold hgot
      have g69 : a1.tmps.getD 69 undef = .bool false := (hgot 23 69 (by kernel_rfl)).trans (congrArg Value.bool (by rw [Hz15.out, Hz7.out]; simp))
      have ea := act_put hd hsz hold [46, 47, 48, 49, 50, 51, 52, 53, 54, 55, 56, 57, 58, 59, 60, 61, 62, 63, 64, 65, 66, 67, 68, 69] rfl
      simp only [List.foldl_cons, List.foldl_nil, g69] at ea
      rename_i K9 hK9
      refine hK9 a1 W6 ?_
      generalize a1.tmps.getD 46 undef = v46 at ea
      generalize a1.tmps.getD 47 undef = v47 at ea
      generalize a1.tmps.getD 48 undef = v48 at ea
      generalize a1.tmps.getD 49 undef = v49 at ea
      generalize a1.tmps.getD 50 undef = v50 at ea
      generalize a1.tmps.getD 51 undef = v51 at ea
      generalize a1.tmps.getD 52 undef = v52 at ea
      generalize a1.tmps.getD 53 undef = v53 at ea
      generalize a1.tmps.getD 54 undef = v54 at ea
      generalize a1.tmps.getD 55 undef = v55 at ea
      generalize a1.tmps.getD 56 undef = v56 at ea
      generalize a1.tmps.getD 57 undef = v57 at ea
      generalize a1.tmps.getD 58 undef = v58 at ea
      generalize a1.tmps.getD 59 undef = v59 at ea
      generalize a1.tmps.getD 60 undef = v60 at ea
      generalize a1.tmps.getD 61 undef = v61 at ea
      generalize a1.tmps.getD 62 undef = v62 at ea
      generalize a1.tmps.getD 63 undef = v63 at ea
      generalize a1.tmps.getD 64 undef = v64 at ea
      generalize a1.tmps.getD 65 undef = v65 at ea
      generalize a1.tmps.getD 66 undef = v66 at ea
      generalize a1.tmps.getD 67 undef = v67 at ea
      generalize a1.tmps.getD 68 undef = v68 at ea
      clear hgot hold hsz hd g69
      simp only [Act.put, List.setIfInBounds_toArray, List.set_cons_succ, List.set_cons_zero] at ea
      subst ea
      have hb9 := RKA.below_drew hb
      have HL_8 := Lib.hid (C11S.fup HL_7.out hb9)
      have HB_8 := Lib.hid (HB_7.out.trans (hb9.mono HB_7.out.size))
      have HP_8 := Lib.hid (upG HP_7.out hb9)
      have HX_8 := Lib.hid (HX_7.out.below hb9 HX_7.out.lt)
      clear hb hb9
      go_wp2
      go_loopw [10] (fun i wr => ∃ j : Nat, j ≤ nl ∧ i = .int .i64 j ∧ Below W6.heap.size W6 wr) (fun i _ => nl - (intOf i).toNat)
      case atStart => exact ⟨0, by omega, rfl, Below.refl _ _⟩
      case round =>
        obtain ⟨j, hj, rfl, hbel⟩ := hrel
        have HBL := Lib.hid hbel
        have HL_9 := Lib.hid (C11S.fup HL_8.out hbel)
        have HB_9 := Lib.hid (HB_8.out.trans (hbel.mono HB_8.out.size))
        have HP_9 := Lib.hid (upG HP_8.out hbel)
        have HX_9 := Lib.hid (HX_8.out.below hbel HX_8.out.lt)
        clear hbel
        by_cases hjn : j < nl
        · skip
          obtain ⟨b, off, cs, rfl, hlt, hrd, hcc⟩ := HL_9.out.at hjn
          have hzl := HLB.out j hjn
          have hck := HC3.out j (by omega)
          have hrd2 : REntry.rd wr (Lt wr.heap.size) cs (at0 l j) := hrd
          generalize at0 l j = z at hzl hck hrd2
          obtain ⟨A5, n5, c5, rfl⟩ := REntry_shape hrd2
          have HD := Lib.hid (show wr.cell? ⟨b, off + j * 4, none⟩ = some (.string z.label) ∧ b < wr.heap.size from ⟨hcc 0 (by decide), hlt⟩)
          have HCZ := Lib.hid (fun w1 h => iCheckAbsence_any r nl z.label [.int .i64 k.at_, .string k.before.label, .int .i64 k.before.kind, .int .i64 k.before.value, .slice X0 xn0 xc0, .string k.after.label, .int .i64 k.after.kind, .int .i64 k.after.value, .slice X1 xn1 xc1, .int .i64 k.left.at_, .slice X2 xn2 xc2, .int .i64 k.right.at_, .slice X3 xn3 xc3] k w1 (inI64 (by omega) (by omega)) (inI64 (by omega) (by omega)) (by omega) h htk)
          rw [hck] at HCZ
          have hj2 : (j : Int) < nl := by omega
          clear hcc hrd hrd2 hck hlt
          go_wp2
          refine RG.region (tabP [sv (.int .i64 (r)), sv (.slice (some ⟨b, off, none⟩) nl cl), sv (.int .i64 ((nl : Int))), sv (.slice (some ⟨b, off, none⟩) nl cl), sv (.int .i64 ((j : Int))), sv (.pointer (some ⟨b, off + j * 4, none⟩)), sv (.pointer (some ⟨b, off + j * 4, none⟩)), sv (.string (z.label)), sv (.agg #[.int .i64 k.at_, .string k.before.label, .int .i64 k.before.kind, .int .i64 k.before.value, .slice X0 xn0 xc0, .string k.after.label, .int .i64 k.after.kind, .int .i64 k.after.value, .slice X1 xn1 xc1, .int .i64 k.left.at_, .slice X2 xn2 xc2, .int .i64 k.right.at_, .slice X3 xn3 xc3]), sv (.bool (false))]) (by kernel_rfl) (by kernel_rfl) (tab_keep _) ?_ ?_
          · refine steps_cons ?_ (steps_cons ?_ (steps_cons ?_ (steps_cons ?_ (steps_cons ?_ (steps_cons ?_ (steps_cons ?_ (steps_cons ?_ (steps_cons ?_ (steps_cons ?_ (steps_nil))))))))))
            · intro aa ww hA K hK
              refine free rfl ?_
              exact gives hK rfl (hA.old 9 (by kernel_rfl))
            · intro aa ww hA K hK
              refine free rfl ?_
              exact gives hK rfl (hA.old 3 (by kernel_rfl))
            · intro aa ww hA K hK
              refine free rfl ?_
              have e77 : aa.tmps.getD 77 undef = .slice (some ⟨b, off, none⟩) nl cl := hA.got 1 77 (by kernel_rfl)
              exact gives hK (v := .int .i64 ((nl : Int))) (by simp [Act.eval, e77, go_sem]) rfl
            · intro aa ww hA K hK
              refine free rfl ?_
              exact gives hK rfl (hA.old 3 (by kernel_rfl))
            · intro aa ww hA K hK
              refine free rfl ?_
              exact gives hK rfl (hA.old 10 (by kernel_rfl))
            · intro aa ww hA K hK
              refine free rfl ?_
              have e79 : aa.tmps.getD 79 undef = .slice (some ⟨b, off, none⟩) nl cl := hA.got 3 79 (by kernel_rfl)
              have e80 : aa.tmps.getD 80 undef = .int .i64 ((j : Int)) := hA.got 4 80 (by kernel_rfl)
              exact gives hK (v := .pointer (some ⟨b, off + j * 4, none⟩)) (by simp [execOp, Act.eval, e79, e80, go_sem, hj2]) rfl
            · intro aa ww hA K hK
              refine free rfl ?_
              have e81 : aa.tmps.getD 81 undef = .pointer (some ⟨b, off + j * 4, none⟩) := hA.got 5 81 (by kernel_rfl)
              exact gives hK (v := .pointer (some ⟨b, off + j * 4, none⟩)) (by simp [execOp, Act.eval, e81, go_sem]) rfl
            · intro aa ww hA K hK
              refine free rfl ?_
              have e82 : aa.tmps.getD 82 undef = .pointer (some ⟨b, off + j * 4, none⟩) := hA.got 6 82 (by kernel_rfl)
              have cd := (hA.bel.cell (p := ⟨b, off + j * 4, none⟩) HD.out.2).trans HD.out.1
              exact gives hK (v := .string z.label) (by simp [execOp, Act.eval, e82, cd, go_sem]) rfl
            · intro aa ww hA K hK
              refine free rfl ?_
              have e5 : aa.tmps.getD 5 undef = .pointer (some ⟨W2.heap.size, 0, none⟩) := hA.old 5 (by kernel_rfl)
              have cqHX_90 := (hA.bel.cell (p := ⟨W2.heap.size, 0, none⟩) HX_9.out.lt).trans (HX_9.out.cell (j := 0) rfl)
              have cqHX_91 := (hA.bel.cell (p := ⟨W2.heap.size, 1, none⟩) HX_9.out.lt).trans (HX_9.out.cell (j := 1) rfl)
              have cqHX_92 := (hA.bel.cell (p := ⟨W2.heap.size, 2, none⟩) HX_9.out.lt).trans (HX_9.out.cell (j := 2) rfl)
              have cqHX_93 := (hA.bel.cell (p := ⟨W2.heap.size, 3, none⟩) HX_9.out.lt).trans (HX_9.out.cell (j := 3) rfl)
              have cqHX_94 := (hA.bel.cell (p := ⟨W2.heap.size, 4, none⟩) HX_9.out.lt).trans (HX_9.out.cell (j := 4) rfl)
              have cqHX_95 := (hA.bel.cell (p := ⟨W2.heap.size, 5, none⟩) HX_9.out.lt).trans (HX_9.out.cell (j := 5) rfl)
              have cqHX_96 := (hA.bel.cell (p := ⟨W2.heap.size, 6, none⟩) HX_9.out.lt).trans (HX_9.out.cell (j := 6) rfl)
              have cqHX_97 := (hA.bel.cell (p := ⟨W2.heap.size, 7, none⟩) HX_9.out.lt).trans (HX_9.out.cell (j := 7) rfl)
              have cqHX_98 := (hA.bel.cell (p := ⟨W2.heap.size, 8, none⟩) HX_9.out.lt).trans (HX_9.out.cell (j := 8) rfl)
              have cqHX_99 := (hA.bel.cell (p := ⟨W2.heap.size, 9, none⟩) HX_9.out.lt).trans (HX_9.out.cell (j := 9) rfl)
              have cqHX_910 := (hA.bel.cell (p := ⟨W2.heap.size, 10, none⟩) HX_9.out.lt).trans (HX_9.out.cell (j := 10) rfl)
              have cqHX_911 := (hA.bel.cell (p := ⟨W2.heap.size, 11, none⟩) HX_9.out.lt).trans (HX_9.out.cell (j := 11) rfl)
              have cqHX_912 := (hA.bel.cell (p := ⟨W2.heap.size, 12, none⟩) HX_9.out.lt).trans (HX_9.out.cell (j := 12) rfl)
              exact gives hK (v := .agg #[.int .i64 k.at_, .string k.before.label, .int .i64 k.before.kind, .int .i64 k.before.value, .slice X0 xn0 xc0, .string k.after.label, .int .i64 k.after.kind, .int .i64 k.after.value, .slice X1 xn1 xc1, .int .i64 k.left.at_, .slice X2 xn2 xc2, .int .i64 k.right.at_, .slice X3 xn3 xc3]) (by simp [execOp, Act.eval, e5, cqHX_90, cqHX_91, cqHX_92, cqHX_93, cqHX_94, cqHX_95, cqHX_96, cqHX_97, cqHX_98, cqHX_99, cqHX_910, cqHX_911, cqHX_912, go_sem]) rfl
            · intro aa ww hA K hK
              refine free rfl ?_
              have e76 : aa.tmps.getD 76 undef = .int .i64 (r) := hA.got 0 76 (by kernel_rfl)
              have e78 : aa.tmps.getD 78 undef = .int .i64 ((nl : Int)) := hA.got 2 78 (by kernel_rfl)
              have e83 : aa.tmps.getD 83 undef = .string (z.label) := hA.got 7 83 (by kernel_rfl)
              have e84 : aa.tmps.getD 84 undef = .agg #[.int .i64 k.at_, .string k.before.label, .int .i64 k.before.kind, .int .i64 k.before.value, .slice X0 xn0 xc0, .string k.after.label, .int .i64 k.after.kind, .int .i64 k.after.value, .slice X1 xn1 xc1, .int .i64 k.left.at_, .slice X2 xn2 xc2, .int .i64 k.right.at_, .slice X3 xn3 xc3] := hA.got 8 84 (by kernel_rfl)
              refine calls hK (by simp [Act.eval, e76, e78, e83, e84, go_sem]) (HCZ.out ww (upG HP_9.out (RKA.below_drew hA.bel))) ?_
              rintro e w1 ⟨rfl, hb⟩
              exact ⟨_, rfl, hb, rfl⟩
          · intro a1 W7 hb hd hsz hold hgot
            have g85 : a1.tmps.getD 85 undef = .bool (false) := hgot 9 85 (by kernel_rfl)
            have ea := act_put hd hsz hold [76, 77, 78, 79, 80, 81, 82, 83, 84, 85] rfl
            simp only [List.foldl_cons, List.foldl_nil, g85] at ea
            rename_i K9 hK9
            refine hK9 a1 W7 ?_
            generalize a1.tmps.getD 76 undef = v76 at ea
            generalize a1.tmps.getD 77 undef = v77 at ea
            generalize a1.tmps.getD 78 undef = v78 at ea
            generalize a1.tmps.getD 79 undef = v79 at ea
            generalize a1.tmps.getD 80 undef = v80 at ea
            generalize a1.tmps.getD 81 undef = v81 at ea
            generalize a1.tmps.getD 82 undef = v82 at ea
            generalize a1.tmps.getD 83 undef = v83 at ea
            generalize a1.tmps.getD 84 undef = v84 at ea
            clear hgot hold hsz hd g85
            simp only [Act.put, List.setIfInBounds_toArray, List.set_cons_succ, List.set_cons_zero] at ea
            subst ea
            have HB7 := Lib.hid (HBL.out.trans ((RKA.below_drew hb).mono HBL.out.size))
            clear hb
            go_wp2
            go_roundw
            case rel => exact ⟨j + 1, by omega, by go_num, HB7.out⟩
            case measure => simp [intOf]; omega
        · skip
          have zX0 := HX_9.out.cell (j := 0) rfl
          have zX1 := HX_9.out.cell (j := 1) rfl
          have zX2 := HX_9.out.cell (j := 2) rfl
          have zX3 := HX_9.out.cell (j := 3) rfl
          have zX4 := HX_9.out.cell (j := 4) rfl
          have zX5 := HX_9.out.cell (j := 5) rfl
          have zX6 := HX_9.out.cell (j := 6) rfl
          have zX7 := HX_9.out.cell (j := 7) rfl
          have zX8 := HX_9.out.cell (j := 8) rfl
          have zX9 := HX_9.out.cell (j := 9) rfl
          have zX10 := HX_9.out.cell (j := 10) rfl
          have zX11 := HX_9.out.cell (j := 11) rfl
          have zX12 := HX_9.out.cell (j := 12) rfl
          go_wp2_with fail
          clear zX0 zX1 zX2 zX3 zX4 zX5 zX6 zX7 zX8 zX9 zX10 zX11 zX12
          refine (drawCheckAbsence_any wr A n c hn ((HR.out.below HB_9.out).more HB_9.out.size)).mono ?_
          rintro e Y1 ⟨r1, m1, s1, cs9, x, rfl, hr1, hm1, hs1, hk9, htx, hb⟩
          obtain ⟨Z0, zn0, zc0, Z1, zn1, zc1, Z2, zn2, zc2, Z3, zn3, zc3, rfl⟩ := RGap_shape hk9
          have HB_10 := Lib.hid (HB_9.out.trans (hb.mono HB_9.out.size))
          have HE_10 := Lib.hid hk9
          have HIC := Lib.hid (fun w1 h => iCheckAbsence_any r1 m1 s1 [.int .i64 x.at_, .string x.before.label, .int .i64 x.before.kind, .int .i64 x.before.value, .slice Z0 zn0 zc0, .string x.after.label, .int .i64 x.after.kind, .int .i64 x.after.value, .slice Z1 zn1 zc1, .int .i64 x.left.at_, .slice Z2 zn2 zc2, .int .i64 x.right.at_, .slice Z3 zn3 zc3] x w1 (inI64 (by omega) (by omega)) (inI64 (by omega) (by omega)) (by omega) h htx)
          have HSC := Lib.hid (fun w1 h => sCheckAbsence_any r1 m1 s1 [.int .i64 x.at_, .string x.before.label, .int .i64 x.before.kind, .int .i64 x.before.value, .slice Z0 zn0 zc0, .string x.after.label, .int .i64 x.after.kind, .int .i64 x.after.value, .slice Z1 zn1 zc1, .int .i64 x.left.at_, .slice Z2 zn2 zc2, .int .i64 x.right.at_, .slice Z3 zn3 zc3] x w1 (inI64 (by omega) (by omega)) (inI64 (by omega) (by omega)) (by omega) h htx)
          generalize checkG r1 m1 s1 x = b1 at HIC HSC
          obtain ⟨b2, hb2⟩ : ∃ b2, b1 = b2 := ⟨_, rfl⟩
          rw [hb2] at HSC
          have HBB := Lib.hid hb2
          clear hb2
          clear hk9 hb htx
          have hal : Below Y1.heap.size Y1 (Y1.alloc (.cells #[.int .i64 x.at_, .string x.before.label, .int .i64 x.before.kind, .int .i64 x.before.value, .slice Z0 zn0 zc0, .string x.after.label, .int .i64 x.after.kind, .int .i64 x.after.value, .slice Z1 zn1 zc1, .int .i64 x.left.at_, .slice Z2 zn2 zc2, .int .i64 x.right.at_, .slice Z3 zn3 zc3] 34)) := (Below.refl _ _).alloc (Nat.le_refl _) _
          have HB_11 := Lib.hid (HB_10.out.trans (hal.mono HB_10.out.size))
          have HE_11 := Lib.hid (upG HE_10.out hal)
          have HX_11 := Lib.hid (Box.new Y1 #[.int .i64 x.at_, .string x.before.label, .int .i64 x.before.kind, .int .i64 x.before.value, .slice Z0 zn0 zc0, .string x.after.label, .int .i64 x.after.kind, .int .i64 x.after.value, .slice Z1 zn1 zc1, .int .i64 x.left.at_, .slice Z2 zn2 zc2, .int .i64 x.right.at_, .slice Z3 zn3 zc3] 34)
          obtain ⟨Y2, hW⟩ : ∃ V, Y1.alloc (.cells #[.int .i64 x.at_, .string x.before.label, .int .i64 x.before.kind, .int .i64 x.before.value, .slice Z0 zn0 zc0, .string x.after.label, .int .i64 x.after.kind, .int .i64 x.after.value, .slice Z1 zn1 zc1, .int .i64 x.left.at_, .slice Z2 zn2 zc2, .int .i64 x.right.at_, .slice Z3 zn3 zc3] 34) = V := ⟨_, rfl⟩
          rw [hW] at HB_11 HE_11 HX_11
          have HWY2 := Lib.hid hW
          clear hW hal
          go_wp2_with fail
          rw [HWY2.out]
          refine RG.region (tabP [sv (.int .i64 (r1)), sv (.int .i64 (m1)), sv (.string (s1)), sv (.agg #[.int .i64 x.at_, .string x.before.label, .int .i64 x.before.kind, .int .i64 x.before.value, .slice Z0 zn0 zc0, .string x.after.label, .int .i64 x.after.kind, .int .i64 x.after.value, .slice Z1 zn1 zc1, .int .i64 x.left.at_, .slice Z2 zn2 zc2, .int .i64 x.right.at_, .slice Z3 zn3 zc3]), sv (.bool (b1)), sv (.int .i64 (r1)), sv (.int .i64 (m1)), sv (.string (s1)), sv (.agg #[.int .i64 x.at_, .string x.before.label, .int .i64 x.before.kind, .int .i64 x.before.value, .slice Z0 zn0 zc0, .string x.after.label, .int .i64 x.after.kind, .int .i64 x.after.value, .slice Z1 zn1 zc1, .int .i64 x.left.at_, .slice Z2 zn2 zc2, .int .i64 x.right.at_, .slice Z3 zn3 zc3]), sv (.bool (b2)), sv (.bool ((b1) == (b2))), sv (.bool ((b1) == (b2)))]) (by kernel_rfl) (by kernel_rfl) (tab_keep _) ?_ ?_
          · refine steps_cons ?_ (steps_cons ?_ (steps_cons ?_ (steps_cons ?_ (steps_cons ?_ (steps_cons ?_ (steps_cons ?_ (steps_cons ?_ (steps_cons ?_ (steps_cons ?_ (steps_cons ?_ (steps_cons ?_ (steps_nil))))))))))))
            · intro aa ww hA K hK
              refine free rfl ?_
              exact gives hK rfl (hA.old 11 (by kernel_rfl))
            · intro aa ww hA K hK
              refine free rfl ?_
              exact gives hK rfl (hA.old 12 (by kernel_rfl))
            · intro aa ww hA K hK
              refine free rfl ?_
              exact gives hK rfl (hA.old 13 (by kernel_rfl))
            · intro aa ww hA K hK
              refine free rfl ?_
              have e14 : aa.tmps.getD 14 undef = .pointer (some ⟨Y1.heap.size, 0, none⟩) := hA.old 14 (by kernel_rfl)
              have cqHX_110 := (hA.bel.cell (p := ⟨Y1.heap.size, 0, none⟩) HX_11.out.lt).trans (HX_11.out.cell (j := 0) rfl)
              have cqHX_111 := (hA.bel.cell (p := ⟨Y1.heap.size, 1, none⟩) HX_11.out.lt).trans (HX_11.out.cell (j := 1) rfl)
              have cqHX_112 := (hA.bel.cell (p := ⟨Y1.heap.size, 2, none⟩) HX_11.out.lt).trans (HX_11.out.cell (j := 2) rfl)
              have cqHX_113 := (hA.bel.cell (p := ⟨Y1.heap.size, 3, none⟩) HX_11.out.lt).trans (HX_11.out.cell (j := 3) rfl)
              have cqHX_114 := (hA.bel.cell (p := ⟨Y1.heap.size, 4, none⟩) HX_11.out.lt).trans (HX_11.out.cell (j := 4) rfl)
              have cqHX_115 := (hA.bel.cell (p := ⟨Y1.heap.size, 5, none⟩) HX_11.out.lt).trans (HX_11.out.cell (j := 5) rfl)
              have cqHX_116 := (hA.bel.cell (p := ⟨Y1.heap.size, 6, none⟩) HX_11.out.lt).trans (HX_11.out.cell (j := 6) rfl)
              have cqHX_117 := (hA.bel.cell (p := ⟨Y1.heap.size, 7, none⟩) HX_11.out.lt).trans (HX_11.out.cell (j := 7) rfl)
              have cqHX_118 := (hA.bel.cell (p := ⟨Y1.heap.size, 8, none⟩) HX_11.out.lt).trans (HX_11.out.cell (j := 8) rfl)
              have cqHX_119 := (hA.bel.cell (p := ⟨Y1.heap.size, 9, none⟩) HX_11.out.lt).trans (HX_11.out.cell (j := 9) rfl)
              have cqHX_1110 := (hA.bel.cell (p := ⟨Y1.heap.size, 10, none⟩) HX_11.out.lt).trans (HX_11.out.cell (j := 10) rfl)
              have cqHX_1111 := (hA.bel.cell (p := ⟨Y1.heap.size, 11, none⟩) HX_11.out.lt).trans (HX_11.out.cell (j := 11) rfl)
              have cqHX_1112 := (hA.bel.cell (p := ⟨Y1.heap.size, 12, none⟩) HX_11.out.lt).trans (HX_11.out.cell (j := 12) rfl)
              exact gives hK (v := .agg #[.int .i64 x.at_, .string x.before.label, .int .i64 x.before.kind, .int .i64 x.before.value, .slice Z0 zn0 zc0, .string x.after.label, .int .i64 x.after.kind, .int .i64 x.after.value, .slice Z1 zn1 zc1, .int .i64 x.left.at_, .slice Z2 zn2 zc2, .int .i64 x.right.at_, .slice Z3 zn3 zc3]) (by simp [execOp, Act.eval, e14, cqHX_110, cqHX_111, cqHX_112, cqHX_113, cqHX_114, cqHX_115, cqHX_116, cqHX_117, cqHX_118, cqHX_119, cqHX_1110, cqHX_1111, cqHX_1112, go_sem]) rfl
            · intro aa ww hA K hK
              refine free rfl ?_
              have e93 : aa.tmps.getD 93 undef = .int .i64 (r1) := hA.got 0 93 (by kernel_rfl)
              have e94 : aa.tmps.getD 94 undef = .int .i64 (m1) := hA.got 1 94 (by kernel_rfl)
              have e95 : aa.tmps.getD 95 undef = .string (s1) := hA.got 2 95 (by kernel_rfl)
              have e96 : aa.tmps.getD 96 undef = .agg #[.int .i64 x.at_, .string x.before.label, .int .i64 x.before.kind, .int .i64 x.before.value, .slice Z0 zn0 zc0, .string x.after.label, .int .i64 x.after.kind, .int .i64 x.after.value, .slice Z1 zn1 zc1, .int .i64 x.left.at_, .slice Z2 zn2 zc2, .int .i64 x.right.at_, .slice Z3 zn3 zc3] := hA.got 3 96 (by kernel_rfl)
              refine calls hK (by simp [Act.eval, e93, e94, e95, e96, go_sem]) (HIC.out ww (upG HE_11.out (RKA.below_drew hA.bel))) ?_
              rintro e w1 ⟨rfl, hb⟩
              exact ⟨_, rfl, hb, rfl⟩
            · intro aa ww hA K hK
              refine free rfl ?_
              exact gives hK rfl (hA.old 11 (by kernel_rfl))
            · intro aa ww hA K hK
              refine free rfl ?_
              exact gives hK rfl (hA.old 12 (by kernel_rfl))
            · intro aa ww hA K hK
              refine free rfl ?_
              exact gives hK rfl (hA.old 13 (by kernel_rfl))
            · intro aa ww hA K hK
              refine free rfl ?_
              have e14 : aa.tmps.getD 14 undef = .pointer (some ⟨Y1.heap.size, 0, none⟩) := hA.old 14 (by kernel_rfl)
              have cqHX_110 := (hA.bel.cell (p := ⟨Y1.heap.size, 0, none⟩) HX_11.out.lt).trans (HX_11.out.cell (j := 0) rfl)
              have cqHX_111 := (hA.bel.cell (p := ⟨Y1.heap.size, 1, none⟩) HX_11.out.lt).trans (HX_11.out.cell (j := 1) rfl)
              have cqHX_112 := (hA.bel.cell (p := ⟨Y1.heap.size, 2, none⟩) HX_11.out.lt).trans (HX_11.out.cell (j := 2) rfl)
              have cqHX_113 := (hA.bel.cell (p := ⟨Y1.heap.size, 3, none⟩) HX_11.out.lt).trans (HX_11.out.cell (j := 3) rfl)
              have cqHX_114 := (hA.bel.cell (p := ⟨Y1.heap.size, 4, none⟩) HX_11.out.lt).trans (HX_11.out.cell (j := 4) rfl)
              have cqHX_115 := (hA.bel.cell (p := ⟨Y1.heap.size, 5, none⟩) HX_11.out.lt).trans (HX_11.out.cell (j := 5) rfl)
              have cqHX_116 := (hA.bel.cell (p := ⟨Y1.heap.size, 6, none⟩) HX_11.out.lt).trans (HX_11.out.cell (j := 6) rfl)
              have cqHX_117 := (hA.bel.cell (p := ⟨Y1.heap.size, 7, none⟩) HX_11.out.lt).trans (HX_11.out.cell (j := 7) rfl)
              have cqHX_118 := (hA.bel.cell (p := ⟨Y1.heap.size, 8, none⟩) HX_11.out.lt).trans (HX_11.out.cell (j := 8) rfl)
              have cqHX_119 := (hA.bel.cell (p := ⟨Y1.heap.size, 9, none⟩) HX_11.out.lt).trans (HX_11.out.cell (j := 9) rfl)
              have cqHX_1110 := (hA.bel.cell (p := ⟨Y1.heap.size, 10, none⟩) HX_11.out.lt).trans (HX_11.out.cell (j := 10) rfl)
              have cqHX_1111 := (hA.bel.cell (p := ⟨Y1.heap.size, 11, none⟩) HX_11.out.lt).trans (HX_11.out.cell (j := 11) rfl)
              have cqHX_1112 := (hA.bel.cell (p := ⟨Y1.heap.size, 12, none⟩) HX_11.out.lt).trans (HX_11.out.cell (j := 12) rfl)
              exact gives hK (v := .agg #[.int .i64 x.at_, .string x.before.label, .int .i64 x.before.kind, .int .i64 x.before.value, .slice Z0 zn0 zc0, .string x.after.label, .int .i64 x.after.kind, .int .i64 x.after.value, .slice Z1 zn1 zc1, .int .i64 x.left.at_, .slice Z2 zn2 zc2, .int .i64 x.right.at_, .slice Z3 zn3 zc3]) (by simp [execOp, Act.eval, e14, cqHX_110, cqHX_111, cqHX_112, cqHX_113, cqHX_114, cqHX_115, cqHX_116, cqHX_117, cqHX_118, cqHX_119, cqHX_1110, cqHX_1111, cqHX_1112, go_sem]) rfl
            · intro aa ww hA K hK
              refine free rfl ?_
              have e98 : aa.tmps.getD 98 undef = .int .i64 (r1) := hA.got 5 98 (by kernel_rfl)
              have e99 : aa.tmps.getD 99 undef = .int .i64 (m1) := hA.got 6 99 (by kernel_rfl)
              have e100 : aa.tmps.getD 100 undef = .string (s1) := hA.got 7 100 (by kernel_rfl)
              have e101 : aa.tmps.getD 101 undef = .agg #[.int .i64 x.at_, .string x.before.label, .int .i64 x.before.kind, .int .i64 x.before.value, .slice Z0 zn0 zc0, .string x.after.label, .int .i64 x.after.kind, .int .i64 x.after.value, .slice Z1 zn1 zc1, .int .i64 x.left.at_, .slice Z2 zn2 zc2, .int .i64 x.right.at_, .slice Z3 zn3 zc3] := hA.got 8 101 (by kernel_rfl)
              refine calls hK (by simp [Act.eval, e98, e99, e100, e101, go_sem]) (HSC.out ww (upG HE_11.out (RKA.below_drew hA.bel))) ?_
              rintro e w1 ⟨rfl, hb⟩
              exact ⟨_, rfl, hb, rfl⟩
            · intro aa ww hA K hK
              refine free rfl ?_
              have e97 : aa.tmps.getD 97 undef = .bool (b1) := hA.got 4 97 (by kernel_rfl)
              have e102 : aa.tmps.getD 102 undef = .bool (b2) := hA.got 9 102 (by kernel_rfl)
              exact gives hK (v := .bool ((b1) == (b2))) (by simp [execOp, Act.eval, e97, e102, binOp, eqGuard, eq_bool, go_sem]) rfl
            · intro aa ww hA K hK
              refine free rfl ?_
              exact gives hK rfl (hA.got 10 103 (by kernel_rfl))
          · intro a1 w1 hb hd hsz hold hgot
            have e2 : a1.tmps.getD 2 undef = .bool ((b1) == (b2)) := hgot 11 2 (by kernel_rfl)
            rename_i K9 hK9
            refine hK9 a1 w1 (wp_ret ?_)
            exact bodyPost_ret (v := .bool ((b1) == (b2))) (by simp [results, Tryz.results3, go_sem]; rw [← Array.getD_eq_getD_getElem?]; exact e2) (hd.trans rfl) ⟨by rw [HBB.out]; simp, HB_11.out.trans ((RKA.below_drew hb).mono HB_11.out.size)⟩
end Go.Proofs.YtbhhifoofapgiaaGreat.W12F
