/- The walk of the statement 'FnPresence': the law returns true, and writes into nothing that was there. -/
import Derived.Test.YtomajneofdmnaaaGreatC11S
import Derived.Test.YtomajneofdmnaaaGreatC11I
import Derived.Test.YtomajneofdmnaaaGreatC08I
import Derived.Test.YtomajneofdmnaaaGreatC10I
import Derived.Test.YtomajneofdmnaaaGreatD11B
import Derived.Test.YtomajneofdmnaaaGreatM11Q
import Derived.Test.YtomajneofdmnaaaGreatD02
import Derived.Deep.RegionHeld3
namespace Go.Proofs.YtomajneofdmnaaaGreat.W11F
set_option linter.unusedVariables false
set_option maxRecDepth 100000
open Go.RowKit Mem MemS M02 M05 M08 M09 M10 M10F M11 C01 C02 Rep RW R08 R11 Q08 C08I C08S C09S C09SP C10S C10I C11S C11I D01 D08 D09 D10 D11 D11B M11Q SL TB RKA
theorem upE {w w' : World} {cs : List Value} {k : Entry} (h : REntry.rd w (Lt w.heap.size) cs k) (hb : Below w.heap.size w w') : REntry.rd w' (Lt w'.heap.size) cs k := REntry.more (REntry.keep h fun i hi => hb.block i hi) fun i hi => Nat.lt_of_lt_of_le hi hb.size
theorem upP {w w' : World} {cs : List Value} {k : Proof} (h : RProof.rd w (Lt w.heap.size) cs k) (hb : Below w.heap.size w w') : RProof.rd w' (Lt w'.heap.size) cs k := RProof.more (RProof.keep h fun i hi => hb.block i hi) fun i hi => Nat.lt_of_lt_of_le hi hb.size
theorem val_in {k : Entry} (h : isEntry k = true) : 0 ≤ k.value ∧ k.value ≤ 2147483646 := by
  unfold isEntry at h
  split at h
  · simp only [Bool.and_eq_true] at h
    have := inR_is h.1.2
    omega
  · split at h
    · simp only [Bool.and_eq_true] at h
      exact inR_is h.1.2
    · split at h
      · simp only [Bool.and_eq_true] at h
        exact inR_is h.1.2
      · exact absurd h (by decide)
theorem eqP_self (p : Proof) : eqP p p = true := by unfold eqP; simp
set_option maxHeartbeats 8000000 in
theorem FnPresence_walk (W0 : World) (A : Option Addr) (n c : Nat) (hn : n ≤ maxLen) (hr : BRow W0 W0.heap.size A n) :
    Calls Tryz.prog 3 #[.slice A n c] W0 fun e w' => e = .returned (.bool true) ∧ Below W0.heap.size W0 w' := by
  by_cases hbig : 1048576 < n
  · go_enter Tryz.func3, Tryz.ntmps3
    go_wp2_with fail
    refine (big_yes _ _ _ _ hbig).mono ?_
    rintro e w1 ⟨rfl, rfl⟩
    go_wp2
    go_ret
    exact ⟨rfl, Below.refl _ _⟩
  have HR := Lib.hid hr
  clear hr
  go_enter Tryz.func3, Tryz.ntmps3
  go_wp2_with fail
  refine (big_no _ _ _ _ (by omega)).mono ?_
  rintro e w1 ⟨rfl, rfl⟩
  go_wp2_with fail
  refine (drawProveEntry_any W0 A n c hn HR.out).mono ?_
  rintro e W1 ⟨Al, nl, cl, l, s, rfl, hsl, hs, hown, hb⟩
  have HL_1 := Lib.hid hown.rd
  have HB_1 := Lib.hid hb
  have hll := hown.len
  have htl : totR totEntry l ≤ 1048576 := by have := smL_fine hsl.1; omega
  have hnl : nl ≤ 18 := by have := hsl.1.1; omega
  have hss : InS s := by unfold InS maxLen; omega
  have HIP := Lib.hid (fun w1 h => iProveEntry_any Al nl cl l s w1 h htl)
  have HSP := Lib.hid (fun w1 h => sProveEntry_any Al nl cl l s w1 h htl)
  have HAE := Lib.hid (fun w1 h => sAreEntries_any Al nl cl l w1 h (by omega))
  have HFE := Lib.hid (fun w1 h => sFindEntry_any Al nl cl l s w1 h (by omega))
  have HRO := Lib.hid (fun w1 h => iRootOf_any Al nl cl l w1 h htl)
  have HPP := Lib.hid (fun (ho : (proveE l s).2 = true) (ha : areE l = true) => show ∃ j : Nat, fndE l s = j ∧ j < nl ∧ isEntry (at0 l j) = true ∧ SmE (at0 l j) ∧ checkE (rootOf l) nl (at0 l j) (proveE l s).1 = true ∧ checkE (rootOf l) nl ⟨s, 1, (at0 l j).value % 999999 + 1, []⟩ (proveE l s).1 = false ∧ checkE (rootOf l) (nl + 1) (at0 l j) (proveE l s).1 = false ∧ checkE (rootOf l + 1) nl (at0 l j) (proveE l s).1 = false ∧ (proveE l s).1.path.length ≤ 4 from by
    by_cases hf : fndE l s < 0
    · rw [proveE_no hf] at ho
      exact absurd ho (by decide)
    · rw [proveE_yes hf]
      obtain ⟨j, hj⟩ := Int.eq_ofNat_of_zero_le (show 0 ≤ fndE l s by omega)
      have hp := presence ha hsl.2 hj
      rw [hll] at hp
      rw [hj]
      exact ⟨j, rfl, hp.1, hp.2.1, hsl.1.2 _ (by unfold at0; rw [List.getD, List.getElem?_eq_getElem (show j < l.length by omega), Option.getD_some]; exact List.getElem_mem _), hp.2.2⟩)
  have HPL := Lib.hid (show (proveE l s).1.path.length ≤ 18 from by
    unfold proveE
    split
    · simp
    · have := pathFor_len (leavesE l) (fndE l s)
      rw [leavesE_len] at this
      simp only
      omega)
  generalize proveE l s = pr at HIP HSP HPP HPL
  obtain ⟨⟨pa, pp⟩, ok⟩ := pr
  have hro : 0 ≤ rootOf l ∧ rootOf l < 2147483647 := rootOf_in l
  generalize rootOf l = r at HRO HPP hro
  have hpt : totProof ⟨pa, pp⟩ ≤ 1048576 := by have := HPL.out; unfold totProof; simp only at this ⊢; omega
  simp only at HIP HSP HPP HPL
  clear hown hb hsl
  rcases ok with _ | _
  · skip
    go_wp2_with fail
    refine (HIP.out _ HL_1.out).mono ?_
    rintro e W2 ⟨cs2, rfl, hown, hb⟩
    have HL_2 := Lib.hid (C11S.fup HL_1.out hb)
    have HB_2 := Lib.hid (HB_1.out.trans (hb.mono HB_1.out.size))
    clear hb
    obtain ⟨Ap, np, cp, rfl, hpa, hop⟩ := RProof_own.1 hown
    have HP_2 := Lib.hid (show RProof.rd W2 (Lt W2.heap.size) [.int .i64 pa, .slice Ap np cp] ⟨pa, pp⟩ from RProof_rd.2 ⟨Ap, np, cp, rfl, hpa, hop.cap.1, hop.cap.2, hop.rd⟩)
    have hnp : pp.length = np := hop.len
    clear hown hop hpa
    have hal : Below W2.heap.size W2 (W2.alloc (.cells #[.int .i64 pa, .slice Ap np cp] 29)) := (Below.refl _ _).alloc (Nat.le_refl _) _
    have HL_3 := Lib.hid (C11S.fup HL_2.out hal)
    have HB_3 := Lib.hid (HB_2.out.trans (hal.mono HB_2.out.size))
    have HP_3 := Lib.hid (upP HP_2.out hal)
    have HX_3 := Lib.hid (Box.new W2 #[.int .i64 pa, .slice Ap np cp] 29)
    obtain ⟨V2, hW⟩ : ∃ V, W2.alloc (.cells #[.int .i64 pa, .slice Ap np cp] 29) = V := ⟨_, rfl⟩
    rw [hW] at HL_3 HB_3 HP_3 HX_3
    have HWV2 := Lib.hid hW
    clear hW hal
    go_wp2_with fail
    rw [HWV2.out]
    refine (HSP.out _ HL_3.out).mono ?_
    rintro e W3 ⟨cs3, rfl, hown, hb⟩
    have HL_4 := Lib.hid (C11S.fup HL_3.out hb)
    have HB_4 := Lib.hid (HB_3.out.trans (hb.mono HB_3.out.size))
    have HP_4 := Lib.hid (upP HP_3.out hb)
    have HX_4 := Lib.hid (HX_3.out.below hb HX_3.out.lt)
    clear hb
    obtain ⟨Aq, nq, cq, rfl, hpa, hop⟩ := RProof_own.1 hown
    have HQ_4 := Lib.hid (show RProof.rd W3 (Lt W3.heap.size) [.int .i64 pa, .slice Aq nq cq] ⟨pa, pp⟩ from RProof_rd.2 ⟨Aq, nq, cq, rfl, hpa, hop.cap.1, hop.cap.2, hop.rd⟩)
    clear hown hop hpa
    have hal : Below W3.heap.size W3 (W3.alloc (.cells #[.int .i64 pa, .slice Aq nq cq] 29)) := (Below.refl _ _).alloc (Nat.le_refl _) _
    have HL_5 := Lib.hid (C11S.fup HL_4.out hal)
    have HB_5 := Lib.hid (HB_4.out.trans (hal.mono HB_4.out.size))
    have HP_5 := Lib.hid (upP HP_4.out hal)
    have HX_5 := Lib.hid (HX_4.out.below hal HX_4.out.lt)
    have HQ_5 := Lib.hid (upP HQ_4.out hal)
    have HY_5 := Lib.hid (Box.new W3 #[.int .i64 pa, .slice Aq nq cq] 29)
    have zX0 := HX_5.out.cell (j := 0) rfl
    have zX1 := HX_5.out.cell (j := 1) rfl
    have zY0 := HY_5.out.cell (j := 0) rfl
    have zY1 := HY_5.out.cell (j := 1) rfl
    have hbn : (false != false) = false := by decide
    go_wp2_with fail
    clear zX0 zX1 zY0 zY1
    obtain ⟨V3, hW⟩ : ∃ V, W3.alloc (.cells #[.int .i64 pa, .slice Aq nq cq] 29) = V := ⟨_, rfl⟩
    rw [hW] at HL_5 HB_5 HP_5 HX_5 HQ_5 HY_5
    have HWV3 := Lib.hid hW
    clear hW hal
    rw [HWV3.out]
    refine (iEqualProofs_any _ _ ⟨pa, pp⟩ ⟨pa, pp⟩ V3 HP_5.out HQ_5.out hpt).mono ?_
    rintro e W4 ⟨rfl, hb⟩
    have HL_6 := Lib.hid (C11S.fup HL_5.out hb)
    have HB_6 := Lib.hid (HB_5.out.trans (hb.mono HB_5.out.size))
    have HP_6 := Lib.hid (upP HP_5.out hb)
    have HX_6 := Lib.hid (HX_5.out.below hb HX_5.out.lt)
    have HQ_6 := Lib.hid (upP HQ_5.out hb)
    have HY_6 := Lib.hid (HY_5.out.below hb HY_5.out.lt)
    clear hb
    rw [eqP_self]
    have zX0 := HX_6.out.cell (j := 0) rfl
    have zX1 := HX_6.out.cell (j := 1) rfl
    go_wp2_with fail
    clear zX0 zX1
    refine (drawCheckEntry_any W4 A n c hn ((HR.out.below HB_6.out).more HB_6.out.size)).mono ?_
    rintro e Y1 ⟨r1, m1, cs, k, ds, q, rfl, hr1, hm1, hk, htk, hq, htq, hb⟩
    obtain ⟨Ae, ne, ce, rfl, -⟩ := REntry_rd.1 hk
    obtain ⟨Aq, nq, cq, rfl, -⟩ := RProof_rd.1 hq
    have HB_7 := Lib.hid (HB_6.out.trans (hb.mono HB_6.out.size))
    have HE_7 := Lib.hid hk
    have HQ_7 := Lib.hid hq
    have HIC := Lib.hid (fun w1 h h' => iCheckEntry_any r1 m1 [.string k.label, .int .i64 k.kind, .int .i64 k.value, .slice Ae ne ce] k [.int .i64 q.at_, .slice Aq nq cq] q w1 (inI64 (by omega) (by omega)) (inI64 (by omega) (by omega)) h h' (by omega) (by omega))
    have HSC := Lib.hid (fun w1 h h' => sCheckEntry_any r1 m1 [.string k.label, .int .i64 k.kind, .int .i64 k.value, .slice Ae ne ce] k [.int .i64 q.at_, .slice Aq nq cq] q w1 (inI64 (by omega) (by omega)) (inI64 (by omega) (by omega)) h h' (by omega) (by omega))
    generalize checkE r1 m1 k q = b1 at HIC HSC
    have hbb : (b1 == b1) = true := by simp
    obtain ⟨kl, kk, kv, kp⟩ := k
    obtain ⟨qa, qp⟩ := q
    simp only at HIC HSC HE_7 HQ_7
    clear hk hq hb htk htq
    have hal : Below Y1.heap.size Y1 (Y1.alloc (.cells #[.string kl, .int .i64 kk, .int .i64 kv, .slice Ae ne ce] 36)) := (Below.refl _ _).alloc (Nat.le_refl _) _
    have HB_8 := Lib.hid (HB_7.out.trans (hal.mono HB_7.out.size))
    have HE_8 := Lib.hid (upE HE_7.out hal)
    have HQ_8 := Lib.hid (upP HQ_7.out hal)
    have HX_8 := Lib.hid (Box.new Y1 #[.string kl, .int .i64 kk, .int .i64 kv, .slice Ae ne ce] 36)
    obtain ⟨Y2, hW⟩ : ∃ V, Y1.alloc (.cells #[.string kl, .int .i64 kk, .int .i64 kv, .slice Ae ne ce] 36) = V := ⟨_, rfl⟩
    rw [hW] at HB_8 HE_8 HQ_8 HX_8
    have HWY2 := Lib.hid hW
    clear hW hal
    have hal : Below Y2.heap.size Y2 (Y2.alloc (.cells #[.int .i64 qa, .slice Aq nq cq] 29)) := (Below.refl _ _).alloc (Nat.le_refl _) _
    have HB_9 := Lib.hid (HB_8.out.trans (hal.mono HB_8.out.size))
    have HE_9 := Lib.hid (upE HE_8.out hal)
    have HQ_9 := Lib.hid (upP HQ_8.out hal)
    have HX_9 := Lib.hid (HX_8.out.below hal HX_8.out.lt)
    have HZ_9 := Lib.hid (Box.new Y2 #[.int .i64 qa, .slice Aq nq cq] 29)
    obtain ⟨Y3, hW⟩ : ∃ V, Y2.alloc (.cells #[.int .i64 qa, .slice Aq nq cq] 29) = V := ⟨_, rfl⟩
    rw [hW] at HB_9 HE_9 HQ_9 HX_9 HZ_9
    have HWY3 := Lib.hid hW
    clear hW hal
    have hY2 : Y2.heap.size = Y1.heap.size + 1 := by rw [← HWY2.out]; simp
    rw [hY2] at HZ_9
    clear hY2
    go_wp2_with fail
    rw [HWY2.out, HWY3.out]
    refine (drawCheckAll_any Y3 A n c hn ((HR.out.below HB_9.out).more HB_9.out.size)).mono ?_
    rintro e Y4 ⟨A4, n4, c4, l4, r4, rfl, hr4, hr5, hs4, ho4, hb⟩
    have HB_10 := Lib.hid (HB_9.out.trans (hb.mono HB_9.out.size))
    have HE_10 := Lib.hid (upE HE_9.out hb)
    have HQ_10 := Lib.hid (upP HQ_9.out hb)
    have HX_10 := Lib.hid (HX_9.out.below hb HX_9.out.lt)
    have HZ_10 := Lib.hid (HZ_9.out.below hb HZ_9.out.lt)
    have HM_10 := Lib.hid ho4.rd
    have ht4 : totR totEntry l4 ≤ 1048576 := by have := smL_fine hs4; omega
    have HIA := Lib.hid (fun w1 h => iCheckAll_any r4 A4 n4 c4 l4 w1 h ht4)
    have HSA := Lib.hid (fun w1 h => sCheckAll_any r4 A4 n4 c4 l4 w1 h ht4)
    generalize checkL r4 l4 = b2 at HIA HSA
    have hcc : (b2 == b2) = true := by simp
    clear hb ho4 hs4 ht4
    have hdr : Below Y4.heap.size Y4 Y4.drew := (Below.refl _ _).drew
    have HB_11 := Lib.hid (HB_10.out.trans (hdr.mono HB_10.out.size))
    have HE_11 := Lib.hid (upE HE_10.out hdr)
    have HQ_11 := Lib.hid (upP HQ_10.out hdr)
    have HX_11 := Lib.hid (HX_10.out.below hdr HX_10.out.lt)
    have HZ_11 := Lib.hid (HZ_10.out.below hdr HZ_10.out.lt)
    have HM_11 := Lib.hid (C11S.fup HM_10.out hdr)
    have zX0 := HX_11.out.cell (j := 0) rfl
    have zX1 := HX_11.out.cell (j := 1) rfl
    have zX2 := HX_11.out.cell (j := 2) rfl
    have zX3 := HX_11.out.cell (j := 3) rfl
    have zZ0 := HZ_11.out.cell (j := 0) rfl
    have zZ1 := HZ_11.out.cell (j := 1) rfl
    clear hdr
    go_wp2_with fail
    go_region_held3 (fun w' => w'.cell? ⟨Y1.heap.size, 0, none⟩ = some (.string kl) ∧ w'.cell? ⟨Y1.heap.size, 1, none⟩ = some (.int .i64 kk) ∧ w'.cell? ⟨Y1.heap.size, 2, none⟩ = some (.int .i64 kv) ∧ w'.cell? ⟨Y1.heap.size, 3, none⟩ = some (.slice Ae ne ce) ∧ w'.cell? ⟨Y1.heap.size + 1, 0, none⟩ = some (.int .i64 qa) ∧ w'.cell? ⟨Y1.heap.size + 1, 1, none⟩ = some (.slice Aq nq cq)) (go_keep) ((first
      | (go_at_call 13; refine (HIC.out _ HE_11.out HQ_11.out).mono ?_; rintro e U0 ⟨rfl, hb⟩; have HB_12 := Lib.hid (HB_11.out.trans (hb.mono HB_11.out.size)); have HE_12 := Lib.hid (upE HE_11.out hb); have HQ_12 := Lib.hid (upP HQ_11.out hb); have HX_12 := Lib.hid (HX_11.out.below hb HX_11.out.lt); have HZ_12 := Lib.hid (HZ_11.out.below hb HZ_11.out.lt); have HM_12 := Lib.hid (C11S.fup HM_11.out hb); have z0X0 := HX_12.out.cell (j := 0) rfl; have z0X1 := HX_12.out.cell (j := 1) rfl; have z0X2 := HX_12.out.cell (j := 2) rfl; have z0X3 := HX_12.out.cell (j := 3) rfl; have z0Z0 := HZ_12.out.cell (j := 0) rfl; have z0Z1 := HZ_12.out.cell (j := 1) rfl; clear hb)
      | (go_at_call 18; refine (HSC.out _ HE_12.out HQ_12.out).mono ?_; rintro e U1 ⟨rfl, hb⟩; have HB_13 := Lib.hid (HB_12.out.trans (hb.mono HB_12.out.size)); have HE_13 := Lib.hid (upE HE_12.out hb); have HQ_13 := Lib.hid (upP HQ_12.out hb); have HX_13 := Lib.hid (HX_12.out.below hb HX_12.out.lt); have HZ_13 := Lib.hid (HZ_12.out.below hb HZ_12.out.lt); have HM_13 := Lib.hid (C11S.fup HM_12.out hb); have z1X0 := HX_13.out.cell (j := 0) rfl; have z1X1 := HX_13.out.cell (j := 1) rfl; have z1X2 := HX_13.out.cell (j := 2) rfl; have z1X3 := HX_13.out.cell (j := 3) rfl; have z1Z0 := HZ_13.out.cell (j := 0) rfl; have z1Z1 := HZ_13.out.cell (j := 1) rfl; clear hb)
      | (go_at_call 19; refine (HIA.out _ HM_13.out).mono ?_; rintro e U2 ⟨rfl, hb⟩; have HB_14 := Lib.hid (HB_13.out.trans (hb.mono HB_13.out.size)); have HE_14 := Lib.hid (upE HE_13.out hb); have HQ_14 := Lib.hid (upP HQ_13.out hb); have HX_14 := Lib.hid (HX_13.out.below hb HX_13.out.lt); have HZ_14 := Lib.hid (HZ_13.out.below hb HZ_13.out.lt); have HM_14 := Lib.hid (C11S.fup HM_13.out hb); have z2X0 := HX_14.out.cell (j := 0) rfl; have z2X1 := HX_14.out.cell (j := 1) rfl; have z2X2 := HX_14.out.cell (j := 2) rfl; have z2X3 := HX_14.out.cell (j := 3) rfl; have z2Z0 := HZ_14.out.cell (j := 0) rfl; have z2Z1 := HZ_14.out.cell (j := 1) rfl; clear hb)
      | (go_at_call 20; refine (HSA.out _ HM_14.out).mono ?_; rintro e U3 ⟨rfl, hb⟩; have HB_15 := Lib.hid (HB_14.out.trans (hb.mono HB_14.out.size)); have HE_15 := Lib.hid (upE HE_14.out hb); have HQ_15 := Lib.hid (upP HQ_14.out hb); have HX_15 := Lib.hid (HX_14.out.below hb HX_14.out.lt); have HZ_15 := Lib.hid (HZ_14.out.below hb HZ_14.out.lt); have HM_15 := Lib.hid (C11S.fup HM_14.out hb); have z3X0 := HX_15.out.cell (j := 0) rfl; have z3X1 := HX_15.out.cell (j := 1) rfl; have z3X2 := HX_15.out.cell (j := 2) rfl; have z3X3 := HX_15.out.cell (j := 3) rfl; have z3Z0 := HZ_15.out.cell (j := 0) rfl; have z3Z1 := HZ_15.out.cell (j := 1) rfl; clear hb)))
    go_wp2
    go_ret
    exact ⟨by simp, HB_15.out⟩
  · skip
    go_wp2_with fail
    refine (HIP.out _ HL_1.out).mono ?_
    rintro e W2 ⟨cs2, rfl, hown, hb⟩
    have HL_2 := Lib.hid (C11S.fup HL_1.out hb)
    have HB_2 := Lib.hid (HB_1.out.trans (hb.mono HB_1.out.size))
    clear hb
    obtain ⟨Ap, np, cp, rfl, hpa, hop⟩ := RProof_own.1 hown
    have HP_2 := Lib.hid (show RProof.rd W2 (Lt W2.heap.size) [.int .i64 pa, .slice Ap np cp] ⟨pa, pp⟩ from RProof_rd.2 ⟨Ap, np, cp, rfl, hpa, hop.cap.1, hop.cap.2, hop.rd⟩)
    have hnp : pp.length = np := hop.len
    clear hown hop hpa
    have hal : Below W2.heap.size W2 (W2.alloc (.cells #[.int .i64 pa, .slice Ap np cp] 29)) := (Below.refl _ _).alloc (Nat.le_refl _) _
    have HL_3 := Lib.hid (C11S.fup HL_2.out hal)
    have HB_3 := Lib.hid (HB_2.out.trans (hal.mono HB_2.out.size))
    have HP_3 := Lib.hid (upP HP_2.out hal)
    have HX_3 := Lib.hid (Box.new W2 #[.int .i64 pa, .slice Ap np cp] 29)
    obtain ⟨V2, hW⟩ : ∃ V, W2.alloc (.cells #[.int .i64 pa, .slice Ap np cp] 29) = V := ⟨_, rfl⟩
    rw [hW] at HL_3 HB_3 HP_3 HX_3
    have HWV2 := Lib.hid hW
    clear hW hal
    go_wp2_with fail
    rw [HWV2.out]
    refine (HSP.out _ HL_3.out).mono ?_
    rintro e W3 ⟨cs3, rfl, hown, hb⟩
    have HL_4 := Lib.hid (C11S.fup HL_3.out hb)
    have HB_4 := Lib.hid (HB_3.out.trans (hb.mono HB_3.out.size))
    have HP_4 := Lib.hid (upP HP_3.out hb)
    have HX_4 := Lib.hid (HX_3.out.below hb HX_3.out.lt)
    clear hb
    obtain ⟨Aq, nq, cq, rfl, hpa, hop⟩ := RProof_own.1 hown
    have HQ_4 := Lib.hid (show RProof.rd W3 (Lt W3.heap.size) [.int .i64 pa, .slice Aq nq cq] ⟨pa, pp⟩ from RProof_rd.2 ⟨Aq, nq, cq, rfl, hpa, hop.cap.1, hop.cap.2, hop.rd⟩)
    clear hown hop hpa
    have hal : Below W3.heap.size W3 (W3.alloc (.cells #[.int .i64 pa, .slice Aq nq cq] 29)) := (Below.refl _ _).alloc (Nat.le_refl _) _
    have HL_5 := Lib.hid (C11S.fup HL_4.out hal)
    have HB_5 := Lib.hid (HB_4.out.trans (hal.mono HB_4.out.size))
    have HP_5 := Lib.hid (upP HP_4.out hal)
    have HX_5 := Lib.hid (HX_4.out.below hal HX_4.out.lt)
    have HQ_5 := Lib.hid (upP HQ_4.out hal)
    have HY_5 := Lib.hid (Box.new W3 #[.int .i64 pa, .slice Aq nq cq] 29)
    have zX0 := HX_5.out.cell (j := 0) rfl
    have zX1 := HX_5.out.cell (j := 1) rfl
    have zY0 := HY_5.out.cell (j := 0) rfl
    have zY1 := HY_5.out.cell (j := 1) rfl
    have hbn : (true != true) = false := by decide
    go_wp2_with fail
    clear zX0 zX1 zY0 zY1
    obtain ⟨V3, hW⟩ : ∃ V, W3.alloc (.cells #[.int .i64 pa, .slice Aq nq cq] 29) = V := ⟨_, rfl⟩
    rw [hW] at HL_5 HB_5 HP_5 HX_5 HQ_5 HY_5
    have HWV3 := Lib.hid hW
    clear hW hal
    rw [HWV3.out]
    refine (iEqualProofs_any _ _ ⟨pa, pp⟩ ⟨pa, pp⟩ V3 HP_5.out HQ_5.out hpt).mono ?_
    rintro e W4 ⟨rfl, hb⟩
    have HL_6 := Lib.hid (C11S.fup HL_5.out hb)
    have HB_6 := Lib.hid (HB_5.out.trans (hb.mono HB_5.out.size))
    have HP_6 := Lib.hid (upP HP_5.out hb)
    have HX_6 := Lib.hid (HX_5.out.below hb HX_5.out.lt)
    have HQ_6 := Lib.hid (upP HQ_5.out hb)
    have HY_6 := Lib.hid (HY_5.out.below hb HY_5.out.lt)
    clear hb
    rw [eqP_self]
    have zX0 := HX_6.out.cell (j := 0) rfl
    have zX1 := HX_6.out.cell (j := 1) rfl
    go_wp2_with fail
    clear zX0 zX1
    refine (HAE.out _ HL_6.out).mono ?_
    rintro e W5 ⟨rfl, hb⟩
    have HL_7 := Lib.hid (C11S.fup HL_6.out hb)
    have HB_7 := Lib.hid (HB_6.out.trans (hb.mono HB_6.out.size))
    have HP_7 := Lib.hid (upP HP_6.out hb)
    have HX_7 := Lib.hid (HX_6.out.below hb HX_6.out.lt)
    clear hb
    have HPX := Lib.hid (HPP.out (by first | rfl | trivial))
    clear HPP
    generalize areE l = ab at HPX
    rcases ab with _ | _
    · skip
      have zX0 := HX_7.out.cell (j := 0) rfl
      have zX1 := HX_7.out.cell (j := 1) rfl
      go_wp2_with fail
      clear zX0 zX1
      refine (drawCheckEntry_any W5 A n c hn ((HR.out.below HB_7.out).more HB_7.out.size)).mono ?_
      rintro e Y1 ⟨r1, m1, cs, k, ds, q, rfl, hr1, hm1, hk, htk, hq, htq, hb⟩
      obtain ⟨Ae, ne, ce, rfl, -⟩ := REntry_rd.1 hk
      obtain ⟨Aq, nq, cq, rfl, -⟩ := RProof_rd.1 hq
      have HB_8 := Lib.hid (HB_7.out.trans (hb.mono HB_7.out.size))
      have HE_8 := Lib.hid hk
      have HQ_8 := Lib.hid hq
      have HIC := Lib.hid (fun w1 h h' => iCheckEntry_any r1 m1 [.string k.label, .int .i64 k.kind, .int .i64 k.value, .slice Ae ne ce] k [.int .i64 q.at_, .slice Aq nq cq] q w1 (inI64 (by omega) (by omega)) (inI64 (by omega) (by omega)) h h' (by omega) (by omega))
      have HSC := Lib.hid (fun w1 h h' => sCheckEntry_any r1 m1 [.string k.label, .int .i64 k.kind, .int .i64 k.value, .slice Ae ne ce] k [.int .i64 q.at_, .slice Aq nq cq] q w1 (inI64 (by omega) (by omega)) (inI64 (by omega) (by omega)) h h' (by omega) (by omega))
      generalize checkE r1 m1 k q = b1 at HIC HSC
      have hbb : (b1 == b1) = true := by simp
      obtain ⟨kl, kk, kv, kp⟩ := k
      obtain ⟨qa, qp⟩ := q
      simp only at HIC HSC HE_8 HQ_8
      clear hk hq hb htk htq
      have hal : Below Y1.heap.size Y1 (Y1.alloc (.cells #[.string kl, .int .i64 kk, .int .i64 kv, .slice Ae ne ce] 36)) := (Below.refl _ _).alloc (Nat.le_refl _) _
      have HB_9 := Lib.hid (HB_8.out.trans (hal.mono HB_8.out.size))
      have HE_9 := Lib.hid (upE HE_8.out hal)
      have HQ_9 := Lib.hid (upP HQ_8.out hal)
      have HX_9 := Lib.hid (Box.new Y1 #[.string kl, .int .i64 kk, .int .i64 kv, .slice Ae ne ce] 36)
      obtain ⟨Y2, hW⟩ : ∃ V, Y1.alloc (.cells #[.string kl, .int .i64 kk, .int .i64 kv, .slice Ae ne ce] 36) = V := ⟨_, rfl⟩
      rw [hW] at HB_9 HE_9 HQ_9 HX_9
      have HWY2 := Lib.hid hW
      clear hW hal
      have hal : Below Y2.heap.size Y2 (Y2.alloc (.cells #[.int .i64 qa, .slice Aq nq cq] 29)) := (Below.refl _ _).alloc (Nat.le_refl _) _
      have HB_10 := Lib.hid (HB_9.out.trans (hal.mono HB_9.out.size))
      have HE_10 := Lib.hid (upE HE_9.out hal)
      have HQ_10 := Lib.hid (upP HQ_9.out hal)
      have HX_10 := Lib.hid (HX_9.out.below hal HX_9.out.lt)
      have HZ_10 := Lib.hid (Box.new Y2 #[.int .i64 qa, .slice Aq nq cq] 29)
      obtain ⟨Y3, hW⟩ : ∃ V, Y2.alloc (.cells #[.int .i64 qa, .slice Aq nq cq] 29) = V := ⟨_, rfl⟩
      rw [hW] at HB_10 HE_10 HQ_10 HX_10 HZ_10
      have HWY3 := Lib.hid hW
      clear hW hal
      have hY2 : Y2.heap.size = Y1.heap.size + 1 := by rw [← HWY2.out]; simp
      rw [hY2] at HZ_10
      clear hY2
      go_wp2_with fail
      rw [HWY2.out, HWY3.out]
      refine (drawCheckAll_any Y3 A n c hn ((HR.out.below HB_10.out).more HB_10.out.size)).mono ?_
      rintro e Y4 ⟨A4, n4, c4, l4, r4, rfl, hr4, hr5, hs4, ho4, hb⟩
      have HB_11 := Lib.hid (HB_10.out.trans (hb.mono HB_10.out.size))
      have HE_11 := Lib.hid (upE HE_10.out hb)
      have HQ_11 := Lib.hid (upP HQ_10.out hb)
      have HX_11 := Lib.hid (HX_10.out.below hb HX_10.out.lt)
      have HZ_11 := Lib.hid (HZ_10.out.below hb HZ_10.out.lt)
      have HM_11 := Lib.hid ho4.rd
      have ht4 : totR totEntry l4 ≤ 1048576 := by have := smL_fine hs4; omega
      have HIA := Lib.hid (fun w1 h => iCheckAll_any r4 A4 n4 c4 l4 w1 h ht4)
      have HSA := Lib.hid (fun w1 h => sCheckAll_any r4 A4 n4 c4 l4 w1 h ht4)
      generalize checkL r4 l4 = b2 at HIA HSA
      have hcc : (b2 == b2) = true := by simp
      clear hb ho4 hs4 ht4
      have hdr : Below Y4.heap.size Y4 Y4.drew := (Below.refl _ _).drew
      have HB_12 := Lib.hid (HB_11.out.trans (hdr.mono HB_11.out.size))
      have HE_12 := Lib.hid (upE HE_11.out hdr)
      have HQ_12 := Lib.hid (upP HQ_11.out hdr)
      have HX_12 := Lib.hid (HX_11.out.below hdr HX_11.out.lt)
      have HZ_12 := Lib.hid (HZ_11.out.below hdr HZ_11.out.lt)
      have HM_12 := Lib.hid (C11S.fup HM_11.out hdr)
      have zX0 := HX_12.out.cell (j := 0) rfl
      have zX1 := HX_12.out.cell (j := 1) rfl
      have zX2 := HX_12.out.cell (j := 2) rfl
      have zX3 := HX_12.out.cell (j := 3) rfl
      have zZ0 := HZ_12.out.cell (j := 0) rfl
      have zZ1 := HZ_12.out.cell (j := 1) rfl
      clear hdr
      go_wp2_with fail
      go_region_held3 (fun w' => w'.cell? ⟨Y1.heap.size, 0, none⟩ = some (.string kl) ∧ w'.cell? ⟨Y1.heap.size, 1, none⟩ = some (.int .i64 kk) ∧ w'.cell? ⟨Y1.heap.size, 2, none⟩ = some (.int .i64 kv) ∧ w'.cell? ⟨Y1.heap.size, 3, none⟩ = some (.slice Ae ne ce) ∧ w'.cell? ⟨Y1.heap.size + 1, 0, none⟩ = some (.int .i64 qa) ∧ w'.cell? ⟨Y1.heap.size + 1, 1, none⟩ = some (.slice Aq nq cq)) (go_keep) ((first
        | (go_at_call 13; refine (HIC.out _ HE_12.out HQ_12.out).mono ?_; rintro e U0 ⟨rfl, hb⟩; have HB_13 := Lib.hid (HB_12.out.trans (hb.mono HB_12.out.size)); have HE_13 := Lib.hid (upE HE_12.out hb); have HQ_13 := Lib.hid (upP HQ_12.out hb); have HX_13 := Lib.hid (HX_12.out.below hb HX_12.out.lt); have HZ_13 := Lib.hid (HZ_12.out.below hb HZ_12.out.lt); have HM_13 := Lib.hid (C11S.fup HM_12.out hb); have z0X0 := HX_13.out.cell (j := 0) rfl; have z0X1 := HX_13.out.cell (j := 1) rfl; have z0X2 := HX_13.out.cell (j := 2) rfl; have z0X3 := HX_13.out.cell (j := 3) rfl; have z0Z0 := HZ_13.out.cell (j := 0) rfl; have z0Z1 := HZ_13.out.cell (j := 1) rfl; clear hb)
        | (go_at_call 18; refine (HSC.out _ HE_13.out HQ_13.out).mono ?_; rintro e U1 ⟨rfl, hb⟩; have HB_14 := Lib.hid (HB_13.out.trans (hb.mono HB_13.out.size)); have HE_14 := Lib.hid (upE HE_13.out hb); have HQ_14 := Lib.hid (upP HQ_13.out hb); have HX_14 := Lib.hid (HX_13.out.below hb HX_13.out.lt); have HZ_14 := Lib.hid (HZ_13.out.below hb HZ_13.out.lt); have HM_14 := Lib.hid (C11S.fup HM_13.out hb); have z1X0 := HX_14.out.cell (j := 0) rfl; have z1X1 := HX_14.out.cell (j := 1) rfl; have z1X2 := HX_14.out.cell (j := 2) rfl; have z1X3 := HX_14.out.cell (j := 3) rfl; have z1Z0 := HZ_14.out.cell (j := 0) rfl; have z1Z1 := HZ_14.out.cell (j := 1) rfl; clear hb)
        | (go_at_call 19; refine (HIA.out _ HM_14.out).mono ?_; rintro e U2 ⟨rfl, hb⟩; have HB_15 := Lib.hid (HB_14.out.trans (hb.mono HB_14.out.size)); have HE_15 := Lib.hid (upE HE_14.out hb); have HQ_15 := Lib.hid (upP HQ_14.out hb); have HX_15 := Lib.hid (HX_14.out.below hb HX_14.out.lt); have HZ_15 := Lib.hid (HZ_14.out.below hb HZ_14.out.lt); have HM_15 := Lib.hid (C11S.fup HM_14.out hb); have z2X0 := HX_15.out.cell (j := 0) rfl; have z2X1 := HX_15.out.cell (j := 1) rfl; have z2X2 := HX_15.out.cell (j := 2) rfl; have z2X3 := HX_15.out.cell (j := 3) rfl; have z2Z0 := HZ_15.out.cell (j := 0) rfl; have z2Z1 := HZ_15.out.cell (j := 1) rfl; clear hb)
        | (go_at_call 20; refine (HSA.out _ HM_15.out).mono ?_; rintro e U3 ⟨rfl, hb⟩; have HB_16 := Lib.hid (HB_15.out.trans (hb.mono HB_15.out.size)); have HE_16 := Lib.hid (upE HE_15.out hb); have HQ_16 := Lib.hid (upP HQ_15.out hb); have HX_16 := Lib.hid (HX_15.out.below hb HX_15.out.lt); have HZ_16 := Lib.hid (HZ_15.out.below hb HZ_15.out.lt); have HM_16 := Lib.hid (C11S.fup HM_15.out hb); have z3X0 := HX_16.out.cell (j := 0) rfl; have z3X1 := HX_16.out.cell (j := 1) rfl; have z3X2 := HX_16.out.cell (j := 2) rfl; have z3X3 := HX_16.out.cell (j := 3) rfl; have z3Z0 := HZ_16.out.cell (j := 0) rfl; have z3Z1 := HZ_16.out.cell (j := 1) rfl; clear hb)))
      go_wp2
      go_ret
      exact ⟨by simp, HB_16.out⟩
    · skip
      obtain ⟨j, hj, hjn, hie, hsm, k1, k2, k3, k4, k5⟩ := HPX.out (by first | rfl | trivial)
      rw [hj] at HFE
      obtain ⟨b, off, cs, rfl, hlt, hrd, hcc⟩ := HL_7.out.at hjn
      have hrd2 : REntry.rd W5 (Lt W5.heap.size) cs (at0 l j) := hrd
      generalize at0 l j = z at hie hsm k1 k2 k3 k4 hrd2
      obtain ⟨A3, n3, c3, rfl, -⟩ := REntry_rd.1 hrd2
      have d0 : W5.cell? ⟨b, off + j * 4, none⟩ = some (.string z.label) := hcc 0 (by decide)
      have d1 : W5.cell? ⟨b, off + j * 4 + 1, none⟩ = some (.int .i64 z.kind) := hcc 1 (by decide)
      have d2 : W5.cell? ⟨b, off + j * 4 + 2, none⟩ = some (.int .i64 z.value) := hcc 2 (by decide)
      have d3 : W5.cell? ⟨b, off + j * 4 + 3, none⟩ = some (.slice A3 n3 c3) := hcc 3 (by decide)
      have hv0 : 0 ≤ z.value ∧ z.value ≤ 2147483646 := val_in hie
      have htz := sm_fine hsm
      obtain ⟨zl, zk, zv, zp⟩ := z
      simp only at d0 d1 d2 hv0 hrd2 k2
      have HE_7 := Lib.hid hrd2
      have HVE := Lib.hid (fun w1 => iValueEntry_any s (zv % 999999 + 1) w1 hss (inI64 (by omega) (by omega)))
      have HK1 := Lib.hid (fun w1 h h' => iCheckEntry_any r nl [.string zl, .int .i64 zk, .int .i64 zv, .slice A3 n3 c3] ⟨zl, zk, zv, zp⟩ [.int .i64 pa, .slice Ap np cp] ⟨pa, pp⟩ w1 (inI64 (by omega) (by omega)) (inI64 (by omega) (by omega)) h h' (by omega) hpt)
      have HK2 := Lib.hid (fun cs w1 h h' => iCheckEntry_any r nl cs ⟨s, 1, zv % 999999 + 1, []⟩ [.int .i64 pa, .slice Ap np cp] ⟨pa, pp⟩ w1 (inI64 (by omega) (by omega)) (inI64 (by omega) (by omega)) h h' (by unfold totEntry totSS; simp; omega) hpt)
      have HK3 := Lib.hid (fun w1 h h' => iCheckEntry_any r (nl + 1) [.string zl, .int .i64 zk, .int .i64 zv, .slice A3 n3 c3] ⟨zl, zk, zv, zp⟩ [.int .i64 pa, .slice Ap np cp] ⟨pa, pp⟩ w1 (inI64 (by omega) (by omega)) (inI64 (by omega) (by omega)) h h' (by omega) hpt)
      have HK4 := Lib.hid (fun w1 h h' => iCheckEntry_any (r + 1) nl [.string zl, .int .i64 zk, .int .i64 zv, .slice A3 n3 c3] ⟨zl, zk, zv, zp⟩ [.int .i64 pa, .slice Ap np cp] ⟨pa, pp⟩ w1 (inI64 (by omega) (by omega)) (inI64 (by omega) (by omega)) h h' (by omega) hpt)
      rw [k1] at HK1
      rw [k2] at HK2
      rw [k3] at HK3
      rw [k4] at HK4
      have htm : zv.tmod 999999 = zv % 999999 := Int.tmod_eq_emod_of_nonneg hv0.1
      clear hrd hrd2 hcc hie hsm k1 k2 k3 k4 HPX hlt htz
      go_wp2_with fail
      refine (HFE.out _ HL_7.out).mono ?_
      rintro e w9 ⟨rfl, rfl⟩
      have hal : Below W5.heap.size W5 (W5.alloc (.cells #[.string zl, .int .i64 zk, .int .i64 zv, .slice A3 n3 c3] 36)) := (Below.refl _ _).alloc (Nat.le_refl _) _
      have HL_8 := Lib.hid (C11S.fup HL_7.out hal)
      have HB_8 := Lib.hid (HB_7.out.trans (hal.mono HB_7.out.size))
      have HP_8 := Lib.hid (upP HP_7.out hal)
      have HX_8 := Lib.hid (HX_7.out.below hal HX_7.out.lt)
      have HE_8 := Lib.hid (upE HE_7.out hal)
      have HF_8 := Lib.hid (Box.new W5 #[.string zl, .int .i64 zk, .int .i64 zv, .slice A3 n3 c3] 36)
      obtain ⟨V5, hW⟩ : ∃ V, W5.alloc (.cells #[.string zl, .int .i64 zk, .int .i64 zv, .slice A3 n3 c3] 36) = V := ⟨_, rfl⟩
      rw [hW] at HL_8 HB_8 HP_8 HX_8 HE_8 HF_8
      have HWV5 := Lib.hid hW
      clear hW hal
      go_wp2_with fail
      rw [HWV5.out]
      clear d0 d1 d2 d3
      refine (HRO.out _ HL_8.out).mono ?_
      rintro e W6 ⟨rfl, hb⟩
      have HL_9 := Lib.hid (C11S.fup HL_8.out hb)
      have HB_9 := Lib.hid (HB_8.out.trans (hb.mono HB_8.out.size))
      have HP_9 := Lib.hid (upP HP_8.out hb)
      have HX_9 := Lib.hid (HX_8.out.below hb HX_8.out.lt)
      have HE_9 := Lib.hid (upE HE_8.out hb)
      have HF_9 := Lib.hid (HF_8.out.below hb HF_8.out.lt)
      clear hb
      have zX0 := HX_9.out.cell (j := 0) rfl
      have zX1 := HX_9.out.cell (j := 1) rfl
      have zF0 := HF_9.out.cell (j := 0) rfl
      have zF1 := HF_9.out.cell (j := 1) rfl
      have zF2 := HF_9.out.cell (j := 2) rfl
      have zF3 := HF_9.out.cell (j := 3) rfl
      go_wp2_with fail
      clear zX0 zX1 zF0 zF1 zF2 zF3
      refine (HVE.out _).mono ?_
      rintro e W7 ⟨cs7, rfl, hown, hb⟩
      have HL_10 := Lib.hid (C11S.fup HL_9.out hb)
      have HB_10 := Lib.hid (HB_9.out.trans (hb.mono HB_9.out.size))
      have HP_10 := Lib.hid (upP HP_9.out hb)
      have HX_10 := Lib.hid (HX_9.out.below hb HX_9.out.lt)
      have HE_10 := Lib.hid (upE HE_9.out hb)
      have HF_10 := Lib.hid (HF_9.out.below hb HF_9.out.lt)
      obtain ⟨A7, n7, c7, rfl, g1, g2, g3, ho7⟩ := REntry_own.1 hown
      have HG_10 := Lib.hid (show REntry.rd W7 (Lt W7.heap.size) [.string s, .int .i64 1, .int .i64 (zv % 999999 + 1), .slice A7 n7 c7] ⟨s, 1, zv % 999999 + 1, []⟩ from REntry_rd.2 ⟨A7, n7, c7, rfl, g1, g2, g3, ho7.cap.1, ho7.cap.2, ho7.rd⟩)
      clear hown hb g1 g2 g3 ho7
      have hal : Below W7.heap.size W7 (W7.alloc (.cells #[.string s, .int .i64 1, .int .i64 (zv % 999999 + 1), .slice A7 n7 c7] 36)) := (Below.refl _ _).alloc (Nat.le_refl _) _
      have HL_11 := Lib.hid (C11S.fup HL_10.out hal)
      have HB_11 := Lib.hid (HB_10.out.trans (hal.mono HB_10.out.size))
      have HP_11 := Lib.hid (upP HP_10.out hal)
      have HX_11 := Lib.hid (HX_10.out.below hal HX_10.out.lt)
      have HE_11 := Lib.hid (upE HE_10.out hal)
      have HF_11 := Lib.hid (HF_10.out.below hal HF_10.out.lt)
      have HG_11 := Lib.hid (upE HG_10.out hal)
      have HO_11 := Lib.hid (Box.new W7 #[.string s, .int .i64 1, .int .i64 (zv % 999999 + 1), .slice A7 n7 c7] 36)
      have zX0 := HX_11.out.cell (j := 0) rfl
      have zX1 := HX_11.out.cell (j := 1) rfl
      have zF0 := HF_11.out.cell (j := 0) rfl
      have zF1 := HF_11.out.cell (j := 1) rfl
      have zF2 := HF_11.out.cell (j := 2) rfl
      have zF3 := HF_11.out.cell (j := 3) rfl
      have zO0 := HO_11.out.cell (j := 0) rfl
      have zO1 := HO_11.out.cell (j := 1) rfl
      have zO2 := HO_11.out.cell (j := 2) rfl
      have zO3 := HO_11.out.cell (j := 3) rfl
      go_wp2_with fail
      clear zX0 zX1 zF0 zF1 zF2 zF3 zO0 zO1 zO2 zO3
      obtain ⟨V7, hW⟩ : ∃ V, W7.alloc (.cells #[.string s, .int .i64 1, .int .i64 (zv % 999999 + 1), .slice A7 n7 c7] 36) = V := ⟨_, rfl⟩
      rw [hW] at HL_11 HB_11 HP_11 HX_11 HE_11 HF_11 HG_11 HO_11
      have HWV7 := Lib.hid hW
      clear hW hal
      rw [HWV7.out]
      refine (HK1.out _ HE_11.out HP_11.out).mono ?_
      rintro e W8 ⟨rfl, hb⟩
      have HL_12 := Lib.hid (C11S.fup HL_11.out hb)
      have HB_12 := Lib.hid (HB_11.out.trans (hb.mono HB_11.out.size))
      have HP_12 := Lib.hid (upP HP_11.out hb)
      have HX_12 := Lib.hid (HX_11.out.below hb HX_11.out.lt)
      have HE_12 := Lib.hid (upE HE_11.out hb)
      have HF_12 := Lib.hid (HF_11.out.below hb HF_11.out.lt)
      have HG_12 := Lib.hid (upE HG_11.out hb)
      have HO_12 := Lib.hid (HO_11.out.below hb HO_11.out.lt)
      clear hb
      have zX0 := HX_12.out.cell (j := 0) rfl
      have zX1 := HX_12.out.cell (j := 1) rfl
      have zF0 := HF_12.out.cell (j := 0) rfl
      have zF1 := HF_12.out.cell (j := 1) rfl
      have zF2 := HF_12.out.cell (j := 2) rfl
      have zF3 := HF_12.out.cell (j := 3) rfl
      have zO0 := HO_12.out.cell (j := 0) rfl
      have zO1 := HO_12.out.cell (j := 1) rfl
      have zO2 := HO_12.out.cell (j := 2) rfl
      have zO3 := HO_12.out.cell (j := 3) rfl
      go_wp2_with fail
      clear zX0 zX1 zF0 zF1 zF2 zF3 zO0 zO1 zO2 zO3
      refine (HK2.out _ _ HG_12.out HP_12.out).mono ?_
      rintro e W9 ⟨rfl, hb⟩
      have HL_13 := Lib.hid (C11S.fup HL_12.out hb)
      have HB_13 := Lib.hid (HB_12.out.trans (hb.mono HB_12.out.size))
      have HP_13 := Lib.hid (upP HP_12.out hb)
      have HX_13 := Lib.hid (HX_12.out.below hb HX_12.out.lt)
      have HE_13 := Lib.hid (upE HE_12.out hb)
      have HF_13 := Lib.hid (HF_12.out.below hb HF_12.out.lt)
      have HG_13 := Lib.hid (upE HG_12.out hb)
      have HO_13 := Lib.hid (HO_12.out.below hb HO_12.out.lt)
      clear hb
      have zX0 := HX_13.out.cell (j := 0) rfl
      have zX1 := HX_13.out.cell (j := 1) rfl
      have zF0 := HF_13.out.cell (j := 0) rfl
      have zF1 := HF_13.out.cell (j := 1) rfl
      have zF2 := HF_13.out.cell (j := 2) rfl
      have zF3 := HF_13.out.cell (j := 3) rfl
      have zO0 := HO_13.out.cell (j := 0) rfl
      have zO1 := HO_13.out.cell (j := 1) rfl
      have zO2 := HO_13.out.cell (j := 2) rfl
      have zO3 := HO_13.out.cell (j := 3) rfl
      go_wp2_with fail
      clear zX0 zX1 zF0 zF1 zF2 zF3 zO0 zO1 zO2 zO3
      refine (HK3.out _ HE_13.out HP_13.out).mono ?_
      rintro e W10 ⟨rfl, hb⟩
      have HL_14 := Lib.hid (C11S.fup HL_13.out hb)
      have HB_14 := Lib.hid (HB_13.out.trans (hb.mono HB_13.out.size))
      have HP_14 := Lib.hid (upP HP_13.out hb)
      have HX_14 := Lib.hid (HX_13.out.below hb HX_13.out.lt)
      have HE_14 := Lib.hid (upE HE_13.out hb)
      have HF_14 := Lib.hid (HF_13.out.below hb HF_13.out.lt)
      have HG_14 := Lib.hid (upE HG_13.out hb)
      have HO_14 := Lib.hid (HO_13.out.below hb HO_13.out.lt)
      clear hb
      have zX0 := HX_14.out.cell (j := 0) rfl
      have zX1 := HX_14.out.cell (j := 1) rfl
      have zF0 := HF_14.out.cell (j := 0) rfl
      have zF1 := HF_14.out.cell (j := 1) rfl
      have zF2 := HF_14.out.cell (j := 2) rfl
      have zF3 := HF_14.out.cell (j := 3) rfl
      have zO0 := HO_14.out.cell (j := 0) rfl
      have zO1 := HO_14.out.cell (j := 1) rfl
      have zO2 := HO_14.out.cell (j := 2) rfl
      have zO3 := HO_14.out.cell (j := 3) rfl
      go_wp2_with fail
      clear zX0 zX1 zF0 zF1 zF2 zF3 zO0 zO1 zO2 zO3
      refine (HK4.out _ HE_14.out HP_14.out).mono ?_
      rintro e W11 ⟨rfl, hb⟩
      have HL_15 := Lib.hid (C11S.fup HL_14.out hb)
      have HB_15 := Lib.hid (HB_14.out.trans (hb.mono HB_14.out.size))
      have HP_15 := Lib.hid (upP HP_14.out hb)
      have HX_15 := Lib.hid (HX_14.out.below hb HX_14.out.lt)
      have HE_15 := Lib.hid (upE HE_14.out hb)
      have HF_15 := Lib.hid (HF_14.out.below hb HF_14.out.lt)
      have HG_15 := Lib.hid (upE HG_14.out hb)
      have HO_15 := Lib.hid (HO_14.out.below hb HO_14.out.lt)
      clear hb
      have zX0 := HX_15.out.cell (j := 0) rfl
      have zX1 := HX_15.out.cell (j := 1) rfl
      have zF0 := HF_15.out.cell (j := 0) rfl
      have zF1 := HF_15.out.cell (j := 1) rfl
      have zF2 := HF_15.out.cell (j := 2) rfl
      have zF3 := HF_15.out.cell (j := 3) rfl
      have zO0 := HO_15.out.cell (j := 0) rfl
      have zO1 := HO_15.out.cell (j := 1) rfl
      have zO2 := HO_15.out.cell (j := 2) rfl
      have zO3 := HO_15.out.cell (j := 3) rfl
      go_wp2_with fail
      clear zX0 zX1 zF0 zF1 zF2 zF3 zO0 zO1 zO2 zO3
      refine (iSizeOfProof_any _ ⟨pa, pp⟩ W11 HP_15.out hpt).mono ?_
      rintro e W12 ⟨rfl, hb⟩
      have HL_16 := Lib.hid (C11S.fup HL_15.out hb)
      have HB_16 := Lib.hid (HB_15.out.trans (hb.mono HB_15.out.size))
      have HP_16 := Lib.hid (upP HP_15.out hb)
      have HX_16 := Lib.hid (HX_15.out.below hb HX_15.out.lt)
      have HE_16 := Lib.hid (upE HE_15.out hb)
      have HF_16 := Lib.hid (HF_15.out.below hb HF_15.out.lt)
      have HG_16 := Lib.hid (upE HG_15.out hb)
      have HO_16 := Lib.hid (HO_15.out.below hb HO_15.out.lt)
      clear hb
      have hsz : ¬ (5 : Int) < sizeP ⟨pa, pp⟩ := by have := k5; unfold sizeP; simp only at this ⊢; omega
      have zX0 := HX_16.out.cell (j := 0) rfl
      have zX1 := HX_16.out.cell (j := 1) rfl
      have zF0 := HF_16.out.cell (j := 0) rfl
      have zF1 := HF_16.out.cell (j := 1) rfl
      have zF2 := HF_16.out.cell (j := 2) rfl
      have zF3 := HF_16.out.cell (j := 3) rfl
      have zO0 := HO_16.out.cell (j := 0) rfl
      have zO1 := HO_16.out.cell (j := 1) rfl
      have zO2 := HO_16.out.cell (j := 2) rfl
      have zO3 := HO_16.out.cell (j := 3) rfl
      go_wp2_with fail
      clear zX0 zX1 zF0 zF1 zF2 zF3 zO0 zO1 zO2 zO3
      refine (drawCheckEntry_any W12 A n c hn ((HR.out.below HB_16.out).more HB_16.out.size)).mono ?_
      rintro e Y1 ⟨r1, m1, cs, k, ds, q, rfl, hr1, hm1, hk, htk, hq, htq, hb⟩
      obtain ⟨Ae, ne, ce, rfl, -⟩ := REntry_rd.1 hk
      obtain ⟨Aq, nq, cq, rfl, -⟩ := RProof_rd.1 hq
      have HB_17 := Lib.hid (HB_16.out.trans (hb.mono HB_16.out.size))
      have HE_17 := Lib.hid hk
      have HQ_17 := Lib.hid hq
      have HIC := Lib.hid (fun w1 h h' => iCheckEntry_any r1 m1 [.string k.label, .int .i64 k.kind, .int .i64 k.value, .slice Ae ne ce] k [.int .i64 q.at_, .slice Aq nq cq] q w1 (inI64 (by omega) (by omega)) (inI64 (by omega) (by omega)) h h' (by omega) (by omega))
      have HSC := Lib.hid (fun w1 h h' => sCheckEntry_any r1 m1 [.string k.label, .int .i64 k.kind, .int .i64 k.value, .slice Ae ne ce] k [.int .i64 q.at_, .slice Aq nq cq] q w1 (inI64 (by omega) (by omega)) (inI64 (by omega) (by omega)) h h' (by omega) (by omega))
      generalize checkE r1 m1 k q = b1 at HIC HSC
      have hbb : (b1 == b1) = true := by simp
      obtain ⟨kl, kk, kv, kp⟩ := k
      obtain ⟨qa, qp⟩ := q
      simp only at HIC HSC HE_17 HQ_17
      clear hk hq hb htk htq
      have hal : Below Y1.heap.size Y1 (Y1.alloc (.cells #[.string kl, .int .i64 kk, .int .i64 kv, .slice Ae ne ce] 36)) := (Below.refl _ _).alloc (Nat.le_refl _) _
      have HB_18 := Lib.hid (HB_17.out.trans (hal.mono HB_17.out.size))
      have HE_18 := Lib.hid (upE HE_17.out hal)
      have HQ_18 := Lib.hid (upP HQ_17.out hal)
      have HX_18 := Lib.hid (Box.new Y1 #[.string kl, .int .i64 kk, .int .i64 kv, .slice Ae ne ce] 36)
      obtain ⟨Y2, hW⟩ : ∃ V, Y1.alloc (.cells #[.string kl, .int .i64 kk, .int .i64 kv, .slice Ae ne ce] 36) = V := ⟨_, rfl⟩
      rw [hW] at HB_18 HE_18 HQ_18 HX_18
      have HWY2 := Lib.hid hW
      clear hW hal
      have hal : Below Y2.heap.size Y2 (Y2.alloc (.cells #[.int .i64 qa, .slice Aq nq cq] 29)) := (Below.refl _ _).alloc (Nat.le_refl _) _
      have HB_19 := Lib.hid (HB_18.out.trans (hal.mono HB_18.out.size))
      have HE_19 := Lib.hid (upE HE_18.out hal)
      have HQ_19 := Lib.hid (upP HQ_18.out hal)
      have HX_19 := Lib.hid (HX_18.out.below hal HX_18.out.lt)
      have HZ_19 := Lib.hid (Box.new Y2 #[.int .i64 qa, .slice Aq nq cq] 29)
      obtain ⟨Y3, hW⟩ : ∃ V, Y2.alloc (.cells #[.int .i64 qa, .slice Aq nq cq] 29) = V := ⟨_, rfl⟩
      rw [hW] at HB_19 HE_19 HQ_19 HX_19 HZ_19
      have HWY3 := Lib.hid hW
      clear hW hal
      have hY2 : Y2.heap.size = Y1.heap.size + 1 := by rw [← HWY2.out]; simp
      rw [hY2] at HZ_19
      clear hY2
      go_wp2_with fail
      rw [HWY2.out, HWY3.out]
      refine (drawCheckAll_any Y3 A n c hn ((HR.out.below HB_19.out).more HB_19.out.size)).mono ?_
      rintro e Y4 ⟨A4, n4, c4, l4, r4, rfl, hr4, hr5, hs4, ho4, hb⟩
      have HB_20 := Lib.hid (HB_19.out.trans (hb.mono HB_19.out.size))
      have HE_20 := Lib.hid (upE HE_19.out hb)
      have HQ_20 := Lib.hid (upP HQ_19.out hb)
      have HX_20 := Lib.hid (HX_19.out.below hb HX_19.out.lt)
      have HZ_20 := Lib.hid (HZ_19.out.below hb HZ_19.out.lt)
      have HM_20 := Lib.hid ho4.rd
      have ht4 : totR totEntry l4 ≤ 1048576 := by have := smL_fine hs4; omega
      have HIA := Lib.hid (fun w1 h => iCheckAll_any r4 A4 n4 c4 l4 w1 h ht4)
      have HSA := Lib.hid (fun w1 h => sCheckAll_any r4 A4 n4 c4 l4 w1 h ht4)
      generalize checkL r4 l4 = b2 at HIA HSA
      have hcc : (b2 == b2) = true := by simp
      clear hb ho4 hs4 ht4
      have hdr : Below Y4.heap.size Y4 Y4.drew := (Below.refl _ _).drew
      have HB_21 := Lib.hid (HB_20.out.trans (hdr.mono HB_20.out.size))
      have HE_21 := Lib.hid (upE HE_20.out hdr)
      have HQ_21 := Lib.hid (upP HQ_20.out hdr)
      have HX_21 := Lib.hid (HX_20.out.below hdr HX_20.out.lt)
      have HZ_21 := Lib.hid (HZ_20.out.below hdr HZ_20.out.lt)
      have HM_21 := Lib.hid (C11S.fup HM_20.out hdr)
      have zX0 := HX_21.out.cell (j := 0) rfl
      have zX1 := HX_21.out.cell (j := 1) rfl
      have zX2 := HX_21.out.cell (j := 2) rfl
      have zX3 := HX_21.out.cell (j := 3) rfl
      have zZ0 := HZ_21.out.cell (j := 0) rfl
      have zZ1 := HZ_21.out.cell (j := 1) rfl
      clear hdr
      go_wp2_with fail
      go_region_held3 (fun w' => w'.cell? ⟨Y1.heap.size, 0, none⟩ = some (.string kl) ∧ w'.cell? ⟨Y1.heap.size, 1, none⟩ = some (.int .i64 kk) ∧ w'.cell? ⟨Y1.heap.size, 2, none⟩ = some (.int .i64 kv) ∧ w'.cell? ⟨Y1.heap.size, 3, none⟩ = some (.slice Ae ne ce) ∧ w'.cell? ⟨Y1.heap.size + 1, 0, none⟩ = some (.int .i64 qa) ∧ w'.cell? ⟨Y1.heap.size + 1, 1, none⟩ = some (.slice Aq nq cq)) (go_keep) ((first
        | (go_at_call 13; refine (HIC.out _ HE_21.out HQ_21.out).mono ?_; rintro e U0 ⟨rfl, hb⟩; have HB_22 := Lib.hid (HB_21.out.trans (hb.mono HB_21.out.size)); have HE_22 := Lib.hid (upE HE_21.out hb); have HQ_22 := Lib.hid (upP HQ_21.out hb); have HX_22 := Lib.hid (HX_21.out.below hb HX_21.out.lt); have HZ_22 := Lib.hid (HZ_21.out.below hb HZ_21.out.lt); have HM_22 := Lib.hid (C11S.fup HM_21.out hb); have z0X0 := HX_22.out.cell (j := 0) rfl; have z0X1 := HX_22.out.cell (j := 1) rfl; have z0X2 := HX_22.out.cell (j := 2) rfl; have z0X3 := HX_22.out.cell (j := 3) rfl; have z0Z0 := HZ_22.out.cell (j := 0) rfl; have z0Z1 := HZ_22.out.cell (j := 1) rfl; clear hb)
        | (go_at_call 18; refine (HSC.out _ HE_22.out HQ_22.out).mono ?_; rintro e U1 ⟨rfl, hb⟩; have HB_23 := Lib.hid (HB_22.out.trans (hb.mono HB_22.out.size)); have HE_23 := Lib.hid (upE HE_22.out hb); have HQ_23 := Lib.hid (upP HQ_22.out hb); have HX_23 := Lib.hid (HX_22.out.below hb HX_22.out.lt); have HZ_23 := Lib.hid (HZ_22.out.below hb HZ_22.out.lt); have HM_23 := Lib.hid (C11S.fup HM_22.out hb); have z1X0 := HX_23.out.cell (j := 0) rfl; have z1X1 := HX_23.out.cell (j := 1) rfl; have z1X2 := HX_23.out.cell (j := 2) rfl; have z1X3 := HX_23.out.cell (j := 3) rfl; have z1Z0 := HZ_23.out.cell (j := 0) rfl; have z1Z1 := HZ_23.out.cell (j := 1) rfl; clear hb)
        | (go_at_call 19; refine (HIA.out _ HM_23.out).mono ?_; rintro e U2 ⟨rfl, hb⟩; have HB_24 := Lib.hid (HB_23.out.trans (hb.mono HB_23.out.size)); have HE_24 := Lib.hid (upE HE_23.out hb); have HQ_24 := Lib.hid (upP HQ_23.out hb); have HX_24 := Lib.hid (HX_23.out.below hb HX_23.out.lt); have HZ_24 := Lib.hid (HZ_23.out.below hb HZ_23.out.lt); have HM_24 := Lib.hid (C11S.fup HM_23.out hb); have z2X0 := HX_24.out.cell (j := 0) rfl; have z2X1 := HX_24.out.cell (j := 1) rfl; have z2X2 := HX_24.out.cell (j := 2) rfl; have z2X3 := HX_24.out.cell (j := 3) rfl; have z2Z0 := HZ_24.out.cell (j := 0) rfl; have z2Z1 := HZ_24.out.cell (j := 1) rfl; clear hb)
        | (go_at_call 20; refine (HSA.out _ HM_24.out).mono ?_; rintro e U3 ⟨rfl, hb⟩; have HB_25 := Lib.hid (HB_24.out.trans (hb.mono HB_24.out.size)); have HE_25 := Lib.hid (upE HE_24.out hb); have HQ_25 := Lib.hid (upP HQ_24.out hb); have HX_25 := Lib.hid (HX_24.out.below hb HX_24.out.lt); have HZ_25 := Lib.hid (HZ_24.out.below hb HZ_24.out.lt); have HM_25 := Lib.hid (C11S.fup HM_24.out hb); have z3X0 := HX_25.out.cell (j := 0) rfl; have z3X1 := HX_25.out.cell (j := 1) rfl; have z3X2 := HX_25.out.cell (j := 2) rfl; have z3X3 := HX_25.out.cell (j := 3) rfl; have z3Z0 := HZ_25.out.cell (j := 0) rfl; have z3Z1 := HZ_25.out.cell (j := 1) rfl; clear hb)))
      go_wp2
      go_ret
      exact ⟨by simp, HB_25.out⟩
end Go.Proofs.YtomajneofdmnaaaGreat.W11F
