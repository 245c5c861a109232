/- The walk of the statement of promise 4: the law returns true, and writes into nothing that was there. -/
import Derived.Test.YteokjoppplbmfaaC04U
import Derived.Test.YteokjoppplbmfaaT04
import Derived.Test.YteokjoppplbmfaaTB
import Derived.Test.YteokjoppplbmfaaD04
namespace Go.Proofs.Yteokjoppplbmfaa.W04F
set_option linter.unusedVariables false
open Go.RowKit Mem MemS M02 M03 M04 C01 C02 C02B C03D C04S C04I D01 D02 D04 SL T01 T04 TB
set_option maxHeartbeats 1000000 in
theorem FnLabels_walk (W0 : World) (A : Option Addr) (n c : Nat) (hn : n ≤ maxLen) (hr : BRow W0 W0.heap.size A n) :
    Calls Try.prog 3 #[.slice A n c] W0 fun e w' => e = .returned (.bool true) ∧ Below W0.heap.size W0 w' := by
  by_cases hbig : 1048576 < n
  · go_enter Try.func3, Try.ntmps3
    go_wp2_with fail
    refine (big_yes _ _ _ _ hbig).mono ?_
    rintro e w1 ⟨rfl, rfl⟩
    go_wp2
    go_ret
    exact ⟨rfl, Below.refl _ _⟩
  have HR := Lib.hid hr
  clear hr
  go_enter Try.func3, Try.ntmps3
  go_wp2_with fail
  refine (big_no _ _ _ _ (by omega)).mono ?_
  rintro e w1 ⟨rfl, rfl⟩
  go_wp2_with fail
  refine (drawLooksLike_any W0 A n c hn HR.out).mono ?_
  rintro e W1 ⟨a, b, rfl, ha, hb, hb1⟩
  have HB1 := Lib.hid hb1
  clear hb1
  go_wp2_with fail
  refine (drawFirstAlike_any W1 A n c hn ((HR.out.below HB1.out).more HB1.out.size)).mono ?_
  rintro e W2 ⟨A1, m, c1, ss, v, rfl, hm, hss, hv, ho2, hb2⟩
  have HO2 := Lib.hid ho2
  have HB2 := Lib.hid (HB1.out.trans (hb2.mono HB1.out.size))
  have HSS := Lib.hid hss
  clear ho2 hb2 hss
  -- the contracts of the last line
  have HIa := Lib.hid fun w => iIsLabel_any a w (by omega)
  have HSa := Lib.hid fun w => sIsLabel_b a w (by omega)
  have hLaa := fun w => iLooksLike_any a a w (by omega) (by omega)
  have HLab := Lib.hid fun w => iLooksLike_any a b w (by omega) (by omega)
  have HMab := Lib.hid fun w => sLooksLike_any a b w (by omega) (by omega)
  have hLba := fun w => iLooksLike_any b a w (by omega) (by omega)
  rw [looks_self] at hLaa
  rw [looks_comm b a] at hLba
  have HLaa := Lib.hid hLaa
  have HLba := Lib.hid hLba
  clear hLaa hLba
  generalize isLab a = p1 at HIa HSa HLaa
  generalize looks a b = p2 at HLab HMab HLba
  have hCab := fun w => iCompareLabels_any a b w
  have HCba := Lib.hid fun w => iCompareLabels_any b a w
  rw [cmpS_neg a b] at hCab
  have HCab := Lib.hid hCab
  have hcr := cmpS_range b a
  have hd0 : -1 ≤ cmpS b a := by omega
  have hd1 : cmpS b a ≤ 1 := by omega
  clear hCab hcr
  generalize cmpS b a = d at HCab HCba hd0 hd1
  have HPa := Lib.hid fun w => iPlainOf_any a w (by omega)
  have hPp := fun w => iPlainOf_any (plain a) w (by have := plain_size a; omega)
  rw [plain_idem] at hPp
  have HPp := Lib.hid hPp
  clear hPp
  have HNi := Lib.hid fun w => iLabelInts_any a w (by omega)
  have HNs := Lib.hid fun w => sLabelInts_any a w (by omega)
  generalize plain a = pa at HPa HPp
  have HFA := Lib.hid fun (w : World) (h : RdS w w.heap.size A1 m ss) => iFirstAlike_any _ A1 m c1 ss v w h (Nat.le_refl _) (by omega) (fun s hs => by have := HSS.out s hs; omega) (by omega)
  have hlen := HO2.out.len
  have hsay := fstA_says v ss 0 (by omega)
  have hrg := fstA_range v ss 0
  generalize fstA v 0 ss = K at HFA hsay hrg
  have HLK := Lib.hid fun (j : Nat) (hj : j < ss.length) (w : World) => iLooksLike_any (ss.getD j .empty) v w (by
    have hz : ss.getD j .empty ∈ ss := by
      simp only [List.getD, List.getElem?_eq_getElem hj, Option.getD_some]
      exact List.getElem_mem hj
    have := HSS.out _ hz
    omega) (by omega)
  have HS1 := Lib.hid hsay.1
  have HS2 := Lib.hid hsay.2
  have HLen := Lib.hid hlen
  clear hsay hlen
  go_wp2_with fail
  refine (HFA.out _ HO2.out.rd).mono ?_
  rintro e W3 ⟨rfl, hb3⟩
  have HO := Lib.hid (HO2.out.below hb3 (Nat.le_refl _))
  have HZ3 := Lib.hid hb3.size
  have HB3 := Lib.hid (HB2.out.trans (hb3.mono HB2.out.size))
  clear hb3
  rcases hrg with rfl | ⟨hk0, hk1⟩
  · -- none is alike
    have h1 : ¬ (m : Int) ≤ -1 := by omega
    go_wp2
    go_loopw [8] (fun i wr => ∃ j : Nat, j ≤ m ∧ i = .int .i64 j ∧ Below W3.heap.size W3 wr) (fun i _ => m - (intOf i).toNat)
    case atStart => exact ⟨0, by omega, rfl, Below.refl _ _⟩
    case round =>
      obtain ⟨j, hj, rfl, hbl⟩ := hrel
      have HL := Lib.hid hbl
      have HBr := Lib.hid (HB3.out.trans (hbl.mono HB3.out.size))
      clear hbl
      by_cases hjm : j < m
      · have hjl : j < ss.length := by rw [HLen.out]; exact hjm
        obtain ⟨b0, off, rfl, hlt, hcell⟩ := (HO.out.rd.below HL.out HZ3.out).cell_at hjm
        have hf := HS1.out j hjl (.inl (by omega))
        have hK := HLK.out j hjl
        rw [hf] at hK
        have HK := Lib.hid hK
        generalize ss.getD j .empty = s at hcell HK
        clear hf hK hjl
        go_wp2_with fail
        refine (HK.out _).mono ?_
        rintro e W4 ⟨rfl, hb4⟩
        have HL4 := Lib.hid (HL.out.trans (hb4.mono HL.out.size))
        clear hb4
        go_wp2
        go_roundw
        case rel => exact ⟨j + 1, by omega, by go_num, HL4.out⟩
        case measure => simp [intOf]; omega
      · clear h1
        go_wp2_with fail
        refine (HIa.out _).mono ?_
        rintro e W5 ⟨rfl, hb5⟩
        have HB5 := Lib.hid (HBr.out.trans (hb5.mono HBr.out.size))
        clear hb5
        go_wp2_with fail
        refine (HSa.out _).mono ?_
        rintro e W6 ⟨rfl, hb6⟩
        have HB6 := Lib.hid (HB5.out.trans (hb6.mono HB5.out.size))
        clear hb6
        go_wp2_with fail
        refine (HLab.out _).mono ?_
        rintro e W7 ⟨rfl, hb7⟩
        have HB7 := Lib.hid (HB6.out.trans (hb7.mono HB6.out.size))
        clear hb7
        go_wp2_with fail
        refine (HMab.out _).mono ?_
        rintro e W8 ⟨rfl, hb8⟩
        have HB8 := Lib.hid (HB7.out.trans (hb8.mono HB7.out.size))
        clear hb8
        go_wp2_with fail
        refine (HLab.out _).mono ?_
        rintro e W9 ⟨rfl, hb9⟩
        have HB9 := Lib.hid (HB8.out.trans (hb9.mono HB8.out.size))
        clear hb9
        go_wp2_with fail
        refine (HLba.out _).mono ?_
        rintro e W10 ⟨rfl, hb10⟩
        have HB10 := Lib.hid (HB9.out.trans (hb10.mono HB9.out.size))
        clear hb10
        go_wp2_with fail
        refine (HLaa.out _).mono ?_
        rintro e W11 ⟨rfl, hb11⟩
        have HB11 := Lib.hid (HB10.out.trans (hb11.mono HB10.out.size))
        clear hb11
        go_wp2_with fail
        refine (HIa.out _).mono ?_
        rintro e W12 ⟨rfl, hb12⟩
        have HB12 := Lib.hid (HB11.out.trans (hb12.mono HB11.out.size))
        clear hb12
        go_wp2_with fail
        refine (HCab.out _).mono ?_
        rintro e W13 ⟨rfl, rfl⟩
        go_wp2_with fail
        refine (HCba.out _).mono ?_
        rintro e W14 ⟨rfl, rfl⟩
        go_wp2_with fail
        refine (HPa.out _).mono ?_
        rintro e W15 ⟨rfl, hb15⟩
        have HB15 := Lib.hid (HB12.out.trans (hb15.mono HB12.out.size))
        clear hb15
        go_wp2_with fail
        refine (HPp.out _).mono ?_
        rintro e W16 ⟨rfl, hb16⟩
        have HB16 := Lib.hid (HB15.out.trans (hb16.mono HB15.out.size))
        clear hb16
        go_wp2_with fail
        refine (HPa.out _).mono ?_
        rintro e W17 ⟨rfl, hb17⟩
        have HB17 := Lib.hid (HB16.out.trans (hb17.mono HB16.out.size))
        clear hb17
        go_wp2_with fail
        refine (HNi.out _).mono ?_
        rintro e W18 ⟨A8, c8, rfl, ho8, hb18⟩
        have HO8 := Lib.hid ho8
        have HB18 := Lib.hid (HB17.out.trans (hb18.mono HB17.out.size))
        clear ho8 hb18
        go_wp2_with fail
        refine (HNs.out _).mono ?_
        rintro e W19 ⟨A9, c9, rfl, ho9, hb19⟩
        have HO9 := Lib.hid ho9
        have HO8' := Lib.hid (HO8.out.below hb19 (Nat.le_refl _))
        have HB19 := Lib.hid (HB18.out.trans (hb19.mono HB18.out.size))
        clear ho9 hb19
        go_wp2_with fail
        refine (sameInts_same _ _ A8 A9 _ c8 c9 _ _ HO8'.out.rd HO9.out.rd (by omega)).mono ?_
        rintro e W20 ⟨rfl, hb20⟩
        have HB20 := Lib.hid (HB19.out.trans (hb20.below _))
        clear hb20
        go_wp2
        go_ret
        exact ⟨rfl, HB20.out⟩
  · -- the first that is alike
    obtain ⟨q, rfl⟩ : ∃ q : Nat, K = q := ⟨K.toNat, by omega⟩
    have hqm : q < m := by have := HLen.out; omega
    obtain ⟨hql, hqt⟩ := HS2.out q (by omega)
    have h1 : ¬ (m : Int) ≤ q := by omega
    have h1n : ¬ m ≤ q := by omega
    have h2 : ¬ (q : Int) < 0 := by omega
    obtain ⟨b1, off1, rfl, hlt1, hcell1⟩ := HO.out.rd.cell_at hqm
    have hK := HLK.out q hql
    rw [hqt] at hK
    have HK1 := Lib.hid hK
    generalize ss.getD q .empty = s1 at hcell1 HK1
    have HLT := Lib.hid hlt1
    clear hK hqt hql hlt1 hk0 hk1
    go_wp2_with fail
    refine (HK1.out _).mono ?_
    rintro e W4 ⟨rfl, hb4⟩
    have HO4 := Lib.hid (HO.out.below hb4 HZ3.out)
    have HZ4 := Lib.hid (Nat.le_trans HZ3.out hb4.size)
    have HB4 := Lib.hid (HB3.out.trans (hb4.mono HB3.out.size))
    clear hb4 hcell1
    go_wp2
    go_loopw [8] (fun i wr => ∃ j : Nat, j ≤ m ∧ i = .int .i64 j ∧ Below W4.heap.size W4 wr) (fun i _ => m - (intOf i).toNat)
    case atStart => exact ⟨0, by omega, rfl, Below.refl _ _⟩
    case round =>
      obtain ⟨j, hj, rfl, hbl⟩ := hrel
      have HL := Lib.hid hbl
      have HBr := Lib.hid (HB4.out.trans (hbl.mono HB4.out.size))
      clear hbl
      by_cases hjm : j < m
      · by_cases hjq : j < q
        · have hjl : j < ss.length := by rw [HLen.out]; exact hjm
          have hjq2 : (j : Int) < q := by omega
          obtain ⟨b0, off, e0, hlt, hcell⟩ := (HO4.out.rd.below HL.out HZ4.out).cell_at hjm
          injection e0 with e0
          injection e0 with e1 e2 e3
          subst e1 e2
          have hf := HS1.out j hjl (.inr (by omega))
          have hK := HLK.out j hjl
          rw [hf] at hK
          have HK := Lib.hid hK
          generalize ss.getD j .empty = s at hcell HK
          clear hf hK hjl
          go_wp2_with fail
          refine (HK.out _).mono ?_
          rintro e W5 ⟨rfl, hb5⟩
          have HL5 := Lib.hid (HL.out.trans (hb5.mono HL.out.size))
          clear hb5
          go_wp2
          go_roundw
          case rel => exact ⟨j + 1, by omega, by go_num, HL5.out⟩
          case measure => simp [intOf]; omega
        · have hjq2 : ¬ (j : Int) < q := by omega
          go_wp2
          go_roundw
          case rel => exact ⟨j + 1, by omega, by go_num, HL.out⟩
          case measure => simp [intOf]; omega
      · clear h1 h2
        go_wp2_with fail
        refine (HIa.out _).mono ?_
        rintro e W5 ⟨rfl, hb5⟩
        have HB5 := Lib.hid (HBr.out.trans (hb5.mono HBr.out.size))
        clear hb5
        go_wp2_with fail
        refine (HSa.out _).mono ?_
        rintro e W6 ⟨rfl, hb6⟩
        have HB6 := Lib.hid (HB5.out.trans (hb6.mono HB5.out.size))
        clear hb6
        go_wp2_with fail
        refine (HLab.out _).mono ?_
        rintro e W7 ⟨rfl, hb7⟩
        have HB7 := Lib.hid (HB6.out.trans (hb7.mono HB6.out.size))
        clear hb7
        go_wp2_with fail
        refine (HMab.out _).mono ?_
        rintro e W8 ⟨rfl, hb8⟩
        have HB8 := Lib.hid (HB7.out.trans (hb8.mono HB7.out.size))
        clear hb8
        go_wp2_with fail
        refine (HLab.out _).mono ?_
        rintro e W9 ⟨rfl, hb9⟩
        have HB9 := Lib.hid (HB8.out.trans (hb9.mono HB8.out.size))
        clear hb9
        go_wp2_with fail
        refine (HLba.out _).mono ?_
        rintro e W10 ⟨rfl, hb10⟩
        have HB10 := Lib.hid (HB9.out.trans (hb10.mono HB9.out.size))
        clear hb10
        go_wp2_with fail
        refine (HLaa.out _).mono ?_
        rintro e W11 ⟨rfl, hb11⟩
        have HB11 := Lib.hid (HB10.out.trans (hb11.mono HB10.out.size))
        clear hb11
        go_wp2_with fail
        refine (HIa.out _).mono ?_
        rintro e W12 ⟨rfl, hb12⟩
        have HB12 := Lib.hid (HB11.out.trans (hb12.mono HB11.out.size))
        clear hb12
        go_wp2_with fail
        refine (HCab.out _).mono ?_
        rintro e W13 ⟨rfl, rfl⟩
        go_wp2_with fail
        refine (HCba.out _).mono ?_
        rintro e W14 ⟨rfl, rfl⟩
        go_wp2_with fail
        refine (HPa.out _).mono ?_
        rintro e W15 ⟨rfl, hb15⟩
        have HB15 := Lib.hid (HB12.out.trans (hb15.mono HB12.out.size))
        clear hb15
        go_wp2_with fail
        refine (HPp.out _).mono ?_
        rintro e W16 ⟨rfl, hb16⟩
        have HB16 := Lib.hid (HB15.out.trans (hb16.mono HB15.out.size))
        clear hb16
        go_wp2_with fail
        refine (HPa.out _).mono ?_
        rintro e W17 ⟨rfl, hb17⟩
        have HB17 := Lib.hid (HB16.out.trans (hb17.mono HB16.out.size))
        clear hb17
        go_wp2_with fail
        refine (HNi.out _).mono ?_
        rintro e W18 ⟨A8, c8, rfl, ho8, hb18⟩
        have HO8 := Lib.hid ho8
        have HB18 := Lib.hid (HB17.out.trans (hb18.mono HB17.out.size))
        clear ho8 hb18
        go_wp2_with fail
        refine (HNs.out _).mono ?_
        rintro e W19 ⟨A9, c9, rfl, ho9, hb19⟩
        have HO9 := Lib.hid ho9
        have HO8' := Lib.hid (HO8.out.below hb19 (Nat.le_refl _))
        have HB19 := Lib.hid (HB18.out.trans (hb19.mono HB18.out.size))
        clear ho9 hb19
        go_wp2_with fail
        refine (sameInts_same _ _ A8 A9 _ c8 c9 _ _ HO8'.out.rd HO9.out.rd (by omega)).mono ?_
        rintro e W20 ⟨rfl, hb20⟩
        have HB20 := Lib.hid (HB19.out.trans (hb20.below _))
        clear hb20
        go_wp2
        go_ret
        exact ⟨rfl, HB20.out⟩
end Go.Proofs.Yteokjoppplbmfaa.W04F
