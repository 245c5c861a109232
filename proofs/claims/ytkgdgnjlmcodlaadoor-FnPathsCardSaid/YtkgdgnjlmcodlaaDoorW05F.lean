/- The walk of the statement of promise 5: the law returns true, and writes into nothing that was there. -/
import Derived.Test.YtkgdgnjlmcodlaaDoorC05I
import Derived.Test.YtkgdgnjlmcodlaaDoorD05
import Derived.Test.YtkgdgnjlmcodlaaDoorTB
namespace Go.Proofs.YtkgdgnjlmcodlaaDoor.W05F
set_option linter.unusedVariables false
set_option maxRecDepth 100000
open Go.RowKit Mem MemS M02 M04 M05 C01 C02 C05S C05I D05 SL TB
theorem prs_yes {ss : List ByteArray} (h : isPth ss = true) : prsP (fmtP ss) = (ss, true) := by rw [prs_fmt, h]; rfl
theorem prs_no {ss : List ByteArray} (h : isPth ss = false) : prsP (fmtP ss) = ([], false) := by rw [prs_fmt, h]; rfl
theorem prsS_yes {s : ByteArray} (h : isPth (splitS s) = true) : prsP s = (splitS s, true) := by unfold prsP; rw [h]; rfl
theorem prsS_no {s : ByteArray} (h : isPth (splitS s) = false) : prsP s = ([], false) := by unfold prsP; rw [h]; rfl
theorem par_yes {ss : List ByteArray} {m : Nat} (h : isPth ss = true) (hl : ss.length = m) (h1 : m ≠ 1) : parP ss = (ss.take (m - 1), true) := by
  unfold parP
  rw [h, hl, decide_eq_true h1]
  rfl
theorem par_no {ss : List ByteArray} (h : isPth ss = false) : parP ss = ([], false) := by unfold parP; rw [h]; rfl
theorem par_one {ss : List ByteArray} (hl : ss.length = 1) : parP ss = ([], false) := by
  unfold parP
  rw [hl]
  simp
set_option maxHeartbeats 12000000 in
theorem FnPaths_walk (W0 : World) (A : Option Addr) (n c : Nat) (hn : n ≤ maxLen) (hr : BRow W0 W0.heap.size A n) :
    Calls Tryd.prog 3 #[.slice A n c] W0 fun e w' => e = .returned (.bool true) ∧ Below W0.heap.size W0 w' := by
  by_cases hbig : 1048576 < n
  · go_enter Tryd.func3, Tryd.ntmps3
    go_wp2_with fail
    refine (big_yes _ _ _ _ hbig).mono ?_
    rintro e w1 ⟨rfl, rfl⟩
    go_wp2
    go_ret
    exact ⟨rfl, Below.refl _ _⟩
  have HR := Lib.hid hr
  clear hr
  go_enter Tryd.func3, Tryd.ntmps3
  go_wp2_with fail
  refine (big_no _ _ _ _ (by omega)).mono ?_
  rintro e w1 ⟨rfl, rfl⟩
  go_wp2_with fail
  refine (drawFormatPath_any W0 A n c hn HR.out).mono ?_
  rintro e W1 ⟨A1, m, c1, ss, rfl, hm, hss, ho1, hb1⟩
  have HO1 := Lib.hid ho1
  have HB1 := Lib.hid hb1
  have HL := Lib.hid ho1.len
  have HSS := Lib.hid (show ∀ s ∈ ss, s.size ≤ 1099511627776 from fun s hs => by have := hss s hs; omega)
  have hc1 := ho1.cap
  have hc11 := hc1.1
  clear ho1 hb1 hss hc1
  go_wp2_with fail
  refine (iFormatPath_any A1 m c1 ss W1 HO1.out.rd (by omega) HO1.out.cap.1 HSS.out).mono ?_
  rintro e W2 ⟨rfl, hb2⟩
  have HO2 := Lib.hid (HO1.out.below hb2 (Nat.le_refl _)).top
  have HB2 := Lib.hid (HB1.out.trans (hb2.mono HB1.out.size))
  have hfz := fmtP_size ss
  clear hb2
  have hpar : isPth ss = false ∨ (isPth ss = true ∧ m = 1) ∨ (isPth ss = true ∧ m ≠ 1) := by
    rcases isPth ss with _ | _
    · exact .inl rfl
    · by_cases h : m = 1
      · exact .inr (.inl ⟨rfl, h⟩)
      · exact .inr (.inr ⟨rfl, h⟩)
  rcases hpar with hP | ⟨hP, h1⟩ | ⟨hP, h1⟩
  · have hprs := prs_no hP
    have HP := Lib.hid hP
    clear hP
    have hPP := iParsePath_any (fmtP ss) W2 (by omega)
    rw [hprs] at hPP
    have HPP := Lib.hid hPP
    clear hPP hprs
    go_wp2_with fail
    refine HPP.out.mono ?_
    rintro e W3 ⟨Ax, cx, rfl, hox, hb3⟩
    have HOx3 := Lib.hid hox
    have HO3 := Lib.hid (HO2.out.below hb3 (Nat.le_refl _)).top
    have HB3 := Lib.hid (HB2.out.trans (hb3.mono HB2.out.size))
    clear hox hb3
    go_wp2_with fail
    refine (drawParsePath_any W3 A n c hn ((HR.out.below HB3.out).more HB3.out.size)).mono ?_
    rintro e W4 ⟨s, rfl, hs, hb4⟩
    have HOx4 := Lib.hid (HOx3.out.below hb4 (Nat.le_refl _)).top
    have HO4 := Lib.hid (HO3.out.below hb4 (Nat.le_refl _)).top
    have HB4 := Lib.hid (HB3.out.trans (hb4.mono HB3.out.size))
    clear hb4
    have HSL := Lib.hid (splitS_len s)
    rcases hF : isPth (splitS s) with _ | _
    · have hprs := prsS_no hF
      have HF := Lib.hid hF
      clear hF
      have hPP := fun w => iParsePath_any s w (by omega)
      have hPS := fun w => sParsePath_any s w (by omega)
      rw [hprs] at hPP hPS
      have HPI := Lib.hid hPP
      have HPS := Lib.hid hPS
      clear hPP hPS hprs
      go_wp2_with fail
      refine (HPI.out _).mono ?_
      rintro e W5 ⟨Ay, cy, rfl, hoy, hb⟩
      have HOy5 := Lib.hid hoy
      have HO5 := Lib.hid (HO4.out.below hb (Nat.le_refl _)).top
      have HOx5 := Lib.hid (HOx4.out.below hb (Nat.le_refl _)).top
      have HB5 := Lib.hid (HB4.out.trans (hb.mono HB4.out.size))
      clear hoy hb
      go_wp2_with fail
      refine (iIsPath_any _ A1 m c1 ss _ HO5.out.rd (Nat.le_refl _) (by omega) HSS.out).mono ?_
      rw [HP.out]
      rintro e W6 ⟨rfl, hb⟩
      have HO6 := Lib.hid (HO5.out.below hb (Nat.le_refl _)).top
      have HOx6 := Lib.hid (HOx5.out.below hb (Nat.le_refl _)).top
      have HOy6 := Lib.hid (HOy5.out.below hb (Nat.le_refl _)).top
      have HB6 := Lib.hid (HB5.out.trans (hb.mono HB5.out.size))
      clear hb
      go_wp2_with fail
      refine (iIsPath_any _ A1 m c1 ss _ HO6.out.rd (Nat.le_refl _) (by omega) HSS.out).mono ?_
      rw [HP.out]
      rintro e W7 ⟨rfl, hb⟩
      have HO7 := Lib.hid (HO6.out.below hb (Nat.le_refl _)).top
      have HOx7 := Lib.hid (HOx6.out.below hb (Nat.le_refl _)).top
      have HOy7 := Lib.hid (HOy6.out.below hb (Nat.le_refl _)).top
      have HB7 := Lib.hid (HB6.out.trans (hb.mono HB6.out.size))
      clear hb
      go_wp2_with fail
      refine (sIsPath_any _ A1 m c1 ss _ HO7.out.rd (Nat.le_refl _) (by omega) HSS.out).mono ?_
      rw [HP.out]
      rintro e W8 ⟨rfl, hb⟩
      have HO8 := Lib.hid (HO7.out.below hb (Nat.le_refl _)).top
      have HOx8 := Lib.hid (HOx7.out.below hb (Nat.le_refl _)).top
      have HOy8 := Lib.hid (HOy7.out.below hb (Nat.le_refl _)).top
      have HB8 := Lib.hid (HB7.out.trans (hb.mono HB7.out.size))
      clear hb
      go_wp2_with fail
      refine (HPS.out _).mono ?_
      rintro e W9 ⟨Av, cv, rfl, hov, hb⟩
      have HO9 := Lib.hid (HO8.out.below hb (Nat.le_refl _)).top
      have HOx9 := Lib.hid (HOx8.out.below hb (Nat.le_refl _)).top
      have HOy9 := Lib.hid (HOy8.out.below hb (Nat.le_refl _)).top
      have HB9 := Lib.hid (HB8.out.trans (hb.mono HB8.out.size))
      clear hov hb
      have hPar := iParentOf_any A1 m c1 ss _ HO9.out.rd (by omega) hc11 HSS.out
      rw [par_no HP.out] at hPar
      have HPar := Lib.hid hPar
      clear hPar
      go_wp2_with fail
      refine HPar.out.mono ?_
      rintro e W10 ⟨Aq, cq, rfl, hoq, hb⟩
      have HOq10 := Lib.hid hoq
      have HO10 := Lib.hid (HO9.out.below hb (Nat.le_refl _)).top
      have HOx10 := Lib.hid (HOx9.out.below hb (Nat.le_refl _)).top
      have HOy10 := Lib.hid (HOy9.out.below hb (Nat.le_refl _)).top
      have HB10 := Lib.hid (HB9.out.trans (hb.mono HB9.out.size))
      clear hoq hb
      go_wp2_with fail
      refine (drawIsBelow_any _ A n c hn ((HR.out.below HB10.out).more HB10.out.size)).mono ?_
      rintro e W11 ⟨Aa, ma, ca, sa, Ab, mb, cb, sb, rfl, hma, hmb, has, hbs, hoa, hob, hb⟩
      have HOa11 := Lib.hid hoa
      have HOb11 := Lib.hid hob
      have HO11 := Lib.hid (HO10.out.below hb (Nat.le_refl _)).top
      have HOx11 := Lib.hid (HOx10.out.below hb (Nat.le_refl _)).top
      have HOy11 := Lib.hid (HOy10.out.below hb (Nat.le_refl _)).top
      have HB11 := Lib.hid (HB10.out.trans (hb.mono HB10.out.size))
      have hca := hoa.cap
      have hca1 := hca.1
      have HAS := Lib.hid (show ∀ x ∈ sa, x.size ≤ 1099511627776 from fun x hx => by have := has x hx; omega)
      have HBS := Lib.hid (show ∀ x ∈ sb, x.size ≤ 1099511627776 from fun x hx => by have := hbs x hx; omega)
      clear hoa hob hb has hbs hca
      go_wp2_with fail
      refine (iIsPath_any _ A1 m c1 ss _ HO11.out.rd (Nat.le_refl _) (by omega) HSS.out).mono ?_
      rw [HP.out]
      rintro e W12 ⟨rfl, hb⟩
      have HO12 := Lib.hid (HO11.out.below hb (Nat.le_refl _)).top
      have HOx12 := Lib.hid (HOx11.out.below hb (Nat.le_refl _)).top
      have HOy12 := Lib.hid (HOy11.out.below hb (Nat.le_refl _)).top
      have HOa12 := Lib.hid (HOa11.out.below hb (Nat.le_refl _)).top
      have HOb12 := Lib.hid (HOb11.out.below hb (Nat.le_refl _)).top
      have HB12 := Lib.hid (HB11.out.trans (hb.mono HB11.out.size))
      clear hb
      go_wp2_with fail
      refine (iIsBelow_any Aa Ab ma ca mb cb sa sb _ HOa12.out.rd HOb12.out.rd (by omega) hca1 (by omega) HAS.out HBS.out).mono ?_
      rintro e W13 ⟨rfl, hb⟩
      have HO13 := Lib.hid (HO12.out.below hb (Nat.le_refl _)).top
      have HOx13 := Lib.hid (HOx12.out.below hb (Nat.le_refl _)).top
      have HOy13 := Lib.hid (HOy12.out.below hb (Nat.le_refl _)).top
      have HOa13 := Lib.hid (HOa12.out.below hb (Nat.le_refl _)).top
      have HOb13 := Lib.hid (HOb12.out.below hb (Nat.le_refl _)).top
      have HB13 := Lib.hid (HB12.out.trans (hb.mono HB12.out.size))
      clear hb
      go_wp2_with fail
      refine (sIsBelow_any Aa Ab ma ca mb cb sa sb _ HOa13.out.rd HOb13.out.rd (by omega) hca1 (by omega) HAS.out HBS.out).mono ?_
      rintro e W14 ⟨rfl, hb⟩
      have HO14 := Lib.hid (HO13.out.below hb (Nat.le_refl _)).top
      have HOx14 := Lib.hid (HOx13.out.below hb (Nat.le_refl _)).top
      have HOy14 := Lib.hid (HOy13.out.below hb (Nat.le_refl _)).top
      have HOa14 := Lib.hid (HOa13.out.below hb (Nat.le_refl _)).top
      have HOb14 := Lib.hid (HOb13.out.below hb (Nat.le_refl _)).top
      have HB14 := Lib.hid (HB13.out.trans (hb.mono HB13.out.size))
      clear hb
      go_wp2
      go_ret
      exact ⟨by simp, HB14.out⟩
    · have hprs := prsS_yes hF
      have HF := Lib.hid hF
      clear hF
      have hPP := fun w => iParsePath_any s w (by omega)
      have hPS := fun w => sParsePath_any s w (by omega)
      rw [hprs] at hPP hPS
      have HFM := Lib.hid (fmt_prs s HF.out)
      have HPI := Lib.hid hPP
      have HPS := Lib.hid hPS
      clear hPP hPS hprs
      generalize hy : splitS s = y at HPI HPS HF HFM HSL
      clear hy
      go_wp2_with fail
      refine (HPI.out _).mono ?_
      rintro e W5 ⟨Ay, cy, rfl, hoy, hb⟩
      have HOy5 := Lib.hid hoy
      have HO5 := Lib.hid (HO4.out.below hb (Nat.le_refl _)).top
      have HOx5 := Lib.hid (HOx4.out.below hb (Nat.le_refl _)).top
      have HB5 := Lib.hid (HB4.out.trans (hb.mono HB4.out.size))
      clear hoy hb
      go_wp2_with fail
      refine (iIsPath_any _ A1 m c1 ss _ HO5.out.rd (Nat.le_refl _) (by omega) HSS.out).mono ?_
      rw [HP.out]
      rintro e W6 ⟨rfl, hb⟩
      have HO6 := Lib.hid (HO5.out.below hb (Nat.le_refl _)).top
      have HOx6 := Lib.hid (HOx5.out.below hb (Nat.le_refl _)).top
      have HOy6 := Lib.hid (HOy5.out.below hb (Nat.le_refl _)).top
      have HB6 := Lib.hid (HB5.out.trans (hb.mono HB5.out.size))
      clear hb
      go_wp2_with fail
      refine (iIsPath_any _ Ay y.length cy y _ HOy6.out.rd (Nat.le_refl _) (by have := HSL.out.1; omega) (fun x hx => by have := HSL.out.2 x hx; omega)).mono ?_
      rw [HF.out]
      rintro e W7 ⟨rfl, hb⟩
      have HO7 := Lib.hid (HO6.out.below hb (Nat.le_refl _)).top
      have HOx7 := Lib.hid (HOx6.out.below hb (Nat.le_refl _)).top
      have HOy7 := Lib.hid (HOy6.out.below hb (Nat.le_refl _)).top
      have HB7 := Lib.hid (HB6.out.trans (hb.mono HB6.out.size))
      clear hb
      go_wp2_with fail
      refine (iFormatPath_any Ay y.length cy y _ HOy7.out.rd (by have := HSL.out.1; omega) HOy7.out.cap.1 (fun x hx => by have := HSL.out.2 x hx; omega)).mono ?_
      rw [HFM.out]
      rintro e W8 ⟨rfl, hb⟩
      have HO8 := Lib.hid (HO7.out.below hb (Nat.le_refl _)).top
      have HOx8 := Lib.hid (HOx7.out.below hb (Nat.le_refl _)).top
      have HOy8 := Lib.hid (HOy7.out.below hb (Nat.le_refl _)).top
      have HB8 := Lib.hid (HB7.out.trans (hb.mono HB7.out.size))
      clear hb
      go_wp2_with fail
      refine (iIsPath_any _ A1 m c1 ss _ HO8.out.rd (Nat.le_refl _) (by omega) HSS.out).mono ?_
      rw [HP.out]
      rintro e W9 ⟨rfl, hb⟩
      have HO9 := Lib.hid (HO8.out.below hb (Nat.le_refl _)).top
      have HOx9 := Lib.hid (HOx8.out.below hb (Nat.le_refl _)).top
      have HOy9 := Lib.hid (HOy8.out.below hb (Nat.le_refl _)).top
      have HB9 := Lib.hid (HB8.out.trans (hb.mono HB8.out.size))
      clear hb
      go_wp2_with fail
      refine (sIsPath_any _ A1 m c1 ss _ HO9.out.rd (Nat.le_refl _) (by omega) HSS.out).mono ?_
      rw [HP.out]
      rintro e W10 ⟨rfl, hb⟩
      have HO10 := Lib.hid (HO9.out.below hb (Nat.le_refl _)).top
      have HOx10 := Lib.hid (HOx9.out.below hb (Nat.le_refl _)).top
      have HOy10 := Lib.hid (HOy9.out.below hb (Nat.le_refl _)).top
      have HB10 := Lib.hid (HB9.out.trans (hb.mono HB9.out.size))
      clear hb
      go_wp2_with fail
      refine (HPS.out _).mono ?_
      rintro e W11 ⟨Av, cv, rfl, hov, hb⟩
      have HO11 := Lib.hid (HO10.out.below hb (Nat.le_refl _)).top
      have HOx11 := Lib.hid (HOx10.out.below hb (Nat.le_refl _)).top
      have HOy11 := Lib.hid (HOy10.out.below hb (Nat.le_refl _)).top
      have HB11 := Lib.hid (HB10.out.trans (hb.mono HB10.out.size))
      clear hov hb
      have hPar := iParentOf_any A1 m c1 ss _ HO11.out.rd (by omega) hc11 HSS.out
      rw [par_no HP.out] at hPar
      have HPar := Lib.hid hPar
      clear hPar
      go_wp2_with fail
      refine HPar.out.mono ?_
      rintro e W12 ⟨Aq, cq, rfl, hoq, hb⟩
      have HOq12 := Lib.hid hoq
      have HO12 := Lib.hid (HO11.out.below hb (Nat.le_refl _)).top
      have HOx12 := Lib.hid (HOx11.out.below hb (Nat.le_refl _)).top
      have HOy12 := Lib.hid (HOy11.out.below hb (Nat.le_refl _)).top
      have HB12 := Lib.hid (HB11.out.trans (hb.mono HB11.out.size))
      clear hoq hb
      go_wp2_with fail
      refine (drawIsBelow_any _ A n c hn ((HR.out.below HB12.out).more HB12.out.size)).mono ?_
      rintro e W13 ⟨Aa, ma, ca, sa, Ab, mb, cb, sb, rfl, hma, hmb, has, hbs, hoa, hob, hb⟩
      have HOa13 := Lib.hid hoa
      have HOb13 := Lib.hid hob
      have HO13 := Lib.hid (HO12.out.below hb (Nat.le_refl _)).top
      have HOx13 := Lib.hid (HOx12.out.below hb (Nat.le_refl _)).top
      have HOy13 := Lib.hid (HOy12.out.below hb (Nat.le_refl _)).top
      have HB13 := Lib.hid (HB12.out.trans (hb.mono HB12.out.size))
      have hca := hoa.cap
      have hca1 := hca.1
      have HAS := Lib.hid (show ∀ x ∈ sa, x.size ≤ 1099511627776 from fun x hx => by have := has x hx; omega)
      have HBS := Lib.hid (show ∀ x ∈ sb, x.size ≤ 1099511627776 from fun x hx => by have := hbs x hx; omega)
      clear hoa hob hb has hbs hca
      go_wp2_with fail
      refine (iIsPath_any _ A1 m c1 ss _ HO13.out.rd (Nat.le_refl _) (by omega) HSS.out).mono ?_
      rw [HP.out]
      rintro e W14 ⟨rfl, hb⟩
      have HO14 := Lib.hid (HO13.out.below hb (Nat.le_refl _)).top
      have HOx14 := Lib.hid (HOx13.out.below hb (Nat.le_refl _)).top
      have HOy14 := Lib.hid (HOy13.out.below hb (Nat.le_refl _)).top
      have HOa14 := Lib.hid (HOa13.out.below hb (Nat.le_refl _)).top
      have HOb14 := Lib.hid (HOb13.out.below hb (Nat.le_refl _)).top
      have HB14 := Lib.hid (HB13.out.trans (hb.mono HB13.out.size))
      clear hb
      go_wp2_with fail
      refine (iIsBelow_any Aa Ab ma ca mb cb sa sb _ HOa14.out.rd HOb14.out.rd (by omega) hca1 (by omega) HAS.out HBS.out).mono ?_
      rintro e W15 ⟨rfl, hb⟩
      have HO15 := Lib.hid (HO14.out.below hb (Nat.le_refl _)).top
      have HOx15 := Lib.hid (HOx14.out.below hb (Nat.le_refl _)).top
      have HOy15 := Lib.hid (HOy14.out.below hb (Nat.le_refl _)).top
      have HOa15 := Lib.hid (HOa14.out.below hb (Nat.le_refl _)).top
      have HOb15 := Lib.hid (HOb14.out.below hb (Nat.le_refl _)).top
      have HB15 := Lib.hid (HB14.out.trans (hb.mono HB14.out.size))
      clear hb
      go_wp2_with fail
      refine (sIsBelow_any Aa Ab ma ca mb cb sa sb _ HOa15.out.rd HOb15.out.rd (by omega) hca1 (by omega) HAS.out HBS.out).mono ?_
      rintro e W16 ⟨rfl, hb⟩
      have HO16 := Lib.hid (HO15.out.below hb (Nat.le_refl _)).top
      have HOx16 := Lib.hid (HOx15.out.below hb (Nat.le_refl _)).top
      have HOy16 := Lib.hid (HOy15.out.below hb (Nat.le_refl _)).top
      have HOa16 := Lib.hid (HOa15.out.below hb (Nat.le_refl _)).top
      have HOb16 := Lib.hid (HOb15.out.below hb (Nat.le_refl _)).top
      have HB16 := Lib.hid (HB15.out.trans (hb.mono HB15.out.size))
      clear hb
      go_wp2
      go_ret
      exact ⟨by simp, HB16.out⟩
  · have hprs := prs_yes hP
    have hlen := isPth_len hP
    rw [HL.out] at hlen
    subst h1
    have HP := Lib.hid hP
    clear hP
    have hPP := iParsePath_any (fmtP ss) W2 (by omega)
    rw [hprs] at hPP
    have HPP := Lib.hid hPP
    clear hPP hprs
    go_wp2_with fail
    refine HPP.out.mono ?_
    rintro e W3 ⟨Ax, cx, rfl, hox, hb3⟩
    have HOx3 := Lib.hid hox
    have HO3 := Lib.hid (HO2.out.below hb3 (Nat.le_refl _)).top
    have HB3 := Lib.hid (HB2.out.trans (hb3.mono HB2.out.size))
    clear hox hb3
    go_wp2_with fail
    refine (drawParsePath_any W3 A n c hn ((HR.out.below HB3.out).more HB3.out.size)).mono ?_
    rintro e W4 ⟨s, rfl, hs, hb4⟩
    have HOx4 := Lib.hid (HOx3.out.below hb4 (Nat.le_refl _)).top
    have HO4 := Lib.hid (HO3.out.below hb4 (Nat.le_refl _)).top
    have HB4 := Lib.hid (HB3.out.trans (hb4.mono HB3.out.size))
    clear hb4
    have HSL := Lib.hid (splitS_len s)
    rcases hF : isPth (splitS s) with _ | _
    · have hprs := prsS_no hF
      have HF := Lib.hid hF
      clear hF
      have hPP := fun w => iParsePath_any s w (by omega)
      have hPS := fun w => sParsePath_any s w (by omega)
      rw [hprs] at hPP hPS
      have HPI := Lib.hid hPP
      have HPS := Lib.hid hPS
      clear hPP hPS hprs
      go_wp2_with fail
      refine (HPI.out _).mono ?_
      rintro e W5 ⟨Ay, cy, rfl, hoy, hb⟩
      have HOy5 := Lib.hid hoy
      have HO5 := Lib.hid (HO4.out.below hb (Nat.le_refl _)).top
      have HOx5 := Lib.hid (HOx4.out.below hb (Nat.le_refl _)).top
      have HB5 := Lib.hid (HB4.out.trans (hb.mono HB4.out.size))
      clear hoy hb
      go_wp2_with fail
      refine (iIsPath_any _ A1 1 c1 ss _ HO5.out.rd (Nat.le_refl _) (by omega) HSS.out).mono ?_
      rw [HP.out]
      rintro e W6 ⟨rfl, hb⟩
      have HO6 := Lib.hid (HO5.out.below hb (Nat.le_refl _)).top
      have HOx6 := Lib.hid (HOx5.out.below hb (Nat.le_refl _)).top
      have HOy6 := Lib.hid (HOy5.out.below hb (Nat.le_refl _)).top
      have HB6 := Lib.hid (HB5.out.trans (hb.mono HB5.out.size))
      clear hb
      go_wp2_with fail
      refine (iSamePath_b _ _ Ax A1 ss.length cx 1 c1 ss ss _ HOx6.out.rd HO6.out.rd (by rw [HL.out]; omega) (by omega)).mono ?_
      rw [decide_eq_true rfl]
      rintro e W7 ⟨rfl, hb⟩
      have HO7 := Lib.hid (HO6.out.below hb (Nat.le_refl _)).top
      have HOx7 := Lib.hid (HOx6.out.below hb (Nat.le_refl _)).top
      have HOy7 := Lib.hid (HOy6.out.below hb (Nat.le_refl _)).top
      have HB7 := Lib.hid (HB6.out.trans (hb.mono HB6.out.size))
      clear hb
      go_wp2_with fail
      refine (iIsPath_any _ A1 1 c1 ss _ HO7.out.rd (Nat.le_refl _) (by omega) HSS.out).mono ?_
      rw [HP.out]
      rintro e W8 ⟨rfl, hb⟩
      have HO8 := Lib.hid (HO7.out.below hb (Nat.le_refl _)).top
      have HOx8 := Lib.hid (HOx7.out.below hb (Nat.le_refl _)).top
      have HOy8 := Lib.hid (HOy7.out.below hb (Nat.le_refl _)).top
      have HB8 := Lib.hid (HB7.out.trans (hb.mono HB7.out.size))
      clear hb
      go_wp2_with fail
      refine (sIsPath_any _ A1 1 c1 ss _ HO8.out.rd (Nat.le_refl _) (by omega) HSS.out).mono ?_
      rw [HP.out]
      rintro e W9 ⟨rfl, hb⟩
      have HO9 := Lib.hid (HO8.out.below hb (Nat.le_refl _)).top
      have HOx9 := Lib.hid (HOx8.out.below hb (Nat.le_refl _)).top
      have HOy9 := Lib.hid (HOy8.out.below hb (Nat.le_refl _)).top
      have HB9 := Lib.hid (HB8.out.trans (hb.mono HB8.out.size))
      clear hb
      go_wp2_with fail
      refine (HPS.out _).mono ?_
      rintro e W10 ⟨Av, cv, rfl, hov, hb⟩
      have HO10 := Lib.hid (HO9.out.below hb (Nat.le_refl _)).top
      have HOx10 := Lib.hid (HOx9.out.below hb (Nat.le_refl _)).top
      have HOy10 := Lib.hid (HOy9.out.below hb (Nat.le_refl _)).top
      have HB10 := Lib.hid (HB9.out.trans (hb.mono HB9.out.size))
      clear hov hb
      have hPar := iParentOf_any A1 1 c1 ss _ HO10.out.rd (by omega) hc11 HSS.out
      rw [par_one HL.out] at hPar
      have HPar := Lib.hid hPar
      clear hPar
      go_wp2_with fail
      refine HPar.out.mono ?_
      rintro e W11 ⟨Aq, cq, rfl, hoq, hb⟩
      have HOq11 := Lib.hid hoq
      have HO11 := Lib.hid (HO10.out.below hb (Nat.le_refl _)).top
      have HOx11 := Lib.hid (HOx10.out.below hb (Nat.le_refl _)).top
      have HOy11 := Lib.hid (HOy10.out.below hb (Nat.le_refl _)).top
      have HB11 := Lib.hid (HB10.out.trans (hb.mono HB10.out.size))
      clear hoq hb
      go_wp2_with fail
      refine (drawIsBelow_any _ A n c hn ((HR.out.below HB11.out).more HB11.out.size)).mono ?_
      rintro e W12 ⟨Aa, ma, ca, sa, Ab, mb, cb, sb, rfl, hma, hmb, has, hbs, hoa, hob, hb⟩
      have HOa12 := Lib.hid hoa
      have HOb12 := Lib.hid hob
      have HO12 := Lib.hid (HO11.out.below hb (Nat.le_refl _)).top
      have HOx12 := Lib.hid (HOx11.out.below hb (Nat.le_refl _)).top
      have HOy12 := Lib.hid (HOy11.out.below hb (Nat.le_refl _)).top
      have HB12 := Lib.hid (HB11.out.trans (hb.mono HB11.out.size))
      have hca := hoa.cap
      have hca1 := hca.1
      have HAS := Lib.hid (show ∀ x ∈ sa, x.size ≤ 1099511627776 from fun x hx => by have := has x hx; omega)
      have HBS := Lib.hid (show ∀ x ∈ sb, x.size ≤ 1099511627776 from fun x hx => by have := hbs x hx; omega)
      clear hoa hob hb has hbs hca
      go_wp2_with fail
      refine (iIsPath_any _ A1 1 c1 ss _ HO12.out.rd (Nat.le_refl _) (by omega) HSS.out).mono ?_
      rw [HP.out]
      rintro e W13 ⟨rfl, hb⟩
      have HO13 := Lib.hid (HO12.out.below hb (Nat.le_refl _)).top
      have HOx13 := Lib.hid (HOx12.out.below hb (Nat.le_refl _)).top
      have HOy13 := Lib.hid (HOy12.out.below hb (Nat.le_refl _)).top
      have HOa13 := Lib.hid (HOa12.out.below hb (Nat.le_refl _)).top
      have HOb13 := Lib.hid (HOb12.out.below hb (Nat.le_refl _)).top
      have HB13 := Lib.hid (HB12.out.trans (hb.mono HB12.out.size))
      clear hb
      go_wp2_with fail
      refine (iIsBelow_any Aa Ab ma ca mb cb sa sb _ HOa13.out.rd HOb13.out.rd (by omega) hca1 (by omega) HAS.out HBS.out).mono ?_
      rintro e W14 ⟨rfl, hb⟩
      have HO14 := Lib.hid (HO13.out.below hb (Nat.le_refl _)).top
      have HOx14 := Lib.hid (HOx13.out.below hb (Nat.le_refl _)).top
      have HOy14 := Lib.hid (HOy13.out.below hb (Nat.le_refl _)).top
      have HOa14 := Lib.hid (HOa13.out.below hb (Nat.le_refl _)).top
      have HOb14 := Lib.hid (HOb13.out.below hb (Nat.le_refl _)).top
      have HB14 := Lib.hid (HB13.out.trans (hb.mono HB13.out.size))
      clear hb
      go_wp2_with fail
      refine (sIsBelow_any Aa Ab ma ca mb cb sa sb _ HOa14.out.rd HOb14.out.rd (by omega) hca1 (by omega) HAS.out HBS.out).mono ?_
      rintro e W15 ⟨rfl, hb⟩
      have HO15 := Lib.hid (HO14.out.below hb (Nat.le_refl _)).top
      have HOx15 := Lib.hid (HOx14.out.below hb (Nat.le_refl _)).top
      have HOy15 := Lib.hid (HOy14.out.below hb (Nat.le_refl _)).top
      have HOa15 := Lib.hid (HOa14.out.below hb (Nat.le_refl _)).top
      have HOb15 := Lib.hid (HOb14.out.below hb (Nat.le_refl _)).top
      have HB15 := Lib.hid (HB14.out.trans (hb.mono HB14.out.size))
      clear hb
      go_wp2
      go_ret
      exact ⟨by simp, HB15.out⟩
    · have hprs := prsS_yes hF
      have HF := Lib.hid hF
      clear hF
      have hPP := fun w => iParsePath_any s w (by omega)
      have hPS := fun w => sParsePath_any s w (by omega)
      rw [hprs] at hPP hPS
      have HFM := Lib.hid (fmt_prs s HF.out)
      have HPI := Lib.hid hPP
      have HPS := Lib.hid hPS
      clear hPP hPS hprs
      generalize hy : splitS s = y at HPI HPS HF HFM HSL
      clear hy
      go_wp2_with fail
      refine (HPI.out _).mono ?_
      rintro e W5 ⟨Ay, cy, rfl, hoy, hb⟩
      have HOy5 := Lib.hid hoy
      have HO5 := Lib.hid (HO4.out.below hb (Nat.le_refl _)).top
      have HOx5 := Lib.hid (HOx4.out.below hb (Nat.le_refl _)).top
      have HB5 := Lib.hid (HB4.out.trans (hb.mono HB4.out.size))
      clear hoy hb
      go_wp2_with fail
      refine (iIsPath_any _ A1 1 c1 ss _ HO5.out.rd (Nat.le_refl _) (by omega) HSS.out).mono ?_
      rw [HP.out]
      rintro e W6 ⟨rfl, hb⟩
      have HO6 := Lib.hid (HO5.out.below hb (Nat.le_refl _)).top
      have HOx6 := Lib.hid (HOx5.out.below hb (Nat.le_refl _)).top
      have HOy6 := Lib.hid (HOy5.out.below hb (Nat.le_refl _)).top
      have HB6 := Lib.hid (HB5.out.trans (hb.mono HB5.out.size))
      clear hb
      go_wp2_with fail
      refine (iSamePath_b _ _ Ax A1 ss.length cx 1 c1 ss ss _ HOx6.out.rd HO6.out.rd (by rw [HL.out]; omega) (by omega)).mono ?_
      rw [decide_eq_true rfl]
      rintro e W7 ⟨rfl, hb⟩
      have HO7 := Lib.hid (HO6.out.below hb (Nat.le_refl _)).top
      have HOx7 := Lib.hid (HOx6.out.below hb (Nat.le_refl _)).top
      have HOy7 := Lib.hid (HOy6.out.below hb (Nat.le_refl _)).top
      have HB7 := Lib.hid (HB6.out.trans (hb.mono HB6.out.size))
      clear hb
      go_wp2_with fail
      refine (iIsPath_any _ Ay y.length cy y _ HOy7.out.rd (Nat.le_refl _) (by have := HSL.out.1; omega) (fun x hx => by have := HSL.out.2 x hx; omega)).mono ?_
      rw [HF.out]
      rintro e W8 ⟨rfl, hb⟩
      have HO8 := Lib.hid (HO7.out.below hb (Nat.le_refl _)).top
      have HOx8 := Lib.hid (HOx7.out.below hb (Nat.le_refl _)).top
      have HOy8 := Lib.hid (HOy7.out.below hb (Nat.le_refl _)).top
      have HB8 := Lib.hid (HB7.out.trans (hb.mono HB7.out.size))
      clear hb
      go_wp2_with fail
      refine (iFormatPath_any Ay y.length cy y _ HOy8.out.rd (by have := HSL.out.1; omega) HOy8.out.cap.1 (fun x hx => by have := HSL.out.2 x hx; omega)).mono ?_
      rw [HFM.out]
      rintro e W9 ⟨rfl, hb⟩
      have HO9 := Lib.hid (HO8.out.below hb (Nat.le_refl _)).top
      have HOx9 := Lib.hid (HOx8.out.below hb (Nat.le_refl _)).top
      have HOy9 := Lib.hid (HOy8.out.below hb (Nat.le_refl _)).top
      have HB9 := Lib.hid (HB8.out.trans (hb.mono HB8.out.size))
      clear hb
      go_wp2_with fail
      refine (iIsPath_any _ A1 1 c1 ss _ HO9.out.rd (Nat.le_refl _) (by omega) HSS.out).mono ?_
      rw [HP.out]
      rintro e W10 ⟨rfl, hb⟩
      have HO10 := Lib.hid (HO9.out.below hb (Nat.le_refl _)).top
      have HOx10 := Lib.hid (HOx9.out.below hb (Nat.le_refl _)).top
      have HOy10 := Lib.hid (HOy9.out.below hb (Nat.le_refl _)).top
      have HB10 := Lib.hid (HB9.out.trans (hb.mono HB9.out.size))
      clear hb
      go_wp2_with fail
      refine (sIsPath_any _ A1 1 c1 ss _ HO10.out.rd (Nat.le_refl _) (by omega) HSS.out).mono ?_
      rw [HP.out]
      rintro e W11 ⟨rfl, hb⟩
      have HO11 := Lib.hid (HO10.out.below hb (Nat.le_refl _)).top
      have HOx11 := Lib.hid (HOx10.out.below hb (Nat.le_refl _)).top
      have HOy11 := Lib.hid (HOy10.out.below hb (Nat.le_refl _)).top
      have HB11 := Lib.hid (HB10.out.trans (hb.mono HB10.out.size))
      clear hb
      go_wp2_with fail
      refine (HPS.out _).mono ?_
      rintro e W12 ⟨Av, cv, rfl, hov, hb⟩
      have HO12 := Lib.hid (HO11.out.below hb (Nat.le_refl _)).top
      have HOx12 := Lib.hid (HOx11.out.below hb (Nat.le_refl _)).top
      have HOy12 := Lib.hid (HOy11.out.below hb (Nat.le_refl _)).top
      have HB12 := Lib.hid (HB11.out.trans (hb.mono HB11.out.size))
      clear hov hb
      have hPar := iParentOf_any A1 1 c1 ss _ HO12.out.rd (by omega) hc11 HSS.out
      rw [par_one HL.out] at hPar
      have HPar := Lib.hid hPar
      clear hPar
      go_wp2_with fail
      refine HPar.out.mono ?_
      rintro e W13 ⟨Aq, cq, rfl, hoq, hb⟩
      have HOq13 := Lib.hid hoq
      have HO13 := Lib.hid (HO12.out.below hb (Nat.le_refl _)).top
      have HOx13 := Lib.hid (HOx12.out.below hb (Nat.le_refl _)).top
      have HOy13 := Lib.hid (HOy12.out.below hb (Nat.le_refl _)).top
      have HB13 := Lib.hid (HB12.out.trans (hb.mono HB12.out.size))
      clear hoq hb
      go_wp2_with fail
      refine (drawIsBelow_any _ A n c hn ((HR.out.below HB13.out).more HB13.out.size)).mono ?_
      rintro e W14 ⟨Aa, ma, ca, sa, Ab, mb, cb, sb, rfl, hma, hmb, has, hbs, hoa, hob, hb⟩
      have HOa14 := Lib.hid hoa
      have HOb14 := Lib.hid hob
      have HO14 := Lib.hid (HO13.out.below hb (Nat.le_refl _)).top
      have HOx14 := Lib.hid (HOx13.out.below hb (Nat.le_refl _)).top
      have HOy14 := Lib.hid (HOy13.out.below hb (Nat.le_refl _)).top
      have HB14 := Lib.hid (HB13.out.trans (hb.mono HB13.out.size))
      have hca := hoa.cap
      have hca1 := hca.1
      have HAS := Lib.hid (show ∀ x ∈ sa, x.size ≤ 1099511627776 from fun x hx => by have := has x hx; omega)
      have HBS := Lib.hid (show ∀ x ∈ sb, x.size ≤ 1099511627776 from fun x hx => by have := hbs x hx; omega)
      clear hoa hob hb has hbs hca
      go_wp2_with fail
      refine (iIsPath_any _ A1 1 c1 ss _ HO14.out.rd (Nat.le_refl _) (by omega) HSS.out).mono ?_
      rw [HP.out]
      rintro e W15 ⟨rfl, hb⟩
      have HO15 := Lib.hid (HO14.out.below hb (Nat.le_refl _)).top
      have HOx15 := Lib.hid (HOx14.out.below hb (Nat.le_refl _)).top
      have HOy15 := Lib.hid (HOy14.out.below hb (Nat.le_refl _)).top
      have HOa15 := Lib.hid (HOa14.out.below hb (Nat.le_refl _)).top
      have HOb15 := Lib.hid (HOb14.out.below hb (Nat.le_refl _)).top
      have HB15 := Lib.hid (HB14.out.trans (hb.mono HB14.out.size))
      clear hb
      go_wp2_with fail
      refine (iIsBelow_any Aa Ab ma ca mb cb sa sb _ HOa15.out.rd HOb15.out.rd (by omega) hca1 (by omega) HAS.out HBS.out).mono ?_
      rintro e W16 ⟨rfl, hb⟩
      have HO16 := Lib.hid (HO15.out.below hb (Nat.le_refl _)).top
      have HOx16 := Lib.hid (HOx15.out.below hb (Nat.le_refl _)).top
      have HOy16 := Lib.hid (HOy15.out.below hb (Nat.le_refl _)).top
      have HOa16 := Lib.hid (HOa15.out.below hb (Nat.le_refl _)).top
      have HOb16 := Lib.hid (HOb15.out.below hb (Nat.le_refl _)).top
      have HB16 := Lib.hid (HB15.out.trans (hb.mono HB15.out.size))
      clear hb
      go_wp2_with fail
      refine (sIsBelow_any Aa Ab ma ca mb cb sa sb _ HOa16.out.rd HOb16.out.rd (by omega) hca1 (by omega) HAS.out HBS.out).mono ?_
      rintro e W17 ⟨rfl, hb⟩
      have HO17 := Lib.hid (HO16.out.below hb (Nat.le_refl _)).top
      have HOx17 := Lib.hid (HOx16.out.below hb (Nat.le_refl _)).top
      have HOy17 := Lib.hid (HOy16.out.below hb (Nat.le_refl _)).top
      have HOa17 := Lib.hid (HOa16.out.below hb (Nat.le_refl _)).top
      have HOb17 := Lib.hid (HOb16.out.below hb (Nat.le_refl _)).top
      have HB17 := Lib.hid (HB16.out.trans (hb.mono HB16.out.size))
      clear hb
      go_wp2
      go_ret
      exact ⟨by simp, HB17.out⟩
  · have hprs := prs_yes hP
    have hlen := isPth_len hP
    rw [HL.out] at hlen
    have HP := Lib.hid hP
    clear hP
    have hPP := iParsePath_any (fmtP ss) W2 (by omega)
    rw [hprs] at hPP
    have HPP := Lib.hid hPP
    clear hPP hprs
    go_wp2_with fail
    refine HPP.out.mono ?_
    rintro e W3 ⟨Ax, cx, rfl, hox, hb3⟩
    have HOx3 := Lib.hid hox
    have HO3 := Lib.hid (HO2.out.below hb3 (Nat.le_refl _)).top
    have HB3 := Lib.hid (HB2.out.trans (hb3.mono HB2.out.size))
    clear hox hb3
    go_wp2_with fail
    refine (drawParsePath_any W3 A n c hn ((HR.out.below HB3.out).more HB3.out.size)).mono ?_
    rintro e W4 ⟨s, rfl, hs, hb4⟩
    have HOx4 := Lib.hid (HOx3.out.below hb4 (Nat.le_refl _)).top
    have HO4 := Lib.hid (HO3.out.below hb4 (Nat.le_refl _)).top
    have HB4 := Lib.hid (HB3.out.trans (hb4.mono HB3.out.size))
    clear hb4
    have HSL := Lib.hid (splitS_len s)
    rcases hF : isPth (splitS s) with _ | _
    · have hprs := prsS_no hF
      have HF := Lib.hid hF
      clear hF
      have hPP := fun w => iParsePath_any s w (by omega)
      have hPS := fun w => sParsePath_any s w (by omega)
      rw [hprs] at hPP hPS
      have HPI := Lib.hid hPP
      have HPS := Lib.hid hPS
      clear hPP hPS hprs
      go_wp2_with fail
      refine (HPI.out _).mono ?_
      rintro e W5 ⟨Ay, cy, rfl, hoy, hb⟩
      have HOy5 := Lib.hid hoy
      have HO5 := Lib.hid (HO4.out.below hb (Nat.le_refl _)).top
      have HOx5 := Lib.hid (HOx4.out.below hb (Nat.le_refl _)).top
      have HB5 := Lib.hid (HB4.out.trans (hb.mono HB4.out.size))
      clear hoy hb
      go_wp2_with fail
      refine (iIsPath_any _ A1 m c1 ss _ HO5.out.rd (Nat.le_refl _) (by omega) HSS.out).mono ?_
      rw [HP.out]
      rintro e W6 ⟨rfl, hb⟩
      have HO6 := Lib.hid (HO5.out.below hb (Nat.le_refl _)).top
      have HOx6 := Lib.hid (HOx5.out.below hb (Nat.le_refl _)).top
      have HOy6 := Lib.hid (HOy5.out.below hb (Nat.le_refl _)).top
      have HB6 := Lib.hid (HB5.out.trans (hb.mono HB5.out.size))
      clear hb
      go_wp2_with fail
      refine (iSamePath_b _ _ Ax A1 ss.length cx m c1 ss ss _ HOx6.out.rd HO6.out.rd (by rw [HL.out]; omega) (by omega)).mono ?_
      rw [decide_eq_true rfl]
      rintro e W7 ⟨rfl, hb⟩
      have HO7 := Lib.hid (HO6.out.below hb (Nat.le_refl _)).top
      have HOx7 := Lib.hid (HOx6.out.below hb (Nat.le_refl _)).top
      have HOy7 := Lib.hid (HOy6.out.below hb (Nat.le_refl _)).top
      have HB7 := Lib.hid (HB6.out.trans (hb.mono HB6.out.size))
      clear hb
      go_wp2_with fail
      refine (iIsPath_any _ A1 m c1 ss _ HO7.out.rd (Nat.le_refl _) (by omega) HSS.out).mono ?_
      rw [HP.out]
      rintro e W8 ⟨rfl, hb⟩
      have HO8 := Lib.hid (HO7.out.below hb (Nat.le_refl _)).top
      have HOx8 := Lib.hid (HOx7.out.below hb (Nat.le_refl _)).top
      have HOy8 := Lib.hid (HOy7.out.below hb (Nat.le_refl _)).top
      have HB8 := Lib.hid (HB7.out.trans (hb.mono HB7.out.size))
      clear hb
      go_wp2_with fail
      refine (sIsPath_any _ A1 m c1 ss _ HO8.out.rd (Nat.le_refl _) (by omega) HSS.out).mono ?_
      rw [HP.out]
      rintro e W9 ⟨rfl, hb⟩
      have HO9 := Lib.hid (HO8.out.below hb (Nat.le_refl _)).top
      have HOx9 := Lib.hid (HOx8.out.below hb (Nat.le_refl _)).top
      have HOy9 := Lib.hid (HOy8.out.below hb (Nat.le_refl _)).top
      have HB9 := Lib.hid (HB8.out.trans (hb.mono HB8.out.size))
      clear hb
      go_wp2_with fail
      refine (HPS.out _).mono ?_
      rintro e W10 ⟨Av, cv, rfl, hov, hb⟩
      have HO10 := Lib.hid (HO9.out.below hb (Nat.le_refl _)).top
      have HOx10 := Lib.hid (HOx9.out.below hb (Nat.le_refl _)).top
      have HOy10 := Lib.hid (HOy9.out.below hb (Nat.le_refl _)).top
      have HB10 := Lib.hid (HB9.out.trans (hb.mono HB9.out.size))
      clear hov hb
      have hPar := iParentOf_any A1 m c1 ss _ HO10.out.rd (by omega) hc11 HSS.out
      rw [par_yes HP.out HL.out h1] at hPar
      have HPar := Lib.hid hPar
      clear hPar
      go_wp2_with fail
      refine HPar.out.mono ?_
      rintro e W11 ⟨Aq, cq, rfl, hoq, hb⟩
      have HOq11 := Lib.hid hoq
      have HO11 := Lib.hid (HO10.out.below hb (Nat.le_refl _)).top
      have HOx11 := Lib.hid (HOx10.out.below hb (Nat.le_refl _)).top
      have HOy11 := Lib.hid (HOy10.out.below hb (Nat.le_refl _)).top
      have HB11 := Lib.hid (HB10.out.trans (hb.mono HB10.out.size))
      clear hoq hb
      obtain ⟨bb, bo, rfl, _, hcl⟩ := HO11.out.rd.cell_at (j := m - 1) (by omega)
      have hj := joinP_parent HP.out
      rw [HL.out] at hj
      have hbp := below_parent HP.out (by rw [HL.out]; exact h1)
      rw [HL.out] at hbp
      have hql : (ss.take (m - 1)).length = m - 1 := by rw [List.length_take, HL.out]; omega
      have HJ := Lib.hid hj
      have HBP := Lib.hid hbp
      have HQL := Lib.hid hql
      have HQS := Lib.hid (show ∀ x ∈ ss.take (m - 1), x.size ≤ 1099511627776 from fun x hx => HSS.out x (List.mem_of_mem_take hx))
      have hlz : (ss.getD (m - 1) .empty).size ≤ 1099511627776 := HSS.out _ (by rw [List.getD, List.getElem?_eq_getElem (show m - 1 < ss.length by rw [HL.out]; omega)]; exact List.getElem_mem _)
      generalize ss.getD (m - 1) .empty = lz at hcl HJ hlz
      generalize ss.take (m - 1) = qs at *
      have hi1 : (((m : Int) - 1)).toNat = m - 1 := by omega
      have hi2 : (0 : Int) ≤ (m : Int) - 1 := by omega
      have hi3 : (m : Int) - 1 < m := by omega
      clear hj hbp hql
      have hJ := iJoinPath_any Aq qs.length cq qs lz _ HOq11.out.rd (by rw [HQL.out]; omega) HQS.out hlz
      rw [HJ.out] at hJ
      have HJI := Lib.hid hJ
      clear hJ
      go_wp2_with fail
      refine HJI.out.mono ?_
      rintro e W12 ⟨Az, cz, rfl, hoz, hb⟩
      have HOz12 := Lib.hid hoz
      have HO12 := Lib.hid (HO11.out.below hb (Nat.le_refl _)).top
      have HOx12 := Lib.hid (HOx11.out.below hb (Nat.le_refl _)).top
      have HOy12 := Lib.hid (HOy11.out.below hb (Nat.le_refl _)).top
      have HOq12 := Lib.hid (HOq11.out.below hb (Nat.le_refl _)).top
      have HB12 := Lib.hid (HB11.out.trans (hb.mono HB11.out.size))
      clear hoz hb hcl
      go_wp2_with fail
      refine (iSamePath_b _ _ Az (some ⟨bb, bo, none⟩) ss.length cz m c1 ss ss _ HOz12.out.rd HO12.out.rd (by rw [HL.out]; omega) (by omega)).mono ?_
      rw [decide_eq_true rfl]
      rintro e W13 ⟨rfl, hb⟩
      have HO13 := Lib.hid (HO12.out.below hb (Nat.le_refl _)).top
      have HOx13 := Lib.hid (HOx12.out.below hb (Nat.le_refl _)).top
      have HOy13 := Lib.hid (HOy12.out.below hb (Nat.le_refl _)).top
      have HOq13 := Lib.hid (HOq12.out.below hb (Nat.le_refl _)).top
      have HOz13 := Lib.hid (HOz12.out.below hb (Nat.le_refl _)).top
      have HB13 := Lib.hid (HB12.out.trans (hb.mono HB12.out.size))
      clear hb
      go_wp2_with fail
      refine (iIsBelow_any (some ⟨bb, bo, none⟩) Aq m c1 qs.length cq ss qs _ HO13.out.rd HOq13.out.rd (by omega) hc11 (by rw [HQL.out]; omega) HSS.out HQS.out).mono ?_
      rw [HBP.out.1]
      rintro e W14 ⟨rfl, hb⟩
      have HO14 := Lib.hid (HO13.out.below hb (Nat.le_refl _)).top
      have HOx14 := Lib.hid (HOx13.out.below hb (Nat.le_refl _)).top
      have HOy14 := Lib.hid (HOy13.out.below hb (Nat.le_refl _)).top
      have HOq14 := Lib.hid (HOq13.out.below hb (Nat.le_refl _)).top
      have HOz14 := Lib.hid (HOz13.out.below hb (Nat.le_refl _)).top
      have HB14 := Lib.hid (HB13.out.trans (hb.mono HB13.out.size))
      clear hb
      go_wp2_with fail
      refine (iIsBelow_any Aq (some ⟨bb, bo, none⟩) qs.length cq m c1 qs ss _ HOq14.out.rd HO14.out.rd (by rw [HQL.out]; omega) HOq14.out.cap.1 (by omega) HQS.out HSS.out).mono ?_
      rw [HBP.out.2]
      rintro e W15 ⟨rfl, hb⟩
      have HO15 := Lib.hid (HO14.out.below hb (Nat.le_refl _)).top
      have HOx15 := Lib.hid (HOx14.out.below hb (Nat.le_refl _)).top
      have HOy15 := Lib.hid (HOy14.out.below hb (Nat.le_refl _)).top
      have HOq15 := Lib.hid (HOq14.out.below hb (Nat.le_refl _)).top
      have HOz15 := Lib.hid (HOz14.out.below hb (Nat.le_refl _)).top
      have HB15 := Lib.hid (HB14.out.trans (hb.mono HB14.out.size))
      clear hb
      go_wp2_with fail
      refine (drawIsBelow_any _ A n c hn ((HR.out.below HB15.out).more HB15.out.size)).mono ?_
      rintro e W16 ⟨Aa, ma, ca, sa, Ab, mb, cb, sb, rfl, hma, hmb, has, hbs, hoa, hob, hb⟩
      have HOa16 := Lib.hid hoa
      have HOb16 := Lib.hid hob
      have HO16 := Lib.hid (HO15.out.below hb (Nat.le_refl _)).top
      have HOx16 := Lib.hid (HOx15.out.below hb (Nat.le_refl _)).top
      have HOy16 := Lib.hid (HOy15.out.below hb (Nat.le_refl _)).top
      have HOq16 := Lib.hid (HOq15.out.below hb (Nat.le_refl _)).top
      have HOz16 := Lib.hid (HOz15.out.below hb (Nat.le_refl _)).top
      have HB16 := Lib.hid (HB15.out.trans (hb.mono HB15.out.size))
      have hca := hoa.cap
      have hca1 := hca.1
      have HAS := Lib.hid (show ∀ x ∈ sa, x.size ≤ 1099511627776 from fun x hx => by have := has x hx; omega)
      have HBS := Lib.hid (show ∀ x ∈ sb, x.size ≤ 1099511627776 from fun x hx => by have := hbs x hx; omega)
      clear hoa hob hb has hbs hca
      go_wp2_with fail
      refine (iIsPath_any _ (some ⟨bb, bo, none⟩) m c1 ss _ HO16.out.rd (Nat.le_refl _) (by omega) HSS.out).mono ?_
      rw [HP.out]
      rintro e W17 ⟨rfl, hb⟩
      have HO17 := Lib.hid (HO16.out.below hb (Nat.le_refl _)).top
      have HOx17 := Lib.hid (HOx16.out.below hb (Nat.le_refl _)).top
      have HOy17 := Lib.hid (HOy16.out.below hb (Nat.le_refl _)).top
      have HOq17 := Lib.hid (HOq16.out.below hb (Nat.le_refl _)).top
      have HOz17 := Lib.hid (HOz16.out.below hb (Nat.le_refl _)).top
      have HOa17 := Lib.hid (HOa16.out.below hb (Nat.le_refl _)).top
      have HOb17 := Lib.hid (HOb16.out.below hb (Nat.le_refl _)).top
      have HB17 := Lib.hid (HB16.out.trans (hb.mono HB16.out.size))
      clear hb
      have hm1 : (1 : Int) < m := by omega
      go_wp2_with fail
      refine (iIsBelow_any Aa Ab ma ca mb cb sa sb _ HOa17.out.rd HOb17.out.rd (by omega) hca1 (by omega) HAS.out HBS.out).mono ?_
      rintro e W18 ⟨rfl, hb⟩
      have HO18 := Lib.hid (HO17.out.below hb (Nat.le_refl _)).top
      have HOx18 := Lib.hid (HOx17.out.below hb (Nat.le_refl _)).top
      have HOy18 := Lib.hid (HOy17.out.below hb (Nat.le_refl _)).top
      have HOq18 := Lib.hid (HOq17.out.below hb (Nat.le_refl _)).top
      have HOz18 := Lib.hid (HOz17.out.below hb (Nat.le_refl _)).top
      have HOa18 := Lib.hid (HOa17.out.below hb (Nat.le_refl _)).top
      have HOb18 := Lib.hid (HOb17.out.below hb (Nat.le_refl _)).top
      have HB18 := Lib.hid (HB17.out.trans (hb.mono HB17.out.size))
      clear hb
      go_wp2_with fail
      refine (sIsBelow_any Aa Ab ma ca mb cb sa sb _ HOa18.out.rd HOb18.out.rd (by omega) hca1 (by omega) HAS.out HBS.out).mono ?_
      rintro e W19 ⟨rfl, hb⟩
      have HO19 := Lib.hid (HO18.out.below hb (Nat.le_refl _)).top
      have HOx19 := Lib.hid (HOx18.out.below hb (Nat.le_refl _)).top
      have HOy19 := Lib.hid (HOy18.out.below hb (Nat.le_refl _)).top
      have HOq19 := Lib.hid (HOq18.out.below hb (Nat.le_refl _)).top
      have HOz19 := Lib.hid (HOz18.out.below hb (Nat.le_refl _)).top
      have HOa19 := Lib.hid (HOa18.out.below hb (Nat.le_refl _)).top
      have HOb19 := Lib.hid (HOb18.out.below hb (Nat.le_refl _)).top
      have HB19 := Lib.hid (HB18.out.trans (hb.mono HB18.out.size))
      clear hb
      go_wp2
      go_ret
      exact ⟨by simp, HB19.out⟩
    · have hprs := prsS_yes hF
      have HF := Lib.hid hF
      clear hF
      have hPP := fun w => iParsePath_any s w (by omega)
      have hPS := fun w => sParsePath_any s w (by omega)
      rw [hprs] at hPP hPS
      have HFM := Lib.hid (fmt_prs s HF.out)
      have HPI := Lib.hid hPP
      have HPS := Lib.hid hPS
      clear hPP hPS hprs
      generalize hy : splitS s = y at HPI HPS HF HFM HSL
      clear hy
      go_wp2_with fail
      refine (HPI.out _).mono ?_
      rintro e W5 ⟨Ay, cy, rfl, hoy, hb⟩
      have HOy5 := Lib.hid hoy
      have HO5 := Lib.hid (HO4.out.below hb (Nat.le_refl _)).top
      have HOx5 := Lib.hid (HOx4.out.below hb (Nat.le_refl _)).top
      have HB5 := Lib.hid (HB4.out.trans (hb.mono HB4.out.size))
      clear hoy hb
      go_wp2_with fail
      refine (iIsPath_any _ A1 m c1 ss _ HO5.out.rd (Nat.le_refl _) (by omega) HSS.out).mono ?_
      rw [HP.out]
      rintro e W6 ⟨rfl, hb⟩
      have HO6 := Lib.hid (HO5.out.below hb (Nat.le_refl _)).top
      have HOx6 := Lib.hid (HOx5.out.below hb (Nat.le_refl _)).top
      have HOy6 := Lib.hid (HOy5.out.below hb (Nat.le_refl _)).top
      have HB6 := Lib.hid (HB5.out.trans (hb.mono HB5.out.size))
      clear hb
      go_wp2_with fail
      refine (iSamePath_b _ _ Ax A1 ss.length cx m c1 ss ss _ HOx6.out.rd HO6.out.rd (by rw [HL.out]; omega) (by omega)).mono ?_
      rw [decide_eq_true rfl]
      rintro e W7 ⟨rfl, hb⟩
      have HO7 := Lib.hid (HO6.out.below hb (Nat.le_refl _)).top
      have HOx7 := Lib.hid (HOx6.out.below hb (Nat.le_refl _)).top
      have HOy7 := Lib.hid (HOy6.out.below hb (Nat.le_refl _)).top
      have HB7 := Lib.hid (HB6.out.trans (hb.mono HB6.out.size))
      clear hb
      go_wp2_with fail
      refine (iIsPath_any _ Ay y.length cy y _ HOy7.out.rd (Nat.le_refl _) (by have := HSL.out.1; omega) (fun x hx => by have := HSL.out.2 x hx; omega)).mono ?_
      rw [HF.out]
      rintro e W8 ⟨rfl, hb⟩
      have HO8 := Lib.hid (HO7.out.below hb (Nat.le_refl _)).top
      have HOx8 := Lib.hid (HOx7.out.below hb (Nat.le_refl _)).top
      have HOy8 := Lib.hid (HOy7.out.below hb (Nat.le_refl _)).top
      have HB8 := Lib.hid (HB7.out.trans (hb.mono HB7.out.size))
      clear hb
      go_wp2_with fail
      refine (iFormatPath_any Ay y.length cy y _ HOy8.out.rd (by have := HSL.out.1; omega) HOy8.out.cap.1 (fun x hx => by have := HSL.out.2 x hx; omega)).mono ?_
      rw [HFM.out]
      rintro e W9 ⟨rfl, hb⟩
      have HO9 := Lib.hid (HO8.out.below hb (Nat.le_refl _)).top
      have HOx9 := Lib.hid (HOx8.out.below hb (Nat.le_refl _)).top
      have HOy9 := Lib.hid (HOy8.out.below hb (Nat.le_refl _)).top
      have HB9 := Lib.hid (HB8.out.trans (hb.mono HB8.out.size))
      clear hb
      go_wp2_with fail
      refine (iIsPath_any _ A1 m c1 ss _ HO9.out.rd (Nat.le_refl _) (by omega) HSS.out).mono ?_
      rw [HP.out]
      rintro e W10 ⟨rfl, hb⟩
      have HO10 := Lib.hid (HO9.out.below hb (Nat.le_refl _)).top
      have HOx10 := Lib.hid (HOx9.out.below hb (Nat.le_refl _)).top
      have HOy10 := Lib.hid (HOy9.out.below hb (Nat.le_refl _)).top
      have HB10 := Lib.hid (HB9.out.trans (hb.mono HB9.out.size))
      clear hb
      go_wp2_with fail
      refine (sIsPath_any _ A1 m c1 ss _ HO10.out.rd (Nat.le_refl _) (by omega) HSS.out).mono ?_
      rw [HP.out]
      rintro e W11 ⟨rfl, hb⟩
      have HO11 := Lib.hid (HO10.out.below hb (Nat.le_refl _)).top
      have HOx11 := Lib.hid (HOx10.out.below hb (Nat.le_refl _)).top
      have HOy11 := Lib.hid (HOy10.out.below hb (Nat.le_refl _)).top
      have HB11 := Lib.hid (HB10.out.trans (hb.mono HB10.out.size))
      clear hb
      go_wp2_with fail
      refine (HPS.out _).mono ?_
      rintro e W12 ⟨Av, cv, rfl, hov, hb⟩
      have HO12 := Lib.hid (HO11.out.below hb (Nat.le_refl _)).top
      have HOx12 := Lib.hid (HOx11.out.below hb (Nat.le_refl _)).top
      have HOy12 := Lib.hid (HOy11.out.below hb (Nat.le_refl _)).top
      have HB12 := Lib.hid (HB11.out.trans (hb.mono HB11.out.size))
      clear hov hb
      have hPar := iParentOf_any A1 m c1 ss _ HO12.out.rd (by omega) hc11 HSS.out
      rw [par_yes HP.out HL.out h1] at hPar
      have HPar := Lib.hid hPar
      clear hPar
      go_wp2_with fail
      refine HPar.out.mono ?_
      rintro e W13 ⟨Aq, cq, rfl, hoq, hb⟩
      have HOq13 := Lib.hid hoq
      have HO13 := Lib.hid (HO12.out.below hb (Nat.le_refl _)).top
      have HOx13 := Lib.hid (HOx12.out.below hb (Nat.le_refl _)).top
      have HOy13 := Lib.hid (HOy12.out.below hb (Nat.le_refl _)).top
      have HB13 := Lib.hid (HB12.out.trans (hb.mono HB12.out.size))
      clear hoq hb
      obtain ⟨bb, bo, rfl, _, hcl⟩ := HO13.out.rd.cell_at (j := m - 1) (by omega)
      have hj := joinP_parent HP.out
      rw [HL.out] at hj
      have hbp := below_parent HP.out (by rw [HL.out]; exact h1)
      rw [HL.out] at hbp
      have hql : (ss.take (m - 1)).length = m - 1 := by rw [List.length_take, HL.out]; omega
      have HJ := Lib.hid hj
      have HBP := Lib.hid hbp
      have HQL := Lib.hid hql
      have HQS := Lib.hid (show ∀ x ∈ ss.take (m - 1), x.size ≤ 1099511627776 from fun x hx => HSS.out x (List.mem_of_mem_take hx))
      have hlz : (ss.getD (m - 1) .empty).size ≤ 1099511627776 := HSS.out _ (by rw [List.getD, List.getElem?_eq_getElem (show m - 1 < ss.length by rw [HL.out]; omega)]; exact List.getElem_mem _)
      generalize ss.getD (m - 1) .empty = lz at hcl HJ hlz
      generalize ss.take (m - 1) = qs at *
      have hi1 : (((m : Int) - 1)).toNat = m - 1 := by omega
      have hi2 : (0 : Int) ≤ (m : Int) - 1 := by omega
      have hi3 : (m : Int) - 1 < m := by omega
      clear hj hbp hql
      have hJ := iJoinPath_any Aq qs.length cq qs lz _ HOq13.out.rd (by rw [HQL.out]; omega) HQS.out hlz
      rw [HJ.out] at hJ
      have HJI := Lib.hid hJ
      clear hJ
      go_wp2_with fail
      refine HJI.out.mono ?_
      rintro e W14 ⟨Az, cz, rfl, hoz, hb⟩
      have HOz14 := Lib.hid hoz
      have HO14 := Lib.hid (HO13.out.below hb (Nat.le_refl _)).top
      have HOx14 := Lib.hid (HOx13.out.below hb (Nat.le_refl _)).top
      have HOy14 := Lib.hid (HOy13.out.below hb (Nat.le_refl _)).top
      have HOq14 := Lib.hid (HOq13.out.below hb (Nat.le_refl _)).top
      have HB14 := Lib.hid (HB13.out.trans (hb.mono HB13.out.size))
      clear hoz hb hcl
      go_wp2_with fail
      refine (iSamePath_b _ _ Az (some ⟨bb, bo, none⟩) ss.length cz m c1 ss ss _ HOz14.out.rd HO14.out.rd (by rw [HL.out]; omega) (by omega)).mono ?_
      rw [decide_eq_true rfl]
      rintro e W15 ⟨rfl, hb⟩
      have HO15 := Lib.hid (HO14.out.below hb (Nat.le_refl _)).top
      have HOx15 := Lib.hid (HOx14.out.below hb (Nat.le_refl _)).top
      have HOy15 := Lib.hid (HOy14.out.below hb (Nat.le_refl _)).top
      have HOq15 := Lib.hid (HOq14.out.below hb (Nat.le_refl _)).top
      have HOz15 := Lib.hid (HOz14.out.below hb (Nat.le_refl _)).top
      have HB15 := Lib.hid (HB14.out.trans (hb.mono HB14.out.size))
      clear hb
      go_wp2_with fail
      refine (iIsBelow_any (some ⟨bb, bo, none⟩) Aq m c1 qs.length cq ss qs _ HO15.out.rd HOq15.out.rd (by omega) hc11 (by rw [HQL.out]; omega) HSS.out HQS.out).mono ?_
      rw [HBP.out.1]
      rintro e W16 ⟨rfl, hb⟩
      have HO16 := Lib.hid (HO15.out.below hb (Nat.le_refl _)).top
      have HOx16 := Lib.hid (HOx15.out.below hb (Nat.le_refl _)).top
      have HOy16 := Lib.hid (HOy15.out.below hb (Nat.le_refl _)).top
      have HOq16 := Lib.hid (HOq15.out.below hb (Nat.le_refl _)).top
      have HOz16 := Lib.hid (HOz15.out.below hb (Nat.le_refl _)).top
      have HB16 := Lib.hid (HB15.out.trans (hb.mono HB15.out.size))
      clear hb
      go_wp2_with fail
      refine (iIsBelow_any Aq (some ⟨bb, bo, none⟩) qs.length cq m c1 qs ss _ HOq16.out.rd HO16.out.rd (by rw [HQL.out]; omega) HOq16.out.cap.1 (by omega) HQS.out HSS.out).mono ?_
      rw [HBP.out.2]
      rintro e W17 ⟨rfl, hb⟩
      have HO17 := Lib.hid (HO16.out.below hb (Nat.le_refl _)).top
      have HOx17 := Lib.hid (HOx16.out.below hb (Nat.le_refl _)).top
      have HOy17 := Lib.hid (HOy16.out.below hb (Nat.le_refl _)).top
      have HOq17 := Lib.hid (HOq16.out.below hb (Nat.le_refl _)).top
      have HOz17 := Lib.hid (HOz16.out.below hb (Nat.le_refl _)).top
      have HB17 := Lib.hid (HB16.out.trans (hb.mono HB16.out.size))
      clear hb
      go_wp2_with fail
      refine (drawIsBelow_any _ A n c hn ((HR.out.below HB17.out).more HB17.out.size)).mono ?_
      rintro e W18 ⟨Aa, ma, ca, sa, Ab, mb, cb, sb, rfl, hma, hmb, has, hbs, hoa, hob, hb⟩
      have HOa18 := Lib.hid hoa
      have HOb18 := Lib.hid hob
      have HO18 := Lib.hid (HO17.out.below hb (Nat.le_refl _)).top
      have HOx18 := Lib.hid (HOx17.out.below hb (Nat.le_refl _)).top
      have HOy18 := Lib.hid (HOy17.out.below hb (Nat.le_refl _)).top
      have HOq18 := Lib.hid (HOq17.out.below hb (Nat.le_refl _)).top
      have HOz18 := Lib.hid (HOz17.out.below hb (Nat.le_refl _)).top
      have HB18 := Lib.hid (HB17.out.trans (hb.mono HB17.out.size))
      have hca := hoa.cap
      have hca1 := hca.1
      have HAS := Lib.hid (show ∀ x ∈ sa, x.size ≤ 1099511627776 from fun x hx => by have := has x hx; omega)
      have HBS := Lib.hid (show ∀ x ∈ sb, x.size ≤ 1099511627776 from fun x hx => by have := hbs x hx; omega)
      clear hoa hob hb has hbs hca
      go_wp2_with fail
      refine (iIsPath_any _ (some ⟨bb, bo, none⟩) m c1 ss _ HO18.out.rd (Nat.le_refl _) (by omega) HSS.out).mono ?_
      rw [HP.out]
      rintro e W19 ⟨rfl, hb⟩
      have HO19 := Lib.hid (HO18.out.below hb (Nat.le_refl _)).top
      have HOx19 := Lib.hid (HOx18.out.below hb (Nat.le_refl _)).top
      have HOy19 := Lib.hid (HOy18.out.below hb (Nat.le_refl _)).top
      have HOq19 := Lib.hid (HOq18.out.below hb (Nat.le_refl _)).top
      have HOz19 := Lib.hid (HOz18.out.below hb (Nat.le_refl _)).top
      have HOa19 := Lib.hid (HOa18.out.below hb (Nat.le_refl _)).top
      have HOb19 := Lib.hid (HOb18.out.below hb (Nat.le_refl _)).top
      have HB19 := Lib.hid (HB18.out.trans (hb.mono HB18.out.size))
      clear hb
      have hm1 : (1 : Int) < m := by omega
      go_wp2_with fail
      refine (iIsBelow_any Aa Ab ma ca mb cb sa sb _ HOa19.out.rd HOb19.out.rd (by omega) hca1 (by omega) HAS.out HBS.out).mono ?_
      rintro e W20 ⟨rfl, hb⟩
      have HO20 := Lib.hid (HO19.out.below hb (Nat.le_refl _)).top
      have HOx20 := Lib.hid (HOx19.out.below hb (Nat.le_refl _)).top
      have HOy20 := Lib.hid (HOy19.out.below hb (Nat.le_refl _)).top
      have HOq20 := Lib.hid (HOq19.out.below hb (Nat.le_refl _)).top
      have HOz20 := Lib.hid (HOz19.out.below hb (Nat.le_refl _)).top
      have HOa20 := Lib.hid (HOa19.out.below hb (Nat.le_refl _)).top
      have HOb20 := Lib.hid (HOb19.out.below hb (Nat.le_refl _)).top
      have HB20 := Lib.hid (HB19.out.trans (hb.mono HB19.out.size))
      clear hb
      go_wp2_with fail
      refine (sIsBelow_any Aa Ab ma ca mb cb sa sb _ HOa20.out.rd HOb20.out.rd (by omega) hca1 (by omega) HAS.out HBS.out).mono ?_
      rintro e W21 ⟨rfl, hb⟩
      have HO21 := Lib.hid (HO20.out.below hb (Nat.le_refl _)).top
      have HOx21 := Lib.hid (HOx20.out.below hb (Nat.le_refl _)).top
      have HOy21 := Lib.hid (HOy20.out.below hb (Nat.le_refl _)).top
      have HOq21 := Lib.hid (HOq20.out.below hb (Nat.le_refl _)).top
      have HOz21 := Lib.hid (HOz20.out.below hb (Nat.le_refl _)).top
      have HOa21 := Lib.hid (HOa20.out.below hb (Nat.le_refl _)).top
      have HOb21 := Lib.hid (HOb20.out.below hb (Nat.le_refl _)).top
      have HB21 := Lib.hid (HB20.out.trans (hb.mono HB20.out.size))
      clear hb
      go_wp2
      go_ret
      exact ⟨by simp, HB21.out⟩
end Go.Proofs.YtkgdgnjlmcodlaaDoor.W05F
