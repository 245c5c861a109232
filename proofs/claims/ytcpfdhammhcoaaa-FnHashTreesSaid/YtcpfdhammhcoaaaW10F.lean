/- The walk of the statement 'FnHashTrees': the law returns true, and writes into nothing that was there. -/
import Derived.Test.YtcpfdhammhcoaaaC10S
import Derived.Test.YtcpfdhammhcoaaaC10I
import Derived.Test.YtcpfdhammhcoaaaD10
import Derived.Test.YtcpfdhammhcoaaaM10
import Derived.Test.YtcpfdhammhcoaaaRKA
import Derived.Test.YtcpfdhammhcoaaaT01
import Derived.Test.YtcpfdhammhcoaaaD02
import Derived.RegionTactic
namespace Go.Proofs.Ytcpfdhammhcoaaa.W10F
set_option linter.unusedVariables false
set_option maxRecDepth 100000
open Go.RowKit Mem MemS M02 C01 C02 Rep RW R08 Q08 M08 M10 M10F C10S C10I T01 D01 D08 D09 D10 SL TB RG RGS RKA
theorem up_row {B n : Nat} {w w' : World} {A : Option Addr} {l : List Entry} (h : FRdEntry w B A n l) (hb : Below B w w') (hB : B ≤ w'.heap.size) : FRdEntry w' w'.heap.size A n l := (h.below hb (Nat.le_refl _)).more hB
theorem up_i {B n : Nat} {w w' : World} {A : Option Addr} {l : List Int} (h : Rd .i64 w B A n l) (hb : Below B w w') (hB : B ≤ w'.heap.size) : Rd .i64 w' w'.heap.size A n l := (h.below hb (Nat.le_refl _)).more hB
set_option maxHeartbeats 8000000 in
theorem FnHashTrees_walk (W0 : World) (A : Option Addr) (n c : Nat) (hn : n ≤ maxLen) (hr : BRow W0 W0.heap.size A n) :
    Calls Try.prog 3 #[.slice A n c] W0 fun e w' => e = .returned (.bool true) ∧ Below W0.heap.size W0 w' := by
  by_cases hbig : 1048576 < n
  · go_enter Try.func3, Try.ntmps3
    go_wp2_with fail
    refine (big_yes _ _ _ _ hbig).mono ?_
    rintro e w1 ⟨rfl, rfl⟩
    go_wp2
    go_ret
    exact ⟨rfl, Below.refl _ _⟩
  have HR := Lib.hid hr
  have HNO := Lib.hid (fun w1 => iNodeOf_any 1 2 w1 (inI64 (by omega) (by omega)) (inI64 (by omega) (by omega)))
  have HNP := Lib.hid (fun w1 => iNodeOf_any 2 1 w1 (inI64 (by omega) (by omega)) (inI64 (by omega) (by omega)))
  have HNE := Lib.hid node_12
  generalize nodeOf 1 2 = n1 at HNO HNE
  generalize nodeOf 2 1 = n2 at HNP HNE
  clear hr
  go_enter Try.func3, Try.ntmps3
  go_wp2_with fail
  refine (big_no _ _ _ _ (by omega)).mono ?_
  rintro e w1 ⟨rfl, rfl⟩
  go_wp2_with fail
  refine (drawPathFor_any W0 A n c hn HR.out).mono ?_
  rintro e W1 ⟨Al, m, cl, l, i, rfl, hi0, hi1, hm, hl, ho, hb⟩
  have HL := Lib.hid hl
  have HLL := Lib.hid ho.len
  have HO1 := Lib.hid ho.rd
  have HB1 := Lib.hid hb
  have HLW := Lib.hid ho.wf
  have hii : In .i64 i := inI64 (by omega) (by omega)
  have hmi : In .i64 m := inI64 (by omega) (by omega)
  have HIP := Lib.hid (iPathFor_any Al m cl l i W1 HO1.out (by omega))
  have HSP := Lib.hid (fun w1 (h : Rd .i64 w1 w1.heap.size Al m l) => sPathFor_any Al m cl l i w1 h (by omega))
  have HIT := Lib.hid (fun w1 (h : Rd .i64 w1 w1.heap.size Al m l) => iTopOf_any Al m cl l w1 h (by omega))
  have HST := Lib.hid (fun w1 (h : Rd .i64 w1 w1.heap.size Al m l) => sTopOf_any Al m cl l w1 h (by omega))
  have HPL := Lib.hid (show (pathFor l i).length ≤ 12 by have := pathFor_len l i; have := HLL.out; omega)
  have HTR := Lib.hid (fun (j : Nat) (e : i = j) (hj : j < m) => show ∃ u : Int, topFrom (l.getD j 0) j m (pathFor l i) = (topOf l, true) ∧ topFrom (l.getD j 0 + 1) j m (pathFor l i) = (u, true) ∧ u ≠ topOf l ∧ (topFrom (l.getD j 0) j m (pathFor l i ++ [1])).2 = false ∧ (pathFor l i).length ≤ 4 from by
    subst e
    have := trees (l := l) (i := j) (by rw [HLL.out]; exact hj) (by rw [HLL.out]; exact hm) HL.out
    rw [HLL.out] at this
    exact this)
  generalize pathFor l i = p at HIP HSP HPL HTR
  generalize topOf l = t at HIT HST HTR
  clear hl ho hb
  go_wp2_with fail
  refine HIP.out.mono ?_
  rintro e W2 ⟨Ap, cp, rfl, hop, hb2⟩
  have HP2 := Lib.hid hop.rd
  have HO2 := Lib.hid (up_i HO1.out hb2 hb2.size)
  have HB2 := Lib.hid (HB1.out.trans (hb2.mono HB1.out.size))
  clear hop hb2
  go_wp2_with fail
  refine (HSP.out _ HO2.out).mono ?_
  rintro e W3 ⟨Aq, cq, rfl, hoq, hb3⟩
  have HQ3 := Lib.hid hoq.rd
  have HP3 := Lib.hid (up_i HP2.out hb3 hb3.size)
  have HO3 := Lib.hid (up_i HO2.out hb3 hb3.size)
  have HB3 := Lib.hid (HB2.out.trans (hb3.mono HB2.out.size))
  clear hoq hb3
  go_wp2_with fail
  refine (sameInts_same _ _ _ _ _ _ _ p W3 HP3.out HQ3.out (by have := HPL.out; omega)).mono ?_
  rintro e W4 ⟨rfl, hs4⟩
  have HP4 := Lib.hid (up_i HP3.out (hs4.below _) (hs4.below W3.heap.size).size)
  have HO4 := Lib.hid (up_i HO3.out (hs4.below _) (hs4.below W3.heap.size).size)
  have HB4 := Lib.hid (HB3.out.trans (hs4.below _))
  clear hs4
  go_wp2_with fail
  refine (HIT.out _ HO4.out).mono ?_
  rintro e W5 ⟨rfl, hb5⟩
  have HP5 := Lib.hid (up_i HP4.out hb5 hb5.size)
  have HO5 := Lib.hid (up_i HO4.out hb5 hb5.size)
  have HB5 := Lib.hid (HB4.out.trans (hb5.mono HB4.out.size))
  clear hb5
  go_wp2_with fail
  refine (HST.out _ HO5.out).mono ?_
  rintro e W6 ⟨rfl, hb6⟩
  have HP6 := Lib.hid (up_i HP5.out hb6 hb6.size)
  have HO6 := Lib.hid (up_i HO5.out hb6 hb6.size)
  have HB6 := Lib.hid (HB5.out.trans (hb6.mono HB5.out.size))
  clear hb6
  have hcase : i = -1 ∨ i = m ∨ (0 ≤ i ∧ i < m) := by omega
  rcases hcase with rfl | rfl | ⟨hi2, hi3⟩
  · skip
    go_wp2_with fail
    refine (drawTopFrom_any W6 A n c hn ((HR.out.below HB6.out).more HB6.out.size)).mono ?_
    rintro e X1 ⟨a, b, z, Ax, nx, cx, x7, rfl, ha, hb, hz, hnx, hrx, hb7⟩
    have HX := Lib.hid hrx
    have HC1 := Lib.hid (HB6.out.trans (hb7.mono HB6.out.size))
    have HIF := Lib.hid (iTopFrom_any a b z Ax nx cx x7 X1 ha hb hz hrx (by omega))
    have HSF := Lib.hid (fun w1 (h : Rd .i64 w1 w1.heap.size Ax nx x7) => sTopFrom_any a b z Ax nx cx x7 w1 ha hb hz h (by omega))
    generalize topFrom a b z x7 = r at HIF HSF
    obtain ⟨t9, ok⟩ := r
    simp only at HIF HSF
    clear hrx hb7
    go_wp2_with fail
    refine HIF.out.mono ?_
    rintro e X2 ⟨rfl, hb8⟩
    have HX2 := Lib.hid (up_i HX.out hb8 hb8.size)
    have HC2 := Lib.hid (HC1.out.trans (hb8.mono HC1.out.size))
    clear hb8
    go_wp2_with fail
    refine (HSF.out _ HX2.out).mono ?_
    rintro e X3 ⟨rfl, hb9⟩
    have HC3 := Lib.hid (HC2.out.trans (hb9.mono HC2.out.size))
    clear hb9
    go_wp2_with fail
    refine (drawRootOf_any X3 A n c hn ((HR.out.below HC3.out).more HC3.out.size)).mono ?_
    rintro e X4 ⟨Ae, ne, ce, es, rfl, hse, hoe, hb10⟩
    have HE4 := Lib.hid hoe.rd
    have hte := smL_fine hse
    have HIR := Lib.hid (iRootOf_any Ae ne ce es X4 HE4.out (by omega))
    have HSR := Lib.hid (fun w1 (h : FRdEntry w1 w1.heap.size Ae ne es) => sRootOf_any Ae ne ce es w1 h (by omega))
    have HC4 := Lib.hid (HC3.out.trans (hb10.mono HC3.out.size))
    generalize rootOf es = ro at HIR HSR
    clear hse hoe hb10 hte
    cases ok
    all_goals
      go_wp2_with fail
      refine HIR.out.mono ?_
      rintro e X5 ⟨rfl, hb11⟩
      have HE5 := Lib.hid (up_row HE4.out hb11 hb11.size)
      have HC5 := Lib.hid (HC4.out.trans (hb11.mono HC4.out.size))
      clear hb11
      go_wp2_with fail
      refine (HSR.out _ HE5.out).mono ?_
      rintro e X6 ⟨rfl, hb12⟩
      have HC6 := Lib.hid (HC5.out.trans (hb12.mono HC5.out.size))
      clear hb12
      go_wp2_with fail
      refine (HNO.out _).mono ?_
      rintro e X7 ⟨rfl, hb13⟩
      have HC7 := Lib.hid (HC6.out.trans (hb13.mono HC6.out.size))
      clear hb13
      go_wp2_with fail
      refine (HNP.out _).mono ?_
      rintro e X8 ⟨rfl, hb14⟩
      have HC8 := Lib.hid (HC7.out.trans (hb14.mono HC7.out.size))
      clear hb14
      have hne := HNE.out
      go_wp2
      go_ret
      exact ⟨by simp [hne], HC8.out⟩
  · skip
    go_wp2_with fail
    refine (drawTopFrom_any W6 A n c hn ((HR.out.below HB6.out).more HB6.out.size)).mono ?_
    rintro e X1 ⟨a, b, z, Ax, nx, cx, x7, rfl, ha, hb, hz, hnx, hrx, hb7⟩
    have HX := Lib.hid hrx
    have HC1 := Lib.hid (HB6.out.trans (hb7.mono HB6.out.size))
    have HIF := Lib.hid (iTopFrom_any a b z Ax nx cx x7 X1 ha hb hz hrx (by omega))
    have HSF := Lib.hid (fun w1 (h : Rd .i64 w1 w1.heap.size Ax nx x7) => sTopFrom_any a b z Ax nx cx x7 w1 ha hb hz h (by omega))
    generalize topFrom a b z x7 = r at HIF HSF
    obtain ⟨t9, ok⟩ := r
    simp only at HIF HSF
    clear hrx hb7
    go_wp2_with fail
    refine HIF.out.mono ?_
    rintro e X2 ⟨rfl, hb8⟩
    have HX2 := Lib.hid (up_i HX.out hb8 hb8.size)
    have HC2 := Lib.hid (HC1.out.trans (hb8.mono HC1.out.size))
    clear hb8
    go_wp2_with fail
    refine (HSF.out _ HX2.out).mono ?_
    rintro e X3 ⟨rfl, hb9⟩
    have HC3 := Lib.hid (HC2.out.trans (hb9.mono HC2.out.size))
    clear hb9
    go_wp2_with fail
    refine (drawRootOf_any X3 A n c hn ((HR.out.below HC3.out).more HC3.out.size)).mono ?_
    rintro e X4 ⟨Ae, ne, ce, es, rfl, hse, hoe, hb10⟩
    have HE4 := Lib.hid hoe.rd
    have hte := smL_fine hse
    have HIR := Lib.hid (iRootOf_any Ae ne ce es X4 HE4.out (by omega))
    have HSR := Lib.hid (fun w1 (h : FRdEntry w1 w1.heap.size Ae ne es) => sRootOf_any Ae ne ce es w1 h (by omega))
    have HC4 := Lib.hid (HC3.out.trans (hb10.mono HC3.out.size))
    generalize rootOf es = ro at HIR HSR
    clear hse hoe hb10 hte
    cases ok
    all_goals
      go_wp2_with fail
      refine HIR.out.mono ?_
      rintro e X5 ⟨rfl, hb11⟩
      have HE5 := Lib.hid (up_row HE4.out hb11 hb11.size)
      have HC5 := Lib.hid (HC4.out.trans (hb11.mono HC4.out.size))
      clear hb11
      go_wp2_with fail
      refine (HSR.out _ HE5.out).mono ?_
      rintro e X6 ⟨rfl, hb12⟩
      have HC6 := Lib.hid (HC5.out.trans (hb12.mono HC5.out.size))
      clear hb12
      go_wp2_with fail
      refine (HNO.out _).mono ?_
      rintro e X7 ⟨rfl, hb13⟩
      have HC7 := Lib.hid (HC6.out.trans (hb13.mono HC6.out.size))
      clear hb13
      go_wp2_with fail
      refine (HNP.out _).mono ?_
      rintro e X8 ⟨rfl, hb14⟩
      have HC8 := Lib.hid (HC7.out.trans (hb14.mono HC7.out.size))
      clear hb14
      have hne := HNE.out
      go_wp2
      go_ret
      exact ⟨by simp [hne], HC8.out⟩
  · obtain ⟨j, rfl⟩ : ∃ j : Nat, i = j := ⟨i.toNat, by omega⟩
    have hjm : j < m := by omega
    have hj0 : ¬ (j : Int) < 0 := by omega
    obtain ⟨u, t1, t2, t3, t4, t5⟩ := HTR.out j rfl hjm
    obtain ⟨bl, ol, rfl, hltl, hcl⟩ := HO6.out.cell_at hjm
    have hx := HL.out (l.getD j 0) (by
      have h9 : j < l.length := by rw [HLL.out]; exact hjm
      simp only [List.getD, List.getElem?_eq_getElem h9, Option.getD_some]
      exact List.getElem_mem h9)
    generalize l.getD j 0 = x at t1 t2 t4 hcl hx
    obtain ⟨hx0, hx1⟩ := hx
    have hK := fun A1 c1 w1 (h : Rd .i64 w1 w1.heap.size A1 p.length p) => iTopFrom_any x j m A1 p.length c1 p w1 (inI64 (by omega) (by omega)) hii hmi h (by have := HPL.out; omega)
    rw [t1] at hK
    have HT1 := Lib.hid hK
    clear hK
    have hK := fun A1 c1 w1 (h : Rd .i64 w1 w1.heap.size A1 p.length p) => iTopFrom_any (x + 1) j m A1 p.length c1 p w1 (inI64 (by omega) (by omega)) hii hmi h (by have := HPL.out; omega)
    rw [t2] at hK
    have HT2 := Lib.hid hK
    clear hK
    have hK := fun A1 c1 w1 (h : Rd .i64 w1 w1.heap.size A1 (p ++ [1]).length (p ++ [1])) => iTopFrom_any x j m A1 (p ++ [1]).length c1 (p ++ [1]) w1 (inI64 (by omega) (by omega)) hii hmi h (by have := HPL.out; simp; omega)
    rw [t4] at hK
    generalize (topFrom x j m (p ++ [1])).1 = y0 at hK
    have HT4 := Lib.hid hK
    have HQL := Lib.hid (show p.length ≤ 12 from HPL.out)
    have HCX := Lib.hid hcl
    have HBL := Lib.hid hltl
    have HIT3 := Lib.hid t3
    have hk4 : (p.length : Int) ≤ 4 := by omega
    generalize hk9 : p.length = k at HT1 HT2 HP6 hk4
    have HK9 := Lib.hid hk9
    clear hK t1 t2 t4 hltl hk9 t3 t5
    go_wp2_with fail
    refine (HT1.out _ _ _ HP6.out).mono ?_
    rintro e W7 ⟨rfl, hb7⟩
    have HP7 := Lib.hid (up_i HP6.out hb7 hb7.size)
    have HO7 := Lib.hid (up_i HO6.out hb7 hb7.size)
    have HB7 := Lib.hid (HB6.out.trans (hb7.mono HB6.out.size))
    have HC7 := Lib.hid ((hb7.cell (p := ⟨bl, ol + j, none⟩) HBL.out).trans HCX.out)
    have HL7 := Lib.hid (Nat.lt_of_lt_of_le HBL.out hb7.size)
    have hcl7 := HC7.out
    clear hb7 hcl
    go_wp2_with fail
    refine (HT2.out _ _ _ HP7.out).mono ?_
    rintro e W8 ⟨rfl, hb8⟩
    have HP8 := Lib.hid (show Rd .i64 W8.drew W8.drew.heap.size Ap k p from (up_i HP7.out hb8 hb8.size).keep fun i _ => rfl)
    have HO8 := Lib.hid (up_i HO7.out hb8 hb8.size)
    have HB8 := Lib.hid (HB7.out.trans (hb8.mono HB7.out.size))
    have HC8 := Lib.hid (show W8.drew.cell? ⟨bl, ol + j, none⟩ = some (.int .i64 x) from (hb8.cell (p := ⟨bl, ol + j, none⟩) HL7.out).trans HC7.out)
    have HL8 := Lib.hid (show bl < W8.drew.heap.size from Nat.lt_of_lt_of_le HL7.out hb8.size)
    have hjm2 : (j : Int) < m := by omega
    clear hb8 hcl7
    go_wp2_with fail
    refine RK.region (RKS.kill _ (fun q => q == 11) (B := W8.drew.heap.size) [RKS.sv (.slice (some ⟨bl, ol, none⟩) m cl), RKS.sv (.int .i64 ((j : Int))), RKS.sv (.pointer (some ⟨bl, ol + j, none⟩)), RKS.sv (.int .i64 (x)), RKS.sv (.int .i64 ((j : Int))), RKS.sv (.slice (some ⟨bl, ol, none⟩) m cl), RKS.sv (.int .i64 ((m : Int))), RKA.sown0, RKS.sv (.slice Ap k cp), RKS.sown .i64 (p), RKS.sown .i64 ([1]), RKS.sown .i64 (p ++ [1]), RKS.sv (.tuple #[.int .i64 y0, .bool false]), RKS.sv (.tuple #[.int .i64 y0, .bool false]), RKS.sv (.int .i64 (y0)), RKS.sv (.bool (false)), RKS.sv (.int .i64 (y0)), RKS.sv (.bool (false))]) (RKS.eff (W8.drew.heap.size) (fun q => q == 11)) (RKS.tabP [RKS.sv (.slice (some ⟨bl, ol, none⟩) m cl), RKS.sv (.int .i64 ((j : Int))), RKS.sv (.pointer (some ⟨bl, ol + j, none⟩)), RKS.sv (.int .i64 (x)), RKS.sv (.int .i64 ((j : Int))), RKS.sv (.slice (some ⟨bl, ol, none⟩) m cl), RKS.sv (.int .i64 ((m : Int))), RKA.sown0, RKS.sv (.slice Ap k cp), RKS.sown .i64 (p), RKS.sown .i64 ([1]), RKS.sown .i64 (p ++ [1]), RKS.sv (.tuple #[.int .i64 y0, .bool false]), RKS.sv (.tuple #[.int .i64 y0, .bool false]), RKS.sv (.int .i64 (y0)), RKS.sv (.bool (false)), RKS.sv (.int .i64 (y0)), RKS.sv (.bool (false))]) (by kernel_rfl) (by kernel_rfl) RKS.eff_below RKS.eff_keep ?_ ?_
    · refine RK.steps_cons ?_ (RK.steps_cons ?_ (RK.steps_cons ?_ (RK.steps_cons ?_ (RK.steps_cons ?_ (RK.steps_cons ?_ (RK.steps_cons ?_ (RK.steps_cons ?_ (RK.steps_cons ?_ (RK.steps_cons ?_ (RK.steps_cons ?_ (RK.steps_cons ?_ (RK.steps_cons ?_ (RK.steps_cons ?_ (RK.steps_cons ?_ (RK.steps_cons ?_ (RK.steps_cons ?_ (RK.steps_cons ?_ (RK.steps_nil))))))))))))))))))
      · intro aa ww hA K hK0
        have hK := RKA.quietE rfl hK0
        refine RKS.free rfl fun _ => ?_
        exact gives hK rfl (hA.old 3 (by kernel_rfl))
      · intro aa ww hA K hK0
        have hK := RKA.quietE rfl hK0
        refine RKS.free rfl fun _ => ?_
        exact gives hK rfl (hA.old 4 (by kernel_rfl))
      · intro aa ww hA K hK0
        have hK := RKA.quietE rfl hK0
        refine RKS.free rfl fun _ => ?_
        have e78 : aa.tmps.getD 78 undef = .slice (some ⟨bl, ol, none⟩) m cl := hA.got 0 78 (by kernel_rfl)
        have e79 : aa.tmps.getD 79 undef = .int .i64 ((j : Int)) := hA.got 1 79 (by kernel_rfl)
        exact gives hK (v := .pointer (some ⟨bl, ol + j, none⟩)) (by simp [execOp, Act.eval, e78, e79, go_sem, hjm2, hj0]) rfl
      · intro aa ww hA K hK0
        have hK := RKA.quietE rfl hK0
        refine RKS.free rfl fun _ => ?_
        have e80 : aa.tmps.getD 80 undef = .pointer (some ⟨bl, ol + j, none⟩) := hA.got 2 80 (by kernel_rfl)
        have d0 := (hA.bel.cell (p := ⟨bl, ol + j, none⟩) HL8.out).trans HC8.out
        exact gives hK (v := .int .i64 x) (by simp [execOp, Act.eval, e80, d0, go_sem]) rfl
      · intro aa ww hA K hK0
        have hK := RKA.quietE rfl hK0
        refine RKS.free rfl fun _ => ?_
        exact gives hK rfl (hA.old 4 (by kernel_rfl))
      · intro aa ww hA K hK0
        have hK := RKA.quietE rfl hK0
        refine RKS.free rfl fun _ => ?_
        exact gives hK rfl (hA.old 3 (by kernel_rfl))
      · intro aa ww hA K hK0
        have hK := RKA.quietE rfl hK0
        refine RKS.free rfl fun _ => ?_
        have e83 : aa.tmps.getD 83 undef = .slice (some ⟨bl, ol, none⟩) m cl := hA.got 5 83 (by kernel_rfl)
        exact gives hK (v := .int .i64 ((m : Int))) (by simp [Act.eval, e83, go_sem]) rfl
      · intro aa ww hA K hK0
        have hK := RKA.quietE rfl hK0
        refine RKS.free rfl fun _ => ?_
        exact lays hK (v := .slice (some ⟨ww.heap.size, 0, none⟩) 0 0) (w' := ww.alloc (.cells #[] 3)) (by simp [execOp, go_sem]) ((Below.refl _ _).alloc (Nat.le_refl _) _) (RKA.sown0_lit hA.bel.size)
      · intro aa ww hA K hK0
        have hK := RKA.quietE rfl hK0
        refine RKS.free rfl fun _ => ?_
        exact gives hK rfl (hA.old 5 (by kernel_rfl))
      · intro aa ww hA K hK0
        have hK := RKA.quietE rfl hK0
        refine RKS.free rfl fun _ => ?_
        obtain ⟨b85, e85, h85⟩ := hA.got 7 85 (by kernel_rfl)
        have e86 : aa.tmps.getD 86 undef = .slice Ap k cp := hA.got 8 86 (by kernel_rfl)
        exact RKA.app0 (B := W8.drew.heap.size) hK (.tmp 85) (.tmp 86) rfl e85 e86 h85 (HP8.out.below hA.bel (Nat.le_refl _)) (by have := HQL.out; have := HK9.out; simp; omega) hA.bel.size (fun _ _ h => h)
      · intro aa ww hA K hK0
        have hK := RKA.quietE rfl hK0
        refine RKS.free rfl fun _ => ?_
        exact lays hK (v := .slice (some ⟨ww.heap.size, 0, none⟩) 1 1) (w' := ww.alloc (.cells #[.int .i64 (1)] 3)) (by simp [execOp, Act.eval, go_sem]) ((Below.refl _ _).alloc (Nat.le_refl _) _) (RKA.sown_lit1 (inI64 (by omega) (by omega)) hA.bel.size)
      · intro aa ww hA K hK0
        have hK := RKA.loudE rfl hK0
        refine RKS.free rfl fun _ => ?_
        obtain ⟨A87, c87, e87, h87⟩ := hA.got 9 87 (by kernel_rfl)
        obtain ⟨A88, c88, e88, h88⟩ := hA.got 10 88 (by kernel_rfl)
        exact RKA.app1 (B := W8.drew.heap.size) hK (.tmp 87) (.tmp 88) rfl e87 e88 h87 h88.rd (by have := HQL.out; have := HK9.out; simp; omega) hA.bel.size (fun _ _ h => h)
      · intro aa ww hA K hK0
        have hK := RKA.quietE rfl hK0
        refine RKS.free rfl fun _ => ?_
        have e81 : aa.tmps.getD 81 undef = .int .i64 (x) := hA.got 3 81 (by kernel_rfl)
        have e82 : aa.tmps.getD 82 undef = .int .i64 ((j : Int)) := hA.got 4 82 (by kernel_rfl)
        have e84 : aa.tmps.getD 84 undef = .int .i64 ((m : Int)) := hA.got 6 84 (by kernel_rfl)
        obtain ⟨A89, c89, e89, h89⟩ := hA.got 11 89 (by kernel_rfl)
        refine calls hK (by simp [Act.eval, e81, e82, e84, e89, go_sem]) (HT4.out A89 c89 ww (h89.rd.more (Nat.le_refl _))) ?_
        rintro e w1 ⟨rfl, hb⟩
        exact ⟨_, rfl, hb, rfl⟩
      · intro aa ww hA K hK0
        have hK := RKA.quietE rfl hK0
        refine RKS.free rfl fun _ => ?_
        exact gives hK rfl (hA.got 12 90 (by kernel_rfl))
      · intro aa ww hA K hK0
        have hK := RKA.quietE rfl hK0
        refine RKS.free rfl fun _ => ?_
        have e77 : aa.tmps.getD 77 undef = .tuple #[.int .i64 y0, .bool false] := hA.got 13 77 (by kernel_rfl)
        exact gives hK (v := .int .i64 (y0)) (by simp [execOp, Act.eval, e77, go_sem]) rfl
      · intro aa ww hA K hK0
        have hK := RKA.quietE rfl hK0
        refine RKS.free rfl fun _ => ?_
        have e77 : aa.tmps.getD 77 undef = .tuple #[.int .i64 y0, .bool false] := hA.got 13 77 (by kernel_rfl)
        exact gives hK (v := .bool (false)) (by simp [execOp, Act.eval, e77, go_sem]) rfl
      · intro aa ww hA K hK0
        have hK := RKA.quietE rfl hK0
        refine RKS.free rfl fun _ => ?_
        exact gives hK rfl (hA.got 14 91 (by kernel_rfl))
      · intro aa ww hA K hK0
        have hK := RKA.quietE rfl hK0
        refine RKS.free rfl fun _ => ?_
        exact gives hK rfl (hA.got 15 92 (by kernel_rfl))
    · intro a1 w1 hb hd hsz hold hgot
      have g11 : a1.tmps.getD 11 undef = .bool (false) := hgot 17 11 (by kernel_rfl) (by kernel_rfl)
      have ea := act_put hd hsz hold [78, 79, 80, 81, 82, 83, 84, 85, 86, 87, 88, 89, 90, 77, 91, 92, 10, 11] rfl
      simp only [List.foldl_cons, List.foldl_nil, g11] at ea
      rename_i K9 hK9
      refine hK9 a1 w1 ?_
      generalize a1.tmps.getD 78 undef = v78 at ea
      generalize a1.tmps.getD 79 undef = v79 at ea
      generalize a1.tmps.getD 80 undef = v80 at ea
      generalize a1.tmps.getD 81 undef = v81 at ea
      generalize a1.tmps.getD 82 undef = v82 at ea
      generalize a1.tmps.getD 83 undef = v83 at ea
      generalize a1.tmps.getD 84 undef = v84 at ea
      generalize a1.tmps.getD 85 undef = v85 at ea
      generalize a1.tmps.getD 86 undef = v86 at ea
      generalize a1.tmps.getD 87 undef = v87 at ea
      generalize a1.tmps.getD 88 undef = v88 at ea
      generalize a1.tmps.getD 89 undef = v89 at ea
      generalize a1.tmps.getD 90 undef = v90 at ea
      generalize a1.tmps.getD 77 undef = v77 at ea
      generalize a1.tmps.getD 91 undef = v91 at ea
      generalize a1.tmps.getD 92 undef = v92 at ea
      generalize a1.tmps.getD 10 undef = v10 at ea
      clear hgot hold hsz hd g11
      simp only [Act.put, List.setIfInBounds_toArray, List.set_cons_succ, List.set_cons_zero] at ea
      subst ea
      have HB9 := Lib.hid ((HB8.out.drew).trans (hb.mono HB8.out.drew.size))
      have HO9 := Lib.hid (up_i (show Rd .i64 W8.drew W8.drew.heap.size (some ⟨bl, ol, none⟩) m l from HO8.out.keep fun i _ => rfl) hb hb.size)
      have hut : ¬ u = t := HIT3.out
      have hub : (u == t) = false := beq_eq_false_iff_ne.2 hut
      have hk5 : ¬ (4 : Int) < k := by omega
      clear hb
      go_wp2_with fail
      refine (HIT.out _ HO9.out).mono ?_
      rintro e W10 ⟨rfl, hb10⟩
      have HB10 := Lib.hid (HB9.out.trans (hb10.mono HB9.out.size))
      clear hb10
      go_wp2_with fail
      refine (drawTopFrom_any W10 A n c hn ((HR.out.below HB10.out).more HB10.out.size)).mono ?_
      rintro e X1 ⟨a, b, z, Ax, nx, cx, x7, rfl, ha, hb, hz, hnx, hrx, hb7⟩
      have HX := Lib.hid hrx
      have HC1 := Lib.hid (HB10.out.trans (hb7.mono HB10.out.size))
      have HIF := Lib.hid (iTopFrom_any a b z Ax nx cx x7 X1 ha hb hz hrx (by omega))
      have HSF := Lib.hid (fun w1 (h : Rd .i64 w1 w1.heap.size Ax nx x7) => sTopFrom_any a b z Ax nx cx x7 w1 ha hb hz h (by omega))
      generalize topFrom a b z x7 = r at HIF HSF
      obtain ⟨t9, ok⟩ := r
      simp only at HIF HSF
      clear hrx hb7
      go_wp2_with fail
      refine HIF.out.mono ?_
      rintro e X2 ⟨rfl, hb8⟩
      have HX2 := Lib.hid (up_i HX.out hb8 hb8.size)
      have HC2 := Lib.hid (HC1.out.trans (hb8.mono HC1.out.size))
      clear hb8
      go_wp2_with fail
      refine (HSF.out _ HX2.out).mono ?_
      rintro e X3 ⟨rfl, hb9⟩
      have HC3 := Lib.hid (HC2.out.trans (hb9.mono HC2.out.size))
      clear hb9
      go_wp2_with fail
      refine (drawRootOf_any X3 A n c hn ((HR.out.below HC3.out).more HC3.out.size)).mono ?_
      rintro e X4 ⟨Ae, ne, ce, es, rfl, hse, hoe, hb10⟩
      have HE4 := Lib.hid hoe.rd
      have hte := smL_fine hse
      have HIR := Lib.hid (iRootOf_any Ae ne ce es X4 HE4.out (by omega))
      have HSR := Lib.hid (fun w1 (h : FRdEntry w1 w1.heap.size Ae ne es) => sRootOf_any Ae ne ce es w1 h (by omega))
      have HC4 := Lib.hid (HC3.out.trans (hb10.mono HC3.out.size))
      generalize rootOf es = ro at HIR HSR
      clear hse hoe hb10 hte
      cases ok
      all_goals
        go_wp2_with fail
        refine HIR.out.mono ?_
        rintro e X5 ⟨rfl, hb11⟩
        have HE5 := Lib.hid (up_row HE4.out hb11 hb11.size)
        have HC5 := Lib.hid (HC4.out.trans (hb11.mono HC4.out.size))
        clear hb11
        go_wp2_with fail
        refine (HSR.out _ HE5.out).mono ?_
        rintro e X6 ⟨rfl, hb12⟩
        have HC6 := Lib.hid (HC5.out.trans (hb12.mono HC5.out.size))
        clear hb12
        go_wp2_with fail
        refine (HNO.out _).mono ?_
        rintro e X7 ⟨rfl, hb13⟩
        have HC7 := Lib.hid (HC6.out.trans (hb13.mono HC6.out.size))
        clear hb13
        go_wp2_with fail
        refine (HNP.out _).mono ?_
        rintro e X8 ⟨rfl, hb14⟩
        have HC8 := Lib.hid (HC7.out.trans (hb14.mono HC7.out.size))
        clear hb14
        have hne := HNE.out
        go_wp2
        go_ret
        exact ⟨by simp [hne], HC8.out⟩
end Go.Proofs.Ytcpfdhammhcoaaa.W10F
