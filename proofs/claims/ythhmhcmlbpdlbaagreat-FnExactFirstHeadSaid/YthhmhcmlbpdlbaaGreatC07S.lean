/- Chapter 7: signatures, what the model's functions return. -/
import Derived.Test.YthhmhcmlbpdlbaaGreatC06S
import Derived.Test.YthhmhcmlbpdlbaaGreatC06I
import Derived.Test.YthhmhcmlbpdlbaaGreatM07
import Derived.Deep.RegionLaw
namespace Go.Proofs.YthhmhcmlbpdlbaaGreat.C07S
open Go.RowKit Mem MemS M02 M03 M06 M07 C01 C02 C03S C03H C06S Rep RepA R06 R07 Flat RG RGS RGF
set_option linter.unusedVariables false
set_option maxRecDepth 100000
theorem sTagOf_any (key : Int) (A : Option Addr) (n c : Nat) (m : List Int) (w : World) (h : Rd .i64 w w.heap.size A n m) (hn : n ≤ 1099511626) (hk : In .i64 key) :
    Calls Tryz.prog 158 #[.int .i64 key, .slice A n c] w fun e w' => e = .returned (.int .i64 (tagOf key m)) ∧ Below w.heap.size w w' := by
  have H0 := Lib.hid (own_lit .i64 w (b := w.heap.size) (cs := #[.int .i64 223]) (ty := 3) (zs := [223]) (n := 1) (lo := w.heap.size) rfl rfl rfl rfl (by intro z hz; rw [List.mem_singleton.1 hz]; exact inI64 (by omega) (by omega)) (Nat.le_refl _) (by simp [maxLen]))
  have HB := Lib.hid ((Below.refl w.heap.size w).alloc (Nat.le_refl _) (.cells #[.int .i64 223] 3))
  have HM := Lib.hid (h.alloc (Nat.le_refl _) (.cells #[.int .i64 223] 3))
  have HK := Lib.hid hk
  clear h hk
  go_enter Tryz.func158, Tryz.ntmps158
  go_wp2_with (at_builtin; refine wp_app (k := .i64) (by unfold BI; decide) rfl _ _ rfl rfl H0.out rfl HM.out (by omega) HB.out.size ?_; intro A3 c3 w3 hown3 hgr3)
  have HO3 := Lib.hid hown3
  have HB3 := Lib.hid (HB.out.trans (hgr3.below HB.out.size H0.out.ge))
  clear hown3 hgr3
  go_wp2_with fail
  refine (sKeyedHash_any A3 key _ c3 _ _ HO3.out.rd (by omega) HK.out.1 HK.out.2).mono ?_
  rintro e w4 ⟨rfl, hb4⟩
  have HB4 := Lib.hid (HB3.out.trans (hb4.mono HB3.out.size))
  clear hb4
  go_wp2
  go_ret
  exact ⟨rfl, HB4.out⟩
theorem sIsSigBy_any (s : Sig) (A : Option Addr) (n c : Nat) (m : List Int) (w : World) (h : Rd .i64 w w.heap.size A n m) (hn : n ≤ 1099511626) (hc : n ≤ c) (hq : QSig s) :
    Calls Tryz.prog 136 #[.agg (fSig s).toArray, .slice A n c] w fun e w' => e = .returned (.bool (isSig s m)) ∧ Below w.heap.size w w' := by
  have HQ := Lib.hid hq
  have HL := Lib.hid h.len
  have HN := Lib.hid (show m.length ≤ 1099511626 by rw [HL.out]; exact hn)
  have HX := Lib.hid (Box.new w #[.int .i64 s.key, .int .i64 s.tag] 107)
  have HZ0 := Lib.hid (HX.out.cell (j := 0) rfl)
  have HZ1 := Lib.hid (HX.out.cell (j := 1) rfl)
  have HB := Lib.hid ((Below.refl w.heap.size w).alloc (Nat.le_refl _) (.cells #[.int .i64 s.key, .int .i64 s.tag] 107))
  have HPm := Lib.hid (sy_drew (S := snums .i64 m) (snums_rd ((h.alloc (Nat.le_refl _) (.cells #[.int .i64 s.key, .int .i64 s.tag] 107)).more (by simp)) hc))
  clear h hq
  unfold fSig
  go_enter Tryz.func136, Tryz.ntmps136
  go_wp2_with fail
  obtain ⟨z3, hz3⟩ : ∃ zz : Bool, zz = (inR (s.key) 1 99) := ⟨_, rfl⟩
  have Hz3 := Lib.hid hz3
  clear hz3
  refine RG.region (tabP [sv (.pointer (some ⟨w.heap.size, 0, none⟩)), sv (.int .i64 (s.key)), sv (.bool (inR (s.key) 1 99)), sv (.bool (z3)), swhen (z3 == true) (sv (.pointer (some ⟨w.heap.size, 1, none⟩))), swhen (z3 == true) (sv (.int .i64 (s.tag))), swhen (z3 == true) (sv (.pointer (some ⟨w.heap.size, 0, none⟩))), swhen (z3 == true) (sv (.int .i64 (s.key))), swhen (z3 == true) (snums .i64 (m)), swhen (z3 == true) (sv (.int .i64 (tagOf (s.key) m))), swhen (z3 == true) (sv (.bool ((s.tag : Int) == (tagOf (s.key) m : Int)))), sv (.bool ((z3) && ((s.tag : Int) == (tagOf (s.key) m : Int)))), sv (.bool ((z3) && ((s.tag : Int) == (tagOf (s.key) m : Int))))]) (by kernel_rfl) (by kernel_rfl) (tab_keep _) ?_ ?_
  · refine steps_cons ?_ (steps_cons ?_ (steps_cons ?_ (steps_cons ?_ (steps_cons ?_ (steps_cons ?_ (steps_cons ?_ (steps_cons ?_ (steps_cons ?_ (steps_cons ?_ (steps_cons ?_ (steps_cons ?_ (steps_cons ?_ (steps_nil)))))))))))))
    · intro aa ww hA K hK
      refine free rfl ?_
      have e2 : aa.tmps.getD 2 undef = .pointer (some ⟨w.heap.size, 0, none⟩) := hA.old 2 (by kernel_rfl)
      exact gives hK (v := .pointer (some ⟨w.heap.size, 0, none⟩)) (by simp [execOp, Act.eval, e2, go_sem]) rfl
    · intro aa ww hA K hK
      refine free rfl ?_
      have e5 : aa.tmps.getD 5 undef = .pointer (some ⟨w.heap.size, 0, none⟩) := hA.got 0 5 (by kernel_rfl)
      have c0 := (hA.bel.cell (p := ⟨w.heap.size, 0, none⟩) HX.out.lt).trans HZ0.out
      exact gives hK (v := .int .i64 s.key) (by simp [execOp, Act.eval, e5, c0, go_sem]) rfl
    · intro aa ww hA K hK
      refine free rfl ?_
      have e6 : aa.tmps.getD 6 undef = .int .i64 (s.key) := hA.got 1 6 (by kernel_rfl)
      refine calls hK (by simp [Act.eval, e6, go_sem]) (l1In_any (s.key) 1 99 ww) ?_
      rintro e w1 ⟨rfl, rfl⟩
      exact ⟨_, rfl, (Below.refl _ _), rfl⟩
    · intro aa ww hA K hK
      refine free rfl ?_
      have e7 : aa.tmps.getD 7 undef = .bool (inR (s.key) 1 99) := hA.got 2 7 (by kernel_rfl)
      exact gives hK rfl (show aa.tmps.getD 7 undef = .bool z3 from by rw [e7, Hz3.out])
    · intro aa ww hA K hK
      refine guarded (s := sv (.pointer (some ⟨w.heap.size, 1, none⟩))) rfl rfl (hA.got 3 8 (by kernel_rfl)) hK fun hB hK => ?_
      have e2 : aa.tmps.getD 2 undef = .pointer (some ⟨w.heap.size, 0, none⟩) := hA.old 2 (by kernel_rfl)
      exact gives hK (v := .pointer (some ⟨w.heap.size, 1, none⟩)) (by simp [execOp, Act.eval, e2, go_sem]) rfl
    · intro aa ww hA K hK
      refine guarded (s := sv (.int .i64 (s.tag))) rfl rfl (hA.got 3 8 (by kernel_rfl)) hK fun hB hK => ?_
      have e9 : aa.tmps.getD 9 undef = .pointer (some ⟨w.heap.size, 1, none⟩) := (hA.got 4 9 (by kernel_rfl)).1 hB
      have c1 := (hA.bel.cell (p := ⟨w.heap.size, 1, none⟩) HX.out.lt).trans HZ1.out
      exact gives hK (v := .int .i64 s.tag) (by simp [execOp, Act.eval, e9, c1, go_sem]) rfl
    · intro aa ww hA K hK
      refine guarded (s := sv (.pointer (some ⟨w.heap.size, 0, none⟩))) rfl rfl (hA.got 3 8 (by kernel_rfl)) hK fun hB hK => ?_
      have e2 : aa.tmps.getD 2 undef = .pointer (some ⟨w.heap.size, 0, none⟩) := hA.old 2 (by kernel_rfl)
      exact gives hK (v := .pointer (some ⟨w.heap.size, 0, none⟩)) (by simp [execOp, Act.eval, e2, go_sem]) rfl
    · intro aa ww hA K hK
      refine guarded (s := sv (.int .i64 (s.key))) rfl rfl (hA.got 3 8 (by kernel_rfl)) hK fun hB hK => ?_
      have e11 : aa.tmps.getD 11 undef = .pointer (some ⟨w.heap.size, 0, none⟩) := (hA.got 6 11 (by kernel_rfl)).1 hB
      have c0 := (hA.bel.cell (p := ⟨w.heap.size, 0, none⟩) HX.out.lt).trans HZ0.out
      exact gives hK (v := .int .i64 s.key) (by simp [execOp, Act.eval, e11, c0, go_sem]) rfl
    · intro aa ww hA K hK
      refine guarded (s := snums .i64 (m)) rfl rfl (hA.got 3 8 (by kernel_rfl)) hK fun hB hK => ?_
      exact gives hK rfl (old_sy (S := snums .i64 (m)) (hA.old 1 (by kernel_rfl)) HPm.out hA.bel)
    · intro aa ww hA K hK
      refine guarded (s := sv (.int .i64 (tagOf (s.key) m))) rfl rfl (hA.got 3 8 (by kernel_rfl)) hK fun hB hK => ?_
      have e12 : aa.tmps.getD 12 undef = .int .i64 (s.key) := (hA.got 7 12 (by kernel_rfl)).1 hB
      obtain ⟨A13, c13, e13, hc13, h13⟩ := (hA.got 8 13 (by kernel_rfl)).1 hB
      refine calls hK (by simp [Act.eval, e12, e13, go_sem]) (sTagOf_any _ A13 _ c13 m ww h13 HN.out HQ.out.1) ?_
      rintro e w1 ⟨rfl, hb⟩
      exact ⟨_, rfl, hb, rfl⟩
    · intro aa ww hA K hK
      refine guarded (s := sv (.bool ((s.tag : Int) == (tagOf (s.key) m : Int)))) rfl rfl (hA.got 3 8 (by kernel_rfl)) hK fun hB hK => ?_
      have e10 : aa.tmps.getD 10 undef = .int .i64 (s.tag) := (hA.got 5 10 (by kernel_rfl)).1 hB
      have e14 : aa.tmps.getD 14 undef = .int .i64 (tagOf (s.key) m) := (hA.got 9 14 (by kernel_rfl)).1 hB
      exact gives hK (v := .bool ((s.tag : Int) == (tagOf (s.key) m : Int))) (by simp [execOp, Act.eval, e10, e14, binOp, eqGuard, go_sem]) rfl
    · intro aa ww hA K hK
      refine free rfl ?_
      have e8 : aa.tmps.getD 8 undef = .bool (z3) := hA.got 3 8 (by kernel_rfl)
      rcases hq : (z3) with _ | _
      · rw [hq] at e8
        exact gives hK (v := .bool false) (by simp [execOp, Act.eval, e8, asBool, go_sem]) (show Value.bool _ = .bool _ by rw [hq]; simp)
      · have ex : aa.tmps.getD 15 undef = .bool ((s.tag : Int) == (tagOf (s.key) m : Int)) := (hA.got 10 15 (by kernel_rfl)).1 (by rw [hq]; rfl)
        rw [hq] at e8
        exact gives hK (v := .bool ((s.tag : Int) == (tagOf (s.key) m : Int))) (by simp [execOp, Act.eval, e8, ex, asBool, go_sem]) (show Value.bool _ = .bool _ by rw [hq]; simp)
    · intro aa ww hA K hK
      refine free rfl ?_
      exact gives hK rfl (hA.got 11 16 (by kernel_rfl))
  · intro a1 w1 hb hd hsz hold hgot
    have e4 : a1.tmps.getD 4 undef = .bool ((z3) && ((s.tag : Int) == (tagOf (s.key) m : Int))) := hgot 12 4 (by kernel_rfl)
    rename_i K9 hK9
    refine hK9 a1 w1 (wp_ret ?_)
    exact bodyPost_ret (v := .bool ((z3) && ((s.tag : Int) == (tagOf (s.key) m : Int)))) (by simp [results, Tryz.results136, go_sem]; rw [← Array.getD_eq_getD_getElem?]; exact e4) (hd.trans rfl) ⟨by unfold isSig; rw [← Hz3.out], HB.out.trans ((R06.below_drew hb).mono HB.out.size)⟩
set_option maxHeartbeats 8000000 in
theorem sCountSigs_any (cs : List Value) (k : Keys) (A : Option Addr) (n c : Nat) (m : List Int) (A2 : Option Addr) (n2 c2 : Nat) (sigs : List Sig) (w : World) (h : RKeys.rd w (Lt w.heap.size) cs k) (h1 : Rd .i64 w w.heap.size A n m) (hc : n ≤ c) (h2 : FRdSig w w.heap.size A2 n2 sigs)
    (hk : k.list.length ≤ 1099511627776) (hn : n ≤ 1099511626) (hn2 : n2 ≤ 1099511627776) :
    Calls Tryz.prog 100 #[.agg cs.toArray, .slice A n c, .slice A2 n2 c2] w fun e w' => e = .returned (.int .i64 (cntS k.list m sigs : Int)) ∧ Below w.heap.size w w' := by
  obtain ⟨Al, nl, cl, rfl, hlc, hcm, h3, h4⟩ := RKeys_rd.1 h
  obtain ⟨l, need⟩ := k
  simp only at h3 h4 hk ⊢
  have HLl := Lib.hid h3.len
  have HL2 := Lib.hid h2.len
  have HL := Lib.hid h1.len
  have HN := Lib.hid (show m.length ≤ 1099511626 by rw [HL.out]; exact hn)
  obtain ⟨V, hV⟩ : ∃ V, V = w.alloc (.cells #[.slice Al nl cl, .int .i64 need] 26) := ⟨_, rfl⟩
  have HX := Lib.hid (show Box V w.heap.size [.slice Al nl cl, .int .i64 need] by rw [hV]; exact Box.new w #[.slice Al nl cl, .int .i64 need] 26)
  have HB := Lib.hid (show Below w.heap.size w V by rw [hV]; exact (Below.refl w.heap.size w).alloc (Nat.le_refl _) _)
  have H3 := Lib.hid ((h3.below HB.out (Nat.le_refl _)).more HB.out.size)
  have H1 := Lib.hid ((h1.below HB.out (Nat.le_refl _)).more HB.out.size)
  have H2 := Lib.hid ((h2.below HB.out (Nat.le_refl _)).more HB.out.size)
  have HV := Lib.hid hV
  have HCT := Lib.hid (fun i (hi : i < nl) => cntS_step (m := m) (sigs := sigs) (l := l) (i := i) (by rw [HLl.out]; exact hi))
  have HLE := Lib.hid (fun i => cntS_le (l.take i) m sigs)
  have hnl : nl ≤ 1099511627776 := by rw [← HLl.out]; exact hk
  clear h h1 h2 h3 h4 hV hk
  go_enter Tryz.func100, Tryz.ntmps100
  go_wp2
  rw [← HV.out]
  have x0 := HX.out.cell (j := 0) rfl
  go_loopw [7, 8] (fun nv iv wr => ∃ i : Nat, i ≤ nl ∧ nv = .int .i64 (cntS (l.take i) m sigs : Int) ∧ iv = .int .i64 i ∧ Below V.heap.size V wr) (fun _ i _ => nl - (intOf i).toNat)
  case atStart => exact ⟨0, by omega, rfl, rfl, Below.refl _ _⟩
  case round =>
    clear x0
    obtain ⟨i, hi, rfl, rfl, hbel⟩ := hrel
    have HR := Lib.hid hbel
    clear hbel
    have x0 := (HR.out.cell (p := ⟨w.heap.size, 0, none⟩) HX.out.lt).trans (HX.out.cell (j := 0) rfl)
    by_cases hin : i < nl

    · obtain ⟨bl, ol, rfl, hltl, hcl⟩ := (H3.out.below HR.out (Nat.le_refl _)).cells (by omega)
      obtain ⟨x, hx⟩ : ∃ x, x = l.getD i 0 := ⟨_, rfl⟩
      have hci : wr.cell? ⟨bl, ol + i, none⟩ = some (.int .i64 x) := by rw [hx]; exact hcl i hin
      have hct := HCT.out i hin
      have hle := HLE.out i
      rw [List.length_take] at hle
      rw [← hx] at hct
      have HCI := Lib.hid hci
      have HCt := Lib.hid hct
      have HLT := Lib.hid hltl
      clear hcl hx hci hct hltl
      generalize hq : cntS (l.take i) m sigs = q at HCt hle
      clear hq
      have hq9 : q ≤ 1099511627776 := by omega
      clear hle
      go_wp2
      obtain ⟨wo, rfl⟩ : ∃ wo, wo = wr := ⟨_, rfl⟩
      go_loopw [7, 9] (fun nv jv wq => ∃ j : Nat, j ≤ n2 ∧ nv = .int .i64 (q : Int) ∧ jv = .int .i64 j ∧ Below wo.heap.size wo wq ∧ ∀ j', j' < j → ((sigs.getD j' default).key == x && isSig (sigs.getD j' default) m) = false) (fun _ jv _ => n2 - (intOf jv).toNat)
      case atStart => exact ⟨0, by omega, rfl, rfl, Below.refl _ _, fun j' h => absurd h (by omega)⟩
      case round =>
        obtain ⟨j, hj, rfl, rfl, hbq, hfr⟩ := hrel
        have HQ := Lib.hid hbq
        have HF := Lib.hid hfr
        have HW := Lib.hid (HR.out.trans (hbq.mono HR.out.size))
        clear hbq hfr x0
        have x0 : wr.cell? ⟨w.heap.size, 0, none⟩ = some (.slice (some ⟨bl, ol, none⟩) nl cl) := (HW.out.cell (p := ⟨w.heap.size, 0, none⟩) HX.out.lt).trans (HX.out.cell (j := 0) rfl)
        by_cases hjn : j < n2
        · obtain ⟨b2, o2, rfl, hlt2, hc2⟩ := (H2.out.below HW.out (Nat.le_refl _)).cell_at hjn
          have hqz := (H2.out.below HW.out (Nat.le_refl _)).getQ hjn
          obtain ⟨z, hz⟩ : ∃ z, z = sigs.getD j default := ⟨_, rfl⟩
          rw [← hz] at hc2 hqz
          have HQz := Lib.hid hqz
          have HZj := Lib.hid hz
          have HZb := Lib.hid (show w.heap.size < wr.drew.heap.size ∧ wr.drew.cell? ⟨w.heap.size, 0, none⟩ = some (.slice (some ⟨bl, ol, none⟩) nl cl) from ⟨Nat.lt_of_lt_of_le HX.out.lt HW.out.size, x0⟩)
          have HZx := Lib.hid (show bl < wr.drew.heap.size ∧ wr.drew.cell? ⟨bl, ol + i, none⟩ = some (.int .i64 x) from ⟨Nat.lt_of_lt_of_le HLT.out HW.out.size, (HQ.out.cell (p := ⟨bl, ol + i, none⟩) (Nat.lt_of_lt_of_le HLT.out HR.out.size)).trans HCI.out⟩)
          have HZk := Lib.hid (show b2 < wr.drew.heap.size ∧ wr.drew.cell? ⟨b2, o2 + j * 2, none⟩ = some (.int .i64 z.key) from ⟨Nat.lt_of_lt_of_le hlt2 HW.out.size, hc2 0 (by decide)⟩)
          have HZt := Lib.hid (show b2 < wr.drew.heap.size ∧ wr.drew.cell? ⟨b2, o2 + j * 2 + 1, none⟩ = some (.int .i64 z.tag) from ⟨Nat.lt_of_lt_of_le hlt2 HW.out.size, hc2 1 (by decide)⟩)
          have HPm := Lib.hid (sy_drew (S := snums .i64 m) (w := wr) (v := .slice A n c) (snums_rd ((H1.out.below HW.out (Nat.le_refl _)).more HW.out.size) hc))
          have hj2 : (j : Int) < n2 := by omega
          have hil : (i : Int) < nl := by omega
          clear hc2 hqz hz x0 hlt2
          go_wp2
          obtain ⟨z11, hz11⟩ : ∃ zz : Bool, zz = ((z.key : Int) == (x : Int)) := ⟨_, rfl⟩
          have Hz11 := Lib.hid hz11
          clear hz11
          refine RG.region (tabP [sv (.slice (some ⟨b2, o2, none⟩) n2 c2), sv (.int .i64 ((j : Int))), sv (.pointer (some ⟨b2, o2 + j * 2, none⟩)), sv (.pointer (some ⟨b2, o2 + j * 2, none⟩)), sv (.int .i64 (z.key)), sv (.pointer (some ⟨w.heap.size, 0, none⟩)), sv (.slice (some ⟨bl, ol, none⟩) nl cl), sv (.int .i64 ((i : Int))), sv (.pointer (some ⟨bl, ol + i, none⟩)), sv (.int .i64 (x)), sv (.bool ((z.key : Int) == (x : Int))), sv (.bool (z11)), swhen (z11 == true) (sv (.slice (some ⟨b2, o2, none⟩) n2 c2)), swhen (z11 == true) (sv (.int .i64 ((j : Int)))), swhen (z11 == true) (sv (.pointer (some ⟨b2, o2 + j * 2, none⟩))), swhen (z11 == true) (sv (.agg #[.int .i64 z.key, .int .i64 z.tag])), swhen (z11 == true) (snums .i64 (m)), swhen (z11 == true) (sv (.bool (isSig z m))), sv (.bool ((z11) && (isSig z m)))]) (by kernel_rfl) (by kernel_rfl) (tab_keep _) ?_ ?_
          · refine steps_cons ?_ (steps_cons ?_ (steps_cons ?_ (steps_cons ?_ (steps_cons ?_ (steps_cons ?_ (steps_cons ?_ (steps_cons ?_ (steps_cons ?_ (steps_cons ?_ (steps_cons ?_ (steps_cons ?_ (steps_cons ?_ (steps_cons ?_ (steps_cons ?_ (steps_cons ?_ (steps_cons ?_ (steps_cons ?_ (steps_cons ?_ (steps_nil)))))))))))))))))))
            · intro aa ww hA K hK
              refine free rfl ?_
              exact gives hK rfl (hA.old 2 (by kernel_rfl))
            · intro aa ww hA K hK
              refine free rfl ?_
              exact gives hK rfl (hA.old 9 (by kernel_rfl))
            · intro aa ww hA K hK
              refine free rfl ?_
              have e23 : aa.tmps.getD 23 undef = .slice (some ⟨b2, o2, none⟩) n2 c2 := hA.got 0 23 (by kernel_rfl)
              have e24 : aa.tmps.getD 24 undef = .int .i64 ((j : Int)) := hA.got 1 24 (by kernel_rfl)
              exact gives hK (v := .pointer (some ⟨b2, o2 + j * 2, none⟩)) (by simp [execOp, Act.eval, e23, e24, go_sem, hj2]) rfl
            · intro aa ww hA K hK
              refine free rfl ?_
              have e25 : aa.tmps.getD 25 undef = .pointer (some ⟨b2, o2 + j * 2, none⟩) := hA.got 2 25 (by kernel_rfl)
              exact gives hK (v := .pointer (some ⟨b2, o2 + j * 2, none⟩)) (by simp [execOp, Act.eval, e25, go_sem]) rfl
            · intro aa ww hA K hK
              refine free rfl ?_
              have e26 : aa.tmps.getD 26 undef = .pointer (some ⟨b2, o2 + j * 2, none⟩) := hA.got 3 26 (by kernel_rfl)
              have d2 := (hA.bel.cell (p := ⟨b2, o2 + j * 2, none⟩) HZk.out.1).trans HZk.out.2
              exact gives hK (v := .int .i64 z.key) (by simp [execOp, Act.eval, e26, d2, go_sem]) rfl
            · intro aa ww hA K hK
              refine free rfl ?_
              have e3 : aa.tmps.getD 3 undef = .pointer (some ⟨w.heap.size, 0, none⟩) := hA.old 3 (by kernel_rfl)
              exact gives hK (v := .pointer (some ⟨w.heap.size, 0, none⟩)) (by simp [execOp, Act.eval, e3, go_sem]) rfl
            · intro aa ww hA K hK
              refine free rfl ?_
              have e28 : aa.tmps.getD 28 undef = .pointer (some ⟨w.heap.size, 0, none⟩) := hA.got 5 28 (by kernel_rfl)
              have d0 := (hA.bel.cell (p := ⟨w.heap.size, 0, none⟩) HZb.out.1).trans HZb.out.2
              exact gives hK (v := .slice (some ⟨bl, ol, none⟩) nl cl) (by simp [execOp, Act.eval, e28, d0, go_sem]) rfl
            · intro aa ww hA K hK
              refine free rfl ?_
              exact gives hK rfl (hA.old 8 (by kernel_rfl))
            · intro aa ww hA K hK
              refine free rfl ?_
              have e29 : aa.tmps.getD 29 undef = .slice (some ⟨bl, ol, none⟩) nl cl := hA.got 6 29 (by kernel_rfl)
              have e30 : aa.tmps.getD 30 undef = .int .i64 ((i : Int)) := hA.got 7 30 (by kernel_rfl)
              exact gives hK (v := .pointer (some ⟨bl, ol + i, none⟩)) (by simp [execOp, Act.eval, e29, e30, go_sem, hil]) rfl
            · intro aa ww hA K hK
              refine free rfl ?_
              have e31 : aa.tmps.getD 31 undef = .pointer (some ⟨bl, ol + i, none⟩) := hA.got 8 31 (by kernel_rfl)
              have d1 := (hA.bel.cell (p := ⟨bl, ol + i, none⟩) HZx.out.1).trans HZx.out.2
              exact gives hK (v := .int .i64 x) (by simp [execOp, Act.eval, e31, d1, go_sem]) rfl
            · intro aa ww hA K hK
              refine free rfl ?_
              have e27 : aa.tmps.getD 27 undef = .int .i64 (z.key) := hA.got 4 27 (by kernel_rfl)
              have e32 : aa.tmps.getD 32 undef = .int .i64 (x) := hA.got 9 32 (by kernel_rfl)
              exact gives hK (v := .bool ((z.key : Int) == (x : Int))) (by simp [execOp, Act.eval, e27, e32, binOp, eqGuard, go_sem]) rfl
            · intro aa ww hA K hK
              refine free rfl ?_
              have e33 : aa.tmps.getD 33 undef = .bool ((z.key : Int) == (x : Int)) := hA.got 10 33 (by kernel_rfl)
              exact gives hK rfl (show aa.tmps.getD 33 undef = .bool z11 from by rw [e33, Hz11.out])
            · intro aa ww hA K hK
              refine guarded (s := sv (.slice (some ⟨b2, o2, none⟩) n2 c2)) rfl rfl (hA.got 11 34 (by kernel_rfl)) hK fun hB hK => ?_
              exact gives hK rfl (hA.old 2 (by kernel_rfl))
            · intro aa ww hA K hK
              refine guarded (s := sv (.int .i64 ((j : Int)))) rfl rfl (hA.got 11 34 (by kernel_rfl)) hK fun hB hK => ?_
              exact gives hK rfl (hA.old 9 (by kernel_rfl))
            · intro aa ww hA K hK
              refine guarded (s := sv (.pointer (some ⟨b2, o2 + j * 2, none⟩))) rfl rfl (hA.got 11 34 (by kernel_rfl)) hK fun hB hK => ?_
              have e35 : aa.tmps.getD 35 undef = .slice (some ⟨b2, o2, none⟩) n2 c2 := (hA.got 12 35 (by kernel_rfl)).1 hB
              have e36 : aa.tmps.getD 36 undef = .int .i64 ((j : Int)) := (hA.got 13 36 (by kernel_rfl)).1 hB
              exact gives hK (v := .pointer (some ⟨b2, o2 + j * 2, none⟩)) (by simp [execOp, Act.eval, e35, e36, go_sem, hj2]) rfl
            · intro aa ww hA K hK
              refine guarded (s := sv (.agg #[.int .i64 z.key, .int .i64 z.tag])) rfl rfl (hA.got 11 34 (by kernel_rfl)) hK fun hB hK => ?_
              have e37 : aa.tmps.getD 37 undef = .pointer (some ⟨b2, o2 + j * 2, none⟩) := (hA.got 14 37 (by kernel_rfl)).1 hB
              have d2 := (hA.bel.cell (p := ⟨b2, o2 + j * 2, none⟩) HZk.out.1).trans HZk.out.2
              have d3 := (hA.bel.cell (p := ⟨b2, o2 + j * 2 + 1, none⟩) HZt.out.1).trans HZt.out.2
              exact gives hK (v := .agg #[.int .i64 z.key, .int .i64 z.tag]) (by simp [execOp, Act.eval, e37, d2, d3, go_sem]) rfl
            · intro aa ww hA K hK
              refine guarded (s := snums .i64 (m)) rfl rfl (hA.got 11 34 (by kernel_rfl)) hK fun hB hK => ?_
              exact gives hK rfl (old_sy (S := snums .i64 (m)) (hA.old 1 (by kernel_rfl)) HPm.out hA.bel)
            · intro aa ww hA K hK
              refine guarded (s := sv (.bool (isSig z m))) rfl rfl (hA.got 11 34 (by kernel_rfl)) hK fun hB hK => ?_
              have e38 : aa.tmps.getD 38 undef = .agg #[.int .i64 z.key, .int .i64 z.tag] := (hA.got 15 38 (by kernel_rfl)).1 hB
              obtain ⟨A39, c39, e39, hc39, h39⟩ := (hA.got 16 39 (by kernel_rfl)).1 hB
              refine calls hK (by simp [Act.eval, e38, e39, fSig, go_sem]) (sIsSigBy_any z A39 _ c39 m ww h39 HN.out hc39 HQz.out) ?_
              rintro e w1 ⟨rfl, hb⟩
              exact ⟨_, rfl, hb, rfl⟩
            · intro aa ww hA K hK
              refine free rfl ?_
              have e34 : aa.tmps.getD 34 undef = .bool (z11) := hA.got 11 34 (by kernel_rfl)
              rcases hq : (z11) with _ | _
              · rw [hq] at e34
                exact gives hK (v := .bool false) (by simp [execOp, Act.eval, e34, asBool, go_sem]) (show Value.bool _ = .bool _ by rw [hq]; simp)
              · have ex : aa.tmps.getD 40 undef = .bool (isSig z m) := (hA.got 17 40 (by kernel_rfl)).1 (by rw [hq]; rfl)
                rw [hq] at e34
                exact gives hK (v := .bool (isSig z m)) (by simp [execOp, Act.eval, e34, ex, asBool, go_sem]) (show Value.bool _ = .bool _ by rw [hq]; simp)
          · intro a1 w1 hb hd hsz hold hgot
            have g41 : a1.tmps.getD 41 undef = .bool ((z11) && (isSig z m)) := hgot 18 41 (by kernel_rfl)
            have ea := act_put hd hsz hold [23, 24, 25, 26, 27, 28, 29, 30, 31, 32, 33, 34, 35, 36, 37, 38, 39, 40, 41] rfl
            simp only [List.foldl_cons, List.foldl_nil, g41] at ea
            rename_i K9 hK9
            refine hK9 a1 w1 ?_
            generalize a1.tmps.getD 23 undef = v23 at ea
            generalize a1.tmps.getD 24 undef = v24 at ea
            generalize a1.tmps.getD 25 undef = v25 at ea
            generalize a1.tmps.getD 26 undef = v26 at ea
            generalize a1.tmps.getD 27 undef = v27 at ea
            generalize a1.tmps.getD 28 undef = v28 at ea
            generalize a1.tmps.getD 29 undef = v29 at ea
            generalize a1.tmps.getD 30 undef = v30 at ea
            generalize a1.tmps.getD 31 undef = v31 at ea
            generalize a1.tmps.getD 32 undef = v32 at ea
            generalize a1.tmps.getD 33 undef = v33 at ea
            generalize a1.tmps.getD 34 undef = v34 at ea
            generalize a1.tmps.getD 35 undef = v35 at ea
            generalize a1.tmps.getD 36 undef = v36 at ea
            generalize a1.tmps.getD 37 undef = v37 at ea
            generalize a1.tmps.getD 38 undef = v38 at ea
            generalize a1.tmps.getD 39 undef = v39 at ea
            generalize a1.tmps.getD 40 undef = v40 at ea
            clear hgot hold hsz hd g41
            simp only [Act.put, List.setIfInBounds_toArray, List.set_cons_succ, List.set_cons_zero] at ea
            subst ea
            have HW9 := Lib.hid (HQ.out.trans ((R06.below_drew hb).mono HQ.out.size))
            clear hb
            rcases hv : (z.key == x && isSig z m) with _ | _
            · rw [show ((z11) && (isSig z m)) = false from by rw [Hz11.out]; exact hv]
              go_wp2
              go_roundw
              case rel => exact ⟨j + 1, by omega, rfl, by go_num, HW9.out, fun j' hj' => by
                rcases Nat.lt_or_ge j' j with h1 | h1
                · exact HF.out j' h1
                · obtain rfl : j' = j := by omega
                  rw [← HZj.out]
                  exact hv⟩
              case measure => simp [intOf]; omega
            · rw [show ((z11) && (isSig z m)) = true from by rw [Hz11.out]; exact hv]
              have hA : anyS sigs x m = true := anyS_hit (j := j) (by rw [HL2.out]; exact hjn) (by rw [← HZj.out]; exact hv)
              have hcq := HCt.out
              rw [hA, if_pos rfl] at hcq
              have HCQ := Lib.hid hcq
              clear hcq hA
              go_wp2
              go_roundw
              case rel => exact ⟨i + 1, by omega, by rw [HCQ.out]; go_num, by go_num, HR.out.trans (HW9.out.mono HR.out.size)⟩
              case measure => simp [intOf]; omega
        · obtain rfl : j = n2 := by omega
          have hA : anyS sigs x m = false := anyS_miss fun j' hj' => HF.out j' (by rw [← HL2.out]; exact hj')
          have hcq := HCt.out
          rw [hA] at hcq
          simp only [Bool.false_eq_true, if_false, Nat.add_zero] at hcq
          have HCQ := Lib.hid hcq
          clear hcq hA
          go_wp2
          go_roundw
          case rel => exact ⟨i + 1, by omega, by rw [HCQ.out], by go_num, HW.out⟩
          case measure => simp [intOf]; omega
    · obtain rfl : i = nl := by omega
      go_wp2
      go_ret
      exact ⟨by rw [List.take_of_length_le (by rw [HLl.out]; omega)]; rfl, HB.out.trans (HR.out.mono HB.out.size)⟩
theorem sIsSigned_any (cs : List Value) (k : Keys) (A : Option Addr) (n c : Nat) (m : List Int) (A2 : Option Addr) (n2 c2 : Nat) (sigs : List Sig) (w : World) (h : RKeys.rd w (Lt w.heap.size) cs k) (h1 : Rd .i64 w w.heap.size A n m) (hc : n ≤ c) (h2 : FRdSig w w.heap.size A2 n2 sigs) (hc2 : n2 ≤ c2)
    (hk : k.list.length ≤ 1099511627776) (hn : n ≤ 1099511626) (hn2 : n2 ≤ 1099511627776) :
    Calls Tryz.prog 54 #[.agg cs.toArray, .slice A n c, .slice A2 n2 c2] w fun e w' => e = .returned (.bool (isSgn k m sigs)) ∧ Below w.heap.size w w' := by
  obtain ⟨Al, nl, cl, rfl, hlc, hcm, h3, h4⟩ := RKeys_rd.1 h
  have HM := Lib.hid hk
  have HL2 := Lib.hid h2.len
  have HL := Lib.hid h1.len
  have HN := Lib.hid (show m.length ≤ 1099511626 by rw [HL.out]; exact hn)
  have HN2 := Lib.hid (show sigs.length ≤ 1099511627776 by rw [HL2.out]; exact hn2)
  have HX := Lib.hid (Box.new w #[.slice Al nl cl, .int .i64 k.need] 26)
  have HZ0 := Lib.hid (HX.out.cell (j := 0) rfl)
  have HZ1 := Lib.hid (HX.out.cell (j := 1) rfl)
  have HB := Lib.hid ((Below.refl w.heap.size w).alloc (Nat.le_refl _) (.cells #[.slice Al nl cl, .int .i64 k.need] 26))
  have HPm := Lib.hid (sy_drew (S := snums .i64 m) (snums_rd ((h1.below HB.out (Nat.le_refl _)).more HB.out.size) hc))
  have HPs := Lib.hid (sy_drew (S := sflat 2 fSig QSig sigs) (sflat_rd ((h2.below HB.out (Nat.le_refl _)).more HB.out.size) hc2))
  have HPk := Lib.hid (sy_drew (S := srep RKeys k) (srep_rd (RKeys.more (RKeys.keep h fun i hi => HB.out.block i hi) fun i hi => Nat.lt_of_lt_of_le hi HB.out.size)))
  clear h h1 h2 h3 h4 hk
  go_enter Tryz.func54, Tryz.ntmps54
  go_wp2_with fail
  obtain ⟨z2, hz2⟩ : ∃ zz : Bool, zz = (isKeys k) := ⟨_, rfl⟩
  have Hz2 := Lib.hid hz2
  clear hz2
  refine RG.region (tabP [srep RKeys (k), sv (.bool (isKeys k)), sv (.bool (z2)), swhen (z2 == true) (srep RKeys (k)), swhen (z2 == true) (snums .i64 (m)), swhen (z2 == true) (sflat 2 fSig QSig (sigs)), swhen (z2 == true) (sv (.int .i64 ((cntS k.list m sigs : Int)))), swhen (z2 == true) (sv (.pointer (some ⟨w.heap.size, 1, none⟩))), swhen (z2 == true) (sv (.int .i64 (k.need))), swhen (z2 == true) (sv (.bool (decide ((k.need : Int) ≤ ((cntS k.list m sigs : Int) : Int))))), sv (.bool ((z2) && (decide ((k.need : Int) ≤ ((cntS k.list m sigs : Int) : Int))))), sv (.bool ((z2) && (decide ((k.need : Int) ≤ ((cntS k.list m sigs : Int) : Int)))))]) (by kernel_rfl) (by kernel_rfl) (tab_keep _) ?_ ?_
  · refine steps_cons ?_ (steps_cons ?_ (steps_cons ?_ (steps_cons ?_ (steps_cons ?_ (steps_cons ?_ (steps_cons ?_ (steps_cons ?_ (steps_cons ?_ (steps_cons ?_ (steps_cons ?_ (steps_cons ?_ (steps_nil))))))))))))
    · intro aa ww hA K hK
      refine free rfl ?_
      have e3 : aa.tmps.getD 3 undef = .pointer (some ⟨w.heap.size, 0, none⟩) := hA.old 3 (by kernel_rfl)
      have d0 := (hA.bel.cell (p := ⟨w.heap.size, 0, none⟩) HX.out.lt).trans HZ0.out
      have d1 := (hA.bel.cell (p := ⟨w.heap.size, 1, none⟩) HX.out.lt).trans HZ1.out
      exact gives hK (v := .agg #[.slice Al nl cl, .int .i64 k.need]) (by simp [execOp, Act.eval, e3, d0, d1, go_sem]) ((srep RKeys k).keep _ _ _ hA.bel HPk.out)
    · intro aa ww hA K hK
      refine free rfl ?_
      obtain ⟨q7, e7, h7⟩ := hA.got 0 7 (by kernel_rfl)
      refine calls hK (by simp [Act.eval, e7, go_sem]) (sIsKeys_any q7 k ww h7 HM.out) ?_
      rintro e w1 ⟨rfl, hb⟩
      exact ⟨_, rfl, hb, rfl⟩
    · intro aa ww hA K hK
      refine free rfl ?_
      have e8 : aa.tmps.getD 8 undef = .bool (isKeys k) := hA.got 1 8 (by kernel_rfl)
      exact gives hK rfl (show aa.tmps.getD 8 undef = .bool z2 from by rw [e8, Hz2.out])
    · intro aa ww hA K hK
      refine guarded (s := srep RKeys (k)) rfl rfl (hA.got 2 9 (by kernel_rfl)) hK fun hB hK => ?_
      have e3 : aa.tmps.getD 3 undef = .pointer (some ⟨w.heap.size, 0, none⟩) := hA.old 3 (by kernel_rfl)
      have d0 := (hA.bel.cell (p := ⟨w.heap.size, 0, none⟩) HX.out.lt).trans HZ0.out
      have d1 := (hA.bel.cell (p := ⟨w.heap.size, 1, none⟩) HX.out.lt).trans HZ1.out
      exact gives hK (v := .agg #[.slice Al nl cl, .int .i64 k.need]) (by simp [execOp, Act.eval, e3, d0, d1, go_sem]) ((srep RKeys k).keep _ _ _ hA.bel HPk.out)
    · intro aa ww hA K hK
      refine guarded (s := snums .i64 (m)) rfl rfl (hA.got 2 9 (by kernel_rfl)) hK fun hB hK => ?_
      exact gives hK rfl (old_sy (S := snums .i64 (m)) (hA.old 1 (by kernel_rfl)) HPm.out hA.bel)
    · intro aa ww hA K hK
      refine guarded (s := sflat 2 fSig QSig (sigs)) rfl rfl (hA.got 2 9 (by kernel_rfl)) hK fun hB hK => ?_
      exact gives hK rfl (old_sy (S := sflat 2 fSig QSig (sigs)) (hA.old 2 (by kernel_rfl)) HPs.out hA.bel)
    · intro aa ww hA K hK
      refine guarded (s := sv (.int .i64 ((cntS k.list m sigs : Int)))) rfl rfl (hA.got 2 9 (by kernel_rfl)) hK fun hB hK => ?_
      obtain ⟨q10, e10, h10⟩ := (hA.got 3 10 (by kernel_rfl)).1 hB
      obtain ⟨A11, c11, e11, hc11, h11⟩ := (hA.got 4 11 (by kernel_rfl)).1 hB
      obtain ⟨A12, c12, e12, hc12, h12⟩ := (hA.got 5 12 (by kernel_rfl)).1 hB
      refine calls hK (by simp [Act.eval, e10, e11, e12, go_sem]) (sCountSigs_any q10 k A11 _ c11 m A12 _ c12 sigs ww h10 h11 hc11 h12 HM.out HN.out HN2.out) ?_
      rintro e w1 ⟨rfl, hb⟩
      exact ⟨_, rfl, hb, rfl⟩
    · intro aa ww hA K hK
      refine guarded (s := sv (.pointer (some ⟨w.heap.size, 1, none⟩))) rfl rfl (hA.got 2 9 (by kernel_rfl)) hK fun hB hK => ?_
      have e3 : aa.tmps.getD 3 undef = .pointer (some ⟨w.heap.size, 0, none⟩) := hA.old 3 (by kernel_rfl)
      exact gives hK (v := .pointer (some ⟨w.heap.size, 1, none⟩)) (by simp [execOp, Act.eval, e3, go_sem]) rfl
    · intro aa ww hA K hK
      refine guarded (s := sv (.int .i64 (k.need))) rfl rfl (hA.got 2 9 (by kernel_rfl)) hK fun hB hK => ?_
      have e14 : aa.tmps.getD 14 undef = .pointer (some ⟨w.heap.size, 1, none⟩) := (hA.got 7 14 (by kernel_rfl)).1 hB
      have d1 := (hA.bel.cell (p := ⟨w.heap.size, 1, none⟩) HX.out.lt).trans HZ1.out
      exact gives hK (v := .int .i64 k.need) (by simp [execOp, Act.eval, e14, d1, go_sem]) rfl
    · intro aa ww hA K hK
      refine guarded (s := sv (.bool (decide ((k.need : Int) ≤ ((cntS k.list m sigs : Int) : Int))))) rfl rfl (hA.got 2 9 (by kernel_rfl)) hK fun hB hK => ?_
      have e13 : aa.tmps.getD 13 undef = .int .i64 ((cntS k.list m sigs : Int)) := (hA.got 6 13 (by kernel_rfl)).1 hB
      have e15 : aa.tmps.getD 15 undef = .int .i64 (k.need) := (hA.got 8 15 (by kernel_rfl)).1 hB
      exact gives hK (v := .bool (decide ((k.need : Int) ≤ ((cntS k.list m sigs : Int) : Int)))) (by simp [execOp, Act.eval, e13, e15, binOp, eqGuard, go_sem]) rfl
    · intro aa ww hA K hK
      refine free rfl ?_
      have e9 : aa.tmps.getD 9 undef = .bool (z2) := hA.got 2 9 (by kernel_rfl)
      rcases hq : (z2) with _ | _
      · rw [hq] at e9
        exact gives hK (v := .bool false) (by simp [execOp, Act.eval, e9, asBool, go_sem]) (show Value.bool _ = .bool _ by rw [hq]; simp)
      · have ex : aa.tmps.getD 16 undef = .bool (decide ((k.need : Int) ≤ ((cntS k.list m sigs : Int) : Int))) := (hA.got 9 16 (by kernel_rfl)).1 (by rw [hq]; rfl)
        rw [hq] at e9
        exact gives hK (v := .bool (decide ((k.need : Int) ≤ ((cntS k.list m sigs : Int) : Int)))) (by simp [execOp, Act.eval, e9, ex, asBool, go_sem]) (show Value.bool _ = .bool _ by rw [hq]; simp)
    · intro aa ww hA K hK
      refine free rfl ?_
      exact gives hK rfl (hA.got 10 17 (by kernel_rfl))
  · intro a1 w1 hb hd hsz hold hgot
    have e6 : a1.tmps.getD 6 undef = .bool ((z2) && (decide ((k.need : Int) ≤ ((cntS k.list m sigs : Int) : Int)))) := hgot 11 6 (by kernel_rfl)
    rename_i K9 hK9
    refine hK9 a1 w1 (wp_ret ?_)
    exact bodyPost_ret (v := .bool ((z2) && (decide ((k.need : Int) ≤ ((cntS k.list m sigs : Int) : Int))))) (by simp [results, Tryz.results54, go_sem]; rw [← Array.getD_eq_getD_getElem?]; exact e6) (hd.trans rfl) ⟨by unfold isSgn; rw [← Hz2.out], HB.out.trans ((R06.below_drew hb).mono HB.out.size)⟩
set_option maxHeartbeats 8000000 in
theorem sSignBy_any (Ah : Option Addr) (nh ch : Nat) (held : List Int) (cs : List Value) (k : Keys) (A : Option Addr) (n c : Nat) (m : List Int) (w : World) (hh : Rd .i64 w w.heap.size Ah nh held) (h : RKeys.rd w (Lt w.heap.size) cs k) (h1 : Rd .i64 w w.heap.size A n m)
    (hk : k.list.length ≤ 68719476735) (hn : n ≤ 1099511626) (hnh : nh ≤ 1099511627776) :
    Calls Tryz.prog 133 #[.slice Ah nh ch, .agg cs.toArray, .slice A n c] w fun e w' => ∃ A' c', e = .returned (.slice A' (signBy held k.list m).length c') ∧ Owns RSig w' w.heap.size w'.heap.size A' (signBy held k.list m).length c' (signBy held k.list m) ∧ Below w.heap.size w w' := by
  obtain ⟨Al, nl, cl, rfl, hlc, hcm, h3, h4⟩ := RKeys_rd.1 h
  obtain ⟨l, need⟩ := k
  simp only at h3 h4 hk ⊢
  have HLl := Lib.hid h3.len
  obtain ⟨V, hV⟩ : ∃ V, V = (w.alloc (.cells #[.slice Al nl cl, .int .i64 need] 26)).alloc (.cells #[] 107) := ⟨_, rfl⟩
  have HX := Lib.hid (show Box V w.heap.size [.slice Al nl cl, .int .i64 need] by rw [hV]; exact (Box.new w #[.slice Al nl cl, .int .i64 need] 26).alloc _)
  have HB := Lib.hid (show Below w.heap.size w V by rw [hV]; exact ((Below.refl w.heap.size w).alloc (Nat.le_refl _) _).alloc (by simp) _)
  have HO := Lib.hid (show Owns RSig V (w.heap.size + 1) V.heap.size (some ⟨w.heap.size + 1, 0, none⟩) 0 0 [] by
    have h := Owns.lit0 (lo := w.heap.size + 1) RSig (w.alloc (.cells #[.slice Al nl cl, .int .i64 need] 26)) (by simp)
    rw [hV]
    rw [show RSig.ty = 107 from rfl] at h
    simpa using h)
  have H3 := Lib.hid (h3.below HB.out (Nat.le_refl _))
  have H1 := Lib.hid (h1.below HB.out (Nat.le_refl _))
  have HH := Lib.hid (hh.below HB.out (Nat.le_refl _))
  have HWF := Lib.hid h3.wf
  have HSZ := Lib.hid (show w.heap.size + 1 < V.heap.size by rw [hV]; simp)
  have HV := Lib.hid hV
  have HST := Lib.hid (fun i (hi : i < nl) => signBy_step (held := held) (m := m) (l := l) (i := i) (by rw [HLl.out]; exact hi))
  have HLE := Lib.hid (fun i => signBy_le held (l.take i) m)
  have hnl : nl ≤ 68719476735 := by rw [← HLl.out]; exact hk
  clear h h1 h3 h4 hV hk hh
  go_enter Tryz.func133, Tryz.ntmps133
  go_wp2
  rw [← HV.out]
  have x0 := HX.out.cell (j := 0) rfl
  go_loopw [7, 8] (fun ov iv wr => ∃ (i : Nat) (A1 : Option Addr) (c1 : Nat), i ≤ nl ∧ ov = .slice A1 (signBy held (l.take i) m).length c1 ∧ iv = .int .i64 i ∧ Owns RSig wr (w.heap.size + 1) wr.heap.size A1 (signBy held (l.take i) m).length c1 (signBy held (l.take i) m) ∧ Below (w.heap.size + 1) V wr) (fun _ i _ => nl - (intOf i).toNat)
  case atStart => exact ⟨0, _, 0, by omega, rfl, rfl, HO.out, Below.refl _ _⟩
  case round =>
    clear x0
    obtain ⟨i, A1, c1, hi, rfl, rfl, hown, hbel⟩ := hrel
    have HR := Lib.hid hbel
    have HO1 := Lib.hid hown
    have HSR := Lib.hid (Nat.lt_of_lt_of_le HSZ.out hbel.size)
    clear hbel hown
    have x0 := (HR.out.cell (p := ⟨w.heap.size, 0, none⟩) (show w.heap.size < w.heap.size + 1 by omega)).trans (HX.out.cell (j := 0) rfl)
    by_cases hin : i < nl
    · obtain ⟨bl, ol, rfl, hltl, hcl⟩ := (H3.out.below HR.out (by omega)).cells (by omega)
      obtain ⟨x, hx⟩ : ∃ x, x = l.getD i 0 := ⟨_, rfl⟩
      have hci : wr.cell? ⟨bl, ol + i, none⟩ = some (.int .i64 x) := by rw [hx]; exact hcl i hin
      have hxi : In .i64 x := by
        rw [hx]
        simp only [List.getD, List.getElem?_eq_getElem (show i < l.length by rw [HLl.out]; exact hin), Option.getD_some]
        exact HWF.out _ (List.getElem_mem _)
      have hst := HST.out i hin
      have hle := HLE.out i
      rw [List.length_take] at hle
      rw [← hx] at hst
      have hK := sHas_any _ Ah nh ch held x wr (HH.out.below HR.out (by omega)) hnh
      have HLT := Lib.hid hltl
      clear hcl hx hltl
      generalize hsb : signBy held (l.take i) m = sb at HO1 hst hle
      clear hsb
      have hsl : sb.length ≤ 68719476734 := by omega
      clear hle
      rcases hhas : hasK held x with _ | _
      · rw [hhas] at hst hK
        simp only [Bool.false_eq_true, if_false, List.append_nil] at hst
        have HS := Lib.hid hst
        have HK := Lib.hid hK
        clear hst hK hhas
        go_wp2_with fail
        refine HK.out.mono ?_
        rintro e w1 ⟨rfl, rfl⟩
        go_wp2
        go_roundw
        case rel => exact ⟨i + 1, A1, c1, by omega, by rw [HS.out], by go_num, by rw [HS.out]; exact HO1.out, HR.out⟩
        case measure => simp [intOf]; omega
      · rw [hhas] at hst hK
        simp only [if_true] at hst
        have HS := Lib.hid hst
        have HK := Lib.hid hK
        have hq : QSig ⟨x, tagOf x m⟩ := ⟨hxi, by have := kh_range x (223 :: m); show In .i64 (kh x (223 :: m)); exact inI64 (by omega) (by omega)⟩
        have HQ := Lib.hid (show OwnI RSig wr wr.heap.size wr.heap.size (fSig ⟨x, tagOf x m⟩) ⟨x, tagOf x m⟩ from ⟨[], flSig.own.2 ⟨rfl, rfl, hq⟩, .nil, by simp⟩)
        have HT := Lib.hid (sTagOf_any x A n c m wr.drew (Rd.keep ((H1.out.below HR.out (by omega)).more (by have := HSR.out; show w.heap.size ≤ wr.heap.size; omega)) fun i _ => rfl) hn hxi)
        have HOd := Lib.hid (HO1.out.keep (w' := wr.drew) fun i _ _ _ => rfl)
        generalize htg : tagOf x m = tg at HQ HS HT
        clear hst hK hhas hq hxi htg
        go_wp2_with fail
        refine HK.out.mono ?_
        rintro e w1 ⟨rfl, rfl⟩
        have d0 : wr.drew.cell? ⟨w.heap.size, 0, none⟩ = some (.slice (some ⟨bl, ol, none⟩) nl cl) := x0
        have d1 : wr.drew.cell? ⟨bl, ol + i, none⟩ = some (.int .i64 x) := hci
        clear x0 hci
        go_wp2_with fail
        go_region_law ((first
          | (go_simp; go_at_call 158; refine HT.out.mono ?_; rintro e w2 ⟨rfl, hb2⟩; have d2 := (hb2.cell (p := ⟨w.heap.size, 0, none⟩) (by have := HSR.out; show w.heap.size < wr.heap.size; omega)).trans d0; have d3 := (hb2.cell (p := ⟨bl, ol + i, none⟩) (Nat.lt_trans HLT.out (by have := HSR.out; show w.heap.size < wr.heap.size; omega))).trans d1; have HO2 := Lib.hid (HOd.out.below hb2 (Nat.le_refl _)); have HQ2 := Lib.hid ((HQ.out.keep (w' := wr.drew) fun i _ _ _ => rfl).below hb2 (Nat.le_refl _)); have HB2 := Lib.hid hb2; clear hb2)
          | (refine step_pushR (st := 34) (mid := wr.heap.size) (hi := wr.heap.size) (lo := w.heap.size + 1) (cs := fSig ⟨x, tg⟩) (z := ⟨x, tg⟩) RSig tiSig rfl _ _ rfl rfl HO2.out rfl HQ2.out (by omega) (by have := HSR.out; omega) (by have := HSR.out; have := HB2.out.size; exact Nat.le_trans (by show w.heap.size + 1 ≤ wr.heap.size; omega) this) ?_; intro A4 c4 w4 hown4 hgr4)))
        all_goals
          have HB4 := Lib.hid ((HR.out.trans ((R06.below_drew HB2.out).mono (by have := HSR.out; omega))).trans (hgr4.below (B := w.heap.size + 1) (by have := HSR.out; have := HB2.out.size; exact Nat.le_trans (by show w.heap.size + 1 ≤ wr.heap.size; omega) this) HO2.out.ge))
          have HO4 := Lib.hid hown4
          clear hown4 hgr4 d0 d1 d2 d3
          go_wp2
          go_roundw
          case rel => exact ⟨i + 1, A4, c4, by omega, by rw [HS.out, List.length_append]; rfl, by go_num, by rw [HS.out, List.length_append]; exact HO4.out, HB4.out⟩
          case measure => simp [intOf]; omega
    · obtain rfl : i = nl := by omega
      rw [List.take_of_length_le (by rw [HLl.out]; omega)] at HO1
      go_wp2
      go_ret
      refine ⟨A1, c1, ?_, HO1.out.base (by omega), HB.out.trans (HR.out.mono ?_)⟩
      · rw [List.take_of_length_le (by rw [HLl.out]; omega)]; rfl
      · omega
end Go.Proofs.YthhmhcmlbpdlbaaGreat.C07S
