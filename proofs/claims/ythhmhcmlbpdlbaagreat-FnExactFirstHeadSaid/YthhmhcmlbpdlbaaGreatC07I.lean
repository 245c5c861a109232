/- Chapter 7: signatures, what the program's functions return. -/
import Derived.Test.YthhmhcmlbpdlbaaGreatC06S
import Derived.Test.YthhmhcmlbpdlbaaGreatC06I
import Derived.Test.YthhmhcmlbpdlbaaGreatM07
import Derived.Test.YthhmhcmlbpdlbaaGreatM07S
import Derived.Deep.RegionLaw
import Derived.Laws.StructEq
namespace Go.Proofs.YthhmhcmlbpdlbaaGreat.C07I
open Go.RowKit Mem MemS M02 M03 M06 M07 C01 C02 C03S C03H C06S C06A C06I Rep RepA R06 R07 Flat RG RGS RGF
open M07S SO
set_option linter.unusedVariables false
set_option maxRecDepth 100000
theorem iTagOf_any (key : Int) (A : Option Addr) (n c : Nat) (m : List Int) (w : World) (h : Rd .i64 w w.heap.size A n m) (hn : n ≤ 1099511626) (hk : In .i64 key) :
    Calls Tryz.prog 126 #[.int .i64 key, .slice A n c] w fun e w' => e = .returned (.int .i64 (tagOf key m)) ∧ Below w.heap.size w w' := by
  have H0 := Lib.hid (own_lit .i64 w (b := w.heap.size) (cs := #[.int .i64 223]) (ty := 3) (zs := [223]) (n := 1) (lo := w.heap.size) rfl rfl rfl rfl (by intro z hz; rw [List.mem_singleton.1 hz]; exact inI64 (by omega) (by omega)) (Nat.le_refl _) (by simp [maxLen]))
  have HB := Lib.hid ((Below.refl w.heap.size w).alloc (Nat.le_refl _) (.cells #[.int .i64 223] 3))
  have HM := Lib.hid (h.alloc (Nat.le_refl _) (.cells #[.int .i64 223] 3))
  have HK := Lib.hid hk
  clear h hk
  go_enter Tryz.func126, Tryz.ntmps126
  go_wp2_with (at_builtin; refine wp_app (k := .i64) (by unfold BI; decide) rfl _ _ rfl rfl H0.out rfl HM.out (by omega) HB.out.size ?_; intro A3 c3 w3 hown3 hgr3)
  have HO3 := Lib.hid hown3
  have HB3 := Lib.hid (HB.out.trans (hgr3.below HB.out.size H0.out.ge))
  clear hown3 hgr3
  go_wp2_with fail
  refine (iKeyedHash_any A3 key _ c3 _ _ HO3.out.rd (by omega) HK.out.1 HK.out.2).mono ?_
  rintro e w4 ⟨rfl, hb4⟩
  have HB4 := Lib.hid (HB3.out.trans (hb4.mono HB3.out.size))
  clear hb4
  go_wp2
  go_ret
  exact ⟨rfl, HB4.out⟩
theorem sigWith_any (key : Int) (A : Option Addr) (n c : Nat) (m : List Int) (w : World) (h : Rd .i64 w w.heap.size A n m) (hn : n ≤ 1099511626) (hk : In .i64 key) :
    Calls Tryz.prog 90 #[.int .i64 key, .slice A n c] w fun e w' => e = .returned (.agg (fSig ⟨key, tagOf key m⟩).toArray) ∧ Below w.heap.size w w' := by
  have HB := Lib.hid ((Below.refl w.heap.size w).alloc (Nat.le_refl _) (.cells #[.int .i64 0, .int .i64 0] 107))
  have HM := Lib.hid ((h.alloc (Nat.le_refl _) (.cells #[.int .i64 0, .int .i64 0] 107)).more HB.out.size)
  have HX := Lib.hid (Box.new w #[.int .i64 0, .int .i64 0] 107)
  have hK := iTagOf_any key A n c m _ HM.out hn hk
  generalize tagOf key m = tg at hK ⊢
  have HK := Lib.hid hK
  clear h hk hK
  unfold fSig
  go_enter Tryz.func90, Tryz.ntmps90
  go_wp2_with fail
  refine HK.out.mono ?_
  rintro e w4 ⟨rfl, hb4⟩
  have HB4 := Lib.hid (HB.out.trans (hb4.mono HB.out.size))
  have HX4 := HX.out.below hb4 HX.out.lt
  have x0 := HX4.cell (j := 0) rfl
  have x1 := HX4.cell (j := 1) rfl
  have y0 := HX4.warm (j := 0) rfl
  have y1 := HX4.warm (j := 1) rfl
  have HX5 := Lib.hid (bx_set (bx_set HX4 (j := 0) (by simp) (.int .i64 key)) (j := 1) (by simp) (.int .i64 tg))
  clear hb4 HX4
  go_wp2
  have c0 := HX5.out.cell (j := 0) rfl
  have c1 := HX5.out.cell (j := 1) rfl
  refine bodyPost_ret (v := .agg #[.int .i64 key, .int .i64 tg]) (by simp [results, Tryz.results90, go_sem, c0, c1]) rfl ⟨rfl, ?_⟩
  exact bl_store (bl_store HB4.out (by simp) _) (by simp) _
theorem iIsSigBy_any (s : Sig) (A : Option Addr) (n c : Nat) (m : List Int) (w : World) (h : Rd .i64 w w.heap.size A n m) (hn : n ≤ 1099511626) (hc : n ≤ c) (hq : QSig s) :
    Calls Tryz.prog 129 #[.agg (fSig s).toArray, .slice A n c] w fun e w' => e = .returned (.bool (isSig s m)) ∧ Below w.heap.size w w' := by
  have HQ := Lib.hid hq
  have HL := Lib.hid h.len
  have HN := Lib.hid (show m.length ≤ 1099511626 by rw [HL.out]; exact hn)
  have HX := Lib.hid (Box.new w #[.int .i64 s.key, .int .i64 s.tag] 107)
  have HZ0 := Lib.hid (HX.out.cell (j := 0) rfl)
  have HZ1 := Lib.hid (HX.out.cell (j := 1) rfl)
  have HB := Lib.hid ((Below.refl w.heap.size w).alloc (Nat.le_refl _) (.cells #[.int .i64 s.key, .int .i64 s.tag] 107))
  have HPm := Lib.hid (sy_drew (S := snums .i64 m) (snums_rd ((h.alloc (Nat.le_refl _) (.cells #[.int .i64 s.key, .int .i64 s.tag] 107)).more (by simp)) hc))
  clear h hq
  unfold fSig
  go_enter Tryz.func129, Tryz.ntmps129
  go_wp2_with fail
  obtain ⟨z3, hz3⟩ : ∃ zz : Bool, zz = (inR (s.key) 1 99) := ⟨_, rfl⟩
  have Hz3 := Lib.hid hz3
  clear hz3
  refine RG.region (tabP [sv (.pointer (some ⟨w.heap.size, 0, none⟩)), sv (.int .i64 (s.key)), sv (.bool (inR (s.key) 1 99)), sv (.bool (z3)), swhen (z3 == true) (sv (.agg #[.int .i64 s.key, .int .i64 s.tag])), swhen (z3 == true) (sv (.pointer (some ⟨w.heap.size, 0, none⟩))), swhen (z3 == true) (sv (.int .i64 (s.key))), swhen (z3 == true) (snums .i64 (m)), swhen (z3 == true) (sv (.agg #[.int .i64 (s.key), .int .i64 (tagOf (s.key) m)])), swhen (z3 == true) (sv (.bool (((s.tag : Int) == (tagOf (s.key) m : Int))))), sv (.bool ((z3) && (((s.tag : Int) == (tagOf (s.key) m : Int))))), sv (.bool ((z3) && (((s.tag : Int) == (tagOf (s.key) m : Int)))))]) (by kernel_rfl) (by kernel_rfl) (tab_keep _) ?_ ?_
  · refine steps_cons ?_ (steps_cons ?_ (steps_cons ?_ (steps_cons ?_ (steps_cons ?_ (steps_cons ?_ (steps_cons ?_ (steps_cons ?_ (steps_cons ?_ (steps_cons ?_ (steps_cons ?_ (steps_cons ?_ (steps_nil))))))))))))
    · intro aa ww hA K hK
      refine free rfl ?_
      have e2 : aa.tmps.getD 2 undef = .pointer (some ⟨w.heap.size, 0, none⟩) := hA.old 2 (by kernel_rfl)
      exact gives hK (v := .pointer (some ⟨w.heap.size, 0, none⟩)) (by simp [execOp, Act.eval, e2, go_sem]) rfl
    · intro aa ww hA K hK
      refine free rfl ?_
      have e5 : aa.tmps.getD 5 undef = .pointer (some ⟨w.heap.size, 0, none⟩) := hA.got 0 5 (by kernel_rfl)
      have c0 := (hA.bel.cell (p := ⟨w.heap.size, 0, none⟩) HX.out.lt).trans HZ0.out
      exact gives hK (v := .int .i64 s.key) (by simp [execOp, Act.eval, e5, c0, go_sem]) rfl
    · intro aa ww hA K hK
      refine free rfl ?_
      have e6 : aa.tmps.getD 6 undef = .int .i64 (s.key) := hA.got 1 6 (by kernel_rfl)
      refine calls hK (by simp [Act.eval, e6, go_sem]) (inRange_any (s.key) 1 99 ww) ?_
      rintro e w1 ⟨rfl, rfl⟩
      exact ⟨_, rfl, (Below.refl _ _), rfl⟩
    · intro aa ww hA K hK
      refine free rfl ?_
      have e7 : aa.tmps.getD 7 undef = .bool (inR (s.key) 1 99) := hA.got 2 7 (by kernel_rfl)
      exact gives hK rfl (show aa.tmps.getD 7 undef = .bool z3 from by rw [e7, Hz3.out])
    · intro aa ww hA K hK
      refine guarded (s := sv (.agg #[.int .i64 s.key, .int .i64 s.tag])) rfl rfl (hA.got 3 8 (by kernel_rfl)) hK fun hB hK => ?_
      have e2 : aa.tmps.getD 2 undef = .pointer (some ⟨w.heap.size, 0, none⟩) := hA.old 2 (by kernel_rfl)
      have c0 := (hA.bel.cell (p := ⟨w.heap.size, 0, none⟩) HX.out.lt).trans HZ0.out
      have c1 := (hA.bel.cell (p := ⟨w.heap.size, 1, none⟩) HX.out.lt).trans HZ1.out
      exact gives hK (v := .agg #[.int .i64 s.key, .int .i64 s.tag]) (by simp [execOp, Act.eval, e2, c0, c1, go_sem]) rfl
    · intro aa ww hA K hK
      refine guarded (s := sv (.pointer (some ⟨w.heap.size, 0, none⟩))) rfl rfl (hA.got 3 8 (by kernel_rfl)) hK fun hB hK => ?_
      have e2 : aa.tmps.getD 2 undef = .pointer (some ⟨w.heap.size, 0, none⟩) := hA.old 2 (by kernel_rfl)
      exact gives hK (v := .pointer (some ⟨w.heap.size, 0, none⟩)) (by simp [execOp, Act.eval, e2, go_sem]) rfl
    · intro aa ww hA K hK
      refine guarded (s := sv (.int .i64 (s.key))) rfl rfl (hA.got 3 8 (by kernel_rfl)) hK fun hB hK => ?_
      have e10 : aa.tmps.getD 10 undef = .pointer (some ⟨w.heap.size, 0, none⟩) := (hA.got 5 10 (by kernel_rfl)).1 hB
      have c0 := (hA.bel.cell (p := ⟨w.heap.size, 0, none⟩) HX.out.lt).trans HZ0.out
      exact gives hK (v := .int .i64 s.key) (by simp [execOp, Act.eval, e10, c0, go_sem]) rfl
    · intro aa ww hA K hK
      refine guarded (s := snums .i64 (m)) rfl rfl (hA.got 3 8 (by kernel_rfl)) hK fun hB hK => ?_
      exact gives hK rfl (old_sy (S := snums .i64 (m)) (hA.old 1 (by kernel_rfl)) HPm.out hA.bel)
    · intro aa ww hA K hK
      refine guarded (s := sv (.agg #[.int .i64 (s.key), .int .i64 (tagOf (s.key) m)])) rfl rfl (hA.got 3 8 (by kernel_rfl)) hK fun hB hK => ?_
      have e11 : aa.tmps.getD 11 undef = .int .i64 (s.key) := (hA.got 6 11 (by kernel_rfl)).1 hB
      obtain ⟨A12, c12, e12, hc12, h12⟩ := (hA.got 7 12 (by kernel_rfl)).1 hB
      refine calls hK (by simp [Act.eval, e11, e12, go_sem]) (sigWith_any _ A12 _ c12 m ww h12 HN.out HQ.out.1) ?_
      rintro e w1 ⟨rfl, hb⟩
      exact ⟨_, rfl, hb, rfl⟩
    · intro aa ww hA K hK
      refine guarded (s := sv (.bool (((s.tag : Int) == (tagOf (s.key) m : Int))))) rfl rfl (hA.got 3 8 (by kernel_rfl)) hK fun hB hK => ?_
      have e9 : aa.tmps.getD 9 undef = .agg #[.int .i64 s.key, .int .i64 s.tag] := (hA.got 4 9 (by kernel_rfl)).1 hB
      have e13 : aa.tmps.getD 13 undef = .agg #[.int .i64 (s.key), .int .i64 (tagOf (s.key) m)] := (hA.got 8 13 (by kernel_rfl)).1 hB
      cases h9 : (((s.tag : Int) == (tagOf (s.key) m : Int)))
      · exact gives hK (v := .bool false) (by simp [execOp, Act.eval, e9, e13, go_sem]; exact ne_of_beq_false h9) (show Value.bool _ = .bool _ by rw [h9])
      · exact gives hK (v := .bool true) (by simp [execOp, Act.eval, e9, e13, go_sem]; exact eq_of_beq h9) (show Value.bool _ = .bool _ by rw [h9])
    · intro aa ww hA K hK
      refine free rfl ?_
      have e8 : aa.tmps.getD 8 undef = .bool (z3) := hA.got 3 8 (by kernel_rfl)
      rcases hq : (z3) with _ | _
      · rw [hq] at e8
        exact gives hK (v := .bool false) (by simp [execOp, Act.eval, e8, asBool, go_sem]) (show Value.bool _ = .bool _ by rw [hq]; simp)
      · have ex : aa.tmps.getD 14 undef = .bool (((s.tag : Int) == (tagOf (s.key) m : Int))) := (hA.got 9 14 (by kernel_rfl)).1 (by rw [hq]; rfl)
        rw [hq] at e8
        exact gives hK (v := .bool (((s.tag : Int) == (tagOf (s.key) m : Int)))) (by simp [execOp, Act.eval, e8, ex, asBool, go_sem]) (show Value.bool _ = .bool _ by rw [hq]; simp)
    · intro aa ww hA K hK
      refine free rfl ?_
      exact gives hK rfl (hA.got 10 15 (by kernel_rfl))
  · intro a1 w1 hb hd hsz hold hgot
    have e4 : a1.tmps.getD 4 undef = .bool ((z3) && (((s.tag : Int) == (tagOf (s.key) m : Int)))) := hgot 11 4 (by kernel_rfl)
    rename_i K9 hK9
    refine hK9 a1 w1 (wp_ret ?_)
    exact bodyPost_ret (v := .bool ((z3) && (((s.tag : Int) == (tagOf (s.key) m : Int))))) (by simp [results, Tryz.results129, go_sem]; rw [← Array.getD_eq_getD_getElem?]; exact e4) (hd.trans rfl) ⟨by unfold isSig; rw [← Hz3.out], HB.out.trans ((R06.below_drew hb).mono HB.out.size)⟩
set_option maxHeartbeats 8000000 in
theorem iSignersOf_any (A : Option Addr) (n c : Nat) (m : List Int) (A2 : Option Addr) (n2 c2 : Nat) (sigs : List Sig) (w : World) (h1 : Rd .i64 w w.heap.size A n m) (hc : n ≤ c) (h2 : FRdSig w w.heap.size A2 n2 sigs)
    (hn : n ≤ 1099511626) (hn2 : n2 ≤ 1099511627776) :
    Calls Tryz.prog 94 #[.slice A n c, .slice A2 n2 c2] w fun e w' => ∃ A' c', e = .returned (.slice A' (sgnOf m sigs).length c') ∧ Own .i64 w' w.heap.size w'.heap.size A' (sgnOf m sigs).length c' (sgnOf m sigs) ∧ Below w.heap.size w w' := by
  have HL2 := Lib.hid h2.len
  have HO := Lib.hid (Own.lit0 .i64 (lo := w.heap.size) w (Nat.le_refl _))
  have HB := Lib.hid ((Below.refl w.heap.size w).alloc (Nat.le_refl _) (.cells #[] 3))
  have H1 := Lib.hid h1
  have H2 := Lib.hid h2
  have HST := Lib.hid (fun i (hi : i < n2) => gat_step (m := m) (sigs := sigs) (i := i) (by rw [HL2.out]; exact hi))
  have HLE := Lib.hid (fun i => gat_le m (sigs.take i))
  have HALL := Lib.hid (gat_all m sigs)
  clear h1 h2
  go_enter Tryz.func94, Tryz.ntmps94
  go_wp2
  go_loopw [5, 11] (fun ov iv wr => ∃ (i g c1 : Nat), i ≤ n2 ∧ ov = .slice (some ⟨g, 0, none⟩) (gat m (sigs.take i)).length c1 ∧ iv = .int .i64 (i : Int) ∧ Own .i64 wr w.heap.size wr.heap.size (some ⟨g, 0, none⟩) (gat m (sigs.take i)).length c1 (gat m (sigs.take i)) ∧ Below w.heap.size w wr) (fun _ iv _ => n2 - (intOf iv).toNat)
  case atStart => exact ⟨0, _, 0, by omega, rfl, rfl, HO.out.top, HB.out⟩
  case round =>
    obtain ⟨i, g, c1, hi, rfl, rfl, hown, hbel⟩ := hrel
    have HR := Lib.hid hbel
    have HO1 := Lib.hid hown
    clear hbel hown
    by_cases hin : i < n2
    · have hst := HST.out i hin
      have hle := HLE.out i
      rw [List.length_take] at hle
      obtain ⟨b2, o2, rfl, hlt2, hc2⟩ := (H2.out.below HR.out (Nat.le_refl _)).cell_at hin
      have hqz := (H2.out.below HR.out (Nat.le_refl _)).getQ hin
      obtain ⟨z, hz⟩ : ∃ z, z = sigs.getD i default := ⟨_, rfl⟩
      rw [← hz] at hc2 hqz hst
      generalize hsb : gat m (sigs.take i) = sb at HO1 hst hle
      clear hsb
      have hsl : sb.length ≤ 1099511627776 := by omega
      have HS := Lib.hid hst
      clear hle hst hz
      have d0 : wr.cell? ⟨b2, o2 + i * 2, none⟩ = some (.int .i64 z.key) := hc2 0 (by decide)
      have d1 : wr.cell? ⟨b2, o2 + i * 2 + 1, none⟩ = some (.int .i64 z.tag) := hc2 1 (by decide)
      have HBX := Lib.hid (HR.out.alloc HR.out.size (.cells #[.int .i64 z.key, .int .i64 z.tag] 107))
      have HX := Lib.hid (Box.new wr #[.int .i64 z.key, .int .i64 z.tag] 107)
      have HO2 := Lib.hid (HO1.out.alloc (.cells #[.int .i64 z.key, .int .i64 z.tag] 107))
      have hK := iIsSigBy_any z A n c m (wr.alloc (.cells #[.int .i64 z.key, .int .i64 z.tag] 107)) ((H1.out.below HBX.out (Nat.le_refl _)).more HBX.out.size) hn hc hqz
      have hkz : In .i64 z.key := hqz.1
      clear hc2 hqz hlt2
      simp only [fSig] at hK
      rcases his : isSig z m with _ | _
      · rw [his] at hK HS
        have HK := Lib.hid hK
        clear hK his hkz
        have hst := HS.out
        simp only [Bool.false_eq_true, if_false, List.append_nil] at hst
        have HS2 := Lib.hid hst
        clear hst
        go_wp2_with fail
        refine HK.out.mono ?_
        rintro e w2 ⟨rfl, hb2⟩
        have HB2 := Lib.hid (HBX.out.trans (hb2.mono HBX.out.size))
        have HO3 := Lib.hid (HO2.out.below hb2 (by simp))
        have HSZ := Lib.hid hb2.size
        clear hb2 d0 d1
        go_wp2
        go_roundw
        case rel => exact ⟨i + 1, g, c1, by omega, by rw [HS2.out], by go_num, by rw [HS2.out]; exact HO3.out.top, HB2.out⟩
        case measure => simp [intOf]; omega
      · rw [his] at hK HS
        have HK := Lib.hid hK
        clear hK his
        have hst := HS.out
        rw [if_pos rfl] at hst
        have HS2 := Lib.hid hst
        clear hst
        go_wp2_with fail
        refine HK.out.mono ?_
        rintro e w2 ⟨rfl, hb2⟩
        have HB2 := Lib.hid (HBX.out.trans (hb2.mono HBX.out.size))
        have HO3 := Lib.hid (HO2.out.below hb2 (by simp)).top
        have x0 := (HX.out.below hb2 HX.out.lt).cell (j := 0) rfl
        clear hb2 d0 d1
        go_wp2_with (at_builtin; refine wp_push (k := .i64) (z := z.key) (by unfold BI; decide) rfl _ _ rfl rfl HO3.out rfl hkz (by omega) HB2.out.size ?_; intro A4 c4 w4 hown4 hgr4)
        have HB4 := Lib.hid (HB2.out.trans (hgr4.below HB2.out.size HO3.out.ge))
        have HO4 := Lib.hid hown4
        clear hown4 hgr4
        obtain ⟨g4, rfl⟩ : ∃ g4, A4 = some ⟨g4, 0, none⟩ := by
          rcases HO4.out.row.2 with ⟨_, h2⟩ | ⟨g4, cap, cur, e, _⟩
          · omega
          · injection e with e
            exact ⟨g4, e⟩
        go_wp2
        go_roundw
        case rel => exact ⟨i + 1, g4, c4, by omega, by rw [HS2.out, List.length_append]; rfl, by go_num, by rw [HS2.out, List.length_append]; exact HO4.out, HB4.out⟩
        case measure => simp [intOf]; omega
    · obtain rfl : i = n2 := by omega
      have hle := HLE.out i
      rw [List.take_of_length_le (by rw [HL2.out]; omega)] at HO1 hle
      have hsl : (gat m sigs).length ≤ 1099511627776 := by have := HL2.out; omega
      have HK1 := Lib.hid (sort_any HO1.out HR.out.size (by omega))
      rw [List.take_of_length_le (by rw [HL2.out]; omega)]
      clear hle
      go_wp2_with fail
      refine HK1.out.mono ?_
      rintro e w2 ⟨rfl, ho2, hb2⟩
      have HO2 := Lib.hid ho2
      have HB2 := Lib.hid (HR.out.trans hb2)
      have HK2 := compact_any ho2 HB2.out.size (by omega)
      rw [HALL.out] at HK2
      have HK3 := Lib.hid HK2
      clear HK2 ho2 hb2
      go_wp2_with fail
      refine HK3.out.mono ?_
      rintro e w3 ⟨rfl, ho3, hb3⟩
      have HO4 := Lib.hid ho3
      have HB4 := Lib.hid (HB2.out.trans hb3)
      clear ho3 hb3
      go_wp2
      go_ret
      exact ⟨_, _, rfl, HO4.out, HB4.out⟩
set_option maxHeartbeats 8000000 in
theorem iCountSigs_any (cs : List Value) (k : Keys) (A : Option Addr) (n c : Nat) (m : List Int) (A2 : Option Addr) (n2 c2 : Nat) (sigs : List Sig) (w : World) (h : RKeys.rd w (Lt w.heap.size) cs k) (h1 : Rd .i64 w w.heap.size A n m) (hc : n ≤ c) (h2 : FRdSig w w.heap.size A2 n2 sigs)
    (hk : k.list.length ≤ 1099511627776) (hn : n ≤ 1099511626) (hn2 : n2 ≤ 1099511627776) :
    Calls Tryz.prog 51 #[.agg cs.toArray, .slice A n c, .slice A2 n2 c2] w fun e w' => e = .returned (.int .i64 (cntS k.list m sigs : Int)) ∧ Below w.heap.size w w' := by
  obtain ⟨Al, nl, cl, rfl, hlc, hcm, h3, h4⟩ := RKeys_rd.1 h
  obtain ⟨l, need⟩ := k
  simp only at h3 h4 hk ⊢
  have HLl := Lib.hid h3.len
  obtain ⟨V, hV⟩ : ∃ V, V = w.alloc (.cells #[.slice Al nl cl, .int .i64 need] 26) := ⟨_, rfl⟩
  have HX := Lib.hid (show Box V w.heap.size [.slice Al nl cl, .int .i64 need] by rw [hV]; exact Box.new w #[.slice Al nl cl, .int .i64 need] 26)
  have HB := Lib.hid (show Below w.heap.size w V by rw [hV]; exact (Below.refl w.heap.size w).alloc (Nat.le_refl _) _)
  have H3 := Lib.hid ((h3.below HB.out (Nat.le_refl _)).more HB.out.size)
  have HK := Lib.hid (iSignersOf_any A n c m A2 n2 c2 sigs V ((h1.below HB.out (Nat.le_refl _)).more HB.out.size) hc ((h2.below HB.out (Nat.le_refl _)).more HB.out.size) hn hn2)
  have HCT := Lib.hid (fun i (hi : i < nl) => cntS_step (m := m) (sigs := sigs) (l := l) (i := i) (by rw [HLl.out]; exact hi))
  have HLE := Lib.hid (fun i => cntS_le (l.take i) m sigs)
  have HHAS := Lib.hid (fun x => sgn_has m sigs x)
  have HSL := Lib.hid (sgn_le m sigs)
  have hnl : nl ≤ 1099511627776 := by rw [← HLl.out]; exact hk
  have HV := Lib.hid hV
  clear h h1 h2 h3 h4 hV hk
  go_enter Tryz.func51, Tryz.ntmps51
  go_wp2_with fail
  rw [← HV.out]
  refine HK.out.mono ?_
  rintro e w1 ⟨As, cs9, rfl, hos, hb1⟩
  have HS := Lib.hid hos
  have H3b := Lib.hid (H3.out.below hb1 (Nat.le_refl _))
  have HB1 := Lib.hid (HB.out.trans (hb1.mono HB.out.size))
  have x0 := (HX.out.below hb1 HX.out.lt).cell (j := 0) rfl
  clear hos hb1
  go_wp2
  clear x0
  go_loop [8, 17] (fun nv iv => ∃ i : Nat, i ≤ nl ∧ nv = .int .i64 (cntS (l.take i) m sigs : Int) ∧ iv = .int .i64 i) (fun _ i => nl - (intOf i).toNat)
  case atStart => exact ⟨0, by omega, rfl, rfl⟩
  case round =>
    obtain ⟨i, hi, rfl, rfl⟩ := hrel
    by_cases hin : i < nl
    · obtain ⟨bl, ol, rfl, hltl, hcl⟩ := H3b.out.cells (by omega)
      obtain ⟨x, hx⟩ : ∃ x, x = l.getD i 0 := ⟨_, rfl⟩
      have hci : w1.cell? ⟨bl, ol + i, none⟩ = some (.int .i64 x) := by rw [hx]; exact hcl i hin
      have hct := HCT.out i hin
      have hle := HLE.out i
      rw [List.length_take] at hle
      rw [← hx] at hct
      have hK := contains_any _ As _ cs9 (sgnOf m sigs) x w1 HS.out.rd (by have := HSL.out; omega)
      rw [HHAS.out x] at hK
      generalize hq : cntS (l.take i) m sigs = q at hct hle
      have hq9 : q ≤ 1099511627776 := by omega
      clear hcl hx hltl hq hle
      rcases hA : anyS sigs x m with _ | _
      · rw [hA] at hK hct
        simp only [Bool.false_eq_true, if_false, Nat.add_zero] at hct
        have HK2 := Lib.hid hK
        have HC := Lib.hid hct
        clear hK hct hA
        go_wp2_with fail
        refine HK2.out.mono ?_
        rintro e w2 ⟨rfl, rfl⟩
        go_wp2
        go_round
        case rel => exact ⟨i + 1, by omega, by rw [HC.out], by go_num⟩
        case measure => simp [intOf]; omega
      · rw [hA] at hK hct
        rw [if_pos rfl] at hct
        have HK2 := Lib.hid hK
        have HC := Lib.hid hct
        clear hK hct hA
        go_wp2_with fail
        refine HK2.out.mono ?_
        rintro e w2 ⟨rfl, rfl⟩
        go_wp2
        go_round
        case rel => exact ⟨i + 1, by omega, by rw [HC.out]; go_num, by go_num⟩
        case measure => simp [intOf]; omega
    · obtain rfl : i = nl := by omega
      go_wp2
      go_ret
      exact ⟨by rw [List.take_of_length_le (by rw [HLl.out]; omega)]; rfl, HB1.out⟩
theorem iIsSigned_any (cs : List Value) (k : Keys) (A : Option Addr) (n c : Nat) (m : List Int) (A2 : Option Addr) (n2 c2 : Nat) (sigs : List Sig) (w : World) (h : RKeys.rd w (Lt w.heap.size) cs k) (h1 : Rd .i64 w w.heap.size A n m) (hc : n ≤ c) (h2 : FRdSig w w.heap.size A2 n2 sigs) (hc2 : n2 ≤ c2)
    (hk : k.list.length ≤ 1099511627776) (hn : n ≤ 1099511626) (hn2 : n2 ≤ 1099511627776) :
    Calls Tryz.prog 92 #[.agg cs.toArray, .slice A n c, .slice A2 n2 c2] w fun e w' => e = .returned (.bool (isSgn k m sigs)) ∧ Below w.heap.size w w' := by
  obtain ⟨Al, nl, cl, rfl, hlc, hcm, h3, h4⟩ := RKeys_rd.1 h
  have HM := Lib.hid hk
  have HL2 := Lib.hid h2.len
  have HL := Lib.hid h1.len
  have HN := Lib.hid (show m.length ≤ 1099511626 by rw [HL.out]; exact hn)
  have HN2 := Lib.hid (show sigs.length ≤ 1099511627776 by rw [HL2.out]; exact hn2)
  have HX := Lib.hid (Box.new w #[.slice Al nl cl, .int .i64 k.need] 26)
  have HZ0 := Lib.hid (HX.out.cell (j := 0) rfl)
  have HZ1 := Lib.hid (HX.out.cell (j := 1) rfl)
  have HB := Lib.hid ((Below.refl w.heap.size w).alloc (Nat.le_refl _) (.cells #[.slice Al nl cl, .int .i64 k.need] 26))
  have HPm := Lib.hid (sy_drew (S := snums .i64 m) (snums_rd ((h1.below HB.out (Nat.le_refl _)).more HB.out.size) hc))
  have HPs := Lib.hid (sy_drew (S := sflat 2 fSig QSig sigs) (sflat_rd ((h2.below HB.out (Nat.le_refl _)).more HB.out.size) hc2))
  have HPk := Lib.hid (sy_drew (S := srep RKeys k) (srep_rd (RKeys.more (RKeys.keep h fun i hi => HB.out.block i hi) fun i hi => Nat.lt_of_lt_of_le hi HB.out.size)))
  clear h h1 h2 h3 h4 hk
  go_enter Tryz.func92, Tryz.ntmps92
  go_wp2_with fail
  obtain ⟨z2, hz2⟩ : ∃ zz : Bool, zz = (isKeys k) := ⟨_, rfl⟩
  have Hz2 := Lib.hid hz2
  clear hz2
  refine RG.region (tabP [srep RKeys (k), sv (.bool (isKeys k)), sv (.bool (z2)), swhen (z2 == true) (srep RKeys (k)), swhen (z2 == true) (snums .i64 (m)), swhen (z2 == true) (sflat 2 fSig QSig (sigs)), swhen (z2 == true) (sv (.int .i64 ((cntS k.list m sigs : Int)))), swhen (z2 == true) (sv (.pointer (some ⟨w.heap.size, 1, none⟩))), swhen (z2 == true) (sv (.int .i64 (k.need))), swhen (z2 == true) (sv (.bool (decide ((k.need : Int) ≤ ((cntS k.list m sigs : Int) : Int))))), sv (.bool ((z2) && (decide ((k.need : Int) ≤ ((cntS k.list m sigs : Int) : Int))))), sv (.bool ((z2) && (decide ((k.need : Int) ≤ ((cntS k.list m sigs : Int) : Int)))))]) (by kernel_rfl) (by kernel_rfl) (tab_keep _) ?_ ?_
  · refine steps_cons ?_ (steps_cons ?_ (steps_cons ?_ (steps_cons ?_ (steps_cons ?_ (steps_cons ?_ (steps_cons ?_ (steps_cons ?_ (steps_cons ?_ (steps_cons ?_ (steps_cons ?_ (steps_cons ?_ (steps_nil))))))))))))
    · intro aa ww hA K hK
      refine free rfl ?_
      have e3 : aa.tmps.getD 3 undef = .pointer (some ⟨w.heap.size, 0, none⟩) := hA.old 3 (by kernel_rfl)
      have d0 := (hA.bel.cell (p := ⟨w.heap.size, 0, none⟩) HX.out.lt).trans HZ0.out
      have d1 := (hA.bel.cell (p := ⟨w.heap.size, 1, none⟩) HX.out.lt).trans HZ1.out
      exact gives hK (v := .agg #[.slice Al nl cl, .int .i64 k.need]) (by simp [execOp, Act.eval, e3, d0, d1, go_sem]) ((srep RKeys k).keep _ _ _ hA.bel HPk.out)
    · intro aa ww hA K hK
      refine free rfl ?_
      obtain ⟨q7, e7, h7⟩ := hA.got 0 7 (by kernel_rfl)
      refine calls hK (by simp [Act.eval, e7, go_sem]) (iIsKeys_any q7 k ww h7 HM.out) ?_
      rintro e w1 ⟨rfl, hb⟩
      exact ⟨_, rfl, hb, rfl⟩
    · intro aa ww hA K hK
      refine free rfl ?_
      have e8 : aa.tmps.getD 8 undef = .bool (isKeys k) := hA.got 1 8 (by kernel_rfl)
      exact gives hK rfl (show aa.tmps.getD 8 undef = .bool z2 from by rw [e8, Hz2.out])
    · intro aa ww hA K hK
      refine guarded (s := srep RKeys (k)) rfl rfl (hA.got 2 9 (by kernel_rfl)) hK fun hB hK => ?_
      have e3 : aa.tmps.getD 3 undef = .pointer (some ⟨w.heap.size, 0, none⟩) := hA.old 3 (by kernel_rfl)
      have d0 := (hA.bel.cell (p := ⟨w.heap.size, 0, none⟩) HX.out.lt).trans HZ0.out
      have d1 := (hA.bel.cell (p := ⟨w.heap.size, 1, none⟩) HX.out.lt).trans HZ1.out
      exact gives hK (v := .agg #[.slice Al nl cl, .int .i64 k.need]) (by simp [execOp, Act.eval, e3, d0, d1, go_sem]) ((srep RKeys k).keep _ _ _ hA.bel HPk.out)
    · intro aa ww hA K hK
      refine guarded (s := snums .i64 (m)) rfl rfl (hA.got 2 9 (by kernel_rfl)) hK fun hB hK => ?_
      exact gives hK rfl (old_sy (S := snums .i64 (m)) (hA.old 1 (by kernel_rfl)) HPm.out hA.bel)
    · intro aa ww hA K hK
      refine guarded (s := sflat 2 fSig QSig (sigs)) rfl rfl (hA.got 2 9 (by kernel_rfl)) hK fun hB hK => ?_
      exact gives hK rfl (old_sy (S := sflat 2 fSig QSig (sigs)) (hA.old 2 (by kernel_rfl)) HPs.out hA.bel)
    · intro aa ww hA K hK
      refine guarded (s := sv (.int .i64 ((cntS k.list m sigs : Int)))) rfl rfl (hA.got 2 9 (by kernel_rfl)) hK fun hB hK => ?_
      obtain ⟨q10, e10, h10⟩ := (hA.got 3 10 (by kernel_rfl)).1 hB
      obtain ⟨A11, c11, e11, hc11, h11⟩ := (hA.got 4 11 (by kernel_rfl)).1 hB
      obtain ⟨A12, c12, e12, hc12, h12⟩ := (hA.got 5 12 (by kernel_rfl)).1 hB
      refine calls hK (by simp [Act.eval, e10, e11, e12, go_sem]) (iCountSigs_any q10 k A11 _ c11 m A12 _ c12 sigs ww h10 h11 hc11 h12 HM.out HN.out HN2.out) ?_
      rintro e w1 ⟨rfl, hb⟩
      exact ⟨_, rfl, hb, rfl⟩
    · intro aa ww hA K hK
      refine guarded (s := sv (.pointer (some ⟨w.heap.size, 1, none⟩))) rfl rfl (hA.got 2 9 (by kernel_rfl)) hK fun hB hK => ?_
      have e3 : aa.tmps.getD 3 undef = .pointer (some ⟨w.heap.size, 0, none⟩) := hA.old 3 (by kernel_rfl)
      exact gives hK (v := .pointer (some ⟨w.heap.size, 1, none⟩)) (by simp [execOp, Act.eval, e3, go_sem]) rfl
    · intro aa ww hA K hK
      refine guarded (s := sv (.int .i64 (k.need))) rfl rfl (hA.got 2 9 (by kernel_rfl)) hK fun hB hK => ?_
      have e14 : aa.tmps.getD 14 undef = .pointer (some ⟨w.heap.size, 1, none⟩) := (hA.got 7 14 (by kernel_rfl)).1 hB
      have d1 := (hA.bel.cell (p := ⟨w.heap.size, 1, none⟩) HX.out.lt).trans HZ1.out
      exact gives hK (v := .int .i64 k.need) (by simp [execOp, Act.eval, e14, d1, go_sem]) rfl
    · intro aa ww hA K hK
      refine guarded (s := sv (.bool (decide ((k.need : Int) ≤ ((cntS k.list m sigs : Int) : Int))))) rfl rfl (hA.got 2 9 (by kernel_rfl)) hK fun hB hK => ?_
      have e13 : aa.tmps.getD 13 undef = .int .i64 ((cntS k.list m sigs : Int)) := (hA.got 6 13 (by kernel_rfl)).1 hB
      have e15 : aa.tmps.getD 15 undef = .int .i64 (k.need) := (hA.got 8 15 (by kernel_rfl)).1 hB
      exact gives hK (v := .bool (decide ((k.need : Int) ≤ ((cntS k.list m sigs : Int) : Int)))) (by simp [execOp, Act.eval, e13, e15, binOp, eqGuard, go_sem]) rfl
    · intro aa ww hA K hK
      refine free rfl ?_
      have e9 : aa.tmps.getD 9 undef = .bool (z2) := hA.got 2 9 (by kernel_rfl)
      rcases hq : (z2) with _ | _
      · rw [hq] at e9
        exact gives hK (v := .bool false) (by simp [execOp, Act.eval, e9, asBool, go_sem]) (show Value.bool _ = .bool _ by rw [hq]; simp)
      · have ex : aa.tmps.getD 16 undef = .bool (decide ((k.need : Int) ≤ ((cntS k.list m sigs : Int) : Int))) := (hA.got 9 16 (by kernel_rfl)).1 (by rw [hq]; rfl)
        rw [hq] at e9
        exact gives hK (v := .bool (decide ((k.need : Int) ≤ ((cntS k.list m sigs : Int) : Int)))) (by simp [execOp, Act.eval, e9, ex, asBool, go_sem]) (show Value.bool _ = .bool _ by rw [hq]; simp)
    · intro aa ww hA K hK
      refine free rfl ?_
      exact gives hK rfl (hA.got 10 17 (by kernel_rfl))
  · intro a1 w1 hb hd hsz hold hgot
    have e6 : a1.tmps.getD 6 undef = .bool ((z2) && (decide ((k.need : Int) ≤ ((cntS k.list m sigs : Int) : Int)))) := hgot 11 6 (by kernel_rfl)
    rename_i K9 hK9
    refine hK9 a1 w1 (wp_ret ?_)
    exact bodyPost_ret (v := .bool ((z2) && (decide ((k.need : Int) ≤ ((cntS k.list m sigs : Int) : Int))))) (by simp [results, Tryz.results92, go_sem]; rw [← Array.getD_eq_getD_getElem?]; exact e6) (hd.trans rfl) ⟨by unfold isSgn; rw [← Hz2.out], HB.out.trans ((R06.below_drew hb).mono HB.out.size)⟩
set_option maxHeartbeats 8000000 in
theorem iSignBy_any (Ah : Option Addr) (nh ch : Nat) (held : List Int) (cs : List Value) (k : Keys) (A : Option Addr) (n c : Nat) (m : List Int) (w : World) (hh : Rd .i64 w w.heap.size Ah nh held) (h : RKeys.rd w (Lt w.heap.size) cs k) (h1 : Rd .i64 w w.heap.size A n m)
    (hk : k.list.length ≤ 68719476735) (hn : n ≤ 1099511626) (hnh : nh ≤ 1099511627776) :
    Calls Tryz.prog 44 #[.slice Ah nh ch, .agg cs.toArray, .slice A n c] w fun e w' => ∃ A' c', e = .returned (.slice A' (signBy held k.list m).length c') ∧ Owns RSig w' w.heap.size w'.heap.size A' (signBy held k.list m).length c' (signBy held k.list m) ∧ Below w.heap.size w w' := by
  obtain ⟨Al, nl, cl, rfl, hlc, hcm, h3, h4⟩ := RKeys_rd.1 h
  obtain ⟨l, need⟩ := k
  simp only at h3 h4 hk ⊢
  have HLl := Lib.hid h3.len
  obtain ⟨V, hV⟩ : ∃ V, V = (w.alloc (.cells #[.slice Al nl cl, .int .i64 need] 26)).alloc (.cells #[] 107) := ⟨_, rfl⟩
  have HX := Lib.hid (show Box V w.heap.size [.slice Al nl cl, .int .i64 need] by rw [hV]; exact (Box.new w #[.slice Al nl cl, .int .i64 need] 26).alloc _)
  have HB := Lib.hid (show Below w.heap.size w V by rw [hV]; exact ((Below.refl w.heap.size w).alloc (Nat.le_refl _) _).alloc (by simp) _)
  have HO := Lib.hid (show Owns RSig V (w.heap.size + 1) V.heap.size (some ⟨w.heap.size + 1, 0, none⟩) 0 0 [] by
    have h := Owns.lit0 (lo := w.heap.size + 1) RSig (w.alloc (.cells #[.slice Al nl cl, .int .i64 need] 26)) (by simp)
    rw [hV]
    rw [show RSig.ty = 107 from rfl] at h
    simpa using h)
  have H3 := Lib.hid (h3.below HB.out (Nat.le_refl _))
  have H1 := Lib.hid (h1.below HB.out (Nat.le_refl _))
  have HH := Lib.hid (hh.below HB.out (Nat.le_refl _))
  have HWF := Lib.hid h3.wf
  have HSZ := Lib.hid (show w.heap.size + 1 < V.heap.size by rw [hV]; simp)
  have HV := Lib.hid hV
  have HST := Lib.hid (fun i (hi : i < nl) => signBy_step (held := held) (m := m) (l := l) (i := i) (by rw [HLl.out]; exact hi))
  have HLE := Lib.hid (fun i => signBy_le held (l.take i) m)
  have hnl : nl ≤ 68719476735 := by rw [← HLl.out]; exact hk
  clear h h1 h3 h4 hV hk hh
  go_enter Tryz.func44, Tryz.ntmps44
  have x0 := HX.out.cell (j := 0) rfl
  go_wp2
  rw [← HV.out]
  clear x0
  go_loopw [7, 14] (fun ov iv wr => ∃ (i : Nat) (A1 : Option Addr) (c1 : Nat), i ≤ nl ∧ ov = .slice A1 (signBy held (l.take i) m).length c1 ∧ iv = .int .i64 i ∧ Owns RSig wr (w.heap.size + 1) wr.heap.size A1 (signBy held (l.take i) m).length c1 (signBy held (l.take i) m) ∧ Below (w.heap.size + 1) V wr) (fun _ i _ => nl - (intOf i).toNat)
  case atStart => exact ⟨0, _, 0, by omega, rfl, rfl, HO.out, Below.refl _ _⟩
  case round =>
    obtain ⟨i, A1, c1, hi, rfl, rfl, hown, hbel⟩ := hrel
    have HR := Lib.hid hbel
    have HO1 := Lib.hid hown
    have HSR := Lib.hid (Nat.lt_of_lt_of_le HSZ.out hbel.size)
    clear hbel hown
    by_cases hin : i < nl
    · obtain ⟨bl, ol, rfl, hltl, hcl⟩ := (H3.out.below HR.out (by omega)).cells (by omega)
      obtain ⟨x, hx⟩ : ∃ x, x = l.getD i 0 := ⟨_, rfl⟩
      have hci : wr.cell? ⟨bl, ol + i, none⟩ = some (.int .i64 x) := by rw [hx]; exact hcl i hin
      have hxi : In .i64 x := by
        rw [hx]
        simp only [List.getD, List.getElem?_eq_getElem (show i < l.length by rw [HLl.out]; exact hin), Option.getD_some]
        exact HWF.out _ (List.getElem_mem _)
      have hst := HST.out i hin
      have hle := HLE.out i
      rw [List.length_take] at hle
      rw [← hx] at hst
      have hK := contains_any _ Ah nh ch held x wr (HH.out.below HR.out (by omega)) hnh
      clear hcl hx hltl
      generalize hsb : signBy held (l.take i) m = sb at HO1 hst hle
      clear hsb
      have hsl : sb.length ≤ 68719476734 := by omega
      clear hle
      rcases hhas : hasK held x with _ | _
      · rw [hhas] at hst hK
        simp only [Bool.false_eq_true, if_false, List.append_nil] at hst
        have HS := Lib.hid hst
        have HK := Lib.hid hK
        clear hst hK hhas
        go_wp2_with fail
        refine HK.out.mono ?_
        rintro e w1 ⟨rfl, rfl⟩
        go_wp2
        go_roundw
        case rel => exact ⟨i + 1, A1, c1, by omega, by rw [HS.out], by go_num, by rw [HS.out]; exact HO1.out, HR.out⟩
        case measure => simp [intOf]; omega
      · rw [hhas] at hst hK
        simp only [if_true] at hst
        have HS := Lib.hid hst
        have HK := Lib.hid hK
        have hq : QSig ⟨x, tagOf x m⟩ := ⟨hxi, by have := kh_range x (223 :: m); show In .i64 (kh x (223 :: m)); exact inI64 (by omega) (by omega)⟩
        have HT := Lib.hid (sigWith_any x A n c m wr ((H1.out.below HR.out (by omega)).more (by have := HSR.out; omega)) hn hxi)
        have HQ := Lib.hid hq
        simp only [fSig] at HT
        generalize htg : tagOf x m = tg at HQ HS HT
        clear hst hK hhas hq hxi htg
        go_wp2_with fail
        refine HK.out.mono ?_
        rintro e w1 ⟨rfl, rfl⟩
        go_wp2_with fail
        refine HT.out.mono ?_
        rintro e w2 ⟨rfl, hb2⟩
        have HO2 := Lib.hid (HO1.out.below hb2 (Nat.le_refl _))
        have HB2 := Lib.hid hb2
        have HQ2 := Lib.hid (show OwnI RSig w2 wr.heap.size wr.heap.size (fSig ⟨x, tg⟩) ⟨x, tg⟩ from ⟨[], flSig.own.2 ⟨rfl, rfl, HQ.out⟩, .nil, by simp⟩)
        clear hb2 hci
        go_wp2_with (at_builtin; refine wp_pushR (st := 34) (mid := wr.heap.size) (hi := wr.heap.size) (lo := w.heap.size + 1) (cs := fSig ⟨x, tg⟩) (z := ⟨x, tg⟩) RSig tiSig rfl _ _ rfl rfl HO2.out rfl HQ2.out (by omega) (by have := HSR.out; omega) (by have := HSR.out; have := HB2.out.size; omega) ?_; intro A4 c4 w4 hown4 hgr4)
        have HB4 := Lib.hid ((HR.out.trans (HB2.out.mono (by have := HSR.out; omega))).trans (hgr4.below (B := w.heap.size + 1) (by have := HSR.out; have := HB2.out.size; omega) HO2.out.ge))
        have HO4 := Lib.hid hown4
        clear hown4 hgr4
        go_wp2
        go_roundw
        case rel => exact ⟨i + 1, A4, c4, by omega, by rw [HS.out, List.length_append]; rfl, by go_num, by rw [HS.out, List.length_append]; exact HO4.out, HB4.out⟩
        case measure => simp [intOf]; omega
    · obtain rfl : i = nl := by omega
      rw [List.take_of_length_le (by rw [HLl.out]; omega)] at HO1
      go_wp2
      go_ret
      refine ⟨A1, c1, ?_, HO1.out.base (by omega), HB.out.trans (HR.out.mono ?_)⟩
      · rw [List.take_of_length_le (by rw [HLl.out]; omega)]; rfl
      · omega
end Go.Proofs.YthhmhcmlbpdlbaaGreat.C07I
