/- Chapter 9: contents of zones, what the model's functions return. Chapter 9: contents of zones (PutEntry), what the model's functions return. -/
import Derived.Test.YthhmhcmlbpdlbaaGreatC08S
import Derived.Test.YthhmhcmlbpdlbaaGreatC05S
import Derived.Test.YthhmhcmlbpdlbaaGreatM09
import Derived.Test.YthhmhcmlbpdlbaaGreatRKA
import Derived.Deep.RegionWith
import Derived.Deep.RegionLaw
import Derived.BigQuiet
import Derived.Deep.QuietTactic
namespace Go.Proofs.YthhmhcmlbpdlbaaGreat.C09S
open Go.RowKit Mem MemS M02 M04 M05 M08 M09 C01 C02 C04S C04I C08S Rep RepA RW R08 Q08 RG RGS
set_option linter.unusedVariables false
set_option maxRecDepth 100000
theorem okb (e : Bool) (j : Nat) (cm : Int) : ((!e) || (decide ((0 : Int) < (j : Int)) && ((cm : Int) != (-1 : Int)))) = !(e && (decide (j = 0) || decide (cm = -1))) := by
  have h : decide ((0 : Int) < (j : Int)) = !decide (j = 0) := by by_cases h0 : j = 0 <;> simp [h0] <;> omega
  rw [h]
  cases e <;> by_cases h0 : j = 0 <;> by_cases h9 : cm = -1 <;> simp [h0, h9, bne]
set_option maxHeartbeats 4000000 in
theorem sAreEntries_any (A : Option Addr) (n c : Nat) (l : List Entry) (w : World) (h : FRdEntry w w.heap.size A n l) (hn : totR totEntry l ≤ 1099511627776) :
    Calls Tryz.prog 38 #[.slice A n c] w fun e w' => e = .returned (.bool (areE l)) ∧ Below w.heap.size w w' := by
  have HL := Lib.hid h.len
  have HT := Lib.hid hn
  have hn2 : n ≤ 1099511627776 := by have := totR_len totEntry l; have := h.len; omega
  have HR := Lib.hid h
  clear h hn
  go_enter Tryz.func38, Tryz.ntmps38
  go_wp2
  go_loopw [3] (fun i wr => ∃ j : Nat, j ≤ n ∧ i = .int .i64 j ∧ Below w.heap.size w wr ∧ ∀ k, k < j → okE l k = true) (fun i _ => n - (intOf i).toNat)
  case atStart => exact ⟨0, by omega, rfl, Below.refl _ _, fun k hk => absurd hk (by omega)⟩
  case round =>
    obtain ⟨j, hj, rfl, hbel, hok⟩ := hrel
    have HX := Lib.hid hbel
    have HB := Lib.hid hok
    clear hbel hok
    by_cases hjn : j < n
    · obtain ⟨jm, hjm⟩ : ∃ jm, jm = j - 1 := ⟨_, rfl⟩
      have hprev : 0 < j → ∃ b off, A = some ⟨b, off, none⟩ ∧ wr.drew.cell? ⟨b, off + jm * 4, none⟩ = some (.string (at0 l jm).label) := fun h0 => by
        obtain ⟨b, off, cs, rfl, hlt, hrd, hcc⟩ := (HR.out.below HX.out (Nat.le_refl _)).at (show jm < n by omega)
        obtain ⟨A3, n3, c3, rfl, _⟩ := REntry_rd.1 hrd
        exact ⟨b, off, rfl, hcc 0 (by decide)⟩
      obtain ⟨b, off, cs, rfl, hlt, hrd, hcc⟩ := (HR.out.below HX.out (Nat.le_refl _)).at hjn
      obtain ⟨z, hz⟩ : ∃ z, z = at0 l j := ⟨_, rfl⟩
      rw [show l.getD j default = z from hz.symm] at hrd
      have htz : totEntry z ≤ totR totEntry l := by rw [hz]; exact totR_mem totEntry (by rw [HL.out]; exact hjn)
      have hrd2 := REntry.more hrd fun i hi => Nat.lt_of_lt_of_le hi HX.out.size
      obtain ⟨A3, n3, c3, rfl, g0, g1, g2, p3, q3, s3⟩ := REntry_rd.1 hrd
      have d0 : wr.drew.cell? ⟨b, off + j * 4, none⟩ = some (.string z.label) := hcc 0 (by decide)
      have d1 : wr.drew.cell? ⟨b, off + j * 4 + 1, none⟩ = some (.int .i64 z.kind) := hcc 1 (by decide)
      have d2 : wr.drew.cell? ⟨b, off + j * 4 + 2, none⟩ = some (.int .i64 z.value) := hcc 2 (by decide)
      have d3 : wr.drew.cell? ⟨b, off + j * 4 + 3, none⟩ = some (.slice A3 n3 c3) := hcc 3 (by decide)
      have hpv : 0 < j → wr.drew.cell? ⟨b, off + jm * 4, none⟩ = some (.string (at0 l jm).label) := fun h0 => by
        obtain ⟨b', off', e, hc⟩ := hprev h0
        injection e with e
        injection e with e1 e2 _
        subst e1 e2
        exact hc
      have HOK := Lib.hid (show okE l j = (isEntry z && (decide (j = 0) || decide (cmpS (at0 l jm).label z.label = -1))) from by unfold okE; rw [hz, hjm])
      generalize (at0 l jm).label = y at hpv HOK
      have HD0 := Lib.hid d0
      have HD1 := Lib.hid d1
      have HD2 := Lib.hid d2
      have HD3 := Lib.hid d3
      have HD9 := Lib.hid hpv
      have HBW := Lib.hid (show b < wr.drew.heap.size from Nat.lt_of_lt_of_le hlt HX.out.size)
      have HRD := Lib.hid (show REntry.rd wr.drew (Lt wr.drew.heap.size) [.string z.label, .int .i64 z.kind, .int .i64 z.value, .slice A3 n3 c3] z from REntry.keep hrd2 fun i _ => rfl)
      have HTZ := Lib.hid (show totEntry z ≤ 1099511627776 from by have := HT.out; omega)
      have HJM := Lib.hid (fun (h : 0 < j) => show (j : Int) - 1 = (jm : Int) by omega)
      have HJN := Lib.hid (fun (h : 0 < j) => show (jm : Int) < n by omega)
      have hj2 : (j : Int) < n := by omega
      clear hcc hrd hrd2 hz htz g0 g1 g2 p3 q3 s3 d0 d1 d2 d3 hpv hprev hjm hlt
      go_wp2_with fail
      obtain ⟨z6, hz6⟩ : ∃ zz : Bool, zz = (!(isEntry z)) := ⟨_, rfl⟩
      have Hz6 := Lib.hid hz6
      clear hz6
      obtain ⟨z9, hz9⟩ : ∃ zz : Bool, zz = (decide ((0 : Int) < ((j : Int) : Int))) := ⟨_, rfl⟩
      have Hz9 := Lib.hid hz9
      clear hz9
      have HPOS := Lib.hid (show ∀ (x : Bool), (x && (z9 == true)) = true → 0 < j from fun x h => by rw [Hz9.out, Bool.and_eq_true] at h; simpa using h.2)
      refine RG.region (tabP [sv (.slice (some ⟨b, off, none⟩) n c), sv (.int .i64 ((j : Int))), sv (.pointer (some ⟨b, off + j * 4, none⟩)), sv (.agg #[.string z.label, .int .i64 z.kind, .int .i64 z.value, .slice A3 n3 c3]), sv (.bool (isEntry z)), sv (.bool (!(isEntry z))), sv (.bool (z6)), swhen (z6 == false) (sv (.int .i64 ((j : Int)))), swhen (z6 == false) (sv (.bool (decide ((0 : Int) < ((j : Int) : Int))))), swhen (z6 == false) (sv (.bool (z9))), swhen ((z6 == false) && (z9 == true)) (sv (.slice (some ⟨b, off, none⟩) n c)), swhen ((z6 == false) && (z9 == true)) (sv (.int .i64 ((j : Int)))), swhen ((z6 == false) && (z9 == true)) (sv (.int .i64 ((jm : Int)))), swhen ((z6 == false) && (z9 == true)) (sv (.pointer (some ⟨b, off + jm * 4, none⟩))), swhen ((z6 == false) && (z9 == true)) (sv (.pointer (some ⟨b, off + jm * 4, none⟩))), swhen ((z6 == false) && (z9 == true)) (sv (.string (y))), swhen ((z6 == false) && (z9 == true)) (sv (.slice (some ⟨b, off, none⟩) n c)), swhen ((z6 == false) && (z9 == true)) (sv (.int .i64 ((j : Int)))), swhen ((z6 == false) && (z9 == true)) (sv (.pointer (some ⟨b, off + j * 4, none⟩))), swhen ((z6 == false) && (z9 == true)) (sv (.pointer (some ⟨b, off + j * 4, none⟩))), swhen ((z6 == false) && (z9 == true)) (sv (.string (z.label))), swhen ((z6 == false) && (z9 == true)) (sv (.int .i64 (cmpS (y) (z.label)))), swhen ((z6 == false) && (z9 == true)) (sv (.bool ((cmpS (y) (z.label) : Int) != (-1 : Int)))), swhen (z6 == false) (sv (.bool ((z9) && ((cmpS (y) (z.label) : Int) != (-1 : Int))))), sv (.bool ((z6) || ((z9) && ((cmpS (y) (z.label) : Int) != (-1 : Int)))))]) (by kernel_rfl) (by kernel_rfl) (tab_keep _) ?_ ?_
      · refine steps_cons ?_ (steps_cons ?_ (steps_cons ?_ (steps_cons ?_ (steps_cons ?_ (steps_cons ?_ (steps_cons ?_ (steps_cons ?_ (steps_cons ?_ (steps_cons ?_ (steps_cons ?_ (steps_cons ?_ (steps_cons ?_ (steps_cons ?_ (steps_cons ?_ (steps_cons ?_ (steps_cons ?_ (steps_cons ?_ (steps_cons ?_ (steps_cons ?_ (steps_cons ?_ (steps_cons ?_ (steps_cons ?_ (steps_cons ?_ (steps_cons ?_ (steps_nil)))))))))))))))))))))))))
        · intro aa ww hA K hK
          refine free rfl ?_
          exact gives hK rfl (hA.old 0 (by kernel_rfl))
        · intro aa ww hA K hK
          refine free rfl ?_
          exact gives hK rfl (hA.old 3 (by kernel_rfl))
        · intro aa ww hA K hK
          refine free rfl ?_
          have e10 : aa.tmps.getD 10 undef = .slice (some ⟨b, off, none⟩) n c := hA.got 0 10 (by kernel_rfl)
          have e11 : aa.tmps.getD 11 undef = .int .i64 ((j : Int)) := hA.got 1 11 (by kernel_rfl)
          exact gives hK (v := .pointer (some ⟨b, off + j * 4, none⟩)) (by simp [execOp, Act.eval, e10, e11, go_sem, hj2]) rfl
        · intro aa ww hA K hK
          refine free rfl ?_
          have e12 : aa.tmps.getD 12 undef = .pointer (some ⟨b, off + j * 4, none⟩) := hA.got 2 12 (by kernel_rfl)
          have k0 := (hA.bel.cell (p := ⟨b, off + j * 4, none⟩) HBW.out).trans HD0.out
          have k1 := (hA.bel.cell (p := ⟨b, off + j * 4 + 1, none⟩) HBW.out).trans HD1.out
          have k2 := (hA.bel.cell (p := ⟨b, off + j * 4 + 2, none⟩) HBW.out).trans HD2.out
          have k3 := (hA.bel.cell (p := ⟨b, off + j * 4 + 3, none⟩) HBW.out).trans HD3.out
          exact gives hK (v := .agg #[.string z.label, .int .i64 z.kind, .int .i64 z.value, .slice A3 n3 c3]) (by simp [execOp, Act.eval, e12, k0, k1, k2, k3, go_sem]) rfl
        · intro aa ww hA K hK
          refine free rfl ?_
          have e13 : aa.tmps.getD 13 undef = .agg #[.string z.label, .int .i64 z.kind, .int .i64 z.value, .slice A3 n3 c3] := hA.got 3 13 (by kernel_rfl)
          refine calls hK (by simp [Act.eval, e13, go_sem]) (sIsEntry_any _ z ww (REntry.more (REntry.keep HRD.out fun i hi => hA.bel.block i hi) fun i hi => Nat.lt_of_lt_of_le hi hA.bel.size) HTZ.out) ?_
          rintro e w1 ⟨rfl, hb⟩
          exact ⟨_, rfl, hb, rfl⟩
        · intro aa ww hA K hK
          refine free rfl ?_
          have e14 : aa.tmps.getD 14 undef = .bool (isEntry z) := hA.got 4 14 (by kernel_rfl)
          exact gives hK (v := .bool (!(isEntry z))) (by simp [execOp, Act.eval, e14, Op.unary, go_sem]) rfl
        · intro aa ww hA K hK
          refine free rfl ?_
          have e15 : aa.tmps.getD 15 undef = .bool (!(isEntry z)) := hA.got 5 15 (by kernel_rfl)
          exact gives hK rfl (show aa.tmps.getD 15 undef = .bool z6 from by rw [e15, Hz6.out])
        · intro aa ww hA K hK
          refine guarded (s := sv (.int .i64 ((j : Int)))) rfl rfl (hA.got 6 16 (by kernel_rfl)) hK fun hB hK => ?_
          exact gives hK rfl (hA.old 3 (by kernel_rfl))
        · intro aa ww hA K hK
          refine guarded (s := sv (.bool (decide ((0 : Int) < ((j : Int) : Int))))) rfl rfl (hA.got 6 16 (by kernel_rfl)) hK fun hB hK => ?_
          have e17 : aa.tmps.getD 17 undef = .int .i64 ((j : Int)) := (hA.got 7 17 (by kernel_rfl)).1 hB
          exact gives hK (v := .bool (decide ((0 : Int) < ((j : Int) : Int)))) (by simp [execOp, Act.eval, e17, binOp, eqGuard, go_sem]) rfl
        · intro aa ww hA K hK
          refine guarded (s := sv (.bool (z9))) rfl rfl (hA.got 6 16 (by kernel_rfl)) hK fun hB hK => ?_
          have e18 : aa.tmps.getD 18 undef = .bool (decide ((0 : Int) < ((j : Int) : Int))) := (hA.got 8 18 (by kernel_rfl)).1 hB
          exact gives hK rfl (show aa.tmps.getD 18 undef = .bool z9 from by rw [e18, Hz9.out])
        · intro aa ww hA K hK
          refine guarded2 (s := sv (.slice (some ⟨b, off, none⟩) n c)) rfl rfl (hA.got 9 19 (by kernel_rfl)) hK fun hB hK => ?_
          exact gives hK rfl (hA.old 0 (by kernel_rfl))
        · intro aa ww hA K hK
          refine guarded2 (s := sv (.int .i64 ((j : Int)))) rfl rfl (hA.got 9 19 (by kernel_rfl)) hK fun hB hK => ?_
          exact gives hK rfl (hA.old 3 (by kernel_rfl))
        · intro aa ww hA K hK
          refine guarded2 (s := sv (.int .i64 ((jm : Int)))) rfl rfl (hA.got 9 19 (by kernel_rfl)) hK fun hB hK => ?_
          have e21 : aa.tmps.getD 21 undef = .int .i64 ((j : Int)) := (hA.got 11 21 (by kernel_rfl)).1 hB
          have hj1 : 0 < j := HPOS.out _ hB
          have hjm := HJM.out hj1
          exact gives hK (v := .int .i64 ((jm : Int))) (by simp [execOp, Act.eval, e21, binOp, eqGuard, go_sem]; rw [hjm, IntKind.wrap_i64]; have := HJN.out hj1; omega) rfl
        · intro aa ww hA K hK
          refine guarded2 (s := sv (.pointer (some ⟨b, off + jm * 4, none⟩))) rfl rfl (hA.got 9 19 (by kernel_rfl)) hK fun hB hK => ?_
          have hj1 : 0 < j := HPOS.out _ hB
          have hjm2 := HJN.out hj1
          have e20 : aa.tmps.getD 20 undef = .slice (some ⟨b, off, none⟩) n c := (hA.got 10 20 (by kernel_rfl)).1 hB
          have e22 : aa.tmps.getD 22 undef = .int .i64 ((jm : Int)) := (hA.got 12 22 (by kernel_rfl)).1 hB
          exact gives hK (v := .pointer (some ⟨b, off + jm * 4, none⟩)) (by simp [execOp, Act.eval, e20, e22, go_sem, hjm2]) rfl
        · intro aa ww hA K hK
          refine guarded2 (s := sv (.pointer (some ⟨b, off + jm * 4, none⟩))) rfl rfl (hA.got 9 19 (by kernel_rfl)) hK fun hB hK => ?_
          have e23 : aa.tmps.getD 23 undef = .pointer (some ⟨b, off + jm * 4, none⟩) := (hA.got 13 23 (by kernel_rfl)).1 hB
          exact gives hK (v := .pointer (some ⟨b, off + jm * 4, none⟩)) (by simp [execOp, Act.eval, e23, go_sem]) rfl
        · intro aa ww hA K hK
          refine guarded2 (s := sv (.string (y))) rfl rfl (hA.got 9 19 (by kernel_rfl)) hK fun hB hK => ?_
          have hj1 : 0 < j := HPOS.out _ hB
          have e24 : aa.tmps.getD 24 undef = .pointer (some ⟨b, off + jm * 4, none⟩) := (hA.got 14 24 (by kernel_rfl)).1 hB
          have k9 := (hA.bel.cell (p := ⟨b, off + jm * 4, none⟩) HBW.out).trans (HD9.out hj1)
          exact gives hK (v := .string y) (by simp [execOp, Act.eval, e24, k9, go_sem]) rfl
        · intro aa ww hA K hK
          refine guarded2 (s := sv (.slice (some ⟨b, off, none⟩) n c)) rfl rfl (hA.got 9 19 (by kernel_rfl)) hK fun hB hK => ?_
          exact gives hK rfl (hA.old 0 (by kernel_rfl))
        · intro aa ww hA K hK
          refine guarded2 (s := sv (.int .i64 ((j : Int)))) rfl rfl (hA.got 9 19 (by kernel_rfl)) hK fun hB hK => ?_
          exact gives hK rfl (hA.old 3 (by kernel_rfl))
        · intro aa ww hA K hK
          refine guarded2 (s := sv (.pointer (some ⟨b, off + j * 4, none⟩))) rfl rfl (hA.got 9 19 (by kernel_rfl)) hK fun hB hK => ?_
          have e26 : aa.tmps.getD 26 undef = .slice (some ⟨b, off, none⟩) n c := (hA.got 16 26 (by kernel_rfl)).1 hB
          have e27 : aa.tmps.getD 27 undef = .int .i64 ((j : Int)) := (hA.got 17 27 (by kernel_rfl)).1 hB
          exact gives hK (v := .pointer (some ⟨b, off + j * 4, none⟩)) (by simp [execOp, Act.eval, e26, e27, go_sem, hj2]) rfl
        · intro aa ww hA K hK
          refine guarded2 (s := sv (.pointer (some ⟨b, off + j * 4, none⟩))) rfl rfl (hA.got 9 19 (by kernel_rfl)) hK fun hB hK => ?_
          have e28 : aa.tmps.getD 28 undef = .pointer (some ⟨b, off + j * 4, none⟩) := (hA.got 18 28 (by kernel_rfl)).1 hB
          exact gives hK (v := .pointer (some ⟨b, off + j * 4, none⟩)) (by simp [execOp, Act.eval, e28, go_sem]) rfl
        · intro aa ww hA K hK
          refine guarded2 (s := sv (.string (z.label))) rfl rfl (hA.got 9 19 (by kernel_rfl)) hK fun hB hK => ?_
          have e29 : aa.tmps.getD 29 undef = .pointer (some ⟨b, off + j * 4, none⟩) := (hA.got 19 29 (by kernel_rfl)).1 hB
          have k0 := (hA.bel.cell (p := ⟨b, off + j * 4, none⟩) HBW.out).trans HD0.out
          exact gives hK (v := .string z.label) (by simp [execOp, Act.eval, e29, k0, go_sem]) rfl
        · intro aa ww hA K hK
          refine guarded2 (s := sv (.int .i64 (cmpS (y) (z.label)))) rfl rfl (hA.got 9 19 (by kernel_rfl)) hK fun hB hK => ?_
          have e25 : aa.tmps.getD 25 undef = .string (y) := (hA.got 15 25 (by kernel_rfl)).1 hB
          have e30 : aa.tmps.getD 30 undef = .string (z.label) := (hA.got 20 30 (by kernel_rfl)).1 hB
          refine calls hK (by simp [Act.eval, e25, e30, go_sem]) (sCompareLabels_any (y) (z.label) ww) ?_
          rintro e w1 ⟨rfl, rfl⟩
          exact ⟨_, rfl, (Below.refl _ _), rfl⟩
        · intro aa ww hA K hK
          refine guarded2 (s := sv (.bool ((cmpS (y) (z.label) : Int) != (-1 : Int)))) rfl rfl (hA.got 9 19 (by kernel_rfl)) hK fun hB hK => ?_
          have e31 : aa.tmps.getD 31 undef = .int .i64 (cmpS (y) (z.label)) := (hA.got 21 31 (by kernel_rfl)).1 hB
          exact gives hK (v := .bool ((cmpS (y) (z.label) : Int) != (-1 : Int))) (by simp [execOp, Act.eval, e31, binOp, eqGuard, go_sem]) rfl
        · intro aa ww hA K hK
          refine guarded (s := sv (.bool ((z9) && ((cmpS (y) (z.label) : Int) != (-1 : Int))))) rfl rfl (hA.got 6 16 (by kernel_rfl)) hK fun hB hK => ?_
          have e19 : aa.tmps.getD 19 undef = .bool (z9) := (hA.got 9 19 (by kernel_rfl)).1 hB
          rcases hq : (z9) with _ | _
          · rw [hq] at e19
            exact gives hK (v := .bool false) (by simp [execOp, Act.eval, e19, asBool, go_sem]) (show Value.bool _ = .bool _ by rw [hq]; simp)
          · have ex : aa.tmps.getD 32 undef = .bool ((cmpS (y) (z.label) : Int) != (-1 : Int)) := (hA.got 22 32 (by kernel_rfl)).1 (and_i hB (by rw [hq]; rfl))
            rw [hq] at e19
            exact gives hK (v := .bool ((cmpS (y) (z.label) : Int) != (-1 : Int))) (by simp [execOp, Act.eval, e19, ex, asBool, go_sem]) (show Value.bool _ = .bool _ by rw [hq]; simp)
        · intro aa ww hA K hK
          refine free rfl ?_
          have e16 : aa.tmps.getD 16 undef = .bool (z6) := hA.got 6 16 (by kernel_rfl)
          rcases hq : (z6) with _ | _
          · have ex : aa.tmps.getD 33 undef = .bool ((z9) && ((cmpS (y) (z.label) : Int) != (-1 : Int))) := (hA.got 23 33 (by kernel_rfl)).1 (by rw [hq]; rfl)
            rw [hq] at e16
            exact gives hK (v := .bool ((z9) && ((cmpS (y) (z.label) : Int) != (-1 : Int)))) (by simp [execOp, Act.eval, e16, ex, asBool, go_sem]) (show Value.bool _ = .bool _ by rw [hq]; simp)
          · rw [hq] at e16
            exact gives hK (v := .bool true) (by simp [execOp, Act.eval, e16, asBool, go_sem]) (show Value.bool _ = .bool _ by rw [hq]; simp)
      · intro a1 w1 hb hd hsz hold hgot
        have g34 : a1.tmps.getD 34 undef = .bool ((z6) || ((z9) && ((cmpS (y) (z.label) : Int) != (-1 : Int)))) := hgot 24 34 (by kernel_rfl)
        have ea := act_put hd hsz hold [10, 11, 12, 13, 14, 15, 16, 17, 18, 19, 20, 21, 22, 23, 24, 25, 26, 27, 28, 29, 30, 31, 32, 33, 34] rfl
        simp only [List.foldl_cons, List.foldl_nil, g34] at ea
        rename_i K9 hK9
        refine hK9 a1 w1 ?_
        generalize a1.tmps.getD 10 undef = v10 at ea
        generalize a1.tmps.getD 11 undef = v11 at ea
        generalize a1.tmps.getD 12 undef = v12 at ea
        generalize a1.tmps.getD 13 undef = v13 at ea
        generalize a1.tmps.getD 14 undef = v14 at ea
        generalize a1.tmps.getD 15 undef = v15 at ea
        generalize a1.tmps.getD 16 undef = v16 at ea
        generalize a1.tmps.getD 17 undef = v17 at ea
        generalize a1.tmps.getD 18 undef = v18 at ea
        generalize a1.tmps.getD 19 undef = v19 at ea
        generalize a1.tmps.getD 20 undef = v20 at ea
        generalize a1.tmps.getD 21 undef = v21 at ea
        generalize a1.tmps.getD 22 undef = v22 at ea
        generalize a1.tmps.getD 23 undef = v23 at ea
        generalize a1.tmps.getD 24 undef = v24 at ea
        generalize a1.tmps.getD 25 undef = v25 at ea
        generalize a1.tmps.getD 26 undef = v26 at ea
        generalize a1.tmps.getD 27 undef = v27 at ea
        generalize a1.tmps.getD 28 undef = v28 at ea
        generalize a1.tmps.getD 29 undef = v29 at ea
        generalize a1.tmps.getD 30 undef = v30 at ea
        generalize a1.tmps.getD 31 undef = v31 at ea
        generalize a1.tmps.getD 32 undef = v32 at ea
        generalize a1.tmps.getD 33 undef = v33 at ea
        clear hgot hold hsz hd g34
        simp only [Act.put, List.setIfInBounds_toArray, List.set_cons_succ, List.set_cons_zero] at ea
        subst ea
        have HX9 := Lib.hid (HX.out.trans ((T05.below_drew hb).mono HX.out.size))
        clear hb
        cases hv : okE l j with
        | false =>
          rw [show ((z6) || ((z9) && ((cmpS (y) (z.label) : Int) != (-1 : Int)))) = true from by rw [Hz6.out, Hz9.out, okb, ← HOK.out, hv]; rfl]
          have HF := Lib.hid (areE_bad (by rw [HL.out]; exact hjn) hv)
          clear hv
          go_wp2
          go_ret
          exact ⟨by rw [HF.out]; rfl, HX9.out⟩
        | true =>
          rw [show ((z6) || ((z9) && ((cmpS (y) (z.label) : Int) != (-1 : Int)))) = false from by rw [Hz6.out, Hz9.out, okb, ← HOK.out, hv]; rfl]
          have HF := Lib.hid hv
          clear hv
          go_wp2
          go_roundw
          case rel => exact ⟨j + 1, by omega, by go_num, HX9.out, fun k hk => by
            rcases Nat.lt_or_ge k j with h1 | h1
            · exact HB.out k h1
            · obtain rfl : k = j := by omega
              exact HF.out⟩
          case measure => simp [intOf]; omega
    · have HF := Lib.hid (areE_all (l := l) fun k hk => HB.out k (by have := HL.out; omega))
      have HLE := Lib.hid HL.out
      go_wp2
      go_ret
      exact ⟨by rw [HF.out, HLE.out]; simp; omega, HX.out⟩
theorem l9Copy_any (A : Option Addr) (n c : Nat) (l : List Entry) (w : World) (h : FRdEntry w w.heap.size A n l) (hn : totR totEntry l ≤ 34359738368) :
    Calls Tryz.prog 110 #[.slice A n c] w fun e w' => ∃ A' c', e = .returned (.slice A' n c') ∧ FOwnEntry w' w.heap.size w'.heap.size A' n c' l ∧ Below w.heap.size w w' := by
  have HL := Lib.hid h.len
  have HT := Lib.hid hn
  have hn2 : n ≤ 34359738368 := by have := totR_len totEntry l; have := h.len; omega
  have HR := Lib.hid h
  have HO := Lib.hid (Owns.lit0 (lo := w.heap.size) REntry w (Nat.le_refl _))
  have HB := Lib.hid ((Below.refl w.heap.size w).alloc (Nat.le_refl _) (.cells #[] 84))
  clear h hn
  go_enter Tryz.func110, Tryz.ntmps110
  go_wp2
  go_loopw [3, 4] (fun o i wr => ∃ (j : Nat) (A1 : Option Addr) (c1 : Nat), j ≤ n ∧ i = .int .i64 j ∧ o = .slice A1 j c1 ∧ FOwnEntry wr w.heap.size wr.heap.size A1 j c1 (l.take j) ∧ Below w.heap.size w wr) (fun _ i _ => n - (intOf i).toNat)
  case atStart => exact ⟨0, _, 0, by omega, rfl, rfl, by have h := HO.out.top; rw [show REntry.ty = 84 from rfl] at h; simpa using h, HB.out⟩
  case round =>
    obtain ⟨j, A1, c1, hj, rfl, rfl, hown, hbel⟩ := hrel
    have HX := Lib.hid hbel
    have HO1 := Lib.hid hown
    clear hbel hown
    by_cases hjn : j < n
    · obtain ⟨b, off, cs, rfl, hlt, hrd, hcc⟩ := (HR.out.below HX.out (Nat.le_refl _)).at hjn
      obtain ⟨z, hz⟩ : ∃ z, z = at0 l j := ⟨_, rfl⟩
      rw [show l.getD j default = z from hz.symm] at hrd
      have htz : totEntry z ≤ totR totEntry l := by rw [hz]; exact totR_mem totEntry (by rw [HL.out]; exact hjn)
      have hrd2 := REntry.more hrd fun i hi => Nat.lt_of_lt_of_le hi HX.out.size
      obtain ⟨A3, n3, c3, rfl, g0, g1, g2, p3, q3, s3⟩ := REntry_rd.1 hrd
      have d0 : wr.cell? ⟨b, off + j * 4, none⟩ = some (.string z.label) := hcc 0 (by decide)
      have d1 : wr.cell? ⟨b, off + j * 4 + 1, none⟩ = some (.int .i64 z.kind) := hcc 1 (by decide)
      have d2 : wr.cell? ⟨b, off + j * 4 + 2, none⟩ = some (.int .i64 z.value) := hcc 2 (by decide)
      have d3 : wr.cell? ⟨b, off + j * 4 + 3, none⟩ = some (.slice A3 n3 c3) := hcc 3 (by decide)
      have HSN := Lib.hid (show l.take (j + 1) = l.take j ++ [z] from by rw [hz]; exact take_snocE (by rw [HL.out]; exact hjn))
      have HK := Lib.hid (l8Copy_any [.string z.label, .int .i64 z.kind, .int .i64 z.value, .slice A3 n3 c3] z wr hrd2 (by have := HT.out; omega))
      clear hcc hrd hrd2 hz htz g0 g1 g2 p3 q3 s3 hlt
      obtain ⟨z0, z1, z2, z3⟩ := z
      simp only at d0 d1 d2 HK
      go_wp2_with fail
      refine HK.out.mono ?_
      rintro e w2 ⟨cs2, rfl, hown2, hb2⟩
      have HO2 := Lib.hid (HO1.out.below hb2 (Nat.le_refl _))
      have HZ2 := Lib.hid hown2
      have HX2 := Lib.hid (HX.out.trans (hb2.mono HX.out.size))
      have HS2 := Lib.hid hb2.size
      obtain ⟨Aa, na, ca, rfl, _⟩ := REntry_own.1 hown2
      clear hb2 hown2 d0 d1 d2 d3
      go_wp2_with (at_builtin; refine wp_pushR (st := 27) (mid := wr.heap.size) (hi := w2.heap.size) (lo := w.heap.size) REntry tiEntry rfl _ _ rfl rfl HO2.out rfl HZ2.out (by omega) HX.out.size HX2.out.size ?_; intro A4 c4 w4 hown4 hgr4)
      have HB4 := Lib.hid (HX2.out.trans (hgr4.below HX2.out.size HO2.out.ge))
      have HO4 := Lib.hid hown4
      clear hown4 hgr4
      go_wp2
      go_roundw
      case rel => exact ⟨j + 1, A4, c4, by omega, by go_num, rfl, by rw [HSN.out]; exact HO4.out, HB4.out⟩
      case measure => simp [intOf]; omega
    · obtain rfl : j = n := by omega
      rw [List.take_of_length_le (by rw [HL.out]; omega)] at HO1
      go_wp2
      go_ret
      exact ⟨A1, c1, rfl, HO1.out, HX.out⟩
end Go.Proofs.YthhmhcmlbpdlbaaGreat.C09S
namespace Go.Proofs.YthhmhcmlbpdlbaaGreat.C09SP
end Go.Proofs.YthhmhcmlbpdlbaaGreat.C09SP
