/- Chapter 9: contents of zones, what the program's functions return. -/
import Derived.Test.YthhmhcmlbpdlbaaGreatC08I
import Derived.Test.YthhmhcmlbpdlbaaGreatC05S
import Derived.Test.YthhmhcmlbpdlbaaGreatC05I
import Derived.Test.YthhmhcmlbpdlbaaGreatC09M
import Derived.Test.YthhmhcmlbpdlbaaGreatRKA
import Derived.Deep.RegionWith
import Derived.Deep.RegionLaw
import Derived.BigQuiet
import Derived.Deep.QuietTactic
namespace Go.Proofs.YthhmhcmlbpdlbaaGreat.C09I
open Go.RowKit Mem MemS M02 M04 M05 M08 M09 M09F C01 C02 C04S C04I C05I C08I C09M C09K C09N Rep RepA RW R08 Q08 RG RGS
set_option linter.unusedVariables false
set_option maxRecDepth 100000
theorem okc (e : Bool) (j : Nat) (cm : Int) (h : cm = -1 ∨ cm = 0 ∨ cm = 1) : ((!e) || (decide ((0 : Int) < (j : Int)) && decide ((0 : Int) ≤ cm))) = !(e && (decide (j = 0) || decide (cm = -1))) := by
  have h1 : decide ((0 : Int) < (j : Int)) = !decide (j = 0) := by by_cases h0 : j = 0 <;> simp [h0] <;> omega
  have h2 : decide ((0 : Int) ≤ cm) = !decide (cm = -1) := by rcases h with rfl | rfl | rfl <;> decide
  rw [h1, h2]
  cases e <;> cases decide (j = 0) <;> cases decide (cm = -1) <;> rfl
set_option maxHeartbeats 4000000 in
theorem icontentsOf_any (A : Option Addr) (n c : Nat) (l : List Entry) (w : World) (h : FRdEntry w w.heap.size A n l) (hn : totR totEntry l ≤ 1099511627776) :
    Calls Tryz.prog 73 #[.slice A n c] w fun e w' => ∃ mb, e = .returned (.tuple #[.map mb, .bool (areE l)]) ∧ Below w.heap.size w w' ∧ (areE l = true → mb = some w.heap.size ∧ MapE w' w.heap.size w.heap.size l) := by
  have HL := Lib.hid h.len
  have HT := Lib.hid hn
  have hn2 : n ≤ 1099511627776 := by have := totR_len totEntry l; have := h.len; omega
  have HR := Lib.hid h
  have hmm := @run_makeMap Tryz.prog
  have HM0 := Lib.hid (MapE.made (w := w) (Nat.le_refl w.heap.size))
  have HB0 := Lib.hid ((Below.refl w.heap.size w).alloc (Nat.le_refl _) (.map #[] 0))
  clear h hn
  by_cases hn12 : (12 : Int) < n
  · have HF := Lib.hid (show areE l = false from by
      cases ha : areE l with
      | false => rfl
      | true => have := areE_len ha; have := HL.out; omega)
    go_enter Tryz.func73, Tryz.ntmps73
    go_wp2
    go_ret2
    exact ⟨none, by rw [HF.out]; rfl, Below.refl _ _, fun h => by rw [HF.out] at h; cases h⟩
  have HN := Lib.hid (show l.length ≤ 12 by rw [HL.out]; omega)
  go_enter Tryz.func73, Tryz.ntmps73
  go_wp2
  go_loopw [13] (fun i wr => ∃ j : Nat, j ≤ n ∧ i = .int .i64 j ∧ Below w.heap.size w wr ∧ (∀ k, k < j → okE l k = true) ∧ MapE wr w.heap.size w.heap.size (l.take j)) (fun i _ => n - (intOf i).toNat)
  case atStart => exact ⟨0, by omega, rfl, HB0.out, fun k hk => absurd hk (by omega), HM0.out⟩
  case round =>
    obtain ⟨j, hj, rfl, hbel, hok, hmap⟩ := hrel
    have HX := Lib.hid hbel
    have HB := Lib.hid hok
    have HM := Lib.hid hmap
    clear hbel hok hmap
    by_cases hjn : j < n
    · obtain ⟨jm, hjm⟩ : ∃ jm, jm = j - 1 := ⟨_, rfl⟩
      have hprev : 0 < j → ∃ b off, A = some ⟨b, off, none⟩ ∧ wr.cell? ⟨b, off + jm * 4, none⟩ = some (.string (at0 l jm).label) := fun h0 => by
        obtain ⟨b, off, cs, rfl, hlt, hrd, hcc⟩ := (HR.out.below HX.out (Nat.le_refl _)).at (show jm < n by omega)
        obtain ⟨A3, n3, c3, rfl, _⟩ := REntry_rd.1 hrd
        exact ⟨b, off, rfl, hcc 0 (by decide)⟩
      obtain ⟨b, off, cs, rfl, hlt, hrd, hcc⟩ := (HR.out.below HX.out (Nat.le_refl _)).at hjn
      obtain ⟨z, hz⟩ : ∃ z, z = at0 l j := ⟨_, rfl⟩
      rw [show l.getD j default = z from hz.symm] at hrd
      have htz : totEntry z ≤ totR totEntry l := by rw [hz]; exact totR_mem totEntry (by rw [HL.out]; exact hjn)
      have hrd2 := REntry.more hrd fun i hi => Nat.lt_of_lt_of_le hi HX.out.size
      obtain ⟨A3, n3, c3, rfl, g0, g1, g2, p3, q3, s3⟩ := REntry_rd.1 hrd
      have d0 : wr.cell? ⟨b, off + j * 4, none⟩ = some (.string z.label) := hcc 0 (by decide)
      have d1 : wr.cell? ⟨b, off + j * 4 + 1, none⟩ = some (.int .i64 z.kind) := hcc 1 (by decide)
      have d2 : wr.cell? ⟨b, off + j * 4 + 2, none⟩ = some (.int .i64 z.value) := hcc 2 (by decide)
      have d3 : wr.cell? ⟨b, off + j * 4 + 3, none⟩ = some (.slice A3 n3 c3) := hcc 3 (by decide)
      have HZB := Lib.hid (Box.new wr #[.string z.label, .int .i64 z.kind, .int .i64 z.value, .slice A3 n3 c3] 84)
      have HXB := Lib.hid (HX.out.alloc HX.out.size (.cells #[.string z.label, .int .i64 z.kind, .int .i64 z.value, .slice A3 n3 c3] 84))
      have hpv : 0 < j → wr.cell? ⟨b, off + jm * 4, none⟩ = some (.string (at0 l jm).label) := fun h0 => by
        obtain ⟨b', off', e, hc⟩ := hprev h0
        injection e with e
        injection e with e1 e2 _
        subst e1 e2
        exact hc
      have HOK := Lib.hid (show okE l j = (isEntry z && (decide (j = 0) || decide (cmpS (at0 l jm).label z.label = -1))) from by unfold okE; rw [hz, hjm])
      have HSN := Lib.hid (show l.take (j + 1) = l.take j ++ [z] from by rw [hz]; exact take_snocE (by rw [HL.out]; exact hjn))
      generalize (at0 l jm).label = y at hpv HOK
      have HA1 := Lib.hid (show Below wr.heap.size wr (wr.alloc (.cells #[.string z.label, .int .i64 z.kind, .int .i64 z.value, .slice A3 n3 c3] 84)).drew from ((Below.refl wr.heap.size wr).alloc (Nat.le_refl _) _).drew)
      have HD0 := Lib.hid (show (wr.alloc (.cells #[.string z.label, .int .i64 z.kind, .int .i64 z.value, .slice A3 n3 c3] 84)).drew.cell? ⟨wr.heap.size, 0, none⟩ = some (.string z.label) from HZB.out.cell (j := 0) rfl)
      have HD1 := Lib.hid (show (wr.alloc (.cells #[.string z.label, .int .i64 z.kind, .int .i64 z.value, .slice A3 n3 c3] 84)).drew.cell? ⟨wr.heap.size, 1, none⟩ = some (.int .i64 z.kind) from HZB.out.cell (j := 1) rfl)
      have HD2 := Lib.hid (show (wr.alloc (.cells #[.string z.label, .int .i64 z.kind, .int .i64 z.value, .slice A3 n3 c3] 84)).drew.cell? ⟨wr.heap.size, 2, none⟩ = some (.int .i64 z.value) from HZB.out.cell (j := 2) rfl)
      have HD3 := Lib.hid (show (wr.alloc (.cells #[.string z.label, .int .i64 z.kind, .int .i64 z.value, .slice A3 n3 c3] 84)).drew.cell? ⟨wr.heap.size, 3, none⟩ = some (.slice A3 n3 c3) from HZB.out.cell (j := 3) rfl)
      have hbw : b < wr.heap.size := Nat.lt_of_lt_of_le hlt HX.out.size
      have HD9 := Lib.hid (fun h0 : 0 < j => (HA1.out.cell (p := ⟨b, off + jm * 4, none⟩) hbw).trans (hpv h0))
      have HBW := Lib.hid (show b < (wr.alloc (.cells #[.string z.label, .int .i64 z.kind, .int .i64 z.value, .slice A3 n3 c3] 84)).drew.heap.size from Nat.lt_of_lt_of_le hbw HA1.out.size)
      have HKW := Lib.hid (show wr.heap.size < (wr.alloc (.cells #[.string z.label, .int .i64 z.kind, .int .i64 z.value, .slice A3 n3 c3] 84)).drew.heap.size from HZB.out.lt)
      have HRD := Lib.hid (show REntry.rd (wr.alloc (.cells #[.string z.label, .int .i64 z.kind, .int .i64 z.value, .slice A3 n3 c3] 84)).drew (Lt (wr.alloc (.cells #[.string z.label, .int .i64 z.kind, .int .i64 z.value, .slice A3 n3 c3] 84)).drew.heap.size) [.string z.label, .int .i64 z.kind, .int .i64 z.value, .slice A3 n3 c3] z from REntry.more (REntry.keep hrd2 fun i hi => HA1.out.block i hi) fun i hi => Nat.lt_of_lt_of_le hi HA1.out.size)
      have HRD0 := Lib.hid hrd
      have HMA := Lib.hid (HM.out.alloc (.cells #[.string z.label, .int .i64 z.kind, .int .i64 z.value, .slice A3 n3 c3] 84)).drew
      have HG0 := Lib.hid (show InS z.label from g0)
      have HTZ := Lib.hid (show totEntry z ≤ 1099511627776 from by have := HT.out; omega)
      have HJM := Lib.hid (fun (h : 0 < j) => show (j : Int) - 1 = (jm : Int) by omega)
      have HJN := Lib.hid (fun (h : 0 < j) => show (jm : Int) < n by omega)
      have hj2 : (j : Int) < n := by omega
      have HXD := Lib.hid (show Below w.heap.size w (wr.alloc (.cells #[.string z.label, .int .i64 z.kind, .int .i64 z.value, .slice A3 n3 c3] 84)).drew from HXB.out.drew)
      clear hcc hrd hrd2 hz htz g0 g1 g2 p3 q3 s3 hpv hprev hjm hlt hbw
      go_wp2_with fail
      clear d0 d1 d2 d3
      obtain ⟨z3, hz3⟩ : ∃ zz : Bool, zz = (!(isEntry z)) := ⟨_, rfl⟩
      have Hz3 := Lib.hid hz3
      clear hz3
      obtain ⟨z6, hz6⟩ : ∃ zz : Bool, zz = (decide ((0 : Int) < ((j : Int) : Int))) := ⟨_, rfl⟩
      have Hz6 := Lib.hid hz6
      clear hz6
      have HPOS := Lib.hid (show ∀ (x : Bool), (x && (z6 == true)) = true → 0 < j from fun x h => by rw [Hz6.out, Bool.and_eq_true] at h; simpa using h.2)
      refine RG.region (tabP [sv (.agg #[.string z.label, .int .i64 z.kind, .int .i64 z.value, .slice A3 n3 c3]), sv (.bool (isEntry z)), sv (.bool (!(isEntry z))), sv (.bool (z3)), swhen (z3 == false) (sv (.int .i64 ((j : Int)))), swhen (z3 == false) (sv (.bool (decide ((0 : Int) < ((j : Int) : Int))))), swhen (z3 == false) (sv (.bool (z6))), swhen ((z3 == false) && (z6 == true)) (sv (.slice (some ⟨b, off, none⟩) n c)), swhen ((z3 == false) && (z6 == true)) (sv (.int .i64 ((j : Int)))), swhen ((z3 == false) && (z6 == true)) (sv (.int .i64 ((jm : Int)))), swhen ((z3 == false) && (z6 == true)) (sv (.pointer (some ⟨b, off + jm * 4, none⟩))), swhen ((z3 == false) && (z6 == true)) (sv (.pointer (some ⟨b, off + jm * 4, none⟩))), swhen ((z3 == false) && (z6 == true)) (sv (.string (y))), swhen ((z3 == false) && (z6 == true)) (sv (.pointer (some ⟨wr.heap.size, 0, none⟩))), swhen ((z3 == false) && (z6 == true)) (sv (.string (z.label))), swhen ((z3 == false) && (z6 == true)) (sv (.int .i64 (cmpS (y) (z.label)))), swhen ((z3 == false) && (z6 == true)) (sv (.bool (decide ((0 : Int) ≤ (cmpS (y) (z.label) : Int))))), swhen (z3 == false) (sv (.bool ((z6) && (decide ((0 : Int) ≤ (cmpS (y) (z.label) : Int)))))), sv (.bool ((z3) || ((z6) && (decide ((0 : Int) ≤ (cmpS (y) (z.label) : Int))))))]) (by kernel_rfl) (by kernel_rfl) (tab_keep _) ?_ ?_
      · refine steps_cons ?_ (steps_cons ?_ (steps_cons ?_ (steps_cons ?_ (steps_cons ?_ (steps_cons ?_ (steps_cons ?_ (steps_cons ?_ (steps_cons ?_ (steps_cons ?_ (steps_cons ?_ (steps_cons ?_ (steps_cons ?_ (steps_cons ?_ (steps_cons ?_ (steps_cons ?_ (steps_cons ?_ (steps_cons ?_ (steps_cons ?_ (steps_nil)))))))))))))))))))
        · intro aa ww hA K hK
          refine free rfl ?_
          have e6 : aa.tmps.getD 6 undef = .pointer (some ⟨wr.heap.size, 0, none⟩) := hA.old 6 (by kernel_rfl)
          have k0 := (hA.bel.cell (p := ⟨wr.heap.size, 0, none⟩) HKW.out).trans HD0.out
          have k1 := (hA.bel.cell (p := ⟨wr.heap.size, 1, none⟩) HKW.out).trans HD1.out
          have k2 := (hA.bel.cell (p := ⟨wr.heap.size, 2, none⟩) HKW.out).trans HD2.out
          have k3 := (hA.bel.cell (p := ⟨wr.heap.size, 3, none⟩) HKW.out).trans HD3.out
          exact gives hK (v := .agg #[.string z.label, .int .i64 z.kind, .int .i64 z.value, .slice A3 n3 c3]) (by simp [execOp, Act.eval, e6, k0, k1, k2, k3, go_sem]) rfl
        · intro aa ww hA K hK
          refine free rfl ?_
          have e18 : aa.tmps.getD 18 undef = .agg #[.string z.label, .int .i64 z.kind, .int .i64 z.value, .slice A3 n3 c3] := hA.got 0 18 (by kernel_rfl)
          refine calls hK (by simp [Act.eval, e18, go_sem]) (iIsEntry_any _ z ww (REntry.more (REntry.keep HRD.out fun i hi => hA.bel.block i hi) fun i hi => Nat.lt_of_lt_of_le hi hA.bel.size) HTZ.out) ?_
          rintro e w1 ⟨rfl, hb⟩
          exact ⟨_, rfl, hb, rfl⟩
        · intro aa ww hA K hK
          refine free rfl ?_
          have e19 : aa.tmps.getD 19 undef = .bool (isEntry z) := hA.got 1 19 (by kernel_rfl)
          exact gives hK (v := .bool (!(isEntry z))) (by simp [execOp, Act.eval, e19, Op.unary, go_sem]) rfl
        · intro aa ww hA K hK
          refine free rfl ?_
          have e20 : aa.tmps.getD 20 undef = .bool (!(isEntry z)) := hA.got 2 20 (by kernel_rfl)
          exact gives hK rfl (show aa.tmps.getD 20 undef = .bool z3 from by rw [e20, Hz3.out])
        · intro aa ww hA K hK
          refine guarded (s := sv (.int .i64 ((j : Int)))) rfl rfl (hA.got 3 21 (by kernel_rfl)) hK fun hB hK => ?_
          exact gives hK rfl (hA.old 5 (by kernel_rfl))
        · intro aa ww hA K hK
          refine guarded (s := sv (.bool (decide ((0 : Int) < ((j : Int) : Int))))) rfl rfl (hA.got 3 21 (by kernel_rfl)) hK fun hB hK => ?_
          have e22 : aa.tmps.getD 22 undef = .int .i64 ((j : Int)) := (hA.got 4 22 (by kernel_rfl)).1 hB
          exact gives hK (v := .bool (decide ((0 : Int) < ((j : Int) : Int)))) (by simp [execOp, Act.eval, e22, binOp, eqGuard, go_sem]) rfl
        · intro aa ww hA K hK
          refine guarded (s := sv (.bool (z6))) rfl rfl (hA.got 3 21 (by kernel_rfl)) hK fun hB hK => ?_
          have e23 : aa.tmps.getD 23 undef = .bool (decide ((0 : Int) < ((j : Int) : Int))) := (hA.got 5 23 (by kernel_rfl)).1 hB
          exact gives hK rfl (show aa.tmps.getD 23 undef = .bool z6 from by rw [e23, Hz6.out])
        · intro aa ww hA K hK
          refine guarded2 (s := sv (.slice (some ⟨b, off, none⟩) n c)) rfl rfl (hA.got 6 24 (by kernel_rfl)) hK fun hB hK => ?_
          exact gives hK rfl (hA.old 0 (by kernel_rfl))
        · intro aa ww hA K hK
          refine guarded2 (s := sv (.int .i64 ((j : Int)))) rfl rfl (hA.got 6 24 (by kernel_rfl)) hK fun hB hK => ?_
          exact gives hK rfl (hA.old 5 (by kernel_rfl))
        · intro aa ww hA K hK
          refine guarded2 (s := sv (.int .i64 ((jm : Int)))) rfl rfl (hA.got 6 24 (by kernel_rfl)) hK fun hB hK => ?_
          have e26 : aa.tmps.getD 26 undef = .int .i64 ((j : Int)) := (hA.got 8 26 (by kernel_rfl)).1 hB
          have hj1 : 0 < j := HPOS.out _ hB
          have hjm := HJM.out hj1
          exact gives hK (v := .int .i64 ((jm : Int))) (by simp [execOp, Act.eval, e26, binOp, eqGuard, go_sem]; rw [hjm, IntKind.wrap_i64]; have := HJN.out hj1; omega) rfl
        · intro aa ww hA K hK
          refine guarded2 (s := sv (.pointer (some ⟨b, off + jm * 4, none⟩))) rfl rfl (hA.got 6 24 (by kernel_rfl)) hK fun hB hK => ?_
          have hj1 : 0 < j := HPOS.out _ hB
          have hjm2 := HJN.out hj1
          have e25 : aa.tmps.getD 25 undef = .slice (some ⟨b, off, none⟩) n c := (hA.got 7 25 (by kernel_rfl)).1 hB
          have e27 : aa.tmps.getD 27 undef = .int .i64 ((jm : Int)) := (hA.got 9 27 (by kernel_rfl)).1 hB
          exact gives hK (v := .pointer (some ⟨b, off + jm * 4, none⟩)) (by simp [execOp, Act.eval, e25, e27, go_sem, hjm2]) rfl
        · intro aa ww hA K hK
          refine guarded2 (s := sv (.pointer (some ⟨b, off + jm * 4, none⟩))) rfl rfl (hA.got 6 24 (by kernel_rfl)) hK fun hB hK => ?_
          have e28 : aa.tmps.getD 28 undef = .pointer (some ⟨b, off + jm * 4, none⟩) := (hA.got 10 28 (by kernel_rfl)).1 hB
          exact gives hK (v := .pointer (some ⟨b, off + jm * 4, none⟩)) (by simp [execOp, Act.eval, e28, go_sem]) rfl
        · intro aa ww hA K hK
          refine guarded2 (s := sv (.string (y))) rfl rfl (hA.got 6 24 (by kernel_rfl)) hK fun hB hK => ?_
          have hj1 : 0 < j := HPOS.out _ hB
          have e29 : aa.tmps.getD 29 undef = .pointer (some ⟨b, off + jm * 4, none⟩) := (hA.got 11 29 (by kernel_rfl)).1 hB
          have k9 := (hA.bel.cell (p := ⟨b, off + jm * 4, none⟩) HBW.out).trans (HD9.out hj1)
          exact gives hK (v := .string y) (by simp [execOp, Act.eval, e29, k9, go_sem]) rfl
        · intro aa ww hA K hK
          refine guarded2 (s := sv (.pointer (some ⟨wr.heap.size, 0, none⟩))) rfl rfl (hA.got 6 24 (by kernel_rfl)) hK fun hB hK => ?_
          have e6 : aa.tmps.getD 6 undef = .pointer (some ⟨wr.heap.size, 0, none⟩) := hA.old 6 (by kernel_rfl)
          exact gives hK (v := .pointer (some ⟨wr.heap.size, 0, none⟩)) (by simp [execOp, Act.eval, e6, go_sem]) rfl
        · intro aa ww hA K hK
          refine guarded2 (s := sv (.string (z.label))) rfl rfl (hA.got 6 24 (by kernel_rfl)) hK fun hB hK => ?_
          have e31 : aa.tmps.getD 31 undef = .pointer (some ⟨wr.heap.size, 0, none⟩) := (hA.got 13 31 (by kernel_rfl)).1 hB
          have k0 := (hA.bel.cell (p := ⟨wr.heap.size, 0, none⟩) HKW.out).trans HD0.out
          exact gives hK (v := .string z.label) (by simp [execOp, Act.eval, e31, k0, go_sem]) rfl
        · intro aa ww hA K hK
          refine guarded2 (s := sv (.int .i64 (cmpS (y) (z.label)))) rfl rfl (hA.got 6 24 (by kernel_rfl)) hK fun hB hK => ?_
          have e30 : aa.tmps.getD 30 undef = .string (y) := (hA.got 12 30 (by kernel_rfl)).1 hB
          have e32 : aa.tmps.getD 32 undef = .string (z.label) := (hA.got 14 32 (by kernel_rfl)).1 hB
          refine calls hK (by simp [Act.eval, e30, e32, go_sem]) (iCompareLabels_any (y) (z.label) ww) ?_
          rintro e w1 ⟨rfl, rfl⟩
          exact ⟨_, rfl, (Below.refl _ _), rfl⟩
        · intro aa ww hA K hK
          refine guarded2 (s := sv (.bool (decide ((0 : Int) ≤ (cmpS (y) (z.label) : Int))))) rfl rfl (hA.got 6 24 (by kernel_rfl)) hK fun hB hK => ?_
          have e33 : aa.tmps.getD 33 undef = .int .i64 (cmpS (y) (z.label)) := (hA.got 15 33 (by kernel_rfl)).1 hB
          exact gives hK (v := .bool (decide ((0 : Int) ≤ (cmpS (y) (z.label) : Int)))) (by simp [execOp, Act.eval, e33, binOp, eqGuard, go_sem]) rfl
        · intro aa ww hA K hK
          refine guarded (s := sv (.bool ((z6) && (decide ((0 : Int) ≤ (cmpS (y) (z.label) : Int)))))) rfl rfl (hA.got 3 21 (by kernel_rfl)) hK fun hB hK => ?_
          have e24 : aa.tmps.getD 24 undef = .bool (z6) := (hA.got 6 24 (by kernel_rfl)).1 hB
          rcases hq : (z6) with _ | _
          · rw [hq] at e24
            exact gives hK (v := .bool false) (by simp [execOp, Act.eval, e24, asBool, go_sem]) (show Value.bool _ = .bool _ by rw [hq]; simp)
          · have ex : aa.tmps.getD 34 undef = .bool (decide ((0 : Int) ≤ (cmpS (y) (z.label) : Int))) := (hA.got 16 34 (by kernel_rfl)).1 (and_i hB (by rw [hq]; rfl))
            rw [hq] at e24
            exact gives hK (v := .bool (decide ((0 : Int) ≤ (cmpS (y) (z.label) : Int)))) (by simp [execOp, Act.eval, e24, ex, asBool, go_sem]) (show Value.bool _ = .bool _ by rw [hq]; simp)
        · intro aa ww hA K hK
          refine free rfl ?_
          have e21 : aa.tmps.getD 21 undef = .bool (z3) := hA.got 3 21 (by kernel_rfl)
          rcases hq : (z3) with _ | _
          · have ex : aa.tmps.getD 35 undef = .bool ((z6) && (decide ((0 : Int) ≤ (cmpS (y) (z.label) : Int)))) := (hA.got 17 35 (by kernel_rfl)).1 (by rw [hq]; rfl)
            rw [hq] at e21
            exact gives hK (v := .bool ((z6) && (decide ((0 : Int) ≤ (cmpS (y) (z.label) : Int))))) (by simp [execOp, Act.eval, e21, ex, asBool, go_sem]) (show Value.bool _ = .bool _ by rw [hq]; simp)
          · rw [hq] at e21
            exact gives hK (v := .bool true) (by simp [execOp, Act.eval, e21, asBool, go_sem]) (show Value.bool _ = .bool _ by rw [hq]; simp)
      · intro a1 w1 hb hd hsz hold hgot
        have g36 : a1.tmps.getD 36 undef = .bool ((z3) || ((z6) && (decide ((0 : Int) ≤ (cmpS (y) (z.label) : Int))))) := hgot 18 36 (by kernel_rfl)
        have ea := act_put hd hsz hold [18, 19, 20, 21, 22, 23, 24, 25, 26, 27, 28, 29, 30, 31, 32, 33, 34, 35, 36] rfl
        simp only [List.foldl_cons, List.foldl_nil, g36] at ea
        rename_i K9 hK9
        refine hK9 a1 w1 ?_
        generalize a1.tmps.getD 18 undef = v18 at ea
        generalize a1.tmps.getD 19 undef = v19 at ea
        generalize a1.tmps.getD 20 undef = v20 at ea
        generalize a1.tmps.getD 21 undef = v21 at ea
        generalize a1.tmps.getD 22 undef = v22 at ea
        generalize a1.tmps.getD 23 undef = v23 at ea
        generalize a1.tmps.getD 24 undef = v24 at ea
        generalize a1.tmps.getD 25 undef = v25 at ea
        generalize a1.tmps.getD 26 undef = v26 at ea
        generalize a1.tmps.getD 27 undef = v27 at ea
        generalize a1.tmps.getD 28 undef = v28 at ea
        generalize a1.tmps.getD 29 undef = v29 at ea
        generalize a1.tmps.getD 30 undef = v30 at ea
        generalize a1.tmps.getD 31 undef = v31 at ea
        generalize a1.tmps.getD 32 undef = v32 at ea
        generalize a1.tmps.getD 33 undef = v33 at ea
        generalize a1.tmps.getD 34 undef = v34 at ea
        generalize a1.tmps.getD 35 undef = v35 at ea
        clear hgot hold hsz hd g36
        simp only [Act.put, List.setIfInBounds_toArray, List.set_cons_succ, List.set_cons_zero] at ea
        subst ea
        have HX9 := Lib.hid (HXD.out.trans (hb.mono HXD.out.size))
        have HM9 := Lib.hid (HMA.out.below hb HMA.out.lt)
        have HR9 := Lib.hid (REntry.keep HRD0.out fun i hi => (HX9.out.block i hi).trans (HX.out.block i hi).symm)
        have e0 := (hb.cell (p := ⟨wr.heap.size, 0, none⟩) HKW.out).trans HD0.out
        have e1 := (hb.cell (p := ⟨wr.heap.size, 1, none⟩) HKW.out).trans HD1.out
        have e2 := (hb.cell (p := ⟨wr.heap.size, 2, none⟩) HKW.out).trans HD2.out
        have e3 := (hb.cell (p := ⟨wr.heap.size, 3, none⟩) HKW.out).trans HD3.out
        clear hb
        cases hv : okE l j with
        | false =>
          rw [show ((z3) || ((z6) && (decide ((0 : Int) ≤ (cmpS (y) (z.label) : Int))))) = true from by rw [Hz3.out, Hz6.out, okc _ _ _ (cmpS_range _ _), ← HOK.out, hv]; rfl]
          have HF := Lib.hid (areE_bad (by rw [HL.out]; exact hjn) hv)
          clear hv e0 e1 e2 e3
          go_wp2
          go_ret2
          exact ⟨none, by rw [HF.out]; rfl, HX9.out, fun h => by rw [HF.out] at h; cases h⟩
        | true =>
          rw [show ((z3) || ((z6) && (decide ((0 : Int) ≤ (cmpS (y) (z.label) : Int))))) = false from by rw [Hz3.out, Hz6.out, okc _ _ _ (cmpS_range _ _), ← HOK.out, hv]; rfl]
          have HF := Lib.hid (show ∀ k, k < j + 1 → okE l k = true from fun k hk => by
            rcases Nat.lt_or_ge k j with h1 | h1
            · exact HB.out k h1
            · obtain rfl : k = j := by omega
              exact hv)
          have HLS := Lib.hid (show lessE (l.take j) z.label = l.take j from less_last (by rw [← HSN.out]; exact take_are (by rw [HL.out]; omega) HN.out HF.out))
          have HLT := Lib.hid (show (l.take j).length < maxLen from by rw [List.length_take]; have := HN.out; unfold maxLen; omega)
          clear hv
          go_wp2_with (at_mapUpdate; refine wp_put (z := z) (cs := [.string z.label, .int .i64 z.kind, .int .i64 z.value, .slice A3 n3 c3]) rfl _ _ _ rfl rfl rfl rfl HM9.out HR9.out HG0.out HLT.out ?_; intro w4 hm4 ht4; have HM4 := Lib.hid hm4; have HX4 := Lib.hid (HX9.out.grown ht4.grown HX9.out.size fun k hk => by cases hk; exact Nat.le_refl _); clear hm4 ht4)
          go_wp2
          go_roundw
          case rel => exact ⟨j + 1, by omega, by go_num, HX4.out, HF.out, by rw [HSN.out]; have h := HM4.out; rw [HLS.out] at h; exact h⟩
          case measure => simp [intOf]; omega
    · obtain rfl : j = n := by omega
      have HF := Lib.hid (show areE l = true from by rw [areE_all (l := l) fun k hk => HB.out k (by have := HL.out; omega)]; exact decide_eq_true HN.out)
      rw [List.take_of_length_le (by rw [HL.out]; omega)] at HM
      go_wp2
      go_ret2
      exact ⟨some w.heap.size, by rw [HF.out]; rfl, HX.out, fun _ => ⟨rfl, HM.out⟩⟩
theorem iAreEntries_any (A : Option Addr) (n c : Nat) (l : List Entry) (w : World) (h : FRdEntry w w.heap.size A n l) (hn : totR totEntry l ≤ 1099511627776) :
    Calls Tryz.prog 34 #[.slice A n c] w fun e w' => e = .returned (.bool (areE l)) ∧ Below w.heap.size w w' := by
  have HK := Lib.hid (icontentsOf_any A n c l w h hn)
  clear h hn
  generalize areE l = r at HK ⊢
  go_enter Tryz.func34, Tryz.ntmps34
  go_wp2_with fail
  refine HK.out.mono ?_
  rintro e w2 ⟨mb, rfl, hb, -⟩
  have HB := Lib.hid hb
  clear hb
  go_wp2
  go_ret
  exact ⟨rfl, HB.out⟩
end Go.Proofs.YthhmhcmlbpdlbaaGreat.C09I
