/- Chapter 9: contents of zones, what the model's functions return. Chapter 9: contents of zones (PutEntry), what the model's functions return. -/
import Derived.Test.YtbhhifoofapgiaaGreatC08S
import Derived.Test.YtbhhifoofapgiaaGreatC05S
import Derived.Test.YtbhhifoofapgiaaGreatM09
import Derived.Test.YtbhhifoofapgiaaGreatRKA
import Derived.Deep.RegionWith
import Derived.Deep.RegionLaw
import Derived.BigQuiet
import Derived.Deep.QuietTactic
namespace Go.Proofs.YtbhhifoofapgiaaGreat.C09S
open Go.RowKit Mem MemS M02 M04 M05 M08 M09 C01 C02 C04S C04I C08S Rep RepA RW R08 Q08 RG RGS
set_option linter.unusedVariables false
set_option maxRecDepth 100000
theorem okb (e : Bool) (j : Nat) (cm : Int) : ((!e) || (decide ((0 : Int) < (j : Int)) && ((cm : Int) != (-1 : Int)))) = !(e && (decide (j = 0) || decide (cm = -1))) := by
  have h : decide ((0 : Int) < (j : Int)) = !decide (j = 0) := by by_cases h0 : j = 0 <;> simp [h0] <;> omega
  rw [h]
  cases e <;> by_cases h0 : j = 0 <;> by_cases h9 : cm = -1 <;> simp [h0, h9, bne]
theorem sFindEntry_any (A : Option Addr) (n c : Nat) (l : List Entry) (s : ByteArray) (w : World) (h : FRdEntry w w.heap.size A n l) (hn : n ≤ 1099511627776) :
    Calls Tryz.prog 22 #[.slice A n c, .string s] w fun e w' => e = .returned (.int .i64 (fndE l s)) ∧ w = w' := by
  have HL := Lib.hid h.len
  have HR := Lib.hid h
  clear h
  go_enter Tryz.func22, Tryz.ntmps22
  go_wp2
  go_loop [5] (fun i => ∃ j : Nat, j ≤ n ∧ i = .int .i64 j ∧ ∀ k, k < j → (at0 l k).label ≠ s) (fun i => n - (intOf i).toNat)
  case atStart => exact ⟨0, by omega, rfl, fun k hk => absurd hk (by omega)⟩
  case round =>
    obtain ⟨j, hj, rfl, hb⟩ := hrel
    have HB := Lib.hid hb
    clear hb
    by_cases hjn : j < n
    · obtain ⟨b, off, cs, rfl, hlt, hrd, hcc⟩ := HR.out.at hjn
      obtain ⟨A3, n3, c3, rfl, g0, g1, g2, p3, q3, s3⟩ := REntry_rd.1 hrd
      have d0 : w.cell? ⟨b, off + j * 4, none⟩ = some (.string (at0 l j).label) := hcc 0 (by decide)
      clear hcc hrd g0 g1 g2 p3 q3 s3
      by_cases hs : (at0 l j).label = s
      · have HF := Lib.hid (fndE_hit (by rw [HL.out]; exact hjn) HB.out hs)
        rw [hs] at d0
        clear hs
        go_wp2
        go_ret
        exact ⟨by rw [HF.out]; rfl, rfl⟩
      · have HS := Lib.hid hs
        have hb : ((at0 l j).label.toList == s.toList) = false := by rw [toList_beq, decide_eq_false hs]
        generalize hx : (at0 l j).label = x at d0 hb HS
        have HX := Lib.hid hx
        clear hx
        clear hs
        go_wp2
        go_round
        case rel => exact ⟨j + 1, by omega, by go_num, fun k hk => by
          rcases Nat.lt_or_ge k j with h1 | h1
          · exact HB.out k h1
          · obtain rfl : k = j := by omega
            rw [HX.out]
            exact HS.out⟩
        case measure => simp [intOf]; omega
    · have HF := Lib.hid (fndE_miss (l := l) (s := s) fun k hk => HB.out k (by have := HL.out; omega))
      go_wp2
      go_ret
      exact ⟨by rw [HF.out]; rfl, rfl⟩
set_option maxHeartbeats 4000000 in
theorem sAreEntries_any (A : Option Addr) (n c : Nat) (l : List Entry) (w : World) (h : FRdEntry w w.heap.size A n l) (hn : totR totEntry l ≤ 1099511627776) :
    Calls Tryz.prog 20 #[.slice A n c] w fun e w' => e = .returned (.bool (areE l)) ∧ Below w.heap.size w w' := by
  have HL := Lib.hid h.len
  have HT := Lib.hid hn
  have hn2 : n ≤ 1099511627776 := by have := totR_len totEntry l; have := h.len; omega
  have HR := Lib.hid h
  clear h hn
  go_enter Tryz.func20, Tryz.ntmps20
  go_wp2
  go_loopw [3] (fun i wr => ∃ j : Nat, j ≤ n ∧ i = .int .i64 j ∧ Below w.heap.size w wr ∧ ∀ k, k < j → okE l k = true) (fun i _ => n - (intOf i).toNat)
  case atStart => exact ⟨0, by omega, rfl, Below.refl _ _, fun k hk => absurd hk (by omega)⟩
  case round =>
    obtain ⟨j, hj, rfl, hbel, hok⟩ := hrel
    have HX := Lib.hid hbel
    have HB := Lib.hid hok
    clear hbel hok
    by_cases hjn : j < n
    · obtain ⟨jm, hjm⟩ : ∃ jm, jm = j - 1 := ⟨_, rfl⟩
      have hprev : 0 < j → ∃ b off, A = some ⟨b, off, none⟩ ∧ wr.drew.cell? ⟨b, off + jm * 4, none⟩ = some (.string (at0 l jm).label) := fun h0 => by
        obtain ⟨b, off, cs, rfl, hlt, hrd, hcc⟩ := (HR.out.below HX.out (Nat.le_refl _)).at (show jm < n by omega)
        obtain ⟨A3, n3, c3, rfl, _⟩ := REntry_rd.1 hrd
        exact ⟨b, off, rfl, hcc 0 (by decide)⟩
      obtain ⟨b, off, cs, rfl, hlt, hrd, hcc⟩ := (HR.out.below HX.out (Nat.le_refl _)).at hjn
      obtain ⟨z, hz⟩ : ∃ z, z = at0 l j := ⟨_, rfl⟩
      rw [show l.getD j default = z from hz.symm] at hrd
      have htz : totEntry z ≤ totR totEntry l := by rw [hz]; exact totR_mem totEntry (by rw [HL.out]; exact hjn)
      have hrd2 := REntry.more hrd fun i hi => Nat.lt_of_lt_of_le hi HX.out.size
      obtain ⟨A3, n3, c3, rfl, g0, g1, g2, p3, q3, s3⟩ := REntry_rd.1 hrd
      have d0 : wr.drew.cell? ⟨b, off + j * 4, none⟩ = some (.string z.label) := hcc 0 (by decide)
      have d1 : wr.drew.cell? ⟨b, off + j * 4 + 1, none⟩ = some (.int .i64 z.kind) := hcc 1 (by decide)
      have d2 : wr.drew.cell? ⟨b, off + j * 4 + 2, none⟩ = some (.int .i64 z.value) := hcc 2 (by decide)
      have d3 : wr.drew.cell? ⟨b, off + j * 4 + 3, none⟩ = some (.slice A3 n3 c3) := hcc 3 (by decide)
      have hpv : 0 < j → wr.drew.cell? ⟨b, off + jm * 4, none⟩ = some (.string (at0 l jm).label) := fun h0 => by
        obtain ⟨b', off', e, hc⟩ := hprev h0
        injection e with e
        injection e with e1 e2 _
        subst e1 e2
        exact hc
      have HOK := Lib.hid (show okE l j = (isEntry z && (decide (j = 0) || decide (cmpS (at0 l jm).label z.label = -1))) from by unfold okE; rw [hz, hjm])
      generalize (at0 l jm).label = y at hpv HOK
      have HD0 := Lib.hid d0
      have HD1 := Lib.hid d1
      have HD2 := Lib.hid d2
      have HD3 := Lib.hid d3
      have HD9 := Lib.hid hpv
      have HBW := Lib.hid (show b < wr.drew.heap.size from Nat.lt_of_lt_of_le hlt HX.out.size)
      have HRD := Lib.hid (show REntry.rd wr.drew (Lt wr.drew.heap.size) [.string z.label, .int .i64 z.kind, .int .i64 z.value, .slice A3 n3 c3] z from REntry.keep hrd2 fun i _ => rfl)
      have HTZ := Lib.hid (show totEntry z ≤ 1099511627776 from by have := HT.out; omega)
      have HJM := Lib.hid (fun (h : 0 < j) => show (j : Int) - 1 = (jm : Int) by omega)
      have HJN := Lib.hid (fun (h : 0 < j) => show (jm : Int) < n by omega)
      have hj2 : (j : Int) < n := by omega
      clear hcc hrd hrd2 hz htz g0 g1 g2 p3 q3 s3 d0 d1 d2 d3 hpv hprev hjm hlt
      go_wp2_with fail
      obtain ⟨z6, hz6⟩ : ∃ zz : Bool, zz = (!(isEntry z)) := ⟨_, rfl⟩
      have Hz6 := Lib.hid hz6
      clear hz6
      obtain ⟨z9, hz9⟩ : ∃ zz : Bool, zz = (decide ((0 : Int) < ((j : Int) : Int))) := ⟨_, rfl⟩
      have Hz9 := Lib.hid hz9
      clear hz9
      have HPOS := Lib.hid (show ∀ (x : Bool), (x && (z9 == true)) = true → 0 < j from fun x h => by rw [Hz9.out, Bool.and_eq_true] at h; simpa using h.2)
      refine RG.region (tabP [sv (.slice (some ⟨b, off, none⟩) n c), sv (.int .i64 ((j : Int))), sv (.pointer (some ⟨b, off + j * 4, none⟩)), sv (.agg #[.string z.label, .int .i64 z.kind, .int .i64 z.value, .slice A3 n3 c3]), sv (.bool (isEntry z)), sv (.bool (!(isEntry z))), sv (.bool (z6)), swhen (z6 == false) (sv (.int .i64 ((j : Int)))), swhen (z6 == false) (sv (.bool (decide ((0 : Int) < ((j : Int) : Int))))), swhen (z6 == false) (sv (.bool (z9))), swhen ((z6 == false) && (z9 == true)) (sv (.slice (some ⟨b, off, none⟩) n c)), swhen ((z6 == false) && (z9 == true)) (sv (.int .i64 ((j : Int)))), swhen ((z6 == false) && (z9 == true)) (sv (.int .i64 ((jm : Int)))), swhen ((z6 == false) && (z9 == true)) (sv (.pointer (some ⟨b, off + jm * 4, none⟩))), swhen ((z6 == false) && (z9 == true)) (sv (.pointer (some ⟨b, off + jm * 4, none⟩))), swhen ((z6 == false) && (z9 == true)) (sv (.string (y))), swhen ((z6 == false) && (z9 == true)) (sv (.slice (some ⟨b, off, none⟩) n c)), swhen ((z6 == false) && (z9 == true)) (sv (.int .i64 ((j : Int)))), swhen ((z6 == false) && (z9 == true)) (sv (.pointer (some ⟨b, off + j * 4, none⟩))), swhen ((z6 == false) && (z9 == true)) (sv (.pointer (some ⟨b, off + j * 4, none⟩))), swhen ((z6 == false) && (z9 == true)) (sv (.string (z.label))), swhen ((z6 == false) && (z9 == true)) (sv (.int .i64 (cmpS (y) (z.label)))), swhen ((z6 == false) && (z9 == true)) (sv (.bool ((cmpS (y) (z.label) : Int) != (-1 : Int)))), swhen (z6 == false) (sv (.bool ((z9) && ((cmpS (y) (z.label) : Int) != (-1 : Int))))), sv (.bool ((z6) || ((z9) && ((cmpS (y) (z.label) : Int) != (-1 : Int)))))]) (by kernel_rfl) (by kernel_rfl) (tab_keep _) ?_ ?_
      · refine steps_cons ?_ (steps_cons ?_ (steps_cons ?_ (steps_cons ?_ (steps_cons ?_ (steps_cons ?_ (steps_cons ?_ (steps_cons ?_ (steps_cons ?_ (steps_cons ?_ (steps_cons ?_ (steps_cons ?_ (steps_cons ?_ (steps_cons ?_ (steps_cons ?_ (steps_cons ?_ (steps_cons ?_ (steps_cons ?_ (steps_cons ?_ (steps_cons ?_ (steps_cons ?_ (steps_cons ?_ (steps_cons ?_ (steps_cons ?_ (steps_cons ?_ (steps_nil)))))))))))))))))))))))))
        · intro aa ww hA K hK
          refine free rfl ?_
          exact gives hK rfl (hA.old 0 (by kernel_rfl))
        · intro aa ww hA K hK
          refine free rfl ?_
          exact gives hK rfl (hA.old 3 (by kernel_rfl))
        · intro aa ww hA K hK
          refine free rfl ?_
          have e10 : aa.tmps.getD 10 undef = .slice (some ⟨b, off, none⟩) n c := hA.got 0 10 (by kernel_rfl)
          have e11 : aa.tmps.getD 11 undef = .int .i64 ((j : Int)) := hA.got 1 11 (by kernel_rfl)
          exact gives hK (v := .pointer (some ⟨b, off + j * 4, none⟩)) (by simp [execOp, Act.eval, e10, e11, go_sem, hj2]) rfl
        · intro aa ww hA K hK
          refine free rfl ?_
          have e12 : aa.tmps.getD 12 undef = .pointer (some ⟨b, off + j * 4, none⟩) := hA.got 2 12 (by kernel_rfl)
          have k0 := (hA.bel.cell (p := ⟨b, off + j * 4, none⟩) HBW.out).trans HD0.out
          have k1 := (hA.bel.cell (p := ⟨b, off + j * 4 + 1, none⟩) HBW.out).trans HD1.out
          have k2 := (hA.bel.cell (p := ⟨b, off + j * 4 + 2, none⟩) HBW.out).trans HD2.out
          have k3 := (hA.bel.cell (p := ⟨b, off + j * 4 + 3, none⟩) HBW.out).trans HD3.out
          exact gives hK (v := .agg #[.string z.label, .int .i64 z.kind, .int .i64 z.value, .slice A3 n3 c3]) (by simp [execOp, Act.eval, e12, k0, k1, k2, k3, go_sem]) rfl
        · intro aa ww hA K hK
          refine free rfl ?_
          have e13 : aa.tmps.getD 13 undef = .agg #[.string z.label, .int .i64 z.kind, .int .i64 z.value, .slice A3 n3 c3] := hA.got 3 13 (by kernel_rfl)
          refine calls hK (by simp [Act.eval, e13, go_sem]) (sIsEntry_any _ z ww (REntry.more (REntry.keep HRD.out fun i hi => hA.bel.block i hi) fun i hi => Nat.lt_of_lt_of_le hi hA.bel.size) HTZ.out) ?_
          rintro e w1 ⟨rfl, hb⟩
          exact ⟨_, rfl, hb, rfl⟩
        · intro aa ww hA K hK
          refine free rfl ?_
          have e14 : aa.tmps.getD 14 undef = .bool (isEntry z) := hA.got 4 14 (by kernel_rfl)
          exact gives hK (v := .bool (!(isEntry z))) (by simp [execOp, Act.eval, e14, Op.unary, go_sem]) rfl
        · intro aa ww hA K hK
          refine free rfl ?_
          have e15 : aa.tmps.getD 15 undef = .bool (!(isEntry z)) := hA.got 5 15 (by kernel_rfl)
          exact gives hK rfl (show aa.tmps.getD 15 undef = .bool z6 from by rw [e15, Hz6.out])
        · intro aa ww hA K hK
          refine guarded (s := sv (.int .i64 ((j : Int)))) rfl rfl (hA.got 6 16 (by kernel_rfl)) hK fun hB hK => ?_
          exact gives hK rfl (hA.old 3 (by kernel_rfl))
        · intro aa ww hA K hK
          refine guarded (s := sv (.bool (decide ((0 : Int) < ((j : Int) : Int))))) rfl rfl (hA.got 6 16 (by kernel_rfl)) hK fun hB hK => ?_
          have e17 : aa.tmps.getD 17 undef = .int .i64 ((j : Int)) := (hA.got 7 17 (by kernel_rfl)).1 hB
          exact gives hK (v := .bool (decide ((0 : Int) < ((j : Int) : Int)))) (by simp [execOp, Act.eval, e17, binOp, eqGuard, go_sem]) rfl
        · intro aa ww hA K hK
          refine guarded (s := sv (.bool (z9))) rfl rfl (hA.got 6 16 (by kernel_rfl)) hK fun hB hK => ?_
          have e18 : aa.tmps.getD 18 undef = .bool (decide ((0 : Int) < ((j : Int) : Int))) := (hA.got 8 18 (by kernel_rfl)).1 hB
          exact gives hK rfl (show aa.tmps.getD 18 undef = .bool z9 from by rw [e18, Hz9.out])
        · intro aa ww hA K hK
          refine guarded2 (s := sv (.slice (some ⟨b, off, none⟩) n c)) rfl rfl (hA.got 9 19 (by kernel_rfl)) hK fun hB hK => ?_
          exact gives hK rfl (hA.old 0 (by kernel_rfl))
        · intro aa ww hA K hK
          refine guarded2 (s := sv (.int .i64 ((j : Int)))) rfl rfl (hA.got 9 19 (by kernel_rfl)) hK fun hB hK => ?_
          exact gives hK rfl (hA.old 3 (by kernel_rfl))
        · intro aa ww hA K hK
          refine guarded2 (s := sv (.int .i64 ((jm : Int)))) rfl rfl (hA.got 9 19 (by kernel_rfl)) hK fun hB hK => ?_
          have e21 : aa.tmps.getD 21 undef = .int .i64 ((j : Int)) := (hA.got 11 21 (by kernel_rfl)).1 hB
          have hj1 : 0 < j := HPOS.out _ hB
          have hjm := HJM.out hj1
          exact gives hK (v := .int .i64 ((jm : Int))) (by simp [execOp, Act.eval, e21, binOp, eqGuard, go_sem]; rw [hjm, IntKind.wrap_i64]; have := HJN.out hj1; omega) rfl
        · intro aa ww hA K hK
          refine guarded2 (s := sv (.pointer (some ⟨b, off + jm * 4, none⟩))) rfl rfl (hA.got 9 19 (by kernel_rfl)) hK fun hB hK => ?_
          have hj1 : 0 < j := HPOS.out _ hB
          have hjm2 := HJN.out hj1
          have e20 : aa.tmps.getD 20 undef = .slice (some ⟨b, off, none⟩) n c := (hA.got 10 20 (by kernel_rfl)).1 hB
          have e22 : aa.tmps.getD 22 undef = .int .i64 ((jm : Int)) := (hA.got 12 22 (by kernel_rfl)).1 hB
          exact gives hK (v := .pointer (some ⟨b, off + jm * 4, none⟩)) (by simp [execOp, Act.eval, e20, e22, go_sem, hjm2]) rfl
        · intro aa ww hA K hK
          refine guarded2 (s := sv (.pointer (some ⟨b, off + jm * 4, none⟩))) rfl rfl (hA.got 9 19 (by kernel_rfl)) hK fun hB hK => ?_
          have e23 : aa.tmps.getD 23 undef = .pointer (some ⟨b, off + jm * 4, none⟩) := (hA.got 13 23 (by kernel_rfl)).1 hB
          exact gives hK (v := .pointer (some ⟨b, off + jm * 4, none⟩)) (by simp [execOp, Act.eval, e23, go_sem]) rfl
        · intro aa ww hA K hK
          refine guarded2 (s := sv (.string (y))) rfl rfl (hA.got 9 19 (by kernel_rfl)) hK fun hB hK => ?_
          have hj1 : 0 < j := HPOS.out _ hB
          have e24 : aa.tmps.getD 24 undef = .pointer (some ⟨b, off + jm * 4, none⟩) := (hA.got 14 24 (by kernel_rfl)).1 hB
          have k9 := (hA.bel.cell (p := ⟨b, off + jm * 4, none⟩) HBW.out).trans (HD9.out hj1)
          exact gives hK (v := .string y) (by simp [execOp, Act.eval, e24, k9, go_sem]) rfl
        · intro aa ww hA K hK
          refine guarded2 (s := sv (.slice (some ⟨b, off, none⟩) n c)) rfl rfl (hA.got 9 19 (by kernel_rfl)) hK fun hB hK => ?_
          exact gives hK rfl (hA.old 0 (by kernel_rfl))
        · intro aa ww hA K hK
          refine guarded2 (s := sv (.int .i64 ((j : Int)))) rfl rfl (hA.got 9 19 (by kernel_rfl)) hK fun hB hK => ?_
          exact gives hK rfl (hA.old 3 (by kernel_rfl))
        · intro aa ww hA K hK
          refine guarded2 (s := sv (.pointer (some ⟨b, off + j * 4, none⟩))) rfl rfl (hA.got 9 19 (by kernel_rfl)) hK fun hB hK => ?_
          have e26 : aa.tmps.getD 26 undef = .slice (some ⟨b, off, none⟩) n c := (hA.got 16 26 (by kernel_rfl)).1 hB
          have e27 : aa.tmps.getD 27 undef = .int .i64 ((j : Int)) := (hA.got 17 27 (by kernel_rfl)).1 hB
          exact gives hK (v := .pointer (some ⟨b, off + j * 4, none⟩)) (by simp [execOp, Act.eval, e26, e27, go_sem, hj2]) rfl
        · intro aa ww hA K hK
          refine guarded2 (s := sv (.pointer (some ⟨b, off + j * 4, none⟩))) rfl rfl (hA.got 9 19 (by kernel_rfl)) hK fun hB hK => ?_
          have e28 : aa.tmps.getD 28 undef = .pointer (some ⟨b, off + j * 4, none⟩) := (hA.got 18 28 (by kernel_rfl)).1 hB
          exact gives hK (v := .pointer (some ⟨b, off + j * 4, none⟩)) (by simp [execOp, Act.eval, e28, go_sem]) rfl
        · intro aa ww hA K hK
          refine guarded2 (s := sv (.string (z.label))) rfl rfl (hA.got 9 19 (by kernel_rfl)) hK fun hB hK => ?_
          have e29 : aa.tmps.getD 29 undef = .pointer (some ⟨b, off + j * 4, none⟩) := (hA.got 19 29 (by kernel_rfl)).1 hB
          have k0 := (hA.bel.cell (p := ⟨b, off + j * 4, none⟩) HBW.out).trans HD0.out
          exact gives hK (v := .string z.label) (by simp [execOp, Act.eval, e29, k0, go_sem]) rfl
        · intro aa ww hA K hK
          refine guarded2 (s := sv (.int .i64 (cmpS (y) (z.label)))) rfl rfl (hA.got 9 19 (by kernel_rfl)) hK fun hB hK => ?_
          have e25 : aa.tmps.getD 25 undef = .string (y) := (hA.got 15 25 (by kernel_rfl)).1 hB
          have e30 : aa.tmps.getD 30 undef = .string (z.label) := (hA.got 20 30 (by kernel_rfl)).1 hB
          refine calls hK (by simp [Act.eval, e25, e30, go_sem]) (sCompareLabels_any (y) (z.label) ww) ?_
          rintro e w1 ⟨rfl, rfl⟩
          exact ⟨_, rfl, (Below.refl _ _), rfl⟩
        · intro aa ww hA K hK
          refine guarded2 (s := sv (.bool ((cmpS (y) (z.label) : Int) != (-1 : Int)))) rfl rfl (hA.got 9 19 (by kernel_rfl)) hK fun hB hK => ?_
          have e31 : aa.tmps.getD 31 undef = .int .i64 (cmpS (y) (z.label)) := (hA.got 21 31 (by kernel_rfl)).1 hB
          exact gives hK (v := .bool ((cmpS (y) (z.label) : Int) != (-1 : Int))) (by simp [execOp, Act.eval, e31, binOp, eqGuard, go_sem]) rfl
        · intro aa ww hA K hK
          refine guarded (s := sv (.bool ((z9) && ((cmpS (y) (z.label) : Int) != (-1 : Int))))) rfl rfl (hA.got 6 16 (by kernel_rfl)) hK fun hB hK => ?_
          have e19 : aa.tmps.getD 19 undef = .bool (z9) := (hA.got 9 19 (by kernel_rfl)).1 hB
          rcases hq : (z9) with _ | _
          · rw [hq] at e19
            exact gives hK (v := .bool false) (by simp [execOp, Act.eval, e19, asBool, go_sem]) (show Value.bool _ = .bool _ by rw [hq]; simp)
          · have ex : aa.tmps.getD 32 undef = .bool ((cmpS (y) (z.label) : Int) != (-1 : Int)) := (hA.got 22 32 (by kernel_rfl)).1 (and_i hB (by rw [hq]; rfl))
            rw [hq] at e19
            exact gives hK (v := .bool ((cmpS (y) (z.label) : Int) != (-1 : Int))) (by simp [execOp, Act.eval, e19, ex, asBool, go_sem]) (show Value.bool _ = .bool _ by rw [hq]; simp)
        · intro aa ww hA K hK
          refine free rfl ?_
          have e16 : aa.tmps.getD 16 undef = .bool (z6) := hA.got 6 16 (by kernel_rfl)
          rcases hq : (z6) with _ | _
          · have ex : aa.tmps.getD 33 undef = .bool ((z9) && ((cmpS (y) (z.label) : Int) != (-1 : Int))) := (hA.got 23 33 (by kernel_rfl)).1 (by rw [hq]; rfl)
            rw [hq] at e16
            exact gives hK (v := .bool ((z9) && ((cmpS (y) (z.label) : Int) != (-1 : Int)))) (by simp [execOp, Act.eval, e16, ex, asBool, go_sem]) (show Value.bool _ = .bool _ by rw [hq]; simp)
          · rw [hq] at e16
            exact gives hK (v := .bool true) (by simp [execOp, Act.eval, e16, asBool, go_sem]) (show Value.bool _ = .bool _ by rw [hq]; simp)
      · intro a1 w1 hb hd hsz hold hgot
        have g34 : a1.tmps.getD 34 undef = .bool ((z6) || ((z9) && ((cmpS (y) (z.label) : Int) != (-1 : Int)))) := hgot 24 34 (by kernel_rfl)
        have ea := act_put hd hsz hold [10, 11, 12, 13, 14, 15, 16, 17, 18, 19, 20, 21, 22, 23, 24, 25, 26, 27, 28, 29, 30, 31, 32, 33, 34] rfl
        simp only [List.foldl_cons, List.foldl_nil, g34] at ea
        rename_i K9 hK9
        refine hK9 a1 w1 ?_
        generalize a1.tmps.getD 10 undef = v10 at ea
        generalize a1.tmps.getD 11 undef = v11 at ea
        generalize a1.tmps.getD 12 undef = v12 at ea
        generalize a1.tmps.getD 13 undef = v13 at ea
        generalize a1.tmps.getD 14 undef = v14 at ea
        generalize a1.tmps.getD 15 undef = v15 at ea
        generalize a1.tmps.getD 16 undef = v16 at ea
        generalize a1.tmps.getD 17 undef = v17 at ea
        generalize a1.tmps.getD 18 undef = v18 at ea
        generalize a1.tmps.getD 19 undef = v19 at ea
        generalize a1.tmps.getD 20 undef = v20 at ea
        generalize a1.tmps.getD 21 undef = v21 at ea
        generalize a1.tmps.getD 22 undef = v22 at ea
        generalize a1.tmps.getD 23 undef = v23 at ea
        generalize a1.tmps.getD 24 undef = v24 at ea
        generalize a1.tmps.getD 25 undef = v25 at ea
        generalize a1.tmps.getD 26 undef = v26 at ea
        generalize a1.tmps.getD 27 undef = v27 at ea
        generalize a1.tmps.getD 28 undef = v28 at ea
        generalize a1.tmps.getD 29 undef = v29 at ea
        generalize a1.tmps.getD 30 undef = v30 at ea
        generalize a1.tmps.getD 31 undef = v31 at ea
        generalize a1.tmps.getD 32 undef = v32 at ea
        generalize a1.tmps.getD 33 undef = v33 at ea
        clear hgot hold hsz hd g34
        simp only [Act.put, List.setIfInBounds_toArray, List.set_cons_succ, List.set_cons_zero] at ea
        subst ea
        have HX9 := Lib.hid (HX.out.trans ((T05.below_drew hb).mono HX.out.size))
        clear hb
        cases hv : okE l j with
        | false =>
          rw [show ((z6) || ((z9) && ((cmpS (y) (z.label) : Int) != (-1 : Int)))) = true from by rw [Hz6.out, Hz9.out, okb, ← HOK.out, hv]; rfl]
          have HF := Lib.hid (areE_bad (by rw [HL.out]; exact hjn) hv)
          clear hv
          go_wp2
          go_ret
          exact ⟨by rw [HF.out]; rfl, HX9.out⟩
        | true =>
          rw [show ((z6) || ((z9) && ((cmpS (y) (z.label) : Int) != (-1 : Int)))) = false from by rw [Hz6.out, Hz9.out, okb, ← HOK.out, hv]; rfl]
          have HF := Lib.hid hv
          clear hv
          go_wp2
          go_roundw
          case rel => exact ⟨j + 1, by omega, by go_num, HX9.out, fun k hk => by
            rcases Nat.lt_or_ge k j with h1 | h1
            · exact HB.out k h1
            · obtain rfl : k = j := by omega
              exact HF.out⟩
          case measure => simp [intOf]; omega
    · have HF := Lib.hid (areE_all (l := l) fun k hk => HB.out k (by have := HL.out; omega))
      have HLE := Lib.hid HL.out
      go_wp2
      go_ret
      exact ⟨by rw [HF.out, HLE.out]; simp; omega, HX.out⟩
theorem l9Copy_any (A : Option Addr) (n c : Nat) (l : List Entry) (w : World) (h : FRdEntry w w.heap.size A n l) (hn : totR totEntry l ≤ 34359738368) :
    Calls Tryz.prog 100 #[.slice A n c] w fun e w' => ∃ A' c', e = .returned (.slice A' n c') ∧ FOwnEntry w' w.heap.size w'.heap.size A' n c' l ∧ Below w.heap.size w w' := by
  have HL := Lib.hid h.len
  have HT := Lib.hid hn
  have hn2 : n ≤ 34359738368 := by have := totR_len totEntry l; have := h.len; omega
  have HR := Lib.hid h
  have HO := Lib.hid (Owns.lit0 (lo := w.heap.size) REntry w (Nat.le_refl _))
  have HB := Lib.hid ((Below.refl w.heap.size w).alloc (Nat.le_refl _) (.cells #[] 29))
  clear h hn
  go_enter Tryz.func100, Tryz.ntmps100
  go_wp2
  go_loopw [3, 4] (fun o i wr => ∃ (j : Nat) (A1 : Option Addr) (c1 : Nat), j ≤ n ∧ i = .int .i64 j ∧ o = .slice A1 j c1 ∧ FOwnEntry wr w.heap.size wr.heap.size A1 j c1 (l.take j) ∧ Below w.heap.size w wr) (fun _ i _ => n - (intOf i).toNat)
  case atStart => exact ⟨0, _, 0, by omega, rfl, rfl, by have h := HO.out.top; rw [show REntry.ty = 29 from rfl] at h; simpa using h, HB.out⟩
  case round =>
    obtain ⟨j, A1, c1, hj, rfl, rfl, hown, hbel⟩ := hrel
    have HX := Lib.hid hbel
    have HO1 := Lib.hid hown
    clear hbel hown
    by_cases hjn : j < n
    · obtain ⟨b, off, cs, rfl, hlt, hrd, hcc⟩ := (HR.out.below HX.out (Nat.le_refl _)).at hjn
      obtain ⟨z, hz⟩ : ∃ z, z = at0 l j := ⟨_, rfl⟩
      rw [show l.getD j default = z from hz.symm] at hrd
      have htz : totEntry z ≤ totR totEntry l := by rw [hz]; exact totR_mem totEntry (by rw [HL.out]; exact hjn)
      have hrd2 := REntry.more hrd fun i hi => Nat.lt_of_lt_of_le hi HX.out.size
      obtain ⟨A3, n3, c3, rfl, g0, g1, g2, p3, q3, s3⟩ := REntry_rd.1 hrd
      have d0 : wr.cell? ⟨b, off + j * 4, none⟩ = some (.string z.label) := hcc 0 (by decide)
      have d1 : wr.cell? ⟨b, off + j * 4 + 1, none⟩ = some (.int .i64 z.kind) := hcc 1 (by decide)
      have d2 : wr.cell? ⟨b, off + j * 4 + 2, none⟩ = some (.int .i64 z.value) := hcc 2 (by decide)
      have d3 : wr.cell? ⟨b, off + j * 4 + 3, none⟩ = some (.slice A3 n3 c3) := hcc 3 (by decide)
      have HSN := Lib.hid (show l.take (j + 1) = l.take j ++ [z] from by rw [hz]; exact take_snocE (by rw [HL.out]; exact hjn))
      have HK := Lib.hid (l8Copy_any [.string z.label, .int .i64 z.kind, .int .i64 z.value, .slice A3 n3 c3] z wr hrd2 (by have := HT.out; omega))
      clear hcc hrd hrd2 hz htz g0 g1 g2 p3 q3 s3 hlt
      obtain ⟨z0, z1, z2, z3⟩ := z
      simp only at d0 d1 d2 HK
      go_wp2_with fail
      refine HK.out.mono ?_
      rintro e w2 ⟨cs2, rfl, hown2, hb2⟩
      have HO2 := Lib.hid (HO1.out.below hb2 (Nat.le_refl _))
      have HZ2 := Lib.hid hown2
      have HX2 := Lib.hid (HX.out.trans (hb2.mono HX.out.size))
      have HS2 := Lib.hid hb2.size
      obtain ⟨Aa, na, ca, rfl, _⟩ := REntry_own.1 hown2
      clear hb2 hown2 d0 d1 d2 d3
      go_wp2_with (at_builtin; refine wp_pushR (st := 24) (mid := wr.heap.size) (hi := w2.heap.size) (lo := w.heap.size) REntry tiEntry rfl _ _ rfl rfl HO2.out rfl HZ2.out (by omega) HX.out.size HX2.out.size ?_; intro A4 c4 w4 hown4 hgr4)
      have HB4 := Lib.hid (HX2.out.trans (hgr4.below HX2.out.size HO2.out.ge))
      have HO4 := Lib.hid hown4
      clear hown4 hgr4
      go_wp2
      go_roundw
      case rel => exact ⟨j + 1, A4, c4, by omega, by go_num, rfl, by rw [HSN.out]; exact HO4.out, HB4.out⟩
      case measure => simp [intOf]; omega
    · obtain rfl : j = n := by omega
      rw [List.take_of_length_le (by rw [HL.out]; omega)] at HO1
      go_wp2
      go_ret
      exact ⟨A1, c1, rfl, HO1.out, HX.out⟩
end Go.Proofs.YtbhhifoofapgiaaGreat.C09S
namespace Go.Proofs.YtbhhifoofapgiaaGreat.C09SP
open Go.RowKit C09S Mem MemS M02 M04 M05 M08 M09 C01 C02 C04S C04I C08S Rep RepA RW R08 Q08 RG RGS
set_option linter.unusedVariables false
set_option maxRecDepth 100000
set_option maxHeartbeats 8000000 in
theorem sPutEntry_any (A : Option Addr) (n c : Nat) (l : List Entry) (cs : List Value) (x : Entry) (w : World) (h : FRdEntry w w.heap.size A n l) (h' : REntry.rd w (Lt w.heap.size) cs x) (hn : totR totEntry l ≤ 8589934592) (he : totEntry x ≤ 8589934592) :
    Calls Tryz.prog 70 #[.slice A n c, .agg cs.toArray] w fun e w' => ∃ A' c', e = .returned (.tuple #[.slice A' (putE l x).1.length c', .bool (putE l x).2]) ∧ FOwnEntry w' w.heap.size w'.heap.size A' (putE l x).1.length c' (putE l x).1 ∧ Below w.heap.size w w' := by
  obtain ⟨Ae, ne, ce, rfl, -⟩ := REntry_rd.1 h'
  obtain ⟨el, ek, ev, ep⟩ := x
  simp only at h' he ⊢
  have HL := Lib.hid h.len
  have HTL := Lib.hid hn
  have hn2 : n ≤ 8589934592 := by have := totR_len totEntry l; have := h.len; omega
  obtain ⟨V, hV⟩ : ∃ V, V = (w.alloc (.cells #[.string el, .int .i64 ek, .int .i64 ev, .slice Ae ne ce] 29)).alloc (.cells #[] 29) := ⟨_, rfl⟩
  have hX : Box V w.heap.size [.string el, .int .i64 ek, .int .i64 ev, .slice Ae ne ce] := by rw [hV]; exact (Box.new w #[.string el, .int .i64 ek, .int .i64 ev, .slice Ae ne ce] 29).alloc _
  have HB0 := Lib.hid (show Below w.heap.size w V by rw [hV]; exact ((Below.refl w.heap.size w).alloc (Nat.le_refl _) _).alloc (by simp) _)
  have HO0 := Lib.hid (show FOwnEntry V (w.heap.size + 1) V.heap.size (some ⟨w.heap.size + 1, 0, none⟩) 0 0 [] by
    have h := Owns.lit0 (lo := w.heap.size + 1) REntry (w.alloc (.cells #[.string el, .int .i64 ek, .int .i64 ev, .slice Ae ne ce] 29)) (by simp)
    rw [hV]
    rw [show REntry.ty = 29 from rfl] at h
    simpa using h)
  have HV1 := Lib.hid (show w.heap.size + 1 ≤ V.heap.size by rw [hV]; simp)
  have HV0 := Lib.hid (show w.heap.size ≤ V.heap.size by rw [hV]; simp; omega)
  have Xe0 := Lib.hid (hX.cell (j := 0) rfl)
  have Xe1 := Lib.hid (hX.cell (j := 1) rfl)
  have Xe2 := Lib.hid (hX.cell (j := 2) rfl)
  have Xe3 := Lib.hid (hX.cell (j := 3) rfl)
  have HH := Lib.hid (h.below HB0.out (Nat.le_refl _))
  have HRe := Lib.hid (show REntry.rd V (Lt w.heap.size) [.string el, .int .i64 ek, .int .i64 ev, .slice Ae ne ce] ⟨el, ek, ev, ep⟩ from REntry.keep h' fun i hi => HB0.out.block i hi)
  have HTe := Lib.hid (show totEntry ⟨el, ek, ev, ep⟩ ≤ 1099511627776 by omega)
  have HST := Lib.hid (fun j (hj : j < n) => putSt_step (e := ⟨el, ek, ev, ep⟩) (l := l) (j := j) (by rw [HL.out]; exact hj))
  have HLE := Lib.hid (fun j => putSt_len ⟨el, ek, ev, ep⟩ (l.take j))
  have HTA := Lib.hid (show totR totEntry (putAll ⟨el, ek, ev, ep⟩ l) ≤ 1099511627776 by have := putAll_tot ⟨el, ek, ev, ep⟩ l; omega)
  have HLA := Lib.hid (putAll_len ⟨el, ek, ev, ep⟩ l)
  have HAR := Lib.hid (fun w1 (hr : FRdEntry w1 w1.heap.size A n l) => sAreEntries_any A n c l w1 hr (by have := HTL.out; omega))
  have HCP := Lib.hid (fun w1 (hr : FRdEntry w1 w1.heap.size A n l) => l9Copy_any A n c l w1 hr (by have := HTL.out; omega))
  have HUP := Lib.hid (show ∀ w1, Below (w.heap.size + 1) V w1 → FRdEntry w1 w1.heap.size A n l from fun w1 hb => (HH.out.below hb (Nat.le_succ _)).more (Nat.le_trans HV0.out hb.size))
  have HVV := Lib.hid hV
  clear h h' hn he hX hV
  go_enter Tryz.func70, Tryz.ntmps70
  go_wp2
  rw [← HVV.out]
  go_loopw [6, 7, 8] (fun o d i wr => ∃ (j : Nat) (A1 : Option Addr) (c1 : Nat), j ≤ n ∧ o = .slice A1 (putSt ⟨el, ek, ev, ep⟩ (l.take j)).1.length c1 ∧ d = .bool (putSt ⟨el, ek, ev, ep⟩ (l.take j)).2 ∧ i = .int .i64 j ∧ FOwnEntry wr (w.heap.size + 1) wr.heap.size A1 (putSt ⟨el, ek, ev, ep⟩ (l.take j)).1.length c1 (putSt ⟨el, ek, ev, ep⟩ (l.take j)).1 ∧ Below (w.heap.size + 1) V wr) (fun _ _ i _ => n - (intOf i).toNat)
  case atStart => exact ⟨0, _, 0, by omega, rfl, rfl, rfl, HO0.out, Below.refl _ _⟩
  case round =>
    obtain ⟨j, A1, c1, hj, rfl, rfl, rfl, hown, hbel⟩ := hrel
    have HR := Lib.hid hbel
    have HO1 := Lib.hid hown
    clear hbel hown
    have hle := HLE.out j
    rw [List.length_take] at hle
    by_cases hjn : j < n
    · have hst := HST.out j hjn
      obtain ⟨b, off, cs, rfl, hlt, hrd, hcc⟩ := HH.out.at hjn
      obtain ⟨z, hz⟩ : ∃ z, z = at0 l j := ⟨_, rfl⟩
      rw [show l.getD j default = z from hz.symm] at hrd
      rw [← hz] at hst
      have htz : totEntry z ≤ totR totEntry l := by rw [hz]; exact totR_mem totEntry (by rw [HL.out]; exact hjn)
      have htz2 : totEntry z ≤ 1099511627776 := by have := HTL.out; omega
      obtain ⟨A3, n3, c3, rfl, -⟩ := REntry_rd.1 hrd
      have dz0 : V.cell? ⟨b, off + j * 4, none⟩ = some (.string z.label) := hcc 0 (by decide)
      have dz1 : V.cell? ⟨b, off + j * 4 + 1, none⟩ = some (.int .i64 z.kind) := hcc 1 (by decide)
      have dz2 : V.cell? ⟨b, off + j * 4 + 2, none⟩ = some (.int .i64 z.value) := hcc 2 (by decide)
      have dz3 : V.cell? ⟨b, off + j * 4 + 3, none⟩ = some (.slice A3 n3 c3) := hcc 3 (by decide)
      clear hcc hz htz
      obtain ⟨z0, z1, z2, z3⟩ := z
      simp only at dz0 dz1 dz2 dz3 hrd
      have Xz0 := Lib.hid dz0
      have Xz1 := Lib.hid dz1
      have Xz2 := Lib.hid dz2
      have Xz3 := Lib.hid dz3
      have HRz := Lib.hid hrd
      have HTz := Lib.hid htz2
      have HLT := Lib.hid hlt
      clear dz0 dz1 dz2 dz3 hrd htz2 hlt
      have hcv := cmpS_range z0 el
      have hK := fun w1 => sCompareLabels_any z0 el w1
      have hsp := fun o d => show putStep ⟨el, ek, ev, ep⟩ (o, d) ⟨z0, z1, z2, z3⟩ = ((o ++ (if decide (0 ≤ cmpS z0 el) && !d then [⟨el, ek, ev, ep⟩] else [])) ++ (if cmpS z0 el = 0 then [] else [⟨z0, z1, z2, z3⟩]), d || decide (0 ≤ cmpS z0 el)) from rfl
      generalize cmpS z0 el = cv at hcv hK hsp
      obtain ⟨⟨o, d⟩, hod⟩ : ∃ p, p = putSt ⟨el, ek, ev, ep⟩ (l.take j) := ⟨_, rfl⟩
      rw [← hod] at hst hle HO1 ⊢
      rw [hsp] at hst
      simp only at hle HO1 ⊢
      clear hod hsp
      have hol : o.length ≤ 8589934594 := by omega
      have x0 : wr.drew.cell? ⟨b, off + j * 4, none⟩ = some (.string z0) := (HR.out.cell (p := ⟨b, off + j * 4, none⟩) (Nat.lt_succ_of_lt HLT.out)).trans Xz0.out
      have x1 : wr.drew.cell? ⟨w.heap.size, 0, none⟩ = some (.string el) := (HR.out.cell (p := ⟨w.heap.size, 0, none⟩) (Nat.lt_succ_self _)).trans Xe0.out
      have HK := Lib.hid hK
      have HBd := Lib.hid (show Below (w.heap.size + 1) V wr.drew from HR.out.drew)
      have HOd := Lib.hid (show FOwnEntry wr.drew (w.heap.size + 1) wr.drew.heap.size A1 o.length c1 o from HO1.out.keep fun i _ _ _ => rfl)
      clear hK hle
      have HX0 := Lib.hid x0
      have HX1 := Lib.hid x1
      have HBW := Lib.hid (show b < wr.drew.heap.size from Nat.lt_of_lt_of_le HLT.out (Nat.le_trans HV0.out HR.out.size))
      have HBX := Lib.hid (show w.heap.size < wr.drew.heap.size from Nat.lt_of_lt_of_le (Nat.lt_succ_self _) (Nat.le_trans HV1.out HR.out.size))
      have hj2 : (j : Int) < n := by omega
      clear x0 x1
      go_wp2_with fail
      refine RG.region (tabP [sv (.slice (some ⟨b, off, none⟩) n c), sv (.int .i64 ((j : Int))), sv (.pointer (some ⟨b, off + j * 4, none⟩)), sv (.pointer (some ⟨b, off + j * 4, none⟩)), sv (.string (z0)), sv (.pointer (some ⟨w.heap.size, 0, none⟩)), sv (.string (el)), sv (.int .i64 (cv)), sv (.int .i64 (cv))]) (by kernel_rfl) (by kernel_rfl) (tab_keep _) ?_ ?_
      · refine steps_cons ?_ (steps_cons ?_ (steps_cons ?_ (steps_cons ?_ (steps_cons ?_ (steps_cons ?_ (steps_cons ?_ (steps_cons ?_ (steps_cons ?_ (steps_nil)))))))))
        · intro aa ww hA K hK
          refine free rfl ?_
          exact gives hK rfl (hA.old 0 (by kernel_rfl))
        · intro aa ww hA K hK
          refine free rfl ?_
          exact gives hK rfl (hA.old 8 (by kernel_rfl))
        · intro aa ww hA K hK
          refine free rfl ?_
          have e17 : aa.tmps.getD 17 undef = .slice (some ⟨b, off, none⟩) n c := hA.got 0 17 (by kernel_rfl)
          have e18 : aa.tmps.getD 18 undef = .int .i64 ((j : Int)) := hA.got 1 18 (by kernel_rfl)
          exact gives hK (v := .pointer (some ⟨b, off + j * 4, none⟩)) (by simp [execOp, Act.eval, e17, e18, go_sem, hj2]) rfl
        · intro aa ww hA K hK
          refine free rfl ?_
          have e19 : aa.tmps.getD 19 undef = .pointer (some ⟨b, off + j * 4, none⟩) := hA.got 2 19 (by kernel_rfl)
          exact gives hK (v := .pointer (some ⟨b, off + j * 4, none⟩)) (by simp [execOp, Act.eval, e19, go_sem]) rfl
        · intro aa ww hA K hK
          refine free rfl ?_
          have e20 : aa.tmps.getD 20 undef = .pointer (some ⟨b, off + j * 4, none⟩) := hA.got 3 20 (by kernel_rfl)
          have k0 := (hA.bel.cell (p := ⟨b, off + j * 4, none⟩) HBW.out).trans HX0.out
          exact gives hK (v := .string z0) (by simp [execOp, Act.eval, e20, k0, go_sem]) rfl
        · intro aa ww hA K hK
          refine free rfl ?_
          have e3 : aa.tmps.getD 3 undef = .pointer (some ⟨w.heap.size, 0, none⟩) := hA.old 3 (by kernel_rfl)
          exact gives hK (v := .pointer (some ⟨w.heap.size, 0, none⟩)) (by simp [execOp, Act.eval, e3, go_sem]) rfl
        · intro aa ww hA K hK
          refine free rfl ?_
          have e22 : aa.tmps.getD 22 undef = .pointer (some ⟨w.heap.size, 0, none⟩) := hA.got 5 22 (by kernel_rfl)
          have k1 := (hA.bel.cell (p := ⟨w.heap.size, 0, none⟩) HBX.out).trans HX1.out
          exact gives hK (v := .string el) (by simp [execOp, Act.eval, e22, k1, go_sem]) rfl
        · intro aa ww hA K hK
          refine free rfl ?_
          have e21 : aa.tmps.getD 21 undef = .string (z0) := hA.got 4 21 (by kernel_rfl)
          have e23 : aa.tmps.getD 23 undef = .string (el) := hA.got 6 23 (by kernel_rfl)
          refine calls hK (by simp [Act.eval, e21, e23, go_sem]) (HK.out ww) ?_
          rintro e w1 ⟨rfl, rfl⟩
          exact ⟨_, rfl, (Below.refl _ _), rfl⟩
        · intro aa ww hA K hK
          refine free rfl ?_
          exact gives hK rfl (hA.got 7 24 (by kernel_rfl))
      · intro a1 w1 hb hd hsz hold hgot
        have g9 : a1.tmps.getD 9 undef = .int .i64 (cv) := hgot 8 9 (by kernel_rfl)
        have ea := act_put hd hsz hold [17, 18, 19, 20, 21, 22, 23, 24, 9] rfl
        simp only [List.foldl_cons, List.foldl_nil, g9] at ea
        rename_i K9 hK9
        refine hK9 a1 w1 ?_
        generalize a1.tmps.getD 17 undef = v17 at ea
        generalize a1.tmps.getD 18 undef = v18 at ea
        generalize a1.tmps.getD 19 undef = v19 at ea
        generalize a1.tmps.getD 20 undef = v20 at ea
        generalize a1.tmps.getD 21 undef = v21 at ea
        generalize a1.tmps.getD 22 undef = v22 at ea
        generalize a1.tmps.getD 23 undef = v23 at ea
        generalize a1.tmps.getD 24 undef = v24 at ea
        clear hgot hold hsz hd g9
        simp only [Act.put, List.setIfInBounds_toArray, List.set_cons_succ, List.set_cons_zero] at ea
        subst ea
        have HBe := Lib.hid (HBd.out.trans (hb.mono (Nat.le_trans HV1.out HR.out.size)))
        have HOe := Lib.hid ((HOd.out.below hb (Nat.le_refl _)).wide (Nat.le_refl _) hb.size)
        clear hb
        have HST2 := Lib.hid hst
        clear hst
        rcases hcv with rfl | rfl | rfl
        · have HS := Lib.hid (show putSt ⟨el, ek, ev, ep⟩ (l.take (j + 1)) = (o ++ [⟨z0, z1, z2, z3⟩], d) from by rw [HST2.out]; simp)
          have ua0 : w1.cell? ⟨b, off + j * 4, none⟩ = some (.string z0) := (HBe.out.cell (p := ⟨b, off + j * 4, none⟩) (Nat.lt_succ_of_lt HLT.out)).trans Xz0.out
          have ua1 : w1.cell? ⟨b, off + j * 4 + 1, none⟩ = some (.int .i64 z1) := (HBe.out.cell (p := ⟨b, off + j * 4 + 1, none⟩) (Nat.lt_succ_of_lt HLT.out)).trans Xz1.out
          have ua2 : w1.cell? ⟨b, off + j * 4 + 2, none⟩ = some (.int .i64 z2) := (HBe.out.cell (p := ⟨b, off + j * 4 + 2, none⟩) (Nat.lt_succ_of_lt HLT.out)).trans Xz2.out
          have ua3 : w1.cell? ⟨b, off + j * 4 + 3, none⟩ = some (.slice A3 n3 c3) := (HBe.out.cell (p := ⟨b, off + j * 4 + 3, none⟩) (Nat.lt_succ_of_lt HLT.out)).trans Xz3.out
          have HKa := Lib.hid (l8Copy_any [.string z0, .int .i64 z1, .int .i64 z2, .slice A3 n3 c3] ⟨z0, z1, z2, z3⟩ w1 (REntry.more (REntry.keep HRz.out fun i hi => HBe.out.block i (Nat.lt_succ_of_lt hi)) fun i hi => Nat.lt_of_lt_of_le hi (Nat.le_trans HV0.out HBe.out.size)) HTz.out)
          go_wp2_with fail
          refine HKa.out.mono ?_
          rintro e wa ⟨csa, rfl, howna, hba⟩
          have HOaa := Lib.hid (HOe.out.below hba (Nat.le_refl _))
          have HZa := Lib.hid howna
          have HBaa := Lib.hid (HBe.out.trans (hba.mono (Nat.le_trans HV1.out HBe.out.size)))
          have HSa := Lib.hid (show w.heap.size + 1 ≤ w1.heap.size from Nat.le_trans HV1.out HBe.out.size)
          obtain ⟨Aqa, nqa, cqa, rfl, _⟩ := REntry_own.1 howna
          clear hba howna ua0 ua1 ua2 ua3
          go_wp2_with (at_builtin; refine wp_pushR (st := 24) (mid := w1.heap.size) (hi := wa.heap.size) (lo := w.heap.size + 1) REntry tiEntry rfl _ _ rfl rfl HOaa.out rfl HZa.out (by omega) HSa.out (Nat.le_trans HV1.out HBaa.out.size) ?_; intro Aa ca wab hown hgr)
          have HBa := Lib.hid (HBaa.out.trans (hgr.below (Nat.le_trans HV1.out HBaa.out.size) HOaa.out.ge))
          have HOa := Lib.hid hown
          clear hown hgr
          go_wp2
          go_roundw
          case rel => exact ⟨j + 1, Aa, ca, by omega, by simp [HS.out], by rw [HS.out], by go_num, by rw [HS.out]; simpa using HOa.out, HBa.out⟩
          case measure => simp [intOf]; omega
        · rcases d with _ | _
          · have HS := Lib.hid (show putSt ⟨el, ek, ev, ep⟩ (l.take (j + 1)) = (o ++ [⟨el, ek, ev, ep⟩], true) from by rw [HST2.out]; simp)
            have ua0 : w1.cell? ⟨w.heap.size, 0, none⟩ = some (.string el) := (HBe.out.cell (p := ⟨w.heap.size, 0, none⟩) (Nat.lt_succ_self _)).trans Xe0.out
            have ua1 : w1.cell? ⟨w.heap.size, 1, none⟩ = some (.int .i64 ek) := (HBe.out.cell (p := ⟨w.heap.size, 1, none⟩) (Nat.lt_succ_self _)).trans Xe1.out
            have ua2 : w1.cell? ⟨w.heap.size, 2, none⟩ = some (.int .i64 ev) := (HBe.out.cell (p := ⟨w.heap.size, 2, none⟩) (Nat.lt_succ_self _)).trans Xe2.out
            have ua3 : w1.cell? ⟨w.heap.size, 3, none⟩ = some (.slice Ae ne ce) := (HBe.out.cell (p := ⟨w.heap.size, 3, none⟩) (Nat.lt_succ_self _)).trans Xe3.out
            have HKa := Lib.hid (l8Copy_any [.string el, .int .i64 ek, .int .i64 ev, .slice Ae ne ce] ⟨el, ek, ev, ep⟩ w1 (REntry.more (REntry.keep HRe.out fun i hi => HBe.out.block i (Nat.lt_succ_of_lt hi)) fun i hi => Nat.lt_of_lt_of_le hi (Nat.le_trans HV0.out HBe.out.size)) HTe.out)
            go_wp2_with fail
            refine HKa.out.mono ?_
            rintro e wa ⟨csa, rfl, howna, hba⟩
            have HOaa := Lib.hid (HOe.out.below hba (Nat.le_refl _))
            have HZa := Lib.hid howna
            have HBaa := Lib.hid (HBe.out.trans (hba.mono (Nat.le_trans HV1.out HBe.out.size)))
            have HSa := Lib.hid (show w.heap.size + 1 ≤ w1.heap.size from Nat.le_trans HV1.out HBe.out.size)
            obtain ⟨Aqa, nqa, cqa, rfl, _⟩ := REntry_own.1 howna
            clear hba howna ua0 ua1 ua2 ua3
            go_wp2_with (at_builtin; refine wp_pushR (st := 24) (mid := w1.heap.size) (hi := wa.heap.size) (lo := w.heap.size + 1) REntry tiEntry rfl _ _ rfl rfl HOaa.out rfl HZa.out (by omega) HSa.out (Nat.le_trans HV1.out HBaa.out.size) ?_; intro Aa ca wab hown hgr)
            have HBa := Lib.hid (HBaa.out.trans (hgr.below (Nat.le_trans HV1.out HBaa.out.size) HOaa.out.ge))
            have HOa := Lib.hid hown
            clear hown hgr
            go_wp2
            go_roundw
            case rel => exact ⟨j + 1, Aa, ca, by omega, by simp [HS.out], by rw [HS.out], by go_num, by rw [HS.out]; simpa using HOa.out, HBa.out⟩
            case measure => simp [intOf]; omega
          · have HS := Lib.hid (show putSt ⟨el, ek, ev, ep⟩ (l.take (j + 1)) = (o, true) from by rw [HST2.out]; simp)
            go_wp2
            go_roundw
            case rel => exact ⟨j + 1, A1, c1, by omega, by simp [HS.out], by rw [HS.out], by go_num, by rw [HS.out]; simpa using HOe.out.top, HBe.out⟩
            case measure => simp [intOf]; omega
        · rcases d with _ | _
          · have HS := Lib.hid (show putSt ⟨el, ek, ev, ep⟩ (l.take (j + 1)) = (o ++ [⟨el, ek, ev, ep⟩, ⟨z0, z1, z2, z3⟩], true) from by rw [HST2.out]; simp)
            have ua0 : w1.cell? ⟨w.heap.size, 0, none⟩ = some (.string el) := (HBe.out.cell (p := ⟨w.heap.size, 0, none⟩) (Nat.lt_succ_self _)).trans Xe0.out
            have ua1 : w1.cell? ⟨w.heap.size, 1, none⟩ = some (.int .i64 ek) := (HBe.out.cell (p := ⟨w.heap.size, 1, none⟩) (Nat.lt_succ_self _)).trans Xe1.out
            have ua2 : w1.cell? ⟨w.heap.size, 2, none⟩ = some (.int .i64 ev) := (HBe.out.cell (p := ⟨w.heap.size, 2, none⟩) (Nat.lt_succ_self _)).trans Xe2.out
            have ua3 : w1.cell? ⟨w.heap.size, 3, none⟩ = some (.slice Ae ne ce) := (HBe.out.cell (p := ⟨w.heap.size, 3, none⟩) (Nat.lt_succ_self _)).trans Xe3.out
            have HKa := Lib.hid (l8Copy_any [.string el, .int .i64 ek, .int .i64 ev, .slice Ae ne ce] ⟨el, ek, ev, ep⟩ w1 (REntry.more (REntry.keep HRe.out fun i hi => HBe.out.block i (Nat.lt_succ_of_lt hi)) fun i hi => Nat.lt_of_lt_of_le hi (Nat.le_trans HV0.out HBe.out.size)) HTe.out)
            go_wp2_with fail
            refine HKa.out.mono ?_
            rintro e wa ⟨csa, rfl, howna, hba⟩
            have HOaa := Lib.hid (HOe.out.below hba (Nat.le_refl _))
            have HZa := Lib.hid howna
            have HBaa := Lib.hid (HBe.out.trans (hba.mono (Nat.le_trans HV1.out HBe.out.size)))
            have HSa := Lib.hid (show w.heap.size + 1 ≤ w1.heap.size from Nat.le_trans HV1.out HBe.out.size)
            obtain ⟨Aqa, nqa, cqa, rfl, _⟩ := REntry_own.1 howna
            clear hba howna ua0 ua1 ua2 ua3
            go_wp2_with (at_builtin; refine wp_pushR (st := 24) (mid := w1.heap.size) (hi := wa.heap.size) (lo := w.heap.size + 1) REntry tiEntry rfl _ _ rfl rfl HOaa.out rfl HZa.out (by omega) HSa.out (Nat.le_trans HV1.out HBaa.out.size) ?_; intro Aa ca wab hown hgr; have HBa := Lib.hid (HBaa.out.trans (hgr.below (Nat.le_trans HV1.out HBaa.out.size) HOaa.out.ge)); have HOa := Lib.hid hown; clear hown hgr; have ub0 : wab.cell? ⟨b, off + j * 4, none⟩ = some (.string z0) := (HBa.out.cell (p := ⟨b, off + j * 4, none⟩) (Nat.lt_succ_of_lt HLT.out)).trans Xz0.out; have ub1 : wab.cell? ⟨b, off + j * 4 + 1, none⟩ = some (.int .i64 z1) := (HBa.out.cell (p := ⟨b, off + j * 4 + 1, none⟩) (Nat.lt_succ_of_lt HLT.out)).trans Xz1.out; have ub2 : wab.cell? ⟨b, off + j * 4 + 2, none⟩ = some (.int .i64 z2) := (HBa.out.cell (p := ⟨b, off + j * 4 + 2, none⟩) (Nat.lt_succ_of_lt HLT.out)).trans Xz2.out; have ub3 : wab.cell? ⟨b, off + j * 4 + 3, none⟩ = some (.slice A3 n3 c3) := (HBa.out.cell (p := ⟨b, off + j * 4 + 3, none⟩) (Nat.lt_succ_of_lt HLT.out)).trans Xz3.out)
            have HKb := Lib.hid (l8Copy_any [.string z0, .int .i64 z1, .int .i64 z2, .slice A3 n3 c3] ⟨z0, z1, z2, z3⟩ wab (REntry.more (REntry.keep HRz.out fun i hi => HBa.out.block i (Nat.lt_succ_of_lt hi)) fun i hi => Nat.lt_of_lt_of_le hi (Nat.le_trans HV0.out HBa.out.size)) HTz.out)
            refine HKb.out.mono ?_
            rintro e wb ⟨csb, rfl, hownb, hbb⟩
            have HOba := Lib.hid (HOa.out.below hbb (Nat.le_refl _))
            have HZb := Lib.hid hownb
            have HBba := Lib.hid (HBa.out.trans (hbb.mono (Nat.le_trans HV1.out HBa.out.size)))
            have HSb := Lib.hid (show w.heap.size + 1 ≤ wab.heap.size from Nat.le_trans HV1.out HBa.out.size)
            obtain ⟨Aqb, nqb, cqb, rfl, _⟩ := REntry_own.1 hownb
            clear hbb hownb ub0 ub1 ub2 ub3
            go_wp2_with (at_builtin; refine wp_pushR (st := 24) (mid := wab.heap.size) (hi := wb.heap.size) (lo := w.heap.size + 1) REntry tiEntry rfl _ _ rfl rfl HOba.out rfl HZb.out (by omega) HSb.out (Nat.le_trans HV1.out HBba.out.size) ?_; intro Ab cb wbb hown hgr)
            have HBb := Lib.hid (HBba.out.trans (hgr.below (Nat.le_trans HV1.out HBba.out.size) HOba.out.ge))
            have HOb := Lib.hid hown
            clear hown hgr
            go_wp2
            go_roundw
            case rel => exact ⟨j + 1, Ab, cb, by omega, by simp [HS.out], by rw [HS.out], by go_num, by rw [HS.out]; simpa using HOb.out, HBb.out⟩
            case measure => simp [intOf]; omega
          · have HS := Lib.hid (show putSt ⟨el, ek, ev, ep⟩ (l.take (j + 1)) = (o ++ [⟨z0, z1, z2, z3⟩], true) from by rw [HST2.out]; simp)
            have ua0 : w1.cell? ⟨b, off + j * 4, none⟩ = some (.string z0) := (HBe.out.cell (p := ⟨b, off + j * 4, none⟩) (Nat.lt_succ_of_lt HLT.out)).trans Xz0.out
            have ua1 : w1.cell? ⟨b, off + j * 4 + 1, none⟩ = some (.int .i64 z1) := (HBe.out.cell (p := ⟨b, off + j * 4 + 1, none⟩) (Nat.lt_succ_of_lt HLT.out)).trans Xz1.out
            have ua2 : w1.cell? ⟨b, off + j * 4 + 2, none⟩ = some (.int .i64 z2) := (HBe.out.cell (p := ⟨b, off + j * 4 + 2, none⟩) (Nat.lt_succ_of_lt HLT.out)).trans Xz2.out
            have ua3 : w1.cell? ⟨b, off + j * 4 + 3, none⟩ = some (.slice A3 n3 c3) := (HBe.out.cell (p := ⟨b, off + j * 4 + 3, none⟩) (Nat.lt_succ_of_lt HLT.out)).trans Xz3.out
            have HKa := Lib.hid (l8Copy_any [.string z0, .int .i64 z1, .int .i64 z2, .slice A3 n3 c3] ⟨z0, z1, z2, z3⟩ w1 (REntry.more (REntry.keep HRz.out fun i hi => HBe.out.block i (Nat.lt_succ_of_lt hi)) fun i hi => Nat.lt_of_lt_of_le hi (Nat.le_trans HV0.out HBe.out.size)) HTz.out)
            go_wp2_with fail
            refine HKa.out.mono ?_
            rintro e wa ⟨csa, rfl, howna, hba⟩
            have HOaa := Lib.hid (HOe.out.below hba (Nat.le_refl _))
            have HZa := Lib.hid howna
            have HBaa := Lib.hid (HBe.out.trans (hba.mono (Nat.le_trans HV1.out HBe.out.size)))
            have HSa := Lib.hid (show w.heap.size + 1 ≤ w1.heap.size from Nat.le_trans HV1.out HBe.out.size)
            obtain ⟨Aqa, nqa, cqa, rfl, _⟩ := REntry_own.1 howna
            clear hba howna ua0 ua1 ua2 ua3
            go_wp2_with (at_builtin; refine wp_pushR (st := 24) (mid := w1.heap.size) (hi := wa.heap.size) (lo := w.heap.size + 1) REntry tiEntry rfl _ _ rfl rfl HOaa.out rfl HZa.out (by omega) HSa.out (Nat.le_trans HV1.out HBaa.out.size) ?_; intro Aa ca wab hown hgr)
            have HBa := Lib.hid (HBaa.out.trans (hgr.below (Nat.le_trans HV1.out HBaa.out.size) HOaa.out.ge))
            have HOa := Lib.hid hown
            clear hown hgr
            go_wp2
            go_roundw
            case rel => exact ⟨j + 1, Aa, ca, by omega, by simp [HS.out], by rw [HS.out], by go_num, by rw [HS.out]; simpa using HOa.out, HBa.out⟩
            case measure => simp [intOf]; omega
    · obtain rfl : j = n := by omega
      have htk : l.take j = l := List.take_of_length_le (by rw [HL.out]; omega)
      rw [htk] at HO1 hle ⊢
      have hpa : putAll ⟨el, ek, ev, ep⟩ l = (putSt ⟨el, ek, ev, ep⟩ l).1 ++ (if (putSt ⟨el, ek, ev, ep⟩ l).2 then [] else [⟨el, ek, ev, ep⟩]) := rfl
      have hpe : putE l ⟨el, ek, ev, ep⟩ = if areE l && areE (putAll ⟨el, ek, ev, ep⟩ l) then (putAll ⟨el, ek, ev, ep⟩ l, true) else (l, false) := rfl
      obtain ⟨⟨o, d⟩, hod⟩ : ∃ p, p = putSt ⟨el, ek, ev, ep⟩ l := ⟨_, rfl⟩
      rw [← hod] at hle HO1 hpa ⊢
      simp only at hle HO1 hpa ⊢
      clear hod htk
      have hol : o.length ≤ 8589934594 := by omega
      generalize hall : putAll ⟨el, ek, ev, ep⟩ l = all at hpa hpe HTA HLA
      clear hall hle
      rcases d with _ | _
      · have hpa2 : all = o ++ [⟨el, ek, ev, ep⟩] := by rw [hpa]; rfl
        have hla : all.length = o.length + 1 := by rw [hpa2]; simp
        clear hpa
        have ua0 : wr.cell? ⟨w.heap.size, 0, none⟩ = some (.string el) := (HR.out.cell (p := ⟨w.heap.size, 0, none⟩) (Nat.lt_succ_self _)).trans Xe0.out
        have ua1 : wr.cell? ⟨w.heap.size, 1, none⟩ = some (.int .i64 ek) := (HR.out.cell (p := ⟨w.heap.size, 1, none⟩) (Nat.lt_succ_self _)).trans Xe1.out
        have ua2 : wr.cell? ⟨w.heap.size, 2, none⟩ = some (.int .i64 ev) := (HR.out.cell (p := ⟨w.heap.size, 2, none⟩) (Nat.lt_succ_self _)).trans Xe2.out
        have ua3 : wr.cell? ⟨w.heap.size, 3, none⟩ = some (.slice Ae ne ce) := (HR.out.cell (p := ⟨w.heap.size, 3, none⟩) (Nat.lt_succ_self _)).trans Xe3.out
        have HKa := Lib.hid (l8Copy_any [.string el, .int .i64 ek, .int .i64 ev, .slice Ae ne ce] ⟨el, ek, ev, ep⟩ wr (REntry.more (REntry.keep HRe.out fun i hi => HR.out.block i (Nat.lt_succ_of_lt hi)) fun i hi => Nat.lt_of_lt_of_le hi (Nat.le_trans HV0.out HR.out.size)) HTe.out)
        go_wp2_with fail
        refine HKa.out.mono ?_
        rintro e wa ⟨csa, rfl, howna, hba⟩
        have HOaa := Lib.hid (HO1.out.below hba (Nat.le_refl _))
        have HZa := Lib.hid howna
        have HBaa := Lib.hid (HR.out.trans (hba.mono (Nat.le_trans HV1.out HR.out.size)))
        have HSa := Lib.hid (show w.heap.size + 1 ≤ wr.heap.size from Nat.le_trans HV1.out HR.out.size)
        obtain ⟨Aqa, nqa, cqa, rfl, _⟩ := REntry_own.1 howna
        clear hba howna ua0 ua1 ua2 ua3
        go_wp2_with (at_builtin; refine wp_pushR (st := 24) (mid := wr.heap.size) (hi := wa.heap.size) (lo := w.heap.size + 1) REntry tiEntry rfl _ _ rfl rfl HOaa.out rfl HZa.out (by omega) HSa.out (Nat.le_trans HV1.out HBaa.out.size) ?_; intro Aa ca wab hown hgr)
        have HBa := Lib.hid (HBaa.out.trans (hgr.below (Nat.le_trans HV1.out HBaa.out.size) HOaa.out.ge))
        have HOa := Lib.hid hown
        clear hown hgr
        rw [← hpa2, ← hla] at HOa
        rw [← hla]
        clear hpa2 hla
        clear HO1
        have HAO := Lib.hid (fun w1 (hr : FRdEntry w1 w1.heap.size Aa all.length all) => sAreEntries_any Aa all.length ca all w1 hr HTA.out)
        rcases ha : areE l with _ | _
        · have HPE := Lib.hid (show putE l ⟨el, ek, ev, ep⟩ = (l, false) from by rw [hpe, ha]; rfl)
          have hA := HAR.out wab (HUP.out _ HBa.out)
          rw [ha] at hA
          have HA := Lib.hid hA
          clear hpe ha hA
          go_wp2_with fail
          refine HA.out.mono ?_
          rintro e wy ⟨rfl, hby⟩
          have HBy := Lib.hid (HBa.out.trans (hby.mono (Nat.le_trans HV1.out HBa.out.size)))
          clear hby
          have HKc := Lib.hid (HCP.out wy (HUP.out _ HBy.out))
          go_wp2_with fail
          refine HKc.out.mono ?_
          rintro e wz ⟨Az, cz, rfl, hoz, hbz⟩
          have HOz := Lib.hid (hoz.base (Nat.le_trans HV0.out HBy.out.size))
          have HBz := Lib.hid (HBy.out.trans (hbz.mono (Nat.le_trans HV1.out HBy.out.size)))
          clear hoz hbz
          go_wp2
          go_ret2
          rw [HPE.out]
          exact ⟨Az, cz, by rw [show l.length = _ from HL.out]; rfl, by rw [show l.length = _ from HL.out]; exact HOz.out, HB0.out.trans (HBz.out.mono (Nat.le_succ _))⟩
        · have hA := HAR.out wab (HUP.out _ HBa.out)
          rw [ha] at hA
          have HA := Lib.hid hA
          rcases ha2 : areE all with _ | _
          · have HPE := Lib.hid (show putE l ⟨el, ek, ev, ep⟩ = (l, false) from by rw [hpe, ha, ha2]; rfl)
            have HA := Lib.hid HA.out
            have hA2 := HAO.out
            simp only [ha2] at hA2
            have HA2 := Lib.hid hA2
            clear hpe ha hA ha2 hA2
            go_wp2_with fail
            refine HA.out.mono ?_
            rintro e wy ⟨rfl, hby⟩
            have HBy := Lib.hid (HBa.out.trans (hby.mono (Nat.le_trans HV1.out HBa.out.size)))
            have HOy := Lib.hid (HOa.out.below hby (Nat.le_refl _))
            have HRy := Lib.hid (HOy.out.rd.more hby.size)
            have HSY := Lib.hid hby.size
            clear hby
            go_wp2_with fail
            refine (HA2.out _ HRy.out).mono ?_
            rintro e wx ⟨rfl, hbx⟩
            have HBx := Lib.hid (HBy.out.trans (hbx.mono (Nat.le_trans HV1.out HBy.out.size)))
            have HOx := Lib.hid (HOy.out.below hbx (Nat.le_trans (Nat.le_refl _) HSY.out))
            clear hbx
            have HKc := Lib.hid (HCP.out wx (HUP.out _ HBx.out))
            go_wp2_with fail
            refine HKc.out.mono ?_
            rintro e wz ⟨Az, cz, rfl, hoz, hbz⟩
            have HOz := Lib.hid (hoz.base (Nat.le_trans HV0.out HBx.out.size))
            have HBz := Lib.hid (HBx.out.trans (hbz.mono (Nat.le_trans HV1.out HBx.out.size)))
            clear hoz hbz
            go_wp2
            go_ret2
            rw [HPE.out]
            exact ⟨Az, cz, by rw [show l.length = _ from HL.out]; rfl, by rw [show l.length = _ from HL.out]; exact HOz.out, HB0.out.trans (HBz.out.mono (Nat.le_succ _))⟩
          · have HPE := Lib.hid (show putE l ⟨el, ek, ev, ep⟩ = (all, true) from by rw [hpe, ha, ha2]; rfl)
            have HA := Lib.hid HA.out
            have hA2 := HAO.out
            simp only [ha2] at hA2
            have HA2 := Lib.hid hA2
            clear hpe ha hA ha2 hA2
            go_wp2_with fail
            refine HA.out.mono ?_
            rintro e wy ⟨rfl, hby⟩
            have HBy := Lib.hid (HBa.out.trans (hby.mono (Nat.le_trans HV1.out HBa.out.size)))
            have HOy := Lib.hid (HOa.out.below hby (Nat.le_refl _))
            have HRy := Lib.hid (HOy.out.rd.more hby.size)
            have HSY := Lib.hid hby.size
            clear hby
            go_wp2_with fail
            refine (HA2.out _ HRy.out).mono ?_
            rintro e wx ⟨rfl, hbx⟩
            have HBx := Lib.hid (HBy.out.trans (hbx.mono (Nat.le_trans HV1.out HBy.out.size)))
            have HOx := Lib.hid (HOy.out.below hbx (Nat.le_trans (Nat.le_refl _) HSY.out))
            clear hbx
            go_wp2
            go_ret2
            rw [HPE.out]
            exact ⟨Aa, ca, rfl, (HOx.out.top).base (Nat.le_succ _), HB0.out.trans (HBx.out.mono (Nat.le_succ _))⟩
      · have hpa2 : all = o := by rw [hpa]; simp
        clear hpa
        subst hpa2
        have HAO := Lib.hid (fun w1 (hr : FRdEntry w1 w1.heap.size A1 all.length all) => sAreEntries_any A1 all.length c1 all w1 hr HTA.out)
        rcases ha : areE l with _ | _
        · have HPE := Lib.hid (show putE l ⟨el, ek, ev, ep⟩ = (l, false) from by rw [hpe, ha]; rfl)
          have hA := HAR.out wr (HUP.out _ HR.out)
          rw [ha] at hA
          have HA := Lib.hid hA
          clear hpe ha hA
          go_wp2_with fail
          refine HA.out.mono ?_
          rintro e wy ⟨rfl, hby⟩
          have HBy := Lib.hid (HR.out.trans (hby.mono (Nat.le_trans HV1.out HR.out.size)))
          clear hby
          have HKc := Lib.hid (HCP.out wy (HUP.out _ HBy.out))
          go_wp2_with fail
          refine HKc.out.mono ?_
          rintro e wz ⟨Az, cz, rfl, hoz, hbz⟩
          have HOz := Lib.hid (hoz.base (Nat.le_trans HV0.out HBy.out.size))
          have HBz := Lib.hid (HBy.out.trans (hbz.mono (Nat.le_trans HV1.out HBy.out.size)))
          clear hoz hbz
          go_wp2
          go_ret2
          rw [HPE.out]
          exact ⟨Az, cz, by rw [show l.length = _ from HL.out]; rfl, by rw [show l.length = _ from HL.out]; exact HOz.out, HB0.out.trans (HBz.out.mono (Nat.le_succ _))⟩
        · have hA := HAR.out wr (HUP.out _ HR.out)
          rw [ha] at hA
          have HA := Lib.hid hA
          rcases ha2 : areE all with _ | _
          · have HPE := Lib.hid (show putE l ⟨el, ek, ev, ep⟩ = (l, false) from by rw [hpe, ha, ha2]; rfl)
            have HA := Lib.hid HA.out
            have hA2 := HAO.out
            simp only [ha2] at hA2
            have HA2 := Lib.hid hA2
            clear hpe ha hA ha2 hA2
            go_wp2_with fail
            refine HA.out.mono ?_
            rintro e wy ⟨rfl, hby⟩
            have HBy := Lib.hid (HR.out.trans (hby.mono (Nat.le_trans HV1.out HR.out.size)))
            have HOy := Lib.hid (HO1.out.below hby (Nat.le_refl _))
            have HRy := Lib.hid (HOy.out.rd.more hby.size)
            have HSY := Lib.hid hby.size
            clear hby
            go_wp2_with fail
            refine (HA2.out _ HRy.out).mono ?_
            rintro e wx ⟨rfl, hbx⟩
            have HBx := Lib.hid (HBy.out.trans (hbx.mono (Nat.le_trans HV1.out HBy.out.size)))
            have HOx := Lib.hid (HOy.out.below hbx (Nat.le_trans (Nat.le_refl _) HSY.out))
            clear hbx
            have HKc := Lib.hid (HCP.out wx (HUP.out _ HBx.out))
            go_wp2_with fail
            refine HKc.out.mono ?_
            rintro e wz ⟨Az, cz, rfl, hoz, hbz⟩
            have HOz := Lib.hid (hoz.base (Nat.le_trans HV0.out HBx.out.size))
            have HBz := Lib.hid (HBx.out.trans (hbz.mono (Nat.le_trans HV1.out HBx.out.size)))
            clear hoz hbz
            go_wp2
            go_ret2
            rw [HPE.out]
            exact ⟨Az, cz, by rw [show l.length = _ from HL.out]; rfl, by rw [show l.length = _ from HL.out]; exact HOz.out, HB0.out.trans (HBz.out.mono (Nat.le_succ _))⟩
          · have HPE := Lib.hid (show putE l ⟨el, ek, ev, ep⟩ = (all, true) from by rw [hpe, ha, ha2]; rfl)
            have HA := Lib.hid HA.out
            have hA2 := HAO.out
            simp only [ha2] at hA2
            have HA2 := Lib.hid hA2
            clear hpe ha hA ha2 hA2
            go_wp2_with fail
            refine HA.out.mono ?_
            rintro e wy ⟨rfl, hby⟩
            have HBy := Lib.hid (HR.out.trans (hby.mono (Nat.le_trans HV1.out HR.out.size)))
            have HOy := Lib.hid (HO1.out.below hby (Nat.le_refl _))
            have HRy := Lib.hid (HOy.out.rd.more hby.size)
            have HSY := Lib.hid hby.size
            clear hby
            go_wp2_with fail
            refine (HA2.out _ HRy.out).mono ?_
            rintro e wx ⟨rfl, hbx⟩
            have HBx := Lib.hid (HBy.out.trans (hbx.mono (Nat.le_trans HV1.out HBy.out.size)))
            have HOx := Lib.hid (HOy.out.below hbx (Nat.le_trans (Nat.le_refl _) HSY.out))
            clear hbx
            go_wp2
            go_ret2
            rw [HPE.out]
            exact ⟨A1, c1, rfl, (HOx.out.top).base (Nat.le_succ _), HB0.out.trans (HBx.out.mono (Nat.le_succ _))⟩
end Go.Proofs.YtbhhifoofapgiaaGreat.C09SP
