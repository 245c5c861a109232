/- The walk of the statement 'FnThresholds': the law returns true, and writes into nothing that was there. -/
import Derived.Test.YthhibhnclbnhlaaC07I
import Derived.Test.YthhibhnclbnhlaaC07S
import Derived.Test.YthhibhnclbnhlaaC06I
import Derived.Test.YthhibhnclbnhlaaD07
import Derived.Test.YthhibhnclbnhlaaD06K
import Derived.Test.YthhibhnclbnhlaaRGF
import Derived.Test.YthhibhnclbnhlaaRKA
import Derived.Test.YthhibhnclbnhlaaM07T
import Derived.Test.YthhibhnclbnhlaaTB
import Derived.RegionTactic
namespace Go.Proofs.Ythhibhnclbnhlaa.W07F
set_option linter.unusedVariables false
set_option maxRecDepth 100000
open Go.RowKit Mem MemS M02 C01 C02 Rep R06 R07 Flat M03 M06 M07 M07T C06S C07S C06I C07I D01 D06 D06K D07 SL TB RG RGS RGF
theorem rd_keys {w : World} {lo : Nat} {A : Option Addr} {n c : Nat} {l : List Int} {nd : Int} (h : Own .i64 w lo w.heap.size A n c l) (hk : AnyK l nd) : RKeys.rd w (Lt w.heap.size) [.slice A n c, .int .i64 nd] ⟨l, nd⟩ := by
  have := D07.anyK_len hk
  exact RKeys_rd.2 ⟨A, n, c, rfl, h.cap.1, h.cap.2, h.rd, inI64 (by simp only; omega) (by simp only; omega)⟩
theorem up_keys {B : Nat} {w w' : World} {cs : List Value} {k : Keys} (h : RKeys.rd w (Lt B) cs k) (hb : Below B w w') (hB : B ≤ w'.heap.size) : RKeys.rd w' (Lt w'.heap.size) cs k :=
  RKeys.more (RKeys.keep h fun i hi => hb.block i hi) fun i hi => Nat.lt_of_lt_of_le hi hB
set_option maxHeartbeats 8000000 in
theorem FnThresholds_walk (W0 : World) (A : Option Addr) (n c : Nat) (hn : n ≤ maxLen) (hr : BRow W0 W0.heap.size A n) :
    Calls Try.prog 3 #[.slice A n c] W0 fun e w' => e = .returned (.bool true) ∧ Below W0.heap.size W0 w' := by
  by_cases hbig : 1048576 < n
  · go_enter Try.func3, Try.ntmps3
    go_wp2_with fail
    refine (big_yes _ _ _ _ hbig).mono ?_
    rintro e w1 ⟨rfl, rfl⟩
    go_wp2
    go_ret
    exact ⟨rfl, Below.refl _ _⟩
  have HR := Lib.hid hr
  clear hr
  go_enter Try.func3, Try.ntmps3
  go_wp2_with fail
  refine (big_no _ _ _ _ (by omega)).mono ?_
  rintro e w1 ⟨rfl, rfl⟩
  go_wp2_with fail
  refine (drawSignBy_any W0 A n c hn HR.out).mono ?_
  rintro e W1 ⟨Ah, nh, ch, held, Ak, nk, ck, l, nd, Am, nm, cm, m, rfl, hnh, hoh, hak, hok, hms, hom, hb1⟩
  have hkl := D07.anyK_len hak
  have hkll := hok.len
  have hml := hom.len
  have hhl := hoh.len
  have hm3 := hms.1
  have HN := Lib.hid (show l.length ≤ 4 ∧ m.length ≤ 3 ∧ nh ≤ 5 from ⟨hkl.1, hm3, hnh⟩)
  have HBa := Lib.hid ((Below.refl W1.heap.size W1).alloc (Nat.le_refl _) (.cells #[.slice Ak nk ck, .int .i64 nd] 26))
  have HX := Lib.hid (show Box (W1.alloc (.cells #[.slice Ak nk ck, .int .i64 nd] 26)) W1.heap.size [.slice Ak nk ck, .int .i64 nd] from by
    have := Box.new W1 #[.slice Ak nk ck, .int .i64 nd] 26
    simpa using this)
  have HK := Lib.hid (up_keys (rd_keys hok hak) HBa.out (by simp))
  have HH := Lib.hid ((hoh.rd.below HBa.out (Nat.le_refl _)).more HBa.out.size)
  have HM := Lib.hid ((hom.rd.below HBa.out (Nat.le_refl _)).more HBa.out.size)
  have HCm := Lib.hid hom.cap.1
  have HMS := Lib.hid hms
  have HB1 := Lib.hid (hb1.trans (HBa.out.mono hb1.size))
  have HML := Lib.hid hml
  clear hok hak hoh hom hb1 hms hkll
  go_wp2_with fail
  refine (iSignBy_any Ah nh ch held [.slice Ak nk ck, .int .i64 nd] ⟨l, nd⟩ Am nm cm m _ HH.out HK.out HM.out (by simp only; omega) (by omega) (by omega)).mono ?_
  rintro e W3 ⟨As, cs, rfl, hos, hb3⟩
  simp only at hos
  have hS1 := sgn_signBy (k := ⟨l, nd⟩) (held := held) (m := m)
  have hS2 := fun h => sgn_more (k := ⟨l, nd⟩) (held := held) (m := m) h HMS.out.1 HMS.out.2
  have hS3 := fun i h => signBy_has (held := held) (l := l) (m := m) (i := i) h
  have hS4 := signBy_len held l m
  simp only at hS1 hS2
  generalize signBy held l m = sg at hos hS1 hS2 hS3 hS4
  have HB3 := Lib.hid (HB1.out.trans (hb3.mono HB1.out.size))
  have hgl : W1.heap.size < W3.heap.size := Nat.lt_of_lt_of_le (by simp) hb3.size
  have hx3 := HX.out.below hb3 (by simp)
  have HZ0 := Lib.hid (show W1.heap.size < W3.drew.heap.size ∧ W3.drew.cell? ⟨W1.heap.size, 0, none⟩ = some (.slice Ak nk ck) from ⟨hgl, hx3.cell (j := 0) rfl⟩)
  have HZ1 := Lib.hid (show W1.heap.size < W3.drew.heap.size ∧ W3.drew.cell? ⟨W1.heap.size, 1, none⟩ = some (.int .i64 nd) from ⟨hgl, hx3.cell (j := 1) rfl⟩)
  have HK3 := Lib.hid (show RKeys.rd W3.drew (Lt W3.drew.heap.size) [.slice Ak nk ck, .int .i64 nd] ⟨l, nd⟩ from up_keys HK.out (show Below _ _ W3.drew from hb3.drew) hb3.size)
  have HH3 := Lib.hid (show Rd .i64 W3.drew W3.drew.heap.size Ah nh held from (HH.out.below hb3.drew (Nat.le_refl _)).more hb3.size)
  have HM3 := Lib.hid (show Rd .i64 W3.drew W3.drew.heap.size Am nm m from (HM.out.below hb3.drew (Nat.le_refl _)).more hb3.size)
  have HCs := Lib.hid hos.cap.1
  have HS3 := Lib.hid (show FRdSig W3.drew W3.drew.heap.size As sg.length sg from (FRd.of flSig hos.rd).keep fun i hi => rfl)
  have hsl : sg.length ≤ 4 := Nat.le_trans hS4 hkl.1
  have HSL := Lib.hid hsl
  have HHAS := Lib.hid hS3
  obtain ⟨bc, hbc⟩ : ∃ bc, canSign ⟨l, nd⟩ held = bc := ⟨_, rfl⟩
  have HC1 := Lib.hid hbc
  rw [hbc] at hS1
  have HS1 := Lib.hid hS1
  obtain ⟨bk, hbk⟩ : ∃ bk, isKeys ⟨l, nd⟩ = bk := ⟨_, rfl⟩
  have HK1 := Lib.hid hbk
  obtain ⟨b2, hb2⟩ : ∃ b2, isSgn ⟨l, nd⟩ (m ++ [1]) sg = b2 := ⟨_, rfl⟩
  have HS2 := Lib.hid hb2
  have HF := Lib.hid (show (bk && b2) = false from by
    cases bk with
    | false => rfl
    | true => rw [← hb2, hS2 hbk]; rfl)
  clear hos hS1 hS2 hS3 hS4 hbc hbk hb2 hx3 hb3 hgl hhl hml
  go_wp2_with fail
  obtain ⟨z8, hz8⟩ : ∃ zz : Bool, zz = (!((bc) == (bc))) := ⟨_, rfl⟩
  have Hz8 := Lib.hid hz8
  clear hz8
  obtain ⟨z11, hz11⟩ : ∃ zz : Bool, zz = (bk) := ⟨_, rfl⟩
  have Hz11 := Lib.hid hz11
  clear hz11
  refine RK.region (RKS.kill _ (fun q => q == 17) (B := W3.drew.heap.size) [RKS.sv (.agg #[.slice Ak nk ck, .int .i64 nd]), RKS.sv (.slice Am nm cm), RKS.sv (.slice As sg.length cs), RKS.sv (.bool (bc)), RKS.sv (.agg #[.slice Ak nk ck, .int .i64 nd]), RKS.sv (.slice Ah nh ch), RKS.sv (.bool (bc)), RKS.sv (.bool (!((bc) == (bc)))), RKS.sv (.bool (z8)), RKS.swhen (z8 == false) (RKS.sv (.agg #[.slice Ak nk ck, .int .i64 nd])), RKS.swhen (z8 == false) (RKS.sv (.bool (bk))), RKS.swhen (z8 == false) (RKS.sv (.bool (z11))), RKS.swhen ((z8 == false) && (z11 == true)) (RKS.sv (.agg #[.slice Ak nk ck, .int .i64 nd])), RKS.swhen ((z8 == false) && (z11 == true)) (RKA.sown0), RKS.swhen ((z8 == false) && (z11 == true)) (RKS.sv (.slice Am nm cm)), RKS.swhen ((z8 == false) && (z11 == true)) (RKS.sown .i64 (m)), RKS.swhen ((z8 == false) && (z11 == true)) (RKS.sown .i64 ([1])), RKS.swhen ((z8 == false) && (z11 == true)) (RKS.sown .i64 (m ++ [1])), RKS.swhen ((z8 == false) && (z11 == true)) (RKS.sv (.slice As sg.length cs)), RKS.swhen ((z8 == false) && (z11 == true)) (RKS.sv (.bool (b2))), RKS.swhen (z8 == false) (RKS.sv (.bool ((z11) && (b2)))), RKS.sv (.bool ((z8) || ((z11) && (b2))))]) (RKS.eff (W3.drew.heap.size) (fun q => q == 17)) (RKS.tabP [RKS.sv (.agg #[.slice Ak nk ck, .int .i64 nd]), RKS.sv (.slice Am nm cm), RKS.sv (.slice As sg.length cs), RKS.sv (.bool (bc)), RKS.sv (.agg #[.slice Ak nk ck, .int .i64 nd]), RKS.sv (.slice Ah nh ch), RKS.sv (.bool (bc)), RKS.sv (.bool (!((bc) == (bc)))), RKS.sv (.bool (z8)), RKS.swhen (z8 == false) (RKS.sv (.agg #[.slice Ak nk ck, .int .i64 nd])), RKS.swhen (z8 == false) (RKS.sv (.bool (bk))), RKS.swhen (z8 == false) (RKS.sv (.bool (z11))), RKS.swhen ((z8 == false) && (z11 == true)) (RKS.sv (.agg #[.slice Ak nk ck, .int .i64 nd])), RKS.swhen ((z8 == false) && (z11 == true)) (RKA.sown0), RKS.swhen ((z8 == false) && (z11 == true)) (RKS.sv (.slice Am nm cm)), RKS.swhen ((z8 == false) && (z11 == true)) (RKS.sown .i64 (m)), RKS.swhen ((z8 == false) && (z11 == true)) (RKS.sown .i64 ([1])), RKS.swhen ((z8 == false) && (z11 == true)) (RKS.sown .i64 (m ++ [1])), RKS.swhen ((z8 == false) && (z11 == true)) (RKS.sv (.slice As sg.length cs)), RKS.swhen ((z8 == false) && (z11 == true)) (RKS.sv (.bool (b2))), RKS.swhen (z8 == false) (RKS.sv (.bool ((z11) && (b2)))), RKS.sv (.bool ((z8) || ((z11) && (b2))))]) (by kernel_rfl) (by kernel_rfl) RKS.eff_below RKS.eff_keep ?_ ?_
  · refine RK.steps_cons ?_ (RK.steps_cons ?_ (RK.steps_cons ?_ (RK.steps_cons ?_ (RK.steps_cons ?_ (RK.steps_cons ?_ (RK.steps_cons ?_ (RK.steps_cons ?_ (RK.steps_cons ?_ (RK.steps_cons ?_ (RK.steps_cons ?_ (RK.steps_cons ?_ (RK.steps_cons ?_ (RK.steps_cons ?_ (RK.steps_cons ?_ (RK.steps_cons ?_ (RK.steps_cons ?_ (RK.steps_cons ?_ (RK.steps_cons ?_ (RK.steps_cons ?_ (RK.steps_cons ?_ (RK.steps_cons ?_ (RK.steps_nil))))))))))))))))))))))
    · intro aa ww hA K hK0
      have hK := RKA.quietE rfl hK0
      refine RKS.free rfl fun _ => ?_
      have e4 : aa.tmps.getD 4 undef = .pointer (some ⟨W1.heap.size, 0, none⟩) := hA.old 4 (by kernel_rfl)
      have d1 := (hA.bel.cell (p := ⟨W1.heap.size, 0, none⟩) HZ0.out.1).trans HZ0.out.2
      have d2 := (hA.bel.cell (p := ⟨W1.heap.size, 1, none⟩) HZ1.out.1).trans HZ1.out.2
      exact gives hK (v := .agg #[.slice Ak nk ck, .int .i64 nd]) (by simp [execOp, Act.eval, e4, d1, d2, go_sem]) rfl
    · intro aa ww hA K hK0
      have hK := RKA.quietE rfl hK0
      refine RKS.free rfl fun _ => ?_
      exact gives hK rfl (hA.old 5 (by kernel_rfl))
    · intro aa ww hA K hK0
      have hK := RKA.quietE rfl hK0
      refine RKS.free rfl fun _ => ?_
      exact gives hK rfl (hA.old 6 (by kernel_rfl))
    · intro aa ww hA K hK0
      have hK := RKA.quietE rfl hK0
      refine RKS.free rfl fun _ => ?_
      have e27 : aa.tmps.getD 27 undef = .agg #[.slice Ak nk ck, .int .i64 nd] := hA.got 0 27 (by kernel_rfl)
      have e28 : aa.tmps.getD 28 undef = .slice Am nm cm := hA.got 1 28 (by kernel_rfl)
      have e29 : aa.tmps.getD 29 undef = .slice As sg.length cs := hA.got 2 29 (by kernel_rfl)
      refine calls hK (by simp [Act.eval, e27, e28, e29, go_sem]) (iIsSigned_any [.slice Ak nk ck, .int .i64 nd] ⟨l, nd⟩ Am nm cm m As sg.length cs sg ww (up_keys HK3.out hA.bel hA.bel.size) ((HM3.out.below hA.bel (Nat.le_refl _)).more hA.bel.size) HCm.out ((HS3.out.below hA.bel (Nat.le_refl _)).more hA.bel.size) HCs.out (by have := HN.out; simp only; omega) (by have := HN.out; have := HML.out; omega) (by have := HSL.out; omega)) ?_
      rw [HS1.out]
      rintro e w1 ⟨rfl, hb⟩
      exact ⟨_, rfl, hb, rfl⟩
    · intro aa ww hA K hK0
      have hK := RKA.quietE rfl hK0
      refine RKS.free rfl fun _ => ?_
      have e4 : aa.tmps.getD 4 undef = .pointer (some ⟨W1.heap.size, 0, none⟩) := hA.old 4 (by kernel_rfl)
      have d1 := (hA.bel.cell (p := ⟨W1.heap.size, 0, none⟩) HZ0.out.1).trans HZ0.out.2
      have d2 := (hA.bel.cell (p := ⟨W1.heap.size, 1, none⟩) HZ1.out.1).trans HZ1.out.2
      exact gives hK (v := .agg #[.slice Ak nk ck, .int .i64 nd]) (by simp [execOp, Act.eval, e4, d1, d2, go_sem]) rfl
    · intro aa ww hA K hK0
      have hK := RKA.quietE rfl hK0
      refine RKS.free rfl fun _ => ?_
      exact gives hK rfl (hA.old 3 (by kernel_rfl))
    · intro aa ww hA K hK0
      have hK := RKA.quietE rfl hK0
      refine RKS.free rfl fun _ => ?_
      have e31 : aa.tmps.getD 31 undef = .agg #[.slice Ak nk ck, .int .i64 nd] := hA.got 4 31 (by kernel_rfl)
      have e32 : aa.tmps.getD 32 undef = .slice Ah nh ch := hA.got 5 32 (by kernel_rfl)
      refine calls hK (by simp [Act.eval, e31, e32, go_sem]) (iCanSign_any [.slice Ak nk ck, .int .i64 nd] ⟨l, nd⟩ Ah nh ch held ww (up_keys HK3.out hA.bel hA.bel.size) ((HH3.out.below hA.bel (Nat.le_refl _)).more hA.bel.size) (by have := HN.out; simp only; omega) (by have := HN.out; omega)) ?_
      rw [HC1.out]
      rintro e w1 ⟨rfl, hb⟩
      exact ⟨_, rfl, hb, rfl⟩
    · intro aa ww hA K hK0
      have hK := RKA.quietE rfl hK0
      refine RKS.free rfl fun _ => ?_
      have e30 : aa.tmps.getD 30 undef = .bool (bc) := hA.got 3 30 (by kernel_rfl)
      have e33 : aa.tmps.getD 33 undef = .bool (bc) := hA.got 6 33 (by kernel_rfl)
      exact gives hK (v := .bool (!((bc) == (bc)))) (by simp [execOp, Act.eval, e30, e33, binOp, eqGuard, eq_bool, go_sem]) rfl
    · intro aa ww hA K hK0
      have hK := RKA.quietE rfl hK0
      refine RKS.free rfl fun _ => ?_
      have e34 : aa.tmps.getD 34 undef = .bool (!((bc) == (bc))) := hA.got 7 34 (by kernel_rfl)
      exact gives hK rfl (show aa.tmps.getD 34 undef = .bool z8 from by rw [e34, Hz8.out])
    · intro aa ww hA K hK0
      have hK := RKA.quietE rfl hK0
      refine RKS.guarded (B0 := W3.drew.heap.size) (R := (fun w9 => Below (ww.heap.size) ww w9)) (s := RKS.sv (.agg #[.slice Ak nk ck, .int .i64 nd])) rfl rfl (hA.got 8 35 (by kernel_rfl)) (Below.refl _ _) hK fun hB _ hK => ?_
      have e4 : aa.tmps.getD 4 undef = .pointer (some ⟨W1.heap.size, 0, none⟩) := hA.old 4 (by kernel_rfl)
      have d1 := (hA.bel.cell (p := ⟨W1.heap.size, 0, none⟩) HZ0.out.1).trans HZ0.out.2
      have d2 := (hA.bel.cell (p := ⟨W1.heap.size, 1, none⟩) HZ1.out.1).trans HZ1.out.2
      exact gives hK (v := .agg #[.slice Ak nk ck, .int .i64 nd]) (by simp [execOp, Act.eval, e4, d1, d2, go_sem]) rfl
    · intro aa ww hA K hK0
      have hK := RKA.quietE rfl hK0
      refine RKS.guarded (B0 := W3.drew.heap.size) (R := (fun w9 => Below (ww.heap.size) ww w9)) (s := RKS.sv (.bool (bk))) rfl rfl (hA.got 8 35 (by kernel_rfl)) (Below.refl _ _) hK fun hB _ hK => ?_
      have e36 : aa.tmps.getD 36 undef = .agg #[.slice Ak nk ck, .int .i64 nd] := (hA.got 9 36 (by kernel_rfl)).1 hB
      refine calls hK (by simp [Act.eval, e36, go_sem]) (iIsKeys_any [.slice Ak nk ck, .int .i64 nd] ⟨l, nd⟩ ww (up_keys HK3.out hA.bel hA.bel.size) (by have := HN.out; simp only; omega)) ?_
      rw [HK1.out]
      rintro e w1 ⟨rfl, hb⟩
      exact ⟨_, rfl, hb, rfl⟩
    · intro aa ww hA K hK0
      have hK := RKA.quietE rfl hK0
      refine RKS.guarded (B0 := W3.drew.heap.size) (R := (fun w9 => Below (ww.heap.size) ww w9)) (s := RKS.sv (.bool (z11))) rfl rfl (hA.got 8 35 (by kernel_rfl)) (Below.refl _ _) hK fun hB _ hK => ?_
      have e37 : aa.tmps.getD 37 undef = .bool (bk) := (hA.got 10 37 (by kernel_rfl)).1 hB
      exact gives hK rfl (show aa.tmps.getD 37 undef = .bool z11 from by rw [e37, Hz11.out])
    · intro aa ww hA K hK0
      have hK := RKA.quietE rfl hK0
      refine RKS.guarded2 (B0 := W3.drew.heap.size) (R := (fun w9 => Below (ww.heap.size) ww w9)) (s := RKS.sv (.agg #[.slice Ak nk ck, .int .i64 nd])) rfl rfl (hA.got 11 38 (by kernel_rfl)) (Below.refl _ _) hK fun hB _ hK => ?_
      have e4 : aa.tmps.getD 4 undef = .pointer (some ⟨W1.heap.size, 0, none⟩) := hA.old 4 (by kernel_rfl)
      have d1 := (hA.bel.cell (p := ⟨W1.heap.size, 0, none⟩) HZ0.out.1).trans HZ0.out.2
      have d2 := (hA.bel.cell (p := ⟨W1.heap.size, 1, none⟩) HZ1.out.1).trans HZ1.out.2
      exact gives hK (v := .agg #[.slice Ak nk ck, .int .i64 nd]) (by simp [execOp, Act.eval, e4, d1, d2, go_sem]) rfl
    · intro aa ww hA K hK0
      have hK := RKA.quietE rfl hK0
      refine RKS.guarded2 (B0 := W3.drew.heap.size) (R := (fun w9 => Below (ww.heap.size) ww w9)) (s := RKA.sown0) rfl rfl (hA.got 11 38 (by kernel_rfl)) (Below.refl _ _) hK fun hB _ hK => ?_
      exact lays hK (v := .slice (some ⟨ww.heap.size, 0, none⟩) 0 0) (w' := ww.alloc (.cells #[] 3)) (by simp [execOp, go_sem]) ((Below.refl _ _).alloc (Nat.le_refl _) _) (RKA.sown0_lit hA.bel.size)
    · intro aa ww hA K hK0
      have hK := RKA.quietE rfl hK0
      refine RKS.guarded2 (B0 := W3.drew.heap.size) (R := (fun w9 => Below (ww.heap.size) ww w9)) (s := RKS.sv (.slice Am nm cm)) rfl rfl (hA.got 11 38 (by kernel_rfl)) (Below.refl _ _) hK fun hB _ hK => ?_
      exact gives hK rfl (hA.old 5 (by kernel_rfl))
    · intro aa ww hA K hK0
      have hK := RKA.quietE rfl hK0
      refine RKS.guarded2 (B0 := W3.drew.heap.size) (R := (fun w9 => Below (ww.heap.size) ww w9)) (s := RKS.sown .i64 (m)) rfl rfl (hA.got 11 38 (by kernel_rfl)) (Below.refl _ _) hK fun hB _ hK => ?_
      obtain ⟨b40, e40, h40⟩ := (hA.got 13 40 (by kernel_rfl)).1 hB
      have e41 : aa.tmps.getD 41 undef = .slice Am nm cm := (hA.got 14 41 (by kernel_rfl)).1 hB
      exact RKA.app0 (B := W3.drew.heap.size) hK (.tmp 40) (.tmp 41) rfl e40 e41 h40 (HM3.out.below hA.bel (Nat.le_refl _)) (by have := HN.out; have := HML.out; simp; omega) hA.bel.size (fun _ _ h => h)
    · intro aa ww hA K hK0
      have hK := RKA.quietE rfl hK0
      refine RKS.guarded2 (B0 := W3.drew.heap.size) (R := (fun w9 => Below (ww.heap.size) ww w9)) (s := RKS.sown .i64 ([1])) rfl rfl (hA.got 11 38 (by kernel_rfl)) (Below.refl _ _) hK fun hB _ hK => ?_
      exact lays hK (v := .slice (some ⟨ww.heap.size, 0, none⟩) 1 1) (w' := ww.alloc (.cells #[.int .i64 (1)] 3)) (by simp [execOp, Act.eval, go_sem]) ((Below.refl _ _).alloc (Nat.le_refl _) _) (RKA.sown_lit1 (inI64 (by omega) (by omega)) hA.bel.size)
    · intro aa ww hA K hK0
      have hK := RKA.loudE rfl hK0
      refine RKS.guarded2 (B0 := W3.drew.heap.size) (R := (fun w9 => Below (W3.drew.heap.size) ww w9)) (s := RKS.sown .i64 (m ++ [1])) rfl rfl (hA.got 11 38 (by kernel_rfl)) (Below.refl _ _) hK fun hB _ hK => ?_
      obtain ⟨A42, c42, e42, h42⟩ := (hA.got 15 42 (by kernel_rfl)).1 hB
      obtain ⟨A43, c43, e43, h43⟩ := (hA.got 16 43 (by kernel_rfl)).1 hB
      exact RKA.app1 (B := W3.drew.heap.size) hK (.tmp 42) (.tmp 43) rfl e42 e43 h42 h43.rd (by have := HN.out; have := HML.out; simp; omega) hA.bel.size (fun _ _ h => h)
    · intro aa ww hA K hK0
      have hK := RKA.quietE rfl hK0
      refine RKS.guarded2 (B0 := W3.drew.heap.size) (R := (fun w9 => Below (ww.heap.size) ww w9)) (s := RKS.sv (.slice As sg.length cs)) rfl rfl (hA.got 11 38 (by kernel_rfl)) (Below.refl _ _) hK fun hB _ hK => ?_
      exact gives hK rfl (hA.old 6 (by kernel_rfl))
    · intro aa ww hA K hK0
      have hK := RKA.quietE rfl hK0
      refine RKS.guarded2 (B0 := W3.drew.heap.size) (R := (fun w9 => Below (ww.heap.size) ww w9)) (s := RKS.sv (.bool (b2))) rfl rfl (hA.got 11 38 (by kernel_rfl)) (Below.refl _ _) hK fun hB _ hK => ?_
      have e39 : aa.tmps.getD 39 undef = .agg #[.slice Ak nk ck, .int .i64 nd] := (hA.got 12 39 (by kernel_rfl)).1 hB
      obtain ⟨A44, c44, e44, h44⟩ := (hA.got 17 44 (by kernel_rfl)).1 hB
      have e45 : aa.tmps.getD 45 undef = .slice As sg.length cs := (hA.got 18 45 (by kernel_rfl)).1 hB
      refine calls hK (by simp [Act.eval, e39, e44, e45, go_sem]) (iIsSigned_any [.slice Ak nk ck, .int .i64 nd] ⟨l, nd⟩ A44 _ c44 (m ++ [1]) As sg.length cs sg ww (up_keys HK3.out hA.bel hA.bel.size) h44.rd h44.cap.1 ((HS3.out.below hA.bel (Nat.le_refl _)).more hA.bel.size) HCs.out (by have := HN.out; simp only; omega) (by have := HN.out; simp; omega) (by have := HSL.out; omega)) ?_
      rw [HS2.out]
      rintro e w1 ⟨rfl, hb⟩
      exact ⟨_, rfl, hb, rfl⟩
    · intro aa ww hA K hK0
      have hK := RKA.quietE rfl hK0
      refine RKS.guarded (B0 := W3.drew.heap.size) (R := (fun w9 => Below (ww.heap.size) ww w9)) (s := RKS.sv (.bool ((z11) && (b2)))) rfl rfl (hA.got 8 35 (by kernel_rfl)) (Below.refl _ _) hK fun hB _ hK => ?_
      have e38 : aa.tmps.getD 38 undef = .bool (z11) := (hA.got 11 38 (by kernel_rfl)).1 hB
      rcases hq : (z11) with _ | _
      · rw [hq] at e38
        exact gives hK (v := .bool false) (by simp [execOp, Act.eval, e38, asBool, go_sem]) (show Value.bool _ = .bool _ by rw [hq]; simp)
      · have ex : aa.tmps.getD 46 undef = .bool (b2) := (hA.got 19 46 (by kernel_rfl)).1 (and_i hB (by rw [hq]; rfl))
        rw [hq] at e38
        exact gives hK (v := .bool (b2)) (by simp [execOp, Act.eval, e38, ex, asBool, go_sem]) (show Value.bool _ = .bool _ by rw [hq]; simp)
    · intro aa ww hA K hK0
      have hK := RKA.quietE rfl hK0
      refine RKS.free rfl fun _ => ?_
      have e35 : aa.tmps.getD 35 undef = .bool (z8) := hA.got 8 35 (by kernel_rfl)
      rcases hq : (z8) with _ | _
      · have ex : aa.tmps.getD 47 undef = .bool ((z11) && (b2)) := (hA.got 20 47 (by kernel_rfl)).1 (by rw [hq]; rfl)
        rw [hq] at e35
        exact gives hK (v := .bool ((z11) && (b2))) (by simp [execOp, Act.eval, e35, ex, asBool, go_sem]) (show Value.bool _ = .bool _ by rw [hq]; simp)
      · rw [hq] at e35
        exact gives hK (v := .bool true) (by simp [execOp, Act.eval, e35, asBool, go_sem]) (show Value.bool _ = .bool _ by rw [hq]; simp)
  · intro a1 w1 hb hd hsz hold hgot
    have g48 : a1.tmps.getD 48 undef = .bool false := (hgot 21 48 (by kernel_rfl) (by kernel_rfl)).trans (show Value.bool ((z8) || ((z11) && (b2))) = .bool false from congrArg Value.bool (by rw [Hz8.out, Hz11.out, HF.out]; cases bc <;> rfl))
    have ea := act_put hd hsz hold [27, 28, 29, 30, 31, 32, 33, 34, 35, 36, 37, 38, 39, 40, 41, 42, 43, 44, 45, 46, 47, 48] rfl
    simp only [List.foldl_cons, List.foldl_nil, g48] at ea
    rename_i K9 hK9
    refine hK9 a1 w1 ?_
    generalize a1.tmps.getD 27 undef = v27 at ea
    generalize a1.tmps.getD 28 undef = v28 at ea
    generalize a1.tmps.getD 29 undef = v29 at ea
    generalize a1.tmps.getD 30 undef = v30 at ea
    generalize a1.tmps.getD 31 undef = v31 at ea
    generalize a1.tmps.getD 32 undef = v32 at ea
    generalize a1.tmps.getD 33 undef = v33 at ea
    generalize a1.tmps.getD 34 undef = v34 at ea
    generalize a1.tmps.getD 35 undef = v35 at ea
    generalize a1.tmps.getD 36 undef = v36 at ea
    generalize a1.tmps.getD 37 undef = v37 at ea
    generalize a1.tmps.getD 38 undef = v38 at ea
    generalize a1.tmps.getD 39 undef = v39 at ea
    generalize a1.tmps.getD 40 undef = v40 at ea
    generalize a1.tmps.getD 41 undef = v41 at ea
    generalize a1.tmps.getD 42 undef = v42 at ea
    generalize a1.tmps.getD 43 undef = v43 at ea
    generalize a1.tmps.getD 44 undef = v44 at ea
    generalize a1.tmps.getD 45 undef = v45 at ea
    generalize a1.tmps.getD 46 undef = v46 at ea
    generalize a1.tmps.getD 47 undef = v47 at ea
    clear hgot hold hsz hd g48
    simp only [Act.put, List.setIfInBounds_toArray, List.set_cons_succ, List.set_cons_zero] at ea
    subst ea
    have HQ0 := Lib.hid hb
    clear hb
    go_wp2
    go_loopw [7] (fun iv wr => ∃ i : Nat, i ≤ sg.length ∧ iv = .int .i64 i ∧ Below W3.drew.heap.size W3.drew wr) (fun iv _ => sg.length - (intOf iv).toNat)
    case atStart => exact ⟨0, by omega, rfl, HQ0.out⟩
    case round =>
      obtain ⟨i, hi, rfl, hbel⟩ := hrel
      have HQ := Lib.hid hbel
      clear hbel
      by_cases hin : i < sg.length
      · obtain ⟨b2, o2, rfl, hlt2, hc2⟩ := (HS3.out.below HQ.out (Nat.le_refl _)).cell_at hin
        have hhas := HHAS.out i hin
        obtain ⟨z, hz⟩ : ∃ z, z = sg.getD i default := ⟨_, rfl⟩
        rw [← hz] at hc2 hhas
        have HKEY := Lib.hid hhas
        have HZy := Lib.hid (show W1.heap.size < wr.drew.heap.size ∧ wr.drew.cell? ⟨W1.heap.size, 0, none⟩ = some (.slice Ak nk ck) from ⟨Nat.lt_of_lt_of_le HZ0.out.1 HQ.out.size, (HQ.out.cell (p := ⟨W1.heap.size, 0, none⟩) HZ0.out.1).trans HZ0.out.2⟩)
        have HZz := Lib.hid (show W1.heap.size < wr.drew.heap.size ∧ wr.drew.cell? ⟨W1.heap.size, 1, none⟩ = some (.int .i64 nd) from ⟨Nat.lt_of_lt_of_le HZ1.out.1 HQ.out.size, (HQ.out.cell (p := ⟨W1.heap.size, 1, none⟩) HZ1.out.1).trans HZ1.out.2⟩)
        have HZk := Lib.hid (show b2 < wr.drew.heap.size ∧ wr.drew.cell? ⟨b2, o2 + i * 2, none⟩ = some (.int .i64 z.key) from ⟨Nat.lt_of_lt_of_le hlt2 HQ.out.size, hc2 0 (by decide)⟩)
        have HKw := Lib.hid (show RKeys.rd wr.drew (Lt wr.drew.heap.size) [.slice Ak nk ck, .int .i64 nd] ⟨l, nd⟩ from up_keys HK3.out (show Below _ _ wr.drew from HQ.out.drew) HQ.out.size)
        have hil : (i : Int) < sg.length := by omega
        clear hc2 hhas hz hlt2
        go_wp2_with fail
        refine RG.region (tabP [sv (.agg #[.slice Ak nk ck, .int .i64 nd]), sv (.slice (some ⟨b2, o2, none⟩) sg.length cs), sv (.int .i64 ((i : Int))), sv (.pointer (some ⟨b2, o2 + i * 2, none⟩)), sv (.pointer (some ⟨b2, o2 + i * 2, none⟩)), sv (.int .i64 (z.key)), sv (.bool (true)), sv (.bool (!(true)))]) (by kernel_rfl) (by kernel_rfl) (tab_keep _) ?_ ?_
        · refine steps_cons ?_ (steps_cons ?_ (steps_cons ?_ (steps_cons ?_ (steps_cons ?_ (steps_cons ?_ (steps_cons ?_ (steps_cons ?_ (steps_nil))))))))
          · intro aa ww hA K hK
            refine free rfl ?_
            have e4 : aa.tmps.getD 4 undef = .pointer (some ⟨W1.heap.size, 0, none⟩) := hA.old 4 (by kernel_rfl)
            have d1 := (hA.bel.cell (p := ⟨W1.heap.size, 0, none⟩) HZy.out.1).trans HZy.out.2
            have d2 := (hA.bel.cell (p := ⟨W1.heap.size, 1, none⟩) HZz.out.1).trans HZz.out.2
            exact gives hK (v := .agg #[.slice Ak nk ck, .int .i64 nd]) (by simp [execOp, Act.eval, e4, d1, d2, go_sem]) rfl
          · intro aa ww hA K hK
            refine free rfl ?_
            exact gives hK rfl (hA.old 6 (by kernel_rfl))
          · intro aa ww hA K hK
            refine free rfl ?_
            exact gives hK rfl (hA.old 7 (by kernel_rfl))
          · intro aa ww hA K hK
            refine free rfl ?_
            have e56 : aa.tmps.getD 56 undef = .slice (some ⟨b2, o2, none⟩) sg.length cs := hA.got 1 56 (by kernel_rfl)
            have e57 : aa.tmps.getD 57 undef = .int .i64 ((i : Int)) := hA.got 2 57 (by kernel_rfl)
            exact gives hK (v := .pointer (some ⟨b2, o2 + i * 2, none⟩)) (by simp [execOp, Act.eval, e56, e57, go_sem, hil]) rfl
          · intro aa ww hA K hK
            refine free rfl ?_
            have e58 : aa.tmps.getD 58 undef = .pointer (some ⟨b2, o2 + i * 2, none⟩) := hA.got 3 58 (by kernel_rfl)
            exact gives hK (v := .pointer (some ⟨b2, o2 + i * 2, none⟩)) (by simp [execOp, Act.eval, e58, go_sem]) rfl
          · intro aa ww hA K hK
            refine free rfl ?_
            have e59 : aa.tmps.getD 59 undef = .pointer (some ⟨b2, o2 + i * 2, none⟩) := hA.got 4 59 (by kernel_rfl)
            have d3 := (hA.bel.cell (p := ⟨b2, o2 + i * 2, none⟩) HZk.out.1).trans HZk.out.2
            exact gives hK (v := .int .i64 z.key) (by simp [execOp, Act.eval, e59, d3, go_sem]) rfl
          · intro aa ww hA K hK
            refine free rfl ?_
            have e55 : aa.tmps.getD 55 undef = .agg #[.slice Ak nk ck, .int .i64 nd] := hA.got 0 55 (by kernel_rfl)
            have e60 : aa.tmps.getD 60 undef = .int .i64 (z.key) := hA.got 5 60 (by kernel_rfl)
            refine calls hK (by simp [Act.eval, e55, e60, go_sem]) (iHasKey_any [.slice Ak nk ck, .int .i64 nd] ⟨l, nd⟩ z.key ww (up_keys HKw.out hA.bel hA.bel.size) (by have := HN.out; simp only; omega)) ?_
            rw [HKEY.out]
            rintro e w1 ⟨rfl, hb⟩
            exact ⟨_, rfl, hb, rfl⟩
          · intro aa ww hA K hK
            refine free rfl ?_
            have e61 : aa.tmps.getD 61 undef = .bool (true) := hA.got 6 61 (by kernel_rfl)
            exact gives hK (v := .bool (!(true))) (by simp [execOp, Act.eval, e61, Op.unary, go_sem]) rfl
        · intro a1 w1 hb hd hsz hold hgot
          have g62 : a1.tmps.getD 62 undef = .bool false := (hgot 7 62 (by kernel_rfl)).trans (rfl)
          have ea := act_put hd hsz hold [55, 56, 57, 58, 59, 60, 61, 62] rfl
          simp only [List.foldl_cons, List.foldl_nil, g62] at ea
          rename_i K9 hK9
          refine hK9 a1 w1 ?_
          generalize a1.tmps.getD 55 undef = v55 at ea
          generalize a1.tmps.getD 56 undef = v56 at ea
          generalize a1.tmps.getD 57 undef = v57 at ea
          generalize a1.tmps.getD 58 undef = v58 at ea
          generalize a1.tmps.getD 59 undef = v59 at ea
          generalize a1.tmps.getD 60 undef = v60 at ea
          generalize a1.tmps.getD 61 undef = v61 at ea
          clear hgot hold hsz hd g62
          simp only [Act.put, List.setIfInBounds_toArray, List.set_cons_succ, List.set_cons_zero] at ea
          subst ea
          have HW := Lib.hid (HQ.out.trans ((R06.below_drew hb).mono HQ.out.size))
          clear hb
          go_wp2
          go_roundw
          case rel => exact ⟨i + 1, by omega, by go_num, HW.out⟩
          case measure => simp [intOf]; omega
      · have HBw := Lib.hid (show Below W0.heap.size W0 wr from (show Below _ _ W3.drew from HB3.out.drew).trans (HQ.out.mono HB3.out.size))
        go_wp2_with fail
        refine (drawCountSigs_any wr A n c hn ((HR.out.below HBw.out).more HBw.out.size)).mono ?_
        rintro e W5 ⟨Aa, na, ca, la, nda, Ax, nx, cx, x, Ay, ny, cy, sy, rfl, haka, hoka, hmx, hox, hny, hoy, hb5⟩
        have hkla := D07.anyK_len haka
        have hkll := hoka.len
        have hml := hox.len
        have hm3 := hmx.1
        have HN2 := Lib.hid (show la.length ≤ 4 ∧ x.length ≤ 3 ∧ nx ≤ 3 ∧ ny ≤ 8 ∧ la.length = na from ⟨hkla.1, hm3, by omega, hny, hkll⟩)
        have HBb := Lib.hid ((Below.refl W5.heap.size W5).alloc (Nat.le_refl _) (.cells #[.slice Aa na ca, .int .i64 nda] 26))
        have HXb := Lib.hid (show Box (W5.alloc (.cells #[.slice Aa na ca, .int .i64 nda] 26)) W5.heap.size [.slice Aa na ca, .int .i64 nda] from by
          have := Box.new W5 #[.slice Aa na ca, .int .i64 nda] 26
          simpa using this)
        have HKb := Lib.hid (up_keys (rd_keys hoka haka) HBb.out (by simp))
        have HXx := Lib.hid ((hox.rd.below HBb.out (Nat.le_refl _)).more HBb.out.size)
        have HYy := Lib.hid (((FRd.of flSig hoy.rd).below HBb.out (Nat.le_refl _)).more HBb.out.size)
        have HCx := Lib.hid hox.cap.1
        have HB5 := Lib.hid (HBw.out.trans ((hb5.trans (HBb.out.mono hb5.size)).mono HBw.out.size))
        have hcs := iCountSigs_any [.slice Aa na ca, .int .i64 nda] ⟨la, nda⟩ Ax nx cx x Ay ny cy sy _ HKb.out HXx.out HCx.out HYy.out (by simp only; omega) (by omega) (by omega)
        simp only at hcs
        obtain ⟨q, hq⟩ : ∃ q, cntS la x sy = q := ⟨_, rfl⟩
        have hqn : q ≤ na := by rw [← hq, ← hkll]; exact cntS_le la x sy
        rw [hq] at hcs
        have HQn := Lib.hid hq
        have HQl := Lib.hid hqn
        have HCS := Lib.hid hcs
        clear hoka haka hox hoy hb5 hmx hq hqn hcs hkll hml
        go_wp2_with fail
        refine HCS.out.mono ?_
        rintro e W7 ⟨rfl, hb7⟩
        have HB7 := Lib.hid (HB5.out.trans (hb7.mono HB5.out.size))
        have HD7 := Lib.hid hb7
        clear hb7
        go_wp2_with fail
        refine (drawIsSigBy_any W7 A n c hn ((HR.out.below HB7.out).more HB7.out.size)).mono ?_
        rintro e W8 ⟨s, Az, nz, cz, zm, he, hqs, hmz, hoz, hb8⟩
        simp only [fSig] at he
        subst he
        have hzl := hoz.len
        have hz3 := hmz.1
        have HBc := Lib.hid ((Below.refl W8.heap.size W8).alloc (Nat.le_refl _) (.cells #[.int .i64 s.key, .int .i64 s.tag] 36))
        have HXc := Lib.hid (show Box (W8.alloc (.cells #[.int .i64 s.key, .int .i64 s.tag] 36)) W8.heap.size [.int .i64 s.key, .int .i64 s.tag] from by
          have := Box.new W8 #[.int .i64 s.key, .int .i64 s.tag] 36
          simpa using this)
        have HQs := Lib.hid hqs
        have HZZ := Lib.hid ((hoz.rd.below HBc.out (Nat.le_refl _)).more HBc.out.size)
        have HCz := Lib.hid hoz.cap.1
        have HNz := Lib.hid (show nz ≤ 3 by omega)
        have HB8 := Lib.hid (HB7.out.trans ((hb8.trans (HBc.out.mono hb8.size)).mono HB7.out.size))
        have HD8 := Lib.hid (hb8.trans (HBc.out.mono hb8.size))
        have HD8' := Lib.hid hb8
        clear hqs hmz hoz hb8 hzl hz3
        go_wp2_with fail
        refine (drawOneKey_any _ A n c hn ((HR.out.below HB8.out).more HB8.out.size)).mono ?_
        rintro e W9 ⟨key, rfl, hk0, hk1, hb9⟩
        have HB9 := Lib.hid (HB8.out.trans (hb9.mono HB8.out.size))
        have HDD := Lib.hid (HD7.out.trans ((HD8.out.trans (hb9.mono HD8.out.size)).mono HD7.out.size))
        have hla : W5.heap.size < W9.heap.size := Nat.lt_of_lt_of_le (by simp) HDD.out.size
        have hxa := HXb.out.below HDD.out (by simp)
        have hlc : W8.heap.size < W9.heap.size := Nat.lt_of_lt_of_le (by simp) hb9.size
        have hxc := HXc.out.below hb9 (by simp)
        have HZ0a := Lib.hid (show W5.heap.size < W9.drew.heap.size ∧ W9.drew.cell? ⟨W5.heap.size, 0, none⟩ = some (.slice Aa na ca) from ⟨hla, hxa.cell (j := 0) rfl⟩)
        have HZ1a := Lib.hid (show W5.heap.size < W9.drew.heap.size ∧ W9.drew.cell? ⟨W5.heap.size, 1, none⟩ = some (.int .i64 nda) from ⟨hla, hxa.cell (j := 1) rfl⟩)
        have HZ0c := Lib.hid (show W8.heap.size < W9.drew.heap.size ∧ W9.drew.cell? ⟨W8.heap.size, 0, none⟩ = some (.int .i64 s.key) from ⟨hlc, hxc.cell (j := 0) rfl⟩)
        have HZ1c := Lib.hid (show W8.heap.size < W9.drew.heap.size ∧ W9.drew.cell? ⟨W8.heap.size, 1, none⟩ = some (.int .i64 s.tag) from ⟨hlc, hxc.cell (j := 1) rfl⟩)
        have HK9 := Lib.hid (show RKeys.rd W9.drew (Lt W9.drew.heap.size) [.slice Aa na ca, .int .i64 nda] ⟨la, nda⟩ from up_keys HKb.out (show Below _ _ W9.drew from HDD.out.drew) HDD.out.size)
        have HX9 := Lib.hid (show Rd .i64 W9.drew W9.drew.heap.size Ax nx x from (HXx.out.below HDD.out.drew (Nat.le_refl _)).more HDD.out.size)
        have HY9 := Lib.hid (show FRdSig W9.drew W9.drew.heap.size Ay ny sy from (HYy.out.below HDD.out.drew (Nat.le_refl _)).more HDD.out.size)
        have HZ9 := Lib.hid (show Rd .i64 W9.drew W9.drew.heap.size Az nz zm from (HZZ.out.below hb9.drew (Nat.le_refl _)).more hb9.size)
        have HIone := Lib.hid (show In .i64 key from inI64 (by omega) (by omega))
        clear hla hxa hlc hxc hb9 hk0 hk1
        go_wp2_with fail
        obtain ⟨z6, hz6⟩ : ∃ zz : Bool, zz = (((q : Int) : Int) == ((q : Int) : Int)) := ⟨_, rfl⟩
        have Hz6 := Lib.hid hz6
        clear hz6
        obtain ⟨z13, hz13⟩ : ∃ zz : Bool, zz = ((z6) && (decide (((q : Int) : Int) ≤ ((na : Int) : Int)))) := ⟨_, rfl⟩
        have Hz13 := Lib.hid hz13
        clear hz13
        obtain ⟨z22, hz22⟩ : ∃ zz : Bool, zz = ((z13) && ((isSig s zm) == (isSig s zm))) := ⟨_, rfl⟩
        have Hz22 := Lib.hid hz22
        clear hz22
        obtain ⟨z28, hz28⟩ : ∃ zz : Bool, zz = (decide ((1 : Int) ≤ (key : Int))) := ⟨_, rfl⟩
        have Hz28 := Lib.hid hz28
        clear hz28
        obtain ⟨z34, hz34⟩ : ∃ zz : Bool, zz = ((z22) && ((isKeys (oneKey key)) == ((z28) && (decide ((key : Int) ≤ (99 : Int)))))) := ⟨_, rfl⟩
        have Hz34 := Lib.hid hz34
        clear hz34
        refine RG.region (tabP [sv (.int .i64 ((q : Int))), sv (.agg #[.slice Aa na ca, .int .i64 nda]), sv (.slice Ax nx cx), sv (.slice Ay ny cy), sv (.int .i64 ((q : Int))), sv (.bool (((q : Int) : Int) == ((q : Int) : Int))), sv (.bool (z6)), swhen (z6 == true) (sv (.int .i64 ((q : Int)))), swhen (z6 == true) (sv (.pointer (some ⟨W5.heap.size, 0, none⟩))), swhen (z6 == true) (sv (.slice Aa na ca)), swhen (z6 == true) (sv (.int .i64 ((na : Int)))), swhen (z6 == true) (sv (.bool (decide (((q : Int) : Int) ≤ ((na : Int) : Int))))), sv (.bool ((z6) && (decide (((q : Int) : Int) ≤ ((na : Int) : Int))))), sv (.bool (z13)), swhen (z13 == true) (sv (.agg #[.int .i64 s.key, .int .i64 s.tag])), swhen (z13 == true) (sv (.slice Az nz cz)), swhen (z13 == true) (sv (.bool (isSig s zm))), swhen (z13 == true) (sv (.agg #[.int .i64 s.key, .int .i64 s.tag])), swhen (z13 == true) (sv (.slice Az nz cz)), swhen (z13 == true) (sv (.bool (isSig s zm))), swhen (z13 == true) (sv (.bool ((isSig s zm) == (isSig s zm)))), sv (.bool ((z13) && ((isSig s zm) == (isSig s zm)))), sv (.bool (z22)), swhen (z22 == true) (sv (.int .i64 (key))), swhen (z22 == true) (srep RKeys (oneKey key)), swhen (z22 == true) (sv (.bool (isKeys (oneKey key)))), swhen (z22 == true) (sv (.int .i64 (key))), swhen (z22 == true) (sv (.bool (decide ((1 : Int) ≤ (key : Int))))), swhen (z22 == true) (sv (.bool (z28))), swhen ((z22 == true) && (z28 == true)) (sv (.int .i64 (key))), swhen ((z22 == true) && (z28 == true)) (sv (.bool (decide ((key : Int) ≤ (99 : Int))))), swhen (z22 == true) (sv (.bool ((z28) && (decide ((key : Int) ≤ (99 : Int)))))), swhen (z22 == true) (sv (.bool ((isKeys (oneKey key)) == ((z28) && (decide ((key : Int) ≤ (99 : Int))))))), sv (.bool ((z22) && ((isKeys (oneKey key)) == ((z28) && (decide ((key : Int) ≤ (99 : Int))))))), sv (.bool (z34)), swhen (z34 == true) (sv (.slice Ax nx cx)), swhen (z34 == true) (sv (.int .i64 (tagOf 3 x))), swhen (z34 == true) (sv (.slice Ax nx cx)), swhen (z34 == true) (sv (.int .i64 (tagOf 3 x))), swhen (z34 == true) (sv (.bool ((tagOf 3 x : Int) == (tagOf 3 x : Int)))), sv (.bool ((z34) && ((tagOf 3 x : Int) == (tagOf 3 x : Int)))), sv (.bool ((z34) && ((tagOf 3 x : Int) == (tagOf 3 x : Int))))]) (by kernel_rfl) (by kernel_rfl) (tab_keep _) ?_ ?_
        · refine steps_cons ?_ (steps_cons ?_ (steps_cons ?_ (steps_cons ?_ (steps_cons ?_ (steps_cons ?_ (steps_cons ?_ (steps_cons ?_ (steps_cons ?_ (steps_cons ?_ (steps_cons ?_ (steps_cons ?_ (steps_cons ?_ (steps_cons ?_ (steps_cons ?_ (steps_cons ?_ (steps_cons ?_ (steps_cons ?_ (steps_cons ?_ (steps_cons ?_ (steps_cons ?_ (steps_cons ?_ (steps_cons ?_ (steps_cons ?_ (steps_cons ?_ (steps_cons ?_ (steps_cons ?_ (steps_cons ?_ (steps_cons ?_ (steps_cons ?_ (steps_cons ?_ (steps_cons ?_ (steps_cons ?_ (steps_cons ?_ (steps_cons ?_ (steps_cons ?_ (steps_cons ?_ (steps_cons ?_ (steps_cons ?_ (steps_cons ?_ (steps_cons ?_ (steps_cons ?_ (steps_nil))))))))))))))))))))))))))))))))))))))))))
          · intro aa ww hA K hK
            refine free rfl ?_
            exact gives hK rfl (hA.old 11 (by kernel_rfl))
          · intro aa ww hA K hK
            refine free rfl ?_
            have e8 : aa.tmps.getD 8 undef = .pointer (some ⟨W5.heap.size, 0, none⟩) := hA.old 8 (by kernel_rfl)
            have d1 := (hA.bel.cell (p := ⟨W5.heap.size, 0, none⟩) HZ0a.out.1).trans HZ0a.out.2
            have d2 := (hA.bel.cell (p := ⟨W5.heap.size, 1, none⟩) HZ1a.out.1).trans HZ1a.out.2
            exact gives hK (v := .agg #[.slice Aa na ca, .int .i64 nda]) (by simp [execOp, Act.eval, e8, d1, d2, go_sem]) rfl
          · intro aa ww hA K hK
            refine free rfl ?_
            exact gives hK rfl (hA.old 9 (by kernel_rfl))
          · intro aa ww hA K hK
            refine free rfl ?_
            exact gives hK rfl (hA.old 10 (by kernel_rfl))
          · intro aa ww hA K hK
            refine free rfl ?_
            have e81 : aa.tmps.getD 81 undef = .agg #[.slice Aa na ca, .int .i64 nda] := hA.got 1 81 (by kernel_rfl)
            have e82 : aa.tmps.getD 82 undef = .slice Ax nx cx := hA.got 2 82 (by kernel_rfl)
            have e83 : aa.tmps.getD 83 undef = .slice Ay ny cy := hA.got 3 83 (by kernel_rfl)
            refine calls hK (by simp [Act.eval, e81, e82, e83, go_sem]) (sCountSigs_any [.slice Aa na ca, .int .i64 nda] ⟨la, nda⟩ Ax nx cx x Ay ny cy sy ww (up_keys HK9.out hA.bel hA.bel.size) ((HX9.out.below hA.bel (Nat.le_refl _)).more hA.bel.size) HCx.out ((HY9.out.below hA.bel (Nat.le_refl _)).more hA.bel.size) (by have := HN2.out; simp only; omega) (by have := HN2.out; omega) (by have := HN2.out; omega)) ?_
            rw [HQn.out]
            rintro e w1 ⟨rfl, hb⟩
            exact ⟨_, rfl, hb, rfl⟩
          · intro aa ww hA K hK
            refine free rfl ?_
            have e80 : aa.tmps.getD 80 undef = .int .i64 ((q : Int)) := hA.got 0 80 (by kernel_rfl)
            have e84 : aa.tmps.getD 84 undef = .int .i64 ((q : Int)) := hA.got 4 84 (by kernel_rfl)
            exact gives hK (v := .bool (((q : Int) : Int) == ((q : Int) : Int))) (by simp [execOp, Act.eval, e80, e84, binOp, eqGuard, go_sem]) rfl
          · intro aa ww hA K hK
            refine free rfl ?_
            have e85 : aa.tmps.getD 85 undef = .bool (((q : Int) : Int) == ((q : Int) : Int)) := hA.got 5 85 (by kernel_rfl)
            exact gives hK rfl (show aa.tmps.getD 85 undef = .bool z6 from by rw [e85, Hz6.out])
          · intro aa ww hA K hK
            refine guarded (s := sv (.int .i64 ((q : Int)))) rfl rfl (hA.got 6 86 (by kernel_rfl)) hK fun hB hK => ?_
            exact gives hK rfl (hA.old 11 (by kernel_rfl))
          · intro aa ww hA K hK
            refine guarded (s := sv (.pointer (some ⟨W5.heap.size, 0, none⟩))) rfl rfl (hA.got 6 86 (by kernel_rfl)) hK fun hB hK => ?_
            have e8 : aa.tmps.getD 8 undef = .pointer (some ⟨W5.heap.size, 0, none⟩) := hA.old 8 (by kernel_rfl)
            exact gives hK (v := .pointer (some ⟨W5.heap.size, 0, none⟩)) (by simp [execOp, Act.eval, e8, go_sem]) rfl
          · intro aa ww hA K hK
            refine guarded (s := sv (.slice Aa na ca)) rfl rfl (hA.got 6 86 (by kernel_rfl)) hK fun hB hK => ?_
            have e88 : aa.tmps.getD 88 undef = .pointer (some ⟨W5.heap.size, 0, none⟩) := (hA.got 8 88 (by kernel_rfl)).1 hB
            have d1 := (hA.bel.cell (p := ⟨W5.heap.size, 0, none⟩) HZ0a.out.1).trans HZ0a.out.2
            exact gives hK (v := .slice Aa na ca) (by simp [execOp, Act.eval, e88, d1, go_sem]) rfl
          · intro aa ww hA K hK
            refine guarded (s := sv (.int .i64 ((na : Int)))) rfl rfl (hA.got 6 86 (by kernel_rfl)) hK fun hB hK => ?_
            have e89 : aa.tmps.getD 89 undef = .slice Aa na ca := (hA.got 9 89 (by kernel_rfl)).1 hB
            exact gives hK (v := .int .i64 ((na : Int))) (by simp [Act.eval, e89, go_sem]) rfl
          · intro aa ww hA K hK
            refine guarded (s := sv (.bool (decide (((q : Int) : Int) ≤ ((na : Int) : Int))))) rfl rfl (hA.got 6 86 (by kernel_rfl)) hK fun hB hK => ?_
            have e87 : aa.tmps.getD 87 undef = .int .i64 ((q : Int)) := (hA.got 7 87 (by kernel_rfl)).1 hB
            have e90 : aa.tmps.getD 90 undef = .int .i64 ((na : Int)) := (hA.got 10 90 (by kernel_rfl)).1 hB
            exact gives hK (v := .bool (decide (((q : Int) : Int) ≤ ((na : Int) : Int)))) (by simp [execOp, Act.eval, e87, e90, binOp, eqGuard, go_sem]) rfl
          · intro aa ww hA K hK
            refine free rfl ?_
            have e86 : aa.tmps.getD 86 undef = .bool (z6) := hA.got 6 86 (by kernel_rfl)
            rcases hq : (z6) with _ | _
            · rw [hq] at e86
              exact gives hK (v := .bool false) (by simp [execOp, Act.eval, e86, asBool, go_sem]) (show Value.bool _ = .bool _ by rw [hq]; simp)
            · have ex : aa.tmps.getD 91 undef = .bool (decide (((q : Int) : Int) ≤ ((na : Int) : Int))) := (hA.got 11 91 (by kernel_rfl)).1 (by rw [hq]; rfl)
              rw [hq] at e86
              exact gives hK (v := .bool (decide (((q : Int) : Int) ≤ ((na : Int) : Int)))) (by simp [execOp, Act.eval, e86, ex, asBool, go_sem]) (show Value.bool _ = .bool _ by rw [hq]; simp)
          · intro aa ww hA K hK
            refine free rfl ?_
            have e92 : aa.tmps.getD 92 undef = .bool ((z6) && (decide (((q : Int) : Int) ≤ ((na : Int) : Int)))) := hA.got 12 92 (by kernel_rfl)
            exact gives hK rfl (show aa.tmps.getD 92 undef = .bool z13 from by rw [e92, Hz13.out])
          · intro aa ww hA K hK
            refine guarded (s := sv (.agg #[.int .i64 s.key, .int .i64 s.tag])) rfl rfl (hA.got 13 93 (by kernel_rfl)) hK fun hB hK => ?_
            have e12 : aa.tmps.getD 12 undef = .pointer (some ⟨W8.heap.size, 0, none⟩) := hA.old 12 (by kernel_rfl)
            have d1 := (hA.bel.cell (p := ⟨W8.heap.size, 0, none⟩) HZ0c.out.1).trans HZ0c.out.2
            have d2 := (hA.bel.cell (p := ⟨W8.heap.size, 1, none⟩) HZ1c.out.1).trans HZ1c.out.2
            exact gives hK (v := .agg #[.int .i64 s.key, .int .i64 s.tag]) (by simp [execOp, Act.eval, e12, d1, d2, go_sem]) rfl
          · intro aa ww hA K hK
            refine guarded (s := sv (.slice Az nz cz)) rfl rfl (hA.got 13 93 (by kernel_rfl)) hK fun hB hK => ?_
            exact gives hK rfl (hA.old 13 (by kernel_rfl))
          · intro aa ww hA K hK
            refine guarded (s := sv (.bool (isSig s zm))) rfl rfl (hA.got 13 93 (by kernel_rfl)) hK fun hB hK => ?_
            have e94 : aa.tmps.getD 94 undef = .agg #[.int .i64 s.key, .int .i64 s.tag] := (hA.got 14 94 (by kernel_rfl)).1 hB
            have e95 : aa.tmps.getD 95 undef = .slice Az nz cz := (hA.got 15 95 (by kernel_rfl)).1 hB
            refine calls hK (by simp [Act.eval, e94, e95, fSig, go_sem]) (iIsSigBy_any s Az nz cz zm ww ((HZ9.out.below hA.bel (Nat.le_refl _)).more hA.bel.size) (by have := HNz.out; omega) HCz.out HQs.out) ?_
            rintro e w1 ⟨rfl, hb⟩
            exact ⟨_, rfl, hb, rfl⟩
          · intro aa ww hA K hK
            refine guarded (s := sv (.agg #[.int .i64 s.key, .int .i64 s.tag])) rfl rfl (hA.got 13 93 (by kernel_rfl)) hK fun hB hK => ?_
            have e12 : aa.tmps.getD 12 undef = .pointer (some ⟨W8.heap.size, 0, none⟩) := hA.old 12 (by kernel_rfl)
            have d1 := (hA.bel.cell (p := ⟨W8.heap.size, 0, none⟩) HZ0c.out.1).trans HZ0c.out.2
            have d2 := (hA.bel.cell (p := ⟨W8.heap.size, 1, none⟩) HZ1c.out.1).trans HZ1c.out.2
            exact gives hK (v := .agg #[.int .i64 s.key, .int .i64 s.tag]) (by simp [execOp, Act.eval, e12, d1, d2, go_sem]) rfl
          · intro aa ww hA K hK
            refine guarded (s := sv (.slice Az nz cz)) rfl rfl (hA.got 13 93 (by kernel_rfl)) hK fun hB hK => ?_
            exact gives hK rfl (hA.old 13 (by kernel_rfl))
          · intro aa ww hA K hK
            refine guarded (s := sv (.bool (isSig s zm))) rfl rfl (hA.got 13 93 (by kernel_rfl)) hK fun hB hK => ?_
            have e97 : aa.tmps.getD 97 undef = .agg #[.int .i64 s.key, .int .i64 s.tag] := (hA.got 17 97 (by kernel_rfl)).1 hB
            have e98 : aa.tmps.getD 98 undef = .slice Az nz cz := (hA.got 18 98 (by kernel_rfl)).1 hB
            refine calls hK (by simp [Act.eval, e97, e98, fSig, go_sem]) (sIsSigBy_any s Az nz cz zm ww ((HZ9.out.below hA.bel (Nat.le_refl _)).more hA.bel.size) (by have := HNz.out; omega) HCz.out HQs.out) ?_
            rintro e w1 ⟨rfl, hb⟩
            exact ⟨_, rfl, hb, rfl⟩
          · intro aa ww hA K hK
            refine guarded (s := sv (.bool ((isSig s zm) == (isSig s zm)))) rfl rfl (hA.got 13 93 (by kernel_rfl)) hK fun hB hK => ?_
            have e96 : aa.tmps.getD 96 undef = .bool (isSig s zm) := (hA.got 16 96 (by kernel_rfl)).1 hB
            have e99 : aa.tmps.getD 99 undef = .bool (isSig s zm) := (hA.got 19 99 (by kernel_rfl)).1 hB
            exact gives hK (v := .bool ((isSig s zm) == (isSig s zm))) (by simp [execOp, Act.eval, e96, e99, binOp, eqGuard, eq_bool, go_sem]) rfl
          · intro aa ww hA K hK
            refine free rfl ?_
            have e93 : aa.tmps.getD 93 undef = .bool (z13) := hA.got 13 93 (by kernel_rfl)
            rcases hq : (z13) with _ | _
            · rw [hq] at e93
              exact gives hK (v := .bool false) (by simp [execOp, Act.eval, e93, asBool, go_sem]) (show Value.bool _ = .bool _ by rw [hq]; simp)
            · have ex : aa.tmps.getD 100 undef = .bool ((isSig s zm) == (isSig s zm)) := (hA.got 20 100 (by kernel_rfl)).1 (by rw [hq]; rfl)
              rw [hq] at e93
              exact gives hK (v := .bool ((isSig s zm) == (isSig s zm))) (by simp [execOp, Act.eval, e93, ex, asBool, go_sem]) (show Value.bool _ = .bool _ by rw [hq]; simp)
          · intro aa ww hA K hK
            refine free rfl ?_
            have e101 : aa.tmps.getD 101 undef = .bool ((z13) && ((isSig s zm) == (isSig s zm))) := hA.got 21 101 (by kernel_rfl)
            exact gives hK rfl (show aa.tmps.getD 101 undef = .bool z22 from by rw [e101, Hz22.out])
          · intro aa ww hA K hK
            refine guarded (s := sv (.int .i64 (key))) rfl rfl (hA.got 22 102 (by kernel_rfl)) hK fun hB hK => ?_
            exact gives hK rfl (hA.old 14 (by kernel_rfl))
          · intro aa ww hA K hK
            refine guarded (s := srep RKeys (oneKey key)) rfl rfl (hA.got 22 102 (by kernel_rfl)) hK fun hB hK => ?_
            have e103 : aa.tmps.getD 103 undef = .int .i64 (key) := (hA.got 23 103 (by kernel_rfl)).1 hB
            refine calls hK (by simp [Act.eval, e103, go_sem]) (iOneKey_any key ww HIone.out) ?_
            rintro e w1 ⟨u1, rfl, hu1, hb⟩
            exact ⟨_, rfl, hb, srep_rd hu1.rd⟩
          · intro aa ww hA K hK
            refine guarded (s := sv (.bool (isKeys (oneKey key)))) rfl rfl (hA.got 22 102 (by kernel_rfl)) hK fun hB hK => ?_
            obtain ⟨q104, e104, h104⟩ := (hA.got 24 104 (by kernel_rfl)).1 hB
            refine calls hK (by simp [Act.eval, e104, go_sem]) (iIsKeys_any q104 (oneKey key) ww h104 (by simp [oneKey])) ?_
            rintro e w1 ⟨rfl, hb⟩
            exact ⟨_, rfl, hb, rfl⟩
          · intro aa ww hA K hK
            refine guarded (s := sv (.int .i64 (key))) rfl rfl (hA.got 22 102 (by kernel_rfl)) hK fun hB hK => ?_
            exact gives hK rfl (hA.old 14 (by kernel_rfl))
          · intro aa ww hA K hK
            refine guarded (s := sv (.bool (decide ((1 : Int) ≤ (key : Int))))) rfl rfl (hA.got 22 102 (by kernel_rfl)) hK fun hB hK => ?_
            have e106 : aa.tmps.getD 106 undef = .int .i64 (key) := (hA.got 26 106 (by kernel_rfl)).1 hB
            exact gives hK (v := .bool (decide ((1 : Int) ≤ (key : Int)))) (by simp [execOp, Act.eval, e106, binOp, eqGuard, go_sem]) rfl
          · intro aa ww hA K hK
            refine guarded (s := sv (.bool (z28))) rfl rfl (hA.got 22 102 (by kernel_rfl)) hK fun hB hK => ?_
            have e107 : aa.tmps.getD 107 undef = .bool (decide ((1 : Int) ≤ (key : Int))) := (hA.got 27 107 (by kernel_rfl)).1 hB
            exact gives hK rfl (show aa.tmps.getD 107 undef = .bool z28 from by rw [e107, Hz28.out])
          · intro aa ww hA K hK
            refine guarded2 (s := sv (.int .i64 (key))) rfl rfl (hA.got 28 108 (by kernel_rfl)) hK fun hB hK => ?_
            exact gives hK rfl (hA.old 14 (by kernel_rfl))
          · intro aa ww hA K hK
            refine guarded2 (s := sv (.bool (decide ((key : Int) ≤ (99 : Int))))) rfl rfl (hA.got 28 108 (by kernel_rfl)) hK fun hB hK => ?_
            have e109 : aa.tmps.getD 109 undef = .int .i64 (key) := (hA.got 29 109 (by kernel_rfl)).1 hB
            exact gives hK (v := .bool (decide ((key : Int) ≤ (99 : Int)))) (by simp [execOp, Act.eval, e109, binOp, eqGuard, go_sem]) rfl
          · intro aa ww hA K hK
            refine guarded (s := sv (.bool ((z28) && (decide ((key : Int) ≤ (99 : Int)))))) rfl rfl (hA.got 22 102 (by kernel_rfl)) hK fun hB hK => ?_
            have e108 : aa.tmps.getD 108 undef = .bool (z28) := (hA.got 28 108 (by kernel_rfl)).1 hB
            rcases hq : (z28) with _ | _
            · rw [hq] at e108
              exact gives hK (v := .bool false) (by simp [execOp, Act.eval, e108, asBool, go_sem]) (show Value.bool _ = .bool _ by rw [hq]; simp)
            · have ex : aa.tmps.getD 110 undef = .bool (decide ((key : Int) ≤ (99 : Int))) := (hA.got 30 110 (by kernel_rfl)).1 (and_i hB (by rw [hq]; rfl))
              rw [hq] at e108
              exact gives hK (v := .bool (decide ((key : Int) ≤ (99 : Int)))) (by simp [execOp, Act.eval, e108, ex, asBool, go_sem]) (show Value.bool _ = .bool _ by rw [hq]; simp)
          · intro aa ww hA K hK
            refine guarded (s := sv (.bool ((isKeys (oneKey key)) == ((z28) && (decide ((key : Int) ≤ (99 : Int))))))) rfl rfl (hA.got 22 102 (by kernel_rfl)) hK fun hB hK => ?_
            have e105 : aa.tmps.getD 105 undef = .bool (isKeys (oneKey key)) := (hA.got 25 105 (by kernel_rfl)).1 hB
            have e111 : aa.tmps.getD 111 undef = .bool ((z28) && (decide ((key : Int) ≤ (99 : Int)))) := (hA.got 31 111 (by kernel_rfl)).1 hB
            exact gives hK (v := .bool ((isKeys (oneKey key)) == ((z28) && (decide ((key : Int) ≤ (99 : Int)))))) (by simp [execOp, Act.eval, e105, e111, binOp, eqGuard, eq_bool, go_sem]) rfl
          · intro aa ww hA K hK
            refine free rfl ?_
            have e102 : aa.tmps.getD 102 undef = .bool (z22) := hA.got 22 102 (by kernel_rfl)
            rcases hq : (z22) with _ | _
            · rw [hq] at e102
              exact gives hK (v := .bool false) (by simp [execOp, Act.eval, e102, asBool, go_sem]) (show Value.bool _ = .bool _ by rw [hq]; simp)
            · have ex : aa.tmps.getD 112 undef = .bool ((isKeys (oneKey key)) == ((z28) && (decide ((key : Int) ≤ (99 : Int))))) := (hA.got 32 112 (by kernel_rfl)).1 (by rw [hq]; rfl)
              rw [hq] at e102
              exact gives hK (v := .bool ((isKeys (oneKey key)) == ((z28) && (decide ((key : Int) ≤ (99 : Int)))))) (by simp [execOp, Act.eval, e102, ex, asBool, go_sem]) (show Value.bool _ = .bool _ by rw [hq]; simp)
          · intro aa ww hA K hK
            refine free rfl ?_
            have e113 : aa.tmps.getD 113 undef = .bool ((z22) && ((isKeys (oneKey key)) == ((z28) && (decide ((key : Int) ≤ (99 : Int)))))) := hA.got 33 113 (by kernel_rfl)
            exact gives hK rfl (show aa.tmps.getD 113 undef = .bool z34 from by rw [e113, Hz34.out])
          · intro aa ww hA K hK
            refine guarded (s := sv (.slice Ax nx cx)) rfl rfl (hA.got 34 114 (by kernel_rfl)) hK fun hB hK => ?_
            exact gives hK rfl (hA.old 9 (by kernel_rfl))
          · intro aa ww hA K hK
            refine guarded (s := sv (.int .i64 (tagOf 3 x))) rfl rfl (hA.got 34 114 (by kernel_rfl)) hK fun hB hK => ?_
            have e115 : aa.tmps.getD 115 undef = .slice Ax nx cx := (hA.got 35 115 (by kernel_rfl)).1 hB
            refine calls hK (by simp [Act.eval, e115, go_sem]) (iTagOf_any 3 Ax nx cx x ww ((HX9.out.below hA.bel (Nat.le_refl _)).more hA.bel.size) (by have := HN2.out; omega) (inI64 (by omega) (by omega))) ?_
            rintro e w1 ⟨rfl, hb⟩
            exact ⟨_, rfl, hb, rfl⟩
          · intro aa ww hA K hK
            refine guarded (s := sv (.slice Ax nx cx)) rfl rfl (hA.got 34 114 (by kernel_rfl)) hK fun hB hK => ?_
            exact gives hK rfl (hA.old 9 (by kernel_rfl))
          · intro aa ww hA K hK
            refine guarded (s := sv (.int .i64 (tagOf 3 x))) rfl rfl (hA.got 34 114 (by kernel_rfl)) hK fun hB hK => ?_
            have e117 : aa.tmps.getD 117 undef = .slice Ax nx cx := (hA.got 37 117 (by kernel_rfl)).1 hB
            refine calls hK (by simp [Act.eval, e117, go_sem]) (sTagOf_any 3 Ax nx cx x ww ((HX9.out.below hA.bel (Nat.le_refl _)).more hA.bel.size) (by have := HN2.out; omega) (inI64 (by omega) (by omega))) ?_
            rintro e w1 ⟨rfl, hb⟩
            exact ⟨_, rfl, hb, rfl⟩
          · intro aa ww hA K hK
            refine guarded (s := sv (.bool ((tagOf 3 x : Int) == (tagOf 3 x : Int)))) rfl rfl (hA.got 34 114 (by kernel_rfl)) hK fun hB hK => ?_
            have e116 : aa.tmps.getD 116 undef = .int .i64 (tagOf 3 x) := (hA.got 36 116 (by kernel_rfl)).1 hB
            have e118 : aa.tmps.getD 118 undef = .int .i64 (tagOf 3 x) := (hA.got 38 118 (by kernel_rfl)).1 hB
            exact gives hK (v := .bool ((tagOf 3 x : Int) == (tagOf 3 x : Int))) (by simp [execOp, Act.eval, e116, e118, binOp, eqGuard, go_sem]) rfl
          · intro aa ww hA K hK
            refine free rfl ?_
            have e114 : aa.tmps.getD 114 undef = .bool (z34) := hA.got 34 114 (by kernel_rfl)
            rcases hq : (z34) with _ | _
            · rw [hq] at e114
              exact gives hK (v := .bool false) (by simp [execOp, Act.eval, e114, asBool, go_sem]) (show Value.bool _ = .bool _ by rw [hq]; simp)
            · have ex : aa.tmps.getD 119 undef = .bool ((tagOf 3 x : Int) == (tagOf 3 x : Int)) := (hA.got 39 119 (by kernel_rfl)).1 (by rw [hq]; rfl)
              rw [hq] at e114
              exact gives hK (v := .bool ((tagOf 3 x : Int) == (tagOf 3 x : Int))) (by simp [execOp, Act.eval, e114, ex, asBool, go_sem]) (show Value.bool _ = .bool _ by rw [hq]; simp)
          · intro aa ww hA K hK
            refine free rfl ?_
            exact gives hK rfl (hA.got 40 120 (by kernel_rfl))
        · intro a1 w1 hb hd hsz hold hgot
          have e2 : a1.tmps.getD 2 undef = .bool ((z34) && ((tagOf 3 x : Int) == (tagOf 3 x : Int))) := hgot 41 2 (by kernel_rfl)
          have HF9 : ((z34) && ((tagOf 3 x : Int) == (tagOf 3 x : Int))) = true := by
            have k6 : z6 = true := by rw [Hz6.out]; simp
            have k13 : z13 = true := by rw [Hz13.out, k6]; have := HQl.out; simp; omega
            have k22 : z22 = true := by rw [Hz22.out, k13]; simp
            have k34 : z34 = true := by rw [Hz34.out, k22, Hz28.out, isKeys_one]; simp
            rw [k34]
            simp
          rw [HF9] at e2
          rename_i K9 hK9
          refine hK9 a1 w1 (wp_ret ?_)
          exact bodyPost_ret (v := .bool true) (by simp [results, Try.results3, go_sem]; rw [← Array.getD_eq_getD_getElem?]; exact e2) (hd.trans rfl) ⟨rfl, HB9.out.trans ((R06.below_drew hb).mono HB9.out.size)⟩
end Go.Proofs.Ythhibhnclbnhlaa.W07F
