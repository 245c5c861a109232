/- The laws' own helpers on a struct: Signed. -/
import Derived.Test.YthhmhcmlbpdlbaaR14
import Derived.Test.YthhmhcmlbpdlbaaLD
import Derived.Test.YthhmhcmlbpdlbaaTW
import Derived.Test.YthhmhcmlbpdlbaaTWG07
import Derived.Test.YthhmhcmlbpdlbaaT13
namespace Go.Proofs.Ythhmhcmlbpdlbaa.T14
open Go.RowKit Mem MemS Rep RepA T01 BX R14 TW R13 T13 T13S Flat R07 T07 TWG07
set_option linter.unusedVariables false
set_option linter.unusedSimpArgs false
set_option maxRecDepth 100000
theorem RSigned_flds {w : World} {P : Nat → Prop} {cs : List Value} {k : Signed} (h : RSigned.rd w P cs k) : ∃ A0 n0 c0 A1 n1 c1 A2 n2 c2 A3 n3 c3, cs = [.int .i64 k.head.zone, .int .i64 k.head.epoch, .int .i64 k.head.kind, .int .i64 k.head.time, .int .i64 k.head.until_, .int .i64 k.head.count, .int .i64 k.head.root, .int .i64 k.head.prev, .slice A0 n0 c0, .int .i64 k.head.keys.need, .slice A1 n1 c1, .int .i64 k.head.heirs.need, .int .i64 k.head.wait, .slice A2 n2 c2, .int .i64 k.head.judge.need, .bool k.head.frozen, .slice A3 n3 c3] ∧ RHead.rd w P [.int .i64 k.head.zone, .int .i64 k.head.epoch, .int .i64 k.head.kind, .int .i64 k.head.time, .int .i64 k.head.until_, .int .i64 k.head.count, .int .i64 k.head.root, .int .i64 k.head.prev, .slice A0 n0 c0, .int .i64 k.head.keys.need, .slice A1 n1 c1, .int .i64 k.head.heirs.need, .int .i64 k.head.wait, .slice A2 n2 c2, .int .i64 k.head.judge.need, .bool k.head.frozen] k.head ∧ RL_Sig.rd w P [.slice A3 n3 c3] k.sigs := by
  obtain ⟨d0, e0, rfl, h0, ⟨A3, n3, c3, rfl, x1, y1, h1⟩⟩ := h
  obtain ⟨A0, n0, c0, A1, n1, c1, A2, n2, c2, rfl⟩ := RHead_shape h0
  exact ⟨A0, n0, c0, A1, n1, c1, A2, n2, c2, A3, n3, c3, rfl, h0, ⟨A3, n3, c3, rfl, x1, y1, h1⟩⟩
set_option maxHeartbeats 4000000 in
theorem szSigned_any (cs : List Value) (k : Signed) (q : Int) (w : World) (h : RSigned.rd w (Lt w.heap.size) cs k) (hq0 : 0 ≤ q) (hq1 : q ≤ 1048576) :
    Calls Try.prog 26 #[.agg cs.toArray, .int .i64 q] w fun e w' => e = .returned (.int .i64 (if q < (totSigned k : Int) then -1 else q - (totSigned k : Int))) ∧ Below w.heap.size w w' := by
  obtain ⟨A0, n0, c0, A1, n1, c1, A2, n2, c2, A3, n3, c3, rfl, h0, h1⟩ := RSigned_flds h
  have S0 := Lib.hid (fun (q1 : Int) (w1 : World) (hb : Below w.heap.size w w1) (g0 : 0 ≤ q1) (g1 : q1 ≤ 1048576) => szHead_any [.int .i64 k.head.zone, .int .i64 k.head.epoch, .int .i64 k.head.kind, .int .i64 k.head.time, .int .i64 k.head.until_, .int .i64 k.head.count, .int .i64 k.head.root, .int .i64 k.head.prev, .slice A0 n0 c0, .int .i64 k.head.keys.need, .slice A1 n1 c1, .int .i64 k.head.heirs.need, .int .i64 k.head.wait, .slice A2 n2 c2, .int .i64 k.head.judge.need, .bool k.head.frozen] (k.head) q1 w1 (rd_up h0 hb) g0 g1)
  have S1 := Lib.hid (fun (q1 : Int) (w1 : World) (hb : Below w.heap.size w w1) (g0 : 0 ≤ q1) (g1 : q1 ≤ 1048576) => u_sz_Sig A3 n3 c3 (k.sigs) q1 w1 (rd_up h1 hb) g0 g1)
  obtain ⟨t0, ht0⟩ : ∃ t : Nat, t = totHead k.head := ⟨_, rfl⟩
  obtain ⟨t1, ht1⟩ : ∃ t : Nat, t = k.sigs.length := ⟨_, rfl⟩
  have hT : totSigned k = t0 + t1 := by unfold totSigned; omega
  rw [hT]
  rw [← ht0] at S0
  rw [← ht1] at S1
  clear hT h h0 h1 ht0 ht1
  by_cases hx0 : q < (t0 : Int)
  · skip
    have z0 : q - (t0 : Int) < 0 := by omega
    have V0 := Lib.hid (fun w1 hb => S0.out (q) w1 hb (by omega) (by omega))
    simp only [if_pos (show  q < (t0 : Int) by omega)] at V0
    rw [if_pos (by omega)]
    clear S0 S1
    obtain ⟨V, hV⟩ : ∃ V, V = w.alloc (.cells #[.int .i64 k.head.zone, .int .i64 k.head.epoch, .int .i64 k.head.kind, .int .i64 k.head.time, .int .i64 k.head.until_, .int .i64 k.head.count, .int .i64 k.head.root, .int .i64 k.head.prev, .slice A0 n0 c0, .int .i64 k.head.keys.need, .slice A1 n1 c1, .int .i64 k.head.heirs.need, .int .i64 k.head.wait, .slice A2 n2 c2, .int .i64 k.head.judge.need, .bool k.head.frozen, .slice A3 n3 c3] 51) := ⟨_, rfl⟩
    have HB_1 := Lib.hid (show Below w.heap.size w V from by
      rw [hV]
      exact (Below.refl _ _).alloc (by first | (simp; done) | (simp; omega)) _)
    have HX_1 := Lib.hid (show Box V (w.heap.size) [.int .i64 k.head.zone, .int .i64 k.head.epoch, .int .i64 k.head.kind, .int .i64 k.head.time, .int .i64 k.head.until_, .int .i64 k.head.count, .int .i64 k.head.root, .int .i64 k.head.prev, .slice A0 n0 c0, .int .i64 k.head.keys.need, .slice A1 n1 c1, .int .i64 k.head.heirs.need, .int .i64 k.head.wait, .slice A2 n2 c2, .int .i64 k.head.judge.need, .bool k.head.frozen, .slice A3 n3 c3] from by
      rw [hV]
      have := (Box.new w #[.int .i64 k.head.zone, .int .i64 k.head.epoch, .int .i64 k.head.kind, .int .i64 k.head.time, .int .i64 k.head.until_, .int .i64 k.head.count, .int .i64 k.head.root, .int .i64 k.head.prev, .slice A0 n0 c0, .int .i64 k.head.keys.need, .slice A1 n1 c1, .int .i64 k.head.heirs.need, .int .i64 k.head.wait, .slice A2 n2 c2, .int .i64 k.head.judge.need, .bool k.head.frozen, .slice A3 n3 c3] 51)
      simpa using this)
    have HV := Lib.hid hV
    clear hV
    go_enter Try.func26, Try.ntmps26
    go_wp2_with (first | (rw [show w.alloc (.cells #[.int .i64 k.head.zone, .int .i64 k.head.epoch, .int .i64 k.head.kind, .int .i64 k.head.time, .int .i64 k.head.until_, .int .i64 k.head.count, .int .i64 k.head.root, .int .i64 k.head.prev, .slice A0 n0 c0, .int .i64 k.head.keys.need, .slice A1 n1 c1, .int .i64 k.head.heirs.need, .int .i64 k.head.wait, .slice A2 n2 c2, .int .i64 k.head.judge.need, .bool k.head.frozen, .slice A3 n3 c3] 51) = V from HV.out.symm]; refine LD.wp_ldm LD.big_lHead rfl _ rfl rfl [] [.int .i64 k.head.zone, .int .i64 k.head.epoch, .int .i64 k.head.kind, .int .i64 k.head.time, .int .i64 k.head.until_, .int .i64 k.head.count, .int .i64 k.head.root, .int .i64 k.head.prev, .slice A0 n0 c0, .int .i64 k.head.keys.need, .slice A1 n1 c1, .int .i64 k.head.heirs.need, .int .i64 k.head.wait, .slice A2 n2 c2, .int .i64 k.head.judge.need, .bool k.head.frozen] [.slice A3 n3 c3] (show Box V (w.heap.size) ([] ++ [.int .i64 k.head.zone, .int .i64 k.head.epoch, .int .i64 k.head.kind, .int .i64 k.head.time, .int .i64 k.head.until_, .int .i64 k.head.count, .int .i64 k.head.root, .int .i64 k.head.prev, .slice A0 n0 c0, .int .i64 k.head.keys.need, .slice A1 n1 c1, .int .i64 k.head.heirs.need, .int .i64 k.head.wait, .slice A2 n2 c2, .int .i64 k.head.judge.need, .bool k.head.frozen] ++ [.slice A3 n3 c3]) from HX_1.out) rfl rfl ?_))
    try rw [show w.alloc (.cells #[.int .i64 k.head.zone, .int .i64 k.head.epoch, .int .i64 k.head.kind, .int .i64 k.head.time, .int .i64 k.head.until_, .int .i64 k.head.count, .int .i64 k.head.root, .int .i64 k.head.prev, .slice A0 n0 c0, .int .i64 k.head.keys.need, .slice A1 n1 c1, .int .i64 k.head.heirs.need, .int .i64 k.head.wait, .slice A2 n2 c2, .int .i64 k.head.judge.need, .bool k.head.frozen, .slice A3 n3 c3] 51) = V from HV.out.symm]
    refine (V0.out _ HB_1.out).mono ?_
    rintro e W0 ⟨rfl, hb⟩
    have HB_2 := Lib.hid (HB_1.out.trans (hb.mono HB_1.out.size))
    have HX_2 := Lib.hid (HX_1.out.below hb HX_1.out.lt)
    clear hb
    go_wp2
    go_ret
    exact ⟨rfl, HB_2.out⟩
  · skip
    by_cases hx1 : q - (t0 : Int) < (t1 : Int)
    · skip
      have z0 : ¬ q - (t0 : Int) < 0 := by omega
      have z1 : q - (t0 : Int) - (t1 : Int) < 0 := by omega
      have V0 := Lib.hid (fun w1 hb => S0.out (q) w1 hb (by omega) (by omega))
      simp only [if_neg (show ¬ q < (t0 : Int) by omega)] at V0
      have V1 := Lib.hid (fun w1 hb => S1.out (q - (t0 : Int)) w1 hb (by omega) (by omega))
      simp only [if_pos (show  q - (t0 : Int) < (t1 : Int) by omega)] at V1
      rw [if_pos (by omega)]
      clear S0 S1
      obtain ⟨V, hV⟩ : ∃ V, V = w.alloc (.cells #[.int .i64 k.head.zone, .int .i64 k.head.epoch, .int .i64 k.head.kind, .int .i64 k.head.time, .int .i64 k.head.until_, .int .i64 k.head.count, .int .i64 k.head.root, .int .i64 k.head.prev, .slice A0 n0 c0, .int .i64 k.head.keys.need, .slice A1 n1 c1, .int .i64 k.head.heirs.need, .int .i64 k.head.wait, .slice A2 n2 c2, .int .i64 k.head.judge.need, .bool k.head.frozen, .slice A3 n3 c3] 51) := ⟨_, rfl⟩
      have HB_1 := Lib.hid (show Below w.heap.size w V from by
        rw [hV]
        exact (Below.refl _ _).alloc (by first | (simp; done) | (simp; omega)) _)
      have HX_1 := Lib.hid (show Box V (w.heap.size) [.int .i64 k.head.zone, .int .i64 k.head.epoch, .int .i64 k.head.kind, .int .i64 k.head.time, .int .i64 k.head.until_, .int .i64 k.head.count, .int .i64 k.head.root, .int .i64 k.head.prev, .slice A0 n0 c0, .int .i64 k.head.keys.need, .slice A1 n1 c1, .int .i64 k.head.heirs.need, .int .i64 k.head.wait, .slice A2 n2 c2, .int .i64 k.head.judge.need, .bool k.head.frozen, .slice A3 n3 c3] from by
        rw [hV]
        have := (Box.new w #[.int .i64 k.head.zone, .int .i64 k.head.epoch, .int .i64 k.head.kind, .int .i64 k.head.time, .int .i64 k.head.until_, .int .i64 k.head.count, .int .i64 k.head.root, .int .i64 k.head.prev, .slice A0 n0 c0, .int .i64 k.head.keys.need, .slice A1 n1 c1, .int .i64 k.head.heirs.need, .int .i64 k.head.wait, .slice A2 n2 c2, .int .i64 k.head.judge.need, .bool k.head.frozen, .slice A3 n3 c3] 51)
        simpa using this)
      have HV := Lib.hid hV
      clear hV
      go_enter Try.func26, Try.ntmps26
      go_wp2_with (first | (rw [show w.alloc (.cells #[.int .i64 k.head.zone, .int .i64 k.head.epoch, .int .i64 k.head.kind, .int .i64 k.head.time, .int .i64 k.head.until_, .int .i64 k.head.count, .int .i64 k.head.root, .int .i64 k.head.prev, .slice A0 n0 c0, .int .i64 k.head.keys.need, .slice A1 n1 c1, .int .i64 k.head.heirs.need, .int .i64 k.head.wait, .slice A2 n2 c2, .int .i64 k.head.judge.need, .bool k.head.frozen, .slice A3 n3 c3] 51) = V from HV.out.symm]; refine LD.wp_ldm LD.big_lHead rfl _ rfl rfl [] [.int .i64 k.head.zone, .int .i64 k.head.epoch, .int .i64 k.head.kind, .int .i64 k.head.time, .int .i64 k.head.until_, .int .i64 k.head.count, .int .i64 k.head.root, .int .i64 k.head.prev, .slice A0 n0 c0, .int .i64 k.head.keys.need, .slice A1 n1 c1, .int .i64 k.head.heirs.need, .int .i64 k.head.wait, .slice A2 n2 c2, .int .i64 k.head.judge.need, .bool k.head.frozen] [.slice A3 n3 c3] (show Box V (w.heap.size) ([] ++ [.int .i64 k.head.zone, .int .i64 k.head.epoch, .int .i64 k.head.kind, .int .i64 k.head.time, .int .i64 k.head.until_, .int .i64 k.head.count, .int .i64 k.head.root, .int .i64 k.head.prev, .slice A0 n0 c0, .int .i64 k.head.keys.need, .slice A1 n1 c1, .int .i64 k.head.heirs.need, .int .i64 k.head.wait, .slice A2 n2 c2, .int .i64 k.head.judge.need, .bool k.head.frozen] ++ [.slice A3 n3 c3]) from HX_1.out) rfl rfl ?_))
      try rw [show w.alloc (.cells #[.int .i64 k.head.zone, .int .i64 k.head.epoch, .int .i64 k.head.kind, .int .i64 k.head.time, .int .i64 k.head.until_, .int .i64 k.head.count, .int .i64 k.head.root, .int .i64 k.head.prev, .slice A0 n0 c0, .int .i64 k.head.keys.need, .slice A1 n1 c1, .int .i64 k.head.heirs.need, .int .i64 k.head.wait, .slice A2 n2 c2, .int .i64 k.head.judge.need, .bool k.head.frozen, .slice A3 n3 c3] 51) = V from HV.out.symm]
      refine (V0.out _ HB_1.out).mono ?_
      rintro e W0 ⟨rfl, hb⟩
      have HB_2 := Lib.hid (HB_1.out.trans (hb.mono HB_1.out.size))
      have HX_2 := Lib.hid (HX_1.out.below hb HX_1.out.lt)
      clear hb
      have zX0 := HX_2.out.cell (j := 0) rfl
      have zX1 := HX_2.out.cell (j := 1) rfl
      have zX2 := HX_2.out.cell (j := 2) rfl
      have zX3 := HX_2.out.cell (j := 3) rfl
      have zX4 := HX_2.out.cell (j := 4) rfl
      have zX5 := HX_2.out.cell (j := 5) rfl
      have zX6 := HX_2.out.cell (j := 6) rfl
      have zX7 := HX_2.out.cell (j := 7) rfl
      have zX8 := HX_2.out.cell (j := 8) rfl
      have zX9 := HX_2.out.cell (j := 9) rfl
      have zX10 := HX_2.out.cell (j := 10) rfl
      have zX11 := HX_2.out.cell (j := 11) rfl
      have zX12 := HX_2.out.cell (j := 12) rfl
      have zX13 := HX_2.out.cell (j := 13) rfl
      have zX14 := HX_2.out.cell (j := 14) rfl
      have zX15 := HX_2.out.cell (j := 15) rfl
      have zX16 := HX_2.out.cell (j := 16) rfl
      go_wp2_with fail
      clear zX0 zX1 zX2 zX3 zX4 zX5 zX6 zX7 zX8 zX9 zX10 zX11 zX12 zX13 zX14 zX15 zX16
      refine (V1.out _ HB_2.out).mono ?_
      rintro e W1 ⟨rfl, hb⟩
      have HB_3 := Lib.hid (HB_2.out.trans (hb.mono HB_2.out.size))
      have HX_3 := Lib.hid (HX_2.out.below hb HX_2.out.lt)
      clear hb
      go_wp2
      go_ret
      exact ⟨rfl, HB_3.out⟩
    · skip
      have z0 : ¬ q - (t0 : Int) < 0 := by omega
      have z1 : ¬ q - (t0 : Int) - (t1 : Int) < 0 := by omega
      have V0 := Lib.hid (fun w1 hb => S0.out (q) w1 hb (by omega) (by omega))
      simp only [if_neg (show ¬ q < (t0 : Int) by omega)] at V0
      have V1 := Lib.hid (fun w1 hb => S1.out (q - (t0 : Int)) w1 hb (by omega) (by omega))
      simp only [if_neg (show ¬ q - (t0 : Int) < (t1 : Int) by omega)] at V1
      rw [if_neg (by omega)]
      rw [show q - ((t0 + t1 : Nat) : Int) = q - (t0 : Int) - (t1 : Int) by omega]
      clear S0 S1
      obtain ⟨V, hV⟩ : ∃ V, V = w.alloc (.cells #[.int .i64 k.head.zone, .int .i64 k.head.epoch, .int .i64 k.head.kind, .int .i64 k.head.time, .int .i64 k.head.until_, .int .i64 k.head.count, .int .i64 k.head.root, .int .i64 k.head.prev, .slice A0 n0 c0, .int .i64 k.head.keys.need, .slice A1 n1 c1, .int .i64 k.head.heirs.need, .int .i64 k.head.wait, .slice A2 n2 c2, .int .i64 k.head.judge.need, .bool k.head.frozen, .slice A3 n3 c3] 51) := ⟨_, rfl⟩
      have HB_1 := Lib.hid (show Below w.heap.size w V from by
        rw [hV]
        exact (Below.refl _ _).alloc (by first | (simp; done) | (simp; omega)) _)
      have HX_1 := Lib.hid (show Box V (w.heap.size) [.int .i64 k.head.zone, .int .i64 k.head.epoch, .int .i64 k.head.kind, .int .i64 k.head.time, .int .i64 k.head.until_, .int .i64 k.head.count, .int .i64 k.head.root, .int .i64 k.head.prev, .slice A0 n0 c0, .int .i64 k.head.keys.need, .slice A1 n1 c1, .int .i64 k.head.heirs.need, .int .i64 k.head.wait, .slice A2 n2 c2, .int .i64 k.head.judge.need, .bool k.head.frozen, .slice A3 n3 c3] from by
        rw [hV]
        have := (Box.new w #[.int .i64 k.head.zone, .int .i64 k.head.epoch, .int .i64 k.head.kind, .int .i64 k.head.time, .int .i64 k.head.until_, .int .i64 k.head.count, .int .i64 k.head.root, .int .i64 k.head.prev, .slice A0 n0 c0, .int .i64 k.head.keys.need, .slice A1 n1 c1, .int .i64 k.head.heirs.need, .int .i64 k.head.wait, .slice A2 n2 c2, .int .i64 k.head.judge.need, .bool k.head.frozen, .slice A3 n3 c3] 51)
        simpa using this)
      have HV := Lib.hid hV
      clear hV
      go_enter Try.func26, Try.ntmps26
      go_wp2_with (first | (rw [show w.alloc (.cells #[.int .i64 k.head.zone, .int .i64 k.head.epoch, .int .i64 k.head.kind, .int .i64 k.head.time, .int .i64 k.head.until_, .int .i64 k.head.count, .int .i64 k.head.root, .int .i64 k.head.prev, .slice A0 n0 c0, .int .i64 k.head.keys.need, .slice A1 n1 c1, .int .i64 k.head.heirs.need, .int .i64 k.head.wait, .slice A2 n2 c2, .int .i64 k.head.judge.need, .bool k.head.frozen, .slice A3 n3 c3] 51) = V from HV.out.symm]; refine LD.wp_ldm LD.big_lHead rfl _ rfl rfl [] [.int .i64 k.head.zone, .int .i64 k.head.epoch, .int .i64 k.head.kind, .int .i64 k.head.time, .int .i64 k.head.until_, .int .i64 k.head.count, .int .i64 k.head.root, .int .i64 k.head.prev, .slice A0 n0 c0, .int .i64 k.head.keys.need, .slice A1 n1 c1, .int .i64 k.head.heirs.need, .int .i64 k.head.wait, .slice A2 n2 c2, .int .i64 k.head.judge.need, .bool k.head.frozen] [.slice A3 n3 c3] (show Box V (w.heap.size) ([] ++ [.int .i64 k.head.zone, .int .i64 k.head.epoch, .int .i64 k.head.kind, .int .i64 k.head.time, .int .i64 k.head.until_, .int .i64 k.head.count, .int .i64 k.head.root, .int .i64 k.head.prev, .slice A0 n0 c0, .int .i64 k.head.keys.need, .slice A1 n1 c1, .int .i64 k.head.heirs.need, .int .i64 k.head.wait, .slice A2 n2 c2, .int .i64 k.head.judge.need, .bool k.head.frozen] ++ [.slice A3 n3 c3]) from HX_1.out) rfl rfl ?_))
      try rw [show w.alloc (.cells #[.int .i64 k.head.zone, .int .i64 k.head.epoch, .int .i64 k.head.kind, .int .i64 k.head.time, .int .i64 k.head.until_, .int .i64 k.head.count, .int .i64 k.head.root, .int .i64 k.head.prev, .slice A0 n0 c0, .int .i64 k.head.keys.need, .slice A1 n1 c1, .int .i64 k.head.heirs.need, .int .i64 k.head.wait, .slice A2 n2 c2, .int .i64 k.head.judge.need, .bool k.head.frozen, .slice A3 n3 c3] 51) = V from HV.out.symm]
      refine (V0.out _ HB_1.out).mono ?_
      rintro e W0 ⟨rfl, hb⟩
      have HB_2 := Lib.hid (HB_1.out.trans (hb.mono HB_1.out.size))
      have HX_2 := Lib.hid (HX_1.out.below hb HX_1.out.lt)
      clear hb
      have zX0 := HX_2.out.cell (j := 0) rfl
      have zX1 := HX_2.out.cell (j := 1) rfl
      have zX2 := HX_2.out.cell (j := 2) rfl
      have zX3 := HX_2.out.cell (j := 3) rfl
      have zX4 := HX_2.out.cell (j := 4) rfl
      have zX5 := HX_2.out.cell (j := 5) rfl
      have zX6 := HX_2.out.cell (j := 6) rfl
      have zX7 := HX_2.out.cell (j := 7) rfl
      have zX8 := HX_2.out.cell (j := 8) rfl
      have zX9 := HX_2.out.cell (j := 9) rfl
      have zX10 := HX_2.out.cell (j := 10) rfl
      have zX11 := HX_2.out.cell (j := 11) rfl
      have zX12 := HX_2.out.cell (j := 12) rfl
      have zX13 := HX_2.out.cell (j := 13) rfl
      have zX14 := HX_2.out.cell (j := 14) rfl
      have zX15 := HX_2.out.cell (j := 15) rfl
      have zX16 := HX_2.out.cell (j := 16) rfl
      go_wp2_with fail
      clear zX0 zX1 zX2 zX3 zX4 zX5 zX6 zX7 zX8 zX9 zX10 zX11 zX12 zX13 zX14 zX15 zX16
      refine (V1.out _ HB_2.out).mono ?_
      rintro e W1 ⟨rfl, hb⟩
      have HB_3 := Lib.hid (HB_2.out.trans (hb.mono HB_2.out.size))
      have HX_3 := Lib.hid (HX_2.out.below hb HX_2.out.lt)
      clear hb
      go_wp2
      go_ret
      exact ⟨rfl, HB_3.out⟩
set_option maxHeartbeats 4000000 in
theorem eqSigned_same (B B' : Nat) (cs cs' : List Value) (k : Signed) (w : World) (h : RSigned.rd w (Lt B) cs k) (h' : RSigned.rd w (Lt B') cs' k) (hB : B ≤ w.heap.size) (hB' : B' ≤ w.heap.size) (hn : totSigned k ≤ 34359738368) :
    Calls Try.prog 18 #[.agg cs.toArray, .agg cs'.toArray] w fun e w' => e = .returned (.bool true) ∧ Below w.heap.size w w' := by
  obtain ⟨A0, n0, c0, A1, n1, c1, A2, n2, c2, A3, n3, c3, rfl, h0, h1⟩ := RSigned_flds (RSigned.more h fun i hi => Nat.lt_of_lt_of_le hi hB)
  obtain ⟨A0', n0', c0', A1', n1', c1', A2', n2', c2', A3', n3', c3', rfl, h0', h1'⟩ := RSigned_flds (RSigned.more h' fun i hi => Nat.lt_of_lt_of_le hi hB')
  unfold totSigned at hn
  have D0 := Lib.hid h0
  have E0 := Lib.hid h0'
  have N0 := Lib.hid (show totHead k.head ≤ 34359738368 by omega)
  have D1 := Lib.hid h1
  have E1 := Lib.hid h1'
  have N1 := Lib.hid (show k.sigs.length ≤ 34359738368 by omega)
  clear h h' hn hB hB' h0 h0' h1 h1'
  obtain ⟨V, hV⟩ : ∃ V, V = (w.alloc (.cells #[.int .i64 k.head.zone, .int .i64 k.head.epoch, .int .i64 k.head.kind, .int .i64 k.head.time, .int .i64 k.head.until_, .int .i64 k.head.count, .int .i64 k.head.root, .int .i64 k.head.prev, .slice A0 n0 c0, .int .i64 k.head.keys.need, .slice A1 n1 c1, .int .i64 k.head.heirs.need, .int .i64 k.head.wait, .slice A2 n2 c2, .int .i64 k.head.judge.need, .bool k.head.frozen, .slice A3 n3 c3] 38)).alloc (.cells #[.int .i64 k.head.zone, .int .i64 k.head.epoch, .int .i64 k.head.kind, .int .i64 k.head.time, .int .i64 k.head.until_, .int .i64 k.head.count, .int .i64 k.head.root, .int .i64 k.head.prev, .slice A0' n0' c0', .int .i64 k.head.keys.need, .slice A1' n1' c1', .int .i64 k.head.heirs.need, .int .i64 k.head.wait, .slice A2' n2' c2', .int .i64 k.head.judge.need, .bool k.head.frozen, .slice A3' n3' c3'] 38) := ⟨_, rfl⟩
  have HB_1 := Lib.hid (show Below w.heap.size w V from by
    rw [hV]
    exact ((Below.refl _ _).alloc (by first | (simp; done) | (simp; omega)) _).alloc (by first | (simp; done) | (simp; omega)) _)
  have HX_1 := Lib.hid (show Box V (w.heap.size) [.int .i64 k.head.zone, .int .i64 k.head.epoch, .int .i64 k.head.kind, .int .i64 k.head.time, .int .i64 k.head.until_, .int .i64 k.head.count, .int .i64 k.head.root, .int .i64 k.head.prev, .slice A0 n0 c0, .int .i64 k.head.keys.need, .slice A1 n1 c1, .int .i64 k.head.heirs.need, .int .i64 k.head.wait, .slice A2 n2 c2, .int .i64 k.head.judge.need, .bool k.head.frozen, .slice A3 n3 c3] from by
    rw [hV]
    have := ((Box.new w #[.int .i64 k.head.zone, .int .i64 k.head.epoch, .int .i64 k.head.kind, .int .i64 k.head.time, .int .i64 k.head.until_, .int .i64 k.head.count, .int .i64 k.head.root, .int .i64 k.head.prev, .slice A0 n0 c0, .int .i64 k.head.keys.need, .slice A1 n1 c1, .int .i64 k.head.heirs.need, .int .i64 k.head.wait, .slice A2 n2 c2, .int .i64 k.head.judge.need, .bool k.head.frozen, .slice A3 n3 c3] 38).alloc (.cells #[.int .i64 k.head.zone, .int .i64 k.head.epoch, .int .i64 k.head.kind, .int .i64 k.head.time, .int .i64 k.head.until_, .int .i64 k.head.count, .int .i64 k.head.root, .int .i64 k.head.prev, .slice A0' n0' c0', .int .i64 k.head.keys.need, .slice A1' n1' c1', .int .i64 k.head.heirs.need, .int .i64 k.head.wait, .slice A2' n2' c2', .int .i64 k.head.judge.need, .bool k.head.frozen, .slice A3' n3' c3'] 38))
    simpa using this)
  have HY_1 := Lib.hid (show Box V (w.heap.size + 1) [.int .i64 k.head.zone, .int .i64 k.head.epoch, .int .i64 k.head.kind, .int .i64 k.head.time, .int .i64 k.head.until_, .int .i64 k.head.count, .int .i64 k.head.root, .int .i64 k.head.prev, .slice A0' n0' c0', .int .i64 k.head.keys.need, .slice A1' n1' c1', .int .i64 k.head.heirs.need, .int .i64 k.head.wait, .slice A2' n2' c2', .int .i64 k.head.judge.need, .bool k.head.frozen, .slice A3' n3' c3'] from by
    rw [hV]
    have := (Box.new (w.alloc (.cells #[.int .i64 k.head.zone, .int .i64 k.head.epoch, .int .i64 k.head.kind, .int .i64 k.head.time, .int .i64 k.head.until_, .int .i64 k.head.count, .int .i64 k.head.root, .int .i64 k.head.prev, .slice A0 n0 c0, .int .i64 k.head.keys.need, .slice A1 n1 c1, .int .i64 k.head.heirs.need, .int .i64 k.head.wait, .slice A2 n2 c2, .int .i64 k.head.judge.need, .bool k.head.frozen, .slice A3 n3 c3] 38)) #[.int .i64 k.head.zone, .int .i64 k.head.epoch, .int .i64 k.head.kind, .int .i64 k.head.time, .int .i64 k.head.until_, .int .i64 k.head.count, .int .i64 k.head.root, .int .i64 k.head.prev, .slice A0' n0' c0', .int .i64 k.head.keys.need, .slice A1' n1' c1', .int .i64 k.head.heirs.need, .int .i64 k.head.wait, .slice A2' n2' c2', .int .i64 k.head.judge.need, .bool k.head.frozen, .slice A3' n3' c3'] 38)
    simpa using this)
  have HV := Lib.hid hV
  clear hV
  go_enter Try.func18, Try.ntmps18
  go_wp2_with (first | (rw [show (w.alloc (.cells #[.int .i64 k.head.zone, .int .i64 k.head.epoch, .int .i64 k.head.kind, .int .i64 k.head.time, .int .i64 k.head.until_, .int .i64 k.head.count, .int .i64 k.head.root, .int .i64 k.head.prev, .slice A0 n0 c0, .int .i64 k.head.keys.need, .slice A1 n1 c1, .int .i64 k.head.heirs.need, .int .i64 k.head.wait, .slice A2 n2 c2, .int .i64 k.head.judge.need, .bool k.head.frozen, .slice A3 n3 c3] 38)).alloc (.cells #[.int .i64 k.head.zone, .int .i64 k.head.epoch, .int .i64 k.head.kind, .int .i64 k.head.time, .int .i64 k.head.until_, .int .i64 k.head.count, .int .i64 k.head.root, .int .i64 k.head.prev, .slice A0' n0' c0', .int .i64 k.head.keys.need, .slice A1' n1' c1', .int .i64 k.head.heirs.need, .int .i64 k.head.wait, .slice A2' n2' c2', .int .i64 k.head.judge.need, .bool k.head.frozen, .slice A3' n3' c3'] 38) = V from HV.out.symm]; refine LD.wp_ldm LD.big_Head rfl _ rfl rfl [] [.int .i64 k.head.zone, .int .i64 k.head.epoch, .int .i64 k.head.kind, .int .i64 k.head.time, .int .i64 k.head.until_, .int .i64 k.head.count, .int .i64 k.head.root, .int .i64 k.head.prev, .slice A0 n0 c0, .int .i64 k.head.keys.need, .slice A1 n1 c1, .int .i64 k.head.heirs.need, .int .i64 k.head.wait, .slice A2 n2 c2, .int .i64 k.head.judge.need, .bool k.head.frozen] [.slice A3 n3 c3] (show Box V (w.heap.size) ([] ++ [.int .i64 k.head.zone, .int .i64 k.head.epoch, .int .i64 k.head.kind, .int .i64 k.head.time, .int .i64 k.head.until_, .int .i64 k.head.count, .int .i64 k.head.root, .int .i64 k.head.prev, .slice A0 n0 c0, .int .i64 k.head.keys.need, .slice A1 n1 c1, .int .i64 k.head.heirs.need, .int .i64 k.head.wait, .slice A2 n2 c2, .int .i64 k.head.judge.need, .bool k.head.frozen] ++ [.slice A3 n3 c3]) from HX_1.out) rfl rfl ?_) | (refine LD.wp_ldm LD.big_Head rfl _ rfl rfl [] [.int .i64 k.head.zone, .int .i64 k.head.epoch, .int .i64 k.head.kind, .int .i64 k.head.time, .int .i64 k.head.until_, .int .i64 k.head.count, .int .i64 k.head.root, .int .i64 k.head.prev, .slice A0' n0' c0', .int .i64 k.head.keys.need, .slice A1' n1' c1', .int .i64 k.head.heirs.need, .int .i64 k.head.wait, .slice A2' n2' c2', .int .i64 k.head.judge.need, .bool k.head.frozen] [.slice A3' n3' c3'] (show Box V (w.heap.size + 1) ([] ++ [.int .i64 k.head.zone, .int .i64 k.head.epoch, .int .i64 k.head.kind, .int .i64 k.head.time, .int .i64 k.head.until_, .int .i64 k.head.count, .int .i64 k.head.root, .int .i64 k.head.prev, .slice A0' n0' c0', .int .i64 k.head.keys.need, .slice A1' n1' c1', .int .i64 k.head.heirs.need, .int .i64 k.head.wait, .slice A2' n2' c2', .int .i64 k.head.judge.need, .bool k.head.frozen] ++ [.slice A3' n3' c3']) from HY_1.out) rfl rfl ?_))
  refine (eqHead_same _ _ [.int .i64 k.head.zone, .int .i64 k.head.epoch, .int .i64 k.head.kind, .int .i64 k.head.time, .int .i64 k.head.until_, .int .i64 k.head.count, .int .i64 k.head.root, .int .i64 k.head.prev, .slice A0 n0 c0, .int .i64 k.head.keys.need, .slice A1 n1 c1, .int .i64 k.head.heirs.need, .int .i64 k.head.wait, .slice A2 n2 c2, .int .i64 k.head.judge.need, .bool k.head.frozen] [.int .i64 k.head.zone, .int .i64 k.head.epoch, .int .i64 k.head.kind, .int .i64 k.head.time, .int .i64 k.head.until_, .int .i64 k.head.count, .int .i64 k.head.root, .int .i64 k.head.prev, .slice A0' n0' c0', .int .i64 k.head.keys.need, .slice A1' n1' c1', .int .i64 k.head.heirs.need, .int .i64 k.head.wait, .slice A2' n2' c2', .int .i64 k.head.judge.need, .bool k.head.frozen] (k.head) _ (rd_up D0.out HB_1.out) (rd_up E0.out HB_1.out) (Nat.le_refl _) (Nat.le_refl _) (by have := N0.out; omega)).mono ?_
  rintro e W0 ⟨rfl, hb⟩
  have HB_2 := Lib.hid (HB_1.out.trans (hb.mono HB_1.out.size))
  have HX_2 := Lib.hid (HX_1.out.below hb HX_1.out.lt)
  have HY_2 := Lib.hid (HY_1.out.below hb HY_1.out.lt)
  clear hb
  have zX0 := HX_2.out.cell (j := 0) rfl
  have zX1 := HX_2.out.cell (j := 1) rfl
  have zX2 := HX_2.out.cell (j := 2) rfl
  have zX3 := HX_2.out.cell (j := 3) rfl
  have zX4 := HX_2.out.cell (j := 4) rfl
  have zX5 := HX_2.out.cell (j := 5) rfl
  have zX6 := HX_2.out.cell (j := 6) rfl
  have zX7 := HX_2.out.cell (j := 7) rfl
  have zX8 := HX_2.out.cell (j := 8) rfl
  have zX9 := HX_2.out.cell (j := 9) rfl
  have zX10 := HX_2.out.cell (j := 10) rfl
  have zX11 := HX_2.out.cell (j := 11) rfl
  have zX12 := HX_2.out.cell (j := 12) rfl
  have zX13 := HX_2.out.cell (j := 13) rfl
  have zX14 := HX_2.out.cell (j := 14) rfl
  have zX15 := HX_2.out.cell (j := 15) rfl
  have zX16 := HX_2.out.cell (j := 16) rfl
  have zY0 := HY_2.out.cell (j := 0) rfl
  have zY1 := HY_2.out.cell (j := 1) rfl
  have zY2 := HY_2.out.cell (j := 2) rfl
  have zY3 := HY_2.out.cell (j := 3) rfl
  have zY4 := HY_2.out.cell (j := 4) rfl
  have zY5 := HY_2.out.cell (j := 5) rfl
  have zY6 := HY_2.out.cell (j := 6) rfl
  have zY7 := HY_2.out.cell (j := 7) rfl
  have zY8 := HY_2.out.cell (j := 8) rfl
  have zY9 := HY_2.out.cell (j := 9) rfl
  have zY10 := HY_2.out.cell (j := 10) rfl
  have zY11 := HY_2.out.cell (j := 11) rfl
  have zY12 := HY_2.out.cell (j := 12) rfl
  have zY13 := HY_2.out.cell (j := 13) rfl
  have zY14 := HY_2.out.cell (j := 14) rfl
  have zY15 := HY_2.out.cell (j := 15) rfl
  have zY16 := HY_2.out.cell (j := 16) rfl
  go_wp2_with fail
  clear zX0 zX1 zX2 zX3 zX4 zX5 zX6 zX7 zX8 zX9 zX10 zX11 zX12 zX13 zX14 zX15 zX16 zY0 zY1 zY2 zY3 zY4 zY5 zY6 zY7 zY8 zY9 zY10 zY11 zY12 zY13 zY14 zY15 zY16
  refine (u_eq_Sig A3 A3' n3 c3 n3' c3' (k.sigs) _ (rd_up D1.out HB_2.out) (rd_up E1.out HB_2.out) (by have := N1.out; omega)).mono ?_
  rintro e W1 ⟨rfl, hb⟩
  have HB_3 := Lib.hid (HB_2.out.trans (hb.mono HB_2.out.size))
  have HX_3 := Lib.hid (HX_2.out.below hb HX_2.out.lt)
  have HY_3 := Lib.hid (HY_2.out.below hb HY_2.out.lt)
  clear hb
  go_wp2
  go_ret
  exact ⟨rfl, HB_3.out⟩
set_option maxHeartbeats 8000000 in
theorem toSigned_any (cs : List Value) (k : Signed) (w : World) (h : RSigned.rd w (Lt w.heap.size) cs k) (hn : totSigned k ≤ 1048576) :
    Calls Try.prog 28 #[.agg cs.toArray] w fun e w' => ∃ cs', e = .returned (.agg (List.toArray cs')) ∧ OwnI RSigned w' w.heap.size w'.heap.size cs' k ∧ Below w.heap.size w w' := by
  obtain ⟨A0, n0, c0, A1, n1, c1, A2, n2, c2, A3, n3, c3, rfl, h0, h1⟩ := RSigned_flds h
  unfold totSigned at hn
  have D0 := Lib.hid h0
  have D1 := Lib.hid h1
  have N0 := Lib.hid (show totHead k.head ≤ 1048576 by omega)
  have N1 := Lib.hid (show k.sigs.length ≤ 1048576 by omega)
  clear h hn h0 h1
  obtain ⟨V0, hV0⟩ : ∃ V, V = ((w.alloc (.cells #[.int .i64 k.head.zone, .int .i64 k.head.epoch, .int .i64 k.head.kind, .int .i64 k.head.time, .int .i64 k.head.until_, .int .i64 k.head.count, .int .i64 k.head.root, .int .i64 k.head.prev, .slice A0 n0 c0, .int .i64 k.head.keys.need, .slice A1 n1 c1, .int .i64 k.head.heirs.need, .int .i64 k.head.wait, .slice A2 n2 c2, .int .i64 k.head.judge.need, .bool k.head.frozen, .slice A3 n3 c3] 51)).alloc (.cells #[.int .i64 0, .int .i64 0, .int .i64 0, .int .i64 0, .int .i64 0, .int .i64 0, .int .i64 0, .int .i64 0, .slice none 0 0, .int .i64 0, .slice none 0 0, .int .i64 0, .int .i64 0, .slice none 0 0, .int .i64 0, .bool false, .slice none 0 0] 38)).alloc (.cells #[.int .i64 0, .int .i64 0, .int .i64 0, .int .i64 0, .int .i64 0, .int .i64 0, .int .i64 0, .int .i64 0, .slice none 0 0, .int .i64 0, .slice none 0 0, .int .i64 0, .int .i64 0, .slice none 0 0, .int .i64 0, .bool false, .slice none 0 0] 38) := ⟨_, rfl⟩
  have HB_1 := Lib.hid (show Below w.heap.size w V0 from by
    rw [hV0]
    exact (((Below.refl _ _).alloc (by first | (simp; done) | (simp; omega)) _).alloc (by first | (simp; done) | (simp; omega)) _).alloc (by first | (simp; done) | (simp; omega)) _)
  have HX_1 := Lib.hid (show Box V0 (w.heap.size) [.int .i64 k.head.zone, .int .i64 k.head.epoch, .int .i64 k.head.kind, .int .i64 k.head.time, .int .i64 k.head.until_, .int .i64 k.head.count, .int .i64 k.head.root, .int .i64 k.head.prev, .slice A0 n0 c0, .int .i64 k.head.keys.need, .slice A1 n1 c1, .int .i64 k.head.heirs.need, .int .i64 k.head.wait, .slice A2 n2 c2, .int .i64 k.head.judge.need, .bool k.head.frozen, .slice A3 n3 c3] from by
    rw [hV0]
    have := (((Box.new w #[.int .i64 k.head.zone, .int .i64 k.head.epoch, .int .i64 k.head.kind, .int .i64 k.head.time, .int .i64 k.head.until_, .int .i64 k.head.count, .int .i64 k.head.root, .int .i64 k.head.prev, .slice A0 n0 c0, .int .i64 k.head.keys.need, .slice A1 n1 c1, .int .i64 k.head.heirs.need, .int .i64 k.head.wait, .slice A2 n2 c2, .int .i64 k.head.judge.need, .bool k.head.frozen, .slice A3 n3 c3] 51).alloc (.cells #[.int .i64 0, .int .i64 0, .int .i64 0, .int .i64 0, .int .i64 0, .int .i64 0, .int .i64 0, .int .i64 0, .slice none 0 0, .int .i64 0, .slice none 0 0, .int .i64 0, .int .i64 0, .slice none 0 0, .int .i64 0, .bool false, .slice none 0 0] 38)).alloc (.cells #[.int .i64 0, .int .i64 0, .int .i64 0, .int .i64 0, .int .i64 0, .int .i64 0, .int .i64 0, .int .i64 0, .slice none 0 0, .int .i64 0, .slice none 0 0, .int .i64 0, .int .i64 0, .slice none 0 0, .int .i64 0, .bool false, .slice none 0 0] 38))
    simpa using this)
  have HR_1 := Lib.hid (show Box V0 (w.heap.size + 1) [.int .i64 0, .int .i64 0, .int .i64 0, .int .i64 0, .int .i64 0, .int .i64 0, .int .i64 0, .int .i64 0, .slice none 0 0, .int .i64 0, .slice none 0 0, .int .i64 0, .int .i64 0, .slice none 0 0, .int .i64 0, .bool false, .slice none 0 0] from by
    rw [hV0]
    have := ((Box.new (w.alloc (.cells #[.int .i64 k.head.zone, .int .i64 k.head.epoch, .int .i64 k.head.kind, .int .i64 k.head.time, .int .i64 k.head.until_, .int .i64 k.head.count, .int .i64 k.head.root, .int .i64 k.head.prev, .slice A0 n0 c0, .int .i64 k.head.keys.need, .slice A1 n1 c1, .int .i64 k.head.heirs.need, .int .i64 k.head.wait, .slice A2 n2 c2, .int .i64 k.head.judge.need, .bool k.head.frozen, .slice A3 n3 c3] 51)) #[.int .i64 0, .int .i64 0, .int .i64 0, .int .i64 0, .int .i64 0, .int .i64 0, .int .i64 0, .int .i64 0, .slice none 0 0, .int .i64 0, .slice none 0 0, .int .i64 0, .int .i64 0, .slice none 0 0, .int .i64 0, .bool false, .slice none 0 0] 38).alloc (.cells #[.int .i64 0, .int .i64 0, .int .i64 0, .int .i64 0, .int .i64 0, .int .i64 0, .int .i64 0, .int .i64 0, .slice none 0 0, .int .i64 0, .slice none 0 0, .int .i64 0, .int .i64 0, .slice none 0 0, .int .i64 0, .bool false, .slice none 0 0] 38))
    simpa using this)
  have HY_1 := Lib.hid (show Box V0 (w.heap.size + 1 + 1) [.int .i64 0, .int .i64 0, .int .i64 0, .int .i64 0, .int .i64 0, .int .i64 0, .int .i64 0, .int .i64 0, .slice none 0 0, .int .i64 0, .slice none 0 0, .int .i64 0, .int .i64 0, .slice none 0 0, .int .i64 0, .bool false, .slice none 0 0] from by
    rw [hV0]
    have := (Box.new ((w.alloc (.cells #[.int .i64 k.head.zone, .int .i64 k.head.epoch, .int .i64 k.head.kind, .int .i64 k.head.time, .int .i64 k.head.until_, .int .i64 k.head.count, .int .i64 k.head.root, .int .i64 k.head.prev, .slice A0 n0 c0, .int .i64 k.head.keys.need, .slice A1 n1 c1, .int .i64 k.head.heirs.need, .int .i64 k.head.wait, .slice A2 n2 c2, .int .i64 k.head.judge.need, .bool k.head.frozen, .slice A3 n3 c3] 51)).alloc (.cells #[.int .i64 0, .int .i64 0, .int .i64 0, .int .i64 0, .int .i64 0, .int .i64 0, .int .i64 0, .int .i64 0, .slice none 0 0, .int .i64 0, .slice none 0 0, .int .i64 0, .int .i64 0, .slice none 0 0, .int .i64 0, .bool false, .slice none 0 0] 38)) #[.int .i64 0, .int .i64 0, .int .i64 0, .int .i64 0, .int .i64 0, .int .i64 0, .int .i64 0, .int .i64 0, .slice none 0 0, .int .i64 0, .slice none 0 0, .int .i64 0, .int .i64 0, .slice none 0 0, .int .i64 0, .bool false, .slice none 0 0] 38)
    simpa using this)
  have HV0 := Lib.hid hV0
  have hs0 : V0.heap.size = w.heap.size + 3 := by rw [hV0]; simp
  clear hV0
  go_enter Try.func28, Try.ntmps28
  go_wp2_with (rw [show ((w.alloc (.cells #[.int .i64 k.head.zone, .int .i64 k.head.epoch, .int .i64 k.head.kind, .int .i64 k.head.time, .int .i64 k.head.until_, .int .i64 k.head.count, .int .i64 k.head.root, .int .i64 k.head.prev, .slice A0 n0 c0, .int .i64 k.head.keys.need, .slice A1 n1 c1, .int .i64 k.head.heirs.need, .int .i64 k.head.wait, .slice A2 n2 c2, .int .i64 k.head.judge.need, .bool k.head.frozen, .slice A3 n3 c3] 51)).alloc (.cells #[.int .i64 0, .int .i64 0, .int .i64 0, .int .i64 0, .int .i64 0, .int .i64 0, .int .i64 0, .int .i64 0, .slice none 0 0, .int .i64 0, .slice none 0 0, .int .i64 0, .int .i64 0, .slice none 0 0, .int .i64 0, .bool false, .slice none 0 0] 38)).alloc (.cells #[.int .i64 0, .int .i64 0, .int .i64 0, .int .i64 0, .int .i64 0, .int .i64 0, .int .i64 0, .int .i64 0, .slice none 0 0, .int .i64 0, .slice none 0 0, .int .i64 0, .int .i64 0, .slice none 0 0, .int .i64 0, .bool false, .slice none 0 0] 38) = V0 from HV0.out.symm]; refine LD.wp_ldm LD.big_lHead rfl _ rfl rfl [] [.int .i64 k.head.zone, .int .i64 k.head.epoch, .int .i64 k.head.kind, .int .i64 k.head.time, .int .i64 k.head.until_, .int .i64 k.head.count, .int .i64 k.head.root, .int .i64 k.head.prev, .slice A0 n0 c0, .int .i64 k.head.keys.need, .slice A1 n1 c1, .int .i64 k.head.heirs.need, .int .i64 k.head.wait, .slice A2 n2 c2, .int .i64 k.head.judge.need, .bool k.head.frozen] [.slice A3 n3 c3] (show Box V0 (w.heap.size) ([] ++ [.int .i64 k.head.zone, .int .i64 k.head.epoch, .int .i64 k.head.kind, .int .i64 k.head.time, .int .i64 k.head.until_, .int .i64 k.head.count, .int .i64 k.head.root, .int .i64 k.head.prev, .slice A0 n0 c0, .int .i64 k.head.keys.need, .slice A1 n1 c1, .int .i64 k.head.heirs.need, .int .i64 k.head.wait, .slice A2 n2 c2, .int .i64 k.head.judge.need, .bool k.head.frozen] ++ [.slice A3 n3 c3]) from HX_1.out) rfl rfl ?_)
  refine (toHead_any [.int .i64 k.head.zone, .int .i64 k.head.epoch, .int .i64 k.head.kind, .int .i64 k.head.time, .int .i64 k.head.until_, .int .i64 k.head.count, .int .i64 k.head.root, .int .i64 k.head.prev, .slice A0 n0 c0, .int .i64 k.head.keys.need, .slice A1 n1 c1, .int .i64 k.head.heirs.need, .int .i64 k.head.wait, .slice A2 n2 c2, .int .i64 k.head.judge.need, .bool k.head.frozen] (k.head) V0 (rd_up D0.out HB_1.out) N0.out).mono ?_
  rintro e W0 ⟨cs0, rfl, ho, hb⟩
  obtain ⟨X0, m0, b0, X1, m1, b1, X2, m2, b2, rfl⟩ := RHead_shape ho.rd
  have HB_2 := Lib.hid (HB_1.out.trans (hb.mono HB_1.out.size))
  have HX_2 := Lib.hid (HX_1.out.below hb HX_1.out.lt)
  have HR_2 := Lib.hid (HR_1.out.below hb HR_1.out.lt)
  have HY_2 := Lib.hid (HY_1.out.below hb HY_1.out.lt)
  have HS0 := Lib.hid (show w.heap.size + 3 ≤ W0.heap.size from by have := hb.size; omega)
  have HO0_2 := Lib.hid (show OwnI RHead W0 (w.heap.size + 3) (W0.heap.size) [.int .i64 k.head.zone, .int .i64 k.head.epoch, .int .i64 k.head.kind, .int .i64 k.head.time, .int .i64 k.head.until_, .int .i64 k.head.count, .int .i64 k.head.root, .int .i64 k.head.prev, .slice X0 m0 b0, .int .i64 k.head.keys.need, .slice X1 m1 b1, .int .i64 k.head.heirs.need, .int .i64 k.head.wait, .slice X2 m2 b2, .int .i64 k.head.judge.need, .bool k.head.frozen] k.head ∧ (W0.heap.size) ≤ W0.heap.size ∧ (w.heap.size + 3) ≤ (w.heap.size + 3) from ⟨ho.wide (by rw [hs0]; exact Nat.le_refl _) (Nat.le_refl _), Nat.le_refl _, Nat.le_refl _⟩)
  clear hb ho
  have lt0 := HY_2.out.lt
  obtain ⟨V1, hV1⟩ : ∃ u9, puts W0 (w.heap.size + 1 + 1) 0 [.int .i64 k.head.zone, .int .i64 k.head.epoch, .int .i64 k.head.kind, .int .i64 k.head.time, .int .i64 k.head.until_, .int .i64 k.head.count, .int .i64 k.head.root, .int .i64 k.head.prev, .slice X0 m0 b0, .int .i64 k.head.keys.need, .slice X1 m1 b1, .int .i64 k.head.heirs.need, .int .i64 k.head.wait, .slice X2 m2 b2, .int .i64 k.head.judge.need, .bool k.head.frozen] = u9 := ⟨_, rfl⟩
  have HB_3 := Lib.hid (pt_bel hV1 HB_2.out (show w.heap.size ≤ (w.heap.size + 1 + 1) by omega))
  have HX_3 := Lib.hid (pt_box hV1 HX_2.out (show (w.heap.size) ≠ (w.heap.size + 1 + 1) by omega))
  have HR_3 := Lib.hid (pt_box hV1 HR_2.out (show (w.heap.size + 1) ≠ (w.heap.size + 1 + 1) by omega))
  have HY_3 := Lib.hid (show Box V1 (w.heap.size + 1 + 1) [.int .i64 k.head.zone, .int .i64 k.head.epoch, .int .i64 k.head.kind, .int .i64 k.head.time, .int .i64 k.head.until_, .int .i64 k.head.count, .int .i64 k.head.root, .int .i64 k.head.prev, .slice X0 m0 b0, .int .i64 k.head.keys.need, .slice X1 m1 b1, .int .i64 k.head.heirs.need, .int .i64 k.head.wait, .slice X2 m2 b2, .int .i64 k.head.judge.need, .bool k.head.frozen, .slice none 0 0] from pt_self hV1 HY_2.out (by simp))
  have HO0_3 := Lib.hid (pt_own hV1 HO0_2.out (show (w.heap.size + 1 + 1) < (w.heap.size + 3) by omega))
  have HV1 := Lib.hid hV1
  clear hV1
  have zX0 := HX_3.out.cell (j := 0) rfl
  have zX1 := HX_3.out.cell (j := 1) rfl
  have zX2 := HX_3.out.cell (j := 2) rfl
  have zX3 := HX_3.out.cell (j := 3) rfl
  have zX4 := HX_3.out.cell (j := 4) rfl
  have zX5 := HX_3.out.cell (j := 5) rfl
  have zX6 := HX_3.out.cell (j := 6) rfl
  have zX7 := HX_3.out.cell (j := 7) rfl
  have zX8 := HX_3.out.cell (j := 8) rfl
  have zX9 := HX_3.out.cell (j := 9) rfl
  have zX10 := HX_3.out.cell (j := 10) rfl
  have zX11 := HX_3.out.cell (j := 11) rfl
  have zX12 := HX_3.out.cell (j := 12) rfl
  have zX13 := HX_3.out.cell (j := 13) rfl
  have zX14 := HX_3.out.cell (j := 14) rfl
  have zX15 := HX_3.out.cell (j := 15) rfl
  have zX16 := HX_3.out.cell (j := 16) rfl
  go_wp2_with (first | (refine LD.wp_stV LD.big_Head rfl _ _ rfl rfl rfl HY_2.out rfl (by decide) rfl HV1.out ?_))
  clear zX0 zX1 zX2 zX3 zX4 zX5 zX6 zX7 zX8 zX9 zX10 zX11 zX12 zX13 zX14 zX15 zX16
  refine (u_to_Sig A3 n3 c3 (k.sigs) V1 (rd_up D1.out HB_3.out) N1.out).mono ?_
  rintro e W1 ⟨X3, m3, b3, rfl, ho, hb⟩
  have HB_4 := Lib.hid (HB_3.out.trans (hb.mono HB_3.out.size))
  have HX_4 := Lib.hid (HX_3.out.below hb HX_3.out.lt)
  have HR_4 := Lib.hid (HR_3.out.below hb HR_3.out.lt)
  have HY_4 := Lib.hid (HY_3.out.below hb HY_3.out.lt)
  have HO0_4 := Lib.hid (show OwnI RHead W1 (w.heap.size + 3) (W0.heap.size) [.int .i64 k.head.zone, .int .i64 k.head.epoch, .int .i64 k.head.kind, .int .i64 k.head.time, .int .i64 k.head.until_, .int .i64 k.head.count, .int .i64 k.head.root, .int .i64 k.head.prev, .slice X0 m0 b0, .int .i64 k.head.keys.need, .slice X1 m1 b1, .int .i64 k.head.heirs.need, .int .i64 k.head.wait, .slice X2 m2 b2, .int .i64 k.head.judge.need, .bool k.head.frozen] k.head ∧ (W0.heap.size) ≤ W1.heap.size ∧ (w.heap.size + 3) ≤ (w.heap.size + 3) from ⟨HO0_3.out.1.below hb HO0_3.out.2.1, Nat.le_trans HO0_3.out.2.1 hb.size, HO0_3.out.2.2⟩)
  have HS1 := Lib.hid (show W0.heap.size ≤ W1.heap.size from Nat.le_trans HO0_3.out.2.1 hb.size)
  have HO1_4 := Lib.hid (show OwnI RL_Sig W1 (W0.heap.size) (W1.heap.size) [.slice X3 m3 b3] k.sigs ∧ (W1.heap.size) ≤ W1.heap.size ∧ (w.heap.size + 3) ≤ (W0.heap.size) from ⟨ho.wide (by have := HO0_3.out.2.1; exact this) (Nat.le_refl _), Nat.le_refl _, by have := HS0.out; have := HS1.out; omega⟩)
  clear hb ho
  have lt1 := HY_4.out.lt
  have zX0 := HX_4.out.cell (j := 0) rfl
  have zX1 := HX_4.out.cell (j := 1) rfl
  have zX2 := HX_4.out.cell (j := 2) rfl
  have zX3 := HX_4.out.cell (j := 3) rfl
  have zX4 := HX_4.out.cell (j := 4) rfl
  have zX5 := HX_4.out.cell (j := 5) rfl
  have zX6 := HX_4.out.cell (j := 6) rfl
  have zX7 := HX_4.out.cell (j := 7) rfl
  have zX8 := HX_4.out.cell (j := 8) rfl
  have zX9 := HX_4.out.cell (j := 9) rfl
  have zX10 := HX_4.out.cell (j := 10) rfl
  have zX11 := HX_4.out.cell (j := 11) rfl
  have zX12 := HX_4.out.cell (j := 12) rfl
  have zX13 := HX_4.out.cell (j := 13) rfl
  have zX14 := HX_4.out.cell (j := 14) rfl
  have zX15 := HX_4.out.cell (j := 15) rfl
  have zX16 := HX_4.out.cell (j := 16) rfl
  have zY0 := HY_4.out.cell (j := 0) rfl
  have fY0 := HY_4.out.warm (j := 0) rfl
  have zY1 := HY_4.out.cell (j := 1) rfl
  have fY1 := HY_4.out.warm (j := 1) rfl
  have zY2 := HY_4.out.cell (j := 2) rfl
  have fY2 := HY_4.out.warm (j := 2) rfl
  have zY3 := HY_4.out.cell (j := 3) rfl
  have fY3 := HY_4.out.warm (j := 3) rfl
  have zY4 := HY_4.out.cell (j := 4) rfl
  have fY4 := HY_4.out.warm (j := 4) rfl
  have zY5 := HY_4.out.cell (j := 5) rfl
  have fY5 := HY_4.out.warm (j := 5) rfl
  have zY6 := HY_4.out.cell (j := 6) rfl
  have fY6 := HY_4.out.warm (j := 6) rfl
  have zY7 := HY_4.out.cell (j := 7) rfl
  have fY7 := HY_4.out.warm (j := 7) rfl
  have zY8 := HY_4.out.cell (j := 8) rfl
  have fY8 := HY_4.out.warm (j := 8) rfl
  have zY9 := HY_4.out.cell (j := 9) rfl
  have fY9 := HY_4.out.warm (j := 9) rfl
  have zY10 := HY_4.out.cell (j := 10) rfl
  have fY10 := HY_4.out.warm (j := 10) rfl
  have zY11 := HY_4.out.cell (j := 11) rfl
  have fY11 := HY_4.out.warm (j := 11) rfl
  have zY12 := HY_4.out.cell (j := 12) rfl
  have fY12 := HY_4.out.warm (j := 12) rfl
  have zY13 := HY_4.out.cell (j := 13) rfl
  have fY13 := HY_4.out.warm (j := 13) rfl
  have zY14 := HY_4.out.cell (j := 14) rfl
  have fY14 := HY_4.out.warm (j := 14) rfl
  have zY15 := HY_4.out.cell (j := 15) rfl
  have fY15 := HY_4.out.warm (j := 15) rfl
  have zY16 := HY_4.out.cell (j := 16) rfl
  have fY16 := HY_4.out.warm (j := 16) rfl
  obtain ⟨V2, hV2⟩ : ∃ u9, puts W1 (w.heap.size + 1 + 1) 16 [.slice X3 m3 b3] = u9 := ⟨_, rfl⟩
  have HB_5 := Lib.hid (pt_bel hV2 HB_4.out (show w.heap.size ≤ (w.heap.size + 1 + 1) by omega))
  have HX_5 := Lib.hid (pt_box hV2 HX_4.out (show (w.heap.size) ≠ (w.heap.size + 1 + 1) by omega))
  have HR_5 := Lib.hid (pt_box hV2 HR_4.out (show (w.heap.size + 1) ≠ (w.heap.size + 1 + 1) by omega))
  have HY_5 := Lib.hid (show Box V2 (w.heap.size + 1 + 1) [.int .i64 k.head.zone, .int .i64 k.head.epoch, .int .i64 k.head.kind, .int .i64 k.head.time, .int .i64 k.head.until_, .int .i64 k.head.count, .int .i64 k.head.root, .int .i64 k.head.prev, .slice X0 m0 b0, .int .i64 k.head.keys.need, .slice X1 m1 b1, .int .i64 k.head.heirs.need, .int .i64 k.head.wait, .slice X2 m2 b2, .int .i64 k.head.judge.need, .bool k.head.frozen, .slice X3 m3 b3] from pt_self hV2 HY_4.out (by simp))
  have HO0_5 := Lib.hid (pt_own hV2 HO0_4.out (show (w.heap.size + 1 + 1) < (w.heap.size + 3) by omega))
  have HO1_5 := Lib.hid (pt_own hV2 HO1_4.out (show (w.heap.size + 1 + 1) < (w.heap.size + 3) by omega))
  have HV2 := Lib.hid hV2
  clear hV2
  obtain ⟨VF, hVF⟩ : ∃ u9, puts V2 (w.heap.size + 1) 0 [.int .i64 k.head.zone, .int .i64 k.head.epoch, .int .i64 k.head.kind, .int .i64 k.head.time, .int .i64 k.head.until_, .int .i64 k.head.count, .int .i64 k.head.root, .int .i64 k.head.prev, .slice X0 m0 b0, .int .i64 k.head.keys.need, .slice X1 m1 b1, .int .i64 k.head.heirs.need, .int .i64 k.head.wait, .slice X2 m2 b2, .int .i64 k.head.judge.need, .bool k.head.frozen, .slice X3 m3 b3] = u9 := ⟨_, rfl⟩
  have HB_6 := Lib.hid (pt_bel hVF HB_5.out (show w.heap.size ≤ (w.heap.size + 1) by omega))
  have HX_6 := Lib.hid (pt_box hVF HX_5.out (show (w.heap.size) ≠ (w.heap.size + 1) by omega))
  have HR_6 := Lib.hid (show Box VF (w.heap.size + 1) [.int .i64 k.head.zone, .int .i64 k.head.epoch, .int .i64 k.head.kind, .int .i64 k.head.time, .int .i64 k.head.until_, .int .i64 k.head.count, .int .i64 k.head.root, .int .i64 k.head.prev, .slice X0 m0 b0, .int .i64 k.head.keys.need, .slice X1 m1 b1, .int .i64 k.head.heirs.need, .int .i64 k.head.wait, .slice X2 m2 b2, .int .i64 k.head.judge.need, .bool k.head.frozen, .slice X3 m3 b3] from pt_self hVF HR_5.out (by simp))
  have HY_6 := Lib.hid (pt_box hVF HY_5.out (show (w.heap.size + 1 + 1) ≠ (w.heap.size + 1) by omega))
  have HO0_6 := Lib.hid (pt_own hVF HO0_5.out (show (w.heap.size + 1) < (w.heap.size + 3) by omega))
  have HO1_6 := Lib.hid (pt_own hVF HO1_5.out (show (w.heap.size + 1) < (w.heap.size + 3) by omega))
  have HVF := Lib.hid hVF
  clear hVF
  go_wp2_with (first | (rw [show W1.setCell ⟨w.heap.size + 1 + 1, 16, none⟩ (.slice X3 m3 b3) = V2 from HV2.out]; refine LD.wp_ld LD.big_Signed rfl _ rfl rfl HY_5.out rfl ?_) | (refine LD.wp_stV LD.big_Signed rfl _ _ rfl rfl rfl HR_5.out rfl (by decide) rfl HVF.out ?_))
  clear zX0 zX1 zX2 zX3 zX4 zX5 zX6 zX7 zX8 zX9 zX10 zX11 zX12 zX13 zX14 zX15 zX16 zY0 fY0 zY1 fY1 zY2 fY2 zY3 fY3 zY4 fY4 zY5 fY5 zY6 fY6 zY7 fY7 zY8 fY8 zY9 fY9 zY10 fY10 zY11 fY11 zY12 fY12 zY13 fY13 zY14 fY14 zY15 fY15 zY16 fY16
  refine bodyPost_ret (v := .agg #[.int .i64 k.head.zone, .int .i64 k.head.epoch, .int .i64 k.head.kind, .int .i64 k.head.time, .int .i64 k.head.until_, .int .i64 k.head.count, .int .i64 k.head.root, .int .i64 k.head.prev, .slice X0 m0 b0, .int .i64 k.head.keys.need, .slice X1 m1 b1, .int .i64 k.head.heirs.need, .int .i64 k.head.wait, .slice X2 m2 b2, .int .i64 k.head.judge.need, .bool k.head.frozen, .slice X3 m3 b3]) (LD.res_cell LD.big_Signed Try.results28 rfl HR_6.out rfl) rfl ⟨[.int .i64 k.head.zone, .int .i64 k.head.epoch, .int .i64 k.head.kind, .int .i64 k.head.time, .int .i64 k.head.until_, .int .i64 k.head.count, .int .i64 k.head.root, .int .i64 k.head.prev, .slice X0 m0 b0, .int .i64 k.head.keys.need, .slice X1 m1 b1, .int .i64 k.head.heirs.need, .int .i64 k.head.wait, .slice X2 m2 b2, .int .i64 k.head.judge.need, .bool k.head.frozen, .slice X3 m3 b3], rfl, ?_, HB_6.out⟩
  obtain ⟨F0, a0, u0, e0⟩ := HO0_6.out.1
  obtain ⟨F1, a1, u1, e1⟩ := HO1_6.out.1
  have l0 := HS0.out
  have l1 := HS1.out
  have lF := HO1_6.out.2.1
  have g1 : F1.Nodup ∧ ∀ b, b ∈ F1 → W0.heap.size ≤ b ∧ b < W1.heap.size := ⟨u1, e1⟩
  have g0 := part_cons (lo := w.heap.size + 3) u0 e0 g1 (Nat.le_refl _) (Nat.le_refl _) (by omega) (by omega)
  exact ⟨_, RSigned_set.2 ⟨X0, m0, b0, X1, m1, b1, X2, m2, b2, X3, m3, b3, F0, F1, rfl, rfl, a0, by obtain ⟨A_, n_, c_, e_, h_⟩ := a1; injection e_ with e_; injection e_ with e1 e2 e3; subst e1 e2 e3; exact h_⟩, g0.1, fun b hb => by have := g0.2 b hb; omega⟩
def mkSigned (k : Signed) (q : Int) : Signed := ⟨mkHead k.head (q), mkSigS (q + ((cntHead k.head : Nat) : Int)) k.sigs.length⟩
set_option maxHeartbeats 4000000 in
theorem markSigned_f (F : List Nat) (cs : List Value) (k : Signed) (q : Int) (w : World) (h : RSigned.own w F cs k) (hnd : F.Nodup) (hn : cntSigned k ≤ 68719476736) (hq0 : 0 ≤ q) (hq1 : q ≤ 288230376151711744) :
    Calls Try.prog 24 #[.agg cs.toArray, .int .i64 q] w fun e w' => e = .returned (.int .i64 (q + (cntSigned k : Int))) ∧ RSigned.own w' F cs (mkSigned k q) ∧ FrF F w w' := by
  obtain ⟨A0, n0, c0, A1, n1, c1, A2, n2, c2, A3, n3, c3, F0, F1, rfl, hFF, h0, h1⟩ := RSigned_set.1 h
  unfold cntSigned at hn
  have O0 := Lib.hid (show RHead.own w F0 [.int .i64 k.head.zone, .int .i64 k.head.epoch, .int .i64 k.head.kind, .int .i64 k.head.time, .int .i64 k.head.until_, .int .i64 k.head.count, .int .i64 k.head.root, .int .i64 k.head.prev, .slice A0 n0 c0, .int .i64 k.head.keys.need, .slice A1 n1 c1, .int .i64 k.head.heirs.need, .int .i64 k.head.wait, .slice A2 n2 c2, .int .i64 k.head.judge.need, .bool k.head.frozen] k.head from h0)
  have O1 := Lib.hid (show RL_Sig.own w F1 [.slice A3 n3 c3] k.sigs from ⟨A3, n3, c3, rfl, h1⟩)
  have N0 := Lib.hid (show cntHead k.head ≤ 68719476736 by omega)
  have N1 := Lib.hid (show 2 * k.sigs.length ≤ 68719476736 by omega)
  have P0_1 := Lib.hid (show ∀ i, i ∈ F0 → i ∉ F1 from fun i g1 g2 => by
    rw [hFF] at hnd
    simp only [List.nodup_append, List.mem_append] at hnd
    grind)
  have P1_0 := Lib.hid (show ∀ i, i ∈ F1 → i ∉ F0 from fun i g1 g2 => by
    rw [hFF] at hnd
    simp only [List.nodup_append, List.mem_append] at hnd
    grind)
  have Z0 := Lib.hid (show F0.Nodup by rw [hFF] at hnd; simp only [List.nodup_append] at hnd; grind)
  have Z1 := Lib.hid (show F1.Nodup by rw [hFF] at hnd; simp only [List.nodup_append] at hnd; grind)
  have HFF := Lib.hid hFF
  clear h hnd hn hFF h0 h1
  obtain ⟨r0, hr0⟩ : ∃ r : Nat, r = cntHead k.head := ⟨_, rfl⟩
  obtain ⟨r1, hr1⟩ : ∃ r : Nat, r = 2 * k.sigs.length := ⟨_, rfl⟩
  rw [show q + ((cntSigned k : Nat) : Int) = q + (r0 : Int) + (r1 : Int) by unfold cntSigned; omega]
  have NR0 : r0 ≤ 68719476736 := by have := N0.out; omega
  have NR1 : r1 ≤ 68719476736 := by have := N1.out; omega
  have M0 := Lib.hid (fun w1 h1 => markHead_f F0 [.int .i64 k.head.zone, .int .i64 k.head.epoch, .int .i64 k.head.kind, .int .i64 k.head.time, .int .i64 k.head.until_, .int .i64 k.head.count, .int .i64 k.head.root, .int .i64 k.head.prev, .slice A0 n0 c0, .int .i64 k.head.keys.need, .slice A1 n1 c1, .int .i64 k.head.heirs.need, .int .i64 k.head.wait, .slice A2 n2 c2, .int .i64 k.head.judge.need, .bool k.head.frozen] (k.head) (q) w1 h1 Z0.out (by have := N0.out; omega) (by omega) (by omega))
  rw [← hr0] at M0
  have M1 := Lib.hid (fun w1 h1 => u_mark_Sig F1 A3 n3 c3 (k.sigs) (q + (r0 : Int)) w1 h1 (by have := N1.out; omega) (by omega) (by omega))
  rw [← hr1] at M1
  have HR0 := Lib.hid hr0
  clear hr0
  have HR1 := Lib.hid hr1
  clear hr1
  obtain ⟨V, hV⟩ : ∃ V, V = w.alloc (.cells #[.int .i64 k.head.zone, .int .i64 k.head.epoch, .int .i64 k.head.kind, .int .i64 k.head.time, .int .i64 k.head.until_, .int .i64 k.head.count, .int .i64 k.head.root, .int .i64 k.head.prev, .slice A0 n0 c0, .int .i64 k.head.keys.need, .slice A1 n1 c1, .int .i64 k.head.heirs.need, .int .i64 k.head.wait, .slice A2 n2 c2, .int .i64 k.head.judge.need, .bool k.head.frozen, .slice A3 n3 c3] 38) := ⟨_, rfl⟩
  have HB_1 := Lib.hid (show Below w.heap.size w V from by
    rw [hV]
    exact (Below.refl _ _).alloc (by first | (simp; done) | (simp; omega)) _)
  have HX_1 := Lib.hid (show Box V (w.heap.size) [.int .i64 k.head.zone, .int .i64 k.head.epoch, .int .i64 k.head.kind, .int .i64 k.head.time, .int .i64 k.head.until_, .int .i64 k.head.count, .int .i64 k.head.root, .int .i64 k.head.prev, .slice A0 n0 c0, .int .i64 k.head.keys.need, .slice A1 n1 c1, .int .i64 k.head.heirs.need, .int .i64 k.head.wait, .slice A2 n2 c2, .int .i64 k.head.judge.need, .bool k.head.frozen, .slice A3 n3 c3] from by
    rw [hV]
    have := (Box.new w #[.int .i64 k.head.zone, .int .i64 k.head.epoch, .int .i64 k.head.kind, .int .i64 k.head.time, .int .i64 k.head.until_, .int .i64 k.head.count, .int .i64 k.head.root, .int .i64 k.head.prev, .slice A0 n0 c0, .int .i64 k.head.keys.need, .slice A1 n1 c1, .int .i64 k.head.heirs.need, .int .i64 k.head.wait, .slice A2 n2 c2, .int .i64 k.head.judge.need, .bool k.head.frozen, .slice A3 n3 c3] 38)
    simpa using this)
  have HV := Lib.hid hV
  have HFR_1 := Lib.hid (FrF.of_below HB_1.out F)
  have OO0 := O0
  have OO1 := O1
  replace O0 := Lib.hid (RHead.okeep O0.out fun i _ hi => HB_1.out.block i hi)
  replace O1 := Lib.hid (RL_Sig.okeep O1.out fun i _ hi => HB_1.out.block i hi)
  clear hV
  go_enter Try.func24, Try.ntmps24
  go_wp2_with (rw [show w.alloc (.cells #[.int .i64 k.head.zone, .int .i64 k.head.epoch, .int .i64 k.head.kind, .int .i64 k.head.time, .int .i64 k.head.until_, .int .i64 k.head.count, .int .i64 k.head.root, .int .i64 k.head.prev, .slice A0 n0 c0, .int .i64 k.head.keys.need, .slice A1 n1 c1, .int .i64 k.head.heirs.need, .int .i64 k.head.wait, .slice A2 n2 c2, .int .i64 k.head.judge.need, .bool k.head.frozen, .slice A3 n3 c3] 38) = V from HV.out.symm]; refine LD.wp_ldm LD.big_Head rfl _ rfl rfl [] [.int .i64 k.head.zone, .int .i64 k.head.epoch, .int .i64 k.head.kind, .int .i64 k.head.time, .int .i64 k.head.until_, .int .i64 k.head.count, .int .i64 k.head.root, .int .i64 k.head.prev, .slice A0 n0 c0, .int .i64 k.head.keys.need, .slice A1 n1 c1, .int .i64 k.head.heirs.need, .int .i64 k.head.wait, .slice A2 n2 c2, .int .i64 k.head.judge.need, .bool k.head.frozen] [.slice A3 n3 c3] (show Box V (w.heap.size) ([] ++ [.int .i64 k.head.zone, .int .i64 k.head.epoch, .int .i64 k.head.kind, .int .i64 k.head.time, .int .i64 k.head.until_, .int .i64 k.head.count, .int .i64 k.head.root, .int .i64 k.head.prev, .slice A0 n0 c0, .int .i64 k.head.keys.need, .slice A1 n1 c1, .int .i64 k.head.heirs.need, .int .i64 k.head.wait, .slice A2 n2 c2, .int .i64 k.head.judge.need, .bool k.head.frozen] ++ [.slice A3 n3 c3]) from HX_1.out) rfl rfl ?_)
  refine (M0.out _ O0.out).mono ?_
  rintro e W0 ⟨rfl, ho, hfr⟩
  replace O1 := Lib.hid (own_frf O1.out hfr P1_0.out)
  replace O0 := Lib.hid ho
  have HX_2 := Lib.hid (HX_1.out.keep (hfr.block w.heap.size HX_1.out.lt fun hi => by have := RHead.olt OO0.out w.heap.size hi; omega))
  have HFR_2 := Lib.hid (HFR_1.out.trans (hfr.more (fun i hi => by rw [HFF.out]; simp [hi])))
  clear ho hfr
  have zX0 := HX_2.out.cell (j := 0) rfl
  have zX1 := HX_2.out.cell (j := 1) rfl
  have zX2 := HX_2.out.cell (j := 2) rfl
  have zX3 := HX_2.out.cell (j := 3) rfl
  have zX4 := HX_2.out.cell (j := 4) rfl
  have zX5 := HX_2.out.cell (j := 5) rfl
  have zX6 := HX_2.out.cell (j := 6) rfl
  have zX7 := HX_2.out.cell (j := 7) rfl
  have zX8 := HX_2.out.cell (j := 8) rfl
  have zX9 := HX_2.out.cell (j := 9) rfl
  have zX10 := HX_2.out.cell (j := 10) rfl
  have zX11 := HX_2.out.cell (j := 11) rfl
  have zX12 := HX_2.out.cell (j := 12) rfl
  have zX13 := HX_2.out.cell (j := 13) rfl
  have zX14 := HX_2.out.cell (j := 14) rfl
  have zX15 := HX_2.out.cell (j := 15) rfl
  have zX16 := HX_2.out.cell (j := 16) rfl
  go_wp2_with fail
  clear zX0 zX1 zX2 zX3 zX4 zX5 zX6 zX7 zX8 zX9 zX10 zX11 zX12 zX13 zX14 zX15 zX16
  refine (M1.out _ O1.out).mono ?_
  rintro e W1 ⟨rfl, ho, hfr⟩
  replace O0 := Lib.hid (own_frf O0.out hfr P0_1.out)
  replace O1 := Lib.hid ho
  have HX_3 := Lib.hid (HX_2.out.keep (hfr.block w.heap.size HX_2.out.lt fun hi => by have := RL_Sig.olt OO1.out w.heap.size hi; omega))
  have HFR_3 := Lib.hid (HFR_2.out.trans (hfr.more (fun i hi => by rw [HFF.out]; simp [hi])))
  clear ho hfr
  go_wp2
  go_ret
  refine ⟨rfl, RSigned_set.2 ⟨A0, n0, c0, A1, n1, c1, A2, n2, c2, A3, n3, c3, F0, F1, rfl, HFF.out, ?_, ?_⟩, HFR_3.out⟩
  · have := O0.out
    unfold mkSigned
    simp only
    exact this
  · have := O1.out
    obtain ⟨A_, n_, c_, e_, h_⟩ := this
    injection e_ with e_
    injection e_ with e1 e2 e3
    subst e1 e2 e3
    unfold mkSigned
    simp only
    rw [← HR0.out]
    exact h_
theorem markSigned_any (lo hi : Nat) (cs : List Value) (k : Signed) (q : Int) (w : World) (h : OwnI RSigned w lo hi cs k) (hh : hi ≤ w.heap.size) (hn : cntSigned k ≤ 68719476736) (hq0 : 0 ≤ q) (hq1 : q ≤ 288230376151711744) :
    Calls Try.prog 24 #[.agg cs.toArray, .int .i64 q] w fun e w' => e = .returned (.int .i64 (q + (cntSigned k : Int))) ∧ OwnI RSigned w' lo hi cs (mkSigned k q) ∧ Fr lo hi w w' :=
  mark_int (fun F h1 h2 => markSigned_f F cs k q w h1 h2 hn hq0 hq1) h
set_option maxHeartbeats 4000000 in
theorem heldSigned_marks (B : Nat) (cs : List Value) (k : Signed) (q : Int) (w : World) (h : RSigned.rd w (Lt B) cs (mkSigned k q)) (hB : B ≤ w.heap.size) (hn : cntSigned k ≤ 68719476736) (hq0 : 0 ≤ q) (hq1 : q ≤ 288230376151711744) :
    Calls Try.prog 25 #[.agg cs.toArray, .int .i64 q] w fun e w' => e = .returned (.int .i64 (q + (cntSigned k : Int))) ∧ Below w.heap.size w w' := by
  obtain ⟨A0, n0, c0, A1, n1, c1, A2, n2, c2, A3, n3, c3, rfl, h0, h1⟩ := RSigned_flds (RSigned.more h fun i hi => Nat.lt_of_lt_of_le hi hB)
  unfold cntSigned at hn
  obtain ⟨r0, hr0⟩ : ∃ r : Nat, r = cntHead k.head := ⟨_, rfl⟩
  obtain ⟨r1, hr1⟩ : ∃ r : Nat, r = 2 * k.sigs.length := ⟨_, rfl⟩
  rw [show q + ((cntSigned k : Nat) : Int) = q + (r0 : Int) + (r1 : Int) by unfold cntSigned; omega]
  have D0 := Lib.hid (show RHead.rd w (Lt w.heap.size) [.int .i64 (mkSigned k q).head.zone, .int .i64 (mkSigned k q).head.epoch, .int .i64 (mkSigned k q).head.kind, .int .i64 (mkSigned k q).head.time, .int .i64 (mkSigned k q).head.until_, .int .i64 (mkSigned k q).head.count, .int .i64 (mkSigned k q).head.root, .int .i64 (mkSigned k q).head.prev, .slice A0 n0 c0, .int .i64 (mkSigned k q).head.keys.need, .slice A1 n1 c1, .int .i64 (mkSigned k q).head.heirs.need, .int .i64 (mkSigned k q).head.wait, .slice A2 n2 c2, .int .i64 (mkSigned k q).head.judge.need, .bool (mkSigned k q).head.frozen] (mkHead k.head (q)) from by
    have h_ := h0
    unfold mkSigned at h_
    try unfold mkSigned
    try simp only at h_ ⊢
    exact h_)
  have V0 := Lib.hid (fun w1 (hb : Below w.heap.size w w1) => heldHead_marks _ [.int .i64 (mkSigned k q).head.zone, .int .i64 (mkSigned k q).head.epoch, .int .i64 (mkSigned k q).head.kind, .int .i64 (mkSigned k q).head.time, .int .i64 (mkSigned k q).head.until_, .int .i64 (mkSigned k q).head.count, .int .i64 (mkSigned k q).head.root, .int .i64 (mkSigned k q).head.prev, .slice A0 n0 c0, .int .i64 (mkSigned k q).head.keys.need, .slice A1 n1 c1, .int .i64 (mkSigned k q).head.heirs.need, .int .i64 (mkSigned k q).head.wait, .slice A2 n2 c2, .int .i64 (mkSigned k q).head.judge.need, .bool (mkSigned k q).head.frozen] (k.head) (q) w1 (rd_up D0.out hb) (Nat.le_refl _) (by omega) (by omega) (by omega))
  simp only [← hr0] at V0
  have D1 := Lib.hid (show RL_Sig.rd w (Lt w.heap.size) [.slice A3 n3 c3] (mkSigS (q + (r0 : Int)) k.sigs.length) from by
    have h_ := h1
    unfold mkSigned at h_
    try unfold mkSigned
    try simp only at h_ ⊢
    rw [hr0]
    exact h_)
  have V1 := Lib.hid (fun w1 (hb : Below w.heap.size w w1) => u_held_Sig A3 n3 c3 (k.sigs) (q + (r0 : Int)) w1 (rd_up D1.out hb) (by omega) (by omega) (by omega))
  simp only [← hr1] at V1
  have NR : r0 ≤ 68719476736 ∧ r1 ≤ 68719476736 := by omega
  clear h hn hB h0 h1 hr0 hr1
  have z0 : ¬ q + (r0 : Int) < 0 := by omega
  have z1 : ¬ q + (r0 : Int) + (r1 : Int) < 0 := by omega
  generalize mkSigned k q = kk at *
  obtain ⟨V, hV⟩ : ∃ V, V = w.alloc (.cells #[.int .i64 kk.head.zone, .int .i64 kk.head.epoch, .int .i64 kk.head.kind, .int .i64 kk.head.time, .int .i64 kk.head.until_, .int .i64 kk.head.count, .int .i64 kk.head.root, .int .i64 kk.head.prev, .slice A0 n0 c0, .int .i64 kk.head.keys.need, .slice A1 n1 c1, .int .i64 kk.head.heirs.need, .int .i64 kk.head.wait, .slice A2 n2 c2, .int .i64 kk.head.judge.need, .bool kk.head.frozen, .slice A3 n3 c3] 38) := ⟨_, rfl⟩
  have HB_1 := Lib.hid (show Below w.heap.size w V from by
    rw [hV]
    exact (Below.refl _ _).alloc (by first | (simp; done) | (simp; omega)) _)
  have HX_1 := Lib.hid (show Box V (w.heap.size) [.int .i64 kk.head.zone, .int .i64 kk.head.epoch, .int .i64 kk.head.kind, .int .i64 kk.head.time, .int .i64 kk.head.until_, .int .i64 kk.head.count, .int .i64 kk.head.root, .int .i64 kk.head.prev, .slice A0 n0 c0, .int .i64 kk.head.keys.need, .slice A1 n1 c1, .int .i64 kk.head.heirs.need, .int .i64 kk.head.wait, .slice A2 n2 c2, .int .i64 kk.head.judge.need, .bool kk.head.frozen, .slice A3 n3 c3] from by
    rw [hV]
    have := (Box.new w #[.int .i64 kk.head.zone, .int .i64 kk.head.epoch, .int .i64 kk.head.kind, .int .i64 kk.head.time, .int .i64 kk.head.until_, .int .i64 kk.head.count, .int .i64 kk.head.root, .int .i64 kk.head.prev, .slice A0 n0 c0, .int .i64 kk.head.keys.need, .slice A1 n1 c1, .int .i64 kk.head.heirs.need, .int .i64 kk.head.wait, .slice A2 n2 c2, .int .i64 kk.head.judge.need, .bool kk.head.frozen, .slice A3 n3 c3] 38)
    simpa using this)
  have HV := Lib.hid hV
  clear hV
  go_enter Try.func25, Try.ntmps25
  go_wp2_with (first | (rw [show w.alloc (.cells #[.int .i64 kk.head.zone, .int .i64 kk.head.epoch, .int .i64 kk.head.kind, .int .i64 kk.head.time, .int .i64 kk.head.until_, .int .i64 kk.head.count, .int .i64 kk.head.root, .int .i64 kk.head.prev, .slice A0 n0 c0, .int .i64 kk.head.keys.need, .slice A1 n1 c1, .int .i64 kk.head.heirs.need, .int .i64 kk.head.wait, .slice A2 n2 c2, .int .i64 kk.head.judge.need, .bool kk.head.frozen, .slice A3 n3 c3] 38) = V from HV.out.symm]; refine LD.wp_ldm LD.big_Head rfl _ rfl rfl [] [.int .i64 kk.head.zone, .int .i64 kk.head.epoch, .int .i64 kk.head.kind, .int .i64 kk.head.time, .int .i64 kk.head.until_, .int .i64 kk.head.count, .int .i64 kk.head.root, .int .i64 kk.head.prev, .slice A0 n0 c0, .int .i64 kk.head.keys.need, .slice A1 n1 c1, .int .i64 kk.head.heirs.need, .int .i64 kk.head.wait, .slice A2 n2 c2, .int .i64 kk.head.judge.need, .bool kk.head.frozen] [.slice A3 n3 c3] (show Box V (w.heap.size) ([] ++ [.int .i64 kk.head.zone, .int .i64 kk.head.epoch, .int .i64 kk.head.kind, .int .i64 kk.head.time, .int .i64 kk.head.until_, .int .i64 kk.head.count, .int .i64 kk.head.root, .int .i64 kk.head.prev, .slice A0 n0 c0, .int .i64 kk.head.keys.need, .slice A1 n1 c1, .int .i64 kk.head.heirs.need, .int .i64 kk.head.wait, .slice A2 n2 c2, .int .i64 kk.head.judge.need, .bool kk.head.frozen] ++ [.slice A3 n3 c3]) from HX_1.out) rfl rfl ?_))
  try rw [show w.alloc (.cells #[.int .i64 kk.head.zone, .int .i64 kk.head.epoch, .int .i64 kk.head.kind, .int .i64 kk.head.time, .int .i64 kk.head.until_, .int .i64 kk.head.count, .int .i64 kk.head.root, .int .i64 kk.head.prev, .slice A0 n0 c0, .int .i64 kk.head.keys.need, .slice A1 n1 c1, .int .i64 kk.head.heirs.need, .int .i64 kk.head.wait, .slice A2 n2 c2, .int .i64 kk.head.judge.need, .bool kk.head.frozen, .slice A3 n3 c3] 38) = V from HV.out.symm]
  refine (V0.out _ HB_1.out).mono ?_
  rintro e W0 ⟨rfl, hb⟩
  have HB_2 := Lib.hid (HB_1.out.trans (hb.mono HB_1.out.size))
  have HX_2 := Lib.hid (HX_1.out.below hb HX_1.out.lt)
  clear hb
  have zX0 := HX_2.out.cell (j := 0) rfl
  have zX1 := HX_2.out.cell (j := 1) rfl
  have zX2 := HX_2.out.cell (j := 2) rfl
  have zX3 := HX_2.out.cell (j := 3) rfl
  have zX4 := HX_2.out.cell (j := 4) rfl
  have zX5 := HX_2.out.cell (j := 5) rfl
  have zX6 := HX_2.out.cell (j := 6) rfl
  have zX7 := HX_2.out.cell (j := 7) rfl
  have zX8 := HX_2.out.cell (j := 8) rfl
  have zX9 := HX_2.out.cell (j := 9) rfl
  have zX10 := HX_2.out.cell (j := 10) rfl
  have zX11 := HX_2.out.cell (j := 11) rfl
  have zX12 := HX_2.out.cell (j := 12) rfl
  have zX13 := HX_2.out.cell (j := 13) rfl
  have zX14 := HX_2.out.cell (j := 14) rfl
  have zX15 := HX_2.out.cell (j := 15) rfl
  have zX16 := HX_2.out.cell (j := 16) rfl
  go_wp2_with fail
  clear zX0 zX1 zX2 zX3 zX4 zX5 zX6 zX7 zX8 zX9 zX10 zX11 zX12 zX13 zX14 zX15 zX16
  refine (V1.out _ HB_2.out).mono ?_
  rintro e W1 ⟨rfl, hb⟩
  have HB_3 := Lib.hid (HB_2.out.trans (hb.mono HB_2.out.size))
  have HX_3 := Lib.hid (HX_2.out.below hb HX_2.out.lt)
  clear hb
  go_wp2
  go_ret
  exact ⟨rfl, HB_3.out⟩
end Go.Proofs.Ythhmhcmlbpdlbaa.T14
