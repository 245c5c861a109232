/- The laws' own helpers on a struct: Head. -/
import Derived.Test.YthhmhcmlbpdlbaaT13S
import Derived.Test.YthhmhcmlbpdlbaaBX
import Derived.Test.YthhmhcmlbpdlbaaTW
import Derived.Test.YthhmhcmlbpdlbaaT06F
namespace Go.Proofs.Ythhmhcmlbpdlbaa.T13
open T13S BX Go.RowKit Mem MemS Rep RepA T01 T06 R13 TW R06 T06F
set_option linter.unusedVariables false
set_option maxRecDepth 100000
set_option maxHeartbeats 8000000 in
theorem toHead_any (cs : List Value) (k : Head) (w : World) (h : RHead.rd w (Lt w.heap.size) cs k) (hn : totHead k ≤ 1048576) :
    Calls Try.prog 16 #[.agg cs.toArray] w fun e w' => ∃ cs', e = .returned (.agg (List.toArray cs')) ∧ OwnI RHead w' w.heap.size w'.heap.size cs' k ∧ Below w.heap.size w w' := by
  obtain ⟨A0, n0, c0, A1, n1, c1, A2, n2, c2, rfl, h0, h1, h2, h3, h4, h5, h6, h7, h8, h9, h10, h11⟩ := RHead_flds h
  unfold totHead at hn
  have D0 := Lib.hid h0
  have D1 := Lib.hid h1
  have D2 := Lib.hid h2
  have D3 := Lib.hid h3
  have D4 := Lib.hid h4
  have D5 := Lib.hid h5
  have D6 := Lib.hid h6
  have D7 := Lib.hid h7
  have D8 := Lib.hid h8
  have D9 := Lib.hid h9
  have D10 := Lib.hid h10
  have D11 := Lib.hid h11
  have N8 := Lib.hid (show totKeys k.keys ≤ 1048576 by omega)
  have N9 := Lib.hid (show totKeys k.heirs ≤ 1048576 by omega)
  have N11 := Lib.hid (show totKeys k.judge ≤ 1048576 by omega)
  clear h hn h0 h1 h2 h3 h4 h5 h6 h7 h8 h9 h10 h11
  obtain ⟨V0, hV0⟩ : ∃ V, V = ((w.alloc (.cells #[.int .i64 k.zone, .int .i64 k.epoch, .int .i64 k.kind, .int .i64 k.time, .int .i64 k.until_, .int .i64 k.count, .int .i64 k.root, .int .i64 k.prev, .slice A0 n0 c0, .int .i64 k.keys.need, .slice A1 n1 c1, .int .i64 k.heirs.need, .int .i64 k.wait, .slice A2 n2 c2, .int .i64 k.judge.need, .bool k.frozen] 32)).alloc (.cells #[.int .i64 0, .int .i64 0, .int .i64 0, .int .i64 0, .int .i64 0, .int .i64 0, .int .i64 0, .int .i64 0, .slice none 0 0, .int .i64 0, .slice none 0 0, .int .i64 0, .int .i64 0, .slice none 0 0, .int .i64 0, .bool false] 35)).alloc (.cells #[.int .i64 k.zone, .int .i64 k.epoch, .int .i64 k.kind, .int .i64 k.time, .int .i64 k.until_, .int .i64 k.count, .int .i64 k.root, .int .i64 k.prev, .slice none 0 0, .int .i64 0, .slice none 0 0, .int .i64 0, .int .i64 0, .slice none 0 0, .int .i64 0, .bool false] 35) := ⟨_, rfl⟩
  have HB_1 := Lib.hid (show Below w.heap.size w V0 from by
    rw [hV0]
    exact (((Below.refl _ _).alloc (by first | (simp; done) | (simp; omega)) _).alloc (by first | (simp; done) | (simp; omega)) _).alloc (by first | (simp; done) | (simp; omega)) _)
  have HX_1 := Lib.hid (show Box V0 (w.heap.size) [.int .i64 k.zone, .int .i64 k.epoch, .int .i64 k.kind, .int .i64 k.time, .int .i64 k.until_, .int .i64 k.count, .int .i64 k.root, .int .i64 k.prev, .slice A0 n0 c0, .int .i64 k.keys.need, .slice A1 n1 c1, .int .i64 k.heirs.need, .int .i64 k.wait, .slice A2 n2 c2, .int .i64 k.judge.need, .bool k.frozen] from by
    rw [hV0]
    have := (((Box.new w #[.int .i64 k.zone, .int .i64 k.epoch, .int .i64 k.kind, .int .i64 k.time, .int .i64 k.until_, .int .i64 k.count, .int .i64 k.root, .int .i64 k.prev, .slice A0 n0 c0, .int .i64 k.keys.need, .slice A1 n1 c1, .int .i64 k.heirs.need, .int .i64 k.wait, .slice A2 n2 c2, .int .i64 k.judge.need, .bool k.frozen] 32).alloc (.cells #[.int .i64 0, .int .i64 0, .int .i64 0, .int .i64 0, .int .i64 0, .int .i64 0, .int .i64 0, .int .i64 0, .slice none 0 0, .int .i64 0, .slice none 0 0, .int .i64 0, .int .i64 0, .slice none 0 0, .int .i64 0, .bool false] 35)).alloc (.cells #[.int .i64 k.zone, .int .i64 k.epoch, .int .i64 k.kind, .int .i64 k.time, .int .i64 k.until_, .int .i64 k.count, .int .i64 k.root, .int .i64 k.prev, .slice none 0 0, .int .i64 0, .slice none 0 0, .int .i64 0, .int .i64 0, .slice none 0 0, .int .i64 0, .bool false] 35))
    simpa using this)
  have HR_1 := Lib.hid (show Box V0 (w.heap.size + 1) [.int .i64 0, .int .i64 0, .int .i64 0, .int .i64 0, .int .i64 0, .int .i64 0, .int .i64 0, .int .i64 0, .slice none 0 0, .int .i64 0, .slice none 0 0, .int .i64 0, .int .i64 0, .slice none 0 0, .int .i64 0, .bool false] from by
    rw [hV0]
    have := ((Box.new (w.alloc (.cells #[.int .i64 k.zone, .int .i64 k.epoch, .int .i64 k.kind, .int .i64 k.time, .int .i64 k.until_, .int .i64 k.count, .int .i64 k.root, .int .i64 k.prev, .slice A0 n0 c0, .int .i64 k.keys.need, .slice A1 n1 c1, .int .i64 k.heirs.need, .int .i64 k.wait, .slice A2 n2 c2, .int .i64 k.judge.need, .bool k.frozen] 32)) #[.int .i64 0, .int .i64 0, .int .i64 0, .int .i64 0, .int .i64 0, .int .i64 0, .int .i64 0, .int .i64 0, .slice none 0 0, .int .i64 0, .slice none 0 0, .int .i64 0, .int .i64 0, .slice none 0 0, .int .i64 0, .bool false] 35).alloc (.cells #[.int .i64 k.zone, .int .i64 k.epoch, .int .i64 k.kind, .int .i64 k.time, .int .i64 k.until_, .int .i64 k.count, .int .i64 k.root, .int .i64 k.prev, .slice none 0 0, .int .i64 0, .slice none 0 0, .int .i64 0, .int .i64 0, .slice none 0 0, .int .i64 0, .bool false] 35))
    simpa using this)
  have HY_1 := Lib.hid (show Box V0 (w.heap.size + 1 + 1) [.int .i64 k.zone, .int .i64 k.epoch, .int .i64 k.kind, .int .i64 k.time, .int .i64 k.until_, .int .i64 k.count, .int .i64 k.root, .int .i64 k.prev, .slice none 0 0, .int .i64 0, .slice none 0 0, .int .i64 0, .int .i64 0, .slice none 0 0, .int .i64 0, .bool false] from by
    rw [hV0]
    have := (Box.new ((w.alloc (.cells #[.int .i64 k.zone, .int .i64 k.epoch, .int .i64 k.kind, .int .i64 k.time, .int .i64 k.until_, .int .i64 k.count, .int .i64 k.root, .int .i64 k.prev, .slice A0 n0 c0, .int .i64 k.keys.need, .slice A1 n1 c1, .int .i64 k.heirs.need, .int .i64 k.wait, .slice A2 n2 c2, .int .i64 k.judge.need, .bool k.frozen] 32)).alloc (.cells #[.int .i64 0, .int .i64 0, .int .i64 0, .int .i64 0, .int .i64 0, .int .i64 0, .int .i64 0, .int .i64 0, .slice none 0 0, .int .i64 0, .slice none 0 0, .int .i64 0, .int .i64 0, .slice none 0 0, .int .i64 0, .bool false] 35)) #[.int .i64 k.zone, .int .i64 k.epoch, .int .i64 k.kind, .int .i64 k.time, .int .i64 k.until_, .int .i64 k.count, .int .i64 k.root, .int .i64 k.prev, .slice none 0 0, .int .i64 0, .slice none 0 0, .int .i64 0, .int .i64 0, .slice none 0 0, .int .i64 0, .bool false] 35)
    simpa using this)
  have HV0 := Lib.hid hV0
  have hs0 : V0.heap.size = w.heap.size + 3 := by rw [hV0]; simp
  clear hV0
  go_enter Try.func16, Try.ntmps16
  go_wp2_with fail
  rw [show ((w.alloc (.cells #[.int .i64 k.zone, .int .i64 k.epoch, .int .i64 k.kind, .int .i64 k.time, .int .i64 k.until_, .int .i64 k.count, .int .i64 k.root, .int .i64 k.prev, .slice A0 n0 c0, .int .i64 k.keys.need, .slice A1 n1 c1, .int .i64 k.heirs.need, .int .i64 k.wait, .slice A2 n2 c2, .int .i64 k.judge.need, .bool k.frozen] 32)).alloc (.cells #[.int .i64 0, .int .i64 0, .int .i64 0, .int .i64 0, .int .i64 0, .int .i64 0, .int .i64 0, .int .i64 0, .slice none 0 0, .int .i64 0, .slice none 0 0, .int .i64 0, .int .i64 0, .slice none 0 0, .int .i64 0, .bool false] 35)).alloc (.cells #[.int .i64 k.zone, .int .i64 k.epoch, .int .i64 k.kind, .int .i64 k.time, .int .i64 k.until_, .int .i64 k.count, .int .i64 k.root, .int .i64 k.prev, .slice none 0 0, .int .i64 0, .slice none 0 0, .int .i64 0, .int .i64 0, .slice none 0 0, .int .i64 0, .bool false] 35) = V0 from HV0.out.symm]
  refine (toKeys_any [.slice A0 n0 c0, .int .i64 k.keys.need] (k.keys) V0 (rd_up D8.out HB_1.out) N8.out).mono ?_
  rintro e W0 ⟨cs0, rfl, ho, hb⟩
  obtain ⟨X0, m0, b0, rfl⟩ := RKeys_shape ho.rd
  have HB_2 := Lib.hid (HB_1.out.trans (hb.mono HB_1.out.size))
  have HX_2 := Lib.hid (HX_1.out.below hb HX_1.out.lt)
  have HR_2 := Lib.hid (HR_1.out.below hb HR_1.out.lt)
  have HY_2 := Lib.hid (HY_1.out.below hb HY_1.out.lt)
  have HS0 := Lib.hid (show w.heap.size + 3 ≤ W0.heap.size from by have := hb.size; omega)
  have HO0_2 := Lib.hid (show OwnI RKeys W0 (w.heap.size + 3) (W0.heap.size) [.slice X0 m0 b0, .int .i64 k.keys.need] k.keys ∧ (W0.heap.size) ≤ W0.heap.size ∧ (w.heap.size + 3) ≤ (w.heap.size + 3) from ⟨ho.wide (by rw [hs0]; exact Nat.le_refl _) (Nat.le_refl _), Nat.le_refl _, Nat.le_refl _⟩)
  clear hb ho
  have zX0 := HX_2.out.cell (j := 0) rfl
  have zX1 := HX_2.out.cell (j := 1) rfl
  have zX2 := HX_2.out.cell (j := 2) rfl
  have zX3 := HX_2.out.cell (j := 3) rfl
  have zX4 := HX_2.out.cell (j := 4) rfl
  have zX5 := HX_2.out.cell (j := 5) rfl
  have zX6 := HX_2.out.cell (j := 6) rfl
  have zX7 := HX_2.out.cell (j := 7) rfl
  have zX8 := HX_2.out.cell (j := 8) rfl
  have zX9 := HX_2.out.cell (j := 9) rfl
  have zX10 := HX_2.out.cell (j := 10) rfl
  have zX11 := HX_2.out.cell (j := 11) rfl
  have zX12 := HX_2.out.cell (j := 12) rfl
  have zX13 := HX_2.out.cell (j := 13) rfl
  have zX14 := HX_2.out.cell (j := 14) rfl
  have zX15 := HX_2.out.cell (j := 15) rfl
  have zR0 := HR_2.out.cell (j := 0) rfl
  have zR1 := HR_2.out.cell (j := 1) rfl
  have zR2 := HR_2.out.cell (j := 2) rfl
  have zR3 := HR_2.out.cell (j := 3) rfl
  have zR4 := HR_2.out.cell (j := 4) rfl
  have zR5 := HR_2.out.cell (j := 5) rfl
  have zR6 := HR_2.out.cell (j := 6) rfl
  have zR7 := HR_2.out.cell (j := 7) rfl
  have zR8 := HR_2.out.cell (j := 8) rfl
  have zR9 := HR_2.out.cell (j := 9) rfl
  have zR10 := HR_2.out.cell (j := 10) rfl
  have zR11 := HR_2.out.cell (j := 11) rfl
  have zR12 := HR_2.out.cell (j := 12) rfl
  have zR13 := HR_2.out.cell (j := 13) rfl
  have zR14 := HR_2.out.cell (j := 14) rfl
  have zR15 := HR_2.out.cell (j := 15) rfl
  have zY0 := HY_2.out.cell (j := 0) rfl
  have fY0 := HY_2.out.warm (j := 0) rfl
  have zY1 := HY_2.out.cell (j := 1) rfl
  have fY1 := HY_2.out.warm (j := 1) rfl
  have zY2 := HY_2.out.cell (j := 2) rfl
  have fY2 := HY_2.out.warm (j := 2) rfl
  have zY3 := HY_2.out.cell (j := 3) rfl
  have fY3 := HY_2.out.warm (j := 3) rfl
  have zY4 := HY_2.out.cell (j := 4) rfl
  have fY4 := HY_2.out.warm (j := 4) rfl
  have zY5 := HY_2.out.cell (j := 5) rfl
  have fY5 := HY_2.out.warm (j := 5) rfl
  have zY6 := HY_2.out.cell (j := 6) rfl
  have fY6 := HY_2.out.warm (j := 6) rfl
  have zY7 := HY_2.out.cell (j := 7) rfl
  have fY7 := HY_2.out.warm (j := 7) rfl
  have zY8 := HY_2.out.cell (j := 8) rfl
  have fY8 := HY_2.out.warm (j := 8) rfl
  have zY9 := HY_2.out.cell (j := 9) rfl
  have fY9 := HY_2.out.warm (j := 9) rfl
  have zY10 := HY_2.out.cell (j := 10) rfl
  have fY10 := HY_2.out.warm (j := 10) rfl
  have zY11 := HY_2.out.cell (j := 11) rfl
  have fY11 := HY_2.out.warm (j := 11) rfl
  have zY12 := HY_2.out.cell (j := 12) rfl
  have fY12 := HY_2.out.warm (j := 12) rfl
  have zY13 := HY_2.out.cell (j := 13) rfl
  have fY13 := HY_2.out.warm (j := 13) rfl
  have zY14 := HY_2.out.cell (j := 14) rfl
  have fY14 := HY_2.out.warm (j := 14) rfl
  have zY15 := HY_2.out.cell (j := 15) rfl
  have fY15 := HY_2.out.warm (j := 15) rfl
  have lt0 := HY_2.out.lt
  go_wp2_with fail
  clear zX0 zX1 zX2 zX3 zX4 zX5 zX6 zX7 zX8 zX9 zX10 zX11 zX12 zX13 zX14 zX15 zR0 zR1 zR2 zR3 zR4 zR5 zR6 zR7 zR8 zR9 zR10 zR11 zR12 zR13 zR14 zR15 zY0 fY0 zY1 fY1 zY2 fY2 zY3 fY3 zY4 fY4 zY5 fY5 zY6 fY6 zY7 fY7 zY8 fY8 zY9 fY9 zY10 fY10 zY11 fY11 zY12 fY12 zY13 fY13 zY14 fY14 zY15 fY15 lt0
  obtain ⟨V1, hV1⟩ : ∃ V, puts W0 (w.heap.size + 1 + 1) 8 [.slice X0 m0 b0, .int .i64 k.keys.need] = V := ⟨_, rfl⟩
  have HB_3 := Lib.hid (pt_bel hV1 HB_2.out (show w.heap.size ≤ (w.heap.size + 1 + 1) by omega))
  have HX_3 := Lib.hid (pt_box hV1 HX_2.out (show (w.heap.size) ≠ (w.heap.size + 1 + 1) by omega))
  have HR_3 := Lib.hid (pt_box hV1 HR_2.out (show (w.heap.size + 1) ≠ (w.heap.size + 1 + 1) by omega))
  have HY_3 := Lib.hid (show Box V1 (w.heap.size + 1 + 1) [.int .i64 k.zone, .int .i64 k.epoch, .int .i64 k.kind, .int .i64 k.time, .int .i64 k.until_, .int .i64 k.count, .int .i64 k.root, .int .i64 k.prev, .slice X0 m0 b0, .int .i64 k.keys.need, .slice none 0 0, .int .i64 0, .int .i64 0, .slice none 0 0, .int .i64 0, .bool false] from pt_self hV1 HY_2.out (by simp))
  have HO0_3 := Lib.hid (pt_own hV1 HO0_2.out (show (w.heap.size + 1 + 1) < (w.heap.size + 3) by omega))
  have HV1 := Lib.hid hV1
  clear hV1
  rw [show (W0.setCell ⟨w.heap.size + 1 + 1, 8, none⟩ (.slice X0 m0 b0)).setCell ⟨w.heap.size + 1 + 1, 9, none⟩ (.int .i64 k.keys.need) = V1 from HV1.out]
  refine (toKeys_any [.slice A1 n1 c1, .int .i64 k.heirs.need] (k.heirs) V1 (rd_up D9.out HB_3.out) N9.out).mono ?_
  rintro e W1 ⟨cs1, rfl, ho, hb⟩
  obtain ⟨X1, m1, b1, rfl⟩ := RKeys_shape ho.rd
  have HB_4 := Lib.hid (HB_3.out.trans (hb.mono HB_3.out.size))
  have HX_4 := Lib.hid (HX_3.out.below hb HX_3.out.lt)
  have HR_4 := Lib.hid (HR_3.out.below hb HR_3.out.lt)
  have HY_4 := Lib.hid (HY_3.out.below hb HY_3.out.lt)
  have HO0_4 := Lib.hid (show OwnI RKeys W1 (w.heap.size + 3) (W0.heap.size) [.slice X0 m0 b0, .int .i64 k.keys.need] k.keys ∧ (W0.heap.size) ≤ W1.heap.size ∧ (w.heap.size + 3) ≤ (w.heap.size + 3) from ⟨HO0_3.out.1.below hb HO0_3.out.2.1, Nat.le_trans HO0_3.out.2.1 hb.size, HO0_3.out.2.2⟩)
  have HS1 := Lib.hid (show W0.heap.size ≤ W1.heap.size from Nat.le_trans HO0_3.out.2.1 hb.size)
  have HO1_4 := Lib.hid (show OwnI RKeys W1 (W0.heap.size) (W1.heap.size) [.slice X1 m1 b1, .int .i64 k.heirs.need] k.heirs ∧ (W1.heap.size) ≤ W1.heap.size ∧ (w.heap.size + 3) ≤ (W0.heap.size) from ⟨ho.wide (by have := HO0_3.out.2.1; exact this) (Nat.le_refl _), Nat.le_refl _, by have := HS0.out; have := HS1.out; omega⟩)
  clear hb ho
  have zX0 := HX_4.out.cell (j := 0) rfl
  have zX1 := HX_4.out.cell (j := 1) rfl
  have zX2 := HX_4.out.cell (j := 2) rfl
  have zX3 := HX_4.out.cell (j := 3) rfl
  have zX4 := HX_4.out.cell (j := 4) rfl
  have zX5 := HX_4.out.cell (j := 5) rfl
  have zX6 := HX_4.out.cell (j := 6) rfl
  have zX7 := HX_4.out.cell (j := 7) rfl
  have zX8 := HX_4.out.cell (j := 8) rfl
  have zX9 := HX_4.out.cell (j := 9) rfl
  have zX10 := HX_4.out.cell (j := 10) rfl
  have zX11 := HX_4.out.cell (j := 11) rfl
  have zX12 := HX_4.out.cell (j := 12) rfl
  have zX13 := HX_4.out.cell (j := 13) rfl
  have zX14 := HX_4.out.cell (j := 14) rfl
  have zX15 := HX_4.out.cell (j := 15) rfl
  have zR0 := HR_4.out.cell (j := 0) rfl
  have zR1 := HR_4.out.cell (j := 1) rfl
  have zR2 := HR_4.out.cell (j := 2) rfl
  have zR3 := HR_4.out.cell (j := 3) rfl
  have zR4 := HR_4.out.cell (j := 4) rfl
  have zR5 := HR_4.out.cell (j := 5) rfl
  have zR6 := HR_4.out.cell (j := 6) rfl
  have zR7 := HR_4.out.cell (j := 7) rfl
  have zR8 := HR_4.out.cell (j := 8) rfl
  have zR9 := HR_4.out.cell (j := 9) rfl
  have zR10 := HR_4.out.cell (j := 10) rfl
  have zR11 := HR_4.out.cell (j := 11) rfl
  have zR12 := HR_4.out.cell (j := 12) rfl
  have zR13 := HR_4.out.cell (j := 13) rfl
  have zR14 := HR_4.out.cell (j := 14) rfl
  have zR15 := HR_4.out.cell (j := 15) rfl
  have zY0 := HY_4.out.cell (j := 0) rfl
  have fY0 := HY_4.out.warm (j := 0) rfl
  have zY1 := HY_4.out.cell (j := 1) rfl
  have fY1 := HY_4.out.warm (j := 1) rfl
  have zY2 := HY_4.out.cell (j := 2) rfl
  have fY2 := HY_4.out.warm (j := 2) rfl
  have zY3 := HY_4.out.cell (j := 3) rfl
  have fY3 := HY_4.out.warm (j := 3) rfl
  have zY4 := HY_4.out.cell (j := 4) rfl
  have fY4 := HY_4.out.warm (j := 4) rfl
  have zY5 := HY_4.out.cell (j := 5) rfl
  have fY5 := HY_4.out.warm (j := 5) rfl
  have zY6 := HY_4.out.cell (j := 6) rfl
  have fY6 := HY_4.out.warm (j := 6) rfl
  have zY7 := HY_4.out.cell (j := 7) rfl
  have fY7 := HY_4.out.warm (j := 7) rfl
  have zY8 := HY_4.out.cell (j := 8) rfl
  have fY8 := HY_4.out.warm (j := 8) rfl
  have zY9 := HY_4.out.cell (j := 9) rfl
  have fY9 := HY_4.out.warm (j := 9) rfl
  have zY10 := HY_4.out.cell (j := 10) rfl
  have fY10 := HY_4.out.warm (j := 10) rfl
  have zY11 := HY_4.out.cell (j := 11) rfl
  have fY11 := HY_4.out.warm (j := 11) rfl
  have zY12 := HY_4.out.cell (j := 12) rfl
  have fY12 := HY_4.out.warm (j := 12) rfl
  have zY13 := HY_4.out.cell (j := 13) rfl
  have fY13 := HY_4.out.warm (j := 13) rfl
  have zY14 := HY_4.out.cell (j := 14) rfl
  have fY14 := HY_4.out.warm (j := 14) rfl
  have zY15 := HY_4.out.cell (j := 15) rfl
  have fY15 := HY_4.out.warm (j := 15) rfl
  have lt1 := HY_4.out.lt
  go_wp2_with fail
  clear zX0 zX1 zX2 zX3 zX4 zX5 zX6 zX7 zX8 zX9 zX10 zX11 zX12 zX13 zX14 zX15 zR0 zR1 zR2 zR3 zR4 zR5 zR6 zR7 zR8 zR9 zR10 zR11 zR12 zR13 zR14 zR15 zY0 fY0 zY1 fY1 zY2 fY2 zY3 fY3 zY4 fY4 zY5 fY5 zY6 fY6 zY7 fY7 zY8 fY8 zY9 fY9 zY10 fY10 zY11 fY11 zY12 fY12 zY13 fY13 zY14 fY14 zY15 fY15 lt1
  obtain ⟨V2, hV2⟩ : ∃ V, puts W1 (w.heap.size + 1 + 1) 10 [.slice X1 m1 b1, .int .i64 k.heirs.need, .int .i64 k.wait] = V := ⟨_, rfl⟩
  have HB_5 := Lib.hid (pt_bel hV2 HB_4.out (show w.heap.size ≤ (w.heap.size + 1 + 1) by omega))
  have HX_5 := Lib.hid (pt_box hV2 HX_4.out (show (w.heap.size) ≠ (w.heap.size + 1 + 1) by omega))
  have HR_5 := Lib.hid (pt_box hV2 HR_4.out (show (w.heap.size + 1) ≠ (w.heap.size + 1 + 1) by omega))
  have HY_5 := Lib.hid (show Box V2 (w.heap.size + 1 + 1) [.int .i64 k.zone, .int .i64 k.epoch, .int .i64 k.kind, .int .i64 k.time, .int .i64 k.until_, .int .i64 k.count, .int .i64 k.root, .int .i64 k.prev, .slice X0 m0 b0, .int .i64 k.keys.need, .slice X1 m1 b1, .int .i64 k.heirs.need, .int .i64 k.wait, .slice none 0 0, .int .i64 0, .bool false] from pt_self hV2 HY_4.out (by simp))
  have HO0_5 := Lib.hid (pt_own hV2 HO0_4.out (show (w.heap.size + 1 + 1) < (w.heap.size + 3) by omega))
  have HO1_5 := Lib.hid (pt_own hV2 HO1_4.out (show (w.heap.size + 1 + 1) < (w.heap.size + 3) by omega))
  have HV2 := Lib.hid hV2
  clear hV2
  rw [show ((W1.setCell ⟨w.heap.size + 1 + 1, 10, none⟩ (.slice X1 m1 b1)).setCell ⟨w.heap.size + 1 + 1, 11, none⟩ (.int .i64 k.heirs.need)).setCell ⟨w.heap.size + 1 + 1, 12, none⟩ (.int .i64 k.wait) = V2 from HV2.out]
  refine (toKeys_any [.slice A2 n2 c2, .int .i64 k.judge.need] (k.judge) V2 (rd_up D11.out HB_5.out) N11.out).mono ?_
  rintro e W2 ⟨cs2, rfl, ho, hb⟩
  obtain ⟨X2, m2, b2, rfl⟩ := RKeys_shape ho.rd
  have HB_6 := Lib.hid (HB_5.out.trans (hb.mono HB_5.out.size))
  have HX_6 := Lib.hid (HX_5.out.below hb HX_5.out.lt)
  have HR_6 := Lib.hid (HR_5.out.below hb HR_5.out.lt)
  have HY_6 := Lib.hid (HY_5.out.below hb HY_5.out.lt)
  have HO0_6 := Lib.hid (show OwnI RKeys W2 (w.heap.size + 3) (W0.heap.size) [.slice X0 m0 b0, .int .i64 k.keys.need] k.keys ∧ (W0.heap.size) ≤ W2.heap.size ∧ (w.heap.size + 3) ≤ (w.heap.size + 3) from ⟨HO0_5.out.1.below hb HO0_5.out.2.1, Nat.le_trans HO0_5.out.2.1 hb.size, HO0_5.out.2.2⟩)
  have HO1_6 := Lib.hid (show OwnI RKeys W2 (W0.heap.size) (W1.heap.size) [.slice X1 m1 b1, .int .i64 k.heirs.need] k.heirs ∧ (W1.heap.size) ≤ W2.heap.size ∧ (w.heap.size + 3) ≤ (W0.heap.size) from ⟨HO1_5.out.1.below hb HO1_5.out.2.1, Nat.le_trans HO1_5.out.2.1 hb.size, HO1_5.out.2.2⟩)
  have HS2 := Lib.hid (show W1.heap.size ≤ W2.heap.size from Nat.le_trans HO1_5.out.2.1 hb.size)
  have HO2_6 := Lib.hid (show OwnI RKeys W2 (W1.heap.size) (W2.heap.size) [.slice X2 m2 b2, .int .i64 k.judge.need] k.judge ∧ (W2.heap.size) ≤ W2.heap.size ∧ (w.heap.size + 3) ≤ (W1.heap.size) from ⟨ho.wide (by have := HO1_5.out.2.1; exact this) (Nat.le_refl _), Nat.le_refl _, by have := HS0.out; have := HS1.out; have := HS2.out; omega⟩)
  clear hb ho
  have zX0 := HX_6.out.cell (j := 0) rfl
  have zX1 := HX_6.out.cell (j := 1) rfl
  have zX2 := HX_6.out.cell (j := 2) rfl
  have zX3 := HX_6.out.cell (j := 3) rfl
  have zX4 := HX_6.out.cell (j := 4) rfl
  have zX5 := HX_6.out.cell (j := 5) rfl
  have zX6 := HX_6.out.cell (j := 6) rfl
  have zX7 := HX_6.out.cell (j := 7) rfl
  have zX8 := HX_6.out.cell (j := 8) rfl
  have zX9 := HX_6.out.cell (j := 9) rfl
  have zX10 := HX_6.out.cell (j := 10) rfl
  have zX11 := HX_6.out.cell (j := 11) rfl
  have zX12 := HX_6.out.cell (j := 12) rfl
  have zX13 := HX_6.out.cell (j := 13) rfl
  have zX14 := HX_6.out.cell (j := 14) rfl
  have zX15 := HX_6.out.cell (j := 15) rfl
  have zR0 := HR_6.out.cell (j := 0) rfl
  have fR0 := HR_6.out.warm (j := 0) rfl
  have zR1 := HR_6.out.cell (j := 1) rfl
  have fR1 := HR_6.out.warm (j := 1) rfl
  have zR2 := HR_6.out.cell (j := 2) rfl
  have fR2 := HR_6.out.warm (j := 2) rfl
  have zR3 := HR_6.out.cell (j := 3) rfl
  have fR3 := HR_6.out.warm (j := 3) rfl
  have zR4 := HR_6.out.cell (j := 4) rfl
  have fR4 := HR_6.out.warm (j := 4) rfl
  have zR5 := HR_6.out.cell (j := 5) rfl
  have fR5 := HR_6.out.warm (j := 5) rfl
  have zR6 := HR_6.out.cell (j := 6) rfl
  have fR6 := HR_6.out.warm (j := 6) rfl
  have zR7 := HR_6.out.cell (j := 7) rfl
  have fR7 := HR_6.out.warm (j := 7) rfl
  have zR8 := HR_6.out.cell (j := 8) rfl
  have fR8 := HR_6.out.warm (j := 8) rfl
  have zR9 := HR_6.out.cell (j := 9) rfl
  have fR9 := HR_6.out.warm (j := 9) rfl
  have zR10 := HR_6.out.cell (j := 10) rfl
  have fR10 := HR_6.out.warm (j := 10) rfl
  have zR11 := HR_6.out.cell (j := 11) rfl
  have fR11 := HR_6.out.warm (j := 11) rfl
  have zR12 := HR_6.out.cell (j := 12) rfl
  have fR12 := HR_6.out.warm (j := 12) rfl
  have zR13 := HR_6.out.cell (j := 13) rfl
  have fR13 := HR_6.out.warm (j := 13) rfl
  have zR14 := HR_6.out.cell (j := 14) rfl
  have fR14 := HR_6.out.warm (j := 14) rfl
  have zR15 := HR_6.out.cell (j := 15) rfl
  have fR15 := HR_6.out.warm (j := 15) rfl
  have zY0 := HY_6.out.cell (j := 0) rfl
  have fY0 := HY_6.out.warm (j := 0) rfl
  have zY1 := HY_6.out.cell (j := 1) rfl
  have fY1 := HY_6.out.warm (j := 1) rfl
  have zY2 := HY_6.out.cell (j := 2) rfl
  have fY2 := HY_6.out.warm (j := 2) rfl
  have zY3 := HY_6.out.cell (j := 3) rfl
  have fY3 := HY_6.out.warm (j := 3) rfl
  have zY4 := HY_6.out.cell (j := 4) rfl
  have fY4 := HY_6.out.warm (j := 4) rfl
  have zY5 := HY_6.out.cell (j := 5) rfl
  have fY5 := HY_6.out.warm (j := 5) rfl
  have zY6 := HY_6.out.cell (j := 6) rfl
  have fY6 := HY_6.out.warm (j := 6) rfl
  have zY7 := HY_6.out.cell (j := 7) rfl
  have fY7 := HY_6.out.warm (j := 7) rfl
  have zY8 := HY_6.out.cell (j := 8) rfl
  have fY8 := HY_6.out.warm (j := 8) rfl
  have zY9 := HY_6.out.cell (j := 9) rfl
  have fY9 := HY_6.out.warm (j := 9) rfl
  have zY10 := HY_6.out.cell (j := 10) rfl
  have fY10 := HY_6.out.warm (j := 10) rfl
  have zY11 := HY_6.out.cell (j := 11) rfl
  have fY11 := HY_6.out.warm (j := 11) rfl
  have zY12 := HY_6.out.cell (j := 12) rfl
  have fY12 := HY_6.out.warm (j := 12) rfl
  have zY13 := HY_6.out.cell (j := 13) rfl
  have fY13 := HY_6.out.warm (j := 13) rfl
  have zY14 := HY_6.out.cell (j := 14) rfl
  have fY14 := HY_6.out.warm (j := 14) rfl
  have zY15 := HY_6.out.cell (j := 15) rfl
  have fY15 := HY_6.out.warm (j := 15) rfl
  have lt2 := HY_6.out.lt
  go_wp2
  clear zX0 zX1 zX2 zX3 zX4 zX5 zX6 zX7 zX8 zX9 zX10 zX11 zX12 zX13 zX14 zX15 zR0 fR0 zR1 fR1 zR2 fR2 zR3 fR3 zR4 fR4 zR5 fR5 zR6 fR6 zR7 fR7 zR8 fR8 zR9 fR9 zR10 fR10 zR11 fR11 zR12 fR12 zR13 fR13 zR14 fR14 zR15 fR15 zY0 fY0 zY1 fY1 zY2 fY2 zY3 fY3 zY4 fY4 zY5 fY5 zY6 fY6 zY7 fY7 zY8 fY8 zY9 fY9 zY10 fY10 zY11 fY11 zY12 fY12 zY13 fY13 zY14 fY14 zY15 fY15 lt2
  obtain ⟨V3, hV3⟩ : ∃ V, puts W2 (w.heap.size + 1 + 1) 13 [.slice X2 m2 b2, .int .i64 k.judge.need, .bool k.frozen] = V := ⟨_, rfl⟩
  have HB_7 := Lib.hid (pt_bel hV3 HB_6.out (show w.heap.size ≤ (w.heap.size + 1 + 1) by omega))
  have HX_7 := Lib.hid (pt_box hV3 HX_6.out (show (w.heap.size) ≠ (w.heap.size + 1 + 1) by omega))
  have HR_7 := Lib.hid (pt_box hV3 HR_6.out (show (w.heap.size + 1) ≠ (w.heap.size + 1 + 1) by omega))
  have HY_7 := Lib.hid (show Box V3 (w.heap.size + 1 + 1) [.int .i64 k.zone, .int .i64 k.epoch, .int .i64 k.kind, .int .i64 k.time, .int .i64 k.until_, .int .i64 k.count, .int .i64 k.root, .int .i64 k.prev, .slice X0 m0 b0, .int .i64 k.keys.need, .slice X1 m1 b1, .int .i64 k.heirs.need, .int .i64 k.wait, .slice X2 m2 b2, .int .i64 k.judge.need, .bool k.frozen] from pt_self hV3 HY_6.out (by simp))
  have HO0_7 := Lib.hid (pt_own hV3 HO0_6.out (show (w.heap.size + 1 + 1) < (w.heap.size + 3) by omega))
  have HO1_7 := Lib.hid (pt_own hV3 HO1_6.out (show (w.heap.size + 1 + 1) < (w.heap.size + 3) by omega))
  have HO2_7 := Lib.hid (pt_own hV3 HO2_6.out (show (w.heap.size + 1 + 1) < (w.heap.size + 3) by omega))
  have HV3 := Lib.hid hV3
  clear hV3
  obtain ⟨VF, hVF⟩ : ∃ V, puts V3 (w.heap.size + 1) 0 [.int .i64 k.zone, .int .i64 k.epoch, .int .i64 k.kind, .int .i64 k.time, .int .i64 k.until_, .int .i64 k.count, .int .i64 k.root, .int .i64 k.prev, .slice X0 m0 b0, .int .i64 k.keys.need, .slice X1 m1 b1, .int .i64 k.heirs.need, .int .i64 k.wait, .slice X2 m2 b2, .int .i64 k.judge.need, .bool k.frozen] = V := ⟨_, rfl⟩
  have HB_8 := Lib.hid (pt_bel hVF HB_7.out (show w.heap.size ≤ (w.heap.size + 1) by omega))
  have HX_8 := Lib.hid (pt_box hVF HX_7.out (show (w.heap.size) ≠ (w.heap.size + 1) by omega))
  have HR_8 := Lib.hid (show Box VF (w.heap.size + 1) [.int .i64 k.zone, .int .i64 k.epoch, .int .i64 k.kind, .int .i64 k.time, .int .i64 k.until_, .int .i64 k.count, .int .i64 k.root, .int .i64 k.prev, .slice X0 m0 b0, .int .i64 k.keys.need, .slice X1 m1 b1, .int .i64 k.heirs.need, .int .i64 k.wait, .slice X2 m2 b2, .int .i64 k.judge.need, .bool k.frozen] from pt_self hVF HR_7.out (by simp))
  have HY_8 := Lib.hid (pt_box hVF HY_7.out (show (w.heap.size + 1 + 1) ≠ (w.heap.size + 1) by omega))
  have HO0_8 := Lib.hid (pt_own hVF HO0_7.out (show (w.heap.size + 1) < (w.heap.size + 3) by omega))
  have HO1_8 := Lib.hid (pt_own hVF HO1_7.out (show (w.heap.size + 1) < (w.heap.size + 3) by omega))
  have HO2_8 := Lib.hid (pt_own hVF HO2_7.out (show (w.heap.size + 1) < (w.heap.size + 3) by omega))
  have HVF := Lib.hid hVF
  clear hVF
  rw [show ((W2.setCell ⟨w.heap.size + 1 + 1, 13, none⟩ (.slice X2 m2 b2)).setCell ⟨w.heap.size + 1 + 1, 14, none⟩ (.int .i64 k.judge.need)).setCell ⟨w.heap.size + 1 + 1, 15, none⟩ (.bool k.frozen) = V3 from HV3.out, show (((((((((((((((V3.setCell ⟨w.heap.size + 1, 0, none⟩ (.int .i64 k.zone)).setCell ⟨w.heap.size + 1, 1, none⟩ (.int .i64 k.epoch)).setCell ⟨w.heap.size + 1, 2, none⟩ (.int .i64 k.kind)).setCell ⟨w.heap.size + 1, 3, none⟩ (.int .i64 k.time)).setCell ⟨w.heap.size + 1, 4, none⟩ (.int .i64 k.until_)).setCell ⟨w.heap.size + 1, 5, none⟩ (.int .i64 k.count)).setCell ⟨w.heap.size + 1, 6, none⟩ (.int .i64 k.root)).setCell ⟨w.heap.size + 1, 7, none⟩ (.int .i64 k.prev)).setCell ⟨w.heap.size + 1, 8, none⟩ (.slice X0 m0 b0)).setCell ⟨w.heap.size + 1, 9, none⟩ (.int .i64 k.keys.need)).setCell ⟨w.heap.size + 1, 10, none⟩ (.slice X1 m1 b1)).setCell ⟨w.heap.size + 1, 11, none⟩ (.int .i64 k.heirs.need)).setCell ⟨w.heap.size + 1, 12, none⟩ (.int .i64 k.wait)).setCell ⟨w.heap.size + 1, 13, none⟩ (.slice X2 m2 b2)).setCell ⟨w.heap.size + 1, 14, none⟩ (.int .i64 k.judge.need)).setCell ⟨w.heap.size + 1, 15, none⟩ (.bool k.frozen) = VF from HVF.out]
  have zR0 := HR_8.out.cell (j := 0) rfl
  have zR1 := HR_8.out.cell (j := 1) rfl
  have zR2 := HR_8.out.cell (j := 2) rfl
  have zR3 := HR_8.out.cell (j := 3) rfl
  have zR4 := HR_8.out.cell (j := 4) rfl
  have zR5 := HR_8.out.cell (j := 5) rfl
  have zR6 := HR_8.out.cell (j := 6) rfl
  have zR7 := HR_8.out.cell (j := 7) rfl
  have zR8 := HR_8.out.cell (j := 8) rfl
  have zR9 := HR_8.out.cell (j := 9) rfl
  have zR10 := HR_8.out.cell (j := 10) rfl
  have zR11 := HR_8.out.cell (j := 11) rfl
  have zR12 := HR_8.out.cell (j := 12) rfl
  have zR13 := HR_8.out.cell (j := 13) rfl
  have zR14 := HR_8.out.cell (j := 14) rfl
  have zR15 := HR_8.out.cell (j := 15) rfl
  refine bodyPost_ret (v := .agg #[.int .i64 k.zone, .int .i64 k.epoch, .int .i64 k.kind, .int .i64 k.time, .int .i64 k.until_, .int .i64 k.count, .int .i64 k.root, .int .i64 k.prev, .slice X0 m0 b0, .int .i64 k.keys.need, .slice X1 m1 b1, .int .i64 k.heirs.need, .int .i64 k.wait, .slice X2 m2 b2, .int .i64 k.judge.need, .bool k.frozen]) (by simp [results, Try.results16, go_sem, zR0, zR1, zR2, zR3, zR4, zR5, zR6, zR7, zR8, zR9, zR10, zR11, zR12, zR13, zR14, zR15]) rfl ⟨[.int .i64 k.zone, .int .i64 k.epoch, .int .i64 k.kind, .int .i64 k.time, .int .i64 k.until_, .int .i64 k.count, .int .i64 k.root, .int .i64 k.prev, .slice X0 m0 b0, .int .i64 k.keys.need, .slice X1 m1 b1, .int .i64 k.heirs.need, .int .i64 k.wait, .slice X2 m2 b2, .int .i64 k.judge.need, .bool k.frozen], rfl, ?_, HB_8.out⟩
  obtain ⟨F8, a8, u8, e8⟩ := HO0_8.out.1
  obtain ⟨F9, a9, u9, e9⟩ := HO1_8.out.1
  obtain ⟨F11, a11, u11, e11⟩ := HO2_8.out.1
  have l0 := HS0.out
  have l1 := HS1.out
  have l2 := HS2.out
  have lF := HO2_8.out.2.1
  have g11 : F11.Nodup ∧ ∀ b, b ∈ F11 → W1.heap.size ≤ b ∧ b < W2.heap.size := ⟨u11, e11⟩
  have g9 := part_cons (lo := W0.heap.size) u9 e9 g11 (Nat.le_refl _) (Nat.le_refl _) (by omega) (by omega)
  have g8 := part_cons (lo := w.heap.size + 3) u8 e8 g9 (Nat.le_refl _) (Nat.le_refl _) (by omega) (by omega)
  exact ⟨_, RHead_set.2 ⟨X0, m0, b0, X1, m1, b1, X2, m2, b2, F8, F9, F11, rfl, rfl, D0.out, D1.out, D2.out, D3.out, D4.out, D5.out, D6.out, D7.out, a8, a9, D10.out, a11⟩, g8.1, fun b hb => by have := g8.2 b hb; omega⟩
def mkHead (k : Head) (q : Int) : Head := ⟨k.zone, k.epoch, k.kind, k.time, k.until_, k.count, k.root, k.prev, mkKeys k.keys (q), mkKeys k.heirs (q + ((cntKeys k.keys : Nat) : Int)), k.wait, mkKeys k.judge (q + ((cntKeys k.keys : Nat) : Int) + ((cntKeys k.heirs : Nat) : Int)), k.frozen⟩
set_option maxHeartbeats 2000000 in
theorem markHead_f (F : List Nat) (cs : List Value) (k : Head) (q : Int) (w : World) (h : RHead.own w F cs k) (hnd : F.Nodup) (hn : cntHead k ≤ 1099511627776) (hq0 : 0 ≤ q) (hq1 : q ≤ 576460752303423488) :
    Calls Try.prog 23 #[.agg cs.toArray, .int .i64 q] w fun e w' => e = .returned (.int .i64 (q + (cntHead k : Int))) ∧ RHead.own w' F cs (mkHead k q) ∧ FrF F w w' := by
  obtain ⟨A0, n0, c0, A1, n1, c1, A2, n2, c2, F8, F9, F11, rfl, hFF, h0, h1, h2, h3, h4, h5, h6, h7, h8, h9, h10, h11⟩ := RHead_set.1 h
  unfold cntHead at hn
  have O8 := Lib.hid (show RKeys.own w F8 [.slice A0 n0 c0, .int .i64 k.keys.need] k.keys from h8)
  have O9 := Lib.hid (show RKeys.own w F9 [.slice A1 n1 c1, .int .i64 k.heirs.need] k.heirs from h9)
  have O11 := Lib.hid (show RKeys.own w F11 [.slice A2 n2 c2, .int .i64 k.judge.need] k.judge from h11)
  have D0 := Lib.hid h0
  have D1 := Lib.hid h1
  have D2 := Lib.hid h2
  have D3 := Lib.hid h3
  have D4 := Lib.hid h4
  have D5 := Lib.hid h5
  have D6 := Lib.hid h6
  have D7 := Lib.hid h7
  have D10 := Lib.hid h10
  have N8 := Lib.hid (show cntKeys k.keys ≤ 1099511627776 by omega)
  have N9 := Lib.hid (show cntKeys k.heirs ≤ 1099511627776 by omega)
  have N11 := Lib.hid (show cntKeys k.judge ≤ 1099511627776 by omega)
  have P8_9 := Lib.hid (show ∀ i, i ∈ F8 → i ∉ F9 from fun i g1 g2 => by
    rw [hFF] at hnd
    simp only [List.nodup_append, List.mem_append] at hnd
    grind)
  have P8_11 := Lib.hid (show ∀ i, i ∈ F8 → i ∉ F11 from fun i g1 g2 => by
    rw [hFF] at hnd
    simp only [List.nodup_append, List.mem_append] at hnd
    grind)
  have P9_8 := Lib.hid (show ∀ i, i ∈ F9 → i ∉ F8 from fun i g1 g2 => by
    rw [hFF] at hnd
    simp only [List.nodup_append, List.mem_append] at hnd
    grind)
  have P9_11 := Lib.hid (show ∀ i, i ∈ F9 → i ∉ F11 from fun i g1 g2 => by
    rw [hFF] at hnd
    simp only [List.nodup_append, List.mem_append] at hnd
    grind)
  have P11_8 := Lib.hid (show ∀ i, i ∈ F11 → i ∉ F8 from fun i g1 g2 => by
    rw [hFF] at hnd
    simp only [List.nodup_append, List.mem_append] at hnd
    grind)
  have P11_9 := Lib.hid (show ∀ i, i ∈ F11 → i ∉ F9 from fun i g1 g2 => by
    rw [hFF] at hnd
    simp only [List.nodup_append, List.mem_append] at hnd
    grind)
  have Z8 := Lib.hid (show F8.Nodup by rw [hFF] at hnd; simp only [List.nodup_append] at hnd; grind)
  have Z9 := Lib.hid (show F9.Nodup by rw [hFF] at hnd; simp only [List.nodup_append] at hnd; grind)
  have Z11 := Lib.hid (show F11.Nodup by rw [hFF] at hnd; simp only [List.nodup_append] at hnd; grind)
  have HFF := Lib.hid hFF
  clear h hnd hn hFF h0 h1 h2 h3 h4 h5 h6 h7 h8 h9 h10 h11
  obtain ⟨r8, hr8⟩ : ∃ r : Nat, r = cntKeys k.keys := ⟨_, rfl⟩
  obtain ⟨r9, hr9⟩ : ∃ r : Nat, r = cntKeys k.heirs := ⟨_, rfl⟩
  obtain ⟨r11, hr11⟩ : ∃ r : Nat, r = cntKeys k.judge := ⟨_, rfl⟩
  rw [show q + ((cntHead k : Nat) : Int) = q + (r8 : Int) + (r9 : Int) + (r11 : Int) by unfold cntHead; omega]
  have NR8 : r8 ≤ 1099511627776 := by have := N8.out; omega
  have NR9 : r9 ≤ 1099511627776 := by have := N9.out; omega
  have NR11 : r11 ≤ 1099511627776 := by have := N11.out; omega
  have M8 := Lib.hid (fun w1 h1 => markKeys_f F8 [.slice A0 n0 c0, .int .i64 k.keys.need] (k.keys) (q) w1 h1 Z8.out N8.out (by omega) (by omega))
  rw [← hr8] at M8
  have M9 := Lib.hid (fun w1 h1 => markKeys_f F9 [.slice A1 n1 c1, .int .i64 k.heirs.need] (k.heirs) (q + (r8 : Int)) w1 h1 Z9.out N9.out (by omega) (by omega))
  rw [← hr9] at M9
  have M11 := Lib.hid (fun w1 h1 => markKeys_f F11 [.slice A2 n2 c2, .int .i64 k.judge.need] (k.judge) (q + (r8 : Int) + (r9 : Int)) w1 h1 Z11.out N11.out (by omega) (by omega))
  rw [← hr11] at M11
  have HR8 := Lib.hid hr8
  clear hr8
  have HR9 := Lib.hid hr9
  clear hr9
  have HR11 := Lib.hid hr11
  clear hr11
  have HFR := Lib.hid (FrF.refl F w)
  have OO8 := O8
  have OO9 := O9
  go_enter Try.func23, Try.ntmps23
  go_wp2_with fail
  refine (M8.out _ (RKeys.okeep O8.out fun i _ hi => Below.heap_alloc w _ i hi)).mono ?_
  rintro e w0_ ⟨rfl, ho, hfr⟩
  replace O9 := Lib.hid (own_frf (RKeys.okeep O9.out fun i _ hi => Below.heap_alloc w _ i hi) hfr P9_8.out)
  replace O11 := Lib.hid (own_frf (RKeys.okeep O11.out fun i _ hi => Below.heap_alloc w _ i hi) hfr P11_8.out)
  replace O8 := Lib.hid ho
  replace HFR := Lib.hid ((FrF.of_below ((Below.refl w.heap.size w).alloc (Nat.le_refl _) _) F).trans (hfr.more (fun i hi => by rw [HFF.out]; simp [hi])))
  have hcc0 : ∀ o, w0_.cell? ⟨w.heap.size, o, none⟩ = (w.alloc _).cell? ⟨w.heap.size, o, none⟩ := fun o => World.cell?_of_block (a := ⟨w.heap.size, o, none⟩) (hfr.block w.heap.size (by first | (simp; done) | exact HSZ.out) (fun hi => by have := RKeys.olt OO8.out w.heap.size hi; omega))
  have HSZ := Lib.hid (show w.heap.size < w0_.heap.size from Nat.lt_of_lt_of_le (by first | (simp; done) | exact HSZ.out) hfr.size)
  clear ho hfr
  go_wp2_with fail
  refine (M9.out _ O9.out).mono ?_
  rintro e w1_ ⟨rfl, ho, hfr⟩
  replace O8 := Lib.hid (own_frf O8.out hfr P8_9.out)
  replace O11 := Lib.hid (own_frf O11.out hfr P11_9.out)
  replace O9 := Lib.hid ho
  replace HFR := Lib.hid (HFR.out.trans (hfr.more (fun i hi => by rw [HFF.out]; simp [hi])))
  have hcc1 : ∀ o, w1_.cell? ⟨w.heap.size, o, none⟩ = w0_.cell? ⟨w.heap.size, o, none⟩ := fun o => World.cell?_of_block (a := ⟨w.heap.size, o, none⟩) (hfr.block w.heap.size (by first | (simp; done) | exact HSZ.out) (fun hi => by have := RKeys.olt OO9.out w.heap.size hi; omega))
  have HSZ := Lib.hid (show w.heap.size < w1_.heap.size from Nat.lt_of_lt_of_le (by first | (simp; done) | exact HSZ.out) hfr.size)
  clear ho hfr
  go_wp2_with fail
  refine (M11.out _ O11.out).mono ?_
  rintro e w2_ ⟨rfl, ho, hfr⟩
  replace O8 := Lib.hid (own_frf O8.out hfr P8_11.out)
  replace O9 := Lib.hid (own_frf O9.out hfr P9_11.out)
  replace O11 := Lib.hid ho
  replace HFR := Lib.hid (HFR.out.trans (hfr.more (fun i hi => by rw [HFF.out]; simp [hi])))
  clear ho hfr
  go_wp2
  go_ret
  refine ⟨rfl, RHead_set.2 ⟨A0, n0, c0, A1, n1, c1, A2, n2, c2, F8, F9, F11, rfl, HFF.out, D0.out, D1.out, D2.out, D3.out, D4.out, D5.out, D6.out, D7.out, ?_, ?_, D10.out, ?_⟩, HFR.out⟩
  · have := O8.out
    unfold mkHead
    simp only
    exact this
  · have := O9.out
    unfold mkHead
    simp only
    rw [← HR8.out]
    exact this
  · have := O11.out
    unfold mkHead
    simp only
    rw [← HR8.out]
    rw [← HR9.out]
    exact this
theorem markHead_any (lo hi : Nat) (cs : List Value) (k : Head) (q : Int) (w : World) (h : OwnI RHead w lo hi cs k) (hh : hi ≤ w.heap.size) (hn : cntHead k ≤ 1099511627776) (hq0 : 0 ≤ q) (hq1 : q ≤ 576460752303423488) :
    Calls Try.prog 23 #[.agg cs.toArray, .int .i64 q] w fun e w' => e = .returned (.int .i64 (q + (cntHead k : Int))) ∧ OwnI RHead w' lo hi cs (mkHead k q) ∧ Fr lo hi w w' :=
  mark_int (fun F h1 h2 => markHead_f F cs k q w h1 h2 hn hq0 hq1) h
set_option maxHeartbeats 2000000 in
theorem heldHead_marks (B : Nat) (cs : List Value) (k : Head) (q : Int) (w : World) (h : RHead.rd w (Lt B) cs (mkHead k q)) (hB : B ≤ w.heap.size) (hn : cntHead k ≤ 1099511627776) (hq0 : 0 ≤ q) (hq1 : q ≤ 576460752303423488) :
    Calls Try.prog 47 #[.agg cs.toArray, .int .i64 q] w fun e w' => e = .returned (.int .i64 (q + (cntHead k : Int))) ∧ Below w.heap.size w w' := by
  obtain ⟨A0, n0, c0, A1, n1, c1, A2, n2, c2, rfl, h0, h1, h2, h3, h4, h5, h6, h7, h8, h9, h10, h11⟩ := RHead_flds (RHead.more h fun i hi => Nat.lt_of_lt_of_le hi hB)
  unfold cntHead at hn
  obtain ⟨r8, hr8⟩ : ∃ r : Nat, r = cntKeys k.keys := ⟨_, rfl⟩
  obtain ⟨r9, hr9⟩ : ∃ r : Nat, r = cntKeys k.heirs := ⟨_, rfl⟩
  obtain ⟨r11, hr11⟩ : ∃ r : Nat, r = cntKeys k.judge := ⟨_, rfl⟩
  rw [show q + ((cntHead k : Nat) : Int) = q + (r8 : Int) + (r9 : Int) + (r11 : Int) by unfold cntHead; omega]
  have D8 := Lib.hid (show RKeys.rd w (Lt w.heap.size) [.slice A0 n0 c0, .int .i64 (mkHead k q).keys.need] (mkKeys k.keys (q)) from by
    have h_ := h8
    unfold mkHead at h_
    try unfold mkHead
    try simp only at h_ ⊢
    exact h_)
  have V8 := Lib.hid (fun w1 (hb : Below w.heap.size w w1) => heldKeys_marks _ [.slice A0 n0 c0, .int .i64 (mkHead k q).keys.need] (k.keys) (q) w1 (rd_up D8.out hb) (Nat.le_refl _) (by omega) (by omega) (by omega))
  simp only [← hr8] at V8
  have D9 := Lib.hid (show RKeys.rd w (Lt w.heap.size) [.slice A1 n1 c1, .int .i64 (mkHead k q).heirs.need] (mkKeys k.heirs (q + (r8 : Int))) from by
    have h_ := h9
    unfold mkHead at h_
    try unfold mkHead
    try simp only at h_ ⊢
    rw [hr8]
    exact h_)
  have V9 := Lib.hid (fun w1 (hb : Below w.heap.size w w1) => heldKeys_marks _ [.slice A1 n1 c1, .int .i64 (mkHead k q).heirs.need] (k.heirs) (q + (r8 : Int)) w1 (rd_up D9.out hb) (Nat.le_refl _) (by omega) (by omega) (by omega))
  simp only [← hr9] at V9
  have D11 := Lib.hid (show RKeys.rd w (Lt w.heap.size) [.slice A2 n2 c2, .int .i64 (mkHead k q).judge.need] (mkKeys k.judge (q + (r8 : Int) + (r9 : Int))) from by
    have h_ := h11
    unfold mkHead at h_
    try unfold mkHead
    try simp only at h_ ⊢
    rw [hr8]
    rw [hr9]
    exact h_)
  have V11 := Lib.hid (fun w1 (hb : Below w.heap.size w w1) => heldKeys_marks _ [.slice A2 n2 c2, .int .i64 (mkHead k q).judge.need] (k.judge) (q + (r8 : Int) + (r9 : Int)) w1 (rd_up D11.out hb) (Nat.le_refl _) (by omega) (by omega) (by omega))
  simp only [← hr11] at V11
  have NR : r8 ≤ 1099511627776 ∧ r9 ≤ 1099511627776 ∧ r11 ≤ 1099511627776 := by omega
  clear h hn hB h0 h1 h2 h3 h4 h5 h6 h7 h8 h9 h10 h11 hr8 hr9 hr11
  have z0 : ¬ q + (r8 : Int) < 0 := by omega
  have z1 : ¬ q + (r8 : Int) + (r9 : Int) < 0 := by omega
  have z2 : ¬ q + (r8 : Int) + (r9 : Int) + (r11 : Int) < 0 := by omega
  generalize mkHead k q = kk at *
  have HBB := Lib.hid (Below.refl w.heap.size w)
  go_enter Try.func47, Try.ntmps47
  go_wp2_with fail
  refine (V8.out _ ?_).mono ?_
  · repeat' (first | exact HBB.out | exact Below.refl _ _ | refine Below.setCell ?_ ?_ _ | refine Below.alloc ?_ ?_ _)
    all_goals first | (simp; done) | (simp; omega) | omega
  rintro e w0_ ⟨rfl, hb⟩
  have hb2 : Below w.heap.size w w0_ := by
    refine Below.trans ?_ (Below.mono hb ?_)
    repeat' (first | exact HBB.out | exact Below.refl _ _ | refine Below.setCell ?_ ?_ _ | refine Below.alloc ?_ ?_ _)
    all_goals first | (simp; done) | (simp; omega) | omega
  replace HBB := Lib.hid hb2
  obtain ⟨hc0, hf0⟩ := bcell hb
  have hlt0 : w.heap.size < w0_.heap.size := by have := hb.size; (try simp at this); omega
  clear hb hb2
  go_wp2_with fail
  refine (V9.out _ ?_).mono ?_
  · repeat' (first | exact HBB.out | exact Below.refl _ _ | refine Below.setCell ?_ ?_ _ | refine Below.alloc ?_ ?_ _)
    all_goals first | (simp; done) | (simp; omega) | omega
  rintro e w1_ ⟨rfl, hb⟩
  have hb2 : Below w.heap.size w w1_ := by
    refine Below.trans ?_ (Below.mono hb ?_)
    repeat' (first | exact HBB.out | exact Below.refl _ _ | refine Below.setCell ?_ ?_ _ | refine Below.alloc ?_ ?_ _)
    all_goals first | (simp; done) | (simp; omega) | omega
  replace HBB := Lib.hid hb2
  obtain ⟨hc1, hf1⟩ := bcell hb
  have hlt1 : w.heap.size < w1_.heap.size := by have := hb.size; (try simp at this); omega
  clear hb hb2
  go_wp2_with fail
  refine (V11.out _ ?_).mono ?_
  · repeat' (first | exact HBB.out | exact Below.refl _ _ | refine Below.setCell ?_ ?_ _ | refine Below.alloc ?_ ?_ _)
    all_goals first | (simp; done) | (simp; omega) | omega
  rintro e w2_ ⟨rfl, hb⟩
  have hb2 : Below w.heap.size w w2_ := by
    refine Below.trans ?_ (Below.mono hb ?_)
    repeat' (first | exact HBB.out | exact Below.refl _ _ | refine Below.setCell ?_ ?_ _ | refine Below.alloc ?_ ?_ _)
    all_goals first | (simp; done) | (simp; omega) | omega
  replace HBB := Lib.hid hb2
  obtain ⟨hc2, hf2⟩ := bcell hb
  have hlt2 : w.heap.size < w2_.heap.size := by have := hb.size; (try simp at this); omega
  clear hb hb2
  go_wp2
  go_ret
  refine ⟨rfl, ?_⟩
  repeat' (first | exact HBB.out | exact Below.refl _ _ | refine Below.setCell ?_ ?_ _ | refine Below.alloc ?_ ?_ _)
  all_goals first | (simp; done) | (simp; omega) | omega
end Go.Proofs.Ythhmhcmlbpdlbaa.T13
