/- The laws' own helpers on a struct: Gap. -/
import Derived.Test.YtbhhifoofapgiaaT12S
namespace Go.Proofs.Ytbhhifoofapgiaa.T12
open Go.RowKit Mem MemS Rep RepA T01 T04 T05 R08 R12 TW R11 T08 T11 BX T12S
set_option linter.unusedVariables false
set_option maxRecDepth 100000
set_option maxHeartbeats 4000000 in
theorem toGap_any (cs : List Value) (k : Gap) (w : World) (h : RGap.rd w (Lt w.heap.size) cs k) (hn : totGap k ≤ 1048576) :
    Calls Try.prog 18 #[.agg cs.toArray] w fun e w' => ∃ cs', e = .returned (.agg (List.toArray cs')) ∧ OwnI RGap w' w.heap.size w'.heap.size cs' k ∧ Below w.heap.size w w' := by
  obtain ⟨A0, n0, c0, A1, n1, c1, A2, n2, c2, A3, n3, c3, rfl, h0, h1, h2, h3, h4⟩ := RGap_flds h
  unfold totGap at hn
  have D0 := Lib.hid h0
  have D1 := Lib.hid h1
  have D2 := Lib.hid h2
  have D3 := Lib.hid h3
  have D4 := Lib.hid h4
  have N1 := Lib.hid (show totEntry k.before ≤ 1048576 by omega)
  have N2 := Lib.hid (show totEntry k.after ≤ 1048576 by omega)
  have N3 := Lib.hid (show totProof k.left ≤ 1048576 by omega)
  have N4 := Lib.hid (show totProof k.right ≤ 1048576 by omega)
  clear h hn h0 h1 h2 h3 h4
  obtain ⟨V0, hV0⟩ : ∃ V, V = ((w.alloc (.cells #[.int .i64 k.at_, .string k.before.label, .int .i64 k.before.kind, .int .i64 k.before.value, .slice A0 n0 c0, .string k.after.label, .int .i64 k.after.kind, .int .i64 k.after.value, .slice A1 n1 c1, .int .i64 k.left.at_, .slice A2 n2 c2, .int .i64 k.right.at_, .slice A3 n3 c3] 44)).alloc (.cells #[.int .i64 0, .string ⟨#[]⟩, .int .i64 0, .int .i64 0, .slice none 0 0, .string ⟨#[]⟩, .int .i64 0, .int .i64 0, .slice none 0 0, .int .i64 0, .slice none 0 0, .int .i64 0, .slice none 0 0] 31)).alloc (.cells #[.int .i64 k.at_, .string ⟨#[]⟩, .int .i64 0, .int .i64 0, .slice none 0 0, .string ⟨#[]⟩, .int .i64 0, .int .i64 0, .slice none 0 0, .int .i64 0, .slice none 0 0, .int .i64 0, .slice none 0 0] 31) := ⟨_, rfl⟩
  have HB_1 := Lib.hid (show Below w.heap.size w V0 from by
    rw [hV0]
    exact (((Below.refl _ _).alloc (by first | (simp; done) | (simp; omega)) _).alloc (by first | (simp; done) | (simp; omega)) _).alloc (by first | (simp; done) | (simp; omega)) _)
  have HX_1 := Lib.hid (show Box V0 (w.heap.size) [.int .i64 k.at_, .string k.before.label, .int .i64 k.before.kind, .int .i64 k.before.value, .slice A0 n0 c0, .string k.after.label, .int .i64 k.after.kind, .int .i64 k.after.value, .slice A1 n1 c1, .int .i64 k.left.at_, .slice A2 n2 c2, .int .i64 k.right.at_, .slice A3 n3 c3] from by
    rw [hV0]
    have := (((Box.new w #[.int .i64 k.at_, .string k.before.label, .int .i64 k.before.kind, .int .i64 k.before.value, .slice A0 n0 c0, .string k.after.label, .int .i64 k.after.kind, .int .i64 k.after.value, .slice A1 n1 c1, .int .i64 k.left.at_, .slice A2 n2 c2, .int .i64 k.right.at_, .slice A3 n3 c3] 44).alloc (.cells #[.int .i64 0, .string ⟨#[]⟩, .int .i64 0, .int .i64 0, .slice none 0 0, .string ⟨#[]⟩, .int .i64 0, .int .i64 0, .slice none 0 0, .int .i64 0, .slice none 0 0, .int .i64 0, .slice none 0 0] 31)).alloc (.cells #[.int .i64 k.at_, .string ⟨#[]⟩, .int .i64 0, .int .i64 0, .slice none 0 0, .string ⟨#[]⟩, .int .i64 0, .int .i64 0, .slice none 0 0, .int .i64 0, .slice none 0 0, .int .i64 0, .slice none 0 0] 31))
    simpa using this)
  have HR_1 := Lib.hid (show Box V0 (w.heap.size + 1) [.int .i64 0, .string ⟨#[]⟩, .int .i64 0, .int .i64 0, .slice none 0 0, .string ⟨#[]⟩, .int .i64 0, .int .i64 0, .slice none 0 0, .int .i64 0, .slice none 0 0, .int .i64 0, .slice none 0 0] from by
    rw [hV0]
    have := ((Box.new (w.alloc (.cells #[.int .i64 k.at_, .string k.before.label, .int .i64 k.before.kind, .int .i64 k.before.value, .slice A0 n0 c0, .string k.after.label, .int .i64 k.after.kind, .int .i64 k.after.value, .slice A1 n1 c1, .int .i64 k.left.at_, .slice A2 n2 c2, .int .i64 k.right.at_, .slice A3 n3 c3] 44)) #[.int .i64 0, .string ⟨#[]⟩, .int .i64 0, .int .i64 0, .slice none 0 0, .string ⟨#[]⟩, .int .i64 0, .int .i64 0, .slice none 0 0, .int .i64 0, .slice none 0 0, .int .i64 0, .slice none 0 0] 31).alloc (.cells #[.int .i64 k.at_, .string ⟨#[]⟩, .int .i64 0, .int .i64 0, .slice none 0 0, .string ⟨#[]⟩, .int .i64 0, .int .i64 0, .slice none 0 0, .int .i64 0, .slice none 0 0, .int .i64 0, .slice none 0 0] 31))
    simpa using this)
  have HY_1 := Lib.hid (show Box V0 (w.heap.size + 1 + 1) [.int .i64 k.at_, .string ⟨#[]⟩, .int .i64 0, .int .i64 0, .slice none 0 0, .string ⟨#[]⟩, .int .i64 0, .int .i64 0, .slice none 0 0, .int .i64 0, .slice none 0 0, .int .i64 0, .slice none 0 0] from by
    rw [hV0]
    have := (Box.new ((w.alloc (.cells #[.int .i64 k.at_, .string k.before.label, .int .i64 k.before.kind, .int .i64 k.before.value, .slice A0 n0 c0, .string k.after.label, .int .i64 k.after.kind, .int .i64 k.after.value, .slice A1 n1 c1, .int .i64 k.left.at_, .slice A2 n2 c2, .int .i64 k.right.at_, .slice A3 n3 c3] 44)).alloc (.cells #[.int .i64 0, .string ⟨#[]⟩, .int .i64 0, .int .i64 0, .slice none 0 0, .string ⟨#[]⟩, .int .i64 0, .int .i64 0, .slice none 0 0, .int .i64 0, .slice none 0 0, .int .i64 0, .slice none 0 0] 31)) #[.int .i64 k.at_, .string ⟨#[]⟩, .int .i64 0, .int .i64 0, .slice none 0 0, .string ⟨#[]⟩, .int .i64 0, .int .i64 0, .slice none 0 0, .int .i64 0, .slice none 0 0, .int .i64 0, .slice none 0 0] 31)
    simpa using this)
  have HV0 := Lib.hid hV0
  have hs0 : V0.heap.size = w.heap.size + 3 := by rw [hV0]; simp
  clear hV0
  go_enter Try.func18, Try.ntmps18
  go_wp2_with fail
  rw [show ((w.alloc (.cells #[.int .i64 k.at_, .string k.before.label, .int .i64 k.before.kind, .int .i64 k.before.value, .slice A0 n0 c0, .string k.after.label, .int .i64 k.after.kind, .int .i64 k.after.value, .slice A1 n1 c1, .int .i64 k.left.at_, .slice A2 n2 c2, .int .i64 k.right.at_, .slice A3 n3 c3] 44)).alloc (.cells #[.int .i64 0, .string ⟨#[]⟩, .int .i64 0, .int .i64 0, .slice none 0 0, .string ⟨#[]⟩, .int .i64 0, .int .i64 0, .slice none 0 0, .int .i64 0, .slice none 0 0, .int .i64 0, .slice none 0 0] 31)).alloc (.cells #[.int .i64 k.at_, .string ⟨#[]⟩, .int .i64 0, .int .i64 0, .slice none 0 0, .string ⟨#[]⟩, .int .i64 0, .int .i64 0, .slice none 0 0, .int .i64 0, .slice none 0 0, .int .i64 0, .slice none 0 0] 31) = V0 from HV0.out.symm]
  refine (toEntry_any [.string k.before.label, .int .i64 k.before.kind, .int .i64 k.before.value, .slice A0 n0 c0] (k.before) V0 (rd_up D1.out HB_1.out) N1.out).mono ?_
  rintro e W0 ⟨cs0, rfl, ho, hb⟩
  obtain ⟨X0, m0, b0, rfl⟩ := REntry_shape ho.rd
  have HB_2 := Lib.hid (HB_1.out.trans (hb.mono HB_1.out.size))
  have HX_2 := Lib.hid (HX_1.out.below hb HX_1.out.lt)
  have HR_2 := Lib.hid (HR_1.out.below hb HR_1.out.lt)
  have HY_2 := Lib.hid (HY_1.out.below hb HY_1.out.lt)
  have HS0 := Lib.hid (show w.heap.size + 3 ≤ W0.heap.size from by have := hb.size; omega)
  have HO0_2 := Lib.hid (show OwnI REntry W0 (w.heap.size + 3) (W0.heap.size) [.string k.before.label, .int .i64 k.before.kind, .int .i64 k.before.value, .slice X0 m0 b0] k.before ∧ (W0.heap.size) ≤ W0.heap.size ∧ (w.heap.size + 3) ≤ (w.heap.size + 3) from ⟨ho.wide (by rw [hs0]; exact Nat.le_refl _) (Nat.le_refl _), Nat.le_refl _, Nat.le_refl _⟩)
  clear hb ho
  have zX0 := HX_2.out.cell (j := 0) rfl
  have zX1 := HX_2.out.cell (j := 1) rfl
  have zX2 := HX_2.out.cell (j := 2) rfl
  have zX3 := HX_2.out.cell (j := 3) rfl
  have zX4 := HX_2.out.cell (j := 4) rfl
  have zX5 := HX_2.out.cell (j := 5) rfl
  have zX6 := HX_2.out.cell (j := 6) rfl
  have zX7 := HX_2.out.cell (j := 7) rfl
  have zX8 := HX_2.out.cell (j := 8) rfl
  have zX9 := HX_2.out.cell (j := 9) rfl
  have zX10 := HX_2.out.cell (j := 10) rfl
  have zX11 := HX_2.out.cell (j := 11) rfl
  have zX12 := HX_2.out.cell (j := 12) rfl
  have zR0 := HR_2.out.cell (j := 0) rfl
  have zR1 := HR_2.out.cell (j := 1) rfl
  have zR2 := HR_2.out.cell (j := 2) rfl
  have zR3 := HR_2.out.cell (j := 3) rfl
  have zR4 := HR_2.out.cell (j := 4) rfl
  have zR5 := HR_2.out.cell (j := 5) rfl
  have zR6 := HR_2.out.cell (j := 6) rfl
  have zR7 := HR_2.out.cell (j := 7) rfl
  have zR8 := HR_2.out.cell (j := 8) rfl
  have zR9 := HR_2.out.cell (j := 9) rfl
  have zR10 := HR_2.out.cell (j := 10) rfl
  have zR11 := HR_2.out.cell (j := 11) rfl
  have zR12 := HR_2.out.cell (j := 12) rfl
  have zY0 := HY_2.out.cell (j := 0) rfl
  have fY0 := HY_2.out.warm (j := 0) rfl
  have zY1 := HY_2.out.cell (j := 1) rfl
  have fY1 := HY_2.out.warm (j := 1) rfl
  have zY2 := HY_2.out.cell (j := 2) rfl
  have fY2 := HY_2.out.warm (j := 2) rfl
  have zY3 := HY_2.out.cell (j := 3) rfl
  have fY3 := HY_2.out.warm (j := 3) rfl
  have zY4 := HY_2.out.cell (j := 4) rfl
  have fY4 := HY_2.out.warm (j := 4) rfl
  have zY5 := HY_2.out.cell (j := 5) rfl
  have fY5 := HY_2.out.warm (j := 5) rfl
  have zY6 := HY_2.out.cell (j := 6) rfl
  have fY6 := HY_2.out.warm (j := 6) rfl
  have zY7 := HY_2.out.cell (j := 7) rfl
  have fY7 := HY_2.out.warm (j := 7) rfl
  have zY8 := HY_2.out.cell (j := 8) rfl
  have fY8 := HY_2.out.warm (j := 8) rfl
  have zY9 := HY_2.out.cell (j := 9) rfl
  have fY9 := HY_2.out.warm (j := 9) rfl
  have zY10 := HY_2.out.cell (j := 10) rfl
  have fY10 := HY_2.out.warm (j := 10) rfl
  have zY11 := HY_2.out.cell (j := 11) rfl
  have fY11 := HY_2.out.warm (j := 11) rfl
  have zY12 := HY_2.out.cell (j := 12) rfl
  have fY12 := HY_2.out.warm (j := 12) rfl
  have lt0 := HY_2.out.lt
  go_wp2_with fail
  clear zX0 zX1 zX2 zX3 zX4 zX5 zX6 zX7 zX8 zX9 zX10 zX11 zX12 zR0 zR1 zR2 zR3 zR4 zR5 zR6 zR7 zR8 zR9 zR10 zR11 zR12 zY0 fY0 zY1 fY1 zY2 fY2 zY3 fY3 zY4 fY4 zY5 fY5 zY6 fY6 zY7 fY7 zY8 fY8 zY9 fY9 zY10 fY10 zY11 fY11 zY12 fY12 lt0
  obtain ⟨V1, hV1⟩ : ∃ V, puts W0 (w.heap.size + 1 + 1) 1 [.string k.before.label, .int .i64 k.before.kind, .int .i64 k.before.value, .slice X0 m0 b0] = V := ⟨_, rfl⟩
  have HB_3 := Lib.hid (pt_bel hV1 HB_2.out (show w.heap.size ≤ (w.heap.size + 1 + 1) by omega))
  have HX_3 := Lib.hid (pt_box hV1 HX_2.out (show (w.heap.size) ≠ (w.heap.size + 1 + 1) by omega))
  have HR_3 := Lib.hid (pt_box hV1 HR_2.out (show (w.heap.size + 1) ≠ (w.heap.size + 1 + 1) by omega))
  have HY_3 := Lib.hid (show Box V1 (w.heap.size + 1 + 1) [.int .i64 k.at_, .string k.before.label, .int .i64 k.before.kind, .int .i64 k.before.value, .slice X0 m0 b0, .string ⟨#[]⟩, .int .i64 0, .int .i64 0, .slice none 0 0, .int .i64 0, .slice none 0 0, .int .i64 0, .slice none 0 0] from pt_self hV1 HY_2.out (by simp))
  have HO0_3 := Lib.hid (pt_own hV1 HO0_2.out (show (w.heap.size + 1 + 1) < (w.heap.size + 3) by omega))
  have HV1 := Lib.hid hV1
  clear hV1
  rw [show (((W0.setCell ⟨w.heap.size + 1 + 1, 1, none⟩ (.string k.before.label)).setCell ⟨w.heap.size + 1 + 1, 2, none⟩ (.int .i64 k.before.kind)).setCell ⟨w.heap.size + 1 + 1, 3, none⟩ (.int .i64 k.before.value)).setCell ⟨w.heap.size + 1 + 1, 4, none⟩ (.slice X0 m0 b0) = V1 from HV1.out]
  refine (toEntry_any [.string k.after.label, .int .i64 k.after.kind, .int .i64 k.after.value, .slice A1 n1 c1] (k.after) V1 (rd_up D2.out HB_3.out) N2.out).mono ?_
  rintro e W1 ⟨cs1, rfl, ho, hb⟩
  obtain ⟨X1, m1, b1, rfl⟩ := REntry_shape ho.rd
  have HB_4 := Lib.hid (HB_3.out.trans (hb.mono HB_3.out.size))
  have HX_4 := Lib.hid (HX_3.out.below hb HX_3.out.lt)
  have HR_4 := Lib.hid (HR_3.out.below hb HR_3.out.lt)
  have HY_4 := Lib.hid (HY_3.out.below hb HY_3.out.lt)
  have HO0_4 := Lib.hid (show OwnI REntry W1 (w.heap.size + 3) (W0.heap.size) [.string k.before.label, .int .i64 k.before.kind, .int .i64 k.before.value, .slice X0 m0 b0] k.before ∧ (W0.heap.size) ≤ W1.heap.size ∧ (w.heap.size + 3) ≤ (w.heap.size + 3) from ⟨HO0_3.out.1.below hb HO0_3.out.2.1, Nat.le_trans HO0_3.out.2.1 hb.size, HO0_3.out.2.2⟩)
  have HS1 := Lib.hid (show W0.heap.size ≤ W1.heap.size from Nat.le_trans HO0_3.out.2.1 hb.size)
  have HO1_4 := Lib.hid (show OwnI REntry W1 (W0.heap.size) (W1.heap.size) [.string k.after.label, .int .i64 k.after.kind, .int .i64 k.after.value, .slice X1 m1 b1] k.after ∧ (W1.heap.size) ≤ W1.heap.size ∧ (w.heap.size + 3) ≤ (W0.heap.size) from ⟨ho.wide (by have := HO0_3.out.2.1; exact this) (Nat.le_refl _), Nat.le_refl _, by have := HS0.out; have := HS1.out; omega⟩)
  clear hb ho
  have zX0 := HX_4.out.cell (j := 0) rfl
  have zX1 := HX_4.out.cell (j := 1) rfl
  have zX2 := HX_4.out.cell (j := 2) rfl
  have zX3 := HX_4.out.cell (j := 3) rfl
  have zX4 := HX_4.out.cell (j := 4) rfl
  have zX5 := HX_4.out.cell (j := 5) rfl
  have zX6 := HX_4.out.cell (j := 6) rfl
  have zX7 := HX_4.out.cell (j := 7) rfl
  have zX8 := HX_4.out.cell (j := 8) rfl
  have zX9 := HX_4.out.cell (j := 9) rfl
  have zX10 := HX_4.out.cell (j := 10) rfl
  have zX11 := HX_4.out.cell (j := 11) rfl
  have zX12 := HX_4.out.cell (j := 12) rfl
  have zR0 := HR_4.out.cell (j := 0) rfl
  have zR1 := HR_4.out.cell (j := 1) rfl
  have zR2 := HR_4.out.cell (j := 2) rfl
  have zR3 := HR_4.out.cell (j := 3) rfl
  have zR4 := HR_4.out.cell (j := 4) rfl
  have zR5 := HR_4.out.cell (j := 5) rfl
  have zR6 := HR_4.out.cell (j := 6) rfl
  have zR7 := HR_4.out.cell (j := 7) rfl
  have zR8 := HR_4.out.cell (j := 8) rfl
  have zR9 := HR_4.out.cell (j := 9) rfl
  have zR10 := HR_4.out.cell (j := 10) rfl
  have zR11 := HR_4.out.cell (j := 11) rfl
  have zR12 := HR_4.out.cell (j := 12) rfl
  have zY0 := HY_4.out.cell (j := 0) rfl
  have fY0 := HY_4.out.warm (j := 0) rfl
  have zY1 := HY_4.out.cell (j := 1) rfl
  have fY1 := HY_4.out.warm (j := 1) rfl
  have zY2 := HY_4.out.cell (j := 2) rfl
  have fY2 := HY_4.out.warm (j := 2) rfl
  have zY3 := HY_4.out.cell (j := 3) rfl
  have fY3 := HY_4.out.warm (j := 3) rfl
  have zY4 := HY_4.out.cell (j := 4) rfl
  have fY4 := HY_4.out.warm (j := 4) rfl
  have zY5 := HY_4.out.cell (j := 5) rfl
  have fY5 := HY_4.out.warm (j := 5) rfl
  have zY6 := HY_4.out.cell (j := 6) rfl
  have fY6 := HY_4.out.warm (j := 6) rfl
  have zY7 := HY_4.out.cell (j := 7) rfl
  have fY7 := HY_4.out.warm (j := 7) rfl
  have zY8 := HY_4.out.cell (j := 8) rfl
  have fY8 := HY_4.out.warm (j := 8) rfl
  have zY9 := HY_4.out.cell (j := 9) rfl
  have fY9 := HY_4.out.warm (j := 9) rfl
  have zY10 := HY_4.out.cell (j := 10) rfl
  have fY10 := HY_4.out.warm (j := 10) rfl
  have zY11 := HY_4.out.cell (j := 11) rfl
  have fY11 := HY_4.out.warm (j := 11) rfl
  have zY12 := HY_4.out.cell (j := 12) rfl
  have fY12 := HY_4.out.warm (j := 12) rfl
  have lt1 := HY_4.out.lt
  go_wp2_with fail
  clear zX0 zX1 zX2 zX3 zX4 zX5 zX6 zX7 zX8 zX9 zX10 zX11 zX12 zR0 zR1 zR2 zR3 zR4 zR5 zR6 zR7 zR8 zR9 zR10 zR11 zR12 zY0 fY0 zY1 fY1 zY2 fY2 zY3 fY3 zY4 fY4 zY5 fY5 zY6 fY6 zY7 fY7 zY8 fY8 zY9 fY9 zY10 fY10 zY11 fY11 zY12 fY12 lt1
  obtain ⟨V2, hV2⟩ : ∃ V, puts W1 (w.heap.size + 1 + 1) 5 [.string k.after.label, .int .i64 k.after.kind, .int .i64 k.after.value, .slice X1 m1 b1] = V := ⟨_, rfl⟩
  have HB_5 := Lib.hid (pt_bel hV2 HB_4.out (show w.heap.size ≤ (w.heap.size + 1 + 1) by omega))
  have HX_5 := Lib.hid (pt_box hV2 HX_4.out (show (w.heap.size) ≠ (w.heap.size + 1 + 1) by omega))
  have HR_5 := Lib.hid (pt_box hV2 HR_4.out (show (w.heap.size + 1) ≠ (w.heap.size + 1 + 1) by omega))
  have HY_5 := Lib.hid (show Box V2 (w.heap.size + 1 + 1) [.int .i64 k.at_, .string k.before.label, .int .i64 k.before.kind, .int .i64 k.before.value, .slice X0 m0 b0, .string k.after.label, .int .i64 k.after.kind, .int .i64 k.after.value, .slice X1 m1 b1, .int .i64 0, .slice none 0 0, .int .i64 0, .slice none 0 0] from pt_self hV2 HY_4.out (by simp))
  have HO0_5 := Lib.hid (pt_own hV2 HO0_4.out (show (w.heap.size + 1 + 1) < (w.heap.size + 3) by omega))
  have HO1_5 := Lib.hid (pt_own hV2 HO1_4.out (show (w.heap.size + 1 + 1) < (w.heap.size + 3) by omega))
  have HV2 := Lib.hid hV2
  clear hV2
  rw [show (((W1.setCell ⟨w.heap.size + 1 + 1, 5, none⟩ (.string k.after.label)).setCell ⟨w.heap.size + 1 + 1, 6, none⟩ (.int .i64 k.after.kind)).setCell ⟨w.heap.size + 1 + 1, 7, none⟩ (.int .i64 k.after.value)).setCell ⟨w.heap.size + 1 + 1, 8, none⟩ (.slice X1 m1 b1) = V2 from HV2.out]
  refine (toProof_any [.int .i64 k.left.at_, .slice A2 n2 c2] (k.left) V2 (rd_up D3.out HB_5.out) N3.out).mono ?_
  rintro e W2 ⟨cs2, rfl, ho, hb⟩
  obtain ⟨X2, m2, b2, rfl⟩ := RProof_shape ho.rd
  have HB_6 := Lib.hid (HB_5.out.trans (hb.mono HB_5.out.size))
  have HX_6 := Lib.hid (HX_5.out.below hb HX_5.out.lt)
  have HR_6 := Lib.hid (HR_5.out.below hb HR_5.out.lt)
  have HY_6 := Lib.hid (HY_5.out.below hb HY_5.out.lt)
  have HO0_6 := Lib.hid (show OwnI REntry W2 (w.heap.size + 3) (W0.heap.size) [.string k.before.label, .int .i64 k.before.kind, .int .i64 k.before.value, .slice X0 m0 b0] k.before ∧ (W0.heap.size) ≤ W2.heap.size ∧ (w.heap.size + 3) ≤ (w.heap.size + 3) from ⟨HO0_5.out.1.below hb HO0_5.out.2.1, Nat.le_trans HO0_5.out.2.1 hb.size, HO0_5.out.2.2⟩)
  have HO1_6 := Lib.hid (show OwnI REntry W2 (W0.heap.size) (W1.heap.size) [.string k.after.label, .int .i64 k.after.kind, .int .i64 k.after.value, .slice X1 m1 b1] k.after ∧ (W1.heap.size) ≤ W2.heap.size ∧ (w.heap.size + 3) ≤ (W0.heap.size) from ⟨HO1_5.out.1.below hb HO1_5.out.2.1, Nat.le_trans HO1_5.out.2.1 hb.size, HO1_5.out.2.2⟩)
  have HS2 := Lib.hid (show W1.heap.size ≤ W2.heap.size from Nat.le_trans HO1_5.out.2.1 hb.size)
  have HO2_6 := Lib.hid (show OwnI RProof W2 (W1.heap.size) (W2.heap.size) [.int .i64 k.left.at_, .slice X2 m2 b2] k.left ∧ (W2.heap.size) ≤ W2.heap.size ∧ (w.heap.size + 3) ≤ (W1.heap.size) from ⟨ho.wide (by have := HO1_5.out.2.1; exact this) (Nat.le_refl _), Nat.le_refl _, by have := HS0.out; have := HS1.out; have := HS2.out; omega⟩)
  clear hb ho
  have zX0 := HX_6.out.cell (j := 0) rfl
  have zX1 := HX_6.out.cell (j := 1) rfl
  have zX2 := HX_6.out.cell (j := 2) rfl
  have zX3 := HX_6.out.cell (j := 3) rfl
  have zX4 := HX_6.out.cell (j := 4) rfl
  have zX5 := HX_6.out.cell (j := 5) rfl
  have zX6 := HX_6.out.cell (j := 6) rfl
  have zX7 := HX_6.out.cell (j := 7) rfl
  have zX8 := HX_6.out.cell (j := 8) rfl
  have zX9 := HX_6.out.cell (j := 9) rfl
  have zX10 := HX_6.out.cell (j := 10) rfl
  have zX11 := HX_6.out.cell (j := 11) rfl
  have zX12 := HX_6.out.cell (j := 12) rfl
  have zR0 := HR_6.out.cell (j := 0) rfl
  have zR1 := HR_6.out.cell (j := 1) rfl
  have zR2 := HR_6.out.cell (j := 2) rfl
  have zR3 := HR_6.out.cell (j := 3) rfl
  have zR4 := HR_6.out.cell (j := 4) rfl
  have zR5 := HR_6.out.cell (j := 5) rfl
  have zR6 := HR_6.out.cell (j := 6) rfl
  have zR7 := HR_6.out.cell (j := 7) rfl
  have zR8 := HR_6.out.cell (j := 8) rfl
  have zR9 := HR_6.out.cell (j := 9) rfl
  have zR10 := HR_6.out.cell (j := 10) rfl
  have zR11 := HR_6.out.cell (j := 11) rfl
  have zR12 := HR_6.out.cell (j := 12) rfl
  have zY0 := HY_6.out.cell (j := 0) rfl
  have fY0 := HY_6.out.warm (j := 0) rfl
  have zY1 := HY_6.out.cell (j := 1) rfl
  have fY1 := HY_6.out.warm (j := 1) rfl
  have zY2 := HY_6.out.cell (j := 2) rfl
  have fY2 := HY_6.out.warm (j := 2) rfl
  have zY3 := HY_6.out.cell (j := 3) rfl
  have fY3 := HY_6.out.warm (j := 3) rfl
  have zY4 := HY_6.out.cell (j := 4) rfl
  have fY4 := HY_6.out.warm (j := 4) rfl
  have zY5 := HY_6.out.cell (j := 5) rfl
  have fY5 := HY_6.out.warm (j := 5) rfl
  have zY6 := HY_6.out.cell (j := 6) rfl
  have fY6 := HY_6.out.warm (j := 6) rfl
  have zY7 := HY_6.out.cell (j := 7) rfl
  have fY7 := HY_6.out.warm (j := 7) rfl
  have zY8 := HY_6.out.cell (j := 8) rfl
  have fY8 := HY_6.out.warm (j := 8) rfl
  have zY9 := HY_6.out.cell (j := 9) rfl
  have fY9 := HY_6.out.warm (j := 9) rfl
  have zY10 := HY_6.out.cell (j := 10) rfl
  have fY10 := HY_6.out.warm (j := 10) rfl
  have zY11 := HY_6.out.cell (j := 11) rfl
  have fY11 := HY_6.out.warm (j := 11) rfl
  have zY12 := HY_6.out.cell (j := 12) rfl
  have fY12 := HY_6.out.warm (j := 12) rfl
  have lt2 := HY_6.out.lt
  go_wp2_with fail
  clear zX0 zX1 zX2 zX3 zX4 zX5 zX6 zX7 zX8 zX9 zX10 zX11 zX12 zR0 zR1 zR2 zR3 zR4 zR5 zR6 zR7 zR8 zR9 zR10 zR11 zR12 zY0 fY0 zY1 fY1 zY2 fY2 zY3 fY3 zY4 fY4 zY5 fY5 zY6 fY6 zY7 fY7 zY8 fY8 zY9 fY9 zY10 fY10 zY11 fY11 zY12 fY12 lt2
  obtain ⟨V3, hV3⟩ : ∃ V, puts W2 (w.heap.size + 1 + 1) 9 [.int .i64 k.left.at_, .slice X2 m2 b2] = V := ⟨_, rfl⟩
  have HB_7 := Lib.hid (pt_bel hV3 HB_6.out (show w.heap.size ≤ (w.heap.size + 1 + 1) by omega))
  have HX_7 := Lib.hid (pt_box hV3 HX_6.out (show (w.heap.size) ≠ (w.heap.size + 1 + 1) by omega))
  have HR_7 := Lib.hid (pt_box hV3 HR_6.out (show (w.heap.size + 1) ≠ (w.heap.size + 1 + 1) by omega))
  have HY_7 := Lib.hid (show Box V3 (w.heap.size + 1 + 1) [.int .i64 k.at_, .string k.before.label, .int .i64 k.before.kind, .int .i64 k.before.value, .slice X0 m0 b0, .string k.after.label, .int .i64 k.after.kind, .int .i64 k.after.value, .slice X1 m1 b1, .int .i64 k.left.at_, .slice X2 m2 b2, .int .i64 0, .slice none 0 0] from pt_self hV3 HY_6.out (by simp))
  have HO0_7 := Lib.hid (pt_own hV3 HO0_6.out (show (w.heap.size + 1 + 1) < (w.heap.size + 3) by omega))
  have HO1_7 := Lib.hid (pt_own hV3 HO1_6.out (show (w.heap.size + 1 + 1) < (w.heap.size + 3) by omega))
  have HO2_7 := Lib.hid (pt_own hV3 HO2_6.out (show (w.heap.size + 1 + 1) < (w.heap.size + 3) by omega))
  have HV3 := Lib.hid hV3
  clear hV3
  rw [show (W2.setCell ⟨w.heap.size + 1 + 1, 9, none⟩ (.int .i64 k.left.at_)).setCell ⟨w.heap.size + 1 + 1, 10, none⟩ (.slice X2 m2 b2) = V3 from HV3.out]
  refine (toProof_any [.int .i64 k.right.at_, .slice A3 n3 c3] (k.right) V3 (rd_up D4.out HB_7.out) N4.out).mono ?_
  rintro e W3 ⟨cs3, rfl, ho, hb⟩
  obtain ⟨X3, m3, b3, rfl⟩ := RProof_shape ho.rd
  have HB_8 := Lib.hid (HB_7.out.trans (hb.mono HB_7.out.size))
  have HX_8 := Lib.hid (HX_7.out.below hb HX_7.out.lt)
  have HR_8 := Lib.hid (HR_7.out.below hb HR_7.out.lt)
  have HY_8 := Lib.hid (HY_7.out.below hb HY_7.out.lt)
  have HO0_8 := Lib.hid (show OwnI REntry W3 (w.heap.size + 3) (W0.heap.size) [.string k.before.label, .int .i64 k.before.kind, .int .i64 k.before.value, .slice X0 m0 b0] k.before ∧ (W0.heap.size) ≤ W3.heap.size ∧ (w.heap.size + 3) ≤ (w.heap.size + 3) from ⟨HO0_7.out.1.below hb HO0_7.out.2.1, Nat.le_trans HO0_7.out.2.1 hb.size, HO0_7.out.2.2⟩)
  have HO1_8 := Lib.hid (show OwnI REntry W3 (W0.heap.size) (W1.heap.size) [.string k.after.label, .int .i64 k.after.kind, .int .i64 k.after.value, .slice X1 m1 b1] k.after ∧ (W1.heap.size) ≤ W3.heap.size ∧ (w.heap.size + 3) ≤ (W0.heap.size) from ⟨HO1_7.out.1.below hb HO1_7.out.2.1, Nat.le_trans HO1_7.out.2.1 hb.size, HO1_7.out.2.2⟩)
  have HO2_8 := Lib.hid (show OwnI RProof W3 (W1.heap.size) (W2.heap.size) [.int .i64 k.left.at_, .slice X2 m2 b2] k.left ∧ (W2.heap.size) ≤ W3.heap.size ∧ (w.heap.size + 3) ≤ (W1.heap.size) from ⟨HO2_7.out.1.below hb HO2_7.out.2.1, Nat.le_trans HO2_7.out.2.1 hb.size, HO2_7.out.2.2⟩)
  have HS3 := Lib.hid (show W2.heap.size ≤ W3.heap.size from Nat.le_trans HO2_7.out.2.1 hb.size)
  have HO3_8 := Lib.hid (show OwnI RProof W3 (W2.heap.size) (W3.heap.size) [.int .i64 k.right.at_, .slice X3 m3 b3] k.right ∧ (W3.heap.size) ≤ W3.heap.size ∧ (w.heap.size + 3) ≤ (W2.heap.size) from ⟨ho.wide (by have := HO2_7.out.2.1; exact this) (Nat.le_refl _), Nat.le_refl _, by have := HS0.out; have := HS1.out; have := HS2.out; have := HS3.out; omega⟩)
  clear hb ho
  have zX0 := HX_8.out.cell (j := 0) rfl
  have zX1 := HX_8.out.cell (j := 1) rfl
  have zX2 := HX_8.out.cell (j := 2) rfl
  have zX3 := HX_8.out.cell (j := 3) rfl
  have zX4 := HX_8.out.cell (j := 4) rfl
  have zX5 := HX_8.out.cell (j := 5) rfl
  have zX6 := HX_8.out.cell (j := 6) rfl
  have zX7 := HX_8.out.cell (j := 7) rfl
  have zX8 := HX_8.out.cell (j := 8) rfl
  have zX9 := HX_8.out.cell (j := 9) rfl
  have zX10 := HX_8.out.cell (j := 10) rfl
  have zX11 := HX_8.out.cell (j := 11) rfl
  have zX12 := HX_8.out.cell (j := 12) rfl
  have zR0 := HR_8.out.cell (j := 0) rfl
  have fR0 := HR_8.out.warm (j := 0) rfl
  have zR1 := HR_8.out.cell (j := 1) rfl
  have fR1 := HR_8.out.warm (j := 1) rfl
  have zR2 := HR_8.out.cell (j := 2) rfl
  have fR2 := HR_8.out.warm (j := 2) rfl
  have zR3 := HR_8.out.cell (j := 3) rfl
  have fR3 := HR_8.out.warm (j := 3) rfl
  have zR4 := HR_8.out.cell (j := 4) rfl
  have fR4 := HR_8.out.warm (j := 4) rfl
  have zR5 := HR_8.out.cell (j := 5) rfl
  have fR5 := HR_8.out.warm (j := 5) rfl
  have zR6 := HR_8.out.cell (j := 6) rfl
  have fR6 := HR_8.out.warm (j := 6) rfl
  have zR7 := HR_8.out.cell (j := 7) rfl
  have fR7 := HR_8.out.warm (j := 7) rfl
  have zR8 := HR_8.out.cell (j := 8) rfl
  have fR8 := HR_8.out.warm (j := 8) rfl
  have zR9 := HR_8.out.cell (j := 9) rfl
  have fR9 := HR_8.out.warm (j := 9) rfl
  have zR10 := HR_8.out.cell (j := 10) rfl
  have fR10 := HR_8.out.warm (j := 10) rfl
  have zR11 := HR_8.out.cell (j := 11) rfl
  have fR11 := HR_8.out.warm (j := 11) rfl
  have zR12 := HR_8.out.cell (j := 12) rfl
  have fR12 := HR_8.out.warm (j := 12) rfl
  have zY0 := HY_8.out.cell (j := 0) rfl
  have fY0 := HY_8.out.warm (j := 0) rfl
  have zY1 := HY_8.out.cell (j := 1) rfl
  have fY1 := HY_8.out.warm (j := 1) rfl
  have zY2 := HY_8.out.cell (j := 2) rfl
  have fY2 := HY_8.out.warm (j := 2) rfl
  have zY3 := HY_8.out.cell (j := 3) rfl
  have fY3 := HY_8.out.warm (j := 3) rfl
  have zY4 := HY_8.out.cell (j := 4) rfl
  have fY4 := HY_8.out.warm (j := 4) rfl
  have zY5 := HY_8.out.cell (j := 5) rfl
  have fY5 := HY_8.out.warm (j := 5) rfl
  have zY6 := HY_8.out.cell (j := 6) rfl
  have fY6 := HY_8.out.warm (j := 6) rfl
  have zY7 := HY_8.out.cell (j := 7) rfl
  have fY7 := HY_8.out.warm (j := 7) rfl
  have zY8 := HY_8.out.cell (j := 8) rfl
  have fY8 := HY_8.out.warm (j := 8) rfl
  have zY9 := HY_8.out.cell (j := 9) rfl
  have fY9 := HY_8.out.warm (j := 9) rfl
  have zY10 := HY_8.out.cell (j := 10) rfl
  have fY10 := HY_8.out.warm (j := 10) rfl
  have zY11 := HY_8.out.cell (j := 11) rfl
  have fY11 := HY_8.out.warm (j := 11) rfl
  have zY12 := HY_8.out.cell (j := 12) rfl
  have fY12 := HY_8.out.warm (j := 12) rfl
  have lt3 := HY_8.out.lt
  go_wp2
  clear zX0 zX1 zX2 zX3 zX4 zX5 zX6 zX7 zX8 zX9 zX10 zX11 zX12 zR0 fR0 zR1 fR1 zR2 fR2 zR3 fR3 zR4 fR4 zR5 fR5 zR6 fR6 zR7 fR7 zR8 fR8 zR9 fR9 zR10 fR10 zR11 fR11 zR12 fR12 zY0 fY0 zY1 fY1 zY2 fY2 zY3 fY3 zY4 fY4 zY5 fY5 zY6 fY6 zY7 fY7 zY8 fY8 zY9 fY9 zY10 fY10 zY11 fY11 zY12 fY12 lt3
  obtain ⟨V4, hV4⟩ : ∃ V, puts W3 (w.heap.size + 1 + 1) 11 [.int .i64 k.right.at_, .slice X3 m3 b3] = V := ⟨_, rfl⟩
  have HB_9 := Lib.hid (pt_bel hV4 HB_8.out (show w.heap.size ≤ (w.heap.size + 1 + 1) by omega))
  have HX_9 := Lib.hid (pt_box hV4 HX_8.out (show (w.heap.size) ≠ (w.heap.size + 1 + 1) by omega))
  have HR_9 := Lib.hid (pt_box hV4 HR_8.out (show (w.heap.size + 1) ≠ (w.heap.size + 1 + 1) by omega))
  have HY_9 := Lib.hid (show Box V4 (w.heap.size + 1 + 1) [.int .i64 k.at_, .string k.before.label, .int .i64 k.before.kind, .int .i64 k.before.value, .slice X0 m0 b0, .string k.after.label, .int .i64 k.after.kind, .int .i64 k.after.value, .slice X1 m1 b1, .int .i64 k.left.at_, .slice X2 m2 b2, .int .i64 k.right.at_, .slice X3 m3 b3] from pt_self hV4 HY_8.out (by simp))
  have HO0_9 := Lib.hid (pt_own hV4 HO0_8.out (show (w.heap.size + 1 + 1) < (w.heap.size + 3) by omega))
  have HO1_9 := Lib.hid (pt_own hV4 HO1_8.out (show (w.heap.size + 1 + 1) < (w.heap.size + 3) by omega))
  have HO2_9 := Lib.hid (pt_own hV4 HO2_8.out (show (w.heap.size + 1 + 1) < (w.heap.size + 3) by omega))
  have HO3_9 := Lib.hid (pt_own hV4 HO3_8.out (show (w.heap.size + 1 + 1) < (w.heap.size + 3) by omega))
  have HV4 := Lib.hid hV4
  clear hV4
  obtain ⟨VF, hVF⟩ : ∃ V, puts V4 (w.heap.size + 1) 0 [.int .i64 k.at_, .string k.before.label, .int .i64 k.before.kind, .int .i64 k.before.value, .slice X0 m0 b0, .string k.after.label, .int .i64 k.after.kind, .int .i64 k.after.value, .slice X1 m1 b1, .int .i64 k.left.at_, .slice X2 m2 b2, .int .i64 k.right.at_, .slice X3 m3 b3] = V := ⟨_, rfl⟩
  have HB_10 := Lib.hid (pt_bel hVF HB_9.out (show w.heap.size ≤ (w.heap.size + 1) by omega))
  have HX_10 := Lib.hid (pt_box hVF HX_9.out (show (w.heap.size) ≠ (w.heap.size + 1) by omega))
  have HR_10 := Lib.hid (show Box VF (w.heap.size + 1) [.int .i64 k.at_, .string k.before.label, .int .i64 k.before.kind, .int .i64 k.before.value, .slice X0 m0 b0, .string k.after.label, .int .i64 k.after.kind, .int .i64 k.after.value, .slice X1 m1 b1, .int .i64 k.left.at_, .slice X2 m2 b2, .int .i64 k.right.at_, .slice X3 m3 b3] from pt_self hVF HR_9.out (by simp))
  have HY_10 := Lib.hid (pt_box hVF HY_9.out (show (w.heap.size + 1 + 1) ≠ (w.heap.size + 1) by omega))
  have HO0_10 := Lib.hid (pt_own hVF HO0_9.out (show (w.heap.size + 1) < (w.heap.size + 3) by omega))
  have HO1_10 := Lib.hid (pt_own hVF HO1_9.out (show (w.heap.size + 1) < (w.heap.size + 3) by omega))
  have HO2_10 := Lib.hid (pt_own hVF HO2_9.out (show (w.heap.size + 1) < (w.heap.size + 3) by omega))
  have HO3_10 := Lib.hid (pt_own hVF HO3_9.out (show (w.heap.size + 1) < (w.heap.size + 3) by omega))
  have HVF := Lib.hid hVF
  clear hVF
  rw [show (W3.setCell ⟨w.heap.size + 1 + 1, 11, none⟩ (.int .i64 k.right.at_)).setCell ⟨w.heap.size + 1 + 1, 12, none⟩ (.slice X3 m3 b3) = V4 from HV4.out, show ((((((((((((V4.setCell ⟨w.heap.size + 1, 0, none⟩ (.int .i64 k.at_)).setCell ⟨w.heap.size + 1, 1, none⟩ (.string k.before.label)).setCell ⟨w.heap.size + 1, 2, none⟩ (.int .i64 k.before.kind)).setCell ⟨w.heap.size + 1, 3, none⟩ (.int .i64 k.before.value)).setCell ⟨w.heap.size + 1, 4, none⟩ (.slice X0 m0 b0)).setCell ⟨w.heap.size + 1, 5, none⟩ (.string k.after.label)).setCell ⟨w.heap.size + 1, 6, none⟩ (.int .i64 k.after.kind)).setCell ⟨w.heap.size + 1, 7, none⟩ (.int .i64 k.after.value)).setCell ⟨w.heap.size + 1, 8, none⟩ (.slice X1 m1 b1)).setCell ⟨w.heap.size + 1, 9, none⟩ (.int .i64 k.left.at_)).setCell ⟨w.heap.size + 1, 10, none⟩ (.slice X2 m2 b2)).setCell ⟨w.heap.size + 1, 11, none⟩ (.int .i64 k.right.at_)).setCell ⟨w.heap.size + 1, 12, none⟩ (.slice X3 m3 b3) = VF from HVF.out]
  have zR0 := HR_10.out.cell (j := 0) rfl
  have zR1 := HR_10.out.cell (j := 1) rfl
  have zR2 := HR_10.out.cell (j := 2) rfl
  have zR3 := HR_10.out.cell (j := 3) rfl
  have zR4 := HR_10.out.cell (j := 4) rfl
  have zR5 := HR_10.out.cell (j := 5) rfl
  have zR6 := HR_10.out.cell (j := 6) rfl
  have zR7 := HR_10.out.cell (j := 7) rfl
  have zR8 := HR_10.out.cell (j := 8) rfl
  have zR9 := HR_10.out.cell (j := 9) rfl
  have zR10 := HR_10.out.cell (j := 10) rfl
  have zR11 := HR_10.out.cell (j := 11) rfl
  have zR12 := HR_10.out.cell (j := 12) rfl
  refine bodyPost_ret (v := .agg #[.int .i64 k.at_, .string k.before.label, .int .i64 k.before.kind, .int .i64 k.before.value, .slice X0 m0 b0, .string k.after.label, .int .i64 k.after.kind, .int .i64 k.after.value, .slice X1 m1 b1, .int .i64 k.left.at_, .slice X2 m2 b2, .int .i64 k.right.at_, .slice X3 m3 b3]) (by simp [results, Try.results18, go_sem, zR0, zR1, zR2, zR3, zR4, zR5, zR6, zR7, zR8, zR9, zR10, zR11, zR12]) rfl ⟨[.int .i64 k.at_, .string k.before.label, .int .i64 k.before.kind, .int .i64 k.before.value, .slice X0 m0 b0, .string k.after.label, .int .i64 k.after.kind, .int .i64 k.after.value, .slice X1 m1 b1, .int .i64 k.left.at_, .slice X2 m2 b2, .int .i64 k.right.at_, .slice X3 m3 b3], rfl, ?_, HB_10.out⟩
  obtain ⟨F1, a1, u1, e1⟩ := HO0_10.out.1
  obtain ⟨F2, a2, u2, e2⟩ := HO1_10.out.1
  obtain ⟨F3, a3, u3, e3⟩ := HO2_10.out.1
  obtain ⟨F4, a4, u4, e4⟩ := HO3_10.out.1
  have l0 := HS0.out
  have l1 := HS1.out
  have l2 := HS2.out
  have l3 := HS3.out
  have l4 := HO3_10.out.2.1
  refine own_parts4 (RGap_set.2 ⟨X0, m0, b0, X1, m1, b1, X2, m2, b2, X3, m3, b3, F1, F2, F3, F4, rfl, rfl, D0.out, a1, a2, a3, a4⟩) u1 u2 u3 u4 e1 e2 e3 e4 ?_ ?_ ?_ ?_ ?_ ?_ ?_ ?_ <;> omega
def mkGap (k : Gap) (q : Int) : Gap := ⟨k.at_, mkEntry k.before (q), mkEntry k.after (q + ((cntEntry k.before : Nat) : Int)), mkProof k.left (q + ((cntEntry k.before : Nat) : Int) + ((cntEntry k.after : Nat) : Int)), mkProof k.right (q + ((cntEntry k.before : Nat) : Int) + ((cntEntry k.after : Nat) : Int) + ((cntProof k.left : Nat) : Int))⟩
set_option maxHeartbeats 2000000 in
theorem markGap_f (F : List Nat) (cs : List Value) (k : Gap) (q : Int) (w : World) (h : RGap.own w F cs k) (hnd : F.Nodup) (hn : cntGap k ≤ 1099511627776) (hq0 : 0 ≤ q) (hq1 : q ≤ 576460752303423488) :
    Calls Try.prog 14 #[.agg cs.toArray, .int .i64 q] w fun e w' => e = .returned (.int .i64 (q + (cntGap k : Int))) ∧ RGap.own w' F cs (mkGap k q) ∧ FrF F w w' := by
  obtain ⟨A0, n0, c0, A1, n1, c1, A2, n2, c2, A3, n3, c3, F1, F2, F3, F4, rfl, hFF, h0, h1, h2, h3, h4⟩ := RGap_set.1 h
  unfold cntGap at hn
  have O1 := Lib.hid (show REntry.own w F1 [.string k.before.label, .int .i64 k.before.kind, .int .i64 k.before.value, .slice A0 n0 c0] k.before from h1)
  have O2 := Lib.hid (show REntry.own w F2 [.string k.after.label, .int .i64 k.after.kind, .int .i64 k.after.value, .slice A1 n1 c1] k.after from h2)
  have O3 := Lib.hid (show RProof.own w F3 [.int .i64 k.left.at_, .slice A2 n2 c2] k.left from h3)
  have O4 := Lib.hid (show RProof.own w F4 [.int .i64 k.right.at_, .slice A3 n3 c3] k.right from h4)
  have D0 := Lib.hid h0
  have N1 := Lib.hid (show cntEntry k.before ≤ 1099511627776 by omega)
  have N2 := Lib.hid (show cntEntry k.after ≤ 1099511627776 by omega)
  have N3 := Lib.hid (show cntProof k.left ≤ 1099511627776 by omega)
  have N4 := Lib.hid (show cntProof k.right ≤ 1099511627776 by omega)
  have P1_2 := Lib.hid (show ∀ i, i ∈ F1 → i ∉ F2 from fun i g1 g2 => by
    rw [hFF] at hnd
    simp only [List.nodup_append, List.mem_append] at hnd
    grind)
  have P1_3 := Lib.hid (show ∀ i, i ∈ F1 → i ∉ F3 from fun i g1 g2 => by
    rw [hFF] at hnd
    simp only [List.nodup_append, List.mem_append] at hnd
    grind)
  have P1_4 := Lib.hid (show ∀ i, i ∈ F1 → i ∉ F4 from fun i g1 g2 => by
    rw [hFF] at hnd
    simp only [List.nodup_append, List.mem_append] at hnd
    grind)
  have P2_1 := Lib.hid (show ∀ i, i ∈ F2 → i ∉ F1 from fun i g1 g2 => by
    rw [hFF] at hnd
    simp only [List.nodup_append, List.mem_append] at hnd
    grind)
  have P2_3 := Lib.hid (show ∀ i, i ∈ F2 → i ∉ F3 from fun i g1 g2 => by
    rw [hFF] at hnd
    simp only [List.nodup_append, List.mem_append] at hnd
    grind)
  have P2_4 := Lib.hid (show ∀ i, i ∈ F2 → i ∉ F4 from fun i g1 g2 => by
    rw [hFF] at hnd
    simp only [List.nodup_append, List.mem_append] at hnd
    grind)
  have P3_1 := Lib.hid (show ∀ i, i ∈ F3 → i ∉ F1 from fun i g1 g2 => by
    rw [hFF] at hnd
    simp only [List.nodup_append, List.mem_append] at hnd
    grind)
  have P3_2 := Lib.hid (show ∀ i, i ∈ F3 → i ∉ F2 from fun i g1 g2 => by
    rw [hFF] at hnd
    simp only [List.nodup_append, List.mem_append] at hnd
    grind)
  have P3_4 := Lib.hid (show ∀ i, i ∈ F3 → i ∉ F4 from fun i g1 g2 => by
    rw [hFF] at hnd
    simp only [List.nodup_append, List.mem_append] at hnd
    grind)
  have P4_1 := Lib.hid (show ∀ i, i ∈ F4 → i ∉ F1 from fun i g1 g2 => by
    rw [hFF] at hnd
    simp only [List.nodup_append, List.mem_append] at hnd
    grind)
  have P4_2 := Lib.hid (show ∀ i, i ∈ F4 → i ∉ F2 from fun i g1 g2 => by
    rw [hFF] at hnd
    simp only [List.nodup_append, List.mem_append] at hnd
    grind)
  have P4_3 := Lib.hid (show ∀ i, i ∈ F4 → i ∉ F3 from fun i g1 g2 => by
    rw [hFF] at hnd
    simp only [List.nodup_append, List.mem_append] at hnd
    grind)
  have Z1 := Lib.hid (show F1.Nodup by rw [hFF] at hnd; simp only [List.nodup_append] at hnd; grind)
  have Z2 := Lib.hid (show F2.Nodup by rw [hFF] at hnd; simp only [List.nodup_append] at hnd; grind)
  have Z3 := Lib.hid (show F3.Nodup by rw [hFF] at hnd; simp only [List.nodup_append] at hnd; grind)
  have Z4 := Lib.hid (show F4.Nodup by rw [hFF] at hnd; simp only [List.nodup_append] at hnd; grind)
  have HFF := Lib.hid hFF
  clear h hnd hn hFF h0 h1 h2 h3 h4
  obtain ⟨r1, hr1⟩ : ∃ r : Nat, r = cntEntry k.before := ⟨_, rfl⟩
  obtain ⟨r2, hr2⟩ : ∃ r : Nat, r = cntEntry k.after := ⟨_, rfl⟩
  obtain ⟨r3, hr3⟩ : ∃ r : Nat, r = cntProof k.left := ⟨_, rfl⟩
  obtain ⟨r4, hr4⟩ : ∃ r : Nat, r = cntProof k.right := ⟨_, rfl⟩
  rw [show q + ((cntGap k : Nat) : Int) = q + (r1 : Int) + (r2 : Int) + (r3 : Int) + (r4 : Int) by unfold cntGap; omega]
  have NR1 : r1 ≤ 1099511627776 := by have := N1.out; omega
  have NR2 : r2 ≤ 1099511627776 := by have := N2.out; omega
  have NR3 : r3 ≤ 1099511627776 := by have := N3.out; omega
  have NR4 : r4 ≤ 1099511627776 := by have := N4.out; omega
  have M1 := Lib.hid (fun w1 h1 => markEntry_f F1 [.string k.before.label, .int .i64 k.before.kind, .int .i64 k.before.value, .slice A0 n0 c0] (k.before) (q) w1 h1 N1.out (by omega) (by omega))
  rw [← hr1] at M1
  have M2 := Lib.hid (fun w1 h1 => markEntry_f F2 [.string k.after.label, .int .i64 k.after.kind, .int .i64 k.after.value, .slice A1 n1 c1] (k.after) (q + (r1 : Int)) w1 h1 N2.out (by omega) (by omega))
  rw [← hr2] at M2
  have M3 := Lib.hid (fun w1 h1 => markProof_f F3 [.int .i64 k.left.at_, .slice A2 n2 c2] (k.left) (q + (r1 : Int) + (r2 : Int)) w1 h1 Z3.out N3.out (by omega) (by omega))
  rw [← hr3] at M3
  have M4 := Lib.hid (fun w1 h1 => markProof_f F4 [.int .i64 k.right.at_, .slice A3 n3 c3] (k.right) (q + (r1 : Int) + (r2 : Int) + (r3 : Int)) w1 h1 Z4.out N4.out (by omega) (by omega))
  rw [← hr4] at M4
  have HR1 := Lib.hid hr1
  clear hr1
  have HR2 := Lib.hid hr2
  clear hr2
  have HR3 := Lib.hid hr3
  clear hr3
  have HR4 := Lib.hid hr4
  clear hr4
  have HFR := Lib.hid (FrF.refl F w)
  have OO1 := O1
  have OO2 := O2
  have OO3 := O3
  go_enter Try.func14, Try.ntmps14
  go_wp2_with fail
  refine (M1.out _ (REntry.okeep O1.out fun i _ hi => Below.heap_alloc w _ i hi)).mono ?_
  rintro e w0_ ⟨rfl, ho, hfr⟩
  replace O2 := Lib.hid (own_frf (REntry.okeep O2.out fun i _ hi => Below.heap_alloc w _ i hi) hfr P2_1.out)
  replace O3 := Lib.hid (own_frf (RProof.okeep O3.out fun i _ hi => Below.heap_alloc w _ i hi) hfr P3_1.out)
  replace O4 := Lib.hid (own_frf (RProof.okeep O4.out fun i _ hi => Below.heap_alloc w _ i hi) hfr P4_1.out)
  replace O1 := Lib.hid ho
  replace HFR := Lib.hid ((FrF.of_below ((Below.refl w.heap.size w).alloc (Nat.le_refl _) _) F).trans (hfr.more (fun i hi => by rw [HFF.out]; simp [hi])))
  have hcc0 : ∀ o, w0_.cell? ⟨w.heap.size, o, none⟩ = (w.alloc _).cell? ⟨w.heap.size, o, none⟩ := fun o => World.cell?_of_block (a := ⟨w.heap.size, o, none⟩) (hfr.block w.heap.size (by first | (simp; done) | exact HSZ.out) (fun hi => by have := REntry.olt OO1.out w.heap.size hi; omega))
  have HSZ := Lib.hid (show w.heap.size < w0_.heap.size from Nat.lt_of_lt_of_le (by first | (simp; done) | exact HSZ.out) hfr.size)
  clear ho hfr
  go_wp2_with fail
  refine (M2.out _ O2.out).mono ?_
  rintro e w1_ ⟨rfl, ho, hfr⟩
  replace O1 := Lib.hid (own_frf O1.out hfr P1_2.out)
  replace O3 := Lib.hid (own_frf O3.out hfr P3_2.out)
  replace O4 := Lib.hid (own_frf O4.out hfr P4_2.out)
  replace O2 := Lib.hid ho
  replace HFR := Lib.hid (HFR.out.trans (hfr.more (fun i hi => by rw [HFF.out]; simp [hi])))
  have hcc1 : ∀ o, w1_.cell? ⟨w.heap.size, o, none⟩ = w0_.cell? ⟨w.heap.size, o, none⟩ := fun o => World.cell?_of_block (a := ⟨w.heap.size, o, none⟩) (hfr.block w.heap.size (by first | (simp; done) | exact HSZ.out) (fun hi => by have := REntry.olt OO2.out w.heap.size hi; omega))
  have HSZ := Lib.hid (show w.heap.size < w1_.heap.size from Nat.lt_of_lt_of_le (by first | (simp; done) | exact HSZ.out) hfr.size)
  clear ho hfr
  go_wp2_with fail
  refine (M3.out _ O3.out).mono ?_
  rintro e w2_ ⟨rfl, ho, hfr⟩
  replace O1 := Lib.hid (own_frf O1.out hfr P1_3.out)
  replace O2 := Lib.hid (own_frf O2.out hfr P2_3.out)
  replace O4 := Lib.hid (own_frf O4.out hfr P4_3.out)
  replace O3 := Lib.hid ho
  replace HFR := Lib.hid (HFR.out.trans (hfr.more (fun i hi => by rw [HFF.out]; simp [hi])))
  have hcc2 : ∀ o, w2_.cell? ⟨w.heap.size, o, none⟩ = w1_.cell? ⟨w.heap.size, o, none⟩ := fun o => World.cell?_of_block (a := ⟨w.heap.size, o, none⟩) (hfr.block w.heap.size (by first | (simp; done) | exact HSZ.out) (fun hi => by have := RProof.olt OO3.out w.heap.size hi; omega))
  have HSZ := Lib.hid (show w.heap.size < w2_.heap.size from Nat.lt_of_lt_of_le (by first | (simp; done) | exact HSZ.out) hfr.size)
  clear ho hfr
  go_wp2_with fail
  refine (M4.out _ O4.out).mono ?_
  rintro e w3_ ⟨rfl, ho, hfr⟩
  replace O1 := Lib.hid (own_frf O1.out hfr P1_4.out)
  replace O2 := Lib.hid (own_frf O2.out hfr P2_4.out)
  replace O3 := Lib.hid (own_frf O3.out hfr P3_4.out)
  replace O4 := Lib.hid ho
  replace HFR := Lib.hid (HFR.out.trans (hfr.more (fun i hi => by rw [HFF.out]; simp [hi])))
  clear ho hfr
  go_wp2
  go_ret
  refine ⟨rfl, RGap_set.2 ⟨A0, n0, c0, A1, n1, c1, A2, n2, c2, A3, n3, c3, F1, F2, F3, F4, rfl, HFF.out, D0.out, ?_, ?_, ?_, ?_⟩, HFR.out⟩
  · have := O1.out
    unfold mkGap
    simp only
    exact this
  · have := O2.out
    unfold mkGap
    simp only
    rw [← HR1.out]
    exact this
  · have := O3.out
    unfold mkGap
    simp only
    rw [← HR1.out]
    rw [← HR2.out]
    exact this
  · have := O4.out
    unfold mkGap
    simp only
    rw [← HR1.out]
    rw [← HR2.out]
    rw [← HR3.out]
    exact this
theorem markGap_any (lo hi : Nat) (cs : List Value) (k : Gap) (q : Int) (w : World) (h : OwnI RGap w lo hi cs k) (hh : hi ≤ w.heap.size) (hn : cntGap k ≤ 1099511627776) (hq0 : 0 ≤ q) (hq1 : q ≤ 576460752303423488) :
    Calls Try.prog 14 #[.agg cs.toArray, .int .i64 q] w fun e w' => e = .returned (.int .i64 (q + (cntGap k : Int))) ∧ OwnI RGap w' lo hi cs (mkGap k q) ∧ Fr lo hi w w' :=
  mark_int (fun F h1 h2 => markGap_f F cs k q w h1 h2 hn hq0 hq1) h
set_option maxHeartbeats 2000000 in
theorem heldGap_marks (B : Nat) (cs : List Value) (k : Gap) (q : Int) (w : World) (h : RGap.rd w (Lt B) cs (mkGap k q)) (hB : B ≤ w.heap.size) (hn : cntGap k ≤ 1099511627776) (hq0 : 0 ≤ q) (hq1 : q ≤ 576460752303423488) :
    Calls Try.prog 15 #[.agg cs.toArray, .int .i64 q] w fun e w' => e = .returned (.int .i64 (q + (cntGap k : Int))) ∧ Below w.heap.size w w' := by
  obtain ⟨A0, n0, c0, A1, n1, c1, A2, n2, c2, A3, n3, c3, rfl, h0, h1, h2, h3, h4⟩ := RGap_flds (RGap.more h fun i hi => Nat.lt_of_lt_of_le hi hB)
  unfold cntGap at hn
  obtain ⟨r1, hr1⟩ : ∃ r : Nat, r = cntEntry k.before := ⟨_, rfl⟩
  obtain ⟨r2, hr2⟩ : ∃ r : Nat, r = cntEntry k.after := ⟨_, rfl⟩
  obtain ⟨r3, hr3⟩ : ∃ r : Nat, r = cntProof k.left := ⟨_, rfl⟩
  obtain ⟨r4, hr4⟩ : ∃ r : Nat, r = cntProof k.right := ⟨_, rfl⟩
  rw [show q + ((cntGap k : Nat) : Int) = q + (r1 : Int) + (r2 : Int) + (r3 : Int) + (r4 : Int) by unfold cntGap; omega]
  have D1 := Lib.hid (show REntry.rd w (Lt w.heap.size) [.string (mkGap k q).before.label, .int .i64 (mkGap k q).before.kind, .int .i64 (mkGap k q).before.value, .slice A0 n0 c0] (mkEntry k.before (q)) from by
    have h_ := h1
    unfold mkGap at h_
    try unfold mkGap
    try simp only at h_ ⊢
    exact h_)
  have V1 := Lib.hid (fun w1 (hb : Below w.heap.size w w1) => heldEntry_marks _ [.string (mkGap k q).before.label, .int .i64 (mkGap k q).before.kind, .int .i64 (mkGap k q).before.value, .slice A0 n0 c0] (k.before) (q) w1 (rd_up D1.out hb) (Nat.le_refl _) (by omega) (by omega) (by omega))
  simp only [← hr1] at V1
  have D2 := Lib.hid (show REntry.rd w (Lt w.heap.size) [.string (mkGap k q).after.label, .int .i64 (mkGap k q).after.kind, .int .i64 (mkGap k q).after.value, .slice A1 n1 c1] (mkEntry k.after (q + (r1 : Int))) from by
    have h_ := h2
    unfold mkGap at h_
    try unfold mkGap
    try simp only at h_ ⊢
    rw [hr1]
    exact h_)
  have V2 := Lib.hid (fun w1 (hb : Below w.heap.size w w1) => heldEntry_marks _ [.string (mkGap k q).after.label, .int .i64 (mkGap k q).after.kind, .int .i64 (mkGap k q).after.value, .slice A1 n1 c1] (k.after) (q + (r1 : Int)) w1 (rd_up D2.out hb) (Nat.le_refl _) (by omega) (by omega) (by omega))
  simp only [← hr2] at V2
  have D3 := Lib.hid (show RProof.rd w (Lt w.heap.size) [.int .i64 (mkGap k q).left.at_, .slice A2 n2 c2] (mkProof k.left (q + (r1 : Int) + (r2 : Int))) from by
    have h_ := h3
    unfold mkGap at h_
    try unfold mkGap
    try simp only at h_ ⊢
    rw [hr1]
    rw [hr2]
    exact h_)
  have V3 := Lib.hid (fun w1 (hb : Below w.heap.size w w1) => heldProof_marks _ [.int .i64 (mkGap k q).left.at_, .slice A2 n2 c2] (k.left) (q + (r1 : Int) + (r2 : Int)) w1 (rd_up D3.out hb) (Nat.le_refl _) (by omega) (by omega) (by omega))
  simp only [← hr3] at V3
  have D4 := Lib.hid (show RProof.rd w (Lt w.heap.size) [.int .i64 (mkGap k q).right.at_, .slice A3 n3 c3] (mkProof k.right (q + (r1 : Int) + (r2 : Int) + (r3 : Int))) from by
    have h_ := h4
    unfold mkGap at h_
    try unfold mkGap
    try simp only at h_ ⊢
    rw [hr1]
    rw [hr2]
    rw [hr3]
    exact h_)
  have V4 := Lib.hid (fun w1 (hb : Below w.heap.size w w1) => heldProof_marks _ [.int .i64 (mkGap k q).right.at_, .slice A3 n3 c3] (k.right) (q + (r1 : Int) + (r2 : Int) + (r3 : Int)) w1 (rd_up D4.out hb) (Nat.le_refl _) (by omega) (by omega) (by omega))
  simp only [← hr4] at V4
  have NR : r1 ≤ 1099511627776 ∧ r2 ≤ 1099511627776 ∧ r3 ≤ 1099511627776 ∧ r4 ≤ 1099511627776 := by omega
  clear h hn hB h0 h1 h2 h3 h4 hr1 hr2 hr3 hr4
  have z0 : ¬ q + (r1 : Int) < 0 := by omega
  have z1 : ¬ q + (r1 : Int) + (r2 : Int) < 0 := by omega
  have z2 : ¬ q + (r1 : Int) + (r2 : Int) + (r3 : Int) < 0 := by omega
  have z3 : ¬ q + (r1 : Int) + (r2 : Int) + (r3 : Int) + (r4 : Int) < 0 := by omega
  generalize mkGap k q = kk at *
  have HBB := Lib.hid (Below.refl w.heap.size w)
  go_enter Try.func15, Try.ntmps15
  go_wp2_with fail
  refine (V1.out _ ?_).mono ?_
  · repeat' (first | exact HBB.out | exact Below.refl _ _ | refine Below.setCell ?_ ?_ _ | refine Below.alloc ?_ ?_ _)
    all_goals first | (simp; done) | (simp; omega) | omega
  rintro e w0_ ⟨rfl, hb⟩
  have hb2 : Below w.heap.size w w0_ := by
    refine Below.trans ?_ (Below.mono hb ?_)
    repeat' (first | exact HBB.out | exact Below.refl _ _ | refine Below.setCell ?_ ?_ _ | refine Below.alloc ?_ ?_ _)
    all_goals first | (simp; done) | (simp; omega) | omega
  replace HBB := Lib.hid hb2
  obtain ⟨hc0, hf0⟩ := bcell hb
  have hlt0 : w.heap.size < w0_.heap.size := by have := hb.size; (try simp at this); omega
  clear hb hb2
  go_wp2_with fail
  refine (V2.out _ ?_).mono ?_
  · repeat' (first | exact HBB.out | exact Below.refl _ _ | refine Below.setCell ?_ ?_ _ | refine Below.alloc ?_ ?_ _)
    all_goals first | (simp; done) | (simp; omega) | omega
  rintro e w1_ ⟨rfl, hb⟩
  have hb2 : Below w.heap.size w w1_ := by
    refine Below.trans ?_ (Below.mono hb ?_)
    repeat' (first | exact HBB.out | exact Below.refl _ _ | refine Below.setCell ?_ ?_ _ | refine Below.alloc ?_ ?_ _)
    all_goals first | (simp; done) | (simp; omega) | omega
  replace HBB := Lib.hid hb2
  obtain ⟨hc1, hf1⟩ := bcell hb
  have hlt1 : w.heap.size < w1_.heap.size := by have := hb.size; (try simp at this); omega
  clear hb hb2
  go_wp2_with fail
  refine (V3.out _ ?_).mono ?_
  · repeat' (first | exact HBB.out | exact Below.refl _ _ | refine Below.setCell ?_ ?_ _ | refine Below.alloc ?_ ?_ _)
    all_goals first | (simp; done) | (simp; omega) | omega
  rintro e w2_ ⟨rfl, hb⟩
  have hb2 : Below w.heap.size w w2_ := by
    refine Below.trans ?_ (Below.mono hb ?_)
    repeat' (first | exact HBB.out | exact Below.refl _ _ | refine Below.setCell ?_ ?_ _ | refine Below.alloc ?_ ?_ _)
    all_goals first | (simp; done) | (simp; omega) | omega
  replace HBB := Lib.hid hb2
  obtain ⟨hc2, hf2⟩ := bcell hb
  have hlt2 : w.heap.size < w2_.heap.size := by have := hb.size; (try simp at this); omega
  clear hb hb2
  go_wp2_with fail
  refine (V4.out _ ?_).mono ?_
  · repeat' (first | exact HBB.out | exact Below.refl _ _ | refine Below.setCell ?_ ?_ _ | refine Below.alloc ?_ ?_ _)
    all_goals first | (simp; done) | (simp; omega) | omega
  rintro e w3_ ⟨rfl, hb⟩
  have hb2 : Below w.heap.size w w3_ := by
    refine Below.trans ?_ (Below.mono hb ?_)
    repeat' (first | exact HBB.out | exact Below.refl _ _ | refine Below.setCell ?_ ?_ _ | refine Below.alloc ?_ ?_ _)
    all_goals first | (simp; done) | (simp; omega) | omega
  replace HBB := Lib.hid hb2
  obtain ⟨hc3, hf3⟩ := bcell hb
  have hlt3 : w.heap.size < w3_.heap.size := by have := hb.size; (try simp at this); omega
  clear hb hb2
  go_wp2
  go_ret
  refine ⟨rfl, ?_⟩
  repeat' (first | exact HBB.out | exact Below.refl _ _ | refine Below.setCell ?_ ?_ _ | refine Below.alloc ?_ ?_ _)
  all_goals first | (simp; done) | (simp; omega) | omega
end Go.Proofs.Ytbhhifoofapgiaa.T12
