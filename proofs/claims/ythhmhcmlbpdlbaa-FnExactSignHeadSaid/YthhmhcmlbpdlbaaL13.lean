/- Copies of sets of keys and of heads. -/
import Derived.Test.YthhmhcmlbpdlbaaC06S
import Derived.Test.YthhmhcmlbpdlbaaC13S
import Derived.Test.YthhmhcmlbpdlbaaLD
import Derived.Deep.RegionHeld3
import Derived.Deep.AppendLies
import Derived.Deep.RegionLaw
namespace Go.Proofs.Ythhmhcmlbpdlbaa.L13
set_option linter.unusedVariables false
set_option linter.unusedSimpArgs false
set_option maxRecDepth 100000
open Go.RowKit Mem MemS M02 C01 C02 C02B SL Rep R06 R13 M06 M13 C06S C13S BX
theorem l6Copy_any (w : World) (A : Option Addr) (n c : Nat) (l : List Int) (nd : Int) (h : Rd .i64 w w.heap.size A n l) (hn : n ≤ 1099511627776) : Calls Try.prog 63 #[.agg #[.slice A n c, .int .i64 nd]] w fun e w' =>
    ∃ A' c', e = .returned (.agg #[.slice A' n c', .int .i64 nd]) ∧ Own .i64 w' w.heap.size w'.heap.size A' n c' l ∧ Below w.heap.size w w' := by
  have HB := Lib.hid ((Below.refl w.heap.size w).alloc (Nat.le_refl _) (.cells #[.slice A n c, .int .i64 nd] 27) |>.alloc (by simp) (.cells #[.slice none 0 0, .int .i64 0] 27))
  generalize hW : ((w.alloc (.cells #[.slice A n c, .int .i64 nd] 27)).alloc (.cells #[.slice none 0 0, .int .i64 0] 27)) = W at HB
  have HBX := Lib.hid (show Box W w.heap.size [.slice A n c, .int .i64 nd] by rw [← hW]; exact (Box.new w #[.slice A n c, .int .i64 nd] 27).alloc _)
  have HBR := Lib.hid (show Box W (w.heap.size + 1) [.slice none 0 0, .int .i64 0] by rw [← hW]; have h := Box.new (w.alloc (.cells #[.slice A n c, .int .i64 nd] 27)) #[.slice none 0 0, .int .i64 0] 27; simpa using h)
  have hsz : W.heap.size = w.heap.size + 2 := by rw [← hW]; simp
  have HSZ := Lib.hid hsz
  have HR := Lib.hid (h.below HB.out (Nat.le_refl _))
  have HW := Lib.hid hW
  clear hW h hsz
  go_enter Try.func63, Try.ntmps63
  go_wp2_with fail
  rw [HW.out]
  have HL0 := Lib.hid ((Own.lit0 .i64 (lo := W.heap.size) W (Nat.le_refl _)).same (w' := (W.alloc (.cells #[] 3)).drew) ⟨rfl, rfl, rfl, rfl⟩)
  have HR0 := Lib.hid ((HR.out.alloc HB.out.size (.cells #[] 3)).same (w' := (W.alloc (.cells #[] 3)).drew) ⟨rfl, rfl, rfl, rfl⟩)
  have HBd := Lib.hid (((Below.refl W.heap.size W).alloc (Nat.le_refl _) (.cells #[] 3)).drew)
  have c0 := HBX.out.cell (j := 0) rfl
  have c1 := HBX.out.cell (j := 1) rfl
  have r0 := HBR.out.cell (j := 0) rfl
  have r1 := HBR.out.cell (j := 1) rfl
  have hn2 : 0 + n ≤ 8796093022208 := by omega
  have hlt0 : w.heap.size < W.heap.size := by have := HSZ.out; omega
  have hlt1 : w.heap.size + 1 < W.heap.size := by have := HSZ.out; omega
  have HSd := Lib.hid (show W.heap.size ≤ (W.alloc (.cells #[] 3)).drew.heap.size by simp [World.drew])
  go_region_law ((first
    | (refine step_app (k := .i64) (by unfold BI; decide) rfl (.tmp 3) (.tmp 5) rfl rfl HL0.out rfl HR0.out hn2 HSd.out ?_; intro A4 c4 w4 hown4 hgr4; have HO4 := Lib.hid hown4; have HB4 := Lib.hid (HBd.out.trans (hgr4.below HSd.out HL0.out.ge)); have HX4 := Lib.hid (HBX.out.below HB4.out hlt0); have HR4 := Lib.hid (HBR.out.below HB4.out hlt1); have d1 := HX4.out.cell (j := 1) rfl; have e0 := HR4.out.cell (j := 0) rfl; have e1 := HR4.out.cell (j := 1) rfl; have f0 := HR4.out.warm (j := 0) rfl; have f1 := HR4.out.warm (j := 1) rfl; clear hown4 hgr4)))
  all_goals
    have HO5 := HO4.out
    simp only [Nat.zero_add, List.nil_append] at HO5
    have HO6 := Lib.hid HO5
    have hs4 := HB4.out.size
    clear HO5 c0 c1 r0 r1
    go_wp2
    refine bodyPost_ret (v := .agg #[.slice A4 n c4, .int .i64 nd]) (by simp [results, Try.results63, go_sem, e0, e1]) rfl ⟨A4, c4, rfl, ?_, ?_⟩
    · refine (Own.top (hi := w4.heap.size) ?_).base (show w.heap.size ≤ W.heap.size by omega)
      refine Own.store (Own.store HO6.out _ (.inl ?_)) _ (.inl ?_) <;> simp <;> omega
    · refine Below.setCell (Below.setCell (HB.out.trans (HB4.out.mono (by omega))) ?_ _) ?_ _ <;> simp
/-- three parts one behind the other -/
theorem head_own {w : World} {cs : List Value} {k : Head} {lo hi x0 y0 x1 y1 x2 y2 : Nat} {A0 A1 A2 : Option Addr} {n0 c0 n1 c1 n2 c2 : Nat} (hc : cs = [.int .i64 k.zone, .int .i64 k.epoch, .int .i64 k.kind, .int .i64 k.time, .int .i64 k.until_, .int .i64 k.count, .int .i64 k.root, .int .i64 k.prev, .slice A0 n0 c0, .int .i64 k.keys.need, .slice A1 n1 c1, .int .i64 k.heirs.need, .int .i64 k.wait, .slice A2 n2 c2, .int .i64 k.judge.need, .bool k.frozen])
    (hi8 : In .i64 k.zone ∧ In .i64 k.epoch ∧ In .i64 k.kind ∧ In .i64 k.time ∧ In .i64 k.until_ ∧ In .i64 k.count ∧ In .i64 k.root ∧ In .i64 k.prev ∧ In .i64 k.wait) (h0 : OwnI RKeys w x0 y0 [.slice A0 n0 c0, .int .i64 k.keys.need] k.keys) (h1 : OwnI RKeys w x1 y1 [.slice A1 n1 c1, .int .i64 k.heirs.need] k.heirs) (h2 : OwnI RKeys w x2 y2 [.slice A2 n2 c2, .int .i64 k.judge.need] k.judge)
    (d : lo ≤ x0 ∧ x0 ≤ y0 ∧ y0 ≤ x1 ∧ x1 ≤ y1 ∧ y1 ≤ x2 ∧ x2 ≤ y2 ∧ y2 ≤ hi) : OwnI RHead w lo hi cs k := by
  obtain ⟨F0, a0, u0, e0⟩ := h0
  obtain ⟨F1, a1, u1, e1⟩ := h1
  obtain ⟨F2, a2, u2, e2⟩ := h2
  have g2 : F2.Nodup ∧ ∀ b, b ∈ F2 → x2 ≤ b ∧ b < y2 := ⟨u2, e2⟩
  have g1 := part_cons (lo := x1) u1 e1 g2 (by omega) (Nat.le_refl _) (by omega) (by omega)
  have g0 := part_cons (lo := x0) u0 e0 g1 (by omega) (Nat.le_refl _) (by omega) (by omega)
  obtain ⟨i1, i2, i3, i4, i5, i6, i7, i8, i9⟩ := hi8
  subst hc
  exact ⟨_, RHead_set.2 ⟨A0, n0, c0, A1, n1, c1, A2, n2, c2, F0, F1, F2, rfl, rfl, i1, i2, i3, i4, i5, i6, i7, i8, a0, a1, i9, a2⟩, g0.1, fun b hb => by have := g0.2 b hb; omega⟩
theorem keys_row {w : World} {B n c : Nat} {A : Option Addr} {nd : Int} {q : Keys} (h : RKeys.rd w (Lt B) [.slice A n c, .int .i64 nd] q) : Rd .i64 w B A n q.list ∧ In .i64 q.need := by
  obtain ⟨A', n', c', e, _, _, h1, h2⟩ := RKeys_rd.1 h
  simp only [List.cons.injEq, Value.slice.injEq, true_and, and_true] at e
  obtain ⟨⟨rfl, rfl, rfl⟩, -⟩ := e
  exact ⟨h1, h2⟩
set_option maxHeartbeats 16000000 in
theorem l13Copy_any (cs : List Value) (k : Head) (w : World) (h : RHead.rd w (Lt w.heap.size) cs k) (hn : totHead k ≤ 1048576) :
    Calls Try.prog 39 #[.agg cs.toArray] w fun e w' => ∃ cs', e = .returned (.agg (List.toArray cs')) ∧ OwnI RHead w' w.heap.size w'.heap.size cs' k ∧ Below w.heap.size w w' := by
  obtain ⟨A0, n0, c0, A1, n1, c1, A2, n2, c2, rfl, ⟨i1, i2, i3, i4, i5, i6, i7, i8, i9⟩, h1, h2, h3⟩ := head_parts h
  unfold totHead totKeys at hn
  obtain ⟨g0, q0⟩ := keys_row h1
  obtain ⟨g1, q1⟩ := keys_row h2
  obtain ⟨g2, q2⟩ := keys_row h3
  have hl0 := g0.len
  have hl1 := g1.len
  have hl2 := g2.len
  have HG0 := Lib.hid g0
  have HG1 := Lib.hid g1
  have HG2 := Lib.hid g2
  clear h h1 h2 h3 g0 g1 g2
  obtain ⟨V, hV⟩ : ∃ V, V = (w.alloc (.cells #[.int .i64 k.zone, .int .i64 k.epoch, .int .i64 k.kind, .int .i64 k.time, .int .i64 k.until_, .int .i64 k.count, .int .i64 k.root, .int .i64 k.prev, .slice A0 n0 c0, .int .i64 k.keys.need, .slice A1 n1 c1, .int .i64 k.heirs.need, .int .i64 k.wait, .slice A2 n2 c2, .int .i64 k.judge.need, .bool k.frozen] 35)).alloc (.cells #[.int .i64 0, .int .i64 0, .int .i64 0, .int .i64 0, .int .i64 0, .int .i64 0, .int .i64 0, .int .i64 0, .slice none 0 0, .int .i64 0, .slice none 0 0, .int .i64 0, .int .i64 0, .slice none 0 0, .int .i64 0, .bool false] 35) := ⟨_, rfl⟩
  have HB_1 := Lib.hid (show Below w.heap.size w V from by
    rw [hV]
    exact ((Below.refl _ _).alloc (by first | (simp; done) | (simp; omega)) _).alloc (by first | (simp; done) | (simp; omega)) _)
  have HX_1 := Lib.hid (show Box V (w.heap.size) [.int .i64 k.zone, .int .i64 k.epoch, .int .i64 k.kind, .int .i64 k.time, .int .i64 k.until_, .int .i64 k.count, .int .i64 k.root, .int .i64 k.prev, .slice A0 n0 c0, .int .i64 k.keys.need, .slice A1 n1 c1, .int .i64 k.heirs.need, .int .i64 k.wait, .slice A2 n2 c2, .int .i64 k.judge.need, .bool k.frozen] from by
    rw [hV]
    have := ((Box.new w #[.int .i64 k.zone, .int .i64 k.epoch, .int .i64 k.kind, .int .i64 k.time, .int .i64 k.until_, .int .i64 k.count, .int .i64 k.root, .int .i64 k.prev, .slice A0 n0 c0, .int .i64 k.keys.need, .slice A1 n1 c1, .int .i64 k.heirs.need, .int .i64 k.wait, .slice A2 n2 c2, .int .i64 k.judge.need, .bool k.frozen] 35).alloc (.cells #[.int .i64 0, .int .i64 0, .int .i64 0, .int .i64 0, .int .i64 0, .int .i64 0, .int .i64 0, .int .i64 0, .slice none 0 0, .int .i64 0, .slice none 0 0, .int .i64 0, .int .i64 0, .slice none 0 0, .int .i64 0, .bool false] 35))
    simpa using this)
  have HR_1 := Lib.hid (show Box V (w.heap.size + 1) [.int .i64 0, .int .i64 0, .int .i64 0, .int .i64 0, .int .i64 0, .int .i64 0, .int .i64 0, .int .i64 0, .slice none 0 0, .int .i64 0, .slice none 0 0, .int .i64 0, .int .i64 0, .slice none 0 0, .int .i64 0, .bool false] from by
    rw [hV]
    have := (Box.new (w.alloc (.cells #[.int .i64 k.zone, .int .i64 k.epoch, .int .i64 k.kind, .int .i64 k.time, .int .i64 k.until_, .int .i64 k.count, .int .i64 k.root, .int .i64 k.prev, .slice A0 n0 c0, .int .i64 k.keys.need, .slice A1 n1 c1, .int .i64 k.heirs.need, .int .i64 k.wait, .slice A2 n2 c2, .int .i64 k.judge.need, .bool k.frozen] 35)) #[.int .i64 0, .int .i64 0, .int .i64 0, .int .i64 0, .int .i64 0, .int .i64 0, .int .i64 0, .int .i64 0, .slice none 0 0, .int .i64 0, .slice none 0 0, .int .i64 0, .int .i64 0, .slice none 0 0, .int .i64 0, .bool false] 35)
    simpa using this)
  have HV := Lib.hid hV
  have hsV : w.heap.size + 2 ≤ V.heap.size ∧ V.heap.size ≤ w.heap.size + 2 := by rw [hV]; simp
  clear hV
  go_enter Try.func39, Try.ntmps39
  have hal : Below V.heap.size V (V.alloc (.cells #[.int .i64 k.zone, .int .i64 k.epoch, .int .i64 k.kind, .int .i64 k.time, .int .i64 k.until_, .int .i64 k.count, .int .i64 k.root, .int .i64 k.prev, .slice A0 n0 c0, .int .i64 k.keys.need, .slice A1 n1 c1, .int .i64 k.heirs.need, .int .i64 k.wait, .slice A2 n2 c2, .int .i64 k.judge.need, .bool k.frozen] 35)) := (Below.refl _ _).alloc (Nat.le_refl _) _
  have HB_2 := Lib.hid (HB_1.out.trans (hal.mono HB_1.out.size))
  have HX_2 := Lib.hid (HX_1.out.below hal HX_1.out.lt)
  have HR_2 := Lib.hid (HR_1.out.below hal HR_1.out.lt)
  have HY_2 := Lib.hid (show Box (V.alloc (.cells #[.int .i64 k.zone, .int .i64 k.epoch, .int .i64 k.kind, .int .i64 k.time, .int .i64 k.until_, .int .i64 k.count, .int .i64 k.root, .int .i64 k.prev, .slice A0 n0 c0, .int .i64 k.keys.need, .slice A1 n1 c1, .int .i64 k.heirs.need, .int .i64 k.wait, .slice A2 n2 c2, .int .i64 k.judge.need, .bool k.frozen] 35)) (V.heap.size) [.int .i64 k.zone, .int .i64 k.epoch, .int .i64 k.kind, .int .i64 k.time, .int .i64 k.until_, .int .i64 k.count, .int .i64 k.root, .int .i64 k.prev, .slice A0 n0 c0, .int .i64 k.keys.need, .slice A1 n1 c1, .int .i64 k.heirs.need, .int .i64 k.wait, .slice A2 n2 c2, .int .i64 k.judge.need, .bool k.frozen] from Box.new V #[.int .i64 k.zone, .int .i64 k.epoch, .int .i64 k.kind, .int .i64 k.time, .int .i64 k.until_, .int .i64 k.count, .int .i64 k.root, .int .i64 k.prev, .slice A0 n0 c0, .int .i64 k.keys.need, .slice A1 n1 c1, .int .i64 k.heirs.need, .int .i64 k.wait, .slice A2 n2 c2, .int .i64 k.judge.need, .bool k.frozen] 35)
  obtain ⟨V2, hV2⟩ : ∃ u9, V.alloc (.cells #[.int .i64 k.zone, .int .i64 k.epoch, .int .i64 k.kind, .int .i64 k.time, .int .i64 k.until_, .int .i64 k.count, .int .i64 k.root, .int .i64 k.prev, .slice A0 n0 c0, .int .i64 k.keys.need, .slice A1 n1 c1, .int .i64 k.heirs.need, .int .i64 k.wait, .slice A2 n2 c2, .int .i64 k.judge.need, .bool k.frozen] 35) = u9 := ⟨_, rfl⟩
  rw [hV2] at HB_2 HX_2 HR_2 HY_2
  have HV2 := Lib.hid hV2
  clear hal
  have hsV2 : V.heap.size + 1 ≤ V2.heap.size ∧ V2.heap.size ≤ V.heap.size + 1 := by rw [← hV2]; simp
  have zX0 := HX_2.out.cell (j := 0) rfl
  have zX1 := HX_2.out.cell (j := 1) rfl
  have zX2 := HX_2.out.cell (j := 2) rfl
  have zX3 := HX_2.out.cell (j := 3) rfl
  have zX4 := HX_2.out.cell (j := 4) rfl
  have zX5 := HX_2.out.cell (j := 5) rfl
  have zX6 := HX_2.out.cell (j := 6) rfl
  have zX7 := HX_2.out.cell (j := 7) rfl
  have zX8 := HX_2.out.cell (j := 8) rfl
  have zX9 := HX_2.out.cell (j := 9) rfl
  have zX10 := HX_2.out.cell (j := 10) rfl
  have zX11 := HX_2.out.cell (j := 11) rfl
  have zX12 := HX_2.out.cell (j := 12) rfl
  have zX13 := HX_2.out.cell (j := 13) rfl
  have zX14 := HX_2.out.cell (j := 14) rfl
  have zX15 := HX_2.out.cell (j := 15) rfl
  go_wp2_with (first | (rw [show (w.alloc (.cells #[.int .i64 k.zone, .int .i64 k.epoch, .int .i64 k.kind, .int .i64 k.time, .int .i64 k.until_, .int .i64 k.count, .int .i64 k.root, .int .i64 k.prev, .slice A0 n0 c0, .int .i64 k.keys.need, .slice A1 n1 c1, .int .i64 k.heirs.need, .int .i64 k.wait, .slice A2 n2 c2, .int .i64 k.judge.need, .bool k.frozen] 35)).alloc (.cells #[.int .i64 0, .int .i64 0, .int .i64 0, .int .i64 0, .int .i64 0, .int .i64 0, .int .i64 0, .int .i64 0, .slice none 0 0, .int .i64 0, .slice none 0 0, .int .i64 0, .int .i64 0, .slice none 0 0, .int .i64 0, .bool false] 35) = V from HV.out.symm]; refine LD.wp_ld LD.big_Head rfl _ rfl rfl HX_1.out rfl ?_) | (refine LD.wp_new LD.big_Head rfl _ _ rfl rfl rfl rfl rfl rfl ?_; rw [HV2.out]))
  clear zX0 zX1 zX2 zX3 zX4 zX5 zX6 zX7 zX8 zX9 zX10 zX11 zX12 zX13 zX14 zX15
  have hb0 := HB_2.out.size
  refine (l6Copy_any V2 A0 n0 c0 k.keys.list k.keys.need ((HG0.out.below HB_2.out (Nat.le_refl _)).more HB_2.out.size) (by omega)).mono ?_
  rintro e W0 ⟨D0, e0, rfl, ho, hb⟩
  have HB_3 := Lib.hid (HB_2.out.trans (hb.mono HB_2.out.size))
  have HX_3 := Lib.hid (HX_2.out.below hb HX_2.out.lt)
  have HR_3 := Lib.hid (HR_2.out.below hb HR_2.out.lt)
  have HY_3 := Lib.hid (HY_2.out.below hb HY_2.out.lt)
  have hsW0 := hb.size
  have HP0_3 := Lib.hid (show OwnI RKeys W0 (V2.heap.size) (W0.heap.size) [.slice D0 n0 e0, .int .i64 k.keys.need] k.keys ∧ (W0.heap.size) ≤ W0.heap.size ∧ V2.heap.size ≤ (V2.heap.size) from ⟨RKeys_own.2 ⟨D0, n0, e0, rfl, ho, q0⟩, Nat.le_refl _, by omega⟩)
  clear ho hb hb0
  have zX0 := HX_3.out.cell (j := 0) rfl
  have zX1 := HX_3.out.cell (j := 1) rfl
  have zX2 := HX_3.out.cell (j := 2) rfl
  have zX3 := HX_3.out.cell (j := 3) rfl
  have zX4 := HX_3.out.cell (j := 4) rfl
  have zX5 := HX_3.out.cell (j := 5) rfl
  have zX6 := HX_3.out.cell (j := 6) rfl
  have zX7 := HX_3.out.cell (j := 7) rfl
  have zX8 := HX_3.out.cell (j := 8) rfl
  have zX9 := HX_3.out.cell (j := 9) rfl
  have zX10 := HX_3.out.cell (j := 10) rfl
  have zX11 := HX_3.out.cell (j := 11) rfl
  have zX12 := HX_3.out.cell (j := 12) rfl
  have zX13 := HX_3.out.cell (j := 13) rfl
  have zX14 := HX_3.out.cell (j := 14) rfl
  have zX15 := HX_3.out.cell (j := 15) rfl
  have zY0 := HY_3.out.cell (j := 0) rfl
  have fY0 := HY_3.out.warm (j := 0) rfl
  have zY1 := HY_3.out.cell (j := 1) rfl
  have fY1 := HY_3.out.warm (j := 1) rfl
  have zY2 := HY_3.out.cell (j := 2) rfl
  have fY2 := HY_3.out.warm (j := 2) rfl
  have zY3 := HY_3.out.cell (j := 3) rfl
  have fY3 := HY_3.out.warm (j := 3) rfl
  have zY4 := HY_3.out.cell (j := 4) rfl
  have fY4 := HY_3.out.warm (j := 4) rfl
  have zY5 := HY_3.out.cell (j := 5) rfl
  have fY5 := HY_3.out.warm (j := 5) rfl
  have zY6 := HY_3.out.cell (j := 6) rfl
  have fY6 := HY_3.out.warm (j := 6) rfl
  have zY7 := HY_3.out.cell (j := 7) rfl
  have fY7 := HY_3.out.warm (j := 7) rfl
  have zY8 := HY_3.out.cell (j := 8) rfl
  have fY8 := HY_3.out.warm (j := 8) rfl
  have zY9 := HY_3.out.cell (j := 9) rfl
  have fY9 := HY_3.out.warm (j := 9) rfl
  have zY10 := HY_3.out.cell (j := 10) rfl
  have fY10 := HY_3.out.warm (j := 10) rfl
  have zY11 := HY_3.out.cell (j := 11) rfl
  have fY11 := HY_3.out.warm (j := 11) rfl
  have zY12 := HY_3.out.cell (j := 12) rfl
  have fY12 := HY_3.out.warm (j := 12) rfl
  have zY13 := HY_3.out.cell (j := 13) rfl
  have fY13 := HY_3.out.warm (j := 13) rfl
  have zY14 := HY_3.out.cell (j := 14) rfl
  have fY14 := HY_3.out.warm (j := 14) rfl
  have zY15 := HY_3.out.cell (j := 15) rfl
  have fY15 := HY_3.out.warm (j := 15) rfl
  go_wp2_with fail
  clear zX0 zX1 zX2 zX3 zX4 zX5 zX6 zX7 zX8 zX9 zX10 zX11 zX12 zX13 zX14 zX15 zY0 fY0 zY1 fY1 zY2 fY2 zY3 fY3 zY4 fY4 zY5 fY5 zY6 fY6 zY7 fY7 zY8 fY8 zY9 fY9 zY10 fY10 zY11 fY11 zY12 fY12 zY13 fY13 zY14 fY14 zY15 fY15
  obtain ⟨V3, hV3⟩ : ∃ u9, puts W0 (V.heap.size) 8 [.slice D0 n0 e0, .int .i64 k.keys.need] = u9 := ⟨_, rfl⟩
  have HB_4 := Lib.hid (pt_bel hV3 HB_3.out (show w.heap.size ≤ (V.heap.size) by omega))
  have HX_4 := Lib.hid (pt_box hV3 HX_3.out (show (w.heap.size) ≠ (V.heap.size) by omega))
  have HR_4 := Lib.hid (pt_box hV3 HR_3.out (show (w.heap.size + 1) ≠ (V.heap.size) by omega))
  have HY_4 := Lib.hid (show Box V3 (V.heap.size) [.int .i64 k.zone, .int .i64 k.epoch, .int .i64 k.kind, .int .i64 k.time, .int .i64 k.until_, .int .i64 k.count, .int .i64 k.root, .int .i64 k.prev, .slice D0 n0 e0, .int .i64 k.keys.need, .slice A1 n1 c1, .int .i64 k.heirs.need, .int .i64 k.wait, .slice A2 n2 c2, .int .i64 k.judge.need, .bool k.frozen] from pt_self hV3 HY_3.out (by simp))
  have HP0_4 := Lib.hid (pt_own hV3 HP0_3.out (show (V.heap.size) < V2.heap.size by omega))
  have HV3 := Lib.hid hV3
  clear hV3
  rw [show (W0.setCell ⟨V.heap.size, 8, none⟩ (.slice D0 n0 e0)).setCell ⟨V.heap.size, 9, none⟩ (.int .i64 k.keys.need) = V3 from HV3.out]
  have hsV3 : W0.heap.size ≤ V3.heap.size := by rw [← HV3.out]; exact Nat.le_of_eq (puts_size _ _).symm
  have hb0 := HB_4.out.size
  refine (l6Copy_any V3 A1 n1 c1 k.heirs.list k.heirs.need ((HG1.out.below HB_4.out (Nat.le_refl _)).more HB_4.out.size) (by omega)).mono ?_
  rintro e W1 ⟨D1, e1, rfl, ho, hb⟩
  have HB_5 := Lib.hid (HB_4.out.trans (hb.mono HB_4.out.size))
  have HX_5 := Lib.hid (HX_4.out.below hb HX_4.out.lt)
  have HR_5 := Lib.hid (HR_4.out.below hb HR_4.out.lt)
  have HY_5 := Lib.hid (HY_4.out.below hb HY_4.out.lt)
  have HP0_5 := Lib.hid (show OwnI RKeys W1 (V2.heap.size) (W0.heap.size) [.slice D0 n0 e0, .int .i64 k.keys.need] k.keys ∧ (W0.heap.size) ≤ W1.heap.size ∧ V2.heap.size ≤ (V2.heap.size) from ⟨HP0_4.out.1.below hb HP0_4.out.2.1, Nat.le_trans HP0_4.out.2.1 hb.size, HP0_4.out.2.2⟩)
  have hsW1 := hb.size
  have HP1_5 := Lib.hid (show OwnI RKeys W1 (V3.heap.size) (W1.heap.size) [.slice D1 n1 e1, .int .i64 k.heirs.need] k.heirs ∧ (W1.heap.size) ≤ W1.heap.size ∧ V2.heap.size ≤ (V3.heap.size) from ⟨RKeys_own.2 ⟨D1, n1, e1, rfl, ho, q1⟩, Nat.le_refl _, by omega⟩)
  clear ho hb hb0
  have zX0 := HX_5.out.cell (j := 0) rfl
  have zX1 := HX_5.out.cell (j := 1) rfl
  have zX2 := HX_5.out.cell (j := 2) rfl
  have zX3 := HX_5.out.cell (j := 3) rfl
  have zX4 := HX_5.out.cell (j := 4) rfl
  have zX5 := HX_5.out.cell (j := 5) rfl
  have zX6 := HX_5.out.cell (j := 6) rfl
  have zX7 := HX_5.out.cell (j := 7) rfl
  have zX8 := HX_5.out.cell (j := 8) rfl
  have zX9 := HX_5.out.cell (j := 9) rfl
  have zX10 := HX_5.out.cell (j := 10) rfl
  have zX11 := HX_5.out.cell (j := 11) rfl
  have zX12 := HX_5.out.cell (j := 12) rfl
  have zX13 := HX_5.out.cell (j := 13) rfl
  have zX14 := HX_5.out.cell (j := 14) rfl
  have zX15 := HX_5.out.cell (j := 15) rfl
  have zY0 := HY_5.out.cell (j := 0) rfl
  have fY0 := HY_5.out.warm (j := 0) rfl
  have zY1 := HY_5.out.cell (j := 1) rfl
  have fY1 := HY_5.out.warm (j := 1) rfl
  have zY2 := HY_5.out.cell (j := 2) rfl
  have fY2 := HY_5.out.warm (j := 2) rfl
  have zY3 := HY_5.out.cell (j := 3) rfl
  have fY3 := HY_5.out.warm (j := 3) rfl
  have zY4 := HY_5.out.cell (j := 4) rfl
  have fY4 := HY_5.out.warm (j := 4) rfl
  have zY5 := HY_5.out.cell (j := 5) rfl
  have fY5 := HY_5.out.warm (j := 5) rfl
  have zY6 := HY_5.out.cell (j := 6) rfl
  have fY6 := HY_5.out.warm (j := 6) rfl
  have zY7 := HY_5.out.cell (j := 7) rfl
  have fY7 := HY_5.out.warm (j := 7) rfl
  have zY8 := HY_5.out.cell (j := 8) rfl
  have fY8 := HY_5.out.warm (j := 8) rfl
  have zY9 := HY_5.out.cell (j := 9) rfl
  have fY9 := HY_5.out.warm (j := 9) rfl
  have zY10 := HY_5.out.cell (j := 10) rfl
  have fY10 := HY_5.out.warm (j := 10) rfl
  have zY11 := HY_5.out.cell (j := 11) rfl
  have fY11 := HY_5.out.warm (j := 11) rfl
  have zY12 := HY_5.out.cell (j := 12) rfl
  have fY12 := HY_5.out.warm (j := 12) rfl
  have zY13 := HY_5.out.cell (j := 13) rfl
  have fY13 := HY_5.out.warm (j := 13) rfl
  have zY14 := HY_5.out.cell (j := 14) rfl
  have fY14 := HY_5.out.warm (j := 14) rfl
  have zY15 := HY_5.out.cell (j := 15) rfl
  have fY15 := HY_5.out.warm (j := 15) rfl
  go_wp2_with fail
  clear zX0 zX1 zX2 zX3 zX4 zX5 zX6 zX7 zX8 zX9 zX10 zX11 zX12 zX13 zX14 zX15 zY0 fY0 zY1 fY1 zY2 fY2 zY3 fY3 zY4 fY4 zY5 fY5 zY6 fY6 zY7 fY7 zY8 fY8 zY9 fY9 zY10 fY10 zY11 fY11 zY12 fY12 zY13 fY13 zY14 fY14 zY15 fY15
  obtain ⟨V4, hV4⟩ : ∃ u9, puts W1 (V.heap.size) 10 [.slice D1 n1 e1, .int .i64 k.heirs.need] = u9 := ⟨_, rfl⟩
  have HB_6 := Lib.hid (pt_bel hV4 HB_5.out (show w.heap.size ≤ (V.heap.size) by omega))
  have HX_6 := Lib.hid (pt_box hV4 HX_5.out (show (w.heap.size) ≠ (V.heap.size) by omega))
  have HR_6 := Lib.hid (pt_box hV4 HR_5.out (show (w.heap.size + 1) ≠ (V.heap.size) by omega))
  have HY_6 := Lib.hid (show Box V4 (V.heap.size) [.int .i64 k.zone, .int .i64 k.epoch, .int .i64 k.kind, .int .i64 k.time, .int .i64 k.until_, .int .i64 k.count, .int .i64 k.root, .int .i64 k.prev, .slice D0 n0 e0, .int .i64 k.keys.need, .slice D1 n1 e1, .int .i64 k.heirs.need, .int .i64 k.wait, .slice A2 n2 c2, .int .i64 k.judge.need, .bool k.frozen] from pt_self hV4 HY_5.out (by simp))
  have HP0_6 := Lib.hid (pt_own hV4 HP0_5.out (show (V.heap.size) < V2.heap.size by omega))
  have HP1_6 := Lib.hid (pt_own hV4 HP1_5.out (show (V.heap.size) < V2.heap.size by omega))
  have HV4 := Lib.hid hV4
  clear hV4
  rw [show (W1.setCell ⟨V.heap.size, 10, none⟩ (.slice D1 n1 e1)).setCell ⟨V.heap.size, 11, none⟩ (.int .i64 k.heirs.need) = V4 from HV4.out]
  have hsV4 : W1.heap.size ≤ V4.heap.size := by rw [← HV4.out]; exact Nat.le_of_eq (puts_size _ _).symm
  have hb0 := HB_6.out.size
  refine (l6Copy_any V4 A2 n2 c2 k.judge.list k.judge.need ((HG2.out.below HB_6.out (Nat.le_refl _)).more HB_6.out.size) (by omega)).mono ?_
  rintro e W2 ⟨D2, e2, rfl, ho, hb⟩
  have HB_7 := Lib.hid (HB_6.out.trans (hb.mono HB_6.out.size))
  have HX_7 := Lib.hid (HX_6.out.below hb HX_6.out.lt)
  have HR_7 := Lib.hid (HR_6.out.below hb HR_6.out.lt)
  have HY_7 := Lib.hid (HY_6.out.below hb HY_6.out.lt)
  have HP0_7 := Lib.hid (show OwnI RKeys W2 (V2.heap.size) (W0.heap.size) [.slice D0 n0 e0, .int .i64 k.keys.need] k.keys ∧ (W0.heap.size) ≤ W2.heap.size ∧ V2.heap.size ≤ (V2.heap.size) from ⟨HP0_6.out.1.below hb HP0_6.out.2.1, Nat.le_trans HP0_6.out.2.1 hb.size, HP0_6.out.2.2⟩)
  have HP1_7 := Lib.hid (show OwnI RKeys W2 (V3.heap.size) (W1.heap.size) [.slice D1 n1 e1, .int .i64 k.heirs.need] k.heirs ∧ (W1.heap.size) ≤ W2.heap.size ∧ V2.heap.size ≤ (V3.heap.size) from ⟨HP1_6.out.1.below hb HP1_6.out.2.1, Nat.le_trans HP1_6.out.2.1 hb.size, HP1_6.out.2.2⟩)
  have hsW2 := hb.size
  have HP2_7 := Lib.hid (show OwnI RKeys W2 (V4.heap.size) (W2.heap.size) [.slice D2 n2 e2, .int .i64 k.judge.need] k.judge ∧ (W2.heap.size) ≤ W2.heap.size ∧ V2.heap.size ≤ (V4.heap.size) from ⟨RKeys_own.2 ⟨D2, n2, e2, rfl, ho, q2⟩, Nat.le_refl _, by omega⟩)
  clear ho hb hb0
  have zY0 := HY_7.out.cell (j := 0) rfl
  have fY0 := HY_7.out.warm (j := 0) rfl
  have zY1 := HY_7.out.cell (j := 1) rfl
  have fY1 := HY_7.out.warm (j := 1) rfl
  have zY2 := HY_7.out.cell (j := 2) rfl
  have fY2 := HY_7.out.warm (j := 2) rfl
  have zY3 := HY_7.out.cell (j := 3) rfl
  have fY3 := HY_7.out.warm (j := 3) rfl
  have zY4 := HY_7.out.cell (j := 4) rfl
  have fY4 := HY_7.out.warm (j := 4) rfl
  have zY5 := HY_7.out.cell (j := 5) rfl
  have fY5 := HY_7.out.warm (j := 5) rfl
  have zY6 := HY_7.out.cell (j := 6) rfl
  have fY6 := HY_7.out.warm (j := 6) rfl
  have zY7 := HY_7.out.cell (j := 7) rfl
  have fY7 := HY_7.out.warm (j := 7) rfl
  have zY8 := HY_7.out.cell (j := 8) rfl
  have fY8 := HY_7.out.warm (j := 8) rfl
  have zY9 := HY_7.out.cell (j := 9) rfl
  have fY9 := HY_7.out.warm (j := 9) rfl
  have zY10 := HY_7.out.cell (j := 10) rfl
  have fY10 := HY_7.out.warm (j := 10) rfl
  have zY11 := HY_7.out.cell (j := 11) rfl
  have fY11 := HY_7.out.warm (j := 11) rfl
  have zY12 := HY_7.out.cell (j := 12) rfl
  have fY12 := HY_7.out.warm (j := 12) rfl
  have zY13 := HY_7.out.cell (j := 13) rfl
  have fY13 := HY_7.out.warm (j := 13) rfl
  have zY14 := HY_7.out.cell (j := 14) rfl
  have fY14 := HY_7.out.warm (j := 14) rfl
  have zY15 := HY_7.out.cell (j := 15) rfl
  have fY15 := HY_7.out.warm (j := 15) rfl
  obtain ⟨V7, hV7⟩ : ∃ u9, puts W2 (V.heap.size) 13 [.slice D2 n2 e2, .int .i64 k.judge.need] = u9 := ⟨_, rfl⟩
  have HB_8 := Lib.hid (pt_bel hV7 HB_7.out (show w.heap.size ≤ (V.heap.size) by omega))
  have HX_8 := Lib.hid (pt_box hV7 HX_7.out (show (w.heap.size) ≠ (V.heap.size) by omega))
  have HR_8 := Lib.hid (pt_box hV7 HR_7.out (show (w.heap.size + 1) ≠ (V.heap.size) by omega))
  have HY_8 := Lib.hid (show Box V7 (V.heap.size) [.int .i64 k.zone, .int .i64 k.epoch, .int .i64 k.kind, .int .i64 k.time, .int .i64 k.until_, .int .i64 k.count, .int .i64 k.root, .int .i64 k.prev, .slice D0 n0 e0, .int .i64 k.keys.need, .slice D1 n1 e1, .int .i64 k.heirs.need, .int .i64 k.wait, .slice D2 n2 e2, .int .i64 k.judge.need, .bool k.frozen] from pt_self hV7 HY_7.out (by simp))
  have HP0_8 := Lib.hid (pt_own hV7 HP0_7.out (show (V.heap.size) < V2.heap.size by omega))
  have HP1_8 := Lib.hid (pt_own hV7 HP1_7.out (show (V.heap.size) < V2.heap.size by omega))
  have HP2_8 := Lib.hid (pt_own hV7 HP2_7.out (show (V.heap.size) < V2.heap.size by omega))
  have HV7 := Lib.hid hV7
  clear hV7
  have hsV7 : W2.heap.size ≤ V7.heap.size := by rw [← HV7.out]; exact Nat.le_of_eq (puts_size _ _).symm
  obtain ⟨VF, hVF⟩ : ∃ u9, puts V7 (w.heap.size + 1) 0 [.int .i64 k.zone, .int .i64 k.epoch, .int .i64 k.kind, .int .i64 k.time, .int .i64 k.until_, .int .i64 k.count, .int .i64 k.root, .int .i64 k.prev, .slice D0 n0 e0, .int .i64 k.keys.need, .slice D1 n1 e1, .int .i64 k.heirs.need, .int .i64 k.wait, .slice D2 n2 e2, .int .i64 k.judge.need, .bool k.frozen] = u9 := ⟨_, rfl⟩
  have HB_9 := Lib.hid (pt_bel hVF HB_8.out (show w.heap.size ≤ (w.heap.size + 1) by omega))
  have HX_9 := Lib.hid (pt_box hVF HX_8.out (show (w.heap.size) ≠ (w.heap.size + 1) by omega))
  have HR_9 := Lib.hid (show Box VF (w.heap.size + 1) [.int .i64 k.zone, .int .i64 k.epoch, .int .i64 k.kind, .int .i64 k.time, .int .i64 k.until_, .int .i64 k.count, .int .i64 k.root, .int .i64 k.prev, .slice D0 n0 e0, .int .i64 k.keys.need, .slice D1 n1 e1, .int .i64 k.heirs.need, .int .i64 k.wait, .slice D2 n2 e2, .int .i64 k.judge.need, .bool k.frozen] from (show Box VF (w.heap.size + 1) ([] ++ [.int .i64 k.zone, .int .i64 k.epoch, .int .i64 k.kind, .int .i64 k.time, .int .i64 k.until_, .int .i64 k.count, .int .i64 k.root, .int .i64 k.prev, .slice D0 n0 e0, .int .i64 k.keys.need, .slice D1 n1 e1, .int .i64 k.heirs.need, .int .i64 k.wait, .slice D2 n2 e2, .int .i64 k.judge.need, .bool k.frozen] ++ []) from pt_mid hVF (show Box V7 (w.heap.size + 1) ([] ++ [.int .i64 0, .int .i64 0, .int .i64 0, .int .i64 0, .int .i64 0, .int .i64 0, .int .i64 0, .int .i64 0, .slice none 0 0, .int .i64 0, .slice none 0 0, .int .i64 0, .int .i64 0, .slice none 0 0, .int .i64 0, .bool false] ++ []) from HR_8.out) rfl rfl))
  have HY_9 := Lib.hid (pt_box hVF HY_8.out (show (V.heap.size) ≠ (w.heap.size + 1) by omega))
  have HP0_9 := Lib.hid (pt_own hVF HP0_8.out (show (w.heap.size + 1) < V2.heap.size by omega))
  have HP1_9 := Lib.hid (pt_own hVF HP1_8.out (show (w.heap.size + 1) < V2.heap.size by omega))
  have HP2_9 := Lib.hid (pt_own hVF HP2_8.out (show (w.heap.size + 1) < V2.heap.size by omega))
  have HVF := Lib.hid hVF
  clear hVF
  have hsVF : V7.heap.size ≤ VF.heap.size := by rw [← HVF.out]; exact Nat.le_of_eq (puts_size _ _).symm
  go_wp2_with (first | (rw [show (W2.setCell ⟨V.heap.size, 13, none⟩ (.slice D2 n2 e2)).setCell ⟨V.heap.size, 14, none⟩ (.int .i64 k.judge.need) = V7 from HV7.out]; refine LD.wp_ld LD.big_Head rfl _ rfl rfl HY_8.out rfl ?_) | (refine LD.wp_stV LD.big_Head rfl _ _ rfl rfl rfl HR_8.out rfl (by decide) rfl HVF.out ?_))
  clear zY0 fY0 zY1 fY1 zY2 fY2 zY3 fY3 zY4 fY4 zY5 fY5 zY6 fY6 zY7 fY7 zY8 fY8 zY9 fY9 zY10 fY10 zY11 fY11 zY12 fY12 zY13 fY13 zY14 fY14 zY15 fY15
  refine bodyPost_ret (v := .agg #[.int .i64 k.zone, .int .i64 k.epoch, .int .i64 k.kind, .int .i64 k.time, .int .i64 k.until_, .int .i64 k.count, .int .i64 k.root, .int .i64 k.prev, .slice D0 n0 e0, .int .i64 k.keys.need, .slice D1 n1 e1, .int .i64 k.heirs.need, .int .i64 k.wait, .slice D2 n2 e2, .int .i64 k.judge.need, .bool k.frozen]) (LD.res_cell LD.big_Head Try.results39 rfl HR_9.out rfl) rfl ⟨[.int .i64 k.zone, .int .i64 k.epoch, .int .i64 k.kind, .int .i64 k.time, .int .i64 k.until_, .int .i64 k.count, .int .i64 k.root, .int .i64 k.prev, .slice D0 n0 e0, .int .i64 k.keys.need, .slice D1 n1 e1, .int .i64 k.heirs.need, .int .i64 k.wait, .slice D2 n2 e2, .int .i64 k.judge.need, .bool k.frozen], rfl, head_own rfl ⟨i1, i2, i3, i4, i5, i6, i7, i8, i9⟩ HP0_9.out.1 HP1_9.out.1 HP2_9.out.1 ?_, HB_9.out⟩
  omega
end Go.Proofs.Ythhmhcmlbpdlbaa.L13
