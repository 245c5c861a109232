/- Chapter 13: heads: what the model's functions return. -/
import Derived.Test.YthhmhcmlbpdlbaaM13
import Derived.Test.YthhmhcmlbpdlbaaC06S
import Derived.Test.YthhmhcmlbpdlbaaLD
import Derived.Test.YthhmhcmlbpdlbaaRKA
namespace Go.Proofs.Ythhmhcmlbpdlbaa.C13S
open Go.RowKit Mem MemS Rep R06 R13 M03 M06 M13 C01 C03S C03H C03D C06S BX RG RGS
open RKA hiding inI64
set_option linter.unusedVariables false
set_option linter.unusedSimpArgs false
set_option maxRecDepth 100000
theorem upK {w w' : World} {cs : List Value} {k : Keys} (h : RKeys.rd w (Lt w.heap.size) cs k) (hb : Below w.heap.size w w') : RKeys.rd w' (Lt w'.heap.size) cs k := RKeys.more (RKeys.keep h fun i hi => hb.block i hi) fun i hi => Nat.lt_of_lt_of_le hi hb.size
theorem upH {w w' : World} {cs : List Value} {k : Head} (h : RHead.rd w (Lt w.heap.size) cs k) (hb : Below w.heap.size w w') : RHead.rd w' (Lt w'.heap.size) cs k := RHead.more (RHead.keep h fun i hi => hb.block i hi) fun i hi => Nat.lt_of_lt_of_le hi hb.size
/-- what a head's cells are, part by part -/
theorem head_parts {w : World} {B : Nat} {cs : List Value} {k : Head} (h : RHead.rd w (Lt B) cs k) : ∃ A0 n0 c0 A1 n1 c1 A2 n2 c2, cs = [.int .i64 k.zone, .int .i64 k.epoch, .int .i64 k.kind, .int .i64 k.time, .int .i64 k.until_, .int .i64 k.count, .int .i64 k.root, .int .i64 k.prev, .slice A0 n0 c0, .int .i64 k.keys.need, .slice A1 n1 c1, .int .i64 k.heirs.need, .int .i64 k.wait, .slice A2 n2 c2, .int .i64 k.judge.need, .bool k.frozen] ∧ (In .i64 k.zone ∧ In .i64 k.epoch ∧ In .i64 k.kind ∧ In .i64 k.time ∧ In .i64 k.until_ ∧ In .i64 k.count ∧ In .i64 k.root ∧ In .i64 k.prev ∧ In .i64 k.wait) ∧
    RKeys.rd w (Lt B) [.slice A0 n0 c0, .int .i64 k.keys.need] k.keys ∧ RKeys.rd w (Lt B) [.slice A1 n1 c1, .int .i64 k.heirs.need] k.heirs ∧ RKeys.rd w (Lt B) [.slice A2 n2 c2, .int .i64 k.judge.need] k.judge := by
  obtain ⟨A0, n0, c0, A1, n1, c1, A2, n2, c2, rfl, a1, a2, a3, a4, a5, a6, a7, a8, b1, b2, a9, b3⟩ := RHead_rd.1 h
  exact ⟨A0, n0, c0, A1, n1, c1, A2, n2, c2, rfl, ⟨a1, a2, a3, a4, a5, a6, a7, a8, a9⟩, b1, b2, b3⟩
theorem eq_frozen (a b : Head) : (eqHd a b && (a.frozen == b.frozen)) = eqHd a b := by
  cases h : eqHd a b
  · rfl
  · rw [eqHd_iff.1 h]; simp
theorem sNoKeys_any (cs : List Value) (k : Keys) (w : World) (h : RKeys.rd w (Lt w.heap.size) cs k) :
    Calls Try.prog 74 #[.agg cs.toArray] w fun e w' => e = .returned (.bool (noK k)) ∧ Below w.heap.size w w' := by
  obtain ⟨A, n, c, rfl, h1, h2, h3, h4⟩ := RKeys_rd.1 h
  have hl := h3.len
  unfold noK
  rw [hl]
  obtain ⟨l, kn⟩ := k
  simp only
  clear h h3 h4 hl
  have hq : ((n : Int) == 0) = decide (n = 0) := by
    by_cases g : n = 0
    · subst g; rfl
    · rw [decide_eq_false g, beq_eq_false_iff_ne]; omega
  by_cases hk : kn = 0
  all_goals
    go_enter Try.func74, Try.ntmps74
    go_wp2
    go_ret
    exact ⟨by first | rfl | (simp [hk]; done) | (simp [hk, hq]; done) | (subst hk; simp [hq]), (Below.refl _ _).alloc (Nat.le_refl _) _⟩
set_option maxHeartbeats 4000000 in
theorem sHeadInts_any (cs : List Value) (k : Head) (w : World) (h : RHead.rd w (Lt w.heap.size) cs k) (hn : totHead k ≤ 1048576) :
    Calls Try.prog 41 #[.agg cs.toArray] w fun e w' => ∃ A' c', e = .returned (.slice A' (headInts k).length c') ∧ Mem.Own .i64 w' w.heap.size w'.heap.size A' (headInts k).length c' (headInts k) ∧ Below w.heap.size w w' := by
  obtain ⟨A0, n0, c0, A1, n1, c1, A2, n2, c2, rfl, ⟨i1, i2, i3, i4, i5, i6, i7, i8, i9⟩, h1, h2, h3⟩ := head_parts h
  have hlen := headInts_len k
  unfold totHead totKeys at hn
  have HK0 := Lib.hid (fun w1 (hb : Below w.heap.size w w1) => sKeysInts_any [.slice A0 n0 c0, .int .i64 k.keys.need] k.keys w1 (upK h1 hb) (by omega))
  have HK1 := Lib.hid (fun w1 (hb : Below w.heap.size w w1) => sKeysInts_any [.slice A1 n1 c1, .int .i64 k.heirs.need] k.heirs w1 (upK h2 hb) (by omega))
  have HK2 := Lib.hid (fun w1 (hb : Below w.heap.size w w1) => sKeysInts_any [.slice A2 n2 c2, .int .i64 k.judge.need] k.judge w1 (upK h3 hb) (by omega))
  have HLIT := Lib.hid (show ∀ z ∈ [k.zone, k.epoch, k.kind, k.time, k.until_, k.count, k.root, k.prev], In .i64 z from fun z hz => by
    simp only [List.mem_cons, List.not_mem_nil, or_false] at hz
    rcases hz with rfl | rfl | rfl | rfl | rfl | rfl | rfl | rfl <;> assumption)
  have HW9 := Lib.hid i9
  have HF := Lib.hid (show headInts k = [k.zone, k.epoch, k.kind, k.time, k.until_, k.count, k.root, k.prev] ++ keysInts k.keys ++ keysInts k.heirs ++ [k.wait] ++ keysInts k.judge ++ [if k.frozen then 1 else 0] from rfl)
  rw [hlen]
  obtain ⟨m0, hm0⟩ : ∃ m : Nat, m = k.keys.list.length := ⟨_, rfl⟩
  obtain ⟨m1, hm1⟩ : ∃ m : Nat, m = k.heirs.list.length := ⟨_, rfl⟩
  obtain ⟨m2, hm2⟩ : ∃ m : Nat, m = k.judge.list.length := ⟨_, rfl⟩
  rw [← hm0] at HK0 hn
  rw [← hm1] at HK1 hn
  rw [← hm2] at HK2 hn
  rw [← hm0, ← hm1, ← hm2]
  clear h h1 h2 h3 i1 i2 i3 i4 i5 i6 i7 i8 i9 hlen hm0 hm1 hm2
  generalize keysInts k.keys = z0 at HK0 HF
  generalize keysInts k.heirs = z1 at HK1 HF
  generalize keysInts k.judge = z2 at HK2 HF
  generalize headInts k = zz at HF ⊢
  obtain ⟨V, hV⟩ : ∃ V, V = (w.alloc (.cells #[.int .i64 k.zone, .int .i64 k.epoch, .int .i64 k.kind, .int .i64 k.time, .int .i64 k.until_, .int .i64 k.count, .int .i64 k.root, .int .i64 k.prev, .slice A0 n0 c0, .int .i64 k.keys.need, .slice A1 n1 c1, .int .i64 k.heirs.need, .int .i64 k.wait, .slice A2 n2 c2, .int .i64 k.judge.need, .bool k.frozen] 35)).alloc (.cells #[.int .i64 k.zone, .int .i64 k.epoch, .int .i64 k.kind, .int .i64 k.time, .int .i64 k.until_, .int .i64 k.count, .int .i64 k.root, .int .i64 k.prev] 3) := ⟨_, rfl⟩
  have HB_1 := Lib.hid (show Below w.heap.size w V from by rw [hV]; exact ((Below.refl _ _).alloc (Nat.le_refl _) _).alloc (by simp) _)
  have HX_1 := Lib.hid (show Box V w.heap.size [.int .i64 k.zone, .int .i64 k.epoch, .int .i64 k.kind, .int .i64 k.time, .int .i64 k.until_, .int .i64 k.count, .int .i64 k.root, .int .i64 k.prev, .slice A0 n0 c0, .int .i64 k.keys.need, .slice A1 n1 c1, .int .i64 k.heirs.need, .int .i64 k.wait, .slice A2 n2 c2, .int .i64 k.judge.need, .bool k.frozen] from by rw [hV]; exact (Box.new w #[.int .i64 k.zone, .int .i64 k.epoch, .int .i64 k.kind, .int .i64 k.time, .int .i64 k.until_, .int .i64 k.count, .int .i64 k.root, .int .i64 k.prev, .slice A0 n0 c0, .int .i64 k.keys.need, .slice A1 n1 c1, .int .i64 k.heirs.need, .int .i64 k.wait, .slice A2 n2 c2, .int .i64 k.judge.need, .bool k.frozen] 35).alloc _)
  have HO_1 := Lib.hid (show Mem.Own .i64 V (w.heap.size + 1) V.heap.size (some ⟨w.heap.size + 1, 0, none⟩) 8 8 [ k.zone,  k.epoch,  k.kind,  k.time,  k.until_,  k.count,  k.root,  k.prev] from by
    rw [hV]
    exact (own_lit .i64 (w.alloc (.cells #[.int .i64 k.zone, .int .i64 k.epoch, .int .i64 k.kind, .int .i64 k.time, .int .i64 k.until_, .int .i64 k.count, .int .i64 k.root, .int .i64 k.prev, .slice A0 n0 c0, .int .i64 k.keys.need, .slice A1 n1 c1, .int .i64 k.heirs.need, .int .i64 k.wait, .slice A2 n2 c2, .int .i64 k.judge.need, .bool k.frozen] 35)) (b := w.heap.size + 1) (cs := #[.int .i64 k.zone, .int .i64 k.epoch, .int .i64 k.kind, .int .i64 k.time, .int .i64 k.until_, .int .i64 k.count, .int .i64 k.root, .int .i64 k.prev]) (ty := 3) (zs := [ k.zone,  k.epoch,  k.kind,  k.time,  k.until_,  k.count,  k.root,  k.prev]) (n := 8) (lo := w.heap.size + 1) (by simp) rfl rfl rfl HLIT.out (by simp) (by simp [maxLen])).top)
  have HV := Lib.hid hV
  clear hV
  go_enter Try.func41, Try.ntmps41
  go_wp2_with fail
  rw [show (w.alloc (.cells #[.int .i64 k.zone, .int .i64 k.epoch, .int .i64 k.kind, .int .i64 k.time, .int .i64 k.until_, .int .i64 k.count, .int .i64 k.root, .int .i64 k.prev, .slice A0 n0 c0, .int .i64 k.keys.need, .slice A1 n1 c1, .int .i64 k.heirs.need, .int .i64 k.wait, .slice A2 n2 c2, .int .i64 k.judge.need, .bool k.frozen] 35)).alloc (.cells #[.int .i64 k.zone, .int .i64 k.epoch, .int .i64 k.kind, .int .i64 k.time, .int .i64 k.until_, .int .i64 k.count, .int .i64 k.root, .int .i64 k.prev] 3) = V from HV.out.symm]
  refine (HK0.out _ HB_1.out).mono ?_
  rintro e W1a ⟨B0, d0, rfl, ho, hb⟩
  have HO_2 := Lib.hid ((HO_1.out.below hb (Nat.le_refl _)).top)
  have HB_2 := Lib.hid (HB_1.out.trans (hb.mono HB_1.out.size))
  have HX_2 := Lib.hid (HX_1.out.below hb HX_1.out.lt)
  have HM0 := Lib.hid ho.rd
  clear ho hb
  have zX0 := HX_2.out.cell (j := 0) rfl
  have zX1 := HX_2.out.cell (j := 1) rfl
  have zX2 := HX_2.out.cell (j := 2) rfl
  have zX3 := HX_2.out.cell (j := 3) rfl
  have zX4 := HX_2.out.cell (j := 4) rfl
  have zX5 := HX_2.out.cell (j := 5) rfl
  have zX6 := HX_2.out.cell (j := 6) rfl
  have zX7 := HX_2.out.cell (j := 7) rfl
  have zX8 := HX_2.out.cell (j := 8) rfl
  have zX9 := HX_2.out.cell (j := 9) rfl
  have zX10 := HX_2.out.cell (j := 10) rfl
  have zX11 := HX_2.out.cell (j := 11) rfl
  have zX12 := HX_2.out.cell (j := 12) rfl
  have zX13 := HX_2.out.cell (j := 13) rfl
  have zX14 := HX_2.out.cell (j := 14) rfl
  have zX15 := HX_2.out.cell (j := 15) rfl
  have hlo2 : w.heap.size + 1 ≤ W1a.heap.size := HX_2.out.lt
  go_wp2_with (first
    | (at_builtin; refine wp_app (k := .i64) (by unfold BI; decide) rfl _ _ rfl rfl HO_2.out rfl HM0.out (by omega) hlo2 ?_; intro AW1 cW1 W1 hown hgr; have hkx := HX_2.out.keep (RepA.Gr.kept hgr HX_2.out.lt (fun a e => by have := HO_2.out.ge a e; omega)); have hkb := HB_2.out.trans (hgr.below HB_2.out.size (fun a e => by have := HO_2.out.ge a e; omega)); have HX_3 := Lib.hid hkx; have HB_3 := Lib.hid hkb; have HO_3 := Lib.hid hown; have hlo3 : w.heap.size + 1 ≤ W1.heap.size := HX_3.out.lt; have y3_0 := HX_3.out.cell (j := 0) rfl; have y3_1 := HX_3.out.cell (j := 1) rfl; have y3_2 := HX_3.out.cell (j := 2) rfl; have y3_3 := HX_3.out.cell (j := 3) rfl; have y3_4 := HX_3.out.cell (j := 4) rfl; have y3_5 := HX_3.out.cell (j := 5) rfl; have y3_6 := HX_3.out.cell (j := 6) rfl; have y3_7 := HX_3.out.cell (j := 7) rfl; have y3_8 := HX_3.out.cell (j := 8) rfl; have y3_9 := HX_3.out.cell (j := 9) rfl; have y3_10 := HX_3.out.cell (j := 10) rfl; have y3_11 := HX_3.out.cell (j := 11) rfl; have y3_12 := HX_3.out.cell (j := 12) rfl; have y3_13 := HX_3.out.cell (j := 13) rfl; have y3_14 := HX_3.out.cell (j := 14) rfl; have y3_15 := HX_3.out.cell (j := 15) rfl; clear hown hgr hkx hkb))
  clear zX0 zX1 zX2 zX3 zX4 zX5 zX6 zX7 zX8 zX9 zX10 zX11 zX12 zX13 zX14 zX15 y3_0 y3_1 y3_2 y3_3 y3_4 y3_5 y3_6 y3_7 y3_8 y3_9 y3_10 y3_11 y3_12 y3_13 y3_14 y3_15
  refine (HK1.out _ HB_3.out).mono ?_
  rintro e W2a ⟨B1, d1, rfl, ho, hb⟩
  have HO_4 := Lib.hid ((HO_3.out.below hb (Nat.le_refl _)).top)
  have HB_4 := Lib.hid (HB_3.out.trans (hb.mono HB_3.out.size))
  have HX_4 := Lib.hid (HX_3.out.below hb HX_3.out.lt)
  have HM1 := Lib.hid ho.rd
  clear ho hb
  have zX0 := HX_4.out.cell (j := 0) rfl
  have zX1 := HX_4.out.cell (j := 1) rfl
  have zX2 := HX_4.out.cell (j := 2) rfl
  have zX3 := HX_4.out.cell (j := 3) rfl
  have zX4 := HX_4.out.cell (j := 4) rfl
  have zX5 := HX_4.out.cell (j := 5) rfl
  have zX6 := HX_4.out.cell (j := 6) rfl
  have zX7 := HX_4.out.cell (j := 7) rfl
  have zX8 := HX_4.out.cell (j := 8) rfl
  have zX9 := HX_4.out.cell (j := 9) rfl
  have zX10 := HX_4.out.cell (j := 10) rfl
  have zX11 := HX_4.out.cell (j := 11) rfl
  have zX12 := HX_4.out.cell (j := 12) rfl
  have zX13 := HX_4.out.cell (j := 13) rfl
  have zX14 := HX_4.out.cell (j := 14) rfl
  have zX15 := HX_4.out.cell (j := 15) rfl
  have hlo4 : w.heap.size + 1 ≤ W2a.heap.size := HX_4.out.lt
  go_wp2_with (first
    | (at_builtin; refine wp_app (k := .i64) (by unfold BI; decide) rfl _ _ rfl rfl HO_4.out rfl HM1.out (by omega) hlo4 ?_; intro AW2 cW2 W2 hown hgr; have hkx := HX_4.out.keep (RepA.Gr.kept hgr HX_4.out.lt (fun a e => by have := HO_4.out.ge a e; omega)); have hkb := HB_4.out.trans (hgr.below HB_4.out.size (fun a e => by have := HO_4.out.ge a e; omega)); have HX_5 := Lib.hid hkx; have HB_5 := Lib.hid hkb; have HO_5 := Lib.hid hown; have hlo5 : w.heap.size + 1 ≤ W2.heap.size := HX_5.out.lt; have y5_0 := HX_5.out.cell (j := 0) rfl; have y5_1 := HX_5.out.cell (j := 1) rfl; have y5_2 := HX_5.out.cell (j := 2) rfl; have y5_3 := HX_5.out.cell (j := 3) rfl; have y5_4 := HX_5.out.cell (j := 4) rfl; have y5_5 := HX_5.out.cell (j := 5) rfl; have y5_6 := HX_5.out.cell (j := 6) rfl; have y5_7 := HX_5.out.cell (j := 7) rfl; have y5_8 := HX_5.out.cell (j := 8) rfl; have y5_9 := HX_5.out.cell (j := 9) rfl; have y5_10 := HX_5.out.cell (j := 10) rfl; have y5_11 := HX_5.out.cell (j := 11) rfl; have y5_12 := HX_5.out.cell (j := 12) rfl; have y5_13 := HX_5.out.cell (j := 13) rfl; have y5_14 := HX_5.out.cell (j := 14) rfl; have y5_15 := HX_5.out.cell (j := 15) rfl; clear hown hgr hkx hkb)
    | (at_builtin; have HO2 := Lib.hid (HO_5.out.alloc (.cells #[.int .i64 k.wait] 3)); have HX2 := Lib.hid (HX_5.out.alloc (.cells #[.int .i64 k.wait] 3)); have HB2 := Lib.hid (HB_5.out.alloc HB_5.out.size (.cells #[.int .i64 k.wait] 3)); refine wp_app (k := .i64) (by unfold BI; decide) rfl _ _ rfl rfl HO2.out rfl (rd_new .i64 W2 HW9.out) (by omega) (by rw [World.size_alloc]; omega) ?_; intro AW3 cW3 W3 hown hgr; have hkx := HX2.out.keep (RepA.Gr.kept hgr HX2.out.lt (fun a e => by have := HO2.out.ge a e; omega)); have hkb := HB2.out.trans (hgr.below HB2.out.size (fun a e => by have := HO2.out.ge a e; omega)); have HX_6 := Lib.hid hkx; have HB_6 := Lib.hid hkb; have HO_6 := Lib.hid hown; have hlo6 : w.heap.size + 1 ≤ W3.heap.size := HX_6.out.lt; have y6_0 := HX_6.out.cell (j := 0) rfl; have y6_1 := HX_6.out.cell (j := 1) rfl; have y6_2 := HX_6.out.cell (j := 2) rfl; have y6_3 := HX_6.out.cell (j := 3) rfl; have y6_4 := HX_6.out.cell (j := 4) rfl; have y6_5 := HX_6.out.cell (j := 5) rfl; have y6_6 := HX_6.out.cell (j := 6) rfl; have y6_7 := HX_6.out.cell (j := 7) rfl; have y6_8 := HX_6.out.cell (j := 8) rfl; have y6_9 := HX_6.out.cell (j := 9) rfl; have y6_10 := HX_6.out.cell (j := 10) rfl; have y6_11 := HX_6.out.cell (j := 11) rfl; have y6_12 := HX_6.out.cell (j := 12) rfl; have y6_13 := HX_6.out.cell (j := 13) rfl; have y6_14 := HX_6.out.cell (j := 14) rfl; have y6_15 := HX_6.out.cell (j := 15) rfl; clear hown hgr hkx hkb; clear HO2 HX2 HB2))
  clear zX0 zX1 zX2 zX3 zX4 zX5 zX6 zX7 zX8 zX9 zX10 zX11 zX12 zX13 zX14 zX15 y5_0 y5_1 y5_2 y5_3 y5_4 y5_5 y5_6 y5_7 y5_8 y5_9 y5_10 y5_11 y5_12 y5_13 y5_14 y5_15 y6_0 y6_1 y6_2 y6_3 y6_4 y6_5 y6_6 y6_7 y6_8 y6_9 y6_10 y6_11 y6_12 y6_13 y6_14 y6_15
  refine (HK2.out _ HB_6.out).mono ?_
  rintro e W4a ⟨B2, d2, rfl, ho, hb⟩
  have HO_7 := Lib.hid ((HO_6.out.below hb (Nat.le_refl _)).top)
  have HB_7 := Lib.hid (HB_6.out.trans (hb.mono HB_6.out.size))
  have HX_7 := Lib.hid (HX_6.out.below hb HX_6.out.lt)
  have HM2 := Lib.hid ho.rd
  clear ho hb
  rcases hf : k.frozen with _ | _
  · skip
    rw [hf] at HX_7 HF
    have zX0 := HX_7.out.cell (j := 0) rfl
    have zX1 := HX_7.out.cell (j := 1) rfl
    have zX2 := HX_7.out.cell (j := 2) rfl
    have zX3 := HX_7.out.cell (j := 3) rfl
    have zX4 := HX_7.out.cell (j := 4) rfl
    have zX5 := HX_7.out.cell (j := 5) rfl
    have zX6 := HX_7.out.cell (j := 6) rfl
    have zX7 := HX_7.out.cell (j := 7) rfl
    have zX8 := HX_7.out.cell (j := 8) rfl
    have zX9 := HX_7.out.cell (j := 9) rfl
    have zX10 := HX_7.out.cell (j := 10) rfl
    have zX11 := HX_7.out.cell (j := 11) rfl
    have zX12 := HX_7.out.cell (j := 12) rfl
    have zX13 := HX_7.out.cell (j := 13) rfl
    have zX14 := HX_7.out.cell (j := 14) rfl
    have zX15 := HX_7.out.cell (j := 15) rfl
    have hlo7 : w.heap.size + 1 ≤ W4a.heap.size := HX_7.out.lt
    go_wp2_with (first
      | (at_builtin; refine wp_app (k := .i64) (by unfold BI; decide) rfl _ _ rfl rfl HO_7.out rfl HM2.out (by omega) hlo7 ?_; intro AW4 cW4 W4 hown hgr; have hkx := HX_7.out.keep (RepA.Gr.kept hgr HX_7.out.lt (fun a e => by have := HO_7.out.ge a e; omega)); have hkb := HB_7.out.trans (hgr.below HB_7.out.size (fun a e => by have := HO_7.out.ge a e; omega)); have HX_8 := Lib.hid hkx; have HB_8 := Lib.hid hkb; have HO_8 := Lib.hid hown; have hlo8 : w.heap.size + 1 ≤ W4.heap.size := HX_8.out.lt; have y8_0 := HX_8.out.cell (j := 0) rfl; have y8_1 := HX_8.out.cell (j := 1) rfl; have y8_2 := HX_8.out.cell (j := 2) rfl; have y8_3 := HX_8.out.cell (j := 3) rfl; have y8_4 := HX_8.out.cell (j := 4) rfl; have y8_5 := HX_8.out.cell (j := 5) rfl; have y8_6 := HX_8.out.cell (j := 6) rfl; have y8_7 := HX_8.out.cell (j := 7) rfl; have y8_8 := HX_8.out.cell (j := 8) rfl; have y8_9 := HX_8.out.cell (j := 9) rfl; have y8_10 := HX_8.out.cell (j := 10) rfl; have y8_11 := HX_8.out.cell (j := 11) rfl; have y8_12 := HX_8.out.cell (j := 12) rfl; have y8_13 := HX_8.out.cell (j := 13) rfl; have y8_14 := HX_8.out.cell (j := 14) rfl; have y8_15 := HX_8.out.cell (j := 15) rfl; clear hown hgr hkx hkb)
      | (at_builtin; have HO2 := Lib.hid (HO_8.out.alloc (.cells #[.int .i64 0] 3)); have HX2 := Lib.hid (HX_8.out.alloc (.cells #[.int .i64 0] 3)); have HB2 := Lib.hid (HB_8.out.alloc HB_8.out.size (.cells #[.int .i64 0] 3)); refine wp_app (k := .i64) (by unfold BI; decide) rfl _ _ rfl rfl HO2.out rfl (rd_new .i64 W4 (inI64 (z := 0) (by omega) (by omega))) (by omega) (by rw [World.size_alloc]; omega) ?_; intro AW5 cW5 W5 hown hgr; have hkx := HX2.out.keep (RepA.Gr.kept hgr HX2.out.lt (fun a e => by have := HO2.out.ge a e; omega)); have hkb := HB2.out.trans (hgr.below HB2.out.size (fun a e => by have := HO2.out.ge a e; omega)); have HX_9 := Lib.hid hkx; have HB_9 := Lib.hid hkb; have HO_9 := Lib.hid hown; have hlo9 : w.heap.size + 1 ≤ W5.heap.size := HX_9.out.lt; have y9_0 := HX_9.out.cell (j := 0) rfl; have y9_1 := HX_9.out.cell (j := 1) rfl; have y9_2 := HX_9.out.cell (j := 2) rfl; have y9_3 := HX_9.out.cell (j := 3) rfl; have y9_4 := HX_9.out.cell (j := 4) rfl; have y9_5 := HX_9.out.cell (j := 5) rfl; have y9_6 := HX_9.out.cell (j := 6) rfl; have y9_7 := HX_9.out.cell (j := 7) rfl; have y9_8 := HX_9.out.cell (j := 8) rfl; have y9_9 := HX_9.out.cell (j := 9) rfl; have y9_10 := HX_9.out.cell (j := 10) rfl; have y9_11 := HX_9.out.cell (j := 11) rfl; have y9_12 := HX_9.out.cell (j := 12) rfl; have y9_13 := HX_9.out.cell (j := 13) rfl; have y9_14 := HX_9.out.cell (j := 14) rfl; have y9_15 := HX_9.out.cell (j := 15) rfl; clear hown hgr hkx hkb; clear HO2 HX2 HB2))
    rw [show 16 + m0 + m1 + m2 = 8 + (m0 + 2) + (m1 + 2) + 1 + (m2 + 2) + 1 by omega]
    go_ret
    exact ⟨AW5, cW5, rfl, by rw [HF.out]; exact HO_9.out.base (by omega), HB_9.out⟩
  · skip
    rw [hf] at HX_7 HF
    have zX0 := HX_7.out.cell (j := 0) rfl
    have zX1 := HX_7.out.cell (j := 1) rfl
    have zX2 := HX_7.out.cell (j := 2) rfl
    have zX3 := HX_7.out.cell (j := 3) rfl
    have zX4 := HX_7.out.cell (j := 4) rfl
    have zX5 := HX_7.out.cell (j := 5) rfl
    have zX6 := HX_7.out.cell (j := 6) rfl
    have zX7 := HX_7.out.cell (j := 7) rfl
    have zX8 := HX_7.out.cell (j := 8) rfl
    have zX9 := HX_7.out.cell (j := 9) rfl
    have zX10 := HX_7.out.cell (j := 10) rfl
    have zX11 := HX_7.out.cell (j := 11) rfl
    have zX12 := HX_7.out.cell (j := 12) rfl
    have zX13 := HX_7.out.cell (j := 13) rfl
    have zX14 := HX_7.out.cell (j := 14) rfl
    have zX15 := HX_7.out.cell (j := 15) rfl
    have hlo7 : w.heap.size + 1 ≤ W4a.heap.size := HX_7.out.lt
    go_wp2_with (first
      | (at_builtin; refine wp_app (k := .i64) (by unfold BI; decide) rfl _ _ rfl rfl HO_7.out rfl HM2.out (by omega) hlo7 ?_; intro AW4 cW4 W4 hown hgr; have hkx := HX_7.out.keep (RepA.Gr.kept hgr HX_7.out.lt (fun a e => by have := HO_7.out.ge a e; omega)); have hkb := HB_7.out.trans (hgr.below HB_7.out.size (fun a e => by have := HO_7.out.ge a e; omega)); have HX_8 := Lib.hid hkx; have HB_8 := Lib.hid hkb; have HO_8 := Lib.hid hown; have hlo8 : w.heap.size + 1 ≤ W4.heap.size := HX_8.out.lt; have y8_0 := HX_8.out.cell (j := 0) rfl; have y8_1 := HX_8.out.cell (j := 1) rfl; have y8_2 := HX_8.out.cell (j := 2) rfl; have y8_3 := HX_8.out.cell (j := 3) rfl; have y8_4 := HX_8.out.cell (j := 4) rfl; have y8_5 := HX_8.out.cell (j := 5) rfl; have y8_6 := HX_8.out.cell (j := 6) rfl; have y8_7 := HX_8.out.cell (j := 7) rfl; have y8_8 := HX_8.out.cell (j := 8) rfl; have y8_9 := HX_8.out.cell (j := 9) rfl; have y8_10 := HX_8.out.cell (j := 10) rfl; have y8_11 := HX_8.out.cell (j := 11) rfl; have y8_12 := HX_8.out.cell (j := 12) rfl; have y8_13 := HX_8.out.cell (j := 13) rfl; have y8_14 := HX_8.out.cell (j := 14) rfl; have y8_15 := HX_8.out.cell (j := 15) rfl; clear hown hgr hkx hkb)
      | (at_builtin; have HO2 := Lib.hid (HO_8.out.alloc (.cells #[.int .i64 1] 3)); have HX2 := Lib.hid (HX_8.out.alloc (.cells #[.int .i64 1] 3)); have HB2 := Lib.hid (HB_8.out.alloc HB_8.out.size (.cells #[.int .i64 1] 3)); refine wp_app (k := .i64) (by unfold BI; decide) rfl _ _ rfl rfl HO2.out rfl (rd_new .i64 W4 (inI64 (z := 1) (by omega) (by omega))) (by omega) (by rw [World.size_alloc]; omega) ?_; intro AW5 cW5 W5 hown hgr; have hkx := HX2.out.keep (RepA.Gr.kept hgr HX2.out.lt (fun a e => by have := HO2.out.ge a e; omega)); have hkb := HB2.out.trans (hgr.below HB2.out.size (fun a e => by have := HO2.out.ge a e; omega)); have HX_9 := Lib.hid hkx; have HB_9 := Lib.hid hkb; have HO_9 := Lib.hid hown; have hlo9 : w.heap.size + 1 ≤ W5.heap.size := HX_9.out.lt; have y9_0 := HX_9.out.cell (j := 0) rfl; have y9_1 := HX_9.out.cell (j := 1) rfl; have y9_2 := HX_9.out.cell (j := 2) rfl; have y9_3 := HX_9.out.cell (j := 3) rfl; have y9_4 := HX_9.out.cell (j := 4) rfl; have y9_5 := HX_9.out.cell (j := 5) rfl; have y9_6 := HX_9.out.cell (j := 6) rfl; have y9_7 := HX_9.out.cell (j := 7) rfl; have y9_8 := HX_9.out.cell (j := 8) rfl; have y9_9 := HX_9.out.cell (j := 9) rfl; have y9_10 := HX_9.out.cell (j := 10) rfl; have y9_11 := HX_9.out.cell (j := 11) rfl; have y9_12 := HX_9.out.cell (j := 12) rfl; have y9_13 := HX_9.out.cell (j := 13) rfl; have y9_14 := HX_9.out.cell (j := 14) rfl; have y9_15 := HX_9.out.cell (j := 15) rfl; clear hown hgr hkx hkb; clear HO2 HX2 HB2))
    rw [show 16 + m0 + m1 + m2 = 8 + (m0 + 2) + (m1 + 2) + 1 + (m2 + 2) + 1 by omega]
    go_ret
    exact ⟨AW5, cW5, rfl, by rw [HF.out]; exact HO_9.out.base (by omega), HB_9.out⟩
set_option maxHeartbeats 4000000 in
theorem sEqualHeads_any (cs cs' : List Value) (a b : Head) (w : World) (h : RHead.rd w (Lt w.heap.size) cs a) (h' : RHead.rd w (Lt w.heap.size) cs' b) (hn : totHead a ≤ 1048576) (hm : totHead b ≤ 1048576) :
    Calls Try.prog 58 #[.agg cs.toArray, .agg cs'.toArray] w fun e w' => e = .returned (.bool (eqHd a b)) ∧ Below w.heap.size w w' := by
  obtain ⟨aA0, an0, ac0, aA1, an1, ac1, aA2, an2, ac2, rfl, -⟩ := head_parts h
  obtain ⟨bA0, bn0, bc0, bA1, bn1, bc1, bA2, bn2, bc2, rfl, -⟩ := head_parts h'
  have hla := headInts_len a
  have hl2 : (headInts a).length ≤ 2097152 := by unfold totHead totKeys at hn; omega
  have HP := Lib.hid h
  have HQ := Lib.hid h'
  have HEQ := Lib.hid (eqHd_ints a b)
  clear h h' hla
  obtain ⟨V, hV⟩ : ∃ V, V = (w.alloc (.cells #[.int .i64 a.zone, .int .i64 a.epoch, .int .i64 a.kind, .int .i64 a.time, .int .i64 a.until_, .int .i64 a.count, .int .i64 a.root, .int .i64 a.prev, .slice aA0 an0 ac0, .int .i64 a.keys.need, .slice aA1 an1 ac1, .int .i64 a.heirs.need, .int .i64 a.wait, .slice aA2 an2 ac2, .int .i64 a.judge.need, .bool a.frozen] 35)).alloc (.cells #[.int .i64 b.zone, .int .i64 b.epoch, .int .i64 b.kind, .int .i64 b.time, .int .i64 b.until_, .int .i64 b.count, .int .i64 b.root, .int .i64 b.prev, .slice bA0 bn0 bc0, .int .i64 b.keys.need, .slice bA1 bn1 bc1, .int .i64 b.heirs.need, .int .i64 b.wait, .slice bA2 bn2 bc2, .int .i64 b.judge.need, .bool b.frozen] 35) := ⟨_, rfl⟩
  have HB_1 := Lib.hid (show Below w.heap.size w V from by
    rw [hV]
    exact ((Below.refl _ _).alloc (by first | (simp; done) | (simp; omega)) _).alloc (by first | (simp; done) | (simp; omega)) _)
  have HX_1 := Lib.hid (show Box V (w.heap.size) [.int .i64 a.zone, .int .i64 a.epoch, .int .i64 a.kind, .int .i64 a.time, .int .i64 a.until_, .int .i64 a.count, .int .i64 a.root, .int .i64 a.prev, .slice aA0 an0 ac0, .int .i64 a.keys.need, .slice aA1 an1 ac1, .int .i64 a.heirs.need, .int .i64 a.wait, .slice aA2 an2 ac2, .int .i64 a.judge.need, .bool a.frozen] from by
    rw [hV]
    have := ((Box.new w #[.int .i64 a.zone, .int .i64 a.epoch, .int .i64 a.kind, .int .i64 a.time, .int .i64 a.until_, .int .i64 a.count, .int .i64 a.root, .int .i64 a.prev, .slice aA0 an0 ac0, .int .i64 a.keys.need, .slice aA1 an1 ac1, .int .i64 a.heirs.need, .int .i64 a.wait, .slice aA2 an2 ac2, .int .i64 a.judge.need, .bool a.frozen] 35).alloc (.cells #[.int .i64 b.zone, .int .i64 b.epoch, .int .i64 b.kind, .int .i64 b.time, .int .i64 b.until_, .int .i64 b.count, .int .i64 b.root, .int .i64 b.prev, .slice bA0 bn0 bc0, .int .i64 b.keys.need, .slice bA1 bn1 bc1, .int .i64 b.heirs.need, .int .i64 b.wait, .slice bA2 bn2 bc2, .int .i64 b.judge.need, .bool b.frozen] 35))
    simpa using this)
  have HY_1 := Lib.hid (show Box V (w.heap.size + 1) [.int .i64 b.zone, .int .i64 b.epoch, .int .i64 b.kind, .int .i64 b.time, .int .i64 b.until_, .int .i64 b.count, .int .i64 b.root, .int .i64 b.prev, .slice bA0 bn0 bc0, .int .i64 b.keys.need, .slice bA1 bn1 bc1, .int .i64 b.heirs.need, .int .i64 b.wait, .slice bA2 bn2 bc2, .int .i64 b.judge.need, .bool b.frozen] from by
    rw [hV]
    have := (Box.new (w.alloc (.cells #[.int .i64 a.zone, .int .i64 a.epoch, .int .i64 a.kind, .int .i64 a.time, .int .i64 a.until_, .int .i64 a.count, .int .i64 a.root, .int .i64 a.prev, .slice aA0 an0 ac0, .int .i64 a.keys.need, .slice aA1 an1 ac1, .int .i64 a.heirs.need, .int .i64 a.wait, .slice aA2 an2 ac2, .int .i64 a.judge.need, .bool a.frozen] 35)) #[.int .i64 b.zone, .int .i64 b.epoch, .int .i64 b.kind, .int .i64 b.time, .int .i64 b.until_, .int .i64 b.count, .int .i64 b.root, .int .i64 b.prev, .slice bA0 bn0 bc0, .int .i64 b.keys.need, .slice bA1 bn1 bc1, .int .i64 b.heirs.need, .int .i64 b.wait, .slice bA2 bn2 bc2, .int .i64 b.judge.need, .bool b.frozen] 35)
    simpa using this)
  have HV := Lib.hid hV
  clear hV
  have HA := Lib.hid (fun w1 (hb : Below w.heap.size w w1) => sHeadInts_any _ a w1 (upH HP.out hb) hn)
  have HC := Lib.hid (fun w1 (hb : Below w.heap.size w w1) => sHeadInts_any _ b w1 (upH HQ.out hb) hm)
  go_enter Try.func58, Try.ntmps58
  go_wp2_with fail
  rw [show (w.alloc (.cells #[.int .i64 a.zone, .int .i64 a.epoch, .int .i64 a.kind, .int .i64 a.time, .int .i64 a.until_, .int .i64 a.count, .int .i64 a.root, .int .i64 a.prev, .slice aA0 an0 ac0, .int .i64 a.keys.need, .slice aA1 an1 ac1, .int .i64 a.heirs.need, .int .i64 a.wait, .slice aA2 an2 ac2, .int .i64 a.judge.need, .bool a.frozen] 35)).alloc (.cells #[.int .i64 b.zone, .int .i64 b.epoch, .int .i64 b.kind, .int .i64 b.time, .int .i64 b.until_, .int .i64 b.count, .int .i64 b.root, .int .i64 b.prev, .slice bA0 bn0 bc0, .int .i64 b.keys.need, .slice bA1 bn1 bc1, .int .i64 b.heirs.need, .int .i64 b.wait, .slice bA2 bn2 bc2, .int .i64 b.judge.need, .bool b.frozen] 35) = V from HV.out.symm]
  obtain ⟨z5, hz5⟩ : ∃ zz : Bool, zz = (decide (headInts a = headInts b)) := ⟨_, rfl⟩
  have Hz5 := Lib.hid hz5
  clear hz5
  refine RG.region (tabP [sv (.agg #[.int .i64 a.zone, .int .i64 a.epoch, .int .i64 a.kind, .int .i64 a.time, .int .i64 a.until_, .int .i64 a.count, .int .i64 a.root, .int .i64 a.prev, .slice aA0 an0 ac0, .int .i64 a.keys.need, .slice aA1 an1 ac1, .int .i64 a.heirs.need, .int .i64 a.wait, .slice aA2 an2 ac2, .int .i64 a.judge.need, .bool a.frozen]), snums .i64 (headInts a), sv (.agg #[.int .i64 b.zone, .int .i64 b.epoch, .int .i64 b.kind, .int .i64 b.time, .int .i64 b.until_, .int .i64 b.count, .int .i64 b.root, .int .i64 b.prev, .slice bA0 bn0 bc0, .int .i64 b.keys.need, .slice bA1 bn1 bc1, .int .i64 b.heirs.need, .int .i64 b.wait, .slice bA2 bn2 bc2, .int .i64 b.judge.need, .bool b.frozen]), snums .i64 (headInts b), sv (.bool (decide (headInts a = headInts b))), sv (.bool (z5)), swhen (z5 == true) (sv (.pointer (some ⟨w.heap.size, 15, none⟩))), swhen (z5 == true) (sv (.bool (a.frozen))), swhen (z5 == true) (sv (.pointer (some ⟨w.heap.size + 1, 15, none⟩))), swhen (z5 == true) (sv (.bool (b.frozen))), swhen (z5 == true) (sv (.bool ((a.frozen) == (b.frozen)))), sv (.bool ((z5) && ((a.frozen) == (b.frozen)))), sv (.bool ((z5) && ((a.frozen) == (b.frozen))))]) (by kernel_rfl) (by kernel_rfl) (tab_keep _) ?_ ?_
  · refine steps_cons ?_ (steps_cons ?_ (steps_cons ?_ (steps_cons ?_ (steps_cons ?_ (steps_cons ?_ (steps_cons ?_ (steps_cons ?_ (steps_cons ?_ (steps_cons ?_ (steps_cons ?_ (steps_cons ?_ (steps_cons ?_ (steps_nil)))))))))))))
    · intro aa ww hA K hK
      refine free rfl ?_
      have e2 : aa.tmps.getD 2 undef = .pointer (some ⟨w.heap.size, 0, none⟩) := hA.old 2 (by kernel_rfl)
      have ldHX_1 := LD.ld_run LD.big_Head (HX_1.out.keep (hA.bel.block (w.heap.size) HX_1.out.lt)) rfl
      exact gives hK (v := .agg #[.int .i64 a.zone, .int .i64 a.epoch, .int .i64 a.kind, .int .i64 a.time, .int .i64 a.until_, .int .i64 a.count, .int .i64 a.root, .int .i64 a.prev, .slice aA0 an0 ac0, .int .i64 a.keys.need, .slice aA1 an1 ac1, .int .i64 a.heirs.need, .int .i64 a.wait, .slice aA2 an2 ac2, .int .i64 a.judge.need, .bool a.frozen]) (by simp only [execOp, Act.eval, e2, ldHX_1, Sem.run_bind, Sem.run_pure, Result.andThen_ok]) rfl
    · intro aa ww hA K hK
      refine free rfl ?_
      have e5 : aa.tmps.getD 5 undef = .agg #[.int .i64 a.zone, .int .i64 a.epoch, .int .i64 a.kind, .int .i64 a.time, .int .i64 a.until_, .int .i64 a.count, .int .i64 a.root, .int .i64 a.prev, .slice aA0 an0 ac0, .int .i64 a.keys.need, .slice aA1 an1 ac1, .int .i64 a.heirs.need, .int .i64 a.wait, .slice aA2 an2 ac2, .int .i64 a.judge.need, .bool a.frozen] := hA.got 0 5 (by kernel_rfl)
      refine calls hK (by simp [Act.eval, e5, go_sem]) (HA.out ww (HB_1.out.trans ((RKA.below_drew hA.bel).mono HB_1.out.size))) ?_
      rintro e w1 ⟨A9, c9, rfl, hop, hb⟩
      exact ⟨_, rfl, hb, snums_own hop⟩
    · intro aa ww hA K hK
      refine free rfl ?_
      have e3 : aa.tmps.getD 3 undef = .pointer (some ⟨w.heap.size + 1, 0, none⟩) := hA.old 3 (by kernel_rfl)
      have ldHY_1 := LD.ld_run LD.big_Head (HY_1.out.keep (hA.bel.block (w.heap.size + 1) HY_1.out.lt)) rfl
      exact gives hK (v := .agg #[.int .i64 b.zone, .int .i64 b.epoch, .int .i64 b.kind, .int .i64 b.time, .int .i64 b.until_, .int .i64 b.count, .int .i64 b.root, .int .i64 b.prev, .slice bA0 bn0 bc0, .int .i64 b.keys.need, .slice bA1 bn1 bc1, .int .i64 b.heirs.need, .int .i64 b.wait, .slice bA2 bn2 bc2, .int .i64 b.judge.need, .bool b.frozen]) (by simp only [execOp, Act.eval, e3, ldHY_1, Sem.run_bind, Sem.run_pure, Result.andThen_ok]) rfl
    · intro aa ww hA K hK
      refine free rfl ?_
      have e7 : aa.tmps.getD 7 undef = .agg #[.int .i64 b.zone, .int .i64 b.epoch, .int .i64 b.kind, .int .i64 b.time, .int .i64 b.until_, .int .i64 b.count, .int .i64 b.root, .int .i64 b.prev, .slice bA0 bn0 bc0, .int .i64 b.keys.need, .slice bA1 bn1 bc1, .int .i64 b.heirs.need, .int .i64 b.wait, .slice bA2 bn2 bc2, .int .i64 b.judge.need, .bool b.frozen] := hA.got 2 7 (by kernel_rfl)
      refine calls hK (by simp [Act.eval, e7, go_sem]) (HC.out ww (HB_1.out.trans ((RKA.below_drew hA.bel).mono HB_1.out.size))) ?_
      rintro e w1 ⟨A9, c9, rfl, hop, hb⟩
      exact ⟨_, rfl, hb, snums_own hop⟩
    · intro aa ww hA K hK
      refine free rfl ?_
      obtain ⟨A6, c6, e6, hc6, h6⟩ := hA.got 1 6 (by kernel_rfl)
      obtain ⟨A8, c8, e8, hc8, h8⟩ := hA.got 3 8 (by kernel_rfl)
      refine calls hK (by simp [Act.eval, e6, e8, go_sem]) (sEqualInts_any _ _ A6 A8 _ c6 _ c8 _ _ ww h6 h8 (by omega)) ?_
      rintro e w1 ⟨rfl, hs⟩
      exact ⟨_, rfl, (hs.below _), rfl⟩
    · intro aa ww hA K hK
      refine free rfl ?_
      have e9 : aa.tmps.getD 9 undef = .bool (decide (headInts a = headInts b)) := hA.got 4 9 (by kernel_rfl)
      exact gives hK rfl (show aa.tmps.getD 9 undef = .bool z5 from by rw [e9, Hz5.out])
    · intro aa ww hA K hK
      refine guarded (s := sv (.pointer (some ⟨w.heap.size, 15, none⟩))) rfl rfl (hA.got 5 10 (by kernel_rfl)) hK fun hB hK => ?_
      have e2 : aa.tmps.getD 2 undef = .pointer (some ⟨w.heap.size, 0, none⟩) := hA.old 2 (by kernel_rfl)
      exact gives hK (v := .pointer (some ⟨w.heap.size, 15, none⟩)) (by simp [execOp, Act.eval, e2, go_sem]) rfl
    · intro aa ww hA K hK
      refine guarded (s := sv (.bool (a.frozen))) rfl rfl (hA.got 5 10 (by kernel_rfl)) hK fun hB hK => ?_
      have e11 : aa.tmps.getD 11 undef = .pointer (some ⟨w.heap.size, 15, none⟩) := (hA.got 6 11 (by kernel_rfl)).1 hB
      have cfHX_1 := (hA.bel.cell (p := ⟨w.heap.size, 15, none⟩) HX_1.out.lt).trans (HX_1.out.cell (j := 15) rfl)
      exact gives hK (v := .bool a.frozen) (by simp [execOp, Act.eval, e11, cfHX_1, go_sem]) rfl
    · intro aa ww hA K hK
      refine guarded (s := sv (.pointer (some ⟨w.heap.size + 1, 15, none⟩))) rfl rfl (hA.got 5 10 (by kernel_rfl)) hK fun hB hK => ?_
      have e3 : aa.tmps.getD 3 undef = .pointer (some ⟨w.heap.size + 1, 0, none⟩) := hA.old 3 (by kernel_rfl)
      exact gives hK (v := .pointer (some ⟨w.heap.size + 1, 15, none⟩)) (by simp [execOp, Act.eval, e3, go_sem]) rfl
    · intro aa ww hA K hK
      refine guarded (s := sv (.bool (b.frozen))) rfl rfl (hA.got 5 10 (by kernel_rfl)) hK fun hB hK => ?_
      have e13 : aa.tmps.getD 13 undef = .pointer (some ⟨w.heap.size + 1, 15, none⟩) := (hA.got 8 13 (by kernel_rfl)).1 hB
      have cfHY_1 := (hA.bel.cell (p := ⟨w.heap.size + 1, 15, none⟩) HY_1.out.lt).trans (HY_1.out.cell (j := 15) rfl)
      exact gives hK (v := .bool b.frozen) (by simp [execOp, Act.eval, e13, cfHY_1, go_sem]) rfl
    · intro aa ww hA K hK
      refine guarded (s := sv (.bool ((a.frozen) == (b.frozen)))) rfl rfl (hA.got 5 10 (by kernel_rfl)) hK fun hB hK => ?_
      have e12 : aa.tmps.getD 12 undef = .bool (a.frozen) := (hA.got 7 12 (by kernel_rfl)).1 hB
      have e14 : aa.tmps.getD 14 undef = .bool (b.frozen) := (hA.got 9 14 (by kernel_rfl)).1 hB
      exact gives hK (v := .bool ((a.frozen) == (b.frozen))) (by simp [execOp, Act.eval, e12, e14, binOp, eqGuard, eq_bool, go_sem]) rfl
    · intro aa ww hA K hK
      refine free rfl ?_
      have e10 : aa.tmps.getD 10 undef = .bool (z5) := hA.got 5 10 (by kernel_rfl)
      rcases hq : (z5) with _ | _
      · rw [hq] at e10
        exact gives hK (v := .bool false) (by simp [execOp, Act.eval, e10, asBool, go_sem]) (show Value.bool _ = .bool _ by rw [hq]; simp)
      · have ex : aa.tmps.getD 15 undef = .bool ((a.frozen) == (b.frozen)) := (hA.got 10 15 (by kernel_rfl)).1 (by rw [hq]; rfl)
        rw [hq] at e10
        exact gives hK (v := .bool ((a.frozen) == (b.frozen))) (by simp [execOp, Act.eval, e10, ex, asBool, go_sem]) (show Value.bool _ = .bool _ by rw [hq]; simp)
    · intro aa ww hA K hK
      refine free rfl ?_
      exact gives hK rfl (hA.got 11 16 (by kernel_rfl))
  · intro a1 w1 hb hd hsz hold hgot
    have e4 : a1.tmps.getD 4 undef = .bool ((z5) && ((a.frozen) == (b.frozen))) := hgot 12 4 (by kernel_rfl)
    rename_i K9 hK9
    refine hK9 a1 w1 (wp_ret ?_)
    exact bodyPost_ret (v := .bool ((z5) && ((a.frozen) == (b.frozen)))) (by simp [results, Try.results58, go_sem]; rw [← Array.getD_eq_getD_getElem?]; exact e4) (hd.trans rfl) ⟨by rw [Hz5.out, HEQ.out]; exact congrArg _ (congrArg _ (eq_frozen a b)), HB_1.out.trans ((RKA.below_drew hb).mono HB_1.out.size)⟩
set_option maxHeartbeats 8000000 in
theorem sIsHead_any (cs : List Value) (k : Head) (w : World) (h : RHead.rd w (Lt w.heap.size) cs k) (hn : totHead k ≤ 1048576) :
    Calls Try.prog 50 #[.agg cs.toArray] w fun e w' => e = .returned (.bool (isHd k)) ∧ Below w.heap.size w w' := by
  obtain ⟨A0, n0, c0, A1, n1, c1, A2, n2, c2, rfl, ⟨i1, i2, i3, i4, i5, i6, i7, i8, i9⟩, h1, h2, h3⟩ := head_parts h
  unfold totHead totKeys at hn
  have HI := Lib.hid (fun (x a b : Int) w1 => C01.l1In_any x a b w1)
  have HK0 := Lib.hid (fun w1 (hb : Below w.heap.size w w1) => sIsKeys_any [.slice A0 n0 c0, .int .i64 k.keys.need] k.keys w1 (upK h1 hb) (by omega))
  have HK1 := Lib.hid (fun w1 (hb : Below w.heap.size w w1) => sIsKeys_any [.slice A1 n1 c1, .int .i64 k.heirs.need] k.heirs w1 (upK h2 hb) (by omega))
  have HK2 := Lib.hid (fun w1 (hb : Below w.heap.size w w1) => sIsKeys_any [.slice A2 n2 c2, .int .i64 k.judge.need] k.judge w1 (upK h3 hb) (by omega))
  have HN1 := Lib.hid (fun w1 (hb : Below w.heap.size w w1) => sNoKeys_any [.slice A1 n1 c1, .int .i64 k.heirs.need] k.heirs w1 (upK h2 hb))
  have HN2 := Lib.hid (fun w1 (hb : Below w.heap.size w w1) => sNoKeys_any [.slice A2 n2 c2, .int .i64 k.judge.need] k.judge w1 (upK h3 hb))
  have hti : -9223372036854775808 ≤ k.time ∧ k.time ≤ 9223372036854775807 := i4
  have hui : -9223372036854775808 ≤ k.until_ ∧ k.until_ ≤ 9223372036854775807 := i5
  obtain ⟨r, hr⟩ : ∃ r : Bool, isHd k = r := ⟨_, rfl⟩
  rw [hr]
  unfold isHd at hr
  have HRR := Lib.hid hr
  clear h h1 h2 h3 i1 i2 i3 i4 i5 i6 i7 i8 i9 hr hn
  obtain ⟨bk0, hbk0⟩ : ∃ x : Bool, isKeys k.keys = x := ⟨_, rfl⟩
  obtain ⟨bk1, hbk1⟩ : ∃ x : Bool, isKeys k.heirs = x := ⟨_, rfl⟩
  obtain ⟨bk2, hbk2⟩ : ∃ x : Bool, isKeys k.judge = x := ⟨_, rfl⟩
  obtain ⟨bn1, hbn1⟩ : ∃ x : Bool, noK k.heirs = x := ⟨_, rfl⟩
  obtain ⟨bn2, hbn2⟩ : ∃ x : Bool, noK k.judge = x := ⟨_, rfl⟩
  rw [hbk0] at HK0 HRR
  rw [hbk1] at HK1 HRR
  rw [hbk2] at HK2 HRR
  rw [hbn1] at HN1 HRR
  rw [hbn2] at HN2 HRR
  clear hbk0 hbk1 hbk2 hbn1 hbn2
  obtain ⟨V, hV⟩ : ∃ V, V = w.alloc (.cells #[.int .i64 k.zone, .int .i64 k.epoch, .int .i64 k.kind, .int .i64 k.time, .int .i64 k.until_, .int .i64 k.count, .int .i64 k.root, .int .i64 k.prev, .slice A0 n0 c0, .int .i64 k.keys.need, .slice A1 n1 c1, .int .i64 k.heirs.need, .int .i64 k.wait, .slice A2 n2 c2, .int .i64 k.judge.need, .bool k.frozen] 35) := ⟨_, rfl⟩
  have HB_1 := Lib.hid (show Below w.heap.size w V from by
    rw [hV]
    exact (Below.refl _ _).alloc (by first | (simp; done) | (simp; omega)) _)
  have HX_1 := Lib.hid (show Box V (w.heap.size) [.int .i64 k.zone, .int .i64 k.epoch, .int .i64 k.kind, .int .i64 k.time, .int .i64 k.until_, .int .i64 k.count, .int .i64 k.root, .int .i64 k.prev, .slice A0 n0 c0, .int .i64 k.keys.need, .slice A1 n1 c1, .int .i64 k.heirs.need, .int .i64 k.wait, .slice A2 n2 c2, .int .i64 k.judge.need, .bool k.frozen] from by
    rw [hV]
    have := (Box.new w #[.int .i64 k.zone, .int .i64 k.epoch, .int .i64 k.kind, .int .i64 k.time, .int .i64 k.until_, .int .i64 k.count, .int .i64 k.root, .int .i64 k.prev, .slice A0 n0 c0, .int .i64 k.keys.need, .slice A1 n1 c1, .int .i64 k.heirs.need, .int .i64 k.wait, .slice A2 n2 c2, .int .i64 k.judge.need, .bool k.frozen] 35)
    simpa using this)
  have HV := Lib.hid hV
  clear hV
  go_enter Try.func50, Try.ntmps50
  go_wp2_with fail
  rw [show w.alloc (.cells #[.int .i64 k.zone, .int .i64 k.epoch, .int .i64 k.kind, .int .i64 k.time, .int .i64 k.until_, .int .i64 k.count, .int .i64 k.root, .int .i64 k.prev, .slice A0 n0 c0, .int .i64 k.keys.need, .slice A1 n1 c1, .int .i64 k.heirs.need, .int .i64 k.wait, .slice A2 n2 c2, .int .i64 k.judge.need, .bool k.frozen] 35) = V from HV.out.symm]
  obtain ⟨bzone, hbzone⟩ : ∃ x : Bool, inR k.zone 0 2147483646 = x := ⟨_, rfl⟩
  have cbzone := HI.out k.zone 0 2147483646 V
  rw [hbzone] at cbzone HRR
  refine cbzone.mono ?_
  rintro e wq ⟨rfl, rfl⟩
  clear cbzone
  rcases bzone with _ | _
  · clear hbzone
    go_wp2
    go_ret
    exact ⟨by rw [← HRR.out]; first | rfl | (simp; done), HB_1.out⟩
  · clear hbzone
    have zX0 := HX_1.out.cell (j := 0) rfl
    have zX1 := HX_1.out.cell (j := 1) rfl
    have zX2 := HX_1.out.cell (j := 2) rfl
    have zX3 := HX_1.out.cell (j := 3) rfl
    have zX4 := HX_1.out.cell (j := 4) rfl
    have zX5 := HX_1.out.cell (j := 5) rfl
    have zX6 := HX_1.out.cell (j := 6) rfl
    have zX7 := HX_1.out.cell (j := 7) rfl
    have zX8 := HX_1.out.cell (j := 8) rfl
    have zX9 := HX_1.out.cell (j := 9) rfl
    have zX10 := HX_1.out.cell (j := 10) rfl
    have zX11 := HX_1.out.cell (j := 11) rfl
    have zX12 := HX_1.out.cell (j := 12) rfl
    have zX13 := HX_1.out.cell (j := 13) rfl
    have zX14 := HX_1.out.cell (j := 14) rfl
    have zX15 := HX_1.out.cell (j := 15) rfl
    go_wp2_with (refine LD.wp_ld LD.big_Head rfl _ rfl rfl HX_1.out rfl ?_)
    clear zX0 zX1 zX2 zX3 zX4 zX5 zX6 zX7 zX8 zX9 zX10 zX11 zX12 zX13 zX14 zX15
    obtain ⟨broot, hbroot⟩ : ∃ x : Bool, inR k.root 0 2147483646 = x := ⟨_, rfl⟩
    have cbroot := HI.out k.root 0 2147483646 V
    rw [hbroot] at cbroot HRR
    refine cbroot.mono ?_
    rintro e wq ⟨rfl, rfl⟩
    clear cbroot
    rcases broot with _ | _
    · clear hbroot
      go_wp2
      go_ret
      exact ⟨by rw [← HRR.out]; first | rfl | (simp; done), HB_1.out⟩
    · clear hbroot
      have zX0 := HX_1.out.cell (j := 0) rfl
      have zX1 := HX_1.out.cell (j := 1) rfl
      have zX2 := HX_1.out.cell (j := 2) rfl
      have zX3 := HX_1.out.cell (j := 3) rfl
      have zX4 := HX_1.out.cell (j := 4) rfl
      have zX5 := HX_1.out.cell (j := 5) rfl
      have zX6 := HX_1.out.cell (j := 6) rfl
      have zX7 := HX_1.out.cell (j := 7) rfl
      have zX8 := HX_1.out.cell (j := 8) rfl
      have zX9 := HX_1.out.cell (j := 9) rfl
      have zX10 := HX_1.out.cell (j := 10) rfl
      have zX11 := HX_1.out.cell (j := 11) rfl
      have zX12 := HX_1.out.cell (j := 12) rfl
      have zX13 := HX_1.out.cell (j := 13) rfl
      have zX14 := HX_1.out.cell (j := 14) rfl
      have zX15 := HX_1.out.cell (j := 15) rfl
      go_wp2_with (refine LD.wp_ld LD.big_Head rfl _ rfl rfl HX_1.out rfl ?_)
      clear zX0 zX1 zX2 zX3 zX4 zX5 zX6 zX7 zX8 zX9 zX10 zX11 zX12 zX13 zX14 zX15
      obtain ⟨bprev, hbprev⟩ : ∃ x : Bool, inR k.prev 0 2147483646 = x := ⟨_, rfl⟩
      have cbprev := HI.out k.prev 0 2147483646 V
      rw [hbprev] at cbprev HRR
      refine cbprev.mono ?_
      rintro e wq ⟨rfl, rfl⟩
      clear cbprev
      rcases bprev with _ | _
      · clear hbprev
        go_wp2
        go_ret
        exact ⟨by rw [← HRR.out]; first | rfl | (simp; done), HB_1.out⟩
      · clear hbprev
        have zX0 := HX_1.out.cell (j := 0) rfl
        have zX1 := HX_1.out.cell (j := 1) rfl
        have zX2 := HX_1.out.cell (j := 2) rfl
        have zX3 := HX_1.out.cell (j := 3) rfl
        have zX4 := HX_1.out.cell (j := 4) rfl
        have zX5 := HX_1.out.cell (j := 5) rfl
        have zX6 := HX_1.out.cell (j := 6) rfl
        have zX7 := HX_1.out.cell (j := 7) rfl
        have zX8 := HX_1.out.cell (j := 8) rfl
        have zX9 := HX_1.out.cell (j := 9) rfl
        have zX10 := HX_1.out.cell (j := 10) rfl
        have zX11 := HX_1.out.cell (j := 11) rfl
        have zX12 := HX_1.out.cell (j := 12) rfl
        have zX13 := HX_1.out.cell (j := 13) rfl
        have zX14 := HX_1.out.cell (j := 14) rfl
        have zX15 := HX_1.out.cell (j := 15) rfl
        go_wp2_with (refine LD.wp_ld LD.big_Head rfl _ rfl rfl HX_1.out rfl ?_)
        clear zX0 zX1 zX2 zX3 zX4 zX5 zX6 zX7 zX8 zX9 zX10 zX11 zX12 zX13 zX14 zX15
        obtain ⟨bepoch, hbepoch⟩ : ∃ x : Bool, inR k.epoch 0 200 = x := ⟨_, rfl⟩
        have cbepoch := HI.out k.epoch 0 200 V
        rw [hbepoch] at cbepoch HRR
        refine cbepoch.mono ?_
        rintro e wq ⟨rfl, rfl⟩
        clear cbepoch
        rcases bepoch with _ | _
        · clear hbepoch
          go_wp2
          go_ret
          exact ⟨by rw [← HRR.out]; first | rfl | (simp; done), HB_1.out⟩
        · clear hbepoch
          have zX0 := HX_1.out.cell (j := 0) rfl
          have zX1 := HX_1.out.cell (j := 1) rfl
          have zX2 := HX_1.out.cell (j := 2) rfl
          have zX3 := HX_1.out.cell (j := 3) rfl
          have zX4 := HX_1.out.cell (j := 4) rfl
          have zX5 := HX_1.out.cell (j := 5) rfl
          have zX6 := HX_1.out.cell (j := 6) rfl
          have zX7 := HX_1.out.cell (j := 7) rfl
          have zX8 := HX_1.out.cell (j := 8) rfl
          have zX9 := HX_1.out.cell (j := 9) rfl
          have zX10 := HX_1.out.cell (j := 10) rfl
          have zX11 := HX_1.out.cell (j := 11) rfl
          have zX12 := HX_1.out.cell (j := 12) rfl
          have zX13 := HX_1.out.cell (j := 13) rfl
          have zX14 := HX_1.out.cell (j := 14) rfl
          have zX15 := HX_1.out.cell (j := 15) rfl
          go_wp2_with (refine LD.wp_ld LD.big_Head rfl _ rfl rfl HX_1.out rfl ?_)
          clear zX0 zX1 zX2 zX3 zX4 zX5 zX6 zX7 zX8 zX9 zX10 zX11 zX12 zX13 zX14 zX15
          obtain ⟨bkind, hbkind⟩ : ∃ x : Bool, inR k.kind 1 3 = x := ⟨_, rfl⟩
          have cbkind := HI.out k.kind 1 3 V
          rw [hbkind] at cbkind HRR
          refine cbkind.mono ?_
          rintro e wq ⟨rfl, rfl⟩
          clear cbkind
          rcases bkind with _ | _
          · clear hbkind
            go_wp2
            go_ret
            exact ⟨by rw [← HRR.out]; first | rfl | (simp; done), HB_1.out⟩
          · clear hbkind
            have zX0 := HX_1.out.cell (j := 0) rfl
            have zX1 := HX_1.out.cell (j := 1) rfl
            have zX2 := HX_1.out.cell (j := 2) rfl
            have zX3 := HX_1.out.cell (j := 3) rfl
            have zX4 := HX_1.out.cell (j := 4) rfl
            have zX5 := HX_1.out.cell (j := 5) rfl
            have zX6 := HX_1.out.cell (j := 6) rfl
            have zX7 := HX_1.out.cell (j := 7) rfl
            have zX8 := HX_1.out.cell (j := 8) rfl
            have zX9 := HX_1.out.cell (j := 9) rfl
            have zX10 := HX_1.out.cell (j := 10) rfl
            have zX11 := HX_1.out.cell (j := 11) rfl
            have zX12 := HX_1.out.cell (j := 12) rfl
            have zX13 := HX_1.out.cell (j := 13) rfl
            have zX14 := HX_1.out.cell (j := 14) rfl
            have zX15 := HX_1.out.cell (j := 15) rfl
            go_wp2_with (refine LD.wp_ld LD.big_Head rfl _ rfl rfl HX_1.out rfl ?_)
            clear zX0 zX1 zX2 zX3 zX4 zX5 zX6 zX7 zX8 zX9 zX10 zX11 zX12 zX13 zX14 zX15
            obtain ⟨btime, htime⟩ : ∃ x : Bool, inR k.time 0 100000 = x := ⟨_, rfl⟩
            have cbtime := HI.out k.time 0 100000 V
            rw [htime] at cbtime HRR
            refine cbtime.mono ?_
            rintro e wq ⟨rfl, rfl⟩
            clear cbtime
            rcases btime with _ | _
            · skip
              go_wp2
              go_ret
              exact ⟨by rw [← HRR.out]; first | rfl | (simp; done), HB_1.out⟩
            · skip
              have zX0 := HX_1.out.cell (j := 0) rfl
              have zX1 := HX_1.out.cell (j := 1) rfl
              have zX2 := HX_1.out.cell (j := 2) rfl
              have zX3 := HX_1.out.cell (j := 3) rfl
              have zX4 := HX_1.out.cell (j := 4) rfl
              have zX5 := HX_1.out.cell (j := 5) rfl
              have zX6 := HX_1.out.cell (j := 6) rfl
              have zX7 := HX_1.out.cell (j := 7) rfl
              have zX8 := HX_1.out.cell (j := 8) rfl
              have zX9 := HX_1.out.cell (j := 9) rfl
              have zX10 := HX_1.out.cell (j := 10) rfl
              have zX11 := HX_1.out.cell (j := 11) rfl
              have zX12 := HX_1.out.cell (j := 12) rfl
              have zX13 := HX_1.out.cell (j := 13) rfl
              have zX14 := HX_1.out.cell (j := 14) rfl
              have zX15 := HX_1.out.cell (j := 15) rfl
              go_wp2_with (refine LD.wp_ld LD.big_Head rfl _ rfl rfl HX_1.out rfl ?_)
              clear zX0 zX1 zX2 zX3 zX4 zX5 zX6 zX7 zX8 zX9 zX10 zX11 zX12 zX13 zX14 zX15
              obtain ⟨buntil, huntil⟩ : ∃ x : Bool, inR k.until_ k.time 100000 = x := ⟨_, rfl⟩
              have cbuntil := HI.out k.until_ k.time 100000 V
              rw [huntil] at cbuntil HRR
              refine cbuntil.mono ?_
              rintro e wq ⟨rfl, rfl⟩
              clear cbuntil
              rcases buntil with _ | _
              · skip
                go_wp2
                go_ret
                exact ⟨by rw [← HRR.out]; first | rfl | (simp; done), HB_1.out⟩
              · skip
                have htu : 0 ≤ k.time ∧ k.time ≤ 100000 ∧ k.time ≤ k.until_ ∧ k.until_ ≤ 100000 := by
                  have g1 := htime
                  have g2 := huntil
                  unfold inR at g1 g2
                  simp at g1 g2
                  omega
                obtain ⟨t0, t1, t2, t3⟩ := htu
                clear htime huntil
                by_cases hsp : k.until_ - k.time ≤ 200
                · have hsd : decide (k.until_ - k.time ≤ 200) = true := decide_eq_true hsp
                  have hs2 : ¬ (200 : Int) < k.until_ - k.time := by omega
                  rw [hsd] at HRR
                  have zX0 := HX_1.out.cell (j := 0) rfl
                  have zX1 := HX_1.out.cell (j := 1) rfl
                  have zX2 := HX_1.out.cell (j := 2) rfl
                  have zX3 := HX_1.out.cell (j := 3) rfl
                  have zX4 := HX_1.out.cell (j := 4) rfl
                  have zX5 := HX_1.out.cell (j := 5) rfl
                  have zX6 := HX_1.out.cell (j := 6) rfl
                  have zX7 := HX_1.out.cell (j := 7) rfl
                  have zX8 := HX_1.out.cell (j := 8) rfl
                  have zX9 := HX_1.out.cell (j := 9) rfl
                  have zX10 := HX_1.out.cell (j := 10) rfl
                  have zX11 := HX_1.out.cell (j := 11) rfl
                  have zX12 := HX_1.out.cell (j := 12) rfl
                  have zX13 := HX_1.out.cell (j := 13) rfl
                  have zX14 := HX_1.out.cell (j := 14) rfl
                  have zX15 := HX_1.out.cell (j := 15) rfl
                  go_wp2_with (refine LD.wp_ld LD.big_Head rfl _ rfl rfl HX_1.out rfl ?_)
                  clear zX0 zX1 zX2 zX3 zX4 zX5 zX6 zX7 zX8 zX9 zX10 zX11 zX12 zX13 zX14 zX15
                  obtain ⟨bcount, hbcount⟩ : ∃ x : Bool, inR k.count 0 12 = x := ⟨_, rfl⟩
                  have cbcount := HI.out k.count 0 12 V
                  rw [hbcount] at cbcount HRR
                  refine cbcount.mono ?_
                  rintro e wq ⟨rfl, rfl⟩
                  clear cbcount
                  rcases bcount with _ | _
                  · clear hbcount
                    go_wp2
                    go_ret
                    exact ⟨by rw [← HRR.out]; first | rfl | (simp; done), HB_1.out⟩
                  · clear hbcount
                    have zX0 := HX_1.out.cell (j := 0) rfl
                    have zX1 := HX_1.out.cell (j := 1) rfl
                    have zX2 := HX_1.out.cell (j := 2) rfl
                    have zX3 := HX_1.out.cell (j := 3) rfl
                    have zX4 := HX_1.out.cell (j := 4) rfl
                    have zX5 := HX_1.out.cell (j := 5) rfl
                    have zX6 := HX_1.out.cell (j := 6) rfl
                    have zX7 := HX_1.out.cell (j := 7) rfl
                    have zX8 := HX_1.out.cell (j := 8) rfl
                    have zX9 := HX_1.out.cell (j := 9) rfl
                    have zX10 := HX_1.out.cell (j := 10) rfl
                    have zX11 := HX_1.out.cell (j := 11) rfl
                    have zX12 := HX_1.out.cell (j := 12) rfl
                    have zX13 := HX_1.out.cell (j := 13) rfl
                    have zX14 := HX_1.out.cell (j := 14) rfl
                    have zX15 := HX_1.out.cell (j := 15) rfl
                    go_wp2_with (refine LD.wp_ld LD.big_Head rfl _ rfl rfl HX_1.out rfl ?_)
                    clear zX0 zX1 zX2 zX3 zX4 zX5 zX6 zX7 zX8 zX9 zX10 zX11 zX12 zX13 zX14 zX15
                    refine (HK0.out _ HB_1.out).mono ?_
                    rintro e W2 ⟨rfl, hb⟩
                    have HB_2 := Lib.hid (HB_1.out.trans (hb.mono HB_1.out.size))
                    have HX_2 := Lib.hid (HX_1.out.below hb HX_1.out.lt)
                    clear hb
                    rcases bk0 with _ | _
                    · skip
                      go_wp2
                      go_ret
                      exact ⟨by rw [← HRR.out]; first | rfl | (simp; done), HB_2.out⟩
                    · skip
                      have zX0 := HX_2.out.cell (j := 0) rfl
                      have zX1 := HX_2.out.cell (j := 1) rfl
                      have zX2 := HX_2.out.cell (j := 2) rfl
                      have zX3 := HX_2.out.cell (j := 3) rfl
                      have zX4 := HX_2.out.cell (j := 4) rfl
                      have zX5 := HX_2.out.cell (j := 5) rfl
                      have zX6 := HX_2.out.cell (j := 6) rfl
                      have zX7 := HX_2.out.cell (j := 7) rfl
                      have zX8 := HX_2.out.cell (j := 8) rfl
                      have zX9 := HX_2.out.cell (j := 9) rfl
                      have zX10 := HX_2.out.cell (j := 10) rfl
                      have zX11 := HX_2.out.cell (j := 11) rfl
                      have zX12 := HX_2.out.cell (j := 12) rfl
                      have zX13 := HX_2.out.cell (j := 13) rfl
                      have zX14 := HX_2.out.cell (j := 14) rfl
                      have zX15 := HX_2.out.cell (j := 15) rfl
                      go_wp2_with (refine LD.wp_ld LD.big_Head rfl _ rfl rfl HX_2.out rfl ?_)
                      clear zX0 zX1 zX2 zX3 zX4 zX5 zX6 zX7 zX8 zX9 zX10 zX11 zX12 zX13 zX14 zX15
                      refine (HN1.out _ HB_2.out).mono ?_
                      rintro e W3 ⟨rfl, hb⟩
                      have HB_3 := Lib.hid (HB_2.out.trans (hb.mono HB_2.out.size))
                      have HX_3 := Lib.hid (HX_2.out.below hb HX_2.out.lt)
                      clear hb
                      rcases bn1 with _ | _
                      · skip
                        have zX0 := HX_3.out.cell (j := 0) rfl
                        have zX1 := HX_3.out.cell (j := 1) rfl
                        have zX2 := HX_3.out.cell (j := 2) rfl
                        have zX3 := HX_3.out.cell (j := 3) rfl
                        have zX4 := HX_3.out.cell (j := 4) rfl
                        have zX5 := HX_3.out.cell (j := 5) rfl
                        have zX6 := HX_3.out.cell (j := 6) rfl
                        have zX7 := HX_3.out.cell (j := 7) rfl
                        have zX8 := HX_3.out.cell (j := 8) rfl
                        have zX9 := HX_3.out.cell (j := 9) rfl
                        have zX10 := HX_3.out.cell (j := 10) rfl
                        have zX11 := HX_3.out.cell (j := 11) rfl
                        have zX12 := HX_3.out.cell (j := 12) rfl
                        have zX13 := HX_3.out.cell (j := 13) rfl
                        have zX14 := HX_3.out.cell (j := 14) rfl
                        have zX15 := HX_3.out.cell (j := 15) rfl
                        go_wp2_with (refine LD.wp_ld LD.big_Head rfl _ rfl rfl HX_3.out rfl ?_)
                        clear zX0 zX1 zX2 zX3 zX4 zX5 zX6 zX7 zX8 zX9 zX10 zX11 zX12 zX13 zX14 zX15
                        refine (HK1.out _ HB_3.out).mono ?_
                        rintro e W4 ⟨rfl, hb⟩
                        have HB_4 := Lib.hid (HB_3.out.trans (hb.mono HB_3.out.size))
                        have HX_4 := Lib.hid (HX_3.out.below hb HX_3.out.lt)
                        clear hb
                        rcases bk1 with _ | _
                        · skip
                          go_wp2
                          go_ret
                          exact ⟨by rw [← HRR.out]; first | rfl | (simp; done), HB_4.out⟩
                        · skip
                          have zX0 := HX_4.out.cell (j := 0) rfl
                          have zX1 := HX_4.out.cell (j := 1) rfl
                          have zX2 := HX_4.out.cell (j := 2) rfl
                          have zX3 := HX_4.out.cell (j := 3) rfl
                          have zX4 := HX_4.out.cell (j := 4) rfl
                          have zX5 := HX_4.out.cell (j := 5) rfl
                          have zX6 := HX_4.out.cell (j := 6) rfl
                          have zX7 := HX_4.out.cell (j := 7) rfl
                          have zX8 := HX_4.out.cell (j := 8) rfl
                          have zX9 := HX_4.out.cell (j := 9) rfl
                          have zX10 := HX_4.out.cell (j := 10) rfl
                          have zX11 := HX_4.out.cell (j := 11) rfl
                          have zX12 := HX_4.out.cell (j := 12) rfl
                          have zX13 := HX_4.out.cell (j := 13) rfl
                          have zX14 := HX_4.out.cell (j := 14) rfl
                          have zX15 := HX_4.out.cell (j := 15) rfl
                          go_wp2_with (refine LD.wp_ld LD.big_Head rfl _ rfl rfl HX_4.out rfl ?_)
                          clear zX0 zX1 zX2 zX3 zX4 zX5 zX6 zX7 zX8 zX9 zX10 zX11 zX12 zX13 zX14 zX15
                          obtain ⟨bwait, hbwait⟩ : ∃ x : Bool, inR k.wait 1 500 = x := ⟨_, rfl⟩
                          have cbwait := HI.out k.wait 1 500 W4
                          rw [hbwait] at cbwait HRR
                          refine cbwait.mono ?_
                          rintro e wq ⟨rfl, rfl⟩
                          clear cbwait
                          rcases bwait with _ | _
                          · clear hbwait
                            go_wp2
                            go_ret
                            exact ⟨by rw [← HRR.out]; first | rfl | (simp; done), HB_4.out⟩
                          · clear hbwait
                            have zX0 := HX_4.out.cell (j := 0) rfl
                            have zX1 := HX_4.out.cell (j := 1) rfl
                            have zX2 := HX_4.out.cell (j := 2) rfl
                            have zX3 := HX_4.out.cell (j := 3) rfl
                            have zX4 := HX_4.out.cell (j := 4) rfl
                            have zX5 := HX_4.out.cell (j := 5) rfl
                            have zX6 := HX_4.out.cell (j := 6) rfl
                            have zX7 := HX_4.out.cell (j := 7) rfl
                            have zX8 := HX_4.out.cell (j := 8) rfl
                            have zX9 := HX_4.out.cell (j := 9) rfl
                            have zX10 := HX_4.out.cell (j := 10) rfl
                            have zX11 := HX_4.out.cell (j := 11) rfl
                            have zX12 := HX_4.out.cell (j := 12) rfl
                            have zX13 := HX_4.out.cell (j := 13) rfl
                            have zX14 := HX_4.out.cell (j := 14) rfl
                            have zX15 := HX_4.out.cell (j := 15) rfl
                            go_wp2_with (refine LD.wp_ld LD.big_Head rfl _ rfl rfl HX_4.out rfl ?_)
                            clear zX0 zX1 zX2 zX3 zX4 zX5 zX6 zX7 zX8 zX9 zX10 zX11 zX12 zX13 zX14 zX15
                            refine (HK2.out _ HB_4.out).mono ?_
                            rintro e W5 ⟨rfl, hb⟩
                            have HB_5 := Lib.hid (HB_4.out.trans (hb.mono HB_4.out.size))
                            have HX_5 := Lib.hid (HX_4.out.below hb HX_4.out.lt)
                            clear hb
                            rcases bk2 with _ | _
                            · skip
                              have zX0 := HX_5.out.cell (j := 0) rfl
                              have zX1 := HX_5.out.cell (j := 1) rfl
                              have zX2 := HX_5.out.cell (j := 2) rfl
                              have zX3 := HX_5.out.cell (j := 3) rfl
                              have zX4 := HX_5.out.cell (j := 4) rfl
                              have zX5 := HX_5.out.cell (j := 5) rfl
                              have zX6 := HX_5.out.cell (j := 6) rfl
                              have zX7 := HX_5.out.cell (j := 7) rfl
                              have zX8 := HX_5.out.cell (j := 8) rfl
                              have zX9 := HX_5.out.cell (j := 9) rfl
                              have zX10 := HX_5.out.cell (j := 10) rfl
                              have zX11 := HX_5.out.cell (j := 11) rfl
                              have zX12 := HX_5.out.cell (j := 12) rfl
                              have zX13 := HX_5.out.cell (j := 13) rfl
                              have zX14 := HX_5.out.cell (j := 14) rfl
                              have zX15 := HX_5.out.cell (j := 15) rfl
                              go_wp2_with (refine LD.wp_ld LD.big_Head rfl _ rfl rfl HX_5.out rfl ?_)
                              clear zX0 zX1 zX2 zX3 zX4 zX5 zX6 zX7 zX8 zX9 zX10 zX11 zX12 zX13 zX14 zX15
                              refine (HN2.out _ HB_5.out).mono ?_
                              rintro e W6 ⟨rfl, hb⟩
                              have HB_6 := Lib.hid (HB_5.out.trans (hb.mono HB_5.out.size))
                              have HX_6 := Lib.hid (HX_5.out.below hb HX_5.out.lt)
                              clear hb
                              rcases bn2 with _ | _
                              · skip
                                go_wp2
                                go_ret
                                exact ⟨by rw [← HRR.out]; first | rfl | (simp; done), HB_6.out⟩
                              · skip
                                have zX0 := HX_6.out.cell (j := 0) rfl
                                have zX1 := HX_6.out.cell (j := 1) rfl
                                have zX2 := HX_6.out.cell (j := 2) rfl
                                have zX3 := HX_6.out.cell (j := 3) rfl
                                have zX4 := HX_6.out.cell (j := 4) rfl
                                have zX5 := HX_6.out.cell (j := 5) rfl
                                have zX6 := HX_6.out.cell (j := 6) rfl
                                have zX7 := HX_6.out.cell (j := 7) rfl
                                have zX8 := HX_6.out.cell (j := 8) rfl
                                have zX9 := HX_6.out.cell (j := 9) rfl
                                have zX10 := HX_6.out.cell (j := 10) rfl
                                have zX11 := HX_6.out.cell (j := 11) rfl
                                have zX12 := HX_6.out.cell (j := 12) rfl
                                have zX13 := HX_6.out.cell (j := 13) rfl
                                have zX14 := HX_6.out.cell (j := 14) rfl
                                have zX15 := HX_6.out.cell (j := 15) rfl
                                go_wp2
                                go_ret
                                exact ⟨by rw [← HRR.out]; first | rfl | (simp; done), HB_6.out⟩
                            · skip
                              go_wp2
                              go_ret
                              exact ⟨by rw [← HRR.out]; first | rfl | (simp; done), HB_5.out⟩
                      · skip
                        by_cases hw : k.wait = 0
                        · have hwd : decide (k.wait = 0) = true := decide_eq_true hw
                          rw [hwd] at HRR
                          have zX0 := HX_3.out.cell (j := 0) rfl
                          have zX1 := HX_3.out.cell (j := 1) rfl
                          have zX2 := HX_3.out.cell (j := 2) rfl
                          have zX3 := HX_3.out.cell (j := 3) rfl
                          have zX4 := HX_3.out.cell (j := 4) rfl
                          have zX5 := HX_3.out.cell (j := 5) rfl
                          have zX6 := HX_3.out.cell (j := 6) rfl
                          have zX7 := HX_3.out.cell (j := 7) rfl
                          have zX8 := HX_3.out.cell (j := 8) rfl
                          have zX9 := HX_3.out.cell (j := 9) rfl
                          have zX10 := HX_3.out.cell (j := 10) rfl
                          have zX11 := HX_3.out.cell (j := 11) rfl
                          have zX12 := HX_3.out.cell (j := 12) rfl
                          have zX13 := HX_3.out.cell (j := 13) rfl
                          have zX14 := HX_3.out.cell (j := 14) rfl
                          have zX15 := HX_3.out.cell (j := 15) rfl
                          go_wp2_with (refine LD.wp_ld LD.big_Head rfl _ rfl rfl HX_3.out rfl ?_)
                          clear zX0 zX1 zX2 zX3 zX4 zX5 zX6 zX7 zX8 zX9 zX10 zX11 zX12 zX13 zX14 zX15
                          refine (HK2.out _ HB_3.out).mono ?_
                          rintro e W4 ⟨rfl, hb⟩
                          have HB_4 := Lib.hid (HB_3.out.trans (hb.mono HB_3.out.size))
                          have HX_4 := Lib.hid (HX_3.out.below hb HX_3.out.lt)
                          clear hb
                          rcases bk2 with _ | _
                          · skip
                            have zX0 := HX_4.out.cell (j := 0) rfl
                            have zX1 := HX_4.out.cell (j := 1) rfl
                            have zX2 := HX_4.out.cell (j := 2) rfl
                            have zX3 := HX_4.out.cell (j := 3) rfl
                            have zX4 := HX_4.out.cell (j := 4) rfl
                            have zX5 := HX_4.out.cell (j := 5) rfl
                            have zX6 := HX_4.out.cell (j := 6) rfl
                            have zX7 := HX_4.out.cell (j := 7) rfl
                            have zX8 := HX_4.out.cell (j := 8) rfl
                            have zX9 := HX_4.out.cell (j := 9) rfl
                            have zX10 := HX_4.out.cell (j := 10) rfl
                            have zX11 := HX_4.out.cell (j := 11) rfl
                            have zX12 := HX_4.out.cell (j := 12) rfl
                            have zX13 := HX_4.out.cell (j := 13) rfl
                            have zX14 := HX_4.out.cell (j := 14) rfl
                            have zX15 := HX_4.out.cell (j := 15) rfl
                            go_wp2_with (refine LD.wp_ld LD.big_Head rfl _ rfl rfl HX_4.out rfl ?_)
                            clear zX0 zX1 zX2 zX3 zX4 zX5 zX6 zX7 zX8 zX9 zX10 zX11 zX12 zX13 zX14 zX15
                            refine (HN2.out _ HB_4.out).mono ?_
                            rintro e W5 ⟨rfl, hb⟩
                            have HB_5 := Lib.hid (HB_4.out.trans (hb.mono HB_4.out.size))
                            have HX_5 := Lib.hid (HX_4.out.below hb HX_4.out.lt)
                            clear hb
                            rcases bn2 with _ | _
                            · skip
                              go_wp2
                              go_ret
                              exact ⟨by rw [← HRR.out]; first | rfl | (simp; done), HB_5.out⟩
                            · skip
                              have zX0 := HX_5.out.cell (j := 0) rfl
                              have zX1 := HX_5.out.cell (j := 1) rfl
                              have zX2 := HX_5.out.cell (j := 2) rfl
                              have zX3 := HX_5.out.cell (j := 3) rfl
                              have zX4 := HX_5.out.cell (j := 4) rfl
                              have zX5 := HX_5.out.cell (j := 5) rfl
                              have zX6 := HX_5.out.cell (j := 6) rfl
                              have zX7 := HX_5.out.cell (j := 7) rfl
                              have zX8 := HX_5.out.cell (j := 8) rfl
                              have zX9 := HX_5.out.cell (j := 9) rfl
                              have zX10 := HX_5.out.cell (j := 10) rfl
                              have zX11 := HX_5.out.cell (j := 11) rfl
                              have zX12 := HX_5.out.cell (j := 12) rfl
                              have zX13 := HX_5.out.cell (j := 13) rfl
                              have zX14 := HX_5.out.cell (j := 14) rfl
                              have zX15 := HX_5.out.cell (j := 15) rfl
                              go_wp2
                              go_ret
                              exact ⟨by rw [← HRR.out]; first | rfl | (simp; done), HB_5.out⟩
                          · skip
                            go_wp2
                            go_ret
                            exact ⟨by rw [← HRR.out]; first | rfl | (simp; done), HB_4.out⟩
                        · have hwd : decide (k.wait = 0) = false := decide_eq_false hw
                          rw [hwd] at HRR
                          have zX0 := HX_3.out.cell (j := 0) rfl
                          have zX1 := HX_3.out.cell (j := 1) rfl
                          have zX2 := HX_3.out.cell (j := 2) rfl
                          have zX3 := HX_3.out.cell (j := 3) rfl
                          have zX4 := HX_3.out.cell (j := 4) rfl
                          have zX5 := HX_3.out.cell (j := 5) rfl
                          have zX6 := HX_3.out.cell (j := 6) rfl
                          have zX7 := HX_3.out.cell (j := 7) rfl
                          have zX8 := HX_3.out.cell (j := 8) rfl
                          have zX9 := HX_3.out.cell (j := 9) rfl
                          have zX10 := HX_3.out.cell (j := 10) rfl
                          have zX11 := HX_3.out.cell (j := 11) rfl
                          have zX12 := HX_3.out.cell (j := 12) rfl
                          have zX13 := HX_3.out.cell (j := 13) rfl
                          have zX14 := HX_3.out.cell (j := 14) rfl
                          have zX15 := HX_3.out.cell (j := 15) rfl
                          go_wp2
                          go_ret
                          exact ⟨by rw [← HRR.out]; first | rfl | (simp; done), HB_3.out⟩
                · have hsd : decide (k.until_ - k.time ≤ 200) = false := decide_eq_false hsp
                  have hs2 : (200 : Int) < k.until_ - k.time := by omega
                  rw [hsd] at HRR
                  have zX0 := HX_1.out.cell (j := 0) rfl
                  have zX1 := HX_1.out.cell (j := 1) rfl
                  have zX2 := HX_1.out.cell (j := 2) rfl
                  have zX3 := HX_1.out.cell (j := 3) rfl
                  have zX4 := HX_1.out.cell (j := 4) rfl
                  have zX5 := HX_1.out.cell (j := 5) rfl
                  have zX6 := HX_1.out.cell (j := 6) rfl
                  have zX7 := HX_1.out.cell (j := 7) rfl
                  have zX8 := HX_1.out.cell (j := 8) rfl
                  have zX9 := HX_1.out.cell (j := 9) rfl
                  have zX10 := HX_1.out.cell (j := 10) rfl
                  have zX11 := HX_1.out.cell (j := 11) rfl
                  have zX12 := HX_1.out.cell (j := 12) rfl
                  have zX13 := HX_1.out.cell (j := 13) rfl
                  have zX14 := HX_1.out.cell (j := 14) rfl
                  have zX15 := HX_1.out.cell (j := 15) rfl
                  go_wp2
                  go_ret
                  exact ⟨by rw [← HRR.out]; first | rfl | (simp; done), HB_1.out⟩
end Go.Proofs.Ythhmhcmlbpdlbaa.C13S
