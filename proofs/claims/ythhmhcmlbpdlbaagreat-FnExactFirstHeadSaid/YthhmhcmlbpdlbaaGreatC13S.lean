/- Chapter 13: heads: what the functions compute. Chapter 13: heads: what the model's functions return. Copies of sets of keys and of heads. -/
import Derived.Test.YthhmhcmlbpdlbaaGreatM06
import Derived.Test.YthhmhcmlbpdlbaaGreatR13
import Derived.Test.YthhmhcmlbpdlbaaGreatC06S
import Derived.Test.YthhmhcmlbpdlbaaGreatLD
import Derived.Test.YthhmhcmlbpdlbaaGreatRKA
import Derived.Deep.RegionHeld3
import Derived.Deep.AppendLies
import Derived.Deep.RegionLaw
namespace Go.Proofs.YthhmhcmlbpdlbaaGreat.M13
open Go.RowKit R06 R13 C01 M03 M06
set_option linter.unusedVariables false
def noK (k : Keys) : Bool := decide (k.need = 0) && decide (k.list.length = 0)
/-- what IsHead asks -/
def isHd (h : Head) : Bool :=
  (inR h.zone 0 2147483646 && inR h.root 0 2147483646 && inR h.prev 0 2147483646 && inR h.epoch 0 200 && inR h.kind 1 3) &&
  (inR h.time 0 100000 && inR h.until_ h.time 100000 && decide (h.until_ - h.time ≤ 200) && inR h.count 0 12 && isKeys h.keys) &&
  (if noK h.heirs = true then decide (h.wait = 0) else isKeys h.heirs && inR h.wait 1 500) &&
  (isKeys h.judge || (noK h.judge && !h.frozen))
def headInts (h : Head) : List Int := [h.zone, h.epoch, h.kind, h.time, h.until_, h.count, h.root, h.prev] ++ keysInts h.keys ++ keysInts h.heirs ++ [h.wait] ++ keysInts h.judge ++ [if h.frozen then 1 else 0]
def hdDig (h : Head) : Int := hsh (233 :: headInts h)
def freshH (h : Head) (now : Int) : Bool := inR now h.time h.until_
def eqHd (a b : Head) : Bool :=
  decide (a.zone = b.zone) && decide (a.epoch = b.epoch) && decide (a.kind = b.kind) && decide (a.time = b.time) && decide (a.until_ = b.until_) && decide (a.count = b.count) && decide (a.root = b.root) && decide (a.prev = b.prev) &&
  eqKeysB a.keys b.keys && eqKeysB a.heirs b.heirs && decide (a.wait = b.wait) && eqKeysB a.judge b.judge && decide (a.frozen = b.frozen)
theorem headInts_len (h : Head) : (headInts h).length = 16 + h.keys.list.length + h.heirs.list.length + h.judge.list.length := by
  unfold headInts keysInts
  simp only [List.length_append, List.length_cons, List.length_nil]
  omega
theorem eqK_iff {a b : Keys} : eqKeysB a b = true ↔ a = b := by
  unfold eqKeysB
  rcases a with ⟨l, n⟩
  rcases b with ⟨l', n'⟩
  simp
  constructor
  · rintro ⟨rfl, rfl⟩; exact ⟨rfl, rfl⟩
  · rintro ⟨rfl, rfl⟩; exact ⟨rfl, rfl⟩
theorem eqHd_iff {a b : Head} : eqHd a b = true ↔ a = b := by
  unfold eqHd
  simp only [Bool.and_eq_true, decide_eq_true_eq, eqK_iff]
  constructor
  · rintro ⟨⟨⟨⟨⟨⟨⟨⟨⟨⟨⟨⟨h1, h2⟩, h3⟩, h4⟩, h5⟩, h6⟩, h7⟩, h8⟩, h9⟩, h10⟩, h11⟩, h12⟩, h13⟩
    rcases a with ⟨⟩
    rcases b with ⟨⟩
    simp only at h1 h2 h3 h4 h5 h6 h7 h8 h9 h10 h11 h12 h13
    subst h1 h2 h3 h4 h5 h6 h7 h8 h9 h10 h11 h12 h13
    rfl
  · rintro rfl
    exact ⟨⟨⟨⟨⟨⟨⟨⟨⟨⟨⟨⟨rfl, rfl⟩, rfl⟩, rfl⟩, rfl⟩, rfl⟩, rfl⟩, rfl⟩, rfl⟩, rfl⟩, rfl⟩, rfl⟩, rfl⟩
/-- the numbers of a set of keys say where they end -/
theorem keysInts_app {a b : Keys} {x y : List Int} (h : keysInts a ++ x = keysInts b ++ y) : a = b ∧ x = y := by
  rcases a with ⟨l, n⟩
  rcases b with ⟨l', n'⟩
  unfold keysInts at h
  simp only [List.cons_append, List.cons.injEq] at h
  obtain ⟨h1, h2, h3⟩ := h
  have hl : l.length = l'.length := by omega
  obtain ⟨e1, e2⟩ := List.append_inj h3 hl
  subst h1 e1
  exact ⟨rfl, e2⟩
theorem headInts_inj {a b : Head} (h : headInts a = headInts b) : a = b := by
  unfold headInts at h
  simp only [List.append_assoc, List.cons_append, List.nil_append, List.cons.injEq] at h
  obtain ⟨h1, h2, h3, h4, h5, h6, h7, h8, h9⟩ := h
  obtain ⟨e9, h9⟩ := keysInts_app h9
  obtain ⟨e10, h9⟩ := keysInts_app h9
  simp only [List.cons.injEq] at h9
  obtain ⟨e11, h9⟩ := h9
  obtain ⟨e12, h9⟩ := keysInts_app h9
  simp only [List.cons.injEq, and_true] at h9
  rcases a with ⟨a1, a2, a3, a4, a5, a6, a7, a8, a9, a10, a11, a12, a13⟩
  rcases b with ⟨b1, b2, b3, b4, b5, b6, b7, b8, b9, b10, b11, b12, b13⟩
  simp only at h1 h2 h3 h4 h5 h6 h7 h8 e9 e10 e11 e12 h9
  subst h1 h2 h3 h4 h5 h6 h7 h8 e9 e10 e11 e12
  rcases a13 with _ | _ <;> rcases b13 with _ | _
  · rfl
  · simp at h9
  · simp at h9
  · rfl
theorem eqHd_ints (a b : Head) : decide (headInts a = headInts b) = eqHd a b := by
  by_cases h : a = b
  · subst h
    rw [decide_eq_true rfl, (eqHd_iff).2 rfl]
  · rw [decide_eq_false fun e => h (headInts_inj e)]
    cases h9 : eqHd a b
    · rfl
    · exact absurd (eqHd_iff.1 h9) h
end Go.Proofs.YthhmhcmlbpdlbaaGreat.M13
namespace Go.Proofs.YthhmhcmlbpdlbaaGreat.C13S
open Go.RowKit Mem MemS Rep R06 R13 M03 M06 M13 C01 C03S C03H C03D C06S BX RG RGS
open RKA hiding inI64
set_option linter.unusedVariables false
set_option linter.unusedSimpArgs false
set_option maxRecDepth 100000
theorem upK {w w' : World} {cs : List Value} {k : Keys} (h : RKeys.rd w (Lt w.heap.size) cs k) (hb : Below w.heap.size w w') : RKeys.rd w' (Lt w'.heap.size) cs k := RKeys.more (RKeys.keep h fun i hi => hb.block i hi) fun i hi => Nat.lt_of_lt_of_le hi hb.size
theorem upH {w w' : World} {cs : List Value} {k : Head} (h : RHead.rd w (Lt w.heap.size) cs k) (hb : Below w.heap.size w w') : RHead.rd w' (Lt w'.heap.size) cs k := RHead.more (RHead.keep h fun i hi => hb.block i hi) fun i hi => Nat.lt_of_lt_of_le hi hb.size
/-- what a head's cells are, part by part -/
theorem head_parts {w : World} {B : Nat} {cs : List Value} {k : Head} (h : RHead.rd w (Lt B) cs k) : ∃ A0 n0 c0 A1 n1 c1 A2 n2 c2, cs = [.int .i64 k.zone, .int .i64 k.epoch, .int .i64 k.kind, .int .i64 k.time, .int .i64 k.until_, .int .i64 k.count, .int .i64 k.root, .int .i64 k.prev, .slice A0 n0 c0, .int .i64 k.keys.need, .slice A1 n1 c1, .int .i64 k.heirs.need, .int .i64 k.wait, .slice A2 n2 c2, .int .i64 k.judge.need, .bool k.frozen] ∧ (In .i64 k.zone ∧ In .i64 k.epoch ∧ In .i64 k.kind ∧ In .i64 k.time ∧ In .i64 k.until_ ∧ In .i64 k.count ∧ In .i64 k.root ∧ In .i64 k.prev ∧ In .i64 k.wait) ∧
    RKeys.rd w (Lt B) [.slice A0 n0 c0, .int .i64 k.keys.need] k.keys ∧ RKeys.rd w (Lt B) [.slice A1 n1 c1, .int .i64 k.heirs.need] k.heirs ∧ RKeys.rd w (Lt B) [.slice A2 n2 c2, .int .i64 k.judge.need] k.judge := by
  obtain ⟨A0, n0, c0, A1, n1, c1, A2, n2, c2, rfl, a1, a2, a3, a4, a5, a6, a7, a8, b1, b2, a9, b3⟩ := RHead_rd.1 h
  exact ⟨A0, n0, c0, A1, n1, c1, A2, n2, c2, rfl, ⟨a1, a2, a3, a4, a5, a6, a7, a8, a9⟩, b1, b2, b3⟩
theorem eq_frozen (a b : Head) : (eqHd a b && (a.frozen == b.frozen)) = eqHd a b := by
  cases h : eqHd a b
  · rfl
  · rw [eqHd_iff.1 h]; simp
theorem sNoKeys_any (cs : List Value) (k : Keys) (w : World) (h : RKeys.rd w (Lt w.heap.size) cs k) :
    Calls Tryz.prog 88 #[.agg cs.toArray] w fun e w' => e = .returned (.bool (noK k)) ∧ Below w.heap.size w w' := by
  obtain ⟨A, n, c, rfl, h1, h2, h3, h4⟩ := RKeys_rd.1 h
  have hl := h3.len
  unfold noK
  rw [hl]
  obtain ⟨l, kn⟩ := k
  simp only
  clear h h3 h4 hl
  have hq : ((n : Int) == 0) = decide (n = 0) := by
    by_cases g : n = 0
    · subst g; rfl
    · rw [decide_eq_false g, beq_eq_false_iff_ne]; omega
  by_cases hk : kn = 0
  all_goals
    go_enter Tryz.func88, Tryz.ntmps88
    go_wp2
    go_ret
    exact ⟨by first | rfl | (simp [hk]; done) | (simp [hk, hq]; done) | (subst hk; simp [hq]), (Below.refl _ _).alloc (Nat.le_refl _) _⟩
set_option maxHeartbeats 4000000 in
theorem sHeadInts_any (cs : List Value) (k : Head) (w : World) (h : RHead.rd w (Lt w.heap.size) cs k) (hn : totHead k ≤ 1048576) :
    Calls Tryz.prog 55 #[.agg cs.toArray] w fun e w' => ∃ A' c', e = .returned (.slice A' (headInts k).length c') ∧ Mem.Own .i64 w' w.heap.size w'.heap.size A' (headInts k).length c' (headInts k) ∧ Below w.heap.size w w' := by
  obtain ⟨A0, n0, c0, A1, n1, c1, A2, n2, c2, rfl, ⟨i1, i2, i3, i4, i5, i6, i7, i8, i9⟩, h1, h2, h3⟩ := head_parts h
  have hlen := headInts_len k
  unfold totHead totKeys at hn
  have HK0 := Lib.hid (fun w1 (hb : Below w.heap.size w w1) => sKeysInts_any [.slice A0 n0 c0, .int .i64 k.keys.need] k.keys w1 (upK h1 hb) (by omega))
  have HK1 := Lib.hid (fun w1 (hb : Below w.heap.size w w1) => sKeysInts_any [.slice A1 n1 c1, .int .i64 k.heirs.need] k.heirs w1 (upK h2 hb) (by omega))
  have HK2 := Lib.hid (fun w1 (hb : Below w.heap.size w w1) => sKeysInts_any [.slice A2 n2 c2, .int .i64 k.judge.need] k.judge w1 (upK h3 hb) (by omega))
  have HLIT := Lib.hid (show ∀ z ∈ [k.zone, k.epoch, k.kind, k.time, k.until_, k.count, k.root, k.prev], In .i64 z from fun z hz => by
    simp only [List.mem_cons, List.not_mem_nil, or_false] at hz
    rcases hz with rfl | rfl | rfl | rfl | rfl | rfl | rfl | rfl <;> assumption)
  have HW9 := Lib.hid i9
  have HF := Lib.hid (show headInts k = [k.zone, k.epoch, k.kind, k.time, k.until_, k.count, k.root, k.prev] ++ keysInts k.keys ++ keysInts k.heirs ++ [k.wait] ++ keysInts k.judge ++ [if k.frozen then 1 else 0] from rfl)
  rw [hlen]
  obtain ⟨m0, hm0⟩ : ∃ m : Nat, m = k.keys.list.length := ⟨_, rfl⟩
  obtain ⟨m1, hm1⟩ : ∃ m : Nat, m = k.heirs.list.length := ⟨_, rfl⟩
  obtain ⟨m2, hm2⟩ : ∃ m : Nat, m = k.judge.list.length := ⟨_, rfl⟩
  rw [← hm0] at HK0 hn
  rw [← hm1] at HK1 hn
  rw [← hm2] at HK2 hn
  rw [← hm0, ← hm1, ← hm2]
  clear h h1 h2 h3 i1 i2 i3 i4 i5 i6 i7 i8 i9 hlen hm0 hm1 hm2
  generalize keysInts k.keys = z0 at HK0 HF
  generalize keysInts k.heirs = z1 at HK1 HF
  generalize keysInts k.judge = z2 at HK2 HF
  generalize headInts k = zz at HF ⊢
  obtain ⟨V, hV⟩ : ∃ V, V = (w.alloc (.cells #[.int .i64 k.zone, .int .i64 k.epoch, .int .i64 k.kind, .int .i64 k.time, .int .i64 k.until_, .int .i64 k.count, .int .i64 k.root, .int .i64 k.prev, .slice A0 n0 c0, .int .i64 k.keys.need, .slice A1 n1 c1, .int .i64 k.heirs.need, .int .i64 k.wait, .slice A2 n2 c2, .int .i64 k.judge.need, .bool k.frozen] 31)).alloc (.cells #[.int .i64 k.zone, .int .i64 k.epoch, .int .i64 k.kind, .int .i64 k.time, .int .i64 k.until_, .int .i64 k.count, .int .i64 k.root, .int .i64 k.prev] 3) := ⟨_, rfl⟩
  have HB_1 := Lib.hid (show Below w.heap.size w V from by rw [hV]; exact ((Below.refl _ _).alloc (Nat.le_refl _) _).alloc (by simp) _)
  have HX_1 := Lib.hid (show Box V w.heap.size [.int .i64 k.zone, .int .i64 k.epoch, .int .i64 k.kind, .int .i64 k.time, .int .i64 k.until_, .int .i64 k.count, .int .i64 k.root, .int .i64 k.prev, .slice A0 n0 c0, .int .i64 k.keys.need, .slice A1 n1 c1, .int .i64 k.heirs.need, .int .i64 k.wait, .slice A2 n2 c2, .int .i64 k.judge.need, .bool k.frozen] from by rw [hV]; exact (Box.new w #[.int .i64 k.zone, .int .i64 k.epoch, .int .i64 k.kind, .int .i64 k.time, .int .i64 k.until_, .int .i64 k.count, .int .i64 k.root, .int .i64 k.prev, .slice A0 n0 c0, .int .i64 k.keys.need, .slice A1 n1 c1, .int .i64 k.heirs.need, .int .i64 k.wait, .slice A2 n2 c2, .int .i64 k.judge.need, .bool k.frozen] 31).alloc _)
  have HO_1 := Lib.hid (show Mem.Own .i64 V (w.heap.size + 1) V.heap.size (some ⟨w.heap.size + 1, 0, none⟩) 8 8 [ k.zone,  k.epoch,  k.kind,  k.time,  k.until_,  k.count,  k.root,  k.prev] from by
    rw [hV]
    exact (own_lit .i64 (w.alloc (.cells #[.int .i64 k.zone, .int .i64 k.epoch, .int .i64 k.kind, .int .i64 k.time, .int .i64 k.until_, .int .i64 k.count, .int .i64 k.root, .int .i64 k.prev, .slice A0 n0 c0, .int .i64 k.keys.need, .slice A1 n1 c1, .int .i64 k.heirs.need, .int .i64 k.wait, .slice A2 n2 c2, .int .i64 k.judge.need, .bool k.frozen] 31)) (b := w.heap.size + 1) (cs := #[.int .i64 k.zone, .int .i64 k.epoch, .int .i64 k.kind, .int .i64 k.time, .int .i64 k.until_, .int .i64 k.count, .int .i64 k.root, .int .i64 k.prev]) (ty := 3) (zs := [ k.zone,  k.epoch,  k.kind,  k.time,  k.until_,  k.count,  k.root,  k.prev]) (n := 8) (lo := w.heap.size + 1) (by simp) rfl rfl rfl HLIT.out (by simp) (by simp [maxLen])).top)
  have HV := Lib.hid hV
  clear hV
  go_enter Tryz.func55, Tryz.ntmps55
  go_wp2_with fail
  rw [show (w.alloc (.cells #[.int .i64 k.zone, .int .i64 k.epoch, .int .i64 k.kind, .int .i64 k.time, .int .i64 k.until_, .int .i64 k.count, .int .i64 k.root, .int .i64 k.prev, .slice A0 n0 c0, .int .i64 k.keys.need, .slice A1 n1 c1, .int .i64 k.heirs.need, .int .i64 k.wait, .slice A2 n2 c2, .int .i64 k.judge.need, .bool k.frozen] 31)).alloc (.cells #[.int .i64 k.zone, .int .i64 k.epoch, .int .i64 k.kind, .int .i64 k.time, .int .i64 k.until_, .int .i64 k.count, .int .i64 k.root, .int .i64 k.prev] 3) = V from HV.out.symm]
  refine (HK0.out _ HB_1.out).mono ?_
  rintro e W1a ⟨B0, d0, rfl, ho, hb⟩
  have HO_2 := Lib.hid ((HO_1.out.below hb (Nat.le_refl _)).top)
  have HB_2 := Lib.hid (HB_1.out.trans (hb.mono HB_1.out.size))
  have HX_2 := Lib.hid (HX_1.out.below hb HX_1.out.lt)
  have HM0 := Lib.hid ho.rd
  clear ho hb
  have zX0 := HX_2.out.cell (j := 0) rfl
  have zX1 := HX_2.out.cell (j := 1) rfl
  have zX2 := HX_2.out.cell (j := 2) rfl
  have zX3 := HX_2.out.cell (j := 3) rfl
  have zX4 := HX_2.out.cell (j := 4) rfl
  have zX5 := HX_2.out.cell (j := 5) rfl
  have zX6 := HX_2.out.cell (j := 6) rfl
  have zX7 := HX_2.out.cell (j := 7) rfl
  have zX8 := HX_2.out.cell (j := 8) rfl
  have zX9 := HX_2.out.cell (j := 9) rfl
  have zX10 := HX_2.out.cell (j := 10) rfl
  have zX11 := HX_2.out.cell (j := 11) rfl
  have zX12 := HX_2.out.cell (j := 12) rfl
  have zX13 := HX_2.out.cell (j := 13) rfl
  have zX14 := HX_2.out.cell (j := 14) rfl
  have zX15 := HX_2.out.cell (j := 15) rfl
  have hlo2 : w.heap.size + 1 ≤ W1a.heap.size := HX_2.out.lt
  go_wp2_with (first
    | (at_builtin; refine wp_app (k := .i64) (by unfold BI; decide) rfl _ _ rfl rfl HO_2.out rfl HM0.out (by omega) hlo2 ?_; intro AW1 cW1 W1 hown hgr; have hkx := HX_2.out.keep (RepA.Gr.kept hgr HX_2.out.lt (fun a e => by have := HO_2.out.ge a e; omega)); have hkb := HB_2.out.trans (hgr.below HB_2.out.size (fun a e => by have := HO_2.out.ge a e; omega)); have HX_3 := Lib.hid hkx; have HB_3 := Lib.hid hkb; have HO_3 := Lib.hid hown; have hlo3 : w.heap.size + 1 ≤ W1.heap.size := HX_3.out.lt; have y3_0 := HX_3.out.cell (j := 0) rfl; have y3_1 := HX_3.out.cell (j := 1) rfl; have y3_2 := HX_3.out.cell (j := 2) rfl; have y3_3 := HX_3.out.cell (j := 3) rfl; have y3_4 := HX_3.out.cell (j := 4) rfl; have y3_5 := HX_3.out.cell (j := 5) rfl; have y3_6 := HX_3.out.cell (j := 6) rfl; have y3_7 := HX_3.out.cell (j := 7) rfl; have y3_8 := HX_3.out.cell (j := 8) rfl; have y3_9 := HX_3.out.cell (j := 9) rfl; have y3_10 := HX_3.out.cell (j := 10) rfl; have y3_11 := HX_3.out.cell (j := 11) rfl; have y3_12 := HX_3.out.cell (j := 12) rfl; have y3_13 := HX_3.out.cell (j := 13) rfl; have y3_14 := HX_3.out.cell (j := 14) rfl; have y3_15 := HX_3.out.cell (j := 15) rfl; clear hown hgr hkx hkb))
  clear zX0 zX1 zX2 zX3 zX4 zX5 zX6 zX7 zX8 zX9 zX10 zX11 zX12 zX13 zX14 zX15 y3_0 y3_1 y3_2 y3_3 y3_4 y3_5 y3_6 y3_7 y3_8 y3_9 y3_10 y3_11 y3_12 y3_13 y3_14 y3_15
  refine (HK1.out _ HB_3.out).mono ?_
  rintro e W2a ⟨B1, d1, rfl, ho, hb⟩
  have HO_4 := Lib.hid ((HO_3.out.below hb (Nat.le_refl _)).top)
  have HB_4 := Lib.hid (HB_3.out.trans (hb.mono HB_3.out.size))
  have HX_4 := Lib.hid (HX_3.out.below hb HX_3.out.lt)
  have HM1 := Lib.hid ho.rd
  clear ho hb
  have zX0 := HX_4.out.cell (j := 0) rfl
  have zX1 := HX_4.out.cell (j := 1) rfl
  have zX2 := HX_4.out.cell (j := 2) rfl
  have zX3 := HX_4.out.cell (j := 3) rfl
  have zX4 := HX_4.out.cell (j := 4) rfl
  have zX5 := HX_4.out.cell (j := 5) rfl
  have zX6 := HX_4.out.cell (j := 6) rfl
  have zX7 := HX_4.out.cell (j := 7) rfl
  have zX8 := HX_4.out.cell (j := 8) rfl
  have zX9 := HX_4.out.cell (j := 9) rfl
  have zX10 := HX_4.out.cell (j := 10) rfl
  have zX11 := HX_4.out.cell (j := 11) rfl
  have zX12 := HX_4.out.cell (j := 12) rfl
  have zX13 := HX_4.out.cell (j := 13) rfl
  have zX14 := HX_4.out.cell (j := 14) rfl
  have zX15 := HX_4.out.cell (j := 15) rfl
  have hlo4 : w.heap.size + 1 ≤ W2a.heap.size := HX_4.out.lt
  go_wp2_with (first
    | (at_builtin; refine wp_app (k := .i64) (by unfold BI; decide) rfl _ _ rfl rfl HO_4.out rfl HM1.out (by omega) hlo4 ?_; intro AW2 cW2 W2 hown hgr; have hkx := HX_4.out.keep (RepA.Gr.kept hgr HX_4.out.lt (fun a e => by have := HO_4.out.ge a e; omega)); have hkb := HB_4.out.trans (hgr.below HB_4.out.size (fun a e => by have := HO_4.out.ge a e; omega)); have HX_5 := Lib.hid hkx; have HB_5 := Lib.hid hkb; have HO_5 := Lib.hid hown; have hlo5 : w.heap.size + 1 ≤ W2.heap.size := HX_5.out.lt; have y5_0 := HX_5.out.cell (j := 0) rfl; have y5_1 := HX_5.out.cell (j := 1) rfl; have y5_2 := HX_5.out.cell (j := 2) rfl; have y5_3 := HX_5.out.cell (j := 3) rfl; have y5_4 := HX_5.out.cell (j := 4) rfl; have y5_5 := HX_5.out.cell (j := 5) rfl; have y5_6 := HX_5.out.cell (j := 6) rfl; have y5_7 := HX_5.out.cell (j := 7) rfl; have y5_8 := HX_5.out.cell (j := 8) rfl; have y5_9 := HX_5.out.cell (j := 9) rfl; have y5_10 := HX_5.out.cell (j := 10) rfl; have y5_11 := HX_5.out.cell (j := 11) rfl; have y5_12 := HX_5.out.cell (j := 12) rfl; have y5_13 := HX_5.out.cell (j := 13) rfl; have y5_14 := HX_5.out.cell (j := 14) rfl; have y5_15 := HX_5.out.cell (j := 15) rfl; clear hown hgr hkx hkb)
    | (at_builtin; have HO2 := Lib.hid (HO_5.out.alloc (.cells #[.int .i64 k.wait] 3)); have HX2 := Lib.hid (HX_5.out.alloc (.cells #[.int .i64 k.wait] 3)); have HB2 := Lib.hid (HB_5.out.alloc HB_5.out.size (.cells #[.int .i64 k.wait] 3)); refine wp_app (k := .i64) (by unfold BI; decide) rfl _ _ rfl rfl HO2.out rfl (rd_new .i64 W2 HW9.out) (by omega) (by rw [World.size_alloc]; omega) ?_; intro AW3 cW3 W3 hown hgr; have hkx := HX2.out.keep (RepA.Gr.kept hgr HX2.out.lt (fun a e => by have := HO2.out.ge a e; omega)); have hkb := HB2.out.trans (hgr.below HB2.out.size (fun a e => by have := HO2.out.ge a e; omega)); have HX_6 := Lib.hid hkx; have HB_6 := Lib.hid hkb; have HO_6 := Lib.hid hown; have hlo6 : w.heap.size + 1 ≤ W3.heap.size := HX_6.out.lt; have y6_0 := HX_6.out.cell (j := 0) rfl; have y6_1 := HX_6.out.cell (j := 1) rfl; have y6_2 := HX_6.out.cell (j := 2) rfl; have y6_3 := HX_6.out.cell (j := 3) rfl; have y6_4 := HX_6.out.cell (j := 4) rfl; have y6_5 := HX_6.out.cell (j := 5) rfl; have y6_6 := HX_6.out.cell (j := 6) rfl; have y6_7 := HX_6.out.cell (j := 7) rfl; have y6_8 := HX_6.out.cell (j := 8) rfl; have y6_9 := HX_6.out.cell (j := 9) rfl; have y6_10 := HX_6.out.cell (j := 10) rfl; have y6_11 := HX_6.out.cell (j := 11) rfl; have y6_12 := HX_6.out.cell (j := 12) rfl; have y6_13 := HX_6.out.cell (j := 13) rfl; have y6_14 := HX_6.out.cell (j := 14) rfl; have y6_15 := HX_6.out.cell (j := 15) rfl; clear hown hgr hkx hkb; clear HO2 HX2 HB2))
  clear zX0 zX1 zX2 zX3 zX4 zX5 zX6 zX7 zX8 zX9 zX10 zX11 zX12 zX13 zX14 zX15 y5_0 y5_1 y5_2 y5_3 y5_4 y5_5 y5_6 y5_7 y5_8 y5_9 y5_10 y5_11 y5_12 y5_13 y5_14 y5_15 y6_0 y6_1 y6_2 y6_3 y6_4 y6_5 y6_6 y6_7 y6_8 y6_9 y6_10 y6_11 y6_12 y6_13 y6_14 y6_15
  refine (HK2.out _ HB_6.out).mono ?_
  rintro e W4a ⟨B2, d2, rfl, ho, hb⟩
  have HO_7 := Lib.hid ((HO_6.out.below hb (Nat.le_refl _)).top)
  have HB_7 := Lib.hid (HB_6.out.trans (hb.mono HB_6.out.size))
  have HX_7 := Lib.hid (HX_6.out.below hb HX_6.out.lt)
  have HM2 := Lib.hid ho.rd
  clear ho hb
  rcases hf : k.frozen with _ | _
  · skip
    rw [hf] at HX_7 HF
    have zX0 := HX_7.out.cell (j := 0) rfl
    have zX1 := HX_7.out.cell (j := 1) rfl
    have zX2 := HX_7.out.cell (j := 2) rfl
    have zX3 := HX_7.out.cell (j := 3) rfl
    have zX4 := HX_7.out.cell (j := 4) rfl
    have zX5 := HX_7.out.cell (j := 5) rfl
    have zX6 := HX_7.out.cell (j := 6) rfl
    have zX7 := HX_7.out.cell (j := 7) rfl
    have zX8 := HX_7.out.cell (j := 8) rfl
    have zX9 := HX_7.out.cell (j := 9) rfl
    have zX10 := HX_7.out.cell (j := 10) rfl
    have zX11 := HX_7.out.cell (j := 11) rfl
    have zX12 := HX_7.out.cell (j := 12) rfl
    have zX13 := HX_7.out.cell (j := 13) rfl
    have zX14 := HX_7.out.cell (j := 14) rfl
    have zX15 := HX_7.out.cell (j := 15) rfl
    have hlo7 : w.heap.size + 1 ≤ W4a.heap.size := HX_7.out.lt
    go_wp2_with (first
      | (at_builtin; refine wp_app (k := .i64) (by unfold BI; decide) rfl _ _ rfl rfl HO_7.out rfl HM2.out (by omega) hlo7 ?_; intro AW4 cW4 W4 hown hgr; have hkx := HX_7.out.keep (RepA.Gr.kept hgr HX_7.out.lt (fun a e => by have := HO_7.out.ge a e; omega)); have hkb := HB_7.out.trans (hgr.below HB_7.out.size (fun a e => by have := HO_7.out.ge a e; omega)); have HX_8 := Lib.hid hkx; have HB_8 := Lib.hid hkb; have HO_8 := Lib.hid hown; have hlo8 : w.heap.size + 1 ≤ W4.heap.size := HX_8.out.lt; have y8_0 := HX_8.out.cell (j := 0) rfl; have y8_1 := HX_8.out.cell (j := 1) rfl; have y8_2 := HX_8.out.cell (j := 2) rfl; have y8_3 := HX_8.out.cell (j := 3) rfl; have y8_4 := HX_8.out.cell (j := 4) rfl; have y8_5 := HX_8.out.cell (j := 5) rfl; have y8_6 := HX_8.out.cell (j := 6) rfl; have y8_7 := HX_8.out.cell (j := 7) rfl; have y8_8 := HX_8.out.cell (j := 8) rfl; have y8_9 := HX_8.out.cell (j := 9) rfl; have y8_10 := HX_8.out.cell (j := 10) rfl; have y8_11 := HX_8.out.cell (j := 11) rfl; have y8_12 := HX_8.out.cell (j := 12) rfl; have y8_13 := HX_8.out.cell (j := 13) rfl; have y8_14 := HX_8.out.cell (j := 14) rfl; have y8_15 := HX_8.out.cell (j := 15) rfl; clear hown hgr hkx hkb)
      | (at_builtin; have HO2 := Lib.hid (HO_8.out.alloc (.cells #[.int .i64 0] 3)); have HX2 := Lib.hid (HX_8.out.alloc (.cells #[.int .i64 0] 3)); have HB2 := Lib.hid (HB_8.out.alloc HB_8.out.size (.cells #[.int .i64 0] 3)); refine wp_app (k := .i64) (by unfold BI; decide) rfl _ _ rfl rfl HO2.out rfl (rd_new .i64 W4 (inI64 (z := 0) (by omega) (by omega))) (by omega) (by rw [World.size_alloc]; omega) ?_; intro AW5 cW5 W5 hown hgr; have hkx := HX2.out.keep (RepA.Gr.kept hgr HX2.out.lt (fun a e => by have := HO2.out.ge a e; omega)); have hkb := HB2.out.trans (hgr.below HB2.out.size (fun a e => by have := HO2.out.ge a e; omega)); have HX_9 := Lib.hid hkx; have HB_9 := Lib.hid hkb; have HO_9 := Lib.hid hown; have hlo9 : w.heap.size + 1 ≤ W5.heap.size := HX_9.out.lt; have y9_0 := HX_9.out.cell (j := 0) rfl; have y9_1 := HX_9.out.cell (j := 1) rfl; have y9_2 := HX_9.out.cell (j := 2) rfl; have y9_3 := HX_9.out.cell (j := 3) rfl; have y9_4 := HX_9.out.cell (j := 4) rfl; have y9_5 := HX_9.out.cell (j := 5) rfl; have y9_6 := HX_9.out.cell (j := 6) rfl; have y9_7 := HX_9.out.cell (j := 7) rfl; have y9_8 := HX_9.out.cell (j := 8) rfl; have y9_9 := HX_9.out.cell (j := 9) rfl; have y9_10 := HX_9.out.cell (j := 10) rfl; have y9_11 := HX_9.out.cell (j := 11) rfl; have y9_12 := HX_9.out.cell (j := 12) rfl; have y9_13 := HX_9.out.cell (j := 13) rfl; have y9_14 := HX_9.out.cell (j := 14) rfl; have y9_15 := HX_9.out.cell (j := 15) rfl; clear hown hgr hkx hkb; clear HO2 HX2 HB2))
    rw [show 16 + m0 + m1 + m2 = 8 + (m0 + 2) + (m1 + 2) + 1 + (m2 + 2) + 1 by omega]
    go_ret
    exact ⟨AW5, cW5, rfl, by rw [HF.out]; exact HO_9.out.base (by omega), HB_9.out⟩
  · skip
    rw [hf] at HX_7 HF
    have zX0 := HX_7.out.cell (j := 0) rfl
    have zX1 := HX_7.out.cell (j := 1) rfl
    have zX2 := HX_7.out.cell (j := 2) rfl
    have zX3 := HX_7.out.cell (j := 3) rfl
    have zX4 := HX_7.out.cell (j := 4) rfl
    have zX5 := HX_7.out.cell (j := 5) rfl
    have zX6 := HX_7.out.cell (j := 6) rfl
    have zX7 := HX_7.out.cell (j := 7) rfl
    have zX8 := HX_7.out.cell (j := 8) rfl
    have zX9 := HX_7.out.cell (j := 9) rfl
    have zX10 := HX_7.out.cell (j := 10) rfl
    have zX11 := HX_7.out.cell (j := 11) rfl
    have zX12 := HX_7.out.cell (j := 12) rfl
    have zX13 := HX_7.out.cell (j := 13) rfl
    have zX14 := HX_7.out.cell (j := 14) rfl
    have zX15 := HX_7.out.cell (j := 15) rfl
    have hlo7 : w.heap.size + 1 ≤ W4a.heap.size := HX_7.out.lt
    go_wp2_with (first
      | (at_builtin; refine wp_app (k := .i64) (by unfold BI; decide) rfl _ _ rfl rfl HO_7.out rfl HM2.out (by omega) hlo7 ?_; intro AW4 cW4 W4 hown hgr; have hkx := HX_7.out.keep (RepA.Gr.kept hgr HX_7.out.lt (fun a e => by have := HO_7.out.ge a e; omega)); have hkb := HB_7.out.trans (hgr.below HB_7.out.size (fun a e => by have := HO_7.out.ge a e; omega)); have HX_8 := Lib.hid hkx; have HB_8 := Lib.hid hkb; have HO_8 := Lib.hid hown; have hlo8 : w.heap.size + 1 ≤ W4.heap.size := HX_8.out.lt; have y8_0 := HX_8.out.cell (j := 0) rfl; have y8_1 := HX_8.out.cell (j := 1) rfl; have y8_2 := HX_8.out.cell (j := 2) rfl; have y8_3 := HX_8.out.cell (j := 3) rfl; have y8_4 := HX_8.out.cell (j := 4) rfl; have y8_5 := HX_8.out.cell (j := 5) rfl; have y8_6 := HX_8.out.cell (j := 6) rfl; have y8_7 := HX_8.out.cell (j := 7) rfl; have y8_8 := HX_8.out.cell (j := 8) rfl; have y8_9 := HX_8.out.cell (j := 9) rfl; have y8_10 := HX_8.out.cell (j := 10) rfl; have y8_11 := HX_8.out.cell (j := 11) rfl; have y8_12 := HX_8.out.cell (j := 12) rfl; have y8_13 := HX_8.out.cell (j := 13) rfl; have y8_14 := HX_8.out.cell (j := 14) rfl; have y8_15 := HX_8.out.cell (j := 15) rfl; clear hown hgr hkx hkb)
      | (at_builtin; have HO2 := Lib.hid (HO_8.out.alloc (.cells #[.int .i64 1] 3)); have HX2 := Lib.hid (HX_8.out.alloc (.cells #[.int .i64 1] 3)); have HB2 := Lib.hid (HB_8.out.alloc HB_8.out.size (.cells #[.int .i64 1] 3)); refine wp_app (k := .i64) (by unfold BI; decide) rfl _ _ rfl rfl HO2.out rfl (rd_new .i64 W4 (inI64 (z := 1) (by omega) (by omega))) (by omega) (by rw [World.size_alloc]; omega) ?_; intro AW5 cW5 W5 hown hgr; have hkx := HX2.out.keep (RepA.Gr.kept hgr HX2.out.lt (fun a e => by have := HO2.out.ge a e; omega)); have hkb := HB2.out.trans (hgr.below HB2.out.size (fun a e => by have := HO2.out.ge a e; omega)); have HX_9 := Lib.hid hkx; have HB_9 := Lib.hid hkb; have HO_9 := Lib.hid hown; have hlo9 : w.heap.size + 1 ≤ W5.heap.size := HX_9.out.lt; have y9_0 := HX_9.out.cell (j := 0) rfl; have y9_1 := HX_9.out.cell (j := 1) rfl; have y9_2 := HX_9.out.cell (j := 2) rfl; have y9_3 := HX_9.out.cell (j := 3) rfl; have y9_4 := HX_9.out.cell (j := 4) rfl; have y9_5 := HX_9.out.cell (j := 5) rfl; have y9_6 := HX_9.out.cell (j := 6) rfl; have y9_7 := HX_9.out.cell (j := 7) rfl; have y9_8 := HX_9.out.cell (j := 8) rfl; have y9_9 := HX_9.out.cell (j := 9) rfl; have y9_10 := HX_9.out.cell (j := 10) rfl; have y9_11 := HX_9.out.cell (j := 11) rfl; have y9_12 := HX_9.out.cell (j := 12) rfl; have y9_13 := HX_9.out.cell (j := 13) rfl; have y9_14 := HX_9.out.cell (j := 14) rfl; have y9_15 := HX_9.out.cell (j := 15) rfl; clear hown hgr hkx hkb; clear HO2 HX2 HB2))
    rw [show 16 + m0 + m1 + m2 = 8 + (m0 + 2) + (m1 + 2) + 1 + (m2 + 2) + 1 by omega]
    go_ret
    exact ⟨AW5, cW5, rfl, by rw [HF.out]; exact HO_9.out.base (by omega), HB_9.out⟩
set_option maxHeartbeats 8000000 in
theorem sIsHead_any (cs : List Value) (k : Head) (w : World) (h : RHead.rd w (Lt w.heap.size) cs k) (hn : totHead k ≤ 1048576) :
    Calls Tryz.prog 42 #[.agg cs.toArray] w fun e w' => e = .returned (.bool (isHd k)) ∧ Below w.heap.size w w' := by
  obtain ⟨A0, n0, c0, A1, n1, c1, A2, n2, c2, rfl, ⟨i1, i2, i3, i4, i5, i6, i7, i8, i9⟩, h1, h2, h3⟩ := head_parts h
  unfold totHead totKeys at hn
  have HI := Lib.hid (fun (x a b : Int) w1 => C01.l1In_any x a b w1)
  have HK0 := Lib.hid (fun w1 (hb : Below w.heap.size w w1) => sIsKeys_any [.slice A0 n0 c0, .int .i64 k.keys.need] k.keys w1 (upK h1 hb) (by omega))
  have HK1 := Lib.hid (fun w1 (hb : Below w.heap.size w w1) => sIsKeys_any [.slice A1 n1 c1, .int .i64 k.heirs.need] k.heirs w1 (upK h2 hb) (by omega))
  have HK2 := Lib.hid (fun w1 (hb : Below w.heap.size w w1) => sIsKeys_any [.slice A2 n2 c2, .int .i64 k.judge.need] k.judge w1 (upK h3 hb) (by omega))
  have HN1 := Lib.hid (fun w1 (hb : Below w.heap.size w w1) => sNoKeys_any [.slice A1 n1 c1, .int .i64 k.heirs.need] k.heirs w1 (upK h2 hb))
  have HN2 := Lib.hid (fun w1 (hb : Below w.heap.size w w1) => sNoKeys_any [.slice A2 n2 c2, .int .i64 k.judge.need] k.judge w1 (upK h3 hb))
  have hti : -9223372036854775808 ≤ k.time ∧ k.time ≤ 9223372036854775807 := i4
  have hui : -9223372036854775808 ≤ k.until_ ∧ k.until_ ≤ 9223372036854775807 := i5
  obtain ⟨r, hr⟩ : ∃ r : Bool, isHd k = r := ⟨_, rfl⟩
  rw [hr]
  unfold isHd at hr
  have HRR := Lib.hid hr
  clear h h1 h2 h3 i1 i2 i3 i4 i5 i6 i7 i8 i9 hr hn
  obtain ⟨bk0, hbk0⟩ : ∃ x : Bool, isKeys k.keys = x := ⟨_, rfl⟩
  obtain ⟨bk1, hbk1⟩ : ∃ x : Bool, isKeys k.heirs = x := ⟨_, rfl⟩
  obtain ⟨bk2, hbk2⟩ : ∃ x : Bool, isKeys k.judge = x := ⟨_, rfl⟩
  obtain ⟨bn1, hbn1⟩ : ∃ x : Bool, noK k.heirs = x := ⟨_, rfl⟩
  obtain ⟨bn2, hbn2⟩ : ∃ x : Bool, noK k.judge = x := ⟨_, rfl⟩
  rw [hbk0] at HK0 HRR
  rw [hbk1] at HK1 HRR
  rw [hbk2] at HK2 HRR
  rw [hbn1] at HN1 HRR
  rw [hbn2] at HN2 HRR
  clear hbk0 hbk1 hbk2 hbn1 hbn2
  obtain ⟨V, hV⟩ : ∃ V, V = w.alloc (.cells #[.int .i64 k.zone, .int .i64 k.epoch, .int .i64 k.kind, .int .i64 k.time, .int .i64 k.until_, .int .i64 k.count, .int .i64 k.root, .int .i64 k.prev, .slice A0 n0 c0, .int .i64 k.keys.need, .slice A1 n1 c1, .int .i64 k.heirs.need, .int .i64 k.wait, .slice A2 n2 c2, .int .i64 k.judge.need, .bool k.frozen] 31) := ⟨_, rfl⟩
  have HB_1 := Lib.hid (show Below w.heap.size w V from by
    rw [hV]
    exact (Below.refl _ _).alloc (by first | (simp; done) | (simp; omega)) _)
  have HX_1 := Lib.hid (show Box V (w.heap.size) [.int .i64 k.zone, .int .i64 k.epoch, .int .i64 k.kind, .int .i64 k.time, .int .i64 k.until_, .int .i64 k.count, .int .i64 k.root, .int .i64 k.prev, .slice A0 n0 c0, .int .i64 k.keys.need, .slice A1 n1 c1, .int .i64 k.heirs.need, .int .i64 k.wait, .slice A2 n2 c2, .int .i64 k.judge.need, .bool k.frozen] from by
    rw [hV]
    have := (Box.new w #[.int .i64 k.zone, .int .i64 k.epoch, .int .i64 k.kind, .int .i64 k.time, .int .i64 k.until_, .int .i64 k.count, .int .i64 k.root, .int .i64 k.prev, .slice A0 n0 c0, .int .i64 k.keys.need, .slice A1 n1 c1, .int .i64 k.heirs.need, .int .i64 k.wait, .slice A2 n2 c2, .int .i64 k.judge.need, .bool k.frozen] 31)
    simpa using this)
  have HV := Lib.hid hV
  clear hV
  go_enter Tryz.func42, Tryz.ntmps42
  go_wp2_with fail
  rw [show w.alloc (.cells #[.int .i64 k.zone, .int .i64 k.epoch, .int .i64 k.kind, .int .i64 k.time, .int .i64 k.until_, .int .i64 k.count, .int .i64 k.root, .int .i64 k.prev, .slice A0 n0 c0, .int .i64 k.keys.need, .slice A1 n1 c1, .int .i64 k.heirs.need, .int .i64 k.wait, .slice A2 n2 c2, .int .i64 k.judge.need, .bool k.frozen] 31) = V from HV.out.symm]
  obtain ⟨bzone, hbzone⟩ : ∃ x : Bool, inR k.zone 0 2147483646 = x := ⟨_, rfl⟩
  have cbzone := HI.out k.zone 0 2147483646 V
  rw [hbzone] at cbzone HRR
  refine cbzone.mono ?_
  rintro e wq ⟨rfl, rfl⟩
  clear cbzone
  rcases bzone with _ | _
  · clear hbzone
    go_wp2
    go_ret
    exact ⟨by rw [← HRR.out]; first | rfl | (simp; done), HB_1.out⟩
  · clear hbzone
    have zX0 := HX_1.out.cell (j := 0) rfl
    have zX1 := HX_1.out.cell (j := 1) rfl
    have zX2 := HX_1.out.cell (j := 2) rfl
    have zX3 := HX_1.out.cell (j := 3) rfl
    have zX4 := HX_1.out.cell (j := 4) rfl
    have zX5 := HX_1.out.cell (j := 5) rfl
    have zX6 := HX_1.out.cell (j := 6) rfl
    have zX7 := HX_1.out.cell (j := 7) rfl
    have zX8 := HX_1.out.cell (j := 8) rfl
    have zX9 := HX_1.out.cell (j := 9) rfl
    have zX10 := HX_1.out.cell (j := 10) rfl
    have zX11 := HX_1.out.cell (j := 11) rfl
    have zX12 := HX_1.out.cell (j := 12) rfl
    have zX13 := HX_1.out.cell (j := 13) rfl
    have zX14 := HX_1.out.cell (j := 14) rfl
    have zX15 := HX_1.out.cell (j := 15) rfl
    go_wp2_with (refine LD.wp_ld LD.big_Head rfl _ rfl rfl HX_1.out rfl ?_)
    clear zX0 zX1 zX2 zX3 zX4 zX5 zX6 zX7 zX8 zX9 zX10 zX11 zX12 zX13 zX14 zX15
    obtain ⟨broot, hbroot⟩ : ∃ x : Bool, inR k.root 0 2147483646 = x := ⟨_, rfl⟩
    have cbroot := HI.out k.root 0 2147483646 V
    rw [hbroot] at cbroot HRR
    refine cbroot.mono ?_
    rintro e wq ⟨rfl, rfl⟩
    clear cbroot
    rcases broot with _ | _
    · clear hbroot
      go_wp2
      go_ret
      exact ⟨by rw [← HRR.out]; first | rfl | (simp; done), HB_1.out⟩
    · clear hbroot
      have zX0 := HX_1.out.cell (j := 0) rfl
      have zX1 := HX_1.out.cell (j := 1) rfl
      have zX2 := HX_1.out.cell (j := 2) rfl
      have zX3 := HX_1.out.cell (j := 3) rfl
      have zX4 := HX_1.out.cell (j := 4) rfl
      have zX5 := HX_1.out.cell (j := 5) rfl
      have zX6 := HX_1.out.cell (j := 6) rfl
      have zX7 := HX_1.out.cell (j := 7) rfl
      have zX8 := HX_1.out.cell (j := 8) rfl
      have zX9 := HX_1.out.cell (j := 9) rfl
      have zX10 := HX_1.out.cell (j := 10) rfl
      have zX11 := HX_1.out.cell (j := 11) rfl
      have zX12 := HX_1.out.cell (j := 12) rfl
      have zX13 := HX_1.out.cell (j := 13) rfl
      have zX14 := HX_1.out.cell (j := 14) rfl
      have zX15 := HX_1.out.cell (j := 15) rfl
      go_wp2_with (refine LD.wp_ld LD.big_Head rfl _ rfl rfl HX_1.out rfl ?_)
      clear zX0 zX1 zX2 zX3 zX4 zX5 zX6 zX7 zX8 zX9 zX10 zX11 zX12 zX13 zX14 zX15
      obtain ⟨bprev, hbprev⟩ : ∃ x : Bool, inR k.prev 0 2147483646 = x := ⟨_, rfl⟩
      have cbprev := HI.out k.prev 0 2147483646 V
      rw [hbprev] at cbprev HRR
      refine cbprev.mono ?_
      rintro e wq ⟨rfl, rfl⟩
      clear cbprev
      rcases bprev with _ | _
      · clear hbprev
        go_wp2
        go_ret
        exact ⟨by rw [← HRR.out]; first | rfl | (simp; done), HB_1.out⟩
      · clear hbprev
        have zX0 := HX_1.out.cell (j := 0) rfl
        have zX1 := HX_1.out.cell (j := 1) rfl
        have zX2 := HX_1.out.cell (j := 2) rfl
        have zX3 := HX_1.out.cell (j := 3) rfl
        have zX4 := HX_1.out.cell (j := 4) rfl
        have zX5 := HX_1.out.cell (j := 5) rfl
        have zX6 := HX_1.out.cell (j := 6) rfl
        have zX7 := HX_1.out.cell (j := 7) rfl
        have zX8 := HX_1.out.cell (j := 8) rfl
        have zX9 := HX_1.out.cell (j := 9) rfl
        have zX10 := HX_1.out.cell (j := 10) rfl
        have zX11 := HX_1.out.cell (j := 11) rfl
        have zX12 := HX_1.out.cell (j := 12) rfl
        have zX13 := HX_1.out.cell (j := 13) rfl
        have zX14 := HX_1.out.cell (j := 14) rfl
        have zX15 := HX_1.out.cell (j := 15) rfl
        go_wp2_with (refine LD.wp_ld LD.big_Head rfl _ rfl rfl HX_1.out rfl ?_)
        clear zX0 zX1 zX2 zX3 zX4 zX5 zX6 zX7 zX8 zX9 zX10 zX11 zX12 zX13 zX14 zX15
        obtain ⟨bepoch, hbepoch⟩ : ∃ x : Bool, inR k.epoch 0 200 = x := ⟨_, rfl⟩
        have cbepoch := HI.out k.epoch 0 200 V
        rw [hbepoch] at cbepoch HRR
        refine cbepoch.mono ?_
        rintro e wq ⟨rfl, rfl⟩
        clear cbepoch
        rcases bepoch with _ | _
        · clear hbepoch
          go_wp2
          go_ret
          exact ⟨by rw [← HRR.out]; first | rfl | (simp; done), HB_1.out⟩
        · clear hbepoch
          have zX0 := HX_1.out.cell (j := 0) rfl
          have zX1 := HX_1.out.cell (j := 1) rfl
          have zX2 := HX_1.out.cell (j := 2) rfl
          have zX3 := HX_1.out.cell (j := 3) rfl
          have zX4 := HX_1.out.cell (j := 4) rfl
          have zX5 := HX_1.out.cell (j := 5) rfl
          have zX6 := HX_1.out.cell (j := 6) rfl
          have zX7 := HX_1.out.cell (j := 7) rfl
          have zX8 := HX_1.out.cell (j := 8) rfl
          have zX9 := HX_1.out.cell (j := 9) rfl
          have zX10 := HX_1.out.cell (j := 10) rfl
          have zX11 := HX_1.out.cell (j := 11) rfl
          have zX12 := HX_1.out.cell (j := 12) rfl
          have zX13 := HX_1.out.cell (j := 13) rfl
          have zX14 := HX_1.out.cell (j := 14) rfl
          have zX15 := HX_1.out.cell (j := 15) rfl
          go_wp2_with (refine LD.wp_ld LD.big_Head rfl _ rfl rfl HX_1.out rfl ?_)
          clear zX0 zX1 zX2 zX3 zX4 zX5 zX6 zX7 zX8 zX9 zX10 zX11 zX12 zX13 zX14 zX15
          obtain ⟨bkind, hbkind⟩ : ∃ x : Bool, inR k.kind 1 3 = x := ⟨_, rfl⟩
          have cbkind := HI.out k.kind 1 3 V
          rw [hbkind] at cbkind HRR
          refine cbkind.mono ?_
          rintro e wq ⟨rfl, rfl⟩
          clear cbkind
          rcases bkind with _ | _
          · clear hbkind
            go_wp2
            go_ret
            exact ⟨by rw [← HRR.out]; first | rfl | (simp; done), HB_1.out⟩
          · clear hbkind
            have zX0 := HX_1.out.cell (j := 0) rfl
            have zX1 := HX_1.out.cell (j := 1) rfl
            have zX2 := HX_1.out.cell (j := 2) rfl
            have zX3 := HX_1.out.cell (j := 3) rfl
            have zX4 := HX_1.out.cell (j := 4) rfl
            have zX5 := HX_1.out.cell (j := 5) rfl
            have zX6 := HX_1.out.cell (j := 6) rfl
            have zX7 := HX_1.out.cell (j := 7) rfl
            have zX8 := HX_1.out.cell (j := 8) rfl
            have zX9 := HX_1.out.cell (j := 9) rfl
            have zX10 := HX_1.out.cell (j := 10) rfl
            have zX11 := HX_1.out.cell (j := 11) rfl
            have zX12 := HX_1.out.cell (j := 12) rfl
            have zX13 := HX_1.out.cell (j := 13) rfl
            have zX14 := HX_1.out.cell (j := 14) rfl
            have zX15 := HX_1.out.cell (j := 15) rfl
            go_wp2_with (refine LD.wp_ld LD.big_Head rfl _ rfl rfl HX_1.out rfl ?_)
            clear zX0 zX1 zX2 zX3 zX4 zX5 zX6 zX7 zX8 zX9 zX10 zX11 zX12 zX13 zX14 zX15
            obtain ⟨btime, htime⟩ : ∃ x : Bool, inR k.time 0 100000 = x := ⟨_, rfl⟩
            have cbtime := HI.out k.time 0 100000 V
            rw [htime] at cbtime HRR
            refine cbtime.mono ?_
            rintro e wq ⟨rfl, rfl⟩
            clear cbtime
            rcases btime with _ | _
            · skip
              go_wp2
              go_ret
              exact ⟨by rw [← HRR.out]; first | rfl | (simp; done), HB_1.out⟩
            · skip
              have zX0 := HX_1.out.cell (j := 0) rfl
              have zX1 := HX_1.out.cell (j := 1) rfl
              have zX2 := HX_1.out.cell (j := 2) rfl
              have zX3 := HX_1.out.cell (j := 3) rfl
              have zX4 := HX_1.out.cell (j := 4) rfl
              have zX5 := HX_1.out.cell (j := 5) rfl
              have zX6 := HX_1.out.cell (j := 6) rfl
              have zX7 := HX_1.out.cell (j := 7) rfl
              have zX8 := HX_1.out.cell (j := 8) rfl
              have zX9 := HX_1.out.cell (j := 9) rfl
              have zX10 := HX_1.out.cell (j := 10) rfl
              have zX11 := HX_1.out.cell (j := 11) rfl
              have zX12 := HX_1.out.cell (j := 12) rfl
              have zX13 := HX_1.out.cell (j := 13) rfl
              have zX14 := HX_1.out.cell (j := 14) rfl
              have zX15 := HX_1.out.cell (j := 15) rfl
              go_wp2_with (refine LD.wp_ld LD.big_Head rfl _ rfl rfl HX_1.out rfl ?_)
              clear zX0 zX1 zX2 zX3 zX4 zX5 zX6 zX7 zX8 zX9 zX10 zX11 zX12 zX13 zX14 zX15
              obtain ⟨buntil, huntil⟩ : ∃ x : Bool, inR k.until_ k.time 100000 = x := ⟨_, rfl⟩
              have cbuntil := HI.out k.until_ k.time 100000 V
              rw [huntil] at cbuntil HRR
              refine cbuntil.mono ?_
              rintro e wq ⟨rfl, rfl⟩
              clear cbuntil
              rcases buntil with _ | _
              · skip
                go_wp2
                go_ret
                exact ⟨by rw [← HRR.out]; first | rfl | (simp; done), HB_1.out⟩
              · skip
                have htu : 0 ≤ k.time ∧ k.time ≤ 100000 ∧ k.time ≤ k.until_ ∧ k.until_ ≤ 100000 := by
                  have g1 := htime
                  have g2 := huntil
                  unfold inR at g1 g2
                  simp at g1 g2
                  omega
                obtain ⟨t0, t1, t2, t3⟩ := htu
                clear htime huntil
                by_cases hsp : k.until_ - k.time ≤ 200
                · have hsd : decide (k.until_ - k.time ≤ 200) = true := decide_eq_true hsp
                  have hs2 : ¬ (200 : Int) < k.until_ - k.time := by omega
                  rw [hsd] at HRR
                  have zX0 := HX_1.out.cell (j := 0) rfl
                  have zX1 := HX_1.out.cell (j := 1) rfl
                  have zX2 := HX_1.out.cell (j := 2) rfl
                  have zX3 := HX_1.out.cell (j := 3) rfl
                  have zX4 := HX_1.out.cell (j := 4) rfl
                  have zX5 := HX_1.out.cell (j := 5) rfl
                  have zX6 := HX_1.out.cell (j := 6) rfl
                  have zX7 := HX_1.out.cell (j := 7) rfl
                  have zX8 := HX_1.out.cell (j := 8) rfl
                  have zX9 := HX_1.out.cell (j := 9) rfl
                  have zX10 := HX_1.out.cell (j := 10) rfl
                  have zX11 := HX_1.out.cell (j := 11) rfl
                  have zX12 := HX_1.out.cell (j := 12) rfl
                  have zX13 := HX_1.out.cell (j := 13) rfl
                  have zX14 := HX_1.out.cell (j := 14) rfl
                  have zX15 := HX_1.out.cell (j := 15) rfl
                  go_wp2_with (refine LD.wp_ld LD.big_Head rfl _ rfl rfl HX_1.out rfl ?_)
                  clear zX0 zX1 zX2 zX3 zX4 zX5 zX6 zX7 zX8 zX9 zX10 zX11 zX12 zX13 zX14 zX15
                  obtain ⟨bcount, hbcount⟩ : ∃ x : Bool, inR k.count 0 12 = x := ⟨_, rfl⟩
                  have cbcount := HI.out k.count 0 12 V
                  rw [hbcount] at cbcount HRR
                  refine cbcount.mono ?_
                  rintro e wq ⟨rfl, rfl⟩
                  clear cbcount
                  rcases bcount with _ | _
                  · clear hbcount
                    go_wp2
                    go_ret
                    exact ⟨by rw [← HRR.out]; first | rfl | (simp; done), HB_1.out⟩
                  · clear hbcount
                    have zX0 := HX_1.out.cell (j := 0) rfl
                    have zX1 := HX_1.out.cell (j := 1) rfl
                    have zX2 := HX_1.out.cell (j := 2) rfl
                    have zX3 := HX_1.out.cell (j := 3) rfl
                    have zX4 := HX_1.out.cell (j := 4) rfl
                    have zX5 := HX_1.out.cell (j := 5) rfl
                    have zX6 := HX_1.out.cell (j := 6) rfl
                    have zX7 := HX_1.out.cell (j := 7) rfl
                    have zX8 := HX_1.out.cell (j := 8) rfl
                    have zX9 := HX_1.out.cell (j := 9) rfl
                    have zX10 := HX_1.out.cell (j := 10) rfl
                    have zX11 := HX_1.out.cell (j := 11) rfl
                    have zX12 := HX_1.out.cell (j := 12) rfl
                    have zX13 := HX_1.out.cell (j := 13) rfl
                    have zX14 := HX_1.out.cell (j := 14) rfl
                    have zX15 := HX_1.out.cell (j := 15) rfl
                    go_wp2_with (refine LD.wp_ld LD.big_Head rfl _ rfl rfl HX_1.out rfl ?_)
                    clear zX0 zX1 zX2 zX3 zX4 zX5 zX6 zX7 zX8 zX9 zX10 zX11 zX12 zX13 zX14 zX15
                    refine (HK0.out _ HB_1.out).mono ?_
                    rintro e W2 ⟨rfl, hb⟩
                    have HB_2 := Lib.hid (HB_1.out.trans (hb.mono HB_1.out.size))
                    have HX_2 := Lib.hid (HX_1.out.below hb HX_1.out.lt)
                    clear hb
                    rcases bk0 with _ | _
                    · skip
                      go_wp2
                      go_ret
                      exact ⟨by rw [← HRR.out]; first | rfl | (simp; done), HB_2.out⟩
                    · skip
                      have zX0 := HX_2.out.cell (j := 0) rfl
                      have zX1 := HX_2.out.cell (j := 1) rfl
                      have zX2 := HX_2.out.cell (j := 2) rfl
                      have zX3 := HX_2.out.cell (j := 3) rfl
                      have zX4 := HX_2.out.cell (j := 4) rfl
                      have zX5 := HX_2.out.cell (j := 5) rfl
                      have zX6 := HX_2.out.cell (j := 6) rfl
                      have zX7 := HX_2.out.cell (j := 7) rfl
                      have zX8 := HX_2.out.cell (j := 8) rfl
                      have zX9 := HX_2.out.cell (j := 9) rfl
                      have zX10 := HX_2.out.cell (j := 10) rfl
                      have zX11 := HX_2.out.cell (j := 11) rfl
                      have zX12 := HX_2.out.cell (j := 12) rfl
                      have zX13 := HX_2.out.cell (j := 13) rfl
                      have zX14 := HX_2.out.cell (j := 14) rfl
                      have zX15 := HX_2.out.cell (j := 15) rfl
                      go_wp2_with (refine LD.wp_ld LD.big_Head rfl _ rfl rfl HX_2.out rfl ?_)
                      clear zX0 zX1 zX2 zX3 zX4 zX5 zX6 zX7 zX8 zX9 zX10 zX11 zX12 zX13 zX14 zX15
                      refine (HN1.out _ HB_2.out).mono ?_
                      rintro e W3 ⟨rfl, hb⟩
                      have HB_3 := Lib.hid (HB_2.out.trans (hb.mono HB_2.out.size))
                      have HX_3 := Lib.hid (HX_2.out.below hb HX_2.out.lt)
                      clear hb
                      rcases bn1 with _ | _
                      · skip
                        have zX0 := HX_3.out.cell (j := 0) rfl
                        have zX1 := HX_3.out.cell (j := 1) rfl
                        have zX2 := HX_3.out.cell (j := 2) rfl
                        have zX3 := HX_3.out.cell (j := 3) rfl
                        have zX4 := HX_3.out.cell (j := 4) rfl
                        have zX5 := HX_3.out.cell (j := 5) rfl
                        have zX6 := HX_3.out.cell (j := 6) rfl
                        have zX7 := HX_3.out.cell (j := 7) rfl
                        have zX8 := HX_3.out.cell (j := 8) rfl
                        have zX9 := HX_3.out.cell (j := 9) rfl
                        have zX10 := HX_3.out.cell (j := 10) rfl
                        have zX11 := HX_3.out.cell (j := 11) rfl
                        have zX12 := HX_3.out.cell (j := 12) rfl
                        have zX13 := HX_3.out.cell (j := 13) rfl
                        have zX14 := HX_3.out.cell (j := 14) rfl
                        have zX15 := HX_3.out.cell (j := 15) rfl
                        go_wp2_with (refine LD.wp_ld LD.big_Head rfl _ rfl rfl HX_3.out rfl ?_)
                        clear zX0 zX1 zX2 zX3 zX4 zX5 zX6 zX7 zX8 zX9 zX10 zX11 zX12 zX13 zX14 zX15
                        refine (HK1.out _ HB_3.out).mono ?_
                        rintro e W4 ⟨rfl, hb⟩
                        have HB_4 := Lib.hid (HB_3.out.trans (hb.mono HB_3.out.size))
                        have HX_4 := Lib.hid (HX_3.out.below hb HX_3.out.lt)
                        clear hb
                        rcases bk1 with _ | _
                        · skip
                          go_wp2
                          go_ret
                          exact ⟨by rw [← HRR.out]; first | rfl | (simp; done), HB_4.out⟩
                        · skip
                          have zX0 := HX_4.out.cell (j := 0) rfl
                          have zX1 := HX_4.out.cell (j := 1) rfl
                          have zX2 := HX_4.out.cell (j := 2) rfl
                          have zX3 := HX_4.out.cell (j := 3) rfl
                          have zX4 := HX_4.out.cell (j := 4) rfl
                          have zX5 := HX_4.out.cell (j := 5) rfl
                          have zX6 := HX_4.out.cell (j := 6) rfl
                          have zX7 := HX_4.out.cell (j := 7) rfl
                          have zX8 := HX_4.out.cell (j := 8) rfl
                          have zX9 := HX_4.out.cell (j := 9) rfl
                          have zX10 := HX_4.out.cell (j := 10) rfl
                          have zX11 := HX_4.out.cell (j := 11) rfl
                          have zX12 := HX_4.out.cell (j := 12) rfl
                          have zX13 := HX_4.out.cell (j := 13) rfl
                          have zX14 := HX_4.out.cell (j := 14) rfl
                          have zX15 := HX_4.out.cell (j := 15) rfl
                          go_wp2_with (refine LD.wp_ld LD.big_Head rfl _ rfl rfl HX_4.out rfl ?_)
                          clear zX0 zX1 zX2 zX3 zX4 zX5 zX6 zX7 zX8 zX9 zX10 zX11 zX12 zX13 zX14 zX15
                          obtain ⟨bwait, hbwait⟩ : ∃ x : Bool, inR k.wait 1 500 = x := ⟨_, rfl⟩
                          have cbwait := HI.out k.wait 1 500 W4
                          rw [hbwait] at cbwait HRR
                          refine cbwait.mono ?_
                          rintro e wq ⟨rfl, rfl⟩
                          clear cbwait
                          rcases bwait with _ | _
                          · clear hbwait
                            go_wp2
                            go_ret
                            exact ⟨by rw [← HRR.out]; first | rfl | (simp; done), HB_4.out⟩
                          · clear hbwait
                            have zX0 := HX_4.out.cell (j := 0) rfl
                            have zX1 := HX_4.out.cell (j := 1) rfl
                            have zX2 := HX_4.out.cell (j := 2) rfl
                            have zX3 := HX_4.out.cell (j := 3) rfl
                            have zX4 := HX_4.out.cell (j := 4) rfl
                            have zX5 := HX_4.out.cell (j := 5) rfl
                            have zX6 := HX_4.out.cell (j := 6) rfl
                            have zX7 := HX_4.out.cell (j := 7) rfl
                            have zX8 := HX_4.out.cell (j := 8) rfl
                            have zX9 := HX_4.out.cell (j := 9) rfl
                            have zX10 := HX_4.out.cell (j := 10) rfl
                            have zX11 := HX_4.out.cell (j := 11) rfl
                            have zX12 := HX_4.out.cell (j := 12) rfl
                            have zX13 := HX_4.out.cell (j := 13) rfl
                            have zX14 := HX_4.out.cell (j := 14) rfl
                            have zX15 := HX_4.out.cell (j := 15) rfl
                            go_wp2_with (refine LD.wp_ld LD.big_Head rfl _ rfl rfl HX_4.out rfl ?_)
                            clear zX0 zX1 zX2 zX3 zX4 zX5 zX6 zX7 zX8 zX9 zX10 zX11 zX12 zX13 zX14 zX15
                            refine (HK2.out _ HB_4.out).mono ?_
                            rintro e W5 ⟨rfl, hb⟩
                            have HB_5 := Lib.hid (HB_4.out.trans (hb.mono HB_4.out.size))
                            have HX_5 := Lib.hid (HX_4.out.below hb HX_4.out.lt)
                            clear hb
                            rcases bk2 with _ | _
                            · skip
                              have zX0 := HX_5.out.cell (j := 0) rfl
                              have zX1 := HX_5.out.cell (j := 1) rfl
                              have zX2 := HX_5.out.cell (j := 2) rfl
                              have zX3 := HX_5.out.cell (j := 3) rfl
                              have zX4 := HX_5.out.cell (j := 4) rfl
                              have zX5 := HX_5.out.cell (j := 5) rfl
                              have zX6 := HX_5.out.cell (j := 6) rfl
                              have zX7 := HX_5.out.cell (j := 7) rfl
                              have zX8 := HX_5.out.cell (j := 8) rfl
                              have zX9 := HX_5.out.cell (j := 9) rfl
                              have zX10 := HX_5.out.cell (j := 10) rfl
                              have zX11 := HX_5.out.cell (j := 11) rfl
                              have zX12 := HX_5.out.cell (j := 12) rfl
                              have zX13 := HX_5.out.cell (j := 13) rfl
                              have zX14 := HX_5.out.cell (j := 14) rfl
                              have zX15 := HX_5.out.cell (j := 15) rfl
                              go_wp2_with (refine LD.wp_ld LD.big_Head rfl _ rfl rfl HX_5.out rfl ?_)
                              clear zX0 zX1 zX2 zX3 zX4 zX5 zX6 zX7 zX8 zX9 zX10 zX11 zX12 zX13 zX14 zX15
                              refine (HN2.out _ HB_5.out).mono ?_
                              rintro e W6 ⟨rfl, hb⟩
                              have HB_6 := Lib.hid (HB_5.out.trans (hb.mono HB_5.out.size))
                              have HX_6 := Lib.hid (HX_5.out.below hb HX_5.out.lt)
                              clear hb
                              rcases bn2 with _ | _
                              · skip
                                go_wp2
                                go_ret
                                exact ⟨by rw [← HRR.out]; first | rfl | (simp; done), HB_6.out⟩
                              · skip
                                have zX0 := HX_6.out.cell (j := 0) rfl
                                have zX1 := HX_6.out.cell (j := 1) rfl
                                have zX2 := HX_6.out.cell (j := 2) rfl
                                have zX3 := HX_6.out.cell (j := 3) rfl
                                have zX4 := HX_6.out.cell (j := 4) rfl
                                have zX5 := HX_6.out.cell (j := 5) rfl
                                have zX6 := HX_6.out.cell (j := 6) rfl
                                have zX7 := HX_6.out.cell (j := 7) rfl
                                have zX8 := HX_6.out.cell (j := 8) rfl
                                have zX9 := HX_6.out.cell (j := 9) rfl
                                have zX10 := HX_6.out.cell (j := 10) rfl
                                have zX11 := HX_6.out.cell (j := 11) rfl
                                have zX12 := HX_6.out.cell (j := 12) rfl
                                have zX13 := HX_6.out.cell (j := 13) rfl
                                have zX14 := HX_6.out.cell (j := 14) rfl
                                have zX15 := HX_6.out.cell (j := 15) rfl
                                go_wp2
                                go_ret
                                exact ⟨by rw [← HRR.out]; first | rfl | (simp; done), HB_6.out⟩
                            · skip
                              go_wp2
                              go_ret
                              exact ⟨by rw [← HRR.out]; first | rfl | (simp; done), HB_5.out⟩
                      · skip
                        by_cases hw : k.wait = 0
                        · have hwd : decide (k.wait = 0) = true := decide_eq_true hw
                          rw [hwd] at HRR
                          have zX0 := HX_3.out.cell (j := 0) rfl
                          have zX1 := HX_3.out.cell (j := 1) rfl
                          have zX2 := HX_3.out.cell (j := 2) rfl
                          have zX3 := HX_3.out.cell (j := 3) rfl
                          have zX4 := HX_3.out.cell (j := 4) rfl
                          have zX5 := HX_3.out.cell (j := 5) rfl
                          have zX6 := HX_3.out.cell (j := 6) rfl
                          have zX7 := HX_3.out.cell (j := 7) rfl
                          have zX8 := HX_3.out.cell (j := 8) rfl
                          have zX9 := HX_3.out.cell (j := 9) rfl
                          have zX10 := HX_3.out.cell (j := 10) rfl
                          have zX11 := HX_3.out.cell (j := 11) rfl
                          have zX12 := HX_3.out.cell (j := 12) rfl
                          have zX13 := HX_3.out.cell (j := 13) rfl
                          have zX14 := HX_3.out.cell (j := 14) rfl
                          have zX15 := HX_3.out.cell (j := 15) rfl
                          go_wp2_with (refine LD.wp_ld LD.big_Head rfl _ rfl rfl HX_3.out rfl ?_)
                          clear zX0 zX1 zX2 zX3 zX4 zX5 zX6 zX7 zX8 zX9 zX10 zX11 zX12 zX13 zX14 zX15
                          refine (HK2.out _ HB_3.out).mono ?_
                          rintro e W4 ⟨rfl, hb⟩
                          have HB_4 := Lib.hid (HB_3.out.trans (hb.mono HB_3.out.size))
                          have HX_4 := Lib.hid (HX_3.out.below hb HX_3.out.lt)
                          clear hb
                          rcases bk2 with _ | _
                          · skip
                            have zX0 := HX_4.out.cell (j := 0) rfl
                            have zX1 := HX_4.out.cell (j := 1) rfl
                            have zX2 := HX_4.out.cell (j := 2) rfl
                            have zX3 := HX_4.out.cell (j := 3) rfl
                            have zX4 := HX_4.out.cell (j := 4) rfl
                            have zX5 := HX_4.out.cell (j := 5) rfl
                            have zX6 := HX_4.out.cell (j := 6) rfl
                            have zX7 := HX_4.out.cell (j := 7) rfl
                            have zX8 := HX_4.out.cell (j := 8) rfl
                            have zX9 := HX_4.out.cell (j := 9) rfl
                            have zX10 := HX_4.out.cell (j := 10) rfl
                            have zX11 := HX_4.out.cell (j := 11) rfl
                            have zX12 := HX_4.out.cell (j := 12) rfl
                            have zX13 := HX_4.out.cell (j := 13) rfl
                            have zX14 := HX_4.out.cell (j := 14) rfl
                            have zX15 := HX_4.out.cell (j := 15) rfl
                            go_wp2_with (refine LD.wp_ld LD.big_Head rfl _ rfl rfl HX_4.out rfl ?_)
                            clear zX0 zX1 zX2 zX3 zX4 zX5 zX6 zX7 zX8 zX9 zX10 zX11 zX12 zX13 zX14 zX15
                            refine (HN2.out _ HB_4.out).mono ?_
                            rintro e W5 ⟨rfl, hb⟩
                            have HB_5 := Lib.hid (HB_4.out.trans (hb.mono HB_4.out.size))
                            have HX_5 := Lib.hid (HX_4.out.below hb HX_4.out.lt)
                            clear hb
                            rcases bn2 with _ | _
                            · skip
                              go_wp2
                              go_ret
                              exact ⟨by rw [← HRR.out]; first | rfl | (simp; done), HB_5.out⟩
                            · skip
                              have zX0 := HX_5.out.cell (j := 0) rfl
                              have zX1 := HX_5.out.cell (j := 1) rfl
                              have zX2 := HX_5.out.cell (j := 2) rfl
                              have zX3 := HX_5.out.cell (j := 3) rfl
                              have zX4 := HX_5.out.cell (j := 4) rfl
                              have zX5 := HX_5.out.cell (j := 5) rfl
                              have zX6 := HX_5.out.cell (j := 6) rfl
                              have zX7 := HX_5.out.cell (j := 7) rfl
                              have zX8 := HX_5.out.cell (j := 8) rfl
                              have zX9 := HX_5.out.cell (j := 9) rfl
                              have zX10 := HX_5.out.cell (j := 10) rfl
                              have zX11 := HX_5.out.cell (j := 11) rfl
                              have zX12 := HX_5.out.cell (j := 12) rfl
                              have zX13 := HX_5.out.cell (j := 13) rfl
                              have zX14 := HX_5.out.cell (j := 14) rfl
                              have zX15 := HX_5.out.cell (j := 15) rfl
                              go_wp2
                              go_ret
                              exact ⟨by rw [← HRR.out]; first | rfl | (simp; done), HB_5.out⟩
                          · skip
                            go_wp2
                            go_ret
                            exact ⟨by rw [← HRR.out]; first | rfl | (simp; done), HB_4.out⟩
                        · have hwd : decide (k.wait = 0) = false := decide_eq_false hw
                          rw [hwd] at HRR
                          have zX0 := HX_3.out.cell (j := 0) rfl
                          have zX1 := HX_3.out.cell (j := 1) rfl
                          have zX2 := HX_3.out.cell (j := 2) rfl
                          have zX3 := HX_3.out.cell (j := 3) rfl
                          have zX4 := HX_3.out.cell (j := 4) rfl
                          have zX5 := HX_3.out.cell (j := 5) rfl
                          have zX6 := HX_3.out.cell (j := 6) rfl
                          have zX7 := HX_3.out.cell (j := 7) rfl
                          have zX8 := HX_3.out.cell (j := 8) rfl
                          have zX9 := HX_3.out.cell (j := 9) rfl
                          have zX10 := HX_3.out.cell (j := 10) rfl
                          have zX11 := HX_3.out.cell (j := 11) rfl
                          have zX12 := HX_3.out.cell (j := 12) rfl
                          have zX13 := HX_3.out.cell (j := 13) rfl
                          have zX14 := HX_3.out.cell (j := 14) rfl
                          have zX15 := HX_3.out.cell (j := 15) rfl
                          go_wp2
                          go_ret
                          exact ⟨by rw [← HRR.out]; first | rfl | (simp; done), HB_3.out⟩
                · have hsd : decide (k.until_ - k.time ≤ 200) = false := decide_eq_false hsp
                  have hs2 : (200 : Int) < k.until_ - k.time := by omega
                  rw [hsd] at HRR
                  have zX0 := HX_1.out.cell (j := 0) rfl
                  have zX1 := HX_1.out.cell (j := 1) rfl
                  have zX2 := HX_1.out.cell (j := 2) rfl
                  have zX3 := HX_1.out.cell (j := 3) rfl
                  have zX4 := HX_1.out.cell (j := 4) rfl
                  have zX5 := HX_1.out.cell (j := 5) rfl
                  have zX6 := HX_1.out.cell (j := 6) rfl
                  have zX7 := HX_1.out.cell (j := 7) rfl
                  have zX8 := HX_1.out.cell (j := 8) rfl
                  have zX9 := HX_1.out.cell (j := 9) rfl
                  have zX10 := HX_1.out.cell (j := 10) rfl
                  have zX11 := HX_1.out.cell (j := 11) rfl
                  have zX12 := HX_1.out.cell (j := 12) rfl
                  have zX13 := HX_1.out.cell (j := 13) rfl
                  have zX14 := HX_1.out.cell (j := 14) rfl
                  have zX15 := HX_1.out.cell (j := 15) rfl
                  go_wp2
                  go_ret
                  exact ⟨by rw [← HRR.out]; first | rfl | (simp; done), HB_1.out⟩
end Go.Proofs.YthhmhcmlbpdlbaaGreat.C13S
namespace Go.Proofs.YthhmhcmlbpdlbaaGreat.L13
set_option linter.unusedVariables false
set_option linter.unusedSimpArgs false
set_option maxRecDepth 100000
open Go.RowKit Mem MemS M02 C01 C02 C02B SL Rep R06 R13 M06 M13 C06S C13S BX
theorem l6Copy_any (w : World) (A : Option Addr) (n c : Nat) (l : List Int) (nd : Int) (h : Rd .i64 w w.heap.size A n l) (hn : n ≤ 1099511627776) : Calls Tryz.prog 41 #[.agg #[.slice A n c, .int .i64 nd]] w fun e w' =>
    ∃ A' c', e = .returned (.agg #[.slice A' n c', .int .i64 nd]) ∧ Own .i64 w' w.heap.size w'.heap.size A' n c' l ∧ Below w.heap.size w w' := by
  have HB := Lib.hid ((Below.refl w.heap.size w).alloc (Nat.le_refl _) (.cells #[.slice A n c, .int .i64 nd] 26) |>.alloc (by simp) (.cells #[.slice none 0 0, .int .i64 0] 26))
  generalize hW : ((w.alloc (.cells #[.slice A n c, .int .i64 nd] 26)).alloc (.cells #[.slice none 0 0, .int .i64 0] 26)) = W at HB
  have HBX := Lib.hid (show Box W w.heap.size [.slice A n c, .int .i64 nd] by rw [← hW]; exact (Box.new w #[.slice A n c, .int .i64 nd] 26).alloc _)
  have HBR := Lib.hid (show Box W (w.heap.size + 1) [.slice none 0 0, .int .i64 0] by rw [← hW]; have h := Box.new (w.alloc (.cells #[.slice A n c, .int .i64 nd] 26)) #[.slice none 0 0, .int .i64 0] 26; simpa using h)
  have hsz : W.heap.size = w.heap.size + 2 := by rw [← hW]; simp
  have HSZ := Lib.hid hsz
  have HR := Lib.hid (h.below HB.out (Nat.le_refl _))
  have HW := Lib.hid hW
  clear hW h hsz
  go_enter Tryz.func41, Tryz.ntmps41
  go_wp2_with fail
  rw [HW.out]
  have HL0 := Lib.hid ((Own.lit0 .i64 (lo := W.heap.size) W (Nat.le_refl _)).same (w' := (W.alloc (.cells #[] 3)).drew) ⟨rfl, rfl, rfl, rfl⟩)
  have HR0 := Lib.hid ((HR.out.alloc HB.out.size (.cells #[] 3)).same (w' := (W.alloc (.cells #[] 3)).drew) ⟨rfl, rfl, rfl, rfl⟩)
  have HBd := Lib.hid (((Below.refl W.heap.size W).alloc (Nat.le_refl _) (.cells #[] 3)).drew)
  have c0 := HBX.out.cell (j := 0) rfl
  have c1 := HBX.out.cell (j := 1) rfl
  have r0 := HBR.out.cell (j := 0) rfl
  have r1 := HBR.out.cell (j := 1) rfl
  have hn2 : 0 + n ≤ 8796093022208 := by omega
  have hlt0 : w.heap.size < W.heap.size := by have := HSZ.out; omega
  have hlt1 : w.heap.size + 1 < W.heap.size := by have := HSZ.out; omega
  have HSd := Lib.hid (show W.heap.size ≤ (W.alloc (.cells #[] 3)).drew.heap.size by simp [World.drew])
  go_region_law ((first
    | (refine step_app (k := .i64) (by unfold BI; decide) rfl (.tmp 3) (.tmp 5) rfl rfl HL0.out rfl HR0.out hn2 HSd.out ?_; intro A4 c4 w4 hown4 hgr4; have HO4 := Lib.hid hown4; have HB4 := Lib.hid (HBd.out.trans (hgr4.below HSd.out HL0.out.ge)); have HX4 := Lib.hid (HBX.out.below HB4.out hlt0); have HR4 := Lib.hid (HBR.out.below HB4.out hlt1); have d1 := HX4.out.cell (j := 1) rfl; have e0 := HR4.out.cell (j := 0) rfl; have e1 := HR4.out.cell (j := 1) rfl; have f0 := HR4.out.warm (j := 0) rfl; have f1 := HR4.out.warm (j := 1) rfl; clear hown4 hgr4)))
  all_goals
    have HO5 := HO4.out
    simp only [Nat.zero_add, List.nil_append] at HO5
    have HO6 := Lib.hid HO5
    have hs4 := HB4.out.size
    clear HO5 c0 c1 r0 r1
    go_wp2
    refine bodyPost_ret (v := .agg #[.slice A4 n c4, .int .i64 nd]) (by simp [results, Tryz.results41, go_sem, e0, e1]) rfl ⟨A4, c4, rfl, ?_, ?_⟩
    · refine (Own.top (hi := w4.heap.size) ?_).base (show w.heap.size ≤ W.heap.size by omega)
      refine Own.store (Own.store HO6.out _ (.inl ?_)) _ (.inl ?_) <;> simp <;> omega
    · refine Below.setCell (Below.setCell (HB.out.trans (HB4.out.mono (by omega))) ?_ _) ?_ _ <;> simp
/-- three parts one behind the other -/
theorem head_own {w : World} {cs : List Value} {k : Head} {lo hi x0 y0 x1 y1 x2 y2 : Nat} {A0 A1 A2 : Option Addr} {n0 c0 n1 c1 n2 c2 : Nat} (hc : cs = [.int .i64 k.zone, .int .i64 k.epoch, .int .i64 k.kind, .int .i64 k.time, .int .i64 k.until_, .int .i64 k.count, .int .i64 k.root, .int .i64 k.prev, .slice A0 n0 c0, .int .i64 k.keys.need, .slice A1 n1 c1, .int .i64 k.heirs.need, .int .i64 k.wait, .slice A2 n2 c2, .int .i64 k.judge.need, .bool k.frozen])
    (hi8 : In .i64 k.zone ∧ In .i64 k.epoch ∧ In .i64 k.kind ∧ In .i64 k.time ∧ In .i64 k.until_ ∧ In .i64 k.count ∧ In .i64 k.root ∧ In .i64 k.prev ∧ In .i64 k.wait) (h0 : OwnI RKeys w x0 y0 [.slice A0 n0 c0, .int .i64 k.keys.need] k.keys) (h1 : OwnI RKeys w x1 y1 [.slice A1 n1 c1, .int .i64 k.heirs.need] k.heirs) (h2 : OwnI RKeys w x2 y2 [.slice A2 n2 c2, .int .i64 k.judge.need] k.judge)
    (d : lo ≤ x0 ∧ x0 ≤ y0 ∧ y0 ≤ x1 ∧ x1 ≤ y1 ∧ y1 ≤ x2 ∧ x2 ≤ y2 ∧ y2 ≤ hi) : OwnI RHead w lo hi cs k := by
  obtain ⟨F0, a0, u0, e0⟩ := h0
  obtain ⟨F1, a1, u1, e1⟩ := h1
  obtain ⟨F2, a2, u2, e2⟩ := h2
  have g2 : F2.Nodup ∧ ∀ b, b ∈ F2 → x2 ≤ b ∧ b < y2 := ⟨u2, e2⟩
  have g1 := part_cons (lo := x1) u1 e1 g2 (by omega) (Nat.le_refl _) (by omega) (by omega)
  have g0 := part_cons (lo := x0) u0 e0 g1 (by omega) (Nat.le_refl _) (by omega) (by omega)
  obtain ⟨i1, i2, i3, i4, i5, i6, i7, i8, i9⟩ := hi8
  subst hc
  exact ⟨_, RHead_set.2 ⟨A0, n0, c0, A1, n1, c1, A2, n2, c2, F0, F1, F2, rfl, rfl, i1, i2, i3, i4, i5, i6, i7, i8, a0, a1, i9, a2⟩, g0.1, fun b hb => by have := g0.2 b hb; omega⟩
theorem keys_row {w : World} {B n c : Nat} {A : Option Addr} {nd : Int} {q : Keys} (h : RKeys.rd w (Lt B) [.slice A n c, .int .i64 nd] q) : Rd .i64 w B A n q.list ∧ In .i64 q.need := by
  obtain ⟨A', n', c', e, _, _, h1, h2⟩ := RKeys_rd.1 h
  simp only [List.cons.injEq, Value.slice.injEq, true_and, and_true] at e
  obtain ⟨⟨rfl, rfl, rfl⟩, -⟩ := e
  exact ⟨h1, h2⟩
set_option maxHeartbeats 16000000 in
theorem l13Copy_any (cs : List Value) (k : Head) (w : World) (h : RHead.rd w (Lt w.heap.size) cs k) (hn : totHead k ≤ 1048576) :
    Calls Tryz.prog 135 #[.agg cs.toArray] w fun e w' => ∃ cs', e = .returned (.agg (List.toArray cs')) ∧ OwnI RHead w' w.heap.size w'.heap.size cs' k ∧ Below w.heap.size w w' := by
  obtain ⟨A0, n0, c0, A1, n1, c1, A2, n2, c2, rfl, ⟨i1, i2, i3, i4, i5, i6, i7, i8, i9⟩, h1, h2, h3⟩ := head_parts h
  unfold totHead totKeys at hn
  obtain ⟨g0, q0⟩ := keys_row h1
  obtain ⟨g1, q1⟩ := keys_row h2
  obtain ⟨g2, q2⟩ := keys_row h3
  have hl0 := g0.len
  have hl1 := g1.len
  have hl2 := g2.len
  have HG0 := Lib.hid g0
  have HG1 := Lib.hid g1
  have HG2 := Lib.hid g2
  clear h h1 h2 h3 g0 g1 g2
  obtain ⟨V, hV⟩ : ∃ V, V = (w.alloc (.cells #[.int .i64 k.zone, .int .i64 k.epoch, .int .i64 k.kind, .int .i64 k.time, .int .i64 k.until_, .int .i64 k.count, .int .i64 k.root, .int .i64 k.prev, .slice A0 n0 c0, .int .i64 k.keys.need, .slice A1 n1 c1, .int .i64 k.heirs.need, .int .i64 k.wait, .slice A2 n2 c2, .int .i64 k.judge.need, .bool k.frozen] 31)).alloc (.cells #[.int .i64 0, .int .i64 0, .int .i64 0, .int .i64 0, .int .i64 0, .int .i64 0, .int .i64 0, .int .i64 0, .slice none 0 0, .int .i64 0, .slice none 0 0, .int .i64 0, .int .i64 0, .slice none 0 0, .int .i64 0, .bool false] 31) := ⟨_, rfl⟩
  have HB_1 := Lib.hid (show Below w.heap.size w V from by
    rw [hV]
    exact ((Below.refl _ _).alloc (by first | (simp; done) | (simp; omega)) _).alloc (by first | (simp; done) | (simp; omega)) _)
  have HX_1 := Lib.hid (show Box V (w.heap.size) [.int .i64 k.zone, .int .i64 k.epoch, .int .i64 k.kind, .int .i64 k.time, .int .i64 k.until_, .int .i64 k.count, .int .i64 k.root, .int .i64 k.prev, .slice A0 n0 c0, .int .i64 k.keys.need, .slice A1 n1 c1, .int .i64 k.heirs.need, .int .i64 k.wait, .slice A2 n2 c2, .int .i64 k.judge.need, .bool k.frozen] from by
    rw [hV]
    have := ((Box.new w #[.int .i64 k.zone, .int .i64 k.epoch, .int .i64 k.kind, .int .i64 k.time, .int .i64 k.until_, .int .i64 k.count, .int .i64 k.root, .int .i64 k.prev, .slice A0 n0 c0, .int .i64 k.keys.need, .slice A1 n1 c1, .int .i64 k.heirs.need, .int .i64 k.wait, .slice A2 n2 c2, .int .i64 k.judge.need, .bool k.frozen] 31).alloc (.cells #[.int .i64 0, .int .i64 0, .int .i64 0, .int .i64 0, .int .i64 0, .int .i64 0, .int .i64 0, .int .i64 0, .slice none 0 0, .int .i64 0, .slice none 0 0, .int .i64 0, .int .i64 0, .slice none 0 0, .int .i64 0, .bool false] 31))
    simpa using this)
  have HR_1 := Lib.hid (show Box V (w.heap.size + 1) [.int .i64 0, .int .i64 0, .int .i64 0, .int .i64 0, .int .i64 0, .int .i64 0, .int .i64 0, .int .i64 0, .slice none 0 0, .int .i64 0, .slice none 0 0, .int .i64 0, .int .i64 0, .slice none 0 0, .int .i64 0, .bool false] from by
    rw [hV]
    have := (Box.new (w.alloc (.cells #[.int .i64 k.zone, .int .i64 k.epoch, .int .i64 k.kind, .int .i64 k.time, .int .i64 k.until_, .int .i64 k.count, .int .i64 k.root, .int .i64 k.prev, .slice A0 n0 c0, .int .i64 k.keys.need, .slice A1 n1 c1, .int .i64 k.heirs.need, .int .i64 k.wait, .slice A2 n2 c2, .int .i64 k.judge.need, .bool k.frozen] 31)) #[.int .i64 0, .int .i64 0, .int .i64 0, .int .i64 0, .int .i64 0, .int .i64 0, .int .i64 0, .int .i64 0, .slice none 0 0, .int .i64 0, .slice none 0 0, .int .i64 0, .int .i64 0, .slice none 0 0, .int .i64 0, .bool false] 31)
    simpa using this)
  have HV := Lib.hid hV
  have hsV : w.heap.size + 2 ≤ V.heap.size ∧ V.heap.size ≤ w.heap.size + 2 := by rw [hV]; simp
  clear hV
  go_enter Tryz.func135, Tryz.ntmps135
  have hal : Below V.heap.size V (V.alloc (.cells #[.int .i64 k.zone, .int .i64 k.epoch, .int .i64 k.kind, .int .i64 k.time, .int .i64 k.until_, .int .i64 k.count, .int .i64 k.root, .int .i64 k.prev, .slice A0 n0 c0, .int .i64 k.keys.need, .slice A1 n1 c1, .int .i64 k.heirs.need, .int .i64 k.wait, .slice A2 n2 c2, .int .i64 k.judge.need, .bool k.frozen] 31)) := (Below.refl _ _).alloc (Nat.le_refl _) _
  have HB_2 := Lib.hid (HB_1.out.trans (hal.mono HB_1.out.size))
  have HX_2 := Lib.hid (HX_1.out.below hal HX_1.out.lt)
  have HR_2 := Lib.hid (HR_1.out.below hal HR_1.out.lt)
  have HY_2 := Lib.hid (show Box (V.alloc (.cells #[.int .i64 k.zone, .int .i64 k.epoch, .int .i64 k.kind, .int .i64 k.time, .int .i64 k.until_, .int .i64 k.count, .int .i64 k.root, .int .i64 k.prev, .slice A0 n0 c0, .int .i64 k.keys.need, .slice A1 n1 c1, .int .i64 k.heirs.need, .int .i64 k.wait, .slice A2 n2 c2, .int .i64 k.judge.need, .bool k.frozen] 31)) (V.heap.size) [.int .i64 k.zone, .int .i64 k.epoch, .int .i64 k.kind, .int .i64 k.time, .int .i64 k.until_, .int .i64 k.count, .int .i64 k.root, .int .i64 k.prev, .slice A0 n0 c0, .int .i64 k.keys.need, .slice A1 n1 c1, .int .i64 k.heirs.need, .int .i64 k.wait, .slice A2 n2 c2, .int .i64 k.judge.need, .bool k.frozen] from Box.new V #[.int .i64 k.zone, .int .i64 k.epoch, .int .i64 k.kind, .int .i64 k.time, .int .i64 k.until_, .int .i64 k.count, .int .i64 k.root, .int .i64 k.prev, .slice A0 n0 c0, .int .i64 k.keys.need, .slice A1 n1 c1, .int .i64 k.heirs.need, .int .i64 k.wait, .slice A2 n2 c2, .int .i64 k.judge.need, .bool k.frozen] 31)
  obtain ⟨V2, hV2⟩ : ∃ u9, V.alloc (.cells #[.int .i64 k.zone, .int .i64 k.epoch, .int .i64 k.kind, .int .i64 k.time, .int .i64 k.until_, .int .i64 k.count, .int .i64 k.root, .int .i64 k.prev, .slice A0 n0 c0, .int .i64 k.keys.need, .slice A1 n1 c1, .int .i64 k.heirs.need, .int .i64 k.wait, .slice A2 n2 c2, .int .i64 k.judge.need, .bool k.frozen] 31) = u9 := ⟨_, rfl⟩
  rw [hV2] at HB_2 HX_2 HR_2 HY_2
  have HV2 := Lib.hid hV2
  clear hal
  have hsV2 : V.heap.size + 1 ≤ V2.heap.size ∧ V2.heap.size ≤ V.heap.size + 1 := by rw [← hV2]; simp
  have zX0 := HX_2.out.cell (j := 0) rfl
  have zX1 := HX_2.out.cell (j := 1) rfl
  have zX2 := HX_2.out.cell (j := 2) rfl
  have zX3 := HX_2.out.cell (j := 3) rfl
  have zX4 := HX_2.out.cell (j := 4) rfl
  have zX5 := HX_2.out.cell (j := 5) rfl
  have zX6 := HX_2.out.cell (j := 6) rfl
  have zX7 := HX_2.out.cell (j := 7) rfl
  have zX8 := HX_2.out.cell (j := 8) rfl
  have zX9 := HX_2.out.cell (j := 9) rfl
  have zX10 := HX_2.out.cell (j := 10) rfl
  have zX11 := HX_2.out.cell (j := 11) rfl
  have zX12 := HX_2.out.cell (j := 12) rfl
  have zX13 := HX_2.out.cell (j := 13) rfl
  have zX14 := HX_2.out.cell (j := 14) rfl
  have zX15 := HX_2.out.cell (j := 15) rfl
  go_wp2_with (first | (rw [show (w.alloc (.cells #[.int .i64 k.zone, .int .i64 k.epoch, .int .i64 k.kind, .int .i64 k.time, .int .i64 k.until_, .int .i64 k.count, .int .i64 k.root, .int .i64 k.prev, .slice A0 n0 c0, .int .i64 k.keys.need, .slice A1 n1 c1, .int .i64 k.heirs.need, .int .i64 k.wait, .slice A2 n2 c2, .int .i64 k.judge.need, .bool k.frozen] 31)).alloc (.cells #[.int .i64 0, .int .i64 0, .int .i64 0, .int .i64 0, .int .i64 0, .int .i64 0, .int .i64 0, .int .i64 0, .slice none 0 0, .int .i64 0, .slice none 0 0, .int .i64 0, .int .i64 0, .slice none 0 0, .int .i64 0, .bool false] 31) = V from HV.out.symm]; refine LD.wp_ld LD.big_Head rfl _ rfl rfl HX_1.out rfl ?_) | (refine LD.wp_new LD.big_Head rfl _ _ rfl rfl rfl rfl rfl rfl ?_; rw [HV2.out]))
  clear zX0 zX1 zX2 zX3 zX4 zX5 zX6 zX7 zX8 zX9 zX10 zX11 zX12 zX13 zX14 zX15
  have hb0 := HB_2.out.size
  refine (l6Copy_any V2 A0 n0 c0 k.keys.list k.keys.need ((HG0.out.below HB_2.out (Nat.le_refl _)).more HB_2.out.size) (by omega)).mono ?_
  rintro e W0 ⟨D0, e0, rfl, ho, hb⟩
  have HB_3 := Lib.hid (HB_2.out.trans (hb.mono HB_2.out.size))
  have HX_3 := Lib.hid (HX_2.out.below hb HX_2.out.lt)
  have HR_3 := Lib.hid (HR_2.out.below hb HR_2.out.lt)
  have HY_3 := Lib.hid (HY_2.out.below hb HY_2.out.lt)
  have hsW0 := hb.size
  have HP0_3 := Lib.hid (show OwnI RKeys W0 (V2.heap.size) (W0.heap.size) [.slice D0 n0 e0, .int .i64 k.keys.need] k.keys ∧ (W0.heap.size) ≤ W0.heap.size ∧ V2.heap.size ≤ (V2.heap.size) from ⟨RKeys_own.2 ⟨D0, n0, e0, rfl, ho, q0⟩, Nat.le_refl _, by omega⟩)
  clear ho hb hb0
  have zX0 := HX_3.out.cell (j := 0) rfl
  have zX1 := HX_3.out.cell (j := 1) rfl
  have zX2 := HX_3.out.cell (j := 2) rfl
  have zX3 := HX_3.out.cell (j := 3) rfl
  have zX4 := HX_3.out.cell (j := 4) rfl
  have zX5 := HX_3.out.cell (j := 5) rfl
  have zX6 := HX_3.out.cell (j := 6) rfl
  have zX7 := HX_3.out.cell (j := 7) rfl
  have zX8 := HX_3.out.cell (j := 8) rfl
  have zX9 := HX_3.out.cell (j := 9) rfl
  have zX10 := HX_3.out.cell (j := 10) rfl
  have zX11 := HX_3.out.cell (j := 11) rfl
  have zX12 := HX_3.out.cell (j := 12) rfl
  have zX13 := HX_3.out.cell (j := 13) rfl
  have zX14 := HX_3.out.cell (j := 14) rfl
  have zX15 := HX_3.out.cell (j := 15) rfl
  have zY0 := HY_3.out.cell (j := 0) rfl
  have fY0 := HY_3.out.warm (j := 0) rfl
  have zY1 := HY_3.out.cell (j := 1) rfl
  have fY1 := HY_3.out.warm (j := 1) rfl
  have zY2 := HY_3.out.cell (j := 2) rfl
  have fY2 := HY_3.out.warm (j := 2) rfl
  have zY3 := HY_3.out.cell (j := 3) rfl
  have fY3 := HY_3.out.warm (j := 3) rfl
  have zY4 := HY_3.out.cell (j := 4) rfl
  have fY4 := HY_3.out.warm (j := 4) rfl
  have zY5 := HY_3.out.cell (j := 5) rfl
  have fY5 := HY_3.out.warm (j := 5) rfl
  have zY6 := HY_3.out.cell (j := 6) rfl
  have fY6 := HY_3.out.warm (j := 6) rfl
  have zY7 := HY_3.out.cell (j := 7) rfl
  have fY7 := HY_3.out.warm (j := 7) rfl
  have zY8 := HY_3.out.cell (j := 8) rfl
  have fY8 := HY_3.out.warm (j := 8) rfl
  have zY9 := HY_3.out.cell (j := 9) rfl
  have fY9 := HY_3.out.warm (j := 9) rfl
  have zY10 := HY_3.out.cell (j := 10) rfl
  have fY10 := HY_3.out.warm (j := 10) rfl
  have zY11 := HY_3.out.cell (j := 11) rfl
  have fY11 := HY_3.out.warm (j := 11) rfl
  have zY12 := HY_3.out.cell (j := 12) rfl
  have fY12 := HY_3.out.warm (j := 12) rfl
  have zY13 := HY_3.out.cell (j := 13) rfl
  have fY13 := HY_3.out.warm (j := 13) rfl
  have zY14 := HY_3.out.cell (j := 14) rfl
  have fY14 := HY_3.out.warm (j := 14) rfl
  have zY15 := HY_3.out.cell (j := 15) rfl
  have fY15 := HY_3.out.warm (j := 15) rfl
  go_wp2_with fail
  clear zX0 zX1 zX2 zX3 zX4 zX5 zX6 zX7 zX8 zX9 zX10 zX11 zX12 zX13 zX14 zX15 zY0 fY0 zY1 fY1 zY2 fY2 zY3 fY3 zY4 fY4 zY5 fY5 zY6 fY6 zY7 fY7 zY8 fY8 zY9 fY9 zY10 fY10 zY11 fY11 zY12 fY12 zY13 fY13 zY14 fY14 zY15 fY15
  obtain ⟨V3, hV3⟩ : ∃ u9, puts W0 (V.heap.size) 8 [.slice D0 n0 e0, .int .i64 k.keys.need] = u9 := ⟨_, rfl⟩
  have HB_4 := Lib.hid (pt_bel hV3 HB_3.out (show w.heap.size ≤ (V.heap.size) by omega))
  have HX_4 := Lib.hid (pt_box hV3 HX_3.out (show (w.heap.size) ≠ (V.heap.size) by omega))
  have HR_4 := Lib.hid (pt_box hV3 HR_3.out (show (w.heap.size + 1) ≠ (V.heap.size) by omega))
  have HY_4 := Lib.hid (show Box V3 (V.heap.size) [.int .i64 k.zone, .int .i64 k.epoch, .int .i64 k.kind, .int .i64 k.time, .int .i64 k.until_, .int .i64 k.count, .int .i64 k.root, .int .i64 k.prev, .slice D0 n0 e0, .int .i64 k.keys.need, .slice A1 n1 c1, .int .i64 k.heirs.need, .int .i64 k.wait, .slice A2 n2 c2, .int .i64 k.judge.need, .bool k.frozen] from pt_self hV3 HY_3.out (by simp))
  have HP0_4 := Lib.hid (pt_own hV3 HP0_3.out (show (V.heap.size) < V2.heap.size by omega))
  have HV3 := Lib.hid hV3
  clear hV3
  rw [show (W0.setCell ⟨V.heap.size, 8, none⟩ (.slice D0 n0 e0)).setCell ⟨V.heap.size, 9, none⟩ (.int .i64 k.keys.need) = V3 from HV3.out]
  have hsV3 : W0.heap.size ≤ V3.heap.size := by rw [← HV3.out]; exact Nat.le_of_eq (puts_size _ _).symm
  have hb0 := HB_4.out.size
  refine (l6Copy_any V3 A1 n1 c1 k.heirs.list k.heirs.need ((HG1.out.below HB_4.out (Nat.le_refl _)).more HB_4.out.size) (by omega)).mono ?_
  rintro e W1 ⟨D1, e1, rfl, ho, hb⟩
  have HB_5 := Lib.hid (HB_4.out.trans (hb.mono HB_4.out.size))
  have HX_5 := Lib.hid (HX_4.out.below hb HX_4.out.lt)
  have HR_5 := Lib.hid (HR_4.out.below hb HR_4.out.lt)
  have HY_5 := Lib.hid (HY_4.out.below hb HY_4.out.lt)
  have HP0_5 := Lib.hid (show OwnI RKeys W1 (V2.heap.size) (W0.heap.size) [.slice D0 n0 e0, .int .i64 k.keys.need] k.keys ∧ (W0.heap.size) ≤ W1.heap.size ∧ V2.heap.size ≤ (V2.heap.size) from ⟨HP0_4.out.1.below hb HP0_4.out.2.1, Nat.le_trans HP0_4.out.2.1 hb.size, HP0_4.out.2.2⟩)
  have hsW1 := hb.size
  have HP1_5 := Lib.hid (show OwnI RKeys W1 (V3.heap.size) (W1.heap.size) [.slice D1 n1 e1, .int .i64 k.heirs.need] k.heirs ∧ (W1.heap.size) ≤ W1.heap.size ∧ V2.heap.size ≤ (V3.heap.size) from ⟨RKeys_own.2 ⟨D1, n1, e1, rfl, ho, q1⟩, Nat.le_refl _, by omega⟩)
  clear ho hb hb0
  have zX0 := HX_5.out.cell (j := 0) rfl
  have zX1 := HX_5.out.cell (j := 1) rfl
  have zX2 := HX_5.out.cell (j := 2) rfl
  have zX3 := HX_5.out.cell (j := 3) rfl
  have zX4 := HX_5.out.cell (j := 4) rfl
  have zX5 := HX_5.out.cell (j := 5) rfl
  have zX6 := HX_5.out.cell (j := 6) rfl
  have zX7 := HX_5.out.cell (j := 7) rfl
  have zX8 := HX_5.out.cell (j := 8) rfl
  have zX9 := HX_5.out.cell (j := 9) rfl
  have zX10 := HX_5.out.cell (j := 10) rfl
  have zX11 := HX_5.out.cell (j := 11) rfl
  have zX12 := HX_5.out.cell (j := 12) rfl
  have zX13 := HX_5.out.cell (j := 13) rfl
  have zX14 := HX_5.out.cell (j := 14) rfl
  have zX15 := HX_5.out.cell (j := 15) rfl
  have zY0 := HY_5.out.cell (j := 0) rfl
  have fY0 := HY_5.out.warm (j := 0) rfl
  have zY1 := HY_5.out.cell (j := 1) rfl
  have fY1 := HY_5.out.warm (j := 1) rfl
  have zY2 := HY_5.out.cell (j := 2) rfl
  have fY2 := HY_5.out.warm (j := 2) rfl
  have zY3 := HY_5.out.cell (j := 3) rfl
  have fY3 := HY_5.out.warm (j := 3) rfl
  have zY4 := HY_5.out.cell (j := 4) rfl
  have fY4 := HY_5.out.warm (j := 4) rfl
  have zY5 := HY_5.out.cell (j := 5) rfl
  have fY5 := HY_5.out.warm (j := 5) rfl
  have zY6 := HY_5.out.cell (j := 6) rfl
  have fY6 := HY_5.out.warm (j := 6) rfl
  have zY7 := HY_5.out.cell (j := 7) rfl
  have fY7 := HY_5.out.warm (j := 7) rfl
  have zY8 := HY_5.out.cell (j := 8) rfl
  have fY8 := HY_5.out.warm (j := 8) rfl
  have zY9 := HY_5.out.cell (j := 9) rfl
  have fY9 := HY_5.out.warm (j := 9) rfl
  have zY10 := HY_5.out.cell (j := 10) rfl
  have fY10 := HY_5.out.warm (j := 10) rfl
  have zY11 := HY_5.out.cell (j := 11) rfl
  have fY11 := HY_5.out.warm (j := 11) rfl
  have zY12 := HY_5.out.cell (j := 12) rfl
  have fY12 := HY_5.out.warm (j := 12) rfl
  have zY13 := HY_5.out.cell (j := 13) rfl
  have fY13 := HY_5.out.warm (j := 13) rfl
  have zY14 := HY_5.out.cell (j := 14) rfl
  have fY14 := HY_5.out.warm (j := 14) rfl
  have zY15 := HY_5.out.cell (j := 15) rfl
  have fY15 := HY_5.out.warm (j := 15) rfl
  go_wp2_with fail
  clear zX0 zX1 zX2 zX3 zX4 zX5 zX6 zX7 zX8 zX9 zX10 zX11 zX12 zX13 zX14 zX15 zY0 fY0 zY1 fY1 zY2 fY2 zY3 fY3 zY4 fY4 zY5 fY5 zY6 fY6 zY7 fY7 zY8 fY8 zY9 fY9 zY10 fY10 zY11 fY11 zY12 fY12 zY13 fY13 zY14 fY14 zY15 fY15
  obtain ⟨V4, hV4⟩ : ∃ u9, puts W1 (V.heap.size) 10 [.slice D1 n1 e1, .int .i64 k.heirs.need] = u9 := ⟨_, rfl⟩
  have HB_6 := Lib.hid (pt_bel hV4 HB_5.out (show w.heap.size ≤ (V.heap.size) by omega))
  have HX_6 := Lib.hid (pt_box hV4 HX_5.out (show (w.heap.size) ≠ (V.heap.size) by omega))
  have HR_6 := Lib.hid (pt_box hV4 HR_5.out (show (w.heap.size + 1) ≠ (V.heap.size) by omega))
  have HY_6 := Lib.hid (show Box V4 (V.heap.size) [.int .i64 k.zone, .int .i64 k.epoch, .int .i64 k.kind, .int .i64 k.time, .int .i64 k.until_, .int .i64 k.count, .int .i64 k.root, .int .i64 k.prev, .slice D0 n0 e0, .int .i64 k.keys.need, .slice D1 n1 e1, .int .i64 k.heirs.need, .int .i64 k.wait, .slice A2 n2 c2, .int .i64 k.judge.need, .bool k.frozen] from pt_self hV4 HY_5.out (by simp))
  have HP0_6 := Lib.hid (pt_own hV4 HP0_5.out (show (V.heap.size) < V2.heap.size by omega))
  have HP1_6 := Lib.hid (pt_own hV4 HP1_5.out (show (V.heap.size) < V2.heap.size by omega))
  have HV4 := Lib.hid hV4
  clear hV4
  rw [show (W1.setCell ⟨V.heap.size, 10, none⟩ (.slice D1 n1 e1)).setCell ⟨V.heap.size, 11, none⟩ (.int .i64 k.heirs.need) = V4 from HV4.out]
  have hsV4 : W1.heap.size ≤ V4.heap.size := by rw [← HV4.out]; exact Nat.le_of_eq (puts_size _ _).symm
  have hb0 := HB_6.out.size
  refine (l6Copy_any V4 A2 n2 c2 k.judge.list k.judge.need ((HG2.out.below HB_6.out (Nat.le_refl _)).more HB_6.out.size) (by omega)).mono ?_
  rintro e W2 ⟨D2, e2, rfl, ho, hb⟩
  have HB_7 := Lib.hid (HB_6.out.trans (hb.mono HB_6.out.size))
  have HX_7 := Lib.hid (HX_6.out.below hb HX_6.out.lt)
  have HR_7 := Lib.hid (HR_6.out.below hb HR_6.out.lt)
  have HY_7 := Lib.hid (HY_6.out.below hb HY_6.out.lt)
  have HP0_7 := Lib.hid (show OwnI RKeys W2 (V2.heap.size) (W0.heap.size) [.slice D0 n0 e0, .int .i64 k.keys.need] k.keys ∧ (W0.heap.size) ≤ W2.heap.size ∧ V2.heap.size ≤ (V2.heap.size) from ⟨HP0_6.out.1.below hb HP0_6.out.2.1, Nat.le_trans HP0_6.out.2.1 hb.size, HP0_6.out.2.2⟩)
  have HP1_7 := Lib.hid (show OwnI RKeys W2 (V3.heap.size) (W1.heap.size) [.slice D1 n1 e1, .int .i64 k.heirs.need] k.heirs ∧ (W1.heap.size) ≤ W2.heap.size ∧ V2.heap.size ≤ (V3.heap.size) from ⟨HP1_6.out.1.below hb HP1_6.out.2.1, Nat.le_trans HP1_6.out.2.1 hb.size, HP1_6.out.2.2⟩)
  have hsW2 := hb.size
  have HP2_7 := Lib.hid (show OwnI RKeys W2 (V4.heap.size) (W2.heap.size) [.slice D2 n2 e2, .int .i64 k.judge.need] k.judge ∧ (W2.heap.size) ≤ W2.heap.size ∧ V2.heap.size ≤ (V4.heap.size) from ⟨RKeys_own.2 ⟨D2, n2, e2, rfl, ho, q2⟩, Nat.le_refl _, by omega⟩)
  clear ho hb hb0
  have zY0 := HY_7.out.cell (j := 0) rfl
  have fY0 := HY_7.out.warm (j := 0) rfl
  have zY1 := HY_7.out.cell (j := 1) rfl
  have fY1 := HY_7.out.warm (j := 1) rfl
  have zY2 := HY_7.out.cell (j := 2) rfl
  have fY2 := HY_7.out.warm (j := 2) rfl
  have zY3 := HY_7.out.cell (j := 3) rfl
  have fY3 := HY_7.out.warm (j := 3) rfl
  have zY4 := HY_7.out.cell (j := 4) rfl
  have fY4 := HY_7.out.warm (j := 4) rfl
  have zY5 := HY_7.out.cell (j := 5) rfl
  have fY5 := HY_7.out.warm (j := 5) rfl
  have zY6 := HY_7.out.cell (j := 6) rfl
  have fY6 := HY_7.out.warm (j := 6) rfl
  have zY7 := HY_7.out.cell (j := 7) rfl
  have fY7 := HY_7.out.warm (j := 7) rfl
  have zY8 := HY_7.out.cell (j := 8) rfl
  have fY8 := HY_7.out.warm (j := 8) rfl
  have zY9 := HY_7.out.cell (j := 9) rfl
  have fY9 := HY_7.out.warm (j := 9) rfl
  have zY10 := HY_7.out.cell (j := 10) rfl
  have fY10 := HY_7.out.warm (j := 10) rfl
  have zY11 := HY_7.out.cell (j := 11) rfl
  have fY11 := HY_7.out.warm (j := 11) rfl
  have zY12 := HY_7.out.cell (j := 12) rfl
  have fY12 := HY_7.out.warm (j := 12) rfl
  have zY13 := HY_7.out.cell (j := 13) rfl
  have fY13 := HY_7.out.warm (j := 13) rfl
  have zY14 := HY_7.out.cell (j := 14) rfl
  have fY14 := HY_7.out.warm (j := 14) rfl
  have zY15 := HY_7.out.cell (j := 15) rfl
  have fY15 := HY_7.out.warm (j := 15) rfl
  obtain ⟨V7, hV7⟩ : ∃ u9, puts W2 (V.heap.size) 13 [.slice D2 n2 e2, .int .i64 k.judge.need] = u9 := ⟨_, rfl⟩
  have HB_8 := Lib.hid (pt_bel hV7 HB_7.out (show w.heap.size ≤ (V.heap.size) by omega))
  have HX_8 := Lib.hid (pt_box hV7 HX_7.out (show (w.heap.size) ≠ (V.heap.size) by omega))
  have HR_8 := Lib.hid (pt_box hV7 HR_7.out (show (w.heap.size + 1) ≠ (V.heap.size) by omega))
  have HY_8 := Lib.hid (show Box V7 (V.heap.size) [.int .i64 k.zone, .int .i64 k.epoch, .int .i64 k.kind, .int .i64 k.time, .int .i64 k.until_, .int .i64 k.count, .int .i64 k.root, .int .i64 k.prev, .slice D0 n0 e0, .int .i64 k.keys.need, .slice D1 n1 e1, .int .i64 k.heirs.need, .int .i64 k.wait, .slice D2 n2 e2, .int .i64 k.judge.need, .bool k.frozen] from pt_self hV7 HY_7.out (by simp))
  have HP0_8 := Lib.hid (pt_own hV7 HP0_7.out (show (V.heap.size) < V2.heap.size by omega))
  have HP1_8 := Lib.hid (pt_own hV7 HP1_7.out (show (V.heap.size) < V2.heap.size by omega))
  have HP2_8 := Lib.hid (pt_own hV7 HP2_7.out (show (V.heap.size) < V2.heap.size by omega))
  have HV7 := Lib.hid hV7
  clear hV7
  have hsV7 : W2.heap.size ≤ V7.heap.size := by rw [← HV7.out]; exact Nat.le_of_eq (puts_size _ _).symm
  obtain ⟨VF, hVF⟩ : ∃ u9, puts V7 (w.heap.size + 1) 0 [.int .i64 k.zone, .int .i64 k.epoch, .int .i64 k.kind, .int .i64 k.time, .int .i64 k.until_, .int .i64 k.count, .int .i64 k.root, .int .i64 k.prev, .slice D0 n0 e0, .int .i64 k.keys.need, .slice D1 n1 e1, .int .i64 k.heirs.need, .int .i64 k.wait, .slice D2 n2 e2, .int .i64 k.judge.need, .bool k.frozen] = u9 := ⟨_, rfl⟩
  have HB_9 := Lib.hid (pt_bel hVF HB_8.out (show w.heap.size ≤ (w.heap.size + 1) by omega))
  have HX_9 := Lib.hid (pt_box hVF HX_8.out (show (w.heap.size) ≠ (w.heap.size + 1) by omega))
  have HR_9 := Lib.hid (show Box VF (w.heap.size + 1) [.int .i64 k.zone, .int .i64 k.epoch, .int .i64 k.kind, .int .i64 k.time, .int .i64 k.until_, .int .i64 k.count, .int .i64 k.root, .int .i64 k.prev, .slice D0 n0 e0, .int .i64 k.keys.need, .slice D1 n1 e1, .int .i64 k.heirs.need, .int .i64 k.wait, .slice D2 n2 e2, .int .i64 k.judge.need, .bool k.frozen] from (show Box VF (w.heap.size + 1) ([] ++ [.int .i64 k.zone, .int .i64 k.epoch, .int .i64 k.kind, .int .i64 k.time, .int .i64 k.until_, .int .i64 k.count, .int .i64 k.root, .int .i64 k.prev, .slice D0 n0 e0, .int .i64 k.keys.need, .slice D1 n1 e1, .int .i64 k.heirs.need, .int .i64 k.wait, .slice D2 n2 e2, .int .i64 k.judge.need, .bool k.frozen] ++ []) from pt_mid hVF (show Box V7 (w.heap.size + 1) ([] ++ [.int .i64 0, .int .i64 0, .int .i64 0, .int .i64 0, .int .i64 0, .int .i64 0, .int .i64 0, .int .i64 0, .slice none 0 0, .int .i64 0, .slice none 0 0, .int .i64 0, .int .i64 0, .slice none 0 0, .int .i64 0, .bool false] ++ []) from HR_8.out) rfl rfl))
  have HY_9 := Lib.hid (pt_box hVF HY_8.out (show (V.heap.size) ≠ (w.heap.size + 1) by omega))
  have HP0_9 := Lib.hid (pt_own hVF HP0_8.out (show (w.heap.size + 1) < V2.heap.size by omega))
  have HP1_9 := Lib.hid (pt_own hVF HP1_8.out (show (w.heap.size + 1) < V2.heap.size by omega))
  have HP2_9 := Lib.hid (pt_own hVF HP2_8.out (show (w.heap.size + 1) < V2.heap.size by omega))
  have HVF := Lib.hid hVF
  clear hVF
  have hsVF : V7.heap.size ≤ VF.heap.size := by rw [← HVF.out]; exact Nat.le_of_eq (puts_size _ _).symm
  go_wp2_with (first | (rw [show (W2.setCell ⟨V.heap.size, 13, none⟩ (.slice D2 n2 e2)).setCell ⟨V.heap.size, 14, none⟩ (.int .i64 k.judge.need) = V7 from HV7.out]; refine LD.wp_ld LD.big_Head rfl _ rfl rfl HY_8.out rfl ?_) | (refine LD.wp_stV LD.big_Head rfl _ _ rfl rfl rfl HR_8.out rfl (by decide) rfl HVF.out ?_))
  clear zY0 fY0 zY1 fY1 zY2 fY2 zY3 fY3 zY4 fY4 zY5 fY5 zY6 fY6 zY7 fY7 zY8 fY8 zY9 fY9 zY10 fY10 zY11 fY11 zY12 fY12 zY13 fY13 zY14 fY14 zY15 fY15
  refine bodyPost_ret (v := .agg #[.int .i64 k.zone, .int .i64 k.epoch, .int .i64 k.kind, .int .i64 k.time, .int .i64 k.until_, .int .i64 k.count, .int .i64 k.root, .int .i64 k.prev, .slice D0 n0 e0, .int .i64 k.keys.need, .slice D1 n1 e1, .int .i64 k.heirs.need, .int .i64 k.wait, .slice D2 n2 e2, .int .i64 k.judge.need, .bool k.frozen]) (LD.res_cell LD.big_Head Tryz.results135 rfl HR_9.out rfl) rfl ⟨[.int .i64 k.zone, .int .i64 k.epoch, .int .i64 k.kind, .int .i64 k.time, .int .i64 k.until_, .int .i64 k.count, .int .i64 k.root, .int .i64 k.prev, .slice D0 n0 e0, .int .i64 k.keys.need, .slice D1 n1 e1, .int .i64 k.heirs.need, .int .i64 k.wait, .slice D2 n2 e2, .int .i64 k.judge.need, .bool k.frozen], rfl, head_own rfl ⟨i1, i2, i3, i4, i5, i6, i7, i8, i9⟩ HP0_9.out.1 HP1_9.out.1 HP2_9.out.1 ?_, HB_9.out⟩
  omega
end Go.Proofs.YthhmhcmlbpdlbaaGreat.L13
