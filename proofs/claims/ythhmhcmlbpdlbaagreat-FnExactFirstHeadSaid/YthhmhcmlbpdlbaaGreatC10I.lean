/- Chapter 10: hash trees, what the program's functions return. -/
import Derived.Test.YthhmhcmlbpdlbaaGreatC10O
import Derived.Test.YthhmhcmlbpdlbaaGreatC10S
import Derived.Test.YthhmhcmlbpdlbaaGreatC03H
namespace Go.Proofs.YthhmhcmlbpdlbaaGreat.C10I
open Go.RowKit Mem MemS M02 M03 M05 M08 M10 M10T C01 C02 C03S C03H C03B C08I Rep RepA RW R08 Q08 RKA C10T C10V C10R C10O
open C10S (top_in tf_of drop_cons)
set_option linter.unusedVariables false
set_option maxRecDepth 100000
/-- a row of numbers of the call's own is no node -/
theorem kp_gr {w w' : World} {lo hi n c : Nat} {A A' : Option Addr} {zs : List Int} (ho : Mem.Own .i64 w lo hi A n c zs) (hg : Gr A w A' w') (S : Nat → Prop) : Kp S w w' := fun b cs _ hb => by
  refine (hg.1.block b (Array.getElem?_eq_some_iff.1 hb).1 fun e => ?_).trans hb
  rcases ho.row.2 with ⟨h1, _⟩ | ⟨g, cap, cur, h1, _, h3, _⟩
  · injection h1 with e1
    subst e1
    cases e
  · injection h1 with e1
    subst e1
    have e2 : b = g := by simpa using e
    subst e2
    exact absurd (nt_ne hb h3) (by decide)
theorem iNodeOf_any (a b : Int) (w : World) (ha : In .i64 a) (hb : In .i64 b) : Calls Tryz.prog 148 #[.int .i64 a, .int .i64 b] w fun e w' => e = .returned (.int .i64 (nodeOf a b)) ∧ Below w.heap.size w w' := C10V.iNodeOf_any a b w ha hb
set_option maxHeartbeats 1000000 in
theorem iTopOf_any (A : Option Addr) (n c : Nat) (l : List Int) (w : World) (h : Rd .i64 w w.heap.size A n l) (hn : n ≤ 68719476735) :
    Calls Tryz.prog 74 #[.slice A n c] w fun e w' => e = .returned (.int .i64 (topOf l)) ∧ Below w.heap.size w w' := by
  have HL := Lib.hid h.len
  by_cases h0 : n = 0
  · subst h0
    have HT := Lib.hid (show topOf l = hsh [229] from by unfold topOf; rw [if_pos HL.out])
    have H0 := Lib.hid (own_lit .i64 w (b := w.heap.size) (cs := #[.int .i64 229]) (ty := 3) (zs := [229]) (n := 1) (lo := w.heap.size) rfl rfl rfl rfl (by intro z hz; rw [List.mem_singleton.1 hz]; exact inI64 (by omega) (by omega)) (Nat.le_refl _) (by simp [maxLen])).rd
    have HB := Lib.hid ((Below.refl w.heap.size w).alloc (Nat.le_refl _) (.cells #[.int .i64 229] 3))
    clear h
    rw [HT.out]
    go_enter Tryz.func74, Tryz.ntmps74
    go_wp2_with fail
    refine (iHash_any _ _ _ _ _ (H0.out.more (by simp)) (by omega)).mono ?_
    rintro e w1 ⟨rfl, hbq⟩
    have HB1 := Lib.hid (HB.out.trans (hbq.mono (by simp)))
    clear hbq
    go_wp2
    go_ret
    exact ⟨rfl, HB1.out⟩
  · have HT := Lib.hid (show topOf l = topW l from by unfold topOf; rw [if_neg (by rw [HL.out]; exact h0)])
    have HC := Lib.hid (itreeOver_any A n c l w h hn)
    clear h
    rw [HT.out]
    have hnz : ¬ (n : Int) = 0 := by omega
    go_enter Tryz.func74, Tryz.ntmps74
    go_wp2_with fail
    refine HC.out.mono ?_
    rintro e w1 ⟨A1, c1, Ts, rfl, hv, hrow, hlv, hb1⟩
    have htl : Ts.length = n := by rw [← vals_len, hv, HL.out]
    obtain ⟨g, rfl, hgc, -, hget⟩ := hrow.get (by omega)
    obtain ⟨t0, ht0⟩ : ∃ t, Ts[0]? = some t := ⟨_, List.getElem?_eq_getElem (by omega)⟩
    have d0 : w1.cell? ⟨g, 0, none⟩ = some (.pointer (some ⟨t0.b, 0, none⟩)) := hget 0 t0.b (by unfold heads; rw [List.getElem?_map, ht0]; rfl)
    have HTOP := Lib.hid (itop_any Ts 0 t0 w1 hlv ht0)
    have HB1 := Lib.hid hb1
    have HV := Lib.hid hv
    have hn0 : (0 : Int) < n := by omega
    clear hv hrow hlv hb1 hget ht0 htl HC
    generalize t0.b = tb at *
    go_wp2_with fail
    refine HTOP.out.mono ?_
    rintro e w2 ⟨u, rfl, hu1, hu2, rfl⟩
    have HNUM := Lib.hid (inumber_any u none w2 hu1)
    rw [HV.out] at hu2
    rw [hu2] at HNUM
    clear hu1 hu2 HTOP d0
    generalize u.b = ub at *
    go_wp2_with fail
    refine HNUM.out.mono ?_
    rintro e w3 ⟨rfl, hb3⟩
    have HB3 := Lib.hid (HB1.out.trans (hb3.mono HB1.out.size))
    clear hb3
    go_wp2
    go_ret
    exact ⟨rfl, HB3.out⟩
set_option maxHeartbeats 2000000 in
theorem iLeavesOf_any (A : Option Addr) (n c : Nat) (l : List Entry) (w : World) (h : FRdEntry w w.heap.size A n l) (hn : totR totEntry l ≤ 1048576) :
    Calls Tryz.prog 75 #[.slice A n c] w fun e w' => ∃ A' c', e = .returned (.slice A' n c') ∧ Mem.Own .i64 w' w.heap.size w'.heap.size A' n c' (leavesE l) ∧ Below w.heap.size w w' := by
  have HL := Lib.hid h.len
  have HT := Lib.hid hn
  have hn2 : n ≤ 1048576 := by have := totR_len totEntry l; have := h.len; omega
  have HR := Lib.hid h
  clear h hn
  go_enter Tryz.func75, Tryz.ntmps75
  go_wp2_with (at_make; refine wp_make0 (k := .i64) (by unfold BI; decide) rfl _ _ rfl (n := n) rfl rfl rfl (by omega) ?_; intro w1 hown1 hb1; have HO := Lib.hid hown1; have HB := Lib.hid hb1; clear hown1 hb1)
  go_loopw [3, 11] (fun o i wr => ∃ (j : Nat) (A1 : Option Addr) (c1 : Nat), j ≤ n ∧ i = .int .i64 j ∧ o = .slice A1 j c1 ∧ Mem.Own .i64 wr w.heap.size wr.heap.size A1 j c1 (leavesE (l.take j)) ∧ Below w.heap.size w wr) (fun _ i _ => n - (intOf i).toNat)
  case atStart => exact ⟨0, _, n, by omega, rfl, rfl, HO.out.top, HB.out⟩
  case round =>
    obtain ⟨j, A1, c1, hj, rfl, rfl, hown, hbel⟩ := hrel
    have HX := Lib.hid hbel
    have HO1 := Lib.hid hown
    clear hbel hown
    by_cases hjn : j < n
    · obtain ⟨b, off, cs, rfl, hlt, hrd, hcc⟩ := (HR.out.below HX.out (Nat.le_refl _)).at hjn
      obtain ⟨z, hz⟩ : ∃ z, z = l.getD j default := ⟨_, rfl⟩
      rw [← hz] at hrd
      have htz : totEntry z ≤ totR totEntry l := by rw [hz]; exact totR_mem totEntry (by rw [HL.out]; exact hjn)
      have hrd2 := REntry.more hrd fun i hi => Nat.lt_of_lt_of_le hi HX.out.size
      have HSN := Lib.hid (show leavesE (l.take (j + 1)) = leavesE (l.take j) ++ [leafOf z] from by
        unfold leavesE
        rw [List.take_succ_eq_append_getElem (show j < l.length by rw [HL.out]; exact hjn), List.map_append, hz]
        simp [List.getD, show j < l.length by rw [HL.out]; exact hjn])
      obtain ⟨A3, n3, c3, hcs, -⟩ := REntry_rd.1 hrd2
      have hK := fun w2 (hb : Below wr.heap.size wr w2) => iLeafOf_any cs z w2 (REntry.more (REntry.keep hrd2 fun i hi => hb.block i hi) fun i hi => Nat.lt_of_lt_of_le hi hb.size) (by have := HT.out; omega)
      subst hcs
      have d0 : wr.cell? ⟨b, off + j * 4, none⟩ = some (.string z.label) := hcc 0 (by decide)
      have d1 : wr.cell? ⟨b, off + j * 4 + 1, none⟩ = some (.int .i64 z.kind) := hcc 1 (by decide)
      have d2 : wr.cell? ⟨b, off + j * 4 + 2, none⟩ = some (.int .i64 z.value) := hcc 2 (by decide)
      have d3 : wr.cell? ⟨b, off + j * 4 + 3, none⟩ = some (.slice A3 n3 c3) := hcc 3 (by decide)
      have HI := Lib.hid (show In .i64 (leafOf z) from by have := hsh_range (227 :: entryInts z); unfold leafOf; exact inI64 (by omega) (by omega))
      have HK := Lib.hid (hK (wr.alloc (.cells #[.string z.label, .int .i64 z.kind, .int .i64 z.value, .slice A3 n3 c3] 84)) ((Below.refl _ wr).alloc (Nat.le_refl _) _))
      have HXA := Lib.hid (HX.out.alloc HX.out.size (.cells #[.string z.label, .int .i64 z.kind, .int .i64 z.value, .slice A3 n3 c3] 84))
      have HOA := Lib.hid (HO1.out.alloc (.cells #[.string z.label, .int .i64 z.kind, .int .i64 z.value, .slice A3 n3 c3] 84))
      clear hcc hrd hrd2 hz htz hlt hK
      generalize leafOf z = lf at HSN HI HK
      obtain ⟨z0, z1, z2, z3⟩ := z
      simp only at d0 d1 d2 HK HXA HOA
      go_wp2_with fail
      refine HK.out.mono ?_
      rintro e w2 ⟨rfl, hb2⟩
      have HX2 := Lib.hid (HXA.out.trans (hb2.mono HXA.out.size))
      have HO2 := Lib.hid (HOA.out.below hb2 (by simp)).top
      clear hb2 d0 d1 d2 d3 HK
      go_wp2_with (at_builtin; refine wp_push (k := .i64) (z := lf) (by unfold BI; decide) rfl _ _ rfl rfl HO2.out rfl HI.out (by omega) HX2.out.size ?_; intro A4 c4 w4 hown4 hgr4)
      have HB4 := Lib.hid (HX2.out.trans (hgr4.below HX2.out.size HO2.out.ge))
      have HO4 := Lib.hid hown4
      clear hown4 hgr4
      go_wp2
      go_roundw
      case rel => exact ⟨j + 1, A4, c4, by omega, by go_num, rfl, by rw [HSN.out]; exact HO4.out, HB4.out⟩
      case measure => simp [intOf]; omega
    · obtain rfl : j = n := by omega
      rw [List.take_of_length_le (by rw [HL.out]; omega)] at HO1
      go_wp2
      go_ret
      exact ⟨A1, c1, rfl, HO1.out, HX.out⟩
theorem iRootOf_any (A : Option Addr) (n c : Nat) (l : List Entry) (w : World) (h : FRdEntry w w.heap.size A n l) (hn : totR totEntry l ≤ 1048576) :
    Calls Tryz.prog 35 #[.slice A n c] w fun e w' => e = .returned (.int .i64 (rootOf l)) ∧ Below w.heap.size w w' := by
  have hl := h.len
  have hn2 : n ≤ 1048576 := by have := totR_len totEntry l; omega
  have HT := Lib.hid (show rootOf l = rootN n (topOf (leavesE l)) from by unfold rootOf; rw [hl])
  have HK := Lib.hid (iLeavesOf_any A n c l w h hn)
  rw [HT.out]
  generalize leavesE l = lv at HK HT
  clear h hl
  go_enter Tryz.func35, Tryz.ntmps35
  go_wp2_with fail
  refine HK.out.mono ?_
  rintro e w1 ⟨A1, c1, rfl, ho1, hb1⟩
  have HI := Lib.hid (top_in lv ho1.wf)
  have HK2 := Lib.hid (iTopOf_any A1 n c1 lv w1 ho1.rd (by omega))
  have HB1 := Lib.hid hb1
  obtain ⟨tp, htp⟩ : ∃ tp, tp = topOf lv := ⟨_, rfl⟩
  rw [← htp] at HI HK2
  have HTP := Lib.hid htp
  clear htp
  clear ho1 hb1
  go_wp2_with fail
  refine HK2.out.mono ?_
  rintro e w2 ⟨rfl, hb2⟩
  have HB2 := Lib.hid (HB1.out.trans (hb2.mono HB1.out.size))
  clear hb2
  have HR := Lib.hid (own_lit .i64 w2 (b := w2.heap.size) (cs := #[.int .i64 231, .int .i64 n, .int .i64 tp]) (ty := 3) (zs := [231, (n : Int), tp]) (n := 3) (lo := w2.heap.size) rfl rfl rfl rfl (by
    intro z hz
    simp only [List.mem_cons, List.not_mem_nil, or_false] at hz
    rcases hz with rfl | rfl | rfl
    · exact inI64 (by omega) (by omega)
    · exact inI64 (by omega) (by omega)
    · exact HI.out) (Nat.le_refl _) (by simp [maxLen])).rd
  have HB3 := Lib.hid (HB2.out.alloc HB2.out.size (.cells #[.int .i64 231, .int .i64 n, .int .i64 tp] 3))
  go_wp2_with fail
  refine (iHash_any _ _ _ _ _ (HR.out.more (by simp)) (by omega)).mono ?_
  rintro e w3 ⟨rfl, hb3⟩
  have HB4 := Lib.hid (HB3.out.trans (hb3.mono HB3.out.size))
  clear hb3
  go_wp2
  go_ret
  exact ⟨by rw [← HTP.out]; rfl, HB4.out⟩
/-- 'make([]int, n)' in a region that draws its order -/
theorem step_makeI {ops : Array Oper} {o : Oper} {a : Act} {w : World} {K : Act → World → Prop} {Q : Exit → Act → World → Prop} {E : Prop} (hgd : Region.wanted o (yielded ops a.tmps) = true) (l c : Operand) (ho : o.op = Op.makeSlice (sty .i64) l c)
    {n : Nat} (hl : a.eval l = .int .i64 n) (hc : a.eval c = .int .i64 n) (hb : n ≤ 8796093022208)
    (hK : ∀ w', Mem.Own .i64 w' w.heap.size w'.heap.size (some ⟨w.heap.size, 0, none⟩) n n (List.replicate n 0) → Below w.heap.size w w' → K (a.put o.dst (.slice (some ⟨w.heap.size, 0, none⟩) n n)) w') :
    if Region.wanted o (yielded ops a.tmps) = true then Oper.wp Tryz.prog o a w K Q else E := by
  rw [if_pos hgd]
  obtain ⟨i, h1, h2, h3, h4⟩ := info_of (k := .i64) (by unfold BI; decide)
  have hbb : i.bytes * n ≤ 8 * n := Nat.mul_le_mul_right _ h4
  obtain ⟨w', hrun, hown, hg⟩ := run_make_full (P := Tryz.prog) w w.heap.size (sty .i64) (ety .i64) i (.int .i64 0) 1 (under_of (by unfold BI; decide)) h1 h2 h3 .i64 .i64 n (by omega) (by simp only [maxLen]; omega) (Nat.le_refl _)
  unfold Oper.wp
  simp [execOp, ho, hl, hc, hrun, Result.andThen]
  refine hK w' ⟨by simp, ?_, ?_, fun a e => (hown.lt a.block (by injection e with e; subst e; rfl)).2⟩ ((Below.refl _ _).grown hg (Nat.le_refl _) (by simp))
  · intro z hz
    have : z = 0 := (List.mem_replicate.1 hz).2
    subst this
    exact inI64 (by omega) (by omega)
  · have e : (madeCells (Value.int .i64 0).cells (n * 1)).toList = (List.replicate n (0 : Int)).map (Value.int .i64) := by
      apply List.ext_getElem
      · simp [madeCells]
      · intro j h5 h6
        simp [madeCells, Value.cells]
        have h0 : j % 1 = 0 := Nat.mod_one j
        simp [h0]
    rw [← e]
    exact hown
end Go.Proofs.YthhmhcmlbpdlbaaGreat.C10I
