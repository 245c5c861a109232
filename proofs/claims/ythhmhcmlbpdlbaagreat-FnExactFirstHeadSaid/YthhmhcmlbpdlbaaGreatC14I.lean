/- Chapter 14: signed heads: what the program's functions return. -/
import Derived.Test.YthhmhcmlbpdlbaaGreatC14S
import Derived.Test.YthhmhcmlbpdlbaaGreatC07I
import Derived.Test.YthhmhcmlbpdlbaaGreatC13I
import Derived.Test.YthhmhcmlbpdlbaaGreatC13S
import Derived.Test.YthhmhcmlbpdlbaaGreatLD
import Derived.Test.YthhmhcmlbpdlbaaGreatRKA
namespace Go.Proofs.YthhmhcmlbpdlbaaGreat.C14I
open Go.RowKit Mem MemS Rep Flat R06 R07 R13 R14 M03 M06 M07 M13 M14 C01 C03S C03H C03D C06S C06I C07I C13S C14S L13 BX RG RGS
open C14E (take_ne take_step sig_ne)
open C13I (iIsHead_any iHeadInts_any)
open RKA hiding inI64
set_option linter.unusedVariables false
set_option linter.unusedSimpArgs false
set_option maxRecDepth 100000
theorem cloneI_any (A : Option Addr) (n c : Nat) (l : List Int) (w : World) (h : Rd .i64 w w.heap.size A n l) (hn : n ≤ 1099511627776) :
    Calls Tryz.prog 76 #[.slice A n c] w fun e w' => ∃ A' c', e = .returned (.slice A' n c') ∧ Mem.Own .i64 w' w.heap.size w'.heap.size A' n c' l ∧ Below w.heap.size w w' := by
  have q24 : ∀ (w : World) (a : Option Addr) (n c n' c' : Nat), (binOp .eql 24 (.slice a n c) (.slice none n' c')).run Tryz.prog w = .ok (.bool a.isNone) w := fun w a n c n' c' => Lib.run_eql_slice_nil w _ _ a n c n' c' under_int
  have H := Lib.hid h
  rcases A with _ | a
  · have hn0 : n = 0 := by
      rcases Nat.eq_zero_or_pos n with h0 | h0
      · exact h0
      · obtain ⟨_, _, e, _⟩ := H.out.cells h0
        cases e
    subst hn0
    obtain rfl : l = [] := List.eq_nil_of_length_eq_zero H.out.len
    clear h H
    go_enter Tryz.func76, Tryz.ntmps76
    go_wp2
    go_ret
    exact ⟨none, 0, rfl, Mem.Own.nil _ _ _ _, Below.refl _ _⟩
  · clear h
    have H0 := Lib.hid (Mem.Own.lit0 .i64 (lo := w.heap.size) w (Nat.le_refl _))
    have H1 := Lib.hid (H.out.alloc (Nat.le_refl _) (.cells #[] 3))
    go_enter Tryz.func76, Tryz.ntmps76
    go_wp2_with (at_builtin; refine wp_app (k := .i64) (by unfold BI; decide) rfl _ _ rfl rfl H0.out rfl H1.out (by omega) (by simp) ?_; intro A' c' w' hown hgr)
    simp only [Nat.zero_add, List.nil_append] at hown ⊢
    go_ret
    exact ⟨A', c', rfl, hown, ((Below.refl _ _).alloc (Nat.le_refl _) _).trans (hgr.below (by simp) (fun a e => by injection e with e; subst e; simp))⟩
theorem icopyKeys_any (w : World) (A : Option Addr) (n c : Nat) (l : List Int) (nd : Int) (h : Rd .i64 w w.heap.size A n l) (hn : n ≤ 1099511627776) : Calls Tryz.prog 36 #[.agg #[.slice A n c, .int .i64 nd]] w fun e w' =>
    ∃ A' c', e = .returned (.agg #[.slice A' n c', .int .i64 nd]) ∧ Mem.Own .i64 w' w.heap.size w'.heap.size A' n c' l ∧ Below w.heap.size w w' := by
  have HR := Lib.hid h
  clear h
  obtain ⟨V, hV⟩ : ∃ V, V = (w.alloc (.cells #[.slice A n c, .int .i64 nd] 26)).alloc (.cells #[.slice none 0 0, .int .i64 0] 26) := ⟨_, rfl⟩
  have HB_1 := Lib.hid (show Below w.heap.size w V from by
    rw [hV]
    exact ((Below.refl _ _).alloc (by first | (simp; done) | (simp; omega)) _).alloc (by first | (simp; done) | (simp; omega)) _)
  have HX_1 := Lib.hid (show Box V (w.heap.size) [.slice A n c, .int .i64 nd] from by
    rw [hV]
    have := ((Box.new w #[.slice A n c, .int .i64 nd] 26).alloc (.cells #[.slice none 0 0, .int .i64 0] 26))
    simpa using this)
  have HR_1 := Lib.hid (show Box V (w.heap.size + 1) [.slice none 0 0, .int .i64 0] from by
    rw [hV]
    have := (Box.new (w.alloc (.cells #[.slice A n c, .int .i64 nd] 26)) #[.slice none 0 0, .int .i64 0] 26)
    simpa using this)
  have HV := Lib.hid hV
  have hsV : w.heap.size + 2 ≤ V.heap.size ∧ V.heap.size ≤ w.heap.size + 2 := by rw [hV]; simp
  clear hV
  go_enter Tryz.func36, Tryz.ntmps36
  go_wp2_with fail
  rw [show (w.alloc (.cells #[.slice A n c, .int .i64 nd] 26)).alloc (.cells #[.slice none 0 0, .int .i64 0] 26) = V from HV.out.symm]
  refine (cloneI_any A n c l _ ((HR.out.below HB_1.out (Nat.le_refl _)).more HB_1.out.size) hn).mono ?_
  rintro e W1 ⟨D, d, rfl, ho, hb⟩
  have HB_2 := Lib.hid (HB_1.out.trans (hb.mono HB_1.out.size))
  have HX_2 := Lib.hid (HX_1.out.below hb HX_1.out.lt)
  have HR_2 := Lib.hid (HR_1.out.below hb HR_1.out.lt)
  have hsW1 := hb.size
  have HO := Lib.hid ho
  clear ho hb
  have zX0 := HX_2.out.cell (j := 0) rfl
  have fX0 := HX_2.out.warm (j := 0) rfl
  have zX1 := HX_2.out.cell (j := 1) rfl
  have fX1 := HX_2.out.warm (j := 1) rfl
  have zR0 := HR_2.out.cell (j := 0) rfl
  have fR0 := HR_2.out.warm (j := 0) rfl
  have zR1 := HR_2.out.cell (j := 1) rfl
  have fR1 := HR_2.out.warm (j := 1) rfl
  obtain ⟨V3, hV3⟩ : ∃ u9, puts W1 (w.heap.size) 0 [.slice D n d] = u9 := ⟨_, rfl⟩
  have HB_3 := Lib.hid (pt_bel hV3 HB_2.out (show w.heap.size ≤ (w.heap.size) by omega))
  have HX_3 := Lib.hid (show Box V3 (w.heap.size) [.slice D n d, .int .i64 nd] from pt_self hV3 HX_2.out (by simp))
  have HR_3 := Lib.hid (pt_box hV3 HR_2.out (show (w.heap.size + 1) ≠ (w.heap.size) by omega))
  have HV3 := Lib.hid hV3
  clear hV3
  have HO3 := Lib.hid (HO.out.keep (w' := V3) fun i _ h1 _ => by rw [← HV3.out]; exact puts_keep (by omega) _ _)
  obtain ⟨VF, hVF⟩ : ∃ u9, puts V3 (w.heap.size + 1) 0 [.slice D n d, .int .i64 nd] = u9 := ⟨_, rfl⟩
  have HB_4 := Lib.hid (pt_bel hVF HB_3.out (show w.heap.size ≤ (w.heap.size + 1) by omega))
  have HX_4 := Lib.hid (pt_box hVF HX_3.out (show (w.heap.size) ≠ (w.heap.size + 1) by omega))
  have HR_4 := Lib.hid (show Box VF (w.heap.size + 1) [.slice D n d, .int .i64 nd] from pt_self hVF HR_3.out (by simp))
  have HVF := Lib.hid hVF
  clear hVF
  have HO4 := Lib.hid (HO3.out.keep (w' := VF) fun i _ h1 _ => by rw [← HVF.out]; exact puts_keep (by omega) _ _)
  have hsF : W1.heap.size ≤ VF.heap.size := by rw [← HVF.out, ← HV3.out]; exact Nat.le_of_eq ((puts_size _ _).trans (puts_size _ _)).symm
  go_wp2
  rw [show W1.setCell ⟨w.heap.size, 0, none⟩ (.slice D n d) = V3 from HV3.out, show (V3.setCell ⟨w.heap.size + 1, 0, none⟩ (.slice D n d)).setCell ⟨w.heap.size + 1, 1, none⟩ (.int .i64 nd) = VF from HVF.out]
  clear zX0 fX0 zX1 fX1 zR0 fR0 zR1 fR1
  exact bodyPost_ret (v := .agg #[.slice D n d, .int .i64 nd]) (LD.res_cell LD.big_Keys Tryz.results36 rfl HR_4.out rfl) rfl ⟨D, d, rfl, (HO4.out.base (by omega)).wide hsF, HB_4.out⟩
set_option maxHeartbeats 16000000 in
theorem icopyHead_any (cs : List Value) (k : Head) (w : World) (h : RHead.rd w (Lt w.heap.size) cs k) (hn : totHead k ≤ 1048576) :
    Calls Tryz.prog 43 #[.agg cs.toArray] w fun e w' => ∃ cs', e = .returned (.agg (List.toArray cs')) ∧ OwnI RHead w' w.heap.size w'.heap.size cs' k ∧ Below w.heap.size w w' := by
  obtain ⟨A0, n0, c0, A1, n1, c1, A2, n2, c2, rfl, ⟨i1, i2, i3, i4, i5, i6, i7, i8, i9⟩, h1, h2, h3⟩ := head_parts h
  unfold totHead totKeys at hn
  obtain ⟨g0, q0⟩ := keys_row h1
  obtain ⟨g1, q1⟩ := keys_row h2
  obtain ⟨g2, q2⟩ := keys_row h3
  have hl0 := g0.len
  have hl1 := g1.len
  have hl2 := g2.len
  have HG0 := Lib.hid g0
  have HG1 := Lib.hid g1
  have HG2 := Lib.hid g2
  clear h h1 h2 h3 g0 g1 g2
  obtain ⟨V, hV⟩ : ∃ V, V = (w.alloc (.cells #[.int .i64 k.zone, .int .i64 k.epoch, .int .i64 k.kind, .int .i64 k.time, .int .i64 k.until_, .int .i64 k.count, .int .i64 k.root, .int .i64 k.prev, .slice A0 n0 c0, .int .i64 k.keys.need, .slice A1 n1 c1, .int .i64 k.heirs.need, .int .i64 k.wait, .slice A2 n2 c2, .int .i64 k.judge.need, .bool k.frozen] 31)).alloc (.cells #[.int .i64 0, .int .i64 0, .int .i64 0, .int .i64 0, .int .i64 0, .int .i64 0, .int .i64 0, .int .i64 0, .slice none 0 0, .int .i64 0, .slice none 0 0, .int .i64 0, .int .i64 0, .slice none 0 0, .int .i64 0, .bool false] 31) := ⟨_, rfl⟩
  have HB_1 := Lib.hid (show Below w.heap.size w V from by
    rw [hV]
    exact ((Below.refl _ _).alloc (by first | (simp; done) | (simp; omega)) _).alloc (by first | (simp; done) | (simp; omega)) _)
  have HX_1 := Lib.hid (show Box V (w.heap.size) [.int .i64 k.zone, .int .i64 k.epoch, .int .i64 k.kind, .int .i64 k.time, .int .i64 k.until_, .int .i64 k.count, .int .i64 k.root, .int .i64 k.prev, .slice A0 n0 c0, .int .i64 k.keys.need, .slice A1 n1 c1, .int .i64 k.heirs.need, .int .i64 k.wait, .slice A2 n2 c2, .int .i64 k.judge.need, .bool k.frozen] from by
    rw [hV]
    have := ((Box.new w #[.int .i64 k.zone, .int .i64 k.epoch, .int .i64 k.kind, .int .i64 k.time, .int .i64 k.until_, .int .i64 k.count, .int .i64 k.root, .int .i64 k.prev, .slice A0 n0 c0, .int .i64 k.keys.need, .slice A1 n1 c1, .int .i64 k.heirs.need, .int .i64 k.wait, .slice A2 n2 c2, .int .i64 k.judge.need, .bool k.frozen] 31).alloc (.cells #[.int .i64 0, .int .i64 0, .int .i64 0, .int .i64 0, .int .i64 0, .int .i64 0, .int .i64 0, .int .i64 0, .slice none 0 0, .int .i64 0, .slice none 0 0, .int .i64 0, .int .i64 0, .slice none 0 0, .int .i64 0, .bool false] 31))
    simpa using this)
  have HR_1 := Lib.hid (show Box V (w.heap.size + 1) [.int .i64 0, .int .i64 0, .int .i64 0, .int .i64 0, .int .i64 0, .int .i64 0, .int .i64 0, .int .i64 0, .slice none 0 0, .int .i64 0, .slice none 0 0, .int .i64 0, .int .i64 0, .slice none 0 0, .int .i64 0, .bool false] from by
    rw [hV]
    have := (Box.new (w.alloc (.cells #[.int .i64 k.zone, .int .i64 k.epoch, .int .i64 k.kind, .int .i64 k.time, .int .i64 k.until_, .int .i64 k.count, .int .i64 k.root, .int .i64 k.prev, .slice A0 n0 c0, .int .i64 k.keys.need, .slice A1 n1 c1, .int .i64 k.heirs.need, .int .i64 k.wait, .slice A2 n2 c2, .int .i64 k.judge.need, .bool k.frozen] 31)) #[.int .i64 0, .int .i64 0, .int .i64 0, .int .i64 0, .int .i64 0, .int .i64 0, .int .i64 0, .int .i64 0, .slice none 0 0, .int .i64 0, .slice none 0 0, .int .i64 0, .int .i64 0, .slice none 0 0, .int .i64 0, .bool false] 31)
    simpa using this)
  have HV := Lib.hid hV
  have hsV : w.heap.size + 2 ≤ V.heap.size ∧ V.heap.size ≤ w.heap.size + 2 := by rw [hV]; simp
  clear hV
  go_enter Tryz.func43, Tryz.ntmps43
  go_wp2_with fail
  rw [show (w.alloc (.cells #[.int .i64 k.zone, .int .i64 k.epoch, .int .i64 k.kind, .int .i64 k.time, .int .i64 k.until_, .int .i64 k.count, .int .i64 k.root, .int .i64 k.prev, .slice A0 n0 c0, .int .i64 k.keys.need, .slice A1 n1 c1, .int .i64 k.heirs.need, .int .i64 k.wait, .slice A2 n2 c2, .int .i64 k.judge.need, .bool k.frozen] 31)).alloc (.cells #[.int .i64 0, .int .i64 0, .int .i64 0, .int .i64 0, .int .i64 0, .int .i64 0, .int .i64 0, .int .i64 0, .slice none 0 0, .int .i64 0, .slice none 0 0, .int .i64 0, .int .i64 0, .slice none 0 0, .int .i64 0, .bool false] 31) = V from HV.out.symm]
  refine OS.wp_region_late (S := (fun w9 => w9.rangeAt (w.heap.size) 0 [.int .i64 k.zone, .int .i64 k.epoch, .int .i64 k.kind, .int .i64 k.time, .int .i64 k.until_, .int .i64 k.count, .int .i64 k.root, .int .i64 k.prev, .slice A0 n0 c0, .int .i64 k.keys.need, .slice A1 n1 c1, .int .i64 k.heirs.need, .int .i64 k.wait, .slice A2 n2 c2, .int .i64 k.judge.need, .bool k.frozen])) (N := [10, 11, 12, 13, 14]) (by kernel_rfl) ?_
  have hdr : Below V.heap.size V V.drew := (Below.refl _ _).drew
  have HB_2 := Lib.hid (HB_1.out.trans (hdr.mono HB_1.out.size))
  have HX_2 := Lib.hid (HX_1.out.below hdr HX_1.out.lt)
  have HR_2 := Lib.hid (HR_1.out.below hdr HR_1.out.lt)
  clear hdr
  have hsd : V.drew.heap.size = V.heap.size := rfl
  refine OS.wpLate_take (i := 0) (v := .pointer (some ⟨w.heap.size, 8, none⟩)) rfl (by kernel_rfl) (by kernel_rfl) (by kernel_rfl) (by kernel_rfl) (fun _ _ _ h => h) (Or.inl ⟨by rfl, fun w h => ?_⟩) (LD.box_range HX_2.out) ?_
  · clear h
    go_simp
  simp only [Act.put, List.getElem_toArray, List.getElem_cons_zero, List.getElem_cons_succ, List.setIfInBounds_toArray, List.set_cons_succ, List.set_cons_zero]
  refine OS.wpLate_take (i := 1)  rfl (by kernel_rfl) (by kernel_rfl) (by kernel_rfl) (by kernel_rfl) (fun _ _ _ h => h) (OS.ylm LD.big_Keys (by rfl) _ rfl rfl [.int .i64 k.zone, .int .i64 k.epoch, .int .i64 k.kind, .int .i64 k.time, .int .i64 k.until_, .int .i64 k.count, .int .i64 k.root, .int .i64 k.prev] [.slice A0 n0 c0, .int .i64 k.keys.need] [.slice A1 n1 c1, .int .i64 k.heirs.need, .int .i64 k.wait, .slice A2 n2 c2, .int .i64 k.judge.need, .bool k.frozen] (fun w9 h9 => h9) rfl rfl) (LD.box_range HX_2.out) ?_
  simp only [Act.put, List.getElem_toArray, List.getElem_cons_zero, List.getElem_cons_succ, List.setIfInBounds_toArray, List.set_cons_succ, List.set_cons_zero]
  refine OS.wpLate_take (i := 3) (v := .pointer (some ⟨w.heap.size, 10, none⟩)) rfl (by kernel_rfl) (by kernel_rfl) (by kernel_rfl) (by kernel_rfl) (fun _ _ _ h => h) (Or.inl ⟨by rfl, fun w h => ?_⟩) (LD.box_range HX_2.out) ?_
  · clear h
    go_simp
  simp only [Act.put, List.getElem_toArray, List.getElem_cons_zero, List.getElem_cons_succ, List.setIfInBounds_toArray, List.set_cons_succ, List.set_cons_zero]
  refine OS.wpLate_take (i := 4)  rfl (by kernel_rfl) (by kernel_rfl) (by kernel_rfl) (by kernel_rfl) (fun _ _ _ h => h) (OS.ylm LD.big_Keys (by rfl) _ rfl rfl [.int .i64 k.zone, .int .i64 k.epoch, .int .i64 k.kind, .int .i64 k.time, .int .i64 k.until_, .int .i64 k.count, .int .i64 k.root, .int .i64 k.prev, .slice A0 n0 c0, .int .i64 k.keys.need] [.slice A1 n1 c1, .int .i64 k.heirs.need] [.int .i64 k.wait, .slice A2 n2 c2, .int .i64 k.judge.need, .bool k.frozen] (fun w9 h9 => h9) rfl rfl) (LD.box_range HX_2.out) ?_
  simp only [Act.put, List.getElem_toArray, List.getElem_cons_zero, List.getElem_cons_succ, List.setIfInBounds_toArray, List.set_cons_succ, List.set_cons_zero]
  refine OS.wpLate_take (i := 6) (v := .pointer (some ⟨w.heap.size, 13, none⟩)) rfl (by kernel_rfl) (by kernel_rfl) (by kernel_rfl) (by kernel_rfl) (fun _ _ _ h => h) (Or.inl ⟨by rfl, fun w h => ?_⟩) (LD.box_range HX_2.out) ?_
  · clear h
    go_simp
  simp only [Act.put, List.getElem_toArray, List.getElem_cons_zero, List.getElem_cons_succ, List.setIfInBounds_toArray, List.set_cons_succ, List.set_cons_zero]
  refine OS.wpLate_take (i := 7)  rfl (by kernel_rfl) (by kernel_rfl) (by kernel_rfl) (by kernel_rfl) (fun _ _ _ h => h) (OS.ylm LD.big_Keys (by rfl) _ rfl rfl [.int .i64 k.zone, .int .i64 k.epoch, .int .i64 k.kind, .int .i64 k.time, .int .i64 k.until_, .int .i64 k.count, .int .i64 k.root, .int .i64 k.prev, .slice A0 n0 c0, .int .i64 k.keys.need, .slice A1 n1 c1, .int .i64 k.heirs.need, .int .i64 k.wait] [.slice A2 n2 c2, .int .i64 k.judge.need] [.bool k.frozen] (fun w9 h9 => h9) rfl rfl) (LD.box_range HX_2.out) ?_
  simp only [Act.put, List.getElem_toArray, List.getElem_cons_zero, List.getElem_cons_succ, List.setIfInBounds_toArray, List.set_cons_succ, List.set_cons_zero]
  refine OS.wpLate_ready (rs := [2]) (by kernel_rfl) (by simp) ?_
  refine OS.AllLate.cons rfl (fun K hK => ?_) ?_
  · refine RGS.free rfl ?_
    try simp only [List.getElem_toArray, List.getElem_cons_zero, List.getElem_cons_succ]
    go_simp
    go_at_call 36
    refine (icopyKeys_any _ A0 n0 c0 k.keys.list k.keys.need ((HG0.out.below HB_2.out (Nat.le_refl _)).more HB_2.out.size) (by omega)).mono ?_
    rintro e W0 ⟨D0, e0, rfl, ho, hb⟩
    have HB_3 := Lib.hid (HB_2.out.trans (hb.mono HB_2.out.size))
    have HX_3 := Lib.hid (HX_2.out.below hb HX_2.out.lt)
    have HR_3 := Lib.hid (HR_2.out.below hb HR_2.out.lt)
    have hsW0 := hb.size
    have HP0_3 := Lib.hid (show OwnI RKeys W0 (V.drew.heap.size) (W0.heap.size) [.slice D0 n0 e0, .int .i64 k.keys.need] k.keys ∧ (W0.heap.size) ≤ W0.heap.size ∧ (w.heap.size + 2) ≤ (V.drew.heap.size) from ⟨RKeys_own.2 ⟨D0, n0, e0, rfl, ho, q0⟩, Nat.le_refl _, by omega⟩)
    clear ho hb
    go_simp
    refine hK.out _ _ (fun hNN => LD.box_range HX_3.out) ?_
    clear hK K
    refine OS.wpLate_take (i := 9) (v := .pointer (some ⟨w.heap.size, 8, none⟩)) rfl (by kernel_rfl) (by kernel_rfl) (by kernel_rfl) (by kernel_rfl) (fun _ _ _ h => h) (Or.inl ⟨by rfl, fun w h => ?_⟩) (LD.box_range HX_3.out) ?_
    · clear h
      go_simp
    simp only [Act.put, List.getElem_toArray, List.getElem_cons_zero, List.getElem_cons_succ, List.setIfInBounds_toArray, List.set_cons_succ, List.set_cons_zero]
    refine OS.wpLate_ready (rs := [5]) (by kernel_rfl) (by simp) ?_
    refine OS.AllLate.cons rfl (fun K hK => ?_) ?_
    · refine RGS.free rfl ?_
      try simp only [List.getElem_toArray, List.getElem_cons_zero, List.getElem_cons_succ]
      go_simp
      go_at_call 36
      refine (icopyKeys_any _ A1 n1 c1 k.heirs.list k.heirs.need ((HG1.out.below HB_3.out (Nat.le_refl _)).more HB_3.out.size) (by omega)).mono ?_
      rintro e W1 ⟨D1, e1, rfl, ho, hb⟩
      have HB_4 := Lib.hid (HB_3.out.trans (hb.mono HB_3.out.size))
      have HX_4 := Lib.hid (HX_3.out.below hb HX_3.out.lt)
      have HR_4 := Lib.hid (HR_3.out.below hb HR_3.out.lt)
      have HP0_4 := Lib.hid (show OwnI RKeys W1 (V.drew.heap.size) (W0.heap.size) [.slice D0 n0 e0, .int .i64 k.keys.need] k.keys ∧ (W0.heap.size) ≤ W1.heap.size ∧ (w.heap.size + 2) ≤ (V.drew.heap.size) from ⟨HP0_3.out.1.below hb HP0_3.out.2.1, Nat.le_trans HP0_3.out.2.1 hb.size, HP0_3.out.2.2⟩)
      have hsW1 := hb.size
      have HP1_4 := Lib.hid (show OwnI RKeys W1 (W0.heap.size) (W1.heap.size) [.slice D1 n1 e1, .int .i64 k.heirs.need] k.heirs ∧ (W1.heap.size) ≤ W1.heap.size ∧ (w.heap.size + 2) ≤ (W0.heap.size) from ⟨RKeys_own.2 ⟨D1, n1, e1, rfl, ho, q1⟩, Nat.le_refl _, by omega⟩)
      clear ho hb
      go_simp
      refine hK.out _ _ (fun hNN => LD.box_range HX_4.out) ?_
      clear hK K
      refine OS.wpLate_ready (rs := [8]) (by kernel_rfl) (by simp) ?_
      refine OS.AllLate.cons rfl (fun K hK => ?_) ?_
      · refine RGS.free rfl ?_
        try simp only [List.getElem_toArray, List.getElem_cons_zero, List.getElem_cons_succ]
        go_simp
        go_at_call 36
        refine (icopyKeys_any _ A2 n2 c2 k.judge.list k.judge.need ((HG2.out.below HB_4.out (Nat.le_refl _)).more HB_4.out.size) (by omega)).mono ?_
        rintro e W2 ⟨D2, e2, rfl, ho, hb⟩
        have HB_5 := Lib.hid (HB_4.out.trans (hb.mono HB_4.out.size))
        have HX_5 := Lib.hid (HX_4.out.below hb HX_4.out.lt)
        have HR_5 := Lib.hid (HR_4.out.below hb HR_4.out.lt)
        have HP0_5 := Lib.hid (show OwnI RKeys W2 (V.drew.heap.size) (W0.heap.size) [.slice D0 n0 e0, .int .i64 k.keys.need] k.keys ∧ (W0.heap.size) ≤ W2.heap.size ∧ (w.heap.size + 2) ≤ (V.drew.heap.size) from ⟨HP0_4.out.1.below hb HP0_4.out.2.1, Nat.le_trans HP0_4.out.2.1 hb.size, HP0_4.out.2.2⟩)
        have HP1_5 := Lib.hid (show OwnI RKeys W2 (W0.heap.size) (W1.heap.size) [.slice D1 n1 e1, .int .i64 k.heirs.need] k.heirs ∧ (W1.heap.size) ≤ W2.heap.size ∧ (w.heap.size + 2) ≤ (W0.heap.size) from ⟨HP1_4.out.1.below hb HP1_4.out.2.1, Nat.le_trans HP1_4.out.2.1 hb.size, HP1_4.out.2.2⟩)
        have hsW2 := hb.size
        have HP2_5 := Lib.hid (show OwnI RKeys W2 (W1.heap.size) (W2.heap.size) [.slice D2 n2 e2, .int .i64 k.judge.need] k.judge ∧ (W2.heap.size) ≤ W2.heap.size ∧ (w.heap.size + 2) ≤ (W1.heap.size) from ⟨RKeys_own.2 ⟨D2, n2, e2, rfl, ho, q2⟩, Nat.le_refl _, by omega⟩)
        clear ho hb
        go_simp
        refine hK.out _ _ (fun hNN => LD.box_range HX_5.out) ?_
        clear hK K
        refine OS.wpLate_ready (rs := [10]) (by kernel_rfl) (by simp) ?_
        refine OS.AllLate.cons rfl (fun K hK => ?_) ?_
        · refine RGS.free rfl ?_
          try simp only [List.getElem_toArray, List.getElem_cons_zero, List.getElem_cons_succ]
          obtain ⟨V3, hV3⟩ : ∃ u9, puts W2 (w.heap.size) 8 [.slice D0 n0 e0, .int .i64 k.keys.need] = u9 := ⟨_, rfl⟩
          have HB_6 := Lib.hid (pt_bel hV3 HB_5.out (show w.heap.size ≤ (w.heap.size) by omega))
          have HX_6 := Lib.hid (show Box V3 (w.heap.size) [.int .i64 k.zone, .int .i64 k.epoch, .int .i64 k.kind, .int .i64 k.time, .int .i64 k.until_, .int .i64 k.count, .int .i64 k.root, .int .i64 k.prev, .slice D0 n0 e0, .int .i64 k.keys.need, .slice A1 n1 c1, .int .i64 k.heirs.need, .int .i64 k.wait, .slice A2 n2 c2, .int .i64 k.judge.need, .bool k.frozen] from pt_self hV3 HX_5.out (by simp))
          have HR_6 := Lib.hid (pt_box hV3 HR_5.out (show (w.heap.size + 1) ≠ (w.heap.size) by omega))
          have HP0_6 := Lib.hid (pt_own hV3 HP0_5.out (show (w.heap.size) < (w.heap.size + 2) by omega))
          have HP1_6 := Lib.hid (pt_own hV3 HP1_5.out (show (w.heap.size) < (w.heap.size + 2) by omega))
          have HP2_6 := Lib.hid (pt_own hV3 HP2_5.out (show (w.heap.size) < (w.heap.size + 2) by omega))
          have HV3 := Lib.hid hV3
          clear hV3
          have hsV3 : W2.heap.size ≤ V3.heap.size := by rw [← HV3.out]; exact Nat.le_of_eq (puts_size _ _).symm
          refine LD.op_stV LD.big_Keys _ _ rfl rfl rfl HX_5.out rfl (by simp) rfl HV3.out ?_
          simp only [Act.put, List.getElem_toArray, List.getElem_cons_zero, List.getElem_cons_succ, List.setIfInBounds_toArray, List.set_cons_succ, List.set_cons_zero]
          refine hK.out _ _ (fun hNN => absurd hNN (by decide)) ?_
          clear hK K
          refine OS.wpLate_ready (rs := [11]) (by kernel_rfl) (by simp) ?_
          refine OS.AllLate.cons rfl (fun K hK => ?_) ?_
          · refine RGS.free rfl ?_
            try simp only [List.getElem_toArray, List.getElem_cons_zero, List.getElem_cons_succ]
            go_simp
            refine hK.out _ _ (fun hNN => absurd hNN (by decide)) ?_
            clear hK K
            refine OS.wpLate_ready (rs := [12]) (by kernel_rfl) (by simp) ?_
            refine OS.AllLate.cons rfl (fun K hK => ?_) ?_
            · refine RGS.free rfl ?_
              try simp only [List.getElem_toArray, List.getElem_cons_zero, List.getElem_cons_succ]
              obtain ⟨V4, hV4⟩ : ∃ u9, puts V3 (w.heap.size) 10 [.slice D1 n1 e1, .int .i64 k.heirs.need] = u9 := ⟨_, rfl⟩
              have HB_7 := Lib.hid (pt_bel hV4 HB_6.out (show w.heap.size ≤ (w.heap.size) by omega))
              have HX_7 := Lib.hid (show Box V4 (w.heap.size) [.int .i64 k.zone, .int .i64 k.epoch, .int .i64 k.kind, .int .i64 k.time, .int .i64 k.until_, .int .i64 k.count, .int .i64 k.root, .int .i64 k.prev, .slice D0 n0 e0, .int .i64 k.keys.need, .slice D1 n1 e1, .int .i64 k.heirs.need, .int .i64 k.wait, .slice A2 n2 c2, .int .i64 k.judge.need, .bool k.frozen] from pt_self hV4 HX_6.out (by simp))
              have HR_7 := Lib.hid (pt_box hV4 HR_6.out (show (w.heap.size + 1) ≠ (w.heap.size) by omega))
              have HP0_7 := Lib.hid (pt_own hV4 HP0_6.out (show (w.heap.size) < (w.heap.size + 2) by omega))
              have HP1_7 := Lib.hid (pt_own hV4 HP1_6.out (show (w.heap.size) < (w.heap.size + 2) by omega))
              have HP2_7 := Lib.hid (pt_own hV4 HP2_6.out (show (w.heap.size) < (w.heap.size + 2) by omega))
              have HV4 := Lib.hid hV4
              clear hV4
              have hsV4 : V3.heap.size ≤ V4.heap.size := by rw [← HV4.out]; exact Nat.le_of_eq (puts_size _ _).symm
              refine LD.op_stV LD.big_Keys _ _ rfl rfl rfl HX_6.out rfl (by simp) rfl HV4.out ?_
              simp only [Act.put, List.getElem_toArray, List.getElem_cons_zero, List.getElem_cons_succ, List.setIfInBounds_toArray, List.set_cons_succ, List.set_cons_zero]
              refine hK.out _ _ (fun hNN => absurd hNN (by decide)) ?_
              clear hK K
              refine OS.wpLate_ready (rs := [13]) (by kernel_rfl) (by simp) ?_
              refine OS.AllLate.cons rfl (fun K hK => ?_) ?_
              · refine RGS.free rfl ?_
                try simp only [List.getElem_toArray, List.getElem_cons_zero, List.getElem_cons_succ]
                go_simp
                refine hK.out _ _ (fun hNN => absurd hNN (by decide)) ?_
                clear hK K
                refine OS.wpLate_ready (rs := [14]) (by kernel_rfl) (by simp) ?_
                refine OS.AllLate.cons rfl (fun K hK => ?_) ?_
                · refine RGS.free rfl ?_
                  try simp only [List.getElem_toArray, List.getElem_cons_zero, List.getElem_cons_succ]
                  obtain ⟨V5, hV5⟩ : ∃ u9, puts V4 (w.heap.size) 13 [.slice D2 n2 e2, .int .i64 k.judge.need] = u9 := ⟨_, rfl⟩
                  have HB_8 := Lib.hid (pt_bel hV5 HB_7.out (show w.heap.size ≤ (w.heap.size) by omega))
                  have HX_8 := Lib.hid (show Box V5 (w.heap.size) [.int .i64 k.zone, .int .i64 k.epoch, .int .i64 k.kind, .int .i64 k.time, .int .i64 k.until_, .int .i64 k.count, .int .i64 k.root, .int .i64 k.prev, .slice D0 n0 e0, .int .i64 k.keys.need, .slice D1 n1 e1, .int .i64 k.heirs.need, .int .i64 k.wait, .slice D2 n2 e2, .int .i64 k.judge.need, .bool k.frozen] from pt_self hV5 HX_7.out (by simp))
                  have HR_8 := Lib.hid (pt_box hV5 HR_7.out (show (w.heap.size + 1) ≠ (w.heap.size) by omega))
                  have HP0_8 := Lib.hid (pt_own hV5 HP0_7.out (show (w.heap.size) < (w.heap.size + 2) by omega))
                  have HP1_8 := Lib.hid (pt_own hV5 HP1_7.out (show (w.heap.size) < (w.heap.size + 2) by omega))
                  have HP2_8 := Lib.hid (pt_own hV5 HP2_7.out (show (w.heap.size) < (w.heap.size + 2) by omega))
                  have HV5 := Lib.hid hV5
                  clear hV5
                  have hsV5 : V4.heap.size ≤ V5.heap.size := by rw [← HV5.out]; exact Nat.le_of_eq (puts_size _ _).symm
                  refine LD.op_stV LD.big_Keys _ _ rfl rfl rfl HX_7.out rfl (by simp) rfl HV5.out ?_
                  simp only [Act.put, List.getElem_toArray, List.getElem_cons_zero, List.getElem_cons_succ, List.setIfInBounds_toArray, List.set_cons_succ, List.set_cons_zero]
                  refine hK.out _ _ (fun hNN => absurd hNN (by decide)) ?_
                  clear hK K
                  refine OS.wpLate_done (by kernel_rfl) ?_ _
                  obtain ⟨VF, hVF⟩ : ∃ u9, puts V5 (w.heap.size + 1) 0 [.int .i64 k.zone, .int .i64 k.epoch, .int .i64 k.kind, .int .i64 k.time, .int .i64 k.until_, .int .i64 k.count, .int .i64 k.root, .int .i64 k.prev, .slice D0 n0 e0, .int .i64 k.keys.need, .slice D1 n1 e1, .int .i64 k.heirs.need, .int .i64 k.wait, .slice D2 n2 e2, .int .i64 k.judge.need, .bool k.frozen] = u9 := ⟨_, rfl⟩
                  have HB_9 := Lib.hid (pt_bel hVF HB_8.out (show w.heap.size ≤ (w.heap.size + 1) by omega))
                  have HX_9 := Lib.hid (pt_box hVF HX_8.out (show (w.heap.size) ≠ (w.heap.size + 1) by omega))
                  have HR_9 := Lib.hid (show Box VF (w.heap.size + 1) [.int .i64 k.zone, .int .i64 k.epoch, .int .i64 k.kind, .int .i64 k.time, .int .i64 k.until_, .int .i64 k.count, .int .i64 k.root, .int .i64 k.prev, .slice D0 n0 e0, .int .i64 k.keys.need, .slice D1 n1 e1, .int .i64 k.heirs.need, .int .i64 k.wait, .slice D2 n2 e2, .int .i64 k.judge.need, .bool k.frozen] from (show Box VF (w.heap.size + 1) ([] ++ [.int .i64 k.zone, .int .i64 k.epoch, .int .i64 k.kind, .int .i64 k.time, .int .i64 k.until_, .int .i64 k.count, .int .i64 k.root, .int .i64 k.prev, .slice D0 n0 e0, .int .i64 k.keys.need, .slice D1 n1 e1, .int .i64 k.heirs.need, .int .i64 k.wait, .slice D2 n2 e2, .int .i64 k.judge.need, .bool k.frozen] ++ []) from pt_mid hVF (show Box V5 (w.heap.size + 1) ([] ++ [.int .i64 0, .int .i64 0, .int .i64 0, .int .i64 0, .int .i64 0, .int .i64 0, .int .i64 0, .int .i64 0, .slice none 0 0, .int .i64 0, .slice none 0 0, .int .i64 0, .int .i64 0, .slice none 0 0, .int .i64 0, .bool false] ++ []) from HR_8.out) rfl rfl))
                  have HP0_9 := Lib.hid (pt_own hVF HP0_8.out (show (w.heap.size + 1) < (w.heap.size + 2) by omega))
                  have HP1_9 := Lib.hid (pt_own hVF HP1_8.out (show (w.heap.size + 1) < (w.heap.size + 2) by omega))
                  have HP2_9 := Lib.hid (pt_own hVF HP2_8.out (show (w.heap.size + 1) < (w.heap.size + 2) by omega))
                  have HVF := Lib.hid hVF
                  clear hVF
                  have hsVF : V5.heap.size ≤ VF.heap.size := by rw [← HVF.out]; exact Nat.le_of_eq (puts_size _ _).symm
                  go_wp2_with (first | (refine LD.wp_ld LD.big_Head rfl _ rfl rfl HX_8.out rfl ?_) | (refine LD.wp_stV LD.big_Head rfl _ _ rfl rfl rfl HR_8.out rfl (by decide) rfl HVF.out ?_))
                  refine bodyPost_ret (v := .agg #[.int .i64 k.zone, .int .i64 k.epoch, .int .i64 k.kind, .int .i64 k.time, .int .i64 k.until_, .int .i64 k.count, .int .i64 k.root, .int .i64 k.prev, .slice D0 n0 e0, .int .i64 k.keys.need, .slice D1 n1 e1, .int .i64 k.heirs.need, .int .i64 k.wait, .slice D2 n2 e2, .int .i64 k.judge.need, .bool k.frozen]) (LD.res_cell LD.big_Head Tryz.results43 rfl HR_9.out rfl) rfl ⟨[.int .i64 k.zone, .int .i64 k.epoch, .int .i64 k.kind, .int .i64 k.time, .int .i64 k.until_, .int .i64 k.count, .int .i64 k.root, .int .i64 k.prev, .slice D0 n0 e0, .int .i64 k.keys.need, .slice D1 n1 e1, .int .i64 k.heirs.need, .int .i64 k.wait, .slice D2 n2 e2, .int .i64 k.judge.need, .bool k.frozen], rfl, head_own rfl ⟨i1, i2, i3, i4, i5, i6, i7, i8, i9⟩ HP0_9.out.1 HP1_9.out.1 HP2_9.out.1 ?_, HB_9.out⟩
                  omega
                exact OS.AllLate.nil
              exact OS.AllLate.nil
            exact OS.AllLate.nil
          exact OS.AllLate.nil
        exact OS.AllLate.nil
      exact OS.AllLate.nil
    exact OS.AllLate.nil
  exact OS.AllLate.nil
set_option maxHeartbeats 16000000 in
theorem iSignHead_any (Ah : Option Addr) (nh ch : Nat) (held : List Int) (ks : List Value) (q : Keys) (cs : List Value) (k : Head) (w : World) (hh : Rd .i64 w w.heap.size Ah nh held) (hq : RKeys.rd w (Lt w.heap.size) ks q) (h : RHead.rd w (Lt w.heap.size) cs k) (hn : totHead k ≤ 1048576) (hm : totKeys q ≤ 1048576) (hnh : nh ≤ 1099511627776) :
    Calls Tryz.prog 9 #[.slice Ah nh ch, .agg ks.toArray, .agg cs.toArray] w fun e w' => ∃ cs', e = .returned (.agg (List.toArray cs')) ∧ OwnI RSigned w' w.heap.size w'.heap.size cs' (signHd held q k) ∧ Below w.heap.size w w' := by
  obtain ⟨A0, n0, c0, A1, n1, c1, A2, n2, c2, rfl, -⟩ := head_parts h
  obtain ⟨qA, qn, qc, rfl, -⟩ := RKeys_rd.1 hq
  have hla := headInts_len k
  have hl2 : (headInts k).length ≤ 2097152 := by unfold totHead totKeys at hn; omega
  have hql : q.list.length ≤ 1048576 := hm
  have HH := Lib.hid h
  have HQ := Lib.hid hq
  have HE := Lib.hid hh
  clear h hq hh hla
  obtain ⟨V, hV⟩ : ∃ V, V = ((w.alloc (.cells #[.slice qA qn qc, .int .i64 q.need] 26)).alloc (.cells #[.int .i64 k.zone, .int .i64 k.epoch, .int .i64 k.kind, .int .i64 k.time, .int .i64 k.until_, .int .i64 k.count, .int .i64 k.root, .int .i64 k.prev, .slice A0 n0 c0, .int .i64 k.keys.need, .slice A1 n1 c1, .int .i64 k.heirs.need, .int .i64 k.wait, .slice A2 n2 c2, .int .i64 k.judge.need, .bool k.frozen] 31)).alloc (.cells #[.int .i64 0, .int .i64 0, .int .i64 0, .int .i64 0, .int .i64 0, .int .i64 0, .int .i64 0, .int .i64 0, .slice none 0 0, .int .i64 0, .slice none 0 0, .int .i64 0, .int .i64 0, .slice none 0 0, .int .i64 0, .bool false, .slice none 0 0] 36) := ⟨_, rfl⟩
  have HB_1 := Lib.hid (show Below w.heap.size w V from by
    rw [hV]
    exact (((Below.refl _ _).alloc (by first | (simp; done) | (simp; omega)) _).alloc (by first | (simp; done) | (simp; omega)) _).alloc (by first | (simp; done) | (simp; omega)) _)
  have HX_1 := Lib.hid (show Box V (w.heap.size) [.slice qA qn qc, .int .i64 q.need] from by
    rw [hV]
    have := (((Box.new w #[.slice qA qn qc, .int .i64 q.need] 26).alloc (.cells #[.int .i64 k.zone, .int .i64 k.epoch, .int .i64 k.kind, .int .i64 k.time, .int .i64 k.until_, .int .i64 k.count, .int .i64 k.root, .int .i64 k.prev, .slice A0 n0 c0, .int .i64 k.keys.need, .slice A1 n1 c1, .int .i64 k.heirs.need, .int .i64 k.wait, .slice A2 n2 c2, .int .i64 k.judge.need, .bool k.frozen] 31)).alloc (.cells #[.int .i64 0, .int .i64 0, .int .i64 0, .int .i64 0, .int .i64 0, .int .i64 0, .int .i64 0, .int .i64 0, .slice none 0 0, .int .i64 0, .slice none 0 0, .int .i64 0, .int .i64 0, .slice none 0 0, .int .i64 0, .bool false, .slice none 0 0] 36))
    simpa using this)
  have HZ_1 := Lib.hid (show Box V (w.heap.size + 1) [.int .i64 k.zone, .int .i64 k.epoch, .int .i64 k.kind, .int .i64 k.time, .int .i64 k.until_, .int .i64 k.count, .int .i64 k.root, .int .i64 k.prev, .slice A0 n0 c0, .int .i64 k.keys.need, .slice A1 n1 c1, .int .i64 k.heirs.need, .int .i64 k.wait, .slice A2 n2 c2, .int .i64 k.judge.need, .bool k.frozen] from by
    rw [hV]
    have := ((Box.new (w.alloc (.cells #[.slice qA qn qc, .int .i64 q.need] 26)) #[.int .i64 k.zone, .int .i64 k.epoch, .int .i64 k.kind, .int .i64 k.time, .int .i64 k.until_, .int .i64 k.count, .int .i64 k.root, .int .i64 k.prev, .slice A0 n0 c0, .int .i64 k.keys.need, .slice A1 n1 c1, .int .i64 k.heirs.need, .int .i64 k.wait, .slice A2 n2 c2, .int .i64 k.judge.need, .bool k.frozen] 31).alloc (.cells #[.int .i64 0, .int .i64 0, .int .i64 0, .int .i64 0, .int .i64 0, .int .i64 0, .int .i64 0, .int .i64 0, .slice none 0 0, .int .i64 0, .slice none 0 0, .int .i64 0, .int .i64 0, .slice none 0 0, .int .i64 0, .bool false, .slice none 0 0] 36))
    simpa using this)
  have HR_1 := Lib.hid (show Box V (w.heap.size + 1 + 1) [.int .i64 0, .int .i64 0, .int .i64 0, .int .i64 0, .int .i64 0, .int .i64 0, .int .i64 0, .int .i64 0, .slice none 0 0, .int .i64 0, .slice none 0 0, .int .i64 0, .int .i64 0, .slice none 0 0, .int .i64 0, .bool false, .slice none 0 0] from by
    rw [hV]
    have := (Box.new ((w.alloc (.cells #[.slice qA qn qc, .int .i64 q.need] 26)).alloc (.cells #[.int .i64 k.zone, .int .i64 k.epoch, .int .i64 k.kind, .int .i64 k.time, .int .i64 k.until_, .int .i64 k.count, .int .i64 k.root, .int .i64 k.prev, .slice A0 n0 c0, .int .i64 k.keys.need, .slice A1 n1 c1, .int .i64 k.heirs.need, .int .i64 k.wait, .slice A2 n2 c2, .int .i64 k.judge.need, .bool k.frozen] 31)) #[.int .i64 0, .int .i64 0, .int .i64 0, .int .i64 0, .int .i64 0, .int .i64 0, .int .i64 0, .int .i64 0, .slice none 0 0, .int .i64 0, .slice none 0 0, .int .i64 0, .int .i64 0, .slice none 0 0, .int .i64 0, .bool false, .slice none 0 0] 36)
    simpa using this)
  have HV := Lib.hid hV
  have hsV : w.heap.size + 3 ≤ V.heap.size ∧ V.heap.size ≤ w.heap.size + 3 := by rw [hV]; simp
  clear hV
  go_enter Tryz.func9, Tryz.ntmps9
  go_wp2_with fail
  rw [show ((w.alloc (.cells #[.slice qA qn qc, .int .i64 q.need] 26)).alloc (.cells #[.int .i64 k.zone, .int .i64 k.epoch, .int .i64 k.kind, .int .i64 k.time, .int .i64 k.until_, .int .i64 k.count, .int .i64 k.root, .int .i64 k.prev, .slice A0 n0 c0, .int .i64 k.keys.need, .slice A1 n1 c1, .int .i64 k.heirs.need, .int .i64 k.wait, .slice A2 n2 c2, .int .i64 k.judge.need, .bool k.frozen] 31)).alloc (.cells #[.int .i64 0, .int .i64 0, .int .i64 0, .int .i64 0, .int .i64 0, .int .i64 0, .int .i64 0, .int .i64 0, .slice none 0 0, .int .i64 0, .slice none 0 0, .int .i64 0, .int .i64 0, .slice none 0 0, .int .i64 0, .bool false, .slice none 0 0] 36) = V from HV.out.symm]
  refine wp_region_held (S := (fun w9 => w9.rangeAt (w.heap.size) 0 [.slice qA qn qc, .int .i64 q.need] ∧ w9.rangeAt (w.heap.size + 1) 0 [.int .i64 k.zone, .int .i64 k.epoch, .int .i64 k.kind, .int .i64 k.time, .int .i64 k.until_, .int .i64 k.count, .int .i64 k.root, .int .i64 k.prev, .slice A0 n0 c0, .int .i64 k.keys.need, .slice A1 n1 c1, .int .i64 k.heirs.need, .int .i64 k.wait, .slice A2 n2 c2, .int .i64 k.judge.need, .bool k.frozen])) (by kernel_rfl) ?_
  change wpAnyH _ _ _ _ _ _ _ _ (World.drew _)
  have hdr : Below V.heap.size V V.drew := (Below.refl _ _).drew
  have HB_2 := Lib.hid (HB_1.out.trans (hdr.mono HB_1.out.size))
  have HX_2 := Lib.hid (HX_1.out.below hdr HX_1.out.lt)
  have HZ_2 := Lib.hid (HZ_1.out.below hdr HZ_1.out.lt)
  have HR_2 := Lib.hid (HR_1.out.below hdr HR_1.out.lt)
  clear hdr
  have hsd : V.drew.heap.size = V.heap.size := rfl
  refine wpAnyH_take (i := 0) rfl (by kernel_rfl) (by kernel_rfl) (by kernel_rfl) (fun _ _ _ h => h) (LD.yl LD.big_Head (by rfl) _ rfl rfl (fun w9 h9 => h9.2) rfl) (⟨LD.box_range HX_2.out, LD.box_range HZ_2.out⟩) ?_
  simp only [Act.put, List.getElem_toArray, List.getElem_cons_zero, List.getElem_cons_succ, List.setIfInBounds_toArray, List.set_cons_succ, List.set_cons_zero]
  refine wpAnyH_take (i := 2) (v := .slice Ah nh ch) rfl (by kernel_rfl) (by kernel_rfl) (by kernel_rfl) (fun _ _ _ h => h) (Or.inl ⟨by rfl, fun w h => ?_⟩) (⟨LD.box_range HX_2.out, LD.box_range HZ_2.out⟩) ?_
  · clear h
    go_simp
  simp only [Act.put, List.getElem_toArray, List.getElem_cons_zero, List.getElem_cons_succ, List.setIfInBounds_toArray, List.set_cons_succ, List.set_cons_zero]
  refine wpAnyH_take (i := 3) rfl (by kernel_rfl) (by kernel_rfl) (by kernel_rfl) (fun _ _ _ h => h) (LD.yl LD.big_Keys (by rfl) _ rfl rfl (fun w9 h9 => h9.1) rfl) (⟨LD.box_range HX_2.out, LD.box_range HZ_2.out⟩) ?_
  simp only [Act.put, List.getElem_toArray, List.getElem_cons_zero, List.getElem_cons_succ, List.setIfInBounds_toArray, List.set_cons_succ, List.set_cons_zero]
  refine wpAnyH_take (i := 4) rfl (by kernel_rfl) (by kernel_rfl) (by kernel_rfl) (fun _ _ _ h => h) (LD.yl LD.big_Head (by rfl) _ rfl rfl (fun w9 h9 => h9.2) rfl) (⟨LD.box_range HX_2.out, LD.box_range HZ_2.out⟩) ?_
  simp only [Act.put, List.getElem_toArray, List.getElem_cons_zero, List.getElem_cons_succ, List.setIfInBounds_toArray, List.set_cons_succ, List.set_cons_zero]
  refine wpAnyH_ready (rs := [1]) (by kernel_rfl) (by simp) ?_
  refine AllReadyH.cons rfl (fun K hK => ?_) ?_
  · refine RGS.free rfl ?_
    try simp only [List.getElem_toArray, List.getElem_cons_zero, List.getElem_cons_succ]
    go_simp
    go_at_call 43
    refine (icopyHead_any _ k _ (upH HH.out HB_2.out) hn).mono ?_
    rintro e W1 ⟨cs9, rfl, ho, hb⟩
    obtain ⟨dA0, dn0, dc0, dA1, dn1, dc1, dA2, dn2, dc2, rfl⟩ := RHead_shape ho.rd
    have HB_3 := Lib.hid (HB_2.out.trans (hb.mono HB_2.out.size))
    have HX_3 := Lib.hid (HX_2.out.below hb HX_2.out.lt)
    have HZ_3 := Lib.hid (HZ_2.out.below hb HZ_2.out.lt)
    have HR_3 := Lib.hid (HR_2.out.below hb HR_2.out.lt)
    have hsW1 := hb.size
    have HP_3 := Lib.hid (show OwnI RHead W1 (V.drew.heap.size) (W1.heap.size) [.int .i64 k.zone, .int .i64 k.epoch, .int .i64 k.kind, .int .i64 k.time, .int .i64 k.until_, .int .i64 k.count, .int .i64 k.root, .int .i64 k.prev, .slice dA0 dn0 dc0, .int .i64 k.keys.need, .slice dA1 dn1 dc1, .int .i64 k.heirs.need, .int .i64 k.wait, .slice dA2 dn2 dc2, .int .i64 k.judge.need, .bool k.frozen] k ∧ (W1.heap.size) ≤ W1.heap.size ∧ (w.heap.size + 3) ≤ (V.drew.heap.size) from ⟨ho, Nat.le_refl _, by omega⟩)
    clear ho hb
    go_simp
    refine hK.out _ _ (⟨LD.box_range HX_3.out, LD.box_range HZ_3.out⟩) (fun _ => ?_)
    clear hK K
    refine wpAnyH_ready (rs := [5]) (by kernel_rfl) (by simp) ?_
    refine AllReadyH.cons rfl (fun K hK => ?_) ?_
    · refine RGS.free rfl ?_
      try simp only [List.getElem_toArray, List.getElem_cons_zero, List.getElem_cons_succ]
      go_simp
      go_at_call 45
      refine (iHeadInts_any _ k _ (upH HH.out HB_3.out) hn).mono ?_
      rintro e W2 ⟨IA, ic, rfl, ho, hb⟩
      have HB_4 := Lib.hid (HB_3.out.trans (hb.mono HB_3.out.size))
      have HX_4 := Lib.hid (HX_3.out.below hb HX_3.out.lt)
      have HZ_4 := Lib.hid (HZ_3.out.below hb HZ_3.out.lt)
      have HR_4 := Lib.hid (HR_3.out.below hb HR_3.out.lt)
      have HP_4 := Lib.hid (show OwnI RHead W2 (V.drew.heap.size) (W1.heap.size) [.int .i64 k.zone, .int .i64 k.epoch, .int .i64 k.kind, .int .i64 k.time, .int .i64 k.until_, .int .i64 k.count, .int .i64 k.root, .int .i64 k.prev, .slice dA0 dn0 dc0, .int .i64 k.keys.need, .slice dA1 dn1 dc1, .int .i64 k.heirs.need, .int .i64 k.wait, .slice dA2 dn2 dc2, .int .i64 k.judge.need, .bool k.frozen] k ∧ (W1.heap.size) ≤ W2.heap.size ∧ (w.heap.size + 3) ≤ (V.drew.heap.size) from ⟨HP_3.out.1.below hb HP_3.out.2.1, Nat.le_trans HP_3.out.2.1 hb.size, HP_3.out.2.2⟩)
      have hsW2 := hb.size
      have HI := Lib.hid ho.rd
      clear ho hb
      go_simp
      refine hK.out _ _ (⟨LD.box_range HX_4.out, LD.box_range HZ_4.out⟩) (fun _ => ?_)
      clear hK K
      refine wpAnyH_ready (rs := [6]) (by kernel_rfl) (by simp) ?_
      refine AllReadyH.cons rfl (fun K hK => ?_) ?_
      · refine RGS.free rfl ?_
        try simp only [List.getElem_toArray, List.getElem_cons_zero, List.getElem_cons_succ]
        go_simp
        go_at_call 44
        refine (iSignBy_any Ah nh ch held _ q IA _ ic (headInts k) _ ((HE.out.below HB_4.out (Nat.le_refl _)).more HB_4.out.size) (upK HQ.out HB_4.out) HI.out (by omega) (by omega) hnh).mono ?_
        rintro e W3 ⟨SA, sc, rfl, ho, hb⟩
        have HB_5 := Lib.hid (HB_4.out.trans (hb.mono HB_4.out.size))
        have HX_5 := Lib.hid (HX_4.out.below hb HX_4.out.lt)
        have HZ_5 := Lib.hid (HZ_4.out.below hb HZ_4.out.lt)
        have HR_5 := Lib.hid (HR_4.out.below hb HR_4.out.lt)
        have HP_5 := Lib.hid (show OwnI RHead W3 (V.drew.heap.size) (W1.heap.size) [.int .i64 k.zone, .int .i64 k.epoch, .int .i64 k.kind, .int .i64 k.time, .int .i64 k.until_, .int .i64 k.count, .int .i64 k.root, .int .i64 k.prev, .slice dA0 dn0 dc0, .int .i64 k.keys.need, .slice dA1 dn1 dc1, .int .i64 k.heirs.need, .int .i64 k.wait, .slice dA2 dn2 dc2, .int .i64 k.judge.need, .bool k.frozen] k ∧ (W1.heap.size) ≤ W3.heap.size ∧ (w.heap.size + 3) ≤ (V.drew.heap.size) from ⟨HP_4.out.1.below hb HP_4.out.2.1, Nat.le_trans HP_4.out.2.1 hb.size, HP_4.out.2.2⟩)
        have hsW3 := hb.size
        have HSG := Lib.hid ho
        have hsg := ho.len
        clear hb ho
        go_simp
        refine hK.out _ _ (⟨LD.box_range HX_5.out, LD.box_range HZ_5.out⟩) (fun _ => ?_)
        clear hK K
        refine wpAnyH_ready (rs := [7]) (by kernel_rfl) (by simp) ?_
        refine AllReadyH.cons rfl (fun K hK => ?_) ?_
        · refine RGS.free rfl ?_
          try simp only [List.getElem_toArray, List.getElem_cons_zero, List.getElem_cons_succ]
          go_simp
          refine hK.out _ _ (⟨LD.box_range HX_5.out, LD.box_range HZ_5.out⟩) (fun _ => ?_)
          clear hK K
          refine wpAnyH_ready (rs := [8]) (by kernel_rfl) (by simp) ?_
          refine AllReadyH.cons rfl (fun K hK => ?_) ?_
          · refine RGS.free rfl ?_
            try simp only [List.getElem_toArray, List.getElem_cons_zero, List.getElem_cons_succ]
            obtain ⟨VF, hVF⟩ : ∃ u9, puts W3 (w.heap.size + 1 + 1) 0 [.int .i64 k.zone, .int .i64 k.epoch, .int .i64 k.kind, .int .i64 k.time, .int .i64 k.until_, .int .i64 k.count, .int .i64 k.root, .int .i64 k.prev, .slice dA0 dn0 dc0, .int .i64 k.keys.need, .slice dA1 dn1 dc1, .int .i64 k.heirs.need, .int .i64 k.wait, .slice dA2 dn2 dc2, .int .i64 k.judge.need, .bool k.frozen, .slice SA (signBy held q.list (headInts k)).length sc] = u9 := ⟨_, rfl⟩
            have HB_6 := Lib.hid (pt_bel hVF HB_5.out (show w.heap.size ≤ (w.heap.size + 1 + 1) by omega))
            have HX_6 := Lib.hid (pt_box hVF HX_5.out (show (w.heap.size) ≠ (w.heap.size + 1 + 1) by omega))
            have HZ_6 := Lib.hid (pt_box hVF HZ_5.out (show (w.heap.size + 1) ≠ (w.heap.size + 1 + 1) by omega))
            have HR_6 := Lib.hid (show Box VF (w.heap.size + 1 + 1) [.int .i64 k.zone, .int .i64 k.epoch, .int .i64 k.kind, .int .i64 k.time, .int .i64 k.until_, .int .i64 k.count, .int .i64 k.root, .int .i64 k.prev, .slice dA0 dn0 dc0, .int .i64 k.keys.need, .slice dA1 dn1 dc1, .int .i64 k.heirs.need, .int .i64 k.wait, .slice dA2 dn2 dc2, .int .i64 k.judge.need, .bool k.frozen, .slice SA (signBy held q.list (headInts k)).length sc] from (show Box VF (w.heap.size + 1 + 1) ([] ++ [.int .i64 k.zone, .int .i64 k.epoch, .int .i64 k.kind, .int .i64 k.time, .int .i64 k.until_, .int .i64 k.count, .int .i64 k.root, .int .i64 k.prev, .slice dA0 dn0 dc0, .int .i64 k.keys.need, .slice dA1 dn1 dc1, .int .i64 k.heirs.need, .int .i64 k.wait, .slice dA2 dn2 dc2, .int .i64 k.judge.need, .bool k.frozen, .slice SA (signBy held q.list (headInts k)).length sc] ++ []) from pt_mid hVF (show Box W3 (w.heap.size + 1 + 1) ([] ++ [.int .i64 0, .int .i64 0, .int .i64 0, .int .i64 0, .int .i64 0, .int .i64 0, .int .i64 0, .int .i64 0, .slice none 0 0, .int .i64 0, .slice none 0 0, .int .i64 0, .int .i64 0, .slice none 0 0, .int .i64 0, .bool false, .slice none 0 0] ++ []) from HR_5.out) rfl rfl))
            have HP_6 := Lib.hid (pt_own hVF HP_5.out (show (w.heap.size + 1 + 1) < (w.heap.size + 3) by omega))
            have HVF := Lib.hid hVF
            clear hVF
            have hsF : W3.heap.size ≤ VF.heap.size := by rw [← HVF.out]; exact Nat.le_of_eq (puts_size _ _).symm
            have HSF := Lib.hid (HSG.out.keep (w' := VF) fun i _ h1 _ => by rw [← HVF.out]; exact puts_keep (by omega) _ _)
            refine LD.op_stV LD.big_Signed _ _ rfl rfl rfl HR_5.out rfl (by decide) rfl HVF.out ?_
            simp only [Act.put, List.getElem_toArray, List.getElem_cons_zero, List.getElem_cons_succ, List.setIfInBounds_toArray, List.set_cons_succ, List.set_cons_zero]
            refine hK.out _ _ (⟨LD.box_range HX_6.out, LD.box_range HZ_6.out⟩) (fun _ => ?_)
            clear hK K
            refine wpAnyH_done (by kernel_rfl) ?_ _
            go_wp2
            refine bodyPost_ret (v := .agg #[.int .i64 k.zone, .int .i64 k.epoch, .int .i64 k.kind, .int .i64 k.time, .int .i64 k.until_, .int .i64 k.count, .int .i64 k.root, .int .i64 k.prev, .slice dA0 dn0 dc0, .int .i64 k.keys.need, .slice dA1 dn1 dc1, .int .i64 k.heirs.need, .int .i64 k.wait, .slice dA2 dn2 dc2, .int .i64 k.judge.need, .bool k.frozen, .slice SA (signBy held q.list (headInts k)).length sc]) (LD.res_cell LD.big_Signed Tryz.results9 rfl HR_6.out rfl) rfl ⟨[.int .i64 k.zone, .int .i64 k.epoch, .int .i64 k.kind, .int .i64 k.time, .int .i64 k.until_, .int .i64 k.count, .int .i64 k.root, .int .i64 k.prev, .slice dA0 dn0 dc0, .int .i64 k.keys.need, .slice dA1 dn1 dc1, .int .i64 k.heirs.need, .int .i64 k.wait, .slice dA2 dn2 dc2, .int .i64 k.judge.need, .bool k.frozen, .slice SA (signBy held q.list (headInts k)).length sc], rfl, ?_, HB_6.out⟩
            unfold signHd
            exact (signed_own (HP_6.out.1.wide (Nat.le_refl _) hsW2) HSF.out ⟨by omega, by omega⟩).wide (by omega) (by omega)
          exact AllReadyH.nil
        exact AllReadyH.nil
      exact AllReadyH.nil
    exact AllReadyH.nil
  exact AllReadyH.nil
theorem iZoneOf_any (cs : List Value) (k : Keys) (salt : Int) (w : World) (h : RKeys.rd w (Lt w.heap.size) cs k) (hs : In .i64 salt) (hn : k.list.length ≤ 1099511627) :
    Calls Tryz.prog 13 #[.agg cs.toArray, .int .i64 salt] w fun e w' => e = .returned (.int .i64 (zonOf k salt)) ∧ Below w.heap.size w w' := by
  obtain ⟨A, n, c, rfl, -⟩ := RKeys_rd.1 h
  have HB := Lib.hid ((Below.refl w.heap.size w).alloc (Nat.le_refl _) (.cells #[.slice A n c, .int .i64 k.need] 26) |>.alloc (by simp) (.cells #[.int .i64 239, .int .i64 salt] 3))
  have H := Lib.hid (upK h HB.out)
  have H0 := Lib.hid (own_lit .i64 (w.alloc (.cells #[.slice A n c, .int .i64 k.need] 26)) (b := w.heap.size + 1) (cs := #[.int .i64 239, .int .i64 salt]) (ty := 3) (zs := [239, salt]) (n := 2) (lo := w.heap.size) (by simp) rfl rfl rfl (by intro z hz; simp only [List.mem_cons, List.not_mem_nil, or_false] at hz; rcases hz with rfl | rfl; exact inI64 (by omega) (by omega); exact hs) (by simp) (by simp [maxLen]))
  clear h
  unfold zonOf
  have HC := Lib.hid (iKeysInts_any [.slice A n c, .int .i64 k.need] k _ H.out (by omega))
  go_enter Tryz.func13, Tryz.ntmps13
  go_wp2_with fail
  refine HC.out.mono ?_
  rintro e w2 ⟨A2, c2, rfl, hown, hb⟩
  have HO := Lib.hid hown
  have HB2 := Lib.hid (HB.out.trans (hb.mono HB.out.size))
  have H02 := Lib.hid (H0.out.below hb (by simp))
  clear hown hb
  go_wp2_with (at_builtin; refine wp_app (k := .i64) (by unfold BI; decide) rfl _ _ rfl rfl H02.out rfl HO.out.rd (by omega) HB2.out.size ?_; intro A3 c3 w3 hown3 hgr3)
  have HO3 := Lib.hid hown3
  have HB3 := Lib.hid (HB2.out.trans (hgr3.below HB2.out.size H02.out.ge))
  clear hown3 hgr3
  go_wp2_with fail
  refine (iHash_any A3 _ c3 _ _ HO3.out.rd (by omega)).mono ?_
  rintro e w4 ⟨rfl, hb4⟩
  have HB4 := Lib.hid (HB3.out.trans (hb4.mono HB3.out.size))
  clear hb4
  go_wp2
  go_ret
  exact ⟨rfl, HB4.out⟩
set_option maxHeartbeats 4000000 in
theorem iCountSignedSigs_any (cs ks : List Value) (k : Signed) (q : Keys) (w : World) (h : RSigned.rd w (Lt w.heap.size) cs k) (hq : RKeys.rd w (Lt w.heap.size) ks q) (hn : totSigned k ≤ 1048576) (hm : totKeys q ≤ 1048576) :
    Calls Tryz.prog 14 #[.agg cs.toArray, .agg ks.toArray] w fun e w' => e = .returned (.int .i64 (cntSd k q : Int)) ∧ Below w.heap.size w w' := by
  obtain ⟨A0, n0, c0, A1, n1, c1, A2, n2, c2, A3, n3, c3, rfl, hh, hk0, hp0, hc3, hsg⟩ := signed_parts h
  obtain ⟨qA, qn, qc, rfl, -⟩ := RKeys_rd.1 hq
  have hln := hsg.len
  have hla := headInts_len k.head
  unfold totSigned at hn
  have hnh : totHead k.head ≤ 1048576 := by omega
  have hl2 : (headInts k.head).length ≤ 2097152 := by unfold totHead totKeys at hnh; omega
  unfold totKeys at hm
  have HH := Lib.hid hh
  have HQ := Lib.hid hq
  have HS := Lib.hid hsg
  clear h hh hk0 hp0 hsg hq hla
  have HI := Lib.hid (fun w1 (hb : Below w.heap.size w w1) => iHeadInts_any _ k.head w1 (upH HH.out hb) hnh)
  unfold cntSd
  obtain ⟨V, hV⟩ : ∃ V, V = (w.alloc (.cells #[.int .i64 k.head.zone, .int .i64 k.head.epoch, .int .i64 k.head.kind, .int .i64 k.head.time, .int .i64 k.head.until_, .int .i64 k.head.count, .int .i64 k.head.root, .int .i64 k.head.prev, .slice A0 n0 c0, .int .i64 k.head.keys.need, .slice A1 n1 c1, .int .i64 k.head.heirs.need, .int .i64 k.head.wait, .slice A2 n2 c2, .int .i64 k.head.judge.need, .bool k.head.frozen, .slice A3 n3 c3] 36)).alloc (.cells #[.slice qA qn qc, .int .i64 q.need] 26) := ⟨_, rfl⟩
  have HB_1 := Lib.hid (show Below w.heap.size w V from by
    rw [hV]
    exact ((Below.refl _ _).alloc (by first | (simp; done) | (simp; omega)) _).alloc (by first | (simp; done) | (simp; omega)) _)
  have HX_1 := Lib.hid (show Box V (w.heap.size) [.int .i64 k.head.zone, .int .i64 k.head.epoch, .int .i64 k.head.kind, .int .i64 k.head.time, .int .i64 k.head.until_, .int .i64 k.head.count, .int .i64 k.head.root, .int .i64 k.head.prev, .slice A0 n0 c0, .int .i64 k.head.keys.need, .slice A1 n1 c1, .int .i64 k.head.heirs.need, .int .i64 k.head.wait, .slice A2 n2 c2, .int .i64 k.head.judge.need, .bool k.head.frozen, .slice A3 n3 c3] from by
    rw [hV]
    have := ((Box.new w #[.int .i64 k.head.zone, .int .i64 k.head.epoch, .int .i64 k.head.kind, .int .i64 k.head.time, .int .i64 k.head.until_, .int .i64 k.head.count, .int .i64 k.head.root, .int .i64 k.head.prev, .slice A0 n0 c0, .int .i64 k.head.keys.need, .slice A1 n1 c1, .int .i64 k.head.heirs.need, .int .i64 k.head.wait, .slice A2 n2 c2, .int .i64 k.head.judge.need, .bool k.head.frozen, .slice A3 n3 c3] 36).alloc (.cells #[.slice qA qn qc, .int .i64 q.need] 26))
    simpa using this)
  have HY_1 := Lib.hid (show Box V (w.heap.size + 1) [.slice qA qn qc, .int .i64 q.need] from by
    rw [hV]
    have := (Box.new (w.alloc (.cells #[.int .i64 k.head.zone, .int .i64 k.head.epoch, .int .i64 k.head.kind, .int .i64 k.head.time, .int .i64 k.head.until_, .int .i64 k.head.count, .int .i64 k.head.root, .int .i64 k.head.prev, .slice A0 n0 c0, .int .i64 k.head.keys.need, .slice A1 n1 c1, .int .i64 k.head.heirs.need, .int .i64 k.head.wait, .slice A2 n2 c2, .int .i64 k.head.judge.need, .bool k.head.frozen, .slice A3 n3 c3] 36)) #[.slice qA qn qc, .int .i64 q.need] 26)
    simpa using this)
  have HV := Lib.hid hV
  clear hV
  go_enter Tryz.func14, Tryz.ntmps14
  go_wp2_with fail
  rw [show (w.alloc (.cells #[.int .i64 k.head.zone, .int .i64 k.head.epoch, .int .i64 k.head.kind, .int .i64 k.head.time, .int .i64 k.head.until_, .int .i64 k.head.count, .int .i64 k.head.root, .int .i64 k.head.prev, .slice A0 n0 c0, .int .i64 k.head.keys.need, .slice A1 n1 c1, .int .i64 k.head.heirs.need, .int .i64 k.head.wait, .slice A2 n2 c2, .int .i64 k.head.judge.need, .bool k.head.frozen, .slice A3 n3 c3] 36)).alloc (.cells #[.slice qA qn qc, .int .i64 q.need] 26) = V from HV.out.symm]
  refine RG.region (tabP [sv (.agg #[.slice qA qn qc, .int .i64 q.need]), sv (.pointer (some ⟨w.heap.size, 0, none⟩)), sv (.agg #[.int .i64 k.head.zone, .int .i64 k.head.epoch, .int .i64 k.head.kind, .int .i64 k.head.time, .int .i64 k.head.until_, .int .i64 k.head.count, .int .i64 k.head.root, .int .i64 k.head.prev, .slice A0 n0 c0, .int .i64 k.head.keys.need, .slice A1 n1 c1, .int .i64 k.head.heirs.need, .int .i64 k.head.wait, .slice A2 n2 c2, .int .i64 k.head.judge.need, .bool k.head.frozen]), snums .i64 (headInts k.head), sv (.pointer (some ⟨w.heap.size, 16, none⟩)), sv (.slice A3 n3 c3), sv (.int .i64 ((cntS q.list (headInts k.head) k.sigs : Nat))), sv (.int .i64 ((cntS q.list (headInts k.head) k.sigs : Nat)))]) (by kernel_rfl) (by kernel_rfl) (tab_keep _) ?_ ?_
  · refine steps_cons ?_ (steps_cons ?_ (steps_cons ?_ (steps_cons ?_ (steps_cons ?_ (steps_cons ?_ (steps_cons ?_ (steps_cons ?_ (steps_nil))))))))
    · intro aa ww hA K hK
      refine free rfl ?_
      have e3 : aa.tmps.getD 3 undef = .pointer (some ⟨w.heap.size + 1, 0, none⟩) := hA.old 3 (by kernel_rfl)
      have cqHY_10 := (hA.bel.cell (p := ⟨w.heap.size + 1, 0, none⟩) HY_1.out.lt).trans (HY_1.out.cell (j := 0) rfl)
      have cqHY_11 := (hA.bel.cell (p := ⟨w.heap.size + 1, 1, none⟩) HY_1.out.lt).trans (HY_1.out.cell (j := 1) rfl)
      exact gives hK (v := .agg #[.slice qA qn qc, .int .i64 q.need]) (by simp [execOp, Act.eval, e3, cqHY_10, cqHY_11, go_sem]) rfl
    · intro aa ww hA K hK
      refine free rfl ?_
      have e2 : aa.tmps.getD 2 undef = .pointer (some ⟨w.heap.size, 0, none⟩) := hA.old 2 (by kernel_rfl)
      exact gives hK (v := .pointer (some ⟨w.heap.size, 0, none⟩)) (by simp [execOp, Act.eval, e2, go_sem]) rfl
    · intro aa ww hA K hK
      refine free rfl ?_
      have e6 : aa.tmps.getD 6 undef = .pointer (some ⟨w.heap.size, 0, none⟩) := hA.got 1 6 (by kernel_rfl)
      have lmHX_10 := LD.ldm_run (o := 0) LD.big_Head [] [.int .i64 k.head.zone, .int .i64 k.head.epoch, .int .i64 k.head.kind, .int .i64 k.head.time, .int .i64 k.head.until_, .int .i64 k.head.count, .int .i64 k.head.root, .int .i64 k.head.prev, .slice A0 n0 c0, .int .i64 k.head.keys.need, .slice A1 n1 c1, .int .i64 k.head.heirs.need, .int .i64 k.head.wait, .slice A2 n2 c2, .int .i64 k.head.judge.need, .bool k.head.frozen] [.slice A3 n3 c3] (show Box ww (w.heap.size) ([] ++ [.int .i64 k.head.zone, .int .i64 k.head.epoch, .int .i64 k.head.kind, .int .i64 k.head.time, .int .i64 k.head.until_, .int .i64 k.head.count, .int .i64 k.head.root, .int .i64 k.head.prev, .slice A0 n0 c0, .int .i64 k.head.keys.need, .slice A1 n1 c1, .int .i64 k.head.heirs.need, .int .i64 k.head.wait, .slice A2 n2 c2, .int .i64 k.head.judge.need, .bool k.head.frozen] ++ [.slice A3 n3 c3]) from HX_1.out.keep (hA.bel.block (w.heap.size) HX_1.out.lt)) rfl rfl
      exact gives hK (v := .agg #[.int .i64 k.head.zone, .int .i64 k.head.epoch, .int .i64 k.head.kind, .int .i64 k.head.time, .int .i64 k.head.until_, .int .i64 k.head.count, .int .i64 k.head.root, .int .i64 k.head.prev, .slice A0 n0 c0, .int .i64 k.head.keys.need, .slice A1 n1 c1, .int .i64 k.head.heirs.need, .int .i64 k.head.wait, .slice A2 n2 c2, .int .i64 k.head.judge.need, .bool k.head.frozen]) (by simp only [execOp, Act.eval, e6, lmHX_10, Sem.run_bind, Sem.run_pure, Result.andThen_ok]) rfl
    · intro aa ww hA K hK
      refine free rfl ?_
      have e7 : aa.tmps.getD 7 undef = .agg #[.int .i64 k.head.zone, .int .i64 k.head.epoch, .int .i64 k.head.kind, .int .i64 k.head.time, .int .i64 k.head.until_, .int .i64 k.head.count, .int .i64 k.head.root, .int .i64 k.head.prev, .slice A0 n0 c0, .int .i64 k.head.keys.need, .slice A1 n1 c1, .int .i64 k.head.heirs.need, .int .i64 k.head.wait, .slice A2 n2 c2, .int .i64 k.head.judge.need, .bool k.head.frozen] := hA.got 2 7 (by kernel_rfl)
      refine calls hK (by simp [Act.eval, e7, go_sem]) (HI.out ww (HB_1.out.trans ((RKA.below_drew hA.bel).mono HB_1.out.size))) ?_
      rintro e w1 ⟨A9, c9, rfl, hop, hb⟩
      exact ⟨_, rfl, hb, snums_own hop⟩
    · intro aa ww hA K hK
      refine free rfl ?_
      have e2 : aa.tmps.getD 2 undef = .pointer (some ⟨w.heap.size, 0, none⟩) := hA.old 2 (by kernel_rfl)
      exact gives hK (v := .pointer (some ⟨w.heap.size, 16, none⟩)) (by simp [execOp, Act.eval, e2, go_sem]) rfl
    · intro aa ww hA K hK
      refine free rfl ?_
      have e9 : aa.tmps.getD 9 undef = .pointer (some ⟨w.heap.size, 16, none⟩) := hA.got 4 9 (by kernel_rfl)
      have cls := (hA.bel.cell (p := ⟨w.heap.size, 16, none⟩) HX_1.out.lt).trans (HX_1.out.cell (j := 16) rfl)
      exact gives hK (v := .slice A3 n3 c3) (by simp [execOp, Act.eval, e9, cls, go_sem]) rfl
    · intro aa ww hA K hK
      refine free rfl ?_
      have e5 : aa.tmps.getD 5 undef = .agg #[.slice qA qn qc, .int .i64 q.need] := hA.got 0 5 (by kernel_rfl)
      obtain ⟨A8, c8, e8, hc8, h8⟩ := hA.got 3 8 (by kernel_rfl)
      have e10 : aa.tmps.getD 10 undef = .slice A3 n3 c3 := hA.got 5 10 (by kernel_rfl)
      refine calls hK (by simp [Act.eval, e5, e8, e10, go_sem]) (iCountSigs_any _ q A8 _ c8 (headInts k.head) A3 n3 c3 k.sigs ww (upK HQ.out (HB_1.out.trans ((RKA.below_drew hA.bel).mono HB_1.out.size))) h8 hc8 (upF HS.out (HB_1.out.trans ((RKA.below_drew hA.bel).mono HB_1.out.size))) (by omega) (by omega) (by omega)) ?_
      rintro e w1 ⟨rfl, hb⟩
      exact ⟨_, rfl, hb, rfl⟩
    · intro aa ww hA K hK
      refine free rfl ?_
      exact gives hK rfl (hA.got 6 11 (by kernel_rfl))
  · intro a1 w1 hb hd hsz hold hgot
    have e4 : a1.tmps.getD 4 undef = .int .i64 ((cntS q.list (headInts k.head) k.sigs : Nat)) := hgot 7 4 (by kernel_rfl)
    rename_i K9 hK9
    refine hK9 a1 w1 (wp_ret ?_)
    exact bodyPost_ret (v := .int .i64 ((cntS q.list (headInts k.head) k.sigs : Nat))) (by simp [results, Tryz.results14, go_sem]; rw [← Array.getD_eq_getD_getElem?]; exact e4) (hd.trans rfl) ⟨rfl, HB_1.out.trans ((RKA.below_drew hb).mono HB_1.out.size)⟩
set_option maxHeartbeats 4000000 in
theorem isSignedBy_any (cs ks : List Value) (k : Signed) (q : Keys) (w : World) (h : RSigned.rd w (Lt w.heap.size) cs k) (hq : RKeys.rd w (Lt w.heap.size) ks q) (hn : totSigned k ≤ 1048576) (hm : totKeys q ≤ 1048576) :
    Calls Tryz.prog 48 #[.agg cs.toArray, .agg ks.toArray] w fun e w' => e = .returned (.bool (isSgn q (headInts k.head) k.sigs)) ∧ Below w.heap.size w w' := by
  obtain ⟨A0, n0, c0, A1, n1, c1, A2, n2, c2, A3, n3, c3, rfl, hh, hk0, hp0, hc3, hsg⟩ := signed_parts h
  obtain ⟨qA, qn, qc, rfl, -⟩ := RKeys_rd.1 hq
  have hln := hsg.len
  have hla := headInts_len k.head
  unfold totSigned at hn
  have hnh : totHead k.head ≤ 1048576 := by omega
  have hl2 : (headInts k.head).length ≤ 2097152 := by unfold totHead totKeys at hnh; omega
  unfold totKeys at hm
  have HH := Lib.hid hh
  have HQ := Lib.hid hq
  have HS := Lib.hid hsg
  clear h hh hk0 hp0 hsg hq hla
  have HI := Lib.hid (fun w1 (hb : Below w.heap.size w w1) => iHeadInts_any _ k.head w1 (upH HH.out hb) hnh)
  obtain ⟨V, hV⟩ : ∃ V, V = (w.alloc (.cells #[.int .i64 k.head.zone, .int .i64 k.head.epoch, .int .i64 k.head.kind, .int .i64 k.head.time, .int .i64 k.head.until_, .int .i64 k.head.count, .int .i64 k.head.root, .int .i64 k.head.prev, .slice A0 n0 c0, .int .i64 k.head.keys.need, .slice A1 n1 c1, .int .i64 k.head.heirs.need, .int .i64 k.head.wait, .slice A2 n2 c2, .int .i64 k.head.judge.need, .bool k.head.frozen, .slice A3 n3 c3] 36)).alloc (.cells #[.slice qA qn qc, .int .i64 q.need] 26) := ⟨_, rfl⟩
  have HB_1 := Lib.hid (show Below w.heap.size w V from by
    rw [hV]
    exact ((Below.refl _ _).alloc (by first | (simp; done) | (simp; omega)) _).alloc (by first | (simp; done) | (simp; omega)) _)
  have HX_1 := Lib.hid (show Box V (w.heap.size) [.int .i64 k.head.zone, .int .i64 k.head.epoch, .int .i64 k.head.kind, .int .i64 k.head.time, .int .i64 k.head.until_, .int .i64 k.head.count, .int .i64 k.head.root, .int .i64 k.head.prev, .slice A0 n0 c0, .int .i64 k.head.keys.need, .slice A1 n1 c1, .int .i64 k.head.heirs.need, .int .i64 k.head.wait, .slice A2 n2 c2, .int .i64 k.head.judge.need, .bool k.head.frozen, .slice A3 n3 c3] from by
    rw [hV]
    have := ((Box.new w #[.int .i64 k.head.zone, .int .i64 k.head.epoch, .int .i64 k.head.kind, .int .i64 k.head.time, .int .i64 k.head.until_, .int .i64 k.head.count, .int .i64 k.head.root, .int .i64 k.head.prev, .slice A0 n0 c0, .int .i64 k.head.keys.need, .slice A1 n1 c1, .int .i64 k.head.heirs.need, .int .i64 k.head.wait, .slice A2 n2 c2, .int .i64 k.head.judge.need, .bool k.head.frozen, .slice A3 n3 c3] 36).alloc (.cells #[.slice qA qn qc, .int .i64 q.need] 26))
    simpa using this)
  have HY_1 := Lib.hid (show Box V (w.heap.size + 1) [.slice qA qn qc, .int .i64 q.need] from by
    rw [hV]
    have := (Box.new (w.alloc (.cells #[.int .i64 k.head.zone, .int .i64 k.head.epoch, .int .i64 k.head.kind, .int .i64 k.head.time, .int .i64 k.head.until_, .int .i64 k.head.count, .int .i64 k.head.root, .int .i64 k.head.prev, .slice A0 n0 c0, .int .i64 k.head.keys.need, .slice A1 n1 c1, .int .i64 k.head.heirs.need, .int .i64 k.head.wait, .slice A2 n2 c2, .int .i64 k.head.judge.need, .bool k.head.frozen, .slice A3 n3 c3] 36)) #[.slice qA qn qc, .int .i64 q.need] 26)
    simpa using this)
  have HV := Lib.hid hV
  clear hV
  go_enter Tryz.func48, Tryz.ntmps48
  go_wp2_with fail
  rw [show (w.alloc (.cells #[.int .i64 k.head.zone, .int .i64 k.head.epoch, .int .i64 k.head.kind, .int .i64 k.head.time, .int .i64 k.head.until_, .int .i64 k.head.count, .int .i64 k.head.root, .int .i64 k.head.prev, .slice A0 n0 c0, .int .i64 k.head.keys.need, .slice A1 n1 c1, .int .i64 k.head.heirs.need, .int .i64 k.head.wait, .slice A2 n2 c2, .int .i64 k.head.judge.need, .bool k.head.frozen, .slice A3 n3 c3] 36)).alloc (.cells #[.slice qA qn qc, .int .i64 q.need] 26) = V from HV.out.symm]
  refine RG.region (tabP [sv (.agg #[.slice qA qn qc, .int .i64 q.need]), sv (.pointer (some ⟨w.heap.size, 0, none⟩)), sv (.agg #[.int .i64 k.head.zone, .int .i64 k.head.epoch, .int .i64 k.head.kind, .int .i64 k.head.time, .int .i64 k.head.until_, .int .i64 k.head.count, .int .i64 k.head.root, .int .i64 k.head.prev, .slice A0 n0 c0, .int .i64 k.head.keys.need, .slice A1 n1 c1, .int .i64 k.head.heirs.need, .int .i64 k.head.wait, .slice A2 n2 c2, .int .i64 k.head.judge.need, .bool k.head.frozen]), snums .i64 (headInts k.head), sv (.pointer (some ⟨w.heap.size, 16, none⟩)), sv (.slice A3 n3 c3), sv (.bool (isSgn q (headInts k.head) k.sigs)), sv (.bool (isSgn q (headInts k.head) k.sigs))]) (by kernel_rfl) (by kernel_rfl) (tab_keep _) ?_ ?_
  · refine steps_cons ?_ (steps_cons ?_ (steps_cons ?_ (steps_cons ?_ (steps_cons ?_ (steps_cons ?_ (steps_cons ?_ (steps_cons ?_ (steps_nil))))))))
    · intro aa ww hA K hK
      refine free rfl ?_
      have e3 : aa.tmps.getD 3 undef = .pointer (some ⟨w.heap.size + 1, 0, none⟩) := hA.old 3 (by kernel_rfl)
      have cqHY_10 := (hA.bel.cell (p := ⟨w.heap.size + 1, 0, none⟩) HY_1.out.lt).trans (HY_1.out.cell (j := 0) rfl)
      have cqHY_11 := (hA.bel.cell (p := ⟨w.heap.size + 1, 1, none⟩) HY_1.out.lt).trans (HY_1.out.cell (j := 1) rfl)
      exact gives hK (v := .agg #[.slice qA qn qc, .int .i64 q.need]) (by simp [execOp, Act.eval, e3, cqHY_10, cqHY_11, go_sem]) rfl
    · intro aa ww hA K hK
      refine free rfl ?_
      have e2 : aa.tmps.getD 2 undef = .pointer (some ⟨w.heap.size, 0, none⟩) := hA.old 2 (by kernel_rfl)
      exact gives hK (v := .pointer (some ⟨w.heap.size, 0, none⟩)) (by simp [execOp, Act.eval, e2, go_sem]) rfl
    · intro aa ww hA K hK
      refine free rfl ?_
      have e6 : aa.tmps.getD 6 undef = .pointer (some ⟨w.heap.size, 0, none⟩) := hA.got 1 6 (by kernel_rfl)
      have lmHX_10 := LD.ldm_run (o := 0) LD.big_Head [] [.int .i64 k.head.zone, .int .i64 k.head.epoch, .int .i64 k.head.kind, .int .i64 k.head.time, .int .i64 k.head.until_, .int .i64 k.head.count, .int .i64 k.head.root, .int .i64 k.head.prev, .slice A0 n0 c0, .int .i64 k.head.keys.need, .slice A1 n1 c1, .int .i64 k.head.heirs.need, .int .i64 k.head.wait, .slice A2 n2 c2, .int .i64 k.head.judge.need, .bool k.head.frozen] [.slice A3 n3 c3] (show Box ww (w.heap.size) ([] ++ [.int .i64 k.head.zone, .int .i64 k.head.epoch, .int .i64 k.head.kind, .int .i64 k.head.time, .int .i64 k.head.until_, .int .i64 k.head.count, .int .i64 k.head.root, .int .i64 k.head.prev, .slice A0 n0 c0, .int .i64 k.head.keys.need, .slice A1 n1 c1, .int .i64 k.head.heirs.need, .int .i64 k.head.wait, .slice A2 n2 c2, .int .i64 k.head.judge.need, .bool k.head.frozen] ++ [.slice A3 n3 c3]) from HX_1.out.keep (hA.bel.block (w.heap.size) HX_1.out.lt)) rfl rfl
      exact gives hK (v := .agg #[.int .i64 k.head.zone, .int .i64 k.head.epoch, .int .i64 k.head.kind, .int .i64 k.head.time, .int .i64 k.head.until_, .int .i64 k.head.count, .int .i64 k.head.root, .int .i64 k.head.prev, .slice A0 n0 c0, .int .i64 k.head.keys.need, .slice A1 n1 c1, .int .i64 k.head.heirs.need, .int .i64 k.head.wait, .slice A2 n2 c2, .int .i64 k.head.judge.need, .bool k.head.frozen]) (by simp only [execOp, Act.eval, e6, lmHX_10, Sem.run_bind, Sem.run_pure, Result.andThen_ok]) rfl
    · intro aa ww hA K hK
      refine free rfl ?_
      have e7 : aa.tmps.getD 7 undef = .agg #[.int .i64 k.head.zone, .int .i64 k.head.epoch, .int .i64 k.head.kind, .int .i64 k.head.time, .int .i64 k.head.until_, .int .i64 k.head.count, .int .i64 k.head.root, .int .i64 k.head.prev, .slice A0 n0 c0, .int .i64 k.head.keys.need, .slice A1 n1 c1, .int .i64 k.head.heirs.need, .int .i64 k.head.wait, .slice A2 n2 c2, .int .i64 k.head.judge.need, .bool k.head.frozen] := hA.got 2 7 (by kernel_rfl)
      refine calls hK (by simp [Act.eval, e7, go_sem]) (HI.out ww (HB_1.out.trans ((RKA.below_drew hA.bel).mono HB_1.out.size))) ?_
      rintro e w1 ⟨A9, c9, rfl, hop, hb⟩
      exact ⟨_, rfl, hb, snums_own hop⟩
    · intro aa ww hA K hK
      refine free rfl ?_
      have e2 : aa.tmps.getD 2 undef = .pointer (some ⟨w.heap.size, 0, none⟩) := hA.old 2 (by kernel_rfl)
      exact gives hK (v := .pointer (some ⟨w.heap.size, 16, none⟩)) (by simp [execOp, Act.eval, e2, go_sem]) rfl
    · intro aa ww hA K hK
      refine free rfl ?_
      have e9 : aa.tmps.getD 9 undef = .pointer (some ⟨w.heap.size, 16, none⟩) := hA.got 4 9 (by kernel_rfl)
      have cls := (hA.bel.cell (p := ⟨w.heap.size, 16, none⟩) HX_1.out.lt).trans (HX_1.out.cell (j := 16) rfl)
      exact gives hK (v := .slice A3 n3 c3) (by simp [execOp, Act.eval, e9, cls, go_sem]) rfl
    · intro aa ww hA K hK
      refine free rfl ?_
      have e5 : aa.tmps.getD 5 undef = .agg #[.slice qA qn qc, .int .i64 q.need] := hA.got 0 5 (by kernel_rfl)
      obtain ⟨A8, c8, e8, hc8, h8⟩ := hA.got 3 8 (by kernel_rfl)
      have e10 : aa.tmps.getD 10 undef = .slice A3 n3 c3 := hA.got 5 10 (by kernel_rfl)
      refine calls hK (by simp [Act.eval, e5, e8, e10, go_sem]) (iIsSigned_any _ q A8 _ c8 (headInts k.head) A3 n3 c3 k.sigs ww (upK HQ.out (HB_1.out.trans ((RKA.below_drew hA.bel).mono HB_1.out.size))) h8 hc8 (upF HS.out (HB_1.out.trans ((RKA.below_drew hA.bel).mono HB_1.out.size))) hc3 (by omega) (by omega) (by omega)) ?_
      rintro e w1 ⟨rfl, hb⟩
      exact ⟨_, rfl, hb, rfl⟩
    · intro aa ww hA K hK
      refine free rfl ?_
      exact gives hK rfl (hA.got 6 11 (by kernel_rfl))
  · intro a1 w1 hb hd hsz hold hgot
    have e4 : a1.tmps.getD 4 undef = .bool (isSgn q (headInts k.head) k.sigs) := hgot 7 4 (by kernel_rfl)
    rename_i K9 hK9
    refine hK9 a1 w1 (wp_ret ?_)
    exact bodyPost_ret (v := .bool (isSgn q (headInts k.head) k.sigs)) (by simp [results, Tryz.results48, go_sem]; rw [← Array.getD_eq_getD_getElem?]; exact e4) (hd.trans rfl) ⟨rfl, HB_1.out.trans ((RKA.below_drew hb).mono HB_1.out.size)⟩
def begB (k : Head) : Bool := (k.epoch == 0) && ((k.kind == 1) && !k.frozen)
set_option maxHeartbeats 4000000 in
theorem iisBeginning_any (cs : List Value) (k : Signed) (w : World) (h : RSigned.rd w (Lt w.heap.size) cs k) :
    Calls Tryz.prog 47 #[.agg cs.toArray] w fun e w' => e = .returned (.bool (begB k.head)) ∧ Below w.heap.size w w' := by
  obtain ⟨A0, n0, c0, A1, n1, c1, A2, n2, c2, A3, n3, c3, rfl, -⟩ := signed_parts h
  clear h
  unfold begB
  rcases hf : k.head.frozen with _ | _
  all_goals
    clear hf
    by_cases h1 : k.head.epoch = 0
    all_goals
      by_cases h2 : k.head.kind = 1
      all_goals
        go_enter Tryz.func47, Tryz.ntmps47
        go_wp2
        go_ret
        exact ⟨by first | rfl | (simp [h1, h2]; done) | (simp [h1]; done) | (simp [h2]; done), (Below.refl _ _).alloc (Nat.le_refl _) _⟩
set_option maxHeartbeats 8000000 in
theorem iIsFirst_any (cs : List Value) (k : Signed) (w : World) (h : RSigned.rd w (Lt w.heap.size) cs k) (hn : totSigned k ≤ 1048576) :
    Calls Tryz.prog 12 #[.agg cs.toArray] w fun e w' => e = .returned (.bool (isFst k)) ∧ Below w.heap.size w w' := by
  have HSD := Lib.hid h
  obtain ⟨A0, n0, c0, A1, n1, c1, A2, n2, c2, A3, n3, c3, rfl, hh, hk0, hp0, hc3, hsg⟩ := signed_parts h
  have hn0 := hn
  unfold totSigned at hn
  have hnh : totHead k.head ≤ 1048576 := by omega
  have hkl : totKeys k.head.keys ≤ 1048576 := by unfold totHead at hnh; omega
  have hkl2 : k.head.keys.list.length ≤ 1048576 := hkl
  have HH := Lib.hid hh
  have HK := Lib.hid hk0
  have HD := Lib.hid (fun w1 (hb : Below w.heap.size w w1) => iIsHead_any _ k.head w1 (upH HH.out hb) hnh)
  have HG := Lib.hid (fun w1 (hb : Below w.heap.size w w1) => iisBeginning_any _ k w1 (upS HSD.out hb))
  have HZ := Lib.hid (fun w1 (hb : Below w.heap.size w w1) => iZoneOf_any _ k.head.keys k.head.prev w1 (upK HK.out hb) hp0 (by omega))
  have HY := Lib.hid (fun w1 (hb : Below w.heap.size w w1) => isSignedBy_any _ _ k k.head.keys w1 (upS HSD.out hb) (upK HK.out hb) hn0 hkl)
  clear h hh hk0 hp0 hsg hc3 hn hn0
  obtain ⟨V, hV⟩ : ∃ V, V = w.alloc (.cells #[.int .i64 k.head.zone, .int .i64 k.head.epoch, .int .i64 k.head.kind, .int .i64 k.head.time, .int .i64 k.head.until_, .int .i64 k.head.count, .int .i64 k.head.root, .int .i64 k.head.prev, .slice A0 n0 c0, .int .i64 k.head.keys.need, .slice A1 n1 c1, .int .i64 k.head.heirs.need, .int .i64 k.head.wait, .slice A2 n2 c2, .int .i64 k.head.judge.need, .bool k.head.frozen, .slice A3 n3 c3] 36) := ⟨_, rfl⟩
  have HB_1 := Lib.hid (show Below w.heap.size w V from by
    rw [hV]
    exact (Below.refl _ _).alloc (by first | (simp; done) | (simp; omega)) _)
  have HX_1 := Lib.hid (show Box V (w.heap.size) [.int .i64 k.head.zone, .int .i64 k.head.epoch, .int .i64 k.head.kind, .int .i64 k.head.time, .int .i64 k.head.until_, .int .i64 k.head.count, .int .i64 k.head.root, .int .i64 k.head.prev, .slice A0 n0 c0, .int .i64 k.head.keys.need, .slice A1 n1 c1, .int .i64 k.head.heirs.need, .int .i64 k.head.wait, .slice A2 n2 c2, .int .i64 k.head.judge.need, .bool k.head.frozen, .slice A3 n3 c3] from by
    rw [hV]
    have := (Box.new w #[.int .i64 k.head.zone, .int .i64 k.head.epoch, .int .i64 k.head.kind, .int .i64 k.head.time, .int .i64 k.head.until_, .int .i64 k.head.count, .int .i64 k.head.root, .int .i64 k.head.prev, .slice A0 n0 c0, .int .i64 k.head.keys.need, .slice A1 n1 c1, .int .i64 k.head.heirs.need, .int .i64 k.head.wait, .slice A2 n2 c2, .int .i64 k.head.judge.need, .bool k.head.frozen, .slice A3 n3 c3] 36)
    simpa using this)
  have HV := Lib.hid hV
  clear hV
  go_enter Tryz.func12, Tryz.ntmps12
  go_wp2_with fail
  rw [show w.alloc (.cells #[.int .i64 k.head.zone, .int .i64 k.head.epoch, .int .i64 k.head.kind, .int .i64 k.head.time, .int .i64 k.head.until_, .int .i64 k.head.count, .int .i64 k.head.root, .int .i64 k.head.prev, .slice A0 n0 c0, .int .i64 k.head.keys.need, .slice A1 n1 c1, .int .i64 k.head.heirs.need, .int .i64 k.head.wait, .slice A2 n2 c2, .int .i64 k.head.judge.need, .bool k.head.frozen, .slice A3 n3 c3] 36) = V from HV.out.symm]
  obtain ⟨z3, hz3⟩ : ∃ zz : Bool, zz = (isHd k.head) := ⟨_, rfl⟩
  have Hz3 := Lib.hid hz3
  clear hz3
  obtain ⟨z7, hz7⟩ : ∃ zz : Bool, zz = ((z3) && (begB k.head)) := ⟨_, rfl⟩
  have Hz7 := Lib.hid hz7
  clear hz7
  obtain ⟨z20, hz20⟩ : ∃ zz : Bool, zz = ((z7) && ((k.head.zone : Int) == (zonOf k.head.keys k.head.prev : Int))) := ⟨_, rfl⟩
  have Hz20 := Lib.hid hz20
  clear hz20
  refine RG.region (tabP [sv (.pointer (some ⟨w.heap.size, 0, none⟩)), sv (.agg #[.int .i64 k.head.zone, .int .i64 k.head.epoch, .int .i64 k.head.kind, .int .i64 k.head.time, .int .i64 k.head.until_, .int .i64 k.head.count, .int .i64 k.head.root, .int .i64 k.head.prev, .slice A0 n0 c0, .int .i64 k.head.keys.need, .slice A1 n1 c1, .int .i64 k.head.heirs.need, .int .i64 k.head.wait, .slice A2 n2 c2, .int .i64 k.head.judge.need, .bool k.head.frozen]), sv (.bool (isHd k.head)), sv (.bool (z3)), swhen (z3 == true) (sv (.agg #[.int .i64 k.head.zone, .int .i64 k.head.epoch, .int .i64 k.head.kind, .int .i64 k.head.time, .int .i64 k.head.until_, .int .i64 k.head.count, .int .i64 k.head.root, .int .i64 k.head.prev, .slice A0 n0 c0, .int .i64 k.head.keys.need, .slice A1 n1 c1, .int .i64 k.head.heirs.need, .int .i64 k.head.wait, .slice A2 n2 c2, .int .i64 k.head.judge.need, .bool k.head.frozen, .slice A3 n3 c3])), swhen (z3 == true) (sv (.bool (begB k.head))), sv (.bool ((z3) && (begB k.head))), sv (.bool (z7)), swhen (z7 == true) (sv (.pointer (some ⟨w.heap.size, 0, none⟩))), swhen (z7 == true) (sv (.pointer (some ⟨w.heap.size, 0, none⟩))), swhen (z7 == true) (sv (.int .i64 (k.head.zone))), swhen (z7 == true) (sv (.pointer (some ⟨w.heap.size, 0, none⟩))), swhen (z7 == true) (sv (.pointer (some ⟨w.heap.size, 8, none⟩))), swhen (z7 == true) (sv (.agg #[.slice A0 n0 c0, .int .i64 k.head.keys.need])), swhen (z7 == true) (sv (.pointer (some ⟨w.heap.size, 0, none⟩))), swhen (z7 == true) (sv (.pointer (some ⟨w.heap.size, 7, none⟩))), swhen (z7 == true) (sv (.int .i64 (k.head.prev))), swhen (z7 == true) (sv (.int .i64 (zonOf k.head.keys k.head.prev))), swhen (z7 == true) (sv (.bool ((k.head.zone : Int) == (zonOf k.head.keys k.head.prev : Int)))), sv (.bool ((z7) && ((k.head.zone : Int) == (zonOf k.head.keys k.head.prev : Int)))), sv (.bool (z20)), swhen (z20 == true) (sv (.agg #[.int .i64 k.head.zone, .int .i64 k.head.epoch, .int .i64 k.head.kind, .int .i64 k.head.time, .int .i64 k.head.until_, .int .i64 k.head.count, .int .i64 k.head.root, .int .i64 k.head.prev, .slice A0 n0 c0, .int .i64 k.head.keys.need, .slice A1 n1 c1, .int .i64 k.head.heirs.need, .int .i64 k.head.wait, .slice A2 n2 c2, .int .i64 k.head.judge.need, .bool k.head.frozen, .slice A3 n3 c3])), swhen (z20 == true) (sv (.pointer (some ⟨w.heap.size, 0, none⟩))), swhen (z20 == true) (sv (.pointer (some ⟨w.heap.size, 8, none⟩))), swhen (z20 == true) (sv (.agg #[.slice A0 n0 c0, .int .i64 k.head.keys.need])), swhen (z20 == true) (sv (.bool (isSgn k.head.keys (headInts k.head) k.sigs))), sv (.bool ((z20) && (isSgn k.head.keys (headInts k.head) k.sigs))), sv (.bool ((z20) && (isSgn k.head.keys (headInts k.head) k.sigs)))]) (by kernel_rfl) (by kernel_rfl) (tab_keep _) ?_ ?_
  · refine steps_cons ?_ (steps_cons ?_ (steps_cons ?_ (steps_cons ?_ (steps_cons ?_ (steps_cons ?_ (steps_cons ?_ (steps_cons ?_ (steps_cons ?_ (steps_cons ?_ (steps_cons ?_ (steps_cons ?_ (steps_cons ?_ (steps_cons ?_ (steps_cons ?_ (steps_cons ?_ (steps_cons ?_ (steps_cons ?_ (steps_cons ?_ (steps_cons ?_ (steps_cons ?_ (steps_cons ?_ (steps_cons ?_ (steps_cons ?_ (steps_cons ?_ (steps_cons ?_ (steps_cons ?_ (steps_cons ?_ (steps_nil))))))))))))))))))))))))))))
    · intro aa ww hA K hK
      refine free rfl ?_
      have e1 : aa.tmps.getD 1 undef = .pointer (some ⟨w.heap.size, 0, none⟩) := hA.old 1 (by kernel_rfl)
      exact gives hK (v := .pointer (some ⟨w.heap.size, 0, none⟩)) (by simp [execOp, Act.eval, e1, go_sem]) rfl
    · intro aa ww hA K hK
      refine free rfl ?_
      have e3 : aa.tmps.getD 3 undef = .pointer (some ⟨w.heap.size, 0, none⟩) := hA.got 0 3 (by kernel_rfl)
      have lmHX_10 := LD.ldm_run (o := 0) LD.big_Head [] [.int .i64 k.head.zone, .int .i64 k.head.epoch, .int .i64 k.head.kind, .int .i64 k.head.time, .int .i64 k.head.until_, .int .i64 k.head.count, .int .i64 k.head.root, .int .i64 k.head.prev, .slice A0 n0 c0, .int .i64 k.head.keys.need, .slice A1 n1 c1, .int .i64 k.head.heirs.need, .int .i64 k.head.wait, .slice A2 n2 c2, .int .i64 k.head.judge.need, .bool k.head.frozen] [.slice A3 n3 c3] (show Box ww (w.heap.size) ([] ++ [.int .i64 k.head.zone, .int .i64 k.head.epoch, .int .i64 k.head.kind, .int .i64 k.head.time, .int .i64 k.head.until_, .int .i64 k.head.count, .int .i64 k.head.root, .int .i64 k.head.prev, .slice A0 n0 c0, .int .i64 k.head.keys.need, .slice A1 n1 c1, .int .i64 k.head.heirs.need, .int .i64 k.head.wait, .slice A2 n2 c2, .int .i64 k.head.judge.need, .bool k.head.frozen] ++ [.slice A3 n3 c3]) from HX_1.out.keep (hA.bel.block (w.heap.size) HX_1.out.lt)) rfl rfl
      exact gives hK (v := .agg #[.int .i64 k.head.zone, .int .i64 k.head.epoch, .int .i64 k.head.kind, .int .i64 k.head.time, .int .i64 k.head.until_, .int .i64 k.head.count, .int .i64 k.head.root, .int .i64 k.head.prev, .slice A0 n0 c0, .int .i64 k.head.keys.need, .slice A1 n1 c1, .int .i64 k.head.heirs.need, .int .i64 k.head.wait, .slice A2 n2 c2, .int .i64 k.head.judge.need, .bool k.head.frozen]) (by simp only [execOp, Act.eval, e3, lmHX_10, Sem.run_bind, Sem.run_pure, Result.andThen_ok]) rfl
    · intro aa ww hA K hK
      refine free rfl ?_
      have e4 : aa.tmps.getD 4 undef = .agg #[.int .i64 k.head.zone, .int .i64 k.head.epoch, .int .i64 k.head.kind, .int .i64 k.head.time, .int .i64 k.head.until_, .int .i64 k.head.count, .int .i64 k.head.root, .int .i64 k.head.prev, .slice A0 n0 c0, .int .i64 k.head.keys.need, .slice A1 n1 c1, .int .i64 k.head.heirs.need, .int .i64 k.head.wait, .slice A2 n2 c2, .int .i64 k.head.judge.need, .bool k.head.frozen] := hA.got 1 4 (by kernel_rfl)
      refine calls hK (by simp [Act.eval, e4, go_sem]) (HD.out ww (HB_1.out.trans ((RKA.below_drew hA.bel).mono HB_1.out.size))) ?_
      rintro e w1 ⟨rfl, hb⟩
      exact ⟨_, rfl, hb, rfl⟩
    · intro aa ww hA K hK
      refine free rfl ?_
      have e5 : aa.tmps.getD 5 undef = .bool (isHd k.head) := hA.got 2 5 (by kernel_rfl)
      exact gives hK rfl (show aa.tmps.getD 5 undef = .bool z3 from by rw [e5, Hz3.out])
    · intro aa ww hA K hK
      refine guarded (s := sv (.agg #[.int .i64 k.head.zone, .int .i64 k.head.epoch, .int .i64 k.head.kind, .int .i64 k.head.time, .int .i64 k.head.until_, .int .i64 k.head.count, .int .i64 k.head.root, .int .i64 k.head.prev, .slice A0 n0 c0, .int .i64 k.head.keys.need, .slice A1 n1 c1, .int .i64 k.head.heirs.need, .int .i64 k.head.wait, .slice A2 n2 c2, .int .i64 k.head.judge.need, .bool k.head.frozen, .slice A3 n3 c3])) rfl rfl (hA.got 3 6 (by kernel_rfl)) hK fun hB hK => ?_
      have e1 : aa.tmps.getD 1 undef = .pointer (some ⟨w.heap.size, 0, none⟩) := hA.old 1 (by kernel_rfl)
      have ldHX_1 := LD.ld_run LD.big_Signed (HX_1.out.keep (hA.bel.block (w.heap.size) HX_1.out.lt)) rfl
      exact gives hK (v := .agg #[.int .i64 k.head.zone, .int .i64 k.head.epoch, .int .i64 k.head.kind, .int .i64 k.head.time, .int .i64 k.head.until_, .int .i64 k.head.count, .int .i64 k.head.root, .int .i64 k.head.prev, .slice A0 n0 c0, .int .i64 k.head.keys.need, .slice A1 n1 c1, .int .i64 k.head.heirs.need, .int .i64 k.head.wait, .slice A2 n2 c2, .int .i64 k.head.judge.need, .bool k.head.frozen, .slice A3 n3 c3]) (by simp only [execOp, Act.eval, e1, ldHX_1, Sem.run_bind, Sem.run_pure, Result.andThen_ok]) rfl
    · intro aa ww hA K hK
      refine guarded (s := sv (.bool (begB k.head))) rfl rfl (hA.got 3 6 (by kernel_rfl)) hK fun hB hK => ?_
      have e7 : aa.tmps.getD 7 undef = .agg #[.int .i64 k.head.zone, .int .i64 k.head.epoch, .int .i64 k.head.kind, .int .i64 k.head.time, .int .i64 k.head.until_, .int .i64 k.head.count, .int .i64 k.head.root, .int .i64 k.head.prev, .slice A0 n0 c0, .int .i64 k.head.keys.need, .slice A1 n1 c1, .int .i64 k.head.heirs.need, .int .i64 k.head.wait, .slice A2 n2 c2, .int .i64 k.head.judge.need, .bool k.head.frozen, .slice A3 n3 c3] := (hA.got 4 7 (by kernel_rfl)).1 hB
      refine calls hK (by simp [Act.eval, e7, go_sem]) (HG.out ww (HB_1.out.trans ((RKA.below_drew hA.bel).mono HB_1.out.size))) ?_
      rintro e w1 ⟨rfl, hb⟩
      exact ⟨_, rfl, hb, rfl⟩
    · intro aa ww hA K hK
      refine free rfl ?_
      have e6 : aa.tmps.getD 6 undef = .bool (z3) := hA.got 3 6 (by kernel_rfl)
      rcases hq : (z3) with _ | _
      · rw [hq] at e6
        exact gives hK (v := .bool false) (by simp [execOp, Act.eval, e6, asBool, go_sem]) (show Value.bool _ = .bool _ by rw [hq]; simp)
      · have ex : aa.tmps.getD 8 undef = .bool (begB k.head) := (hA.got 5 8 (by kernel_rfl)).1 (by rw [hq]; rfl)
        rw [hq] at e6
        exact gives hK (v := .bool (begB k.head)) (by simp [execOp, Act.eval, e6, ex, asBool, go_sem]) (show Value.bool _ = .bool _ by rw [hq]; simp)
    · intro aa ww hA K hK
      refine free rfl ?_
      have e9 : aa.tmps.getD 9 undef = .bool ((z3) && (begB k.head)) := hA.got 6 9 (by kernel_rfl)
      exact gives hK rfl (show aa.tmps.getD 9 undef = .bool z7 from by rw [e9, Hz7.out])
    · intro aa ww hA K hK
      refine guarded (s := sv (.pointer (some ⟨w.heap.size, 0, none⟩))) rfl rfl (hA.got 7 10 (by kernel_rfl)) hK fun hB hK => ?_
      have e1 : aa.tmps.getD 1 undef = .pointer (some ⟨w.heap.size, 0, none⟩) := hA.old 1 (by kernel_rfl)
      exact gives hK (v := .pointer (some ⟨w.heap.size, 0, none⟩)) (by simp [execOp, Act.eval, e1, go_sem]) rfl
    · intro aa ww hA K hK
      refine guarded (s := sv (.pointer (some ⟨w.heap.size, 0, none⟩))) rfl rfl (hA.got 7 10 (by kernel_rfl)) hK fun hB hK => ?_
      have e11 : aa.tmps.getD 11 undef = .pointer (some ⟨w.heap.size, 0, none⟩) := (hA.got 8 11 (by kernel_rfl)).1 hB
      exact gives hK (v := .pointer (some ⟨w.heap.size, 0, none⟩)) (by simp [execOp, Act.eval, e11, go_sem]) rfl
    · intro aa ww hA K hK
      refine guarded (s := sv (.int .i64 (k.head.zone))) rfl rfl (hA.got 7 10 (by kernel_rfl)) hK fun hB hK => ?_
      have e12 : aa.tmps.getD 12 undef = .pointer (some ⟨w.heap.size, 0, none⟩) := (hA.got 9 12 (by kernel_rfl)).1 hB
      have cqHX_10 := (hA.bel.cell (p := ⟨w.heap.size, 0, none⟩) HX_1.out.lt).trans (HX_1.out.cell (j := 0) rfl)
      exact gives hK (v := .int .i64 k.head.zone) (by simp [execOp, Act.eval, e12, cqHX_10, go_sem]) rfl
    · intro aa ww hA K hK
      refine guarded (s := sv (.pointer (some ⟨w.heap.size, 0, none⟩))) rfl rfl (hA.got 7 10 (by kernel_rfl)) hK fun hB hK => ?_
      have e1 : aa.tmps.getD 1 undef = .pointer (some ⟨w.heap.size, 0, none⟩) := hA.old 1 (by kernel_rfl)
      exact gives hK (v := .pointer (some ⟨w.heap.size, 0, none⟩)) (by simp [execOp, Act.eval, e1, go_sem]) rfl
    · intro aa ww hA K hK
      refine guarded (s := sv (.pointer (some ⟨w.heap.size, 8, none⟩))) rfl rfl (hA.got 7 10 (by kernel_rfl)) hK fun hB hK => ?_
      have e14 : aa.tmps.getD 14 undef = .pointer (some ⟨w.heap.size, 0, none⟩) := (hA.got 11 14 (by kernel_rfl)).1 hB
      exact gives hK (v := .pointer (some ⟨w.heap.size, 8, none⟩)) (by simp [execOp, Act.eval, e14, go_sem]) rfl
    · intro aa ww hA K hK
      refine guarded (s := sv (.agg #[.slice A0 n0 c0, .int .i64 k.head.keys.need])) rfl rfl (hA.got 7 10 (by kernel_rfl)) hK fun hB hK => ?_
      have e15 : aa.tmps.getD 15 undef = .pointer (some ⟨w.heap.size, 8, none⟩) := (hA.got 12 15 (by kernel_rfl)).1 hB
      have cqHX_18 := (hA.bel.cell (p := ⟨w.heap.size, 8, none⟩) HX_1.out.lt).trans (HX_1.out.cell (j := 8) rfl)
      have cqHX_19 := (hA.bel.cell (p := ⟨w.heap.size, 9, none⟩) HX_1.out.lt).trans (HX_1.out.cell (j := 9) rfl)
      exact gives hK (v := .agg #[.slice A0 n0 c0, .int .i64 k.head.keys.need]) (by simp [execOp, Act.eval, e15, cqHX_18, cqHX_19, go_sem]) rfl
    · intro aa ww hA K hK
      refine guarded (s := sv (.pointer (some ⟨w.heap.size, 0, none⟩))) rfl rfl (hA.got 7 10 (by kernel_rfl)) hK fun hB hK => ?_
      have e1 : aa.tmps.getD 1 undef = .pointer (some ⟨w.heap.size, 0, none⟩) := hA.old 1 (by kernel_rfl)
      exact gives hK (v := .pointer (some ⟨w.heap.size, 0, none⟩)) (by simp [execOp, Act.eval, e1, go_sem]) rfl
    · intro aa ww hA K hK
      refine guarded (s := sv (.pointer (some ⟨w.heap.size, 7, none⟩))) rfl rfl (hA.got 7 10 (by kernel_rfl)) hK fun hB hK => ?_
      have e17 : aa.tmps.getD 17 undef = .pointer (some ⟨w.heap.size, 0, none⟩) := (hA.got 14 17 (by kernel_rfl)).1 hB
      exact gives hK (v := .pointer (some ⟨w.heap.size, 7, none⟩)) (by simp [execOp, Act.eval, e17, go_sem]) rfl
    · intro aa ww hA K hK
      refine guarded (s := sv (.int .i64 (k.head.prev))) rfl rfl (hA.got 7 10 (by kernel_rfl)) hK fun hB hK => ?_
      have e18 : aa.tmps.getD 18 undef = .pointer (some ⟨w.heap.size, 7, none⟩) := (hA.got 15 18 (by kernel_rfl)).1 hB
      have cqHX_17 := (hA.bel.cell (p := ⟨w.heap.size, 7, none⟩) HX_1.out.lt).trans (HX_1.out.cell (j := 7) rfl)
      exact gives hK (v := .int .i64 k.head.prev) (by simp [execOp, Act.eval, e18, cqHX_17, go_sem]) rfl
    · intro aa ww hA K hK
      refine guarded (s := sv (.int .i64 (zonOf k.head.keys k.head.prev))) rfl rfl (hA.got 7 10 (by kernel_rfl)) hK fun hB hK => ?_
      have e16 : aa.tmps.getD 16 undef = .agg #[.slice A0 n0 c0, .int .i64 k.head.keys.need] := (hA.got 13 16 (by kernel_rfl)).1 hB
      have e19 : aa.tmps.getD 19 undef = .int .i64 (k.head.prev) := (hA.got 16 19 (by kernel_rfl)).1 hB
      refine calls hK (by simp [Act.eval, e16, e19, go_sem]) (HZ.out ww (HB_1.out.trans ((RKA.below_drew hA.bel).mono HB_1.out.size))) ?_
      rintro e w1 ⟨rfl, hb⟩
      exact ⟨_, rfl, hb, rfl⟩
    · intro aa ww hA K hK
      refine guarded (s := sv (.bool ((k.head.zone : Int) == (zonOf k.head.keys k.head.prev : Int)))) rfl rfl (hA.got 7 10 (by kernel_rfl)) hK fun hB hK => ?_
      have e13 : aa.tmps.getD 13 undef = .int .i64 (k.head.zone) := (hA.got 10 13 (by kernel_rfl)).1 hB
      have e20 : aa.tmps.getD 20 undef = .int .i64 (zonOf k.head.keys k.head.prev) := (hA.got 17 20 (by kernel_rfl)).1 hB
      exact gives hK (v := .bool ((k.head.zone : Int) == (zonOf k.head.keys k.head.prev : Int))) (by simp [execOp, Act.eval, e13, e20, binOp, eqGuard, go_sem]) rfl
    · intro aa ww hA K hK
      refine free rfl ?_
      have e10 : aa.tmps.getD 10 undef = .bool (z7) := hA.got 7 10 (by kernel_rfl)
      rcases hq : (z7) with _ | _
      · rw [hq] at e10
        exact gives hK (v := .bool false) (by simp [execOp, Act.eval, e10, asBool, go_sem]) (show Value.bool _ = .bool _ by rw [hq]; simp)
      · have ex : aa.tmps.getD 21 undef = .bool ((k.head.zone : Int) == (zonOf k.head.keys k.head.prev : Int)) := (hA.got 18 21 (by kernel_rfl)).1 (by rw [hq]; rfl)
        rw [hq] at e10
        exact gives hK (v := .bool ((k.head.zone : Int) == (zonOf k.head.keys k.head.prev : Int))) (by simp [execOp, Act.eval, e10, ex, asBool, go_sem]) (show Value.bool _ = .bool _ by rw [hq]; simp)
    · intro aa ww hA K hK
      refine free rfl ?_
      have e22 : aa.tmps.getD 22 undef = .bool ((z7) && ((k.head.zone : Int) == (zonOf k.head.keys k.head.prev : Int))) := hA.got 19 22 (by kernel_rfl)
      exact gives hK rfl (show aa.tmps.getD 22 undef = .bool z20 from by rw [e22, Hz20.out])
    · intro aa ww hA K hK
      refine guarded (s := sv (.agg #[.int .i64 k.head.zone, .int .i64 k.head.epoch, .int .i64 k.head.kind, .int .i64 k.head.time, .int .i64 k.head.until_, .int .i64 k.head.count, .int .i64 k.head.root, .int .i64 k.head.prev, .slice A0 n0 c0, .int .i64 k.head.keys.need, .slice A1 n1 c1, .int .i64 k.head.heirs.need, .int .i64 k.head.wait, .slice A2 n2 c2, .int .i64 k.head.judge.need, .bool k.head.frozen, .slice A3 n3 c3])) rfl rfl (hA.got 20 23 (by kernel_rfl)) hK fun hB hK => ?_
      have e1 : aa.tmps.getD 1 undef = .pointer (some ⟨w.heap.size, 0, none⟩) := hA.old 1 (by kernel_rfl)
      have ldHX_1 := LD.ld_run LD.big_Signed (HX_1.out.keep (hA.bel.block (w.heap.size) HX_1.out.lt)) rfl
      exact gives hK (v := .agg #[.int .i64 k.head.zone, .int .i64 k.head.epoch, .int .i64 k.head.kind, .int .i64 k.head.time, .int .i64 k.head.until_, .int .i64 k.head.count, .int .i64 k.head.root, .int .i64 k.head.prev, .slice A0 n0 c0, .int .i64 k.head.keys.need, .slice A1 n1 c1, .int .i64 k.head.heirs.need, .int .i64 k.head.wait, .slice A2 n2 c2, .int .i64 k.head.judge.need, .bool k.head.frozen, .slice A3 n3 c3]) (by simp only [execOp, Act.eval, e1, ldHX_1, Sem.run_bind, Sem.run_pure, Result.andThen_ok]) rfl
    · intro aa ww hA K hK
      refine guarded (s := sv (.pointer (some ⟨w.heap.size, 0, none⟩))) rfl rfl (hA.got 20 23 (by kernel_rfl)) hK fun hB hK => ?_
      have e1 : aa.tmps.getD 1 undef = .pointer (some ⟨w.heap.size, 0, none⟩) := hA.old 1 (by kernel_rfl)
      exact gives hK (v := .pointer (some ⟨w.heap.size, 0, none⟩)) (by simp [execOp, Act.eval, e1, go_sem]) rfl
    · intro aa ww hA K hK
      refine guarded (s := sv (.pointer (some ⟨w.heap.size, 8, none⟩))) rfl rfl (hA.got 20 23 (by kernel_rfl)) hK fun hB hK => ?_
      have e25 : aa.tmps.getD 25 undef = .pointer (some ⟨w.heap.size, 0, none⟩) := (hA.got 22 25 (by kernel_rfl)).1 hB
      exact gives hK (v := .pointer (some ⟨w.heap.size, 8, none⟩)) (by simp [execOp, Act.eval, e25, go_sem]) rfl
    · intro aa ww hA K hK
      refine guarded (s := sv (.agg #[.slice A0 n0 c0, .int .i64 k.head.keys.need])) rfl rfl (hA.got 20 23 (by kernel_rfl)) hK fun hB hK => ?_
      have e26 : aa.tmps.getD 26 undef = .pointer (some ⟨w.heap.size, 8, none⟩) := (hA.got 23 26 (by kernel_rfl)).1 hB
      have cqHX_18 := (hA.bel.cell (p := ⟨w.heap.size, 8, none⟩) HX_1.out.lt).trans (HX_1.out.cell (j := 8) rfl)
      have cqHX_19 := (hA.bel.cell (p := ⟨w.heap.size, 9, none⟩) HX_1.out.lt).trans (HX_1.out.cell (j := 9) rfl)
      exact gives hK (v := .agg #[.slice A0 n0 c0, .int .i64 k.head.keys.need]) (by simp [execOp, Act.eval, e26, cqHX_18, cqHX_19, go_sem]) rfl
    · intro aa ww hA K hK
      refine guarded (s := sv (.bool (isSgn k.head.keys (headInts k.head) k.sigs))) rfl rfl (hA.got 20 23 (by kernel_rfl)) hK fun hB hK => ?_
      have e24 : aa.tmps.getD 24 undef = .agg #[.int .i64 k.head.zone, .int .i64 k.head.epoch, .int .i64 k.head.kind, .int .i64 k.head.time, .int .i64 k.head.until_, .int .i64 k.head.count, .int .i64 k.head.root, .int .i64 k.head.prev, .slice A0 n0 c0, .int .i64 k.head.keys.need, .slice A1 n1 c1, .int .i64 k.head.heirs.need, .int .i64 k.head.wait, .slice A2 n2 c2, .int .i64 k.head.judge.need, .bool k.head.frozen, .slice A3 n3 c3] := (hA.got 21 24 (by kernel_rfl)).1 hB
      have e27 : aa.tmps.getD 27 undef = .agg #[.slice A0 n0 c0, .int .i64 k.head.keys.need] := (hA.got 24 27 (by kernel_rfl)).1 hB
      refine calls hK (by simp [Act.eval, e24, e27, go_sem]) (HY.out ww (HB_1.out.trans ((RKA.below_drew hA.bel).mono HB_1.out.size))) ?_
      rintro e w1 ⟨rfl, hb⟩
      exact ⟨_, rfl, hb, rfl⟩
    · intro aa ww hA K hK
      refine free rfl ?_
      have e23 : aa.tmps.getD 23 undef = .bool (z20) := hA.got 20 23 (by kernel_rfl)
      rcases hq : (z20) with _ | _
      · rw [hq] at e23
        exact gives hK (v := .bool false) (by simp [execOp, Act.eval, e23, asBool, go_sem]) (show Value.bool _ = .bool _ by rw [hq]; simp)
      · have ex : aa.tmps.getD 28 undef = .bool (isSgn k.head.keys (headInts k.head) k.sigs) := (hA.got 25 28 (by kernel_rfl)).1 (by rw [hq]; rfl)
        rw [hq] at e23
        exact gives hK (v := .bool (isSgn k.head.keys (headInts k.head) k.sigs)) (by simp [execOp, Act.eval, e23, ex, asBool, go_sem]) (show Value.bool _ = .bool _ by rw [hq]; simp)
    · intro aa ww hA K hK
      refine free rfl ?_
      exact gives hK rfl (hA.got 26 29 (by kernel_rfl))
  · intro a1 w1 hb hd hsz hold hgot
    have e2 : a1.tmps.getD 2 undef = .bool ((z20) && (isSgn k.head.keys (headInts k.head) k.sigs)) := hgot 27 2 (by kernel_rfl)
    rename_i K9 hK9
    refine hK9 a1 w1 (wp_ret ?_)
    exact bodyPost_ret (v := .bool ((z20) && (isSgn k.head.keys (headInts k.head) k.sigs))) (by simp [results, Tryz.results12, go_sem]; rw [← Array.getD_eq_getD_getElem?]; exact e2) (hd.trans rfl) ⟨by rw [Hz20.out, Hz7.out, Hz3.out]; unfold isFst begB; simp only [Bool.and_assoc], HB_1.out.trans ((RKA.below_drew hb).mono HB_1.out.size)⟩
end Go.Proofs.YthhmhcmlbpdlbaaGreat.C14I
