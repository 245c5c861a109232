/- The drawing functions of chapter 8: what they return, and that they write into nothing that was there. Chapter 9: the drawing functions of contents. -/
import Derived.Test.YtbhhifoofapgiaaGreatD05
import Derived.Test.YtbhhifoofapgiaaGreatC08S
import Derived.Deep.RegionHeld3
import Derived.Test.YtbhhifoofapgiaaGreatC09SP
namespace Go.Proofs.YtbhhifoofapgiaaGreat.D08
set_option linter.unusedVariables false
set_option maxRecDepth 100000
open Go.RowKit Mem MemS M02 M04 M05 C01 C02 D01 D02 D04 D05 SL Rep R08 M08 C08S RKA
/-- a small entry -/
def SmE (k : Entry) : Prop := k.label.size ≤ 16 ∧ In .i64 k.kind ∧ In .i64 k.value ∧ k.path.length ≤ 5 ∧ ∀ s ∈ k.path, s.size ≤ 16
/-- a draw of an entry -/
def DrE (B g : Nat) (w : World) (e : Ending) (w' : World) : Prop :=
  ∃ A n c kl kk kv kp, e = .returned (.agg #[.string kl, .int .i64 kk, .int .i64 kv, .slice A n c]) ∧ SmE ⟨kl, kk, kv, kp⟩ ∧ OwnS w' (w.heap.size + 1) w'.heap.size A n c kp ∧ Cur w' B g ∧ Kept g w w'
theorem bxK {w w' : World} {b g : Nat} {vs : List Value} (h : Box w b vs) (hk : Kept g w w') (hb : b ≠ g) : Box w' b vs := h.keep (hk.block b h.lt hb)
theorem sm_tot {k : Entry} (h : SmE k) : totEntry k ≤ 1048576 := by
  obtain ⟨h0, _, _, h3, h4⟩ := h
  have h5 : ∀ l : List ByteArray, (∀ s ∈ l, s.size ≤ 16) → (l.map ByteArray.size).sum ≤ l.length * 16 := by
    intro l
    induction l with
    | nil => intro _; simp
    | cons x r ih =>
      intro h
      have h1 := ih fun s hs => h s (List.mem_cons_of_mem _ hs)
      have h2 := h x List.mem_cons_self
      simp only [List.length_cons, List.map_cons, List.sum_cons]
      omega
  have := h5 _ h4
  unfold totEntry totSS
  omega
set_option maxHeartbeats 2000000 in
theorem l8Entry_any (w : World) (B g : Nat) (hc : Cur w B g) : Calls Tryz.prog 71 #[.pointer (some ⟨g, 0, none⟩)] w (DrE B g w) := by
  have hgl := hc.lt
  have HC0 := Lib.hid (hc.alloc (.cells #[.string ⟨#[]⟩, .int .i64 0, .int .i64 0, .slice none 0 0] 29))
  have HK0 := Lib.hid ((Kept.refl g w).alloc (.cells #[.string ⟨#[]⟩, .int .i64 0, .int .i64 0, .slice none 0 0] 29))
  have HR0 := Lib.hid (show Box (w.alloc (.cells #[.string ⟨#[]⟩, .int .i64 0, .int .i64 0, .slice none 0 0] 29)) w.heap.size [.string ⟨#[]⟩, .int .i64 0, .int .i64 0, .slice none 0 0] from by
    have := Box.new w #[.string ⟨#[]⟩, .int .i64 0, .int .i64 0, .slice none 0 0] 29
    simpa using this)
  clear hc
  go_enter Tryz.func71, Tryz.ntmps71
  go_wp2_with fail
  refine (l4Label_any _ B g HC0.out).mono ?_
  rintro e w1 ⟨v, ⟨kl, hkl, rfl⟩, rfl, hc1, hk1⟩
  have hz1 : w.heap.size + 1 ≤ w1.heap.size := by have := hk1.size; simpa using this
  have HC1 := Lib.hid hc1
  have HK1 := Lib.hid (HK0.out.trans hk1)
  have HR1 := Lib.hid (bxK HR0.out hk1 (by omega))
  clear hc1 hk1
  go_wp2_with fail
  refine (l1Below_any 5 _ B g HC1.out).mono ?_
  rintro e w2 ⟨v, ⟨y, hy0, hy1, rfl⟩, rfl, hc2, hk2⟩
  have hz2 : w.heap.size + 1 ≤ w2.heap.size := Nat.le_trans hz1 hk2.size
  have HC2 := Lib.hid hc2
  have HK2 := Lib.hid (HK1.out.trans hk2)
  have HR2 := Lib.hid (bxK HR1.out hk2 (by omega))
  clear hc2 hk2 hy1 hz1
  have hcase : y = 0 ∨ y = 1 ∨ (y ≠ 0 ∧ y ≠ 1) := by omega
  rcases hcase with rfl | rfl | ⟨h0, h1⟩
  · go_wp2_with fail
    refine (l1Below_any 5000 _ B g HC2.out).mono ?_
    rintro e w3 ⟨v, ⟨x, hx0, hx1, rfl⟩, rfl, hc3, hk3⟩
    have hz3 : w.heap.size + 1 ≤ w3.heap.size := Nat.le_trans hz2 hk3.size
    have hx9 : x ≤ 5000 := by omega
    have HC3 := Lib.hid hc3
    have HK3 := Lib.hid (HK2.out.trans hk3)
    have HR3 := Lib.hid (bxK HR2.out hk3 (by omega))
    clear hc3 hk3 hx1
    go_wp2_with fail
    refine (sZoneEntry_any kl x w3 (show InS kl by unfold InS maxLen; omega) (inI64 (by omega) (by omega))).mono ?_
    rintro e w4 ⟨cs, rfl, hown, hb4⟩
    obtain ⟨A, n, c, rfl, _, _, _, ho⟩ := REntry_own.1 hown
    simp only at ho
    have HO4 := Lib.hid (ho.base hz3)
    have HC4 := Lib.hid (HC3.out.below hb4)
    have HK4 := Lib.hid (HK3.out.trans (Kept.of_below hb4))
    have HR4 := Lib.hid (HR3.out.below hb4 (by omega))
    have hz4 : w.heap.size + 1 ≤ w4.heap.size := Nat.le_trans hz3 hb4.size
    clear hown ho hb4
    have r0 := HR4.out.cell (j := 0) rfl
    have r1 := HR4.out.cell (j := 1) rfl
    have r2 := HR4.out.cell (j := 2) rfl
    have r3 := HR4.out.cell (j := 3) rfl
    have g0 := HR4.out.warm (j := 0) rfl
    have g1 := HR4.out.warm (j := 1) rfl
    have g2 := HR4.out.warm (j := 2) rfl
    have g3 := HR4.out.warm (j := 3) rfl
    go_wp2
    refine bodyPost_ret (v := .agg #[.string kl, .int .i64 2, .int .i64 x, .slice A n c]) (by simp [results, Tryz.results71, go_sem, r0, r1, r2, r3]) rfl ⟨A, n, c, kl, 2, x, [], rfl, ⟨hkl, inI64 (by simp) (by simp), inI64 (by simp only; omega) (by simp only; omega), by simp, by simp⟩, ?_, ?_, ?_⟩
    · refine (OwnS.top (hi := w4.heap.size) ?_).base (show w.heap.size + 1 ≤ w.heap.size + 1 by omega)
      repeat refine OwnS.store ?_ _ (.inl (by simp; try omega))
      exact HO4.out
    · refine cur_low HC4.out ?_
      repeat' refine Below.setCell ?_ ?_ _
      all_goals first | exact Below.refl _ _ | (simp; omega)
    · refine kept_then HK4.out ?_
      repeat' refine Below.setCell ?_ ?_ _
      all_goals first | exact Below.refl _ _ | (simp; done) | (simp; omega)
  · go_wp2_with fail
    refine (l1Below_any 5000 _ B g HC2.out).mono ?_
    rintro e w3 ⟨v, ⟨x, hx0, hx1, rfl⟩, rfl, hc3, hk3⟩
    have hz3 : w.heap.size + 1 ≤ w3.heap.size := Nat.le_trans hz2 hk3.size
    have hx9 : x ≤ 5000 := by omega
    have HC3 := Lib.hid hc3
    have HK3 := Lib.hid (HK2.out.trans hk3)
    have HR3 := Lib.hid (bxK HR2.out hk3 (by omega))
    clear hc3 hk3 hx1
    go_wp2_with fail
    refine (l5Path_any w3 B g HC3.out).mono ?_
    rintro e w4 ⟨Ap, np, cp, kp, rfl, hnp, hsp, hop, hc4, hk4⟩
    have hz4 : w.heap.size + 1 ≤ w4.heap.size := Nat.le_trans hz3 hk4.size
    have HC4 := Lib.hid hc4
    have HK4 := Lib.hid (HK3.out.trans hk4)
    have HR4 := Lib.hid (bxK HR3.out hk4 (by omega))
    have HP4 := Lib.hid hop.rd
    have hpl := hop.len
    clear hc4 hk4 hop
    go_wp2_with fail
    refine (sMovedEntry_any kl x Ap np cp kp w4 (show InS kl by unfold InS maxLen; omega) (inI64 (by omega) (by omega)) HP4.out (by omega)).mono ?_
    rintro e w5 ⟨cs, rfl, hown, hb5⟩
    obtain ⟨A, n, c, rfl, _, _, _, ho⟩ := REntry_own.1 hown
    simp only at ho
    have HO5 := Lib.hid (ho.base hz4)
    have HC5 := Lib.hid (HC4.out.below hb5)
    have HK5 := Lib.hid (HK4.out.trans (Kept.of_below hb5))
    have HR5 := Lib.hid (HR4.out.below hb5 (by omega))
    have hz5 : w.heap.size + 1 ≤ w5.heap.size := Nat.le_trans hz4 hb5.size
    clear hown ho hb5
    have r0 := HR5.out.cell (j := 0) rfl
    have r1 := HR5.out.cell (j := 1) rfl
    have r2 := HR5.out.cell (j := 2) rfl
    have r3 := HR5.out.cell (j := 3) rfl
    have g0 := HR5.out.warm (j := 0) rfl
    have g1 := HR5.out.warm (j := 1) rfl
    have g2 := HR5.out.warm (j := 2) rfl
    have g3 := HR5.out.warm (j := 3) rfl
    go_wp2
    refine bodyPost_ret (v := .agg #[.string kl, .int .i64 3, .int .i64 x, .slice A n c]) (by simp [results, Tryz.results71, go_sem, r0, r1, r2, r3]) rfl ⟨A, n, c, kl, 3, x, kp, rfl, ⟨hkl, inI64 (by simp) (by simp), inI64 (by simp only; omega) (by simp only; omega), by simp only; omega, hsp⟩, ?_, ?_, ?_⟩
    · refine (OwnS.top (hi := w5.heap.size) ?_).base (show w.heap.size + 1 ≤ w.heap.size + 1 by omega)
      repeat refine OwnS.store ?_ _ (.inl (by simp; try omega))
      exact HO5.out
    · refine cur_low HC5.out ?_
      repeat' refine Below.setCell ?_ ?_ _
      all_goals first | exact Below.refl _ _ | (simp; omega)
    · refine kept_then HK5.out ?_
      repeat' refine Below.setCell ?_ ?_ _
      all_goals first | exact Below.refl _ _ | (simp; done) | (simp; omega)
  · have e0 : (y == 0) = false := beq_eq_false_iff_ne.2 h0
    have e1 : (y == 1) = false := beq_eq_false_iff_ne.2 h1
    go_wp2_with fail
    refine (l1Below_any 50 _ B g HC2.out).mono ?_
    rintro e w3 ⟨v, ⟨x, hx0, hx1, rfl⟩, rfl, hc3, hk3⟩
    have hz3 : w.heap.size + 1 ≤ w3.heap.size := Nat.le_trans hz2 hk3.size
    have hx9 : x ≤ 5000 := by omega
    have HC3 := Lib.hid hc3
    have HK3 := Lib.hid (HK2.out.trans hk3)
    have HR3 := Lib.hid (bxK HR2.out hk3 (by omega))
    clear hc3 hk3 hx1
    go_wp2_with fail
    refine (sValueEntry_any kl x w3 (show InS kl by unfold InS maxLen; omega) (inI64 (by omega) (by omega))).mono ?_
    rintro e w4 ⟨cs, rfl, hown, hb4⟩
    obtain ⟨A, n, c, rfl, _, _, _, ho⟩ := REntry_own.1 hown
    simp only at ho
    have HO4 := Lib.hid (ho.base hz3)
    have HC4 := Lib.hid (HC3.out.below hb4)
    have HK4 := Lib.hid (HK3.out.trans (Kept.of_below hb4))
    have HR4 := Lib.hid (HR3.out.below hb4 (by omega))
    have hz4 : w.heap.size + 1 ≤ w4.heap.size := Nat.le_trans hz3 hb4.size
    clear hown ho hb4
    have r0 := HR4.out.cell (j := 0) rfl
    have r1 := HR4.out.cell (j := 1) rfl
    have r2 := HR4.out.cell (j := 2) rfl
    have r3 := HR4.out.cell (j := 3) rfl
    have g0 := HR4.out.warm (j := 0) rfl
    have g1 := HR4.out.warm (j := 1) rfl
    have g2 := HR4.out.warm (j := 2) rfl
    have g3 := HR4.out.warm (j := 3) rfl
    go_wp2
    refine bodyPost_ret (v := .agg #[.string kl, .int .i64 1, .int .i64 x, .slice A n c]) (by simp [results, Tryz.results71, go_sem, r0, r1, r2, r3]) rfl ⟨A, n, c, kl, 1, x, [], rfl, ⟨hkl, inI64 (by simp) (by simp), inI64 (by simp only; omega) (by simp only; omega), by simp, by simp⟩, ?_, ?_, ?_⟩
    · refine (OwnS.top (hi := w4.heap.size) ?_).base (show w.heap.size + 1 ≤ w.heap.size + 1 by omega)
      repeat refine OwnS.store ?_ _ (.inl (by simp; try omega))
      exact HO4.out
    · refine cur_low HC4.out ?_
      repeat' refine Below.setCell ?_ ?_ _
      all_goals first | exact Below.refl _ _ | (simp; omega)
    · refine kept_then HK4.out ?_
      repeat' refine Below.setCell ?_ ?_ _
      all_goals first | exact Below.refl _ _ | (simp; done) | (simp; omega)
set_option maxHeartbeats 4000000 in
theorem l8Any_any (w : World) (B g : Nat) (hc : Cur w B g) : Calls Tryz.prog 83 #[.pointer (some ⟨g, 0, none⟩)] w (DrE B g w) := by
  have hgl := hc.lt
  have HC0 := Lib.hid (hc.alloc (.cells #[.string ⟨#[]⟩, .int .i64 0, .int .i64 0, .slice none 0 0] 29))
  have HK0 := Lib.hid ((Kept.refl g w).alloc (.cells #[.string ⟨#[]⟩, .int .i64 0, .int .i64 0, .slice none 0 0] 29))
  have HR0 := Lib.hid (show Box (w.alloc (.cells #[.string ⟨#[]⟩, .int .i64 0, .int .i64 0, .slice none 0 0] 29)) w.heap.size [.string ⟨#[]⟩, .int .i64 0, .int .i64 0, .slice none 0 0] from by
    have := Box.new w #[.string ⟨#[]⟩, .int .i64 0, .int .i64 0, .slice none 0 0] 29
    simpa using this)
  clear hc
  go_enter Tryz.func83, Tryz.ntmps83
  go_wp2_with fail
  refine (l8Entry_any _ B g HC0.out).mono ?_
  rintro e w1 ⟨A, n, c, kl, kk, kv, kp, rfl, hsm, hown, hc1, hk1⟩
  have hz1 : w.heap.size + 1 ≤ w1.heap.size := by have := hk1.size; simpa using this
  have HSM := Lib.hid hsm
  have HC1 := Lib.hid (hc1.alloc (.cells #[.string kl, .int .i64 kk, .int .i64 kv, .slice A n c] 29))
  have HK1 := Lib.hid ((HK0.out.trans hk1).alloc (.cells #[.string kl, .int .i64 kk, .int .i64 kv, .slice A n c] 29))
  have HR1 := Lib.hid ((bxK HR0.out hk1 (by omega)).alloc (.cells #[.string kl, .int .i64 kk, .int .i64 kv, .slice A n c] 29))
  have HX1 := Lib.hid (show Box (w1.alloc (.cells #[.string kl, .int .i64 kk, .int .i64 kv, .slice A n c] 29)) w1.heap.size [.string kl, .int .i64 kk, .int .i64 kv, .slice A n c] from by
    have := Box.new w1 #[.string kl, .int .i64 kk, .int .i64 kv, .slice A n c] 29
    simpa using this)
  have HO1 := Lib.hid ((hown.base (show w.heap.size + 1 ≤ _ by simp)).alloc (.cells #[.string kl, .int .i64 kk, .int .i64 kv, .slice A n c] 29))
  have hgz : g < w1.heap.size := by omega
  clear hc1 hk1 hsm hown
  go_wp2_with fail
  refine (l1Below_any 10 _ B g HC1.out).mono ?_
  rintro e w2 ⟨v, ⟨y, hy0, hy1, rfl⟩, rfl, hc2, hk2⟩
  have hz2 : w1.heap.size + 1 ≤ w2.heap.size := by have := hk2.size; simpa using this
  have HC2 := Lib.hid hc2
  have HK2 := Lib.hid (HK1.out.trans hk2)
  have HR2 := Lib.hid (bxK HR1.out hk2 (by omega))
  have HX2 := Lib.hid (bxK HX1.out hk2 (by omega))
  have HO2 := Lib.hid (ownS_kept HO1.out hk2 (by omega))
  clear hc2 hk2 hy1
  generalize hK : w1.heap.size = K at *
  have HKK := Lib.hid hK
  clear hK
  have hKw : K ≠ w.heap.size := by omega
  have hKw2 : w.heap.size ≠ K := by omega
  have hk2 : K < w2.heap.size := by omega
  have hw2 : w.heap.size < w2.heap.size := by omega
  have hcase : y = 0 ∨ y = 1 ∨ y = 2 ∨ y = 3 ∨ (y ≠ 0 ∧ y ≠ 1 ∧ y ≠ 2 ∧ y ≠ 3) := by omega
  rcases hcase with rfl | rfl | rfl | rfl | ⟨h0, h1, h2, h3⟩
  · go_wp2_with fail
    refine (l1Int_any _ 5 5 (by decide) _ B g (HC2.out.alloc _) (IRow.new (by omega) rfl rfl)).mono ?_
    rintro e w3 ⟨v, ⟨x, hx, rfl⟩, rfl, hc3, hk3⟩
    have hxi : In .i64 x := by have := hx; simp [Lit.wf, IntKind.min, IntKind.max, IntKind.signed, IntKind.bits] at this; exact inI64 this.1 this.2
    have HXI := Lib.hid hxi
    clear hx hxi
    have HX3 := Lib.hid (bxK (HX2.out.alloc _) hk3 (by omega))
    have HR3 := Lib.hid (bxK (HR2.out.alloc _) hk3 (by omega))
    have HO3 := Lib.hid (ownS_kept (HO2.out.alloc _) hk3 (by omega))
    have HC3 := Lib.hid hc3
    have HK3 := Lib.hid (((HK2.out).alloc _).trans hk3)
    have hs3 : w2.heap.size ≤ w3.heap.size := by have := hk3.size; first | omega | (simp at this; omega)
    clear hc3 hk3
    have c0' := HX3.out.cell (j := 0) rfl
    have f0 := HX3.out.warm (j := 0) rfl
    have r0 := HR3.out.cell (j := 0) rfl
    have g0 := HR3.out.warm (j := 0) rfl
    have c1' := HX3.out.cell (j := 1) rfl
    have f1 := HX3.out.warm (j := 1) rfl
    have r1 := HR3.out.cell (j := 1) rfl
    have g1 := HR3.out.warm (j := 1) rfl
    have c2' := HX3.out.cell (j := 2) rfl
    have f2 := HX3.out.warm (j := 2) rfl
    have r2 := HR3.out.cell (j := 2) rfl
    have g2 := HR3.out.warm (j := 2) rfl
    have c3' := HX3.out.cell (j := 3) rfl
    have f3 := HX3.out.warm (j := 3) rfl
    have r3 := HR3.out.cell (j := 3) rfl
    have g3 := HR3.out.warm (j := 3) rfl
    go_wp2
    refine bodyPost_ret (v := .agg #[.string kl, .int .i64 x, .int .i64 kv, .slice A n c]) (by simp [results, Tryz.results83, go_sem, r0, r1, r2, r3]) rfl ⟨A, n, c, kl, x, kv, kp, rfl, ⟨HSM.out.1, HXI.out, HSM.out.2.2.1, HSM.out.2.2.2.1, HSM.out.2.2.2.2⟩, ?_, ?_, ?_⟩
    · refine (OwnS.top (hi := K) ?_).base (show w.heap.size + 1 ≤ w.heap.size + 1 by omega)
      repeat' refine OwnS.store ?_ _ ?_
      all_goals first | exact HO3.out | (left; simp; done) | (left; simp; omega) | (right; simp; done) | (right; simp; omega)
    · refine cur_low HC3.out ?_
      repeat' refine Below.setCell ?_ ?_ _
      all_goals first | exact Below.refl _ _ | (simp; omega)
    · refine kept_then HK3.out ?_
      repeat' refine Below.setCell ?_ ?_ _
      all_goals first | exact Below.refl _ _ | (simp; done) | (simp; omega)
  · go_wp2_with fail
    refine (l1Int_any _ 5 5 (by decide) _ B g (HC2.out.alloc _) (IRow.new (by omega) rfl rfl)).mono ?_
    rintro e w3 ⟨v, ⟨x, hx, rfl⟩, rfl, hc3, hk3⟩
    have hxi : In .i64 x := by have := hx; simp [Lit.wf, IntKind.min, IntKind.max, IntKind.signed, IntKind.bits] at this; exact inI64 this.1 this.2
    have HXI := Lib.hid hxi
    clear hx hxi
    have HX3 := Lib.hid (bxK (HX2.out.alloc _) hk3 (by omega))
    have HR3 := Lib.hid (bxK (HR2.out.alloc _) hk3 (by omega))
    have HO3 := Lib.hid (ownS_kept (HO2.out.alloc _) hk3 (by omega))
    have HC3 := Lib.hid hc3
    have HK3 := Lib.hid (((HK2.out).alloc _).trans hk3)
    have hs3 : w2.heap.size ≤ w3.heap.size := by have := hk3.size; first | omega | (simp at this; omega)
    clear hc3 hk3
    have c0' := HX3.out.cell (j := 0) rfl
    have f0 := HX3.out.warm (j := 0) rfl
    have r0 := HR3.out.cell (j := 0) rfl
    have g0 := HR3.out.warm (j := 0) rfl
    have c1' := HX3.out.cell (j := 1) rfl
    have f1 := HX3.out.warm (j := 1) rfl
    have r1 := HR3.out.cell (j := 1) rfl
    have g1 := HR3.out.warm (j := 1) rfl
    have c2' := HX3.out.cell (j := 2) rfl
    have f2 := HX3.out.warm (j := 2) rfl
    have r2 := HR3.out.cell (j := 2) rfl
    have g2 := HR3.out.warm (j := 2) rfl
    have c3' := HX3.out.cell (j := 3) rfl
    have f3 := HX3.out.warm (j := 3) rfl
    have r3 := HR3.out.cell (j := 3) rfl
    have g3 := HR3.out.warm (j := 3) rfl
    go_wp2
    refine bodyPost_ret (v := .agg #[.string kl, .int .i64 kk, .int .i64 x, .slice A n c]) (by simp [results, Tryz.results83, go_sem, r0, r1, r2, r3]) rfl ⟨A, n, c, kl, kk, x, kp, rfl, ⟨HSM.out.1, HSM.out.2.1, HXI.out, HSM.out.2.2.2.1, HSM.out.2.2.2.2⟩, ?_, ?_, ?_⟩
    · refine (OwnS.top (hi := K) ?_).base (show w.heap.size + 1 ≤ w.heap.size + 1 by omega)
      repeat' refine OwnS.store ?_ _ ?_
      all_goals first | exact HO3.out | (left; simp; done) | (left; simp; omega) | (right; simp; done) | (right; simp; omega)
    · refine cur_low HC3.out ?_
      repeat' refine Below.setCell ?_ ?_ _
      all_goals first | exact Below.refl _ _ | (simp; omega)
    · refine kept_then HK3.out ?_
      repeat' refine Below.setCell ?_ ?_ _
      all_goals first | exact Below.refl _ _ | (simp; done) | (simp; omega)
  · go_wp2_with fail
    refine (l4Any_any _ B g HC2.out).mono ?_
    rintro e w3 ⟨v, ⟨s, hs, rfl⟩, rfl, hc3, hk3⟩
    have HX3 := Lib.hid (bxK (HX2.out) hk3 (by omega))
    have HR3 := Lib.hid (bxK (HR2.out) hk3 (by omega))
    have HO3 := Lib.hid (ownS_kept (HO2.out) hk3 (by omega))
    have HC3 := Lib.hid hc3
    have HK3 := Lib.hid (((HK2.out)).trans hk3)
    have hs3 : w2.heap.size ≤ w3.heap.size := by have := hk3.size; first | omega | (simp at this; omega)
    clear hc3 hk3
    have c0' := HX3.out.cell (j := 0) rfl
    have f0 := HX3.out.warm (j := 0) rfl
    have r0 := HR3.out.cell (j := 0) rfl
    have g0 := HR3.out.warm (j := 0) rfl
    have c1' := HX3.out.cell (j := 1) rfl
    have f1 := HX3.out.warm (j := 1) rfl
    have r1 := HR3.out.cell (j := 1) rfl
    have g1 := HR3.out.warm (j := 1) rfl
    have c2' := HX3.out.cell (j := 2) rfl
    have f2 := HX3.out.warm (j := 2) rfl
    have r2 := HR3.out.cell (j := 2) rfl
    have g2 := HR3.out.warm (j := 2) rfl
    have c3' := HX3.out.cell (j := 3) rfl
    have f3 := HX3.out.warm (j := 3) rfl
    have r3 := HR3.out.cell (j := 3) rfl
    have g3 := HR3.out.warm (j := 3) rfl
    go_wp2
    refine bodyPost_ret (v := .agg #[.string s, .int .i64 kk, .int .i64 kv, .slice A n c]) (by simp [results, Tryz.results83, go_sem, r0, r1, r2, r3]) rfl ⟨A, n, c, s, kk, kv, kp, rfl, ⟨hs, HSM.out.2.1, HSM.out.2.2.1, HSM.out.2.2.2.1, HSM.out.2.2.2.2⟩, ?_, ?_, ?_⟩
    · refine (OwnS.top (hi := K) ?_).base (show w.heap.size + 1 ≤ w.heap.size + 1 by omega)
      repeat' refine OwnS.store ?_ _ ?_
      all_goals first | exact HO3.out | (left; simp; done) | (left; simp; omega) | (right; simp; done) | (right; simp; omega)
    · refine cur_low HC3.out ?_
      repeat' refine Below.setCell ?_ ?_ _
      all_goals first | exact Below.refl _ _ | (simp; omega)
    · refine kept_then HK3.out ?_
      repeat' refine Below.setCell ?_ ?_ _
      all_goals first | exact Below.refl _ _ | (simp; done) | (simp; omega)
  · go_wp2_with fail
    refine (l5Any_any _ B g HC2.out).mono ?_
    rintro e w3 ⟨Ap, np, cp, pp, rfl, hnp, hsp, hop, hc3, hk3⟩
    have HP3 := Lib.hid hop
    have hpl := hop.len
    clear hop
    have HX3 := Lib.hid (bxK (HX2.out) hk3 (by omega))
    have HR3 := Lib.hid (bxK (HR2.out) hk3 (by omega))
    have HO3 := Lib.hid (ownS_kept (HO2.out) hk3 (by omega))
    have HC3 := Lib.hid hc3
    have HK3 := Lib.hid (((HK2.out)).trans hk3)
    have hs3 : w2.heap.size ≤ w3.heap.size := by have := hk3.size; first | omega | (simp at this; omega)
    clear hc3 hk3
    have c0' := HX3.out.cell (j := 0) rfl
    have f0 := HX3.out.warm (j := 0) rfl
    have r0 := HR3.out.cell (j := 0) rfl
    have g0 := HR3.out.warm (j := 0) rfl
    have c1' := HX3.out.cell (j := 1) rfl
    have f1 := HX3.out.warm (j := 1) rfl
    have r1 := HR3.out.cell (j := 1) rfl
    have g1 := HR3.out.warm (j := 1) rfl
    have c2' := HX3.out.cell (j := 2) rfl
    have f2 := HX3.out.warm (j := 2) rfl
    have r2 := HR3.out.cell (j := 2) rfl
    have g2 := HR3.out.warm (j := 2) rfl
    have c3' := HX3.out.cell (j := 3) rfl
    have f3 := HX3.out.warm (j := 3) rfl
    have r3 := HR3.out.cell (j := 3) rfl
    have g3 := HR3.out.warm (j := 3) rfl
    go_wp2
    refine bodyPost_ret (v := .agg #[.string kl, .int .i64 kk, .int .i64 kv, .slice Ap np cp]) (by simp [results, Tryz.results83, go_sem, r0, r1, r2, r3]) rfl ⟨Ap, np, cp, kl, kk, kv, pp, rfl, ⟨HSM.out.1, HSM.out.2.1, HSM.out.2.2.1, by simp only; omega, hsp⟩, ?_, ?_, ?_⟩
    · refine (OwnS.top (hi := w3.heap.size) ?_).base (show w.heap.size + 1 ≤ w2.heap.size by omega)
      repeat' refine OwnS.store ?_ _ ?_
      all_goals first | exact HP3.out | (left; simp; done) | (left; simp; omega) | (right; simp; done) | (right; simp; omega)
    · refine cur_low HC3.out ?_
      repeat' refine Below.setCell ?_ ?_ _
      all_goals first | exact Below.refl _ _ | (simp; omega)
    · refine kept_then HK3.out ?_
      repeat' refine Below.setCell ?_ ?_ _
      all_goals first | exact Below.refl _ _ | (simp; done) | (simp; omega)
  · have e0 : (y == 0) = false := beq_eq_false_iff_ne.2 h0
    have e1 : (y == 1) = false := beq_eq_false_iff_ne.2 h1
    have e2 : (y == 2) = false := beq_eq_false_iff_ne.2 h2
    have e3 : (y == 3) = false := beq_eq_false_iff_ne.2 h3
    have c0' := HX2.out.cell (j := 0) rfl
    have f0 := HX2.out.warm (j := 0) rfl
    have r0 := HR2.out.cell (j := 0) rfl
    have g0 := HR2.out.warm (j := 0) rfl
    have c1' := HX2.out.cell (j := 1) rfl
    have f1 := HX2.out.warm (j := 1) rfl
    have r1 := HR2.out.cell (j := 1) rfl
    have g1 := HR2.out.warm (j := 1) rfl
    have c2' := HX2.out.cell (j := 2) rfl
    have f2 := HX2.out.warm (j := 2) rfl
    have r2 := HR2.out.cell (j := 2) rfl
    have g2 := HR2.out.warm (j := 2) rfl
    have c3' := HX2.out.cell (j := 3) rfl
    have f3 := HX2.out.warm (j := 3) rfl
    have r3 := HR2.out.cell (j := 3) rfl
    have g3 := HR2.out.warm (j := 3) rfl
    go_wp2
    refine bodyPost_ret (v := .agg #[.string kl, .int .i64 kk, .int .i64 kv, .slice A n c]) (by simp [results, Tryz.results83, go_sem, r0, r1, r2, r3]) rfl ⟨A, n, c, kl, kk, kv, kp, rfl, ⟨HSM.out.1, HSM.out.2.1, HSM.out.2.2.1, HSM.out.2.2.2.1, HSM.out.2.2.2.2⟩, ?_, ?_, ?_⟩
    · refine (OwnS.top (hi := K) ?_).base (show w.heap.size + 1 ≤ w.heap.size + 1 by omega)
      repeat' refine OwnS.store ?_ _ ?_
      all_goals first | exact HO2.out | (left; simp; done) | (left; simp; omega) | (right; simp; done) | (right; simp; omega)
    · refine cur_low HC2.out ?_
      repeat' refine Below.setCell ?_ ?_ _
      all_goals first | exact Below.refl _ _ | (simp; omega)
    · refine kept_then HK2.out ?_
      repeat' refine Below.setCell ?_ ?_ _
      all_goals first | exact Below.refl _ _ | (simp; done) | (simp; omega)
def DrEE (w : World) (e : Ending) (w' : World) : Prop :=
  ∃ A n c kl kk kv kp A' n' c' kl' kk' kv' kp', e = .returned (.tuple #[.agg #[.string kl, .int .i64 kk, .int .i64 kv, .slice A n c], .agg #[.string kl', .int .i64 kk', .int .i64 kv', .slice A' n' c']]) ∧ SmE ⟨kl, kk, kv, kp⟩ ∧ SmE ⟨kl', kk', kv', kp'⟩ ∧ OwnS w' w.heap.size w'.heap.size A n c kp ∧ OwnS w' w.heap.size w'.heap.size A' n' c' kp' ∧ Below w.heap.size w w'
theorem sm_rd {w : World} {lo : Nat} {A : Option Addr} {n c : Nat} {k : Entry} (h : OwnS w lo w.heap.size A n c k.path) (hk : SmE k) : REntry.rd w (Lt w.heap.size) [.string k.label, .int .i64 k.kind, .int .i64 k.value, .slice A n c] k :=
  REntry_rd.2 ⟨A, n, c, rfl, by have := hk.1; unfold InS maxLen; omega, hk.2.1, hk.2.2.1, h.cap.1, h.cap.2, h.rd⟩
def DrMv (w : World) (e : Ending) (w' : World) : Prop :=
  ∃ s x A n c p, e = .returned (.tuple #[.string s, .int .i64 x, .slice A n c]) ∧ ByteArray.size s ≤ 16 ∧ 0 ≤ x ∧ x ≤ 99 ∧ n ≤ 5 ∧ (∀ s ∈ p, ByteArray.size s ≤ 16) ∧ OwnS w' w.heap.size w'.heap.size A n c p ∧ Below w.heap.size w w'
end Go.Proofs.YtbhhifoofapgiaaGreat.D08
namespace Go.Proofs.YtbhhifoofapgiaaGreat.D09
open Go.RowKit Mem MemS M02 C01 C02 Rep RepA RW R08 Q08 M04 M05 M08 M09 C04I C08S C09S C09SP D01 D02 D04 D05 D08 SL RKA
set_option linter.unusedVariables false
set_option maxRecDepth 100000
def SmL (m : Nat) (l : List Entry) : Prop := l.length ≤ m ∧ ∀ e ∈ l, SmE e
theorem smL_tot {m : Nat} {l : List Entry} (h : SmL m l) : totR totEntry l ≤ m * 1048577 := by
  have key : ∀ l : List Entry, (∀ e ∈ l, SmE e) → totR totEntry l ≤ l.length * 1048577 := by
    intro l
    induction l with
    | nil => intro _; simp [totR]
    | cons z r ih =>
      intro hz
      have h1 := ih fun e he => hz e (by simp [he])
      have h2 := sm_tot (hz z (by simp))
      have h3 : totR totEntry (z :: r) = totEntry z + 1 + totR totEntry r := by unfold totR; simp; omega
      rw [h3, List.length_cons]
      omega
  have h1 := key l h.2
  exact Nat.le_trans h1 (Nat.mul_le_mul_right 1048577 h.1)
theorem smL_mono {m m' : Nat} {l : List Entry} (h : SmL m l) (hm : m ≤ m') : SmL m' l := ⟨Nat.le_trans h.1 hm, h.2⟩
theorem mem_putStep {e z x : Entry} {st : List Entry × Bool} (h : x ∈ (putStep e st z).1) : x ∈ st.1 ∨ x = e ∨ x = z := by
  unfold putStep at h
  rcases List.mem_append.1 h with h | h
  · rcases List.mem_append.1 h with h | h
    · exact .inl h
    · split at h
      · exact .inr (.inl (by simpa using h))
      · simp at h
  · split at h
    · simp at h
    · exact .inr (.inr (by simpa using h))
theorem mem_putAll {e x : Entry} {l : List Entry} (h : x ∈ putAll e l) : x = e ∨ x ∈ l := by
  have key : ∀ (l : List Entry) (st : List Entry × Bool), x ∈ (l.foldl (putStep e) st).1 → x ∈ st.1 ∨ x = e ∨ x ∈ l := by
    intro l
    induction l with
    | nil => intro st h; exact .inl h
    | cons z r ih =>
      intro st h
      rw [List.foldl_cons] at h
      rcases ih _ h with h | h | h
      · rcases mem_putStep h with h | h | h
        · exact .inl h
        · exact .inr (.inl h)
        · exact .inr (.inr (by simp [h]))
      · exact .inr (.inl h)
      · exact .inr (.inr (by simp [h]))
  unfold putAll at h
  rcases List.mem_append.1 h with h | h
  · rcases key l _ h with h | h | h
    · simp at h
    · exact .inl h
    · exact .inr h
  · split at h
    · simp at h
    · exact .inl (by simpa using h)
theorem smL_put {m : Nat} {l : List Entry} {e : Entry} (h : SmL m l) (he : SmE e) : SmL (m + 1) (putE l e).1 := by
  unfold putE
  split
  · exact ⟨Nat.le_trans (putAll_len e l) (Nat.succ_le_succ h.1), fun x hx => by
      rcases mem_putAll hx with rfl | hx
      · exact he
      · exact h.2 x hx⟩
  · exact smL_mono h (Nat.le_succ _)
theorem smL_snoc {m : Nat} {l : List Entry} {e : Entry} (h : SmL m l) (he : SmE e) : SmL (m + 1) (l ++ [e]) :=
  ⟨by simpa using h.1, fun x hx => by
    rcases List.mem_append.1 hx with hx | hx
    · exact h.2 x hx
    · rw [List.mem_singleton.1 hx]
      exact he⟩
theorem kept_then {g : Nat} {w w1 w2 : World} (h : Kept g w w1) (hb : Below w.heap.size w1 w2) : Kept g w w2 :=
  ⟨hb.os.trans h.os, hb.tape.trans h.tape, hb.output.trans h.output, Nat.le_trans h.size hb.size, fun k hk hg => (hb.block k hk).trans (h.block k hk hg)⟩
theorem cur_then {w w' : World} {B g K : Nat} (h : Cur w B g) (hb : Below K w w') (hg : g < K) : Cur w' B g := by
  obtain ⟨h0, A, n, c, i, k, hh, h1, h2, h3, h4⟩ := h
  exact ⟨h0, A, n, c, i, k, (hb.block g hg).trans hh, h1, h2, h3, h4.below (hb.mono (by omega))⟩
theorem box_set {w : World} {b : Nat} {vs : List Value} (h : Box w b vs) {j : Nat} (hj : j < vs.length) (v : Value) : Box (w.setCell ⟨b, j, none⟩ v) b (vs.set j v) := by
  have hu : vs[j]? = some (vs[j]'hj) := List.getElem?_eq_getElem hj
  refine ⟨fun {i u} hi => ?_, fun {i u} hi => ?_, by first | (simp; done) | (simp; exact h.lt)⟩
  · rw [List.getElem?_set] at hi
    by_cases e : j = i
    · subst e
      simp [hj] at hi
      subst hi
      exact World.cell?_setCell_same _ _ _ (h.cell hu)
    · rw [if_neg e] at hi
      rw [World.cell?_setCell_other _ _ _ _ (fun h9 => e (by injection h9))]
      exact h.cell hi
  · rw [World.frozen?_setCell]
    have hi' : i < (vs.set j v).length := (List.getElem?_eq_some_iff.1 hi).1
    exact h.warm (List.getElem?_eq_getElem (show i < vs.length by simpa using hi'))
/-- a draw of contents -/
def DrL (m B g : Nat) (w : World) (e : Ending) (w' : World) : Prop :=
  ∃ A n c l, e = .returned (.slice A n c) ∧ SmL m l ∧ FOwnEntry w' w.heap.size w'.heap.size A n c l ∧ Cur w' B g ∧ Kept g w w'
set_option maxHeartbeats 1000000 in
theorem l9List_any (w : World) (B g : Nat) (hc : Cur w B g) : Calls Tryz.prog 39 #[.pointer (some ⟨g, 0, none⟩)] w (DrL 6 B g w) := by
  have hgl := hc.lt
  have HC0 := Lib.hid (hc.alloc (.cells #[] 29))
  have HK0 := Lib.hid ((Kept.refl g w).alloc (.cells #[] 29))
  have HO0 := Lib.hid (show FOwnEntry (w.alloc (.cells #[] 29)) w.heap.size (w.heap.size + 1) (some ⟨w.heap.size, 0, none⟩) 0 0 [] from by
    have h := Owns.lit0 (lo := w.heap.size) REntry w (Nat.le_refl _)
    rw [show REntry.ty = 29 from rfl] at h
    exact h)
  clear hc
  go_enter Tryz.func39, Tryz.ntmps39
  go_wp2_with fail
  refine (l1Below_any 7 _ B g HC0.out).mono ?_
  rintro e w1 ⟨v, ⟨x, hx0, hx1, rfl⟩, rfl, hc1, hk1⟩
  obtain ⟨i0, rfl⟩ : ∃ i0 : Nat, x = i0 := ⟨x.toNat, by omega⟩
  have hi0 : i0 ≤ 6 := by omega
  have HC1 := Lib.hid hc1
  have HK1 := Lib.hid (HK0.out.trans hk1)
  have HO1 := Lib.hid ((HO0.out.keep (w' := w1) fun i h0 h1 h2 => hk1.block i h0 (by omega)).wide (Nat.le_refl _) (show w.heap.size + 1 ≤ w1.heap.size from by have := hk1.size; simpa using this))
  clear hc1 hk1 hx0 hx1
  go_wp2
  go_loopw [3, 4] (fun o v wr => ∃ (i : Nat) (A1 : Option Addr) (n1 c1 : Nat) (l1 : List Entry), i ≤ 6 ∧ v = .int .i64 i ∧ o = .slice A1 n1 c1 ∧ FOwnEntry wr w.heap.size wr.heap.size A1 n1 c1 l1 ∧ SmL (6 - i) l1 ∧ Cur wr B g ∧ Kept g w wr) (fun _ v _ => (intOf v).toNat)
  case atStart => exact ⟨i0, _, 0, 0, [], hi0, rfl, rfl, HO1.out, ⟨by simp, by simp⟩, HC1.out, HK1.out⟩
  case round =>
    obtain ⟨i, A1, n1, c1, l1, hi, rfl, rfl, ho, hsl, hc, hk⟩ := hrel
    have HC := Lib.hid hc
    have HK := Lib.hid hk
    have HO := Lib.hid ho
    have HS := Lib.hid hsl
    clear hc hk ho hsl
    by_cases h0 : 0 < i
    · have hi1 : (0 : Int) < i := by omega
      go_wp2_with fail
      refine (l8Entry_any wr B g HC.out).mono ?_
      rintro e w2 ⟨Ae, ne, ce, kl, kk, kv, kp, rfl, hsm, hown, hc2, hk2⟩
      have HO2 := Lib.hid ((HO.out.keep (w' := w2) fun i h0 h1 h2 => hk2.block i h0 (by omega)).wide (Nat.le_refl _) hk2.size)
      have hwr : w.heap.size ≤ w2.heap.size := by have := HK.out.size; have := hk2.size; omega
      have HP := Lib.hid (sPutEntry_any A1 n1 c1 l1 [.string kl, .int .i64 kk, .int .i64 kv, .slice Ae ne ce] ⟨kl, kk, kv, kp⟩ w2 HO2.out.rd (sm_rd (k := ⟨kl, kk, kv, kp⟩) (hown.top) hsm) (by have := smL_tot HS.out; omega) (by have := sm_tot hsm; omega))
      have HSM := Lib.hid hsm
      have HC2 := Lib.hid hc2
      have HK2 := Lib.hid (HK.out.trans hk2)
      have HW := Lib.hid hwr
      clear hsm hown hc2 hk2 hwr
      go_wp2_with fail
      refine HP.out.mono ?_
      rintro e w3 ⟨A3, c3, rfl, ho3, hb3⟩
      have HO3 := Lib.hid (ho3.base HW.out)
      have HC3 := Lib.hid (HC2.out.below hb3)
      have HK3 := Lib.hid (HK2.out.trans (Kept.of_below hb3))
      clear ho3 hb3
      go_wp2
      go_roundw
      case rel => exact ⟨i - 1, A3, _, c3, (putE l1 ⟨kl, kk, kv, kp⟩).1, by omega, by go_num, rfl, HO3.out, smL_mono (smL_put HS.out HSM.out) (by omega), HC3.out, HK3.out⟩
      case measure => simp [intOf]; omega
    · obtain rfl : i = 0 := by omega
      go_wp2
      go_ret
      exact ⟨A1, n1, c1, l1, rfl, smL_mono HS.out (by omega), HO.out, HC.out, HK.out⟩
def lits : List ByteArray := [⟨#[99]⟩, ⟨#[100]⟩, ⟨#[101]⟩, ⟨#[102]⟩, ⟨#[103]⟩, ⟨#[104]⟩, ⟨#[105]⟩, ⟨#[106]⟩, ⟨#[107]⟩, ⟨#[108]⟩, ⟨#[109]⟩, ⟨#[110]⟩]
theorem lits_rd (w : World) : RdS (w.alloc (.cells #[.string ⟨#[99]⟩, .string ⟨#[100]⟩, .string ⟨#[101]⟩, .string ⟨#[102]⟩, .string ⟨#[103]⟩, .string ⟨#[104]⟩, .string ⟨#[105]⟩, .string ⟨#[106]⟩, .string ⟨#[107]⟩, .string ⟨#[108]⟩, .string ⟨#[109]⟩, .string ⟨#[110]⟩] 9)) (w.heap.size + 1) (some ⟨w.heap.size, 0, none⟩) 12 lits := by
  refine ⟨rfl, fun z hz => ?_, fun _ => ⟨_, _, rfl, Nat.lt_succ_self _, fun j hj => ?_⟩⟩
  · have : z.size ≤ 1 := by
      simp only [lits, List.mem_cons, List.not_mem_nil, or_false] at hz
      rcases hz with rfl | rfl | rfl | rfl | rfl | rfl | rfl | rfl | rfl | rfl | rfl | rfl <;> decide
    unfold InS maxLen
    omega
  · rw [Nat.zero_add, World.cell?_alloc_at _ _ _ _ rfl]
    have : j = 0 ∨ j = 1 ∨ j = 2 ∨ j = 3 ∨ j = 4 ∨ j = 5 ∨ j = 6 ∨ j = 7 ∨ j = 8 ∨ j = 9 ∨ j = 10 ∨ j = 11 := by omega
    rcases this with rfl | rfl | rfl | rfl | rfl | rfl | rfl | rfl | rfl | rfl | rfl | rfl <;> rfl
theorem lits_sm {j : Nat} (hj : j < 12) : SmE ⟨lits.getD j .empty, 1, 1, []⟩ := by
  refine ⟨?_, RKA.inI64 (by simp) (by simp), RKA.inI64 (by simp) (by simp), by simp, by simp⟩
  have : j = 0 ∨ j = 1 ∨ j = 2 ∨ j = 3 ∨ j = 4 ∨ j = 5 ∨ j = 6 ∨ j = 7 ∨ j = 8 ∨ j = 9 ∨ j = 10 ∨ j = 11 := by omega
  rcases this with rfl | rfl | rfl | rfl | rfl | rfl | rfl | rfl | rfl | rfl | rfl | rfl <;> decide
set_option maxHeartbeats 2000000 in
theorem l9Any_any (w : World) (B g : Nat) (hc : Cur w B g) : Calls Tryz.prog 48 #[.pointer (some ⟨g, 0, none⟩)] w (DrL 18 B g w) := by
  have hgl := hc.lt
  go_enter Tryz.func48, Tryz.ntmps48
  go_wp2_with fail
  refine (l9List_any w B g hc).mono ?_
  rintro e w1 ⟨A, n, c, l, rfl, hsl, hown, hc1, hk1⟩
  have HS1 := Lib.hid hsl
  have HO1 := Lib.hid hown
  have HC1 := Lib.hid hc1
  have HK1 := Lib.hid hk1
  have HNL := Lib.hid hown.len
  clear hsl hown hc1 hk1 hc
  go_wp2_with fail
  refine (l1Below_any 10 _ B g HC1.out).mono ?_
  rintro e w2 ⟨v, ⟨x, hx0, hx1, rfl⟩, rfl, hc2, hk2⟩
  have HO2 := Lib.hid ((HO1.out.keep (w' := w2) fun i h0 h1 h2 => hk2.block i h0 (by omega)).wide (Nat.le_refl _) hk2.size)
  have HC2 := Lib.hid hc2
  have HK2 := Lib.hid (HK1.out.trans hk2)
  have hw2 : w.heap.size ≤ w2.heap.size := by have := HK1.out.size; have := hk2.size; omega
  have hn6 : n ≤ 6 := by have := HS1.out.1; have := HNL.out; omega
  clear hc2 hk2 hx1
  by_cases hx : x = 0
  · subst hx
    go_wp2_with fail
    refine (l8Any_any w2 B g HC2.out).mono ?_
    rintro e w3 ⟨Ae, ne, ce, kl, kk, kv, kp, rfl, hsm, hown, hc3, hk3⟩
    have HO3 := Lib.hid (HO2.out.keep (w' := w3) fun i h0 h1 h2 => hk3.block i h0 (by omega))
    have HZ3 := Lib.hid (show OwnI REntry w3 w2.heap.size w3.heap.size [.string kl, .int .i64 kk, .int .i64 kv, .slice Ae ne ce] ⟨kl, kk, kv, kp⟩ from REntry_own.2 ⟨Ae, ne, ce, rfl, by have := hsm.1; unfold InS maxLen; omega, hsm.2.1, hsm.2.2.1, hown.base (Nat.le_succ _)⟩)
    have HSM := Lib.hid hsm
    have HC3 := Lib.hid hc3
    have HK3 := Lib.hid (HK2.out.trans hk3)
    have hw3 : w.heap.size ≤ w3.heap.size := by have := hk3.size; omega
    have HN1 := Lib.hid (show n + 1 ≤ 68719476736 by omega)
    have HW2 := Lib.hid hw2
    have HW3 := Lib.hid hw3
    clear hsm hown hc3 hk3
    go_wp2_with (at_builtin; refine wp_pushR (st := 24) (mid := w2.heap.size) (hi := w3.heap.size) (lo := w.heap.size) REntry tiEntry rfl _ _ rfl rfl HO3.out rfl HZ3.out HN1.out HW2.out HW3.out ?_; intro A4 c4 w4 hown4 hgr4)
    have HO4 := Lib.hid hown4
    have HB4 := Lib.hid (hgr4.below (B := w.heap.size) hw3 HO3.out.ge)
    have HC4 := Lib.hid (cur_then HC3.out HB4.out hgl)
    have HK4 := Lib.hid (kept_then HK3.out HB4.out)
    clear hown4 hgr4
    go_wp2
    go_ret
    exact ⟨A4, n + 1, c4, l ++ [⟨kl, kk, kv, kp⟩], rfl, smL_mono (smL_snoc HS1.out HSM.out) (by omega), HO4.out, HC4.out, HK4.out⟩
  · by_cases hy : x = 1
    · subst hy
      have HL0 := Lib.hid (lits_rd w2)
      obtain ⟨V, hV⟩ : ∃ V, V = w2.alloc (.cells #[.string ⟨#[99]⟩, .string ⟨#[100]⟩, .string ⟨#[101]⟩, .string ⟨#[102]⟩, .string ⟨#[103]⟩, .string ⟨#[104]⟩, .string ⟨#[105]⟩, .string ⟨#[106]⟩, .string ⟨#[107]⟩, .string ⟨#[108]⟩, .string ⟨#[109]⟩, .string ⟨#[110]⟩] 9) := ⟨_, rfl⟩
      have hVs : V.heap.size = w2.heap.size + 1 := by rw [hV]; simp
      have HOV := Lib.hid (show FOwnEntry V w.heap.size V.heap.size A n c l from by rw [hV]; exact (HO2.out.alloc _).wide (Nat.le_refl _) (by simp))
      have HCV := Lib.hid (show Cur V B g from by rw [hV]; exact HC2.out.alloc _)
      have HKV := Lib.hid (show Kept g w V from by rw [hV]; exact HK2.out.alloc _)
      rw [← hV] at HL0
      have HL := Lib.hid (show RdS V V.heap.size (some ⟨w2.heap.size, 0, none⟩) 12 lits from by rw [hVs]; exact HL0.out)
      have HVV := Lib.hid hV
      have hwV : w.heap.size ≤ V.heap.size := by omega
      have HWV := Lib.hid hwV
      clear hV HL0 hVs hwV
      go_wp2
      rw [← HVV.out]
      go_loopw [3, 21] (fun o v wr => ∃ (j : Nat) (A1 : Option Addr) (n1 c1 : Nat) (l1 : List Entry), j ≤ 12 ∧ v = .int .i64 j ∧ o = .slice A1 n1 c1 ∧ FOwnEntry wr w.heap.size wr.heap.size A1 n1 c1 l1 ∧ SmL (6 + j) l1 ∧ Below V.heap.size V wr) (fun _ v _ => 12 - (intOf v).toNat)
      case atStart => exact ⟨0, A, n, c, l, by omega, rfl, rfl, HOV.out, HS1.out, Below.refl _ _⟩
      case round =>
        obtain ⟨j, A1, n1, c1, l1, hj, rfl, rfl, ho, hsl, hb⟩ := hrel
        have HB := Lib.hid hb
        have HO := Lib.hid ho
        have HS := Lib.hid hsl
        clear hb ho hsl
        by_cases hjn : j < 12
        · obtain ⟨b, off, e, hlt, hcj⟩ := (HL.out.below HB.out (Nat.le_refl _)).cell_at hjn
          injection e with e
          injection e with e1 e2 _
          subst e1 e2
          have hsm := lits_sm hjn
          rw [Nat.zero_add] at hcj
          generalize lits.getD j .empty = s at hcj hsm
          have HSM := Lib.hid hsm
          have HVE := Lib.hid (sValueEntry_any s 1 wr (by have := hsm.1; simp only at this; unfold InS maxLen; omega) (RKA.inI64 (by omega) (by omega)))
          have hj1 : (j : Int) < 12 := by omega
          clear hsm
          go_wp2_with fail
          refine HVE.out.mono ?_
          rintro e w3 ⟨cs, rfl, hown3, hb3⟩
          have HB3 := Lib.hid (HB.out.trans (hb3.mono HB.out.size))
          have HO3 := Lib.hid ((HO.out.below hb3 (Nat.le_refl _)).wide (Nat.le_refl _) hb3.size)
          have HP := Lib.hid (sPutEntry_any A1 n1 c1 l1 cs ⟨s, 1, 1, []⟩ w3 HO3.out.rd hown3.rd (by have := smL_tot HS.out; omega) (by have := sm_tot HSM.out; omega))
          obtain ⟨Ae, ne, ce, rfl, _⟩ := REntry_own.1 hown3
          clear hown3 hb3 hcj
          go_wp2_with fail
          refine HP.out.mono ?_
          rintro e w4 ⟨A4, c4, rfl, ho4, hb4⟩
          have HO4 := Lib.hid (ho4.base (Nat.le_trans HWV.out HB3.out.size))
          have HB4 := Lib.hid (HB3.out.trans (hb4.mono HB3.out.size))
          clear ho4 hb4
          go_wp2
          go_roundw
          case rel => exact ⟨j + 1, A4, _, c4, (putE l1 ⟨s, 1, 1, []⟩).1, by omega, by go_num, rfl, HO4.out, smL_put HS.out HSM.out, HB4.out⟩
          case measure => simp [intOf]; omega
        · obtain rfl : j = 12 := by omega
          go_wp2
          go_ret
          exact ⟨A1, n1, c1, l1, rfl, HS.out, HO.out, HCV.out.below HB.out, HKV.out.trans (Kept.of_below HB.out)⟩
    · have hx2 : ¬ x = 0 := hx
      have hb0 : (x == 0) = false := beq_eq_false_iff_ne.2 hx
      have hb1 : (x == 1) = false := beq_eq_false_iff_ne.2 hy
      go_wp2
      go_ret
      exact ⟨A, n, c, l, rfl, smL_mono HS1.out (by omega), HO2.out, HC2.out, HK2.out⟩
def DrFE (w : World) (e : Ending) (w' : World) : Prop :=
  ∃ A n c l s, e = .returned (.tuple #[.slice A n c, .string s]) ∧ SmL 18 l ∧ ByteArray.size s ≤ 16 ∧ FOwnEntry w' w.heap.size w'.heap.size A n c l ∧ Below w.heap.size w w'
def DrPE (w : World) (e : Ending) (w' : World) : Prop :=
  ∃ A n c l Ae ne ce kl kk kv kp, e = .returned (.tuple #[.slice A n c, .agg #[.string kl, .int .i64 kk, .int .i64 kv, .slice Ae ne ce]]) ∧ SmL 18 l ∧ SmE ⟨kl, kk, kv, kp⟩ ∧ FOwnEntry w' w.heap.size w'.heap.size A n c l ∧ OwnS w' w.heap.size w'.heap.size Ae ne ce kp ∧ Below w.heap.size w w'
end Go.Proofs.YtbhhifoofapgiaaGreat.D09
