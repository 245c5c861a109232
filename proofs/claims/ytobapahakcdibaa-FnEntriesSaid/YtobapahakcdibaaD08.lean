/- The drawing functions of chapter 8: what they return, and that they write into nothing that was there. -/
import Derived.Test.YtobapahakcdibaaD05
import Derived.Test.YtobapahakcdibaaC08S
import Derived.Deep.RegionHeld3
namespace Go.Proofs.Ytobapahakcdibaa.D08
set_option linter.unusedVariables false
set_option maxRecDepth 100000
open Go.RowKit Mem MemS M02 M04 M05 C01 C02 D01 D02 D04 D05 SL Rep R08 M08 C08S RKA
/-- a small entry -/
def SmE (k : Entry) : Prop := k.label.size ≤ 16 ∧ In .i64 k.kind ∧ In .i64 k.value ∧ k.path.length ≤ 5 ∧ ∀ s ∈ k.path, s.size ≤ 16
/-- a draw of an entry -/
def DrE (B g : Nat) (w : World) (e : Ending) (w' : World) : Prop :=
  ∃ A n c kl kk kv kp, e = .returned (.agg #[.string kl, .int .i64 kk, .int .i64 kv, .slice A n c]) ∧ SmE ⟨kl, kk, kv, kp⟩ ∧ OwnS w' (w.heap.size + 1) w'.heap.size A n c kp ∧ Cur w' B g ∧ Kept g w w'
theorem bxK {w w' : World} {b g : Nat} {vs : List Value} (h : Box w b vs) (hk : Kept g w w') (hb : b ≠ g) : Box w' b vs := h.keep (hk.block b h.lt hb)
theorem sm_tot {k : Entry} (h : SmE k) : totEntry k ≤ 1048576 := by
  obtain ⟨h0, _, _, h3, h4⟩ := h
  have h5 : ∀ l : List ByteArray, (∀ s ∈ l, s.size ≤ 16) → (l.map ByteArray.size).sum ≤ l.length * 16 := by
    intro l
    induction l with
    | nil => intro _; simp
    | cons x r ih =>
      intro h
      have h1 := ih fun s hs => h s (List.mem_cons_of_mem _ hs)
      have h2 := h x List.mem_cons_self
      simp only [List.length_cons, List.map_cons, List.sum_cons]
      omega
  have := h5 _ h4
  unfold totEntry totSS
  omega
set_option maxHeartbeats 2000000 in
theorem l8Entry_any (w : World) (B g : Nat) (hc : Cur w B g) : Calls Try.prog 66 #[.pointer (some ⟨g, 0, none⟩)] w (DrE B g w) := by
  have hgl := hc.lt
  have HC0 := Lib.hid (hc.alloc (.cells #[.string ⟨#[]⟩, .int .i64 0, .int .i64 0, .slice none 0 0] 26))
  have HK0 := Lib.hid ((Kept.refl g w).alloc (.cells #[.string ⟨#[]⟩, .int .i64 0, .int .i64 0, .slice none 0 0] 26))
  have HR0 := Lib.hid (show Box (w.alloc (.cells #[.string ⟨#[]⟩, .int .i64 0, .int .i64 0, .slice none 0 0] 26)) w.heap.size [.string ⟨#[]⟩, .int .i64 0, .int .i64 0, .slice none 0 0] from by
    have := Box.new w #[.string ⟨#[]⟩, .int .i64 0, .int .i64 0, .slice none 0 0] 26
    simpa using this)
  clear hc
  go_enter Try.func66, Try.ntmps66
  go_wp2_with fail
  refine (l4Label_any _ B g HC0.out).mono ?_
  rintro e w1 ⟨v, ⟨kl, hkl, rfl⟩, rfl, hc1, hk1⟩
  have hz1 : w.heap.size + 1 ≤ w1.heap.size := by have := hk1.size; simpa using this
  have HC1 := Lib.hid hc1
  have HK1 := Lib.hid (HK0.out.trans hk1)
  have HR1 := Lib.hid (bxK HR0.out hk1 (by omega))
  clear hc1 hk1
  go_wp2_with fail
  refine (l1Below_any 5 _ B g HC1.out).mono ?_
  rintro e w2 ⟨v, ⟨y, hy0, hy1, rfl⟩, rfl, hc2, hk2⟩
  have hz2 : w.heap.size + 1 ≤ w2.heap.size := Nat.le_trans hz1 hk2.size
  have HC2 := Lib.hid hc2
  have HK2 := Lib.hid (HK1.out.trans hk2)
  have HR2 := Lib.hid (bxK HR1.out hk2 (by omega))
  clear hc2 hk2 hy1 hz1
  have hcase : y = 0 ∨ y = 1 ∨ (y ≠ 0 ∧ y ≠ 1) := by omega
  rcases hcase with rfl | rfl | ⟨h0, h1⟩
  · go_wp2_with fail
    refine (l1Below_any 5000 _ B g HC2.out).mono ?_
    rintro e w3 ⟨v, ⟨x, hx0, hx1, rfl⟩, rfl, hc3, hk3⟩
    have hz3 : w.heap.size + 1 ≤ w3.heap.size := Nat.le_trans hz2 hk3.size
    have hx9 : x ≤ 5000 := by omega
    have HC3 := Lib.hid hc3
    have HK3 := Lib.hid (HK2.out.trans hk3)
    have HR3 := Lib.hid (bxK HR2.out hk3 (by omega))
    clear hc3 hk3 hx1
    go_wp2_with fail
    refine (sZoneEntry_any kl x w3 (show InS kl by unfold InS maxLen; omega) (inI64 (by omega) (by omega))).mono ?_
    rintro e w4 ⟨cs, rfl, hown, hb4⟩
    obtain ⟨A, n, c, rfl, _, _, _, ho⟩ := REntry_own.1 hown
    simp only at ho
    have HO4 := Lib.hid (ho.base hz3)
    have HC4 := Lib.hid (HC3.out.below hb4)
    have HK4 := Lib.hid (HK3.out.trans (Kept.of_below hb4))
    have HR4 := Lib.hid (HR3.out.below hb4 (by omega))
    have hz4 : w.heap.size + 1 ≤ w4.heap.size := Nat.le_trans hz3 hb4.size
    clear hown ho hb4
    have r0 := HR4.out.cell (j := 0) rfl
    have r1 := HR4.out.cell (j := 1) rfl
    have r2 := HR4.out.cell (j := 2) rfl
    have r3 := HR4.out.cell (j := 3) rfl
    have g0 := HR4.out.warm (j := 0) rfl
    have g1 := HR4.out.warm (j := 1) rfl
    have g2 := HR4.out.warm (j := 2) rfl
    have g3 := HR4.out.warm (j := 3) rfl
    go_wp2
    refine bodyPost_ret (v := .agg #[.string kl, .int .i64 2, .int .i64 x, .slice A n c]) (by simp [results, Try.results66, go_sem, r0, r1, r2, r3]) rfl ⟨A, n, c, kl, 2, x, [], rfl, ⟨hkl, inI64 (by simp) (by simp), inI64 (by simp only; omega) (by simp only; omega), by simp, by simp⟩, ?_, ?_, ?_⟩
    · refine (OwnS.top (hi := w4.heap.size) ?_).base (show w.heap.size + 1 ≤ w.heap.size + 1 by omega)
      repeat refine OwnS.store ?_ _ (.inl (by simp; try omega))
      exact HO4.out
    · refine cur_low HC4.out ?_
      repeat' refine Below.setCell ?_ ?_ _
      all_goals first | exact Below.refl _ _ | (simp; omega)
    · refine kept_then HK4.out ?_
      repeat' refine Below.setCell ?_ ?_ _
      all_goals first | exact Below.refl _ _ | (simp; done) | (simp; omega)
  · go_wp2_with fail
    refine (l1Below_any 5000 _ B g HC2.out).mono ?_
    rintro e w3 ⟨v, ⟨x, hx0, hx1, rfl⟩, rfl, hc3, hk3⟩
    have hz3 : w.heap.size + 1 ≤ w3.heap.size := Nat.le_trans hz2 hk3.size
    have hx9 : x ≤ 5000 := by omega
    have HC3 := Lib.hid hc3
    have HK3 := Lib.hid (HK2.out.trans hk3)
    have HR3 := Lib.hid (bxK HR2.out hk3 (by omega))
    clear hc3 hk3 hx1
    go_wp2_with fail
    refine (l5Path_any w3 B g HC3.out).mono ?_
    rintro e w4 ⟨Ap, np, cp, kp, rfl, hnp, hsp, hop, hc4, hk4⟩
    have hz4 : w.heap.size + 1 ≤ w4.heap.size := Nat.le_trans hz3 hk4.size
    have HC4 := Lib.hid hc4
    have HK4 := Lib.hid (HK3.out.trans hk4)
    have HR4 := Lib.hid (bxK HR3.out hk4 (by omega))
    have HP4 := Lib.hid hop.rd
    have hpl := hop.len
    clear hc4 hk4 hop
    go_wp2_with fail
    refine (sMovedEntry_any kl x Ap np cp kp w4 (show InS kl by unfold InS maxLen; omega) (inI64 (by omega) (by omega)) HP4.out (by omega)).mono ?_
    rintro e w5 ⟨cs, rfl, hown, hb5⟩
    obtain ⟨A, n, c, rfl, _, _, _, ho⟩ := REntry_own.1 hown
    simp only at ho
    have HO5 := Lib.hid (ho.base hz4)
    have HC5 := Lib.hid (HC4.out.below hb5)
    have HK5 := Lib.hid (HK4.out.trans (Kept.of_below hb5))
    have HR5 := Lib.hid (HR4.out.below hb5 (by omega))
    have hz5 : w.heap.size + 1 ≤ w5.heap.size := Nat.le_trans hz4 hb5.size
    clear hown ho hb5
    have r0 := HR5.out.cell (j := 0) rfl
    have r1 := HR5.out.cell (j := 1) rfl
    have r2 := HR5.out.cell (j := 2) rfl
    have r3 := HR5.out.cell (j := 3) rfl
    have g0 := HR5.out.warm (j := 0) rfl
    have g1 := HR5.out.warm (j := 1) rfl
    have g2 := HR5.out.warm (j := 2) rfl
    have g3 := HR5.out.warm (j := 3) rfl
    go_wp2
    refine bodyPost_ret (v := .agg #[.string kl, .int .i64 3, .int .i64 x, .slice A n c]) (by simp [results, Try.results66, go_sem, r0, r1, r2, r3]) rfl ⟨A, n, c, kl, 3, x, kp, rfl, ⟨hkl, inI64 (by simp) (by simp), inI64 (by simp only; omega) (by simp only; omega), by simp only; omega, hsp⟩, ?_, ?_, ?_⟩
    · refine (OwnS.top (hi := w5.heap.size) ?_).base (show w.heap.size + 1 ≤ w.heap.size + 1 by omega)
      repeat refine OwnS.store ?_ _ (.inl (by simp; try omega))
      exact HO5.out
    · refine cur_low HC5.out ?_
      repeat' refine Below.setCell ?_ ?_ _
      all_goals first | exact Below.refl _ _ | (simp; omega)
    · refine kept_then HK5.out ?_
      repeat' refine Below.setCell ?_ ?_ _
      all_goals first | exact Below.refl _ _ | (simp; done) | (simp; omega)
  · have e0 : (y == 0) = false := beq_eq_false_iff_ne.2 h0
    have e1 : (y == 1) = false := beq_eq_false_iff_ne.2 h1
    go_wp2_with fail
    refine (l1Below_any 50 _ B g HC2.out).mono ?_
    rintro e w3 ⟨v, ⟨x, hx0, hx1, rfl⟩, rfl, hc3, hk3⟩
    have hz3 : w.heap.size + 1 ≤ w3.heap.size := Nat.le_trans hz2 hk3.size
    have hx9 : x ≤ 5000 := by omega
    have HC3 := Lib.hid hc3
    have HK3 := Lib.hid (HK2.out.trans hk3)
    have HR3 := Lib.hid (bxK HR2.out hk3 (by omega))
    clear hc3 hk3 hx1
    go_wp2_with fail
    refine (sValueEntry_any kl x w3 (show InS kl by unfold InS maxLen; omega) (inI64 (by omega) (by omega))).mono ?_
    rintro e w4 ⟨cs, rfl, hown, hb4⟩
    obtain ⟨A, n, c, rfl, _, _, _, ho⟩ := REntry_own.1 hown
    simp only at ho
    have HO4 := Lib.hid (ho.base hz3)
    have HC4 := Lib.hid (HC3.out.below hb4)
    have HK4 := Lib.hid (HK3.out.trans (Kept.of_below hb4))
    have HR4 := Lib.hid (HR3.out.below hb4 (by omega))
    have hz4 : w.heap.size + 1 ≤ w4.heap.size := Nat.le_trans hz3 hb4.size
    clear hown ho hb4
    have r0 := HR4.out.cell (j := 0) rfl
    have r1 := HR4.out.cell (j := 1) rfl
    have r2 := HR4.out.cell (j := 2) rfl
    have r3 := HR4.out.cell (j := 3) rfl
    have g0 := HR4.out.warm (j := 0) rfl
    have g1 := HR4.out.warm (j := 1) rfl
    have g2 := HR4.out.warm (j := 2) rfl
    have g3 := HR4.out.warm (j := 3) rfl
    go_wp2
    refine bodyPost_ret (v := .agg #[.string kl, .int .i64 1, .int .i64 x, .slice A n c]) (by simp [results, Try.results66, go_sem, r0, r1, r2, r3]) rfl ⟨A, n, c, kl, 1, x, [], rfl, ⟨hkl, inI64 (by simp) (by simp), inI64 (by simp only; omega) (by simp only; omega), by simp, by simp⟩, ?_, ?_, ?_⟩
    · refine (OwnS.top (hi := w4.heap.size) ?_).base (show w.heap.size + 1 ≤ w.heap.size + 1 by omega)
      repeat refine OwnS.store ?_ _ (.inl (by simp; try omega))
      exact HO4.out
    · refine cur_low HC4.out ?_
      repeat' refine Below.setCell ?_ ?_ _
      all_goals first | exact Below.refl _ _ | (simp; omega)
    · refine kept_then HK4.out ?_
      repeat' refine Below.setCell ?_ ?_ _
      all_goals first | exact Below.refl _ _ | (simp; done) | (simp; omega)
set_option maxHeartbeats 4000000 in
theorem l8Any_any (w : World) (B g : Nat) (hc : Cur w B g) : Calls Try.prog 43 #[.pointer (some ⟨g, 0, none⟩)] w (DrE B g w) := by
  have hgl := hc.lt
  have HC0 := Lib.hid (hc.alloc (.cells #[.string ⟨#[]⟩, .int .i64 0, .int .i64 0, .slice none 0 0] 26))
  have HK0 := Lib.hid ((Kept.refl g w).alloc (.cells #[.string ⟨#[]⟩, .int .i64 0, .int .i64 0, .slice none 0 0] 26))
  have HR0 := Lib.hid (show Box (w.alloc (.cells #[.string ⟨#[]⟩, .int .i64 0, .int .i64 0, .slice none 0 0] 26)) w.heap.size [.string ⟨#[]⟩, .int .i64 0, .int .i64 0, .slice none 0 0] from by
    have := Box.new w #[.string ⟨#[]⟩, .int .i64 0, .int .i64 0, .slice none 0 0] 26
    simpa using this)
  clear hc
  go_enter Try.func43, Try.ntmps43
  go_wp2_with fail
  refine (l8Entry_any _ B g HC0.out).mono ?_
  rintro e w1 ⟨A, n, c, kl, kk, kv, kp, rfl, hsm, hown, hc1, hk1⟩
  have hz1 : w.heap.size + 1 ≤ w1.heap.size := by have := hk1.size; simpa using this
  have HSM := Lib.hid hsm
  have HC1 := Lib.hid (hc1.alloc (.cells #[.string kl, .int .i64 kk, .int .i64 kv, .slice A n c] 26))
  have HK1 := Lib.hid ((HK0.out.trans hk1).alloc (.cells #[.string kl, .int .i64 kk, .int .i64 kv, .slice A n c] 26))
  have HR1 := Lib.hid ((bxK HR0.out hk1 (by omega)).alloc (.cells #[.string kl, .int .i64 kk, .int .i64 kv, .slice A n c] 26))
  have HX1 := Lib.hid (show Box (w1.alloc (.cells #[.string kl, .int .i64 kk, .int .i64 kv, .slice A n c] 26)) w1.heap.size [.string kl, .int .i64 kk, .int .i64 kv, .slice A n c] from by
    have := Box.new w1 #[.string kl, .int .i64 kk, .int .i64 kv, .slice A n c] 26
    simpa using this)
  have HO1 := Lib.hid ((hown.base (show w.heap.size + 1 ≤ _ by simp)).alloc (.cells #[.string kl, .int .i64 kk, .int .i64 kv, .slice A n c] 26))
  have hgz : g < w1.heap.size := by omega
  clear hc1 hk1 hsm hown
  go_wp2_with fail
  refine (l1Below_any 10 _ B g HC1.out).mono ?_
  rintro e w2 ⟨v, ⟨y, hy0, hy1, rfl⟩, rfl, hc2, hk2⟩
  have hz2 : w1.heap.size + 1 ≤ w2.heap.size := by have := hk2.size; simpa using this
  have HC2 := Lib.hid hc2
  have HK2 := Lib.hid (HK1.out.trans hk2)
  have HR2 := Lib.hid (bxK HR1.out hk2 (by omega))
  have HX2 := Lib.hid (bxK HX1.out hk2 (by omega))
  have HO2 := Lib.hid (ownS_kept HO1.out hk2 (by omega))
  clear hc2 hk2 hy1
  generalize hK : w1.heap.size = K at *
  have HKK := Lib.hid hK
  clear hK
  have hKw : K ≠ w.heap.size := by omega
  have hKw2 : w.heap.size ≠ K := by omega
  have hk2 : K < w2.heap.size := by omega
  have hw2 : w.heap.size < w2.heap.size := by omega
  have hcase : y = 0 ∨ y = 1 ∨ y = 2 ∨ y = 3 ∨ (y ≠ 0 ∧ y ≠ 1 ∧ y ≠ 2 ∧ y ≠ 3) := by omega
  rcases hcase with rfl | rfl | rfl | rfl | ⟨h0, h1, h2, h3⟩
  · go_wp2_with fail
    refine (l1Int_any _ 5 5 (by decide) _ B g (HC2.out.alloc _) (IRow.new (by omega) rfl rfl)).mono ?_
    rintro e w3 ⟨v, ⟨x, hx, rfl⟩, rfl, hc3, hk3⟩
    have hxi : In .i64 x := by have := hx; simp [Lit.wf, IntKind.min, IntKind.max, IntKind.signed, IntKind.bits] at this; exact inI64 this.1 this.2
    have HXI := Lib.hid hxi
    clear hx hxi
    have HX3 := Lib.hid (bxK (HX2.out.alloc _) hk3 (by omega))
    have HR3 := Lib.hid (bxK (HR2.out.alloc _) hk3 (by omega))
    have HO3 := Lib.hid (ownS_kept (HO2.out.alloc _) hk3 (by omega))
    have HC3 := Lib.hid hc3
    have HK3 := Lib.hid (((HK2.out).alloc _).trans hk3)
    have hs3 : w2.heap.size ≤ w3.heap.size := by have := hk3.size; first | omega | (simp at this; omega)
    clear hc3 hk3
    have c0' := HX3.out.cell (j := 0) rfl
    have f0 := HX3.out.warm (j := 0) rfl
    have r0 := HR3.out.cell (j := 0) rfl
    have g0 := HR3.out.warm (j := 0) rfl
    have c1' := HX3.out.cell (j := 1) rfl
    have f1 := HX3.out.warm (j := 1) rfl
    have r1 := HR3.out.cell (j := 1) rfl
    have g1 := HR3.out.warm (j := 1) rfl
    have c2' := HX3.out.cell (j := 2) rfl
    have f2 := HX3.out.warm (j := 2) rfl
    have r2 := HR3.out.cell (j := 2) rfl
    have g2 := HR3.out.warm (j := 2) rfl
    have c3' := HX3.out.cell (j := 3) rfl
    have f3 := HX3.out.warm (j := 3) rfl
    have r3 := HR3.out.cell (j := 3) rfl
    have g3 := HR3.out.warm (j := 3) rfl
    go_wp2
    refine bodyPost_ret (v := .agg #[.string kl, .int .i64 x, .int .i64 kv, .slice A n c]) (by simp [results, Try.results43, go_sem, r0, r1, r2, r3]) rfl ⟨A, n, c, kl, x, kv, kp, rfl, ⟨HSM.out.1, HXI.out, HSM.out.2.2.1, HSM.out.2.2.2.1, HSM.out.2.2.2.2⟩, ?_, ?_, ?_⟩
    · refine (OwnS.top (hi := K) ?_).base (show w.heap.size + 1 ≤ w.heap.size + 1 by omega)
      repeat' refine OwnS.store ?_ _ ?_
      all_goals first | exact HO3.out | (left; simp; done) | (left; simp; omega) | (right; simp; done) | (right; simp; omega)
    · refine cur_low HC3.out ?_
      repeat' refine Below.setCell ?_ ?_ _
      all_goals first | exact Below.refl _ _ | (simp; omega)
    · refine kept_then HK3.out ?_
      repeat' refine Below.setCell ?_ ?_ _
      all_goals first | exact Below.refl _ _ | (simp; done) | (simp; omega)
  · go_wp2_with fail
    refine (l1Int_any _ 5 5 (by decide) _ B g (HC2.out.alloc _) (IRow.new (by omega) rfl rfl)).mono ?_
    rintro e w3 ⟨v, ⟨x, hx, rfl⟩, rfl, hc3, hk3⟩
    have hxi : In .i64 x := by have := hx; simp [Lit.wf, IntKind.min, IntKind.max, IntKind.signed, IntKind.bits] at this; exact inI64 this.1 this.2
    have HXI := Lib.hid hxi
    clear hx hxi
    have HX3 := Lib.hid (bxK (HX2.out.alloc _) hk3 (by omega))
    have HR3 := Lib.hid (bxK (HR2.out.alloc _) hk3 (by omega))
    have HO3 := Lib.hid (ownS_kept (HO2.out.alloc _) hk3 (by omega))
    have HC3 := Lib.hid hc3
    have HK3 := Lib.hid (((HK2.out).alloc _).trans hk3)
    have hs3 : w2.heap.size ≤ w3.heap.size := by have := hk3.size; first | omega | (simp at this; omega)
    clear hc3 hk3
    have c0' := HX3.out.cell (j := 0) rfl
    have f0 := HX3.out.warm (j := 0) rfl
    have r0 := HR3.out.cell (j := 0) rfl
    have g0 := HR3.out.warm (j := 0) rfl
    have c1' := HX3.out.cell (j := 1) rfl
    have f1 := HX3.out.warm (j := 1) rfl
    have r1 := HR3.out.cell (j := 1) rfl
    have g1 := HR3.out.warm (j := 1) rfl
    have c2' := HX3.out.cell (j := 2) rfl
    have f2 := HX3.out.warm (j := 2) rfl
    have r2 := HR3.out.cell (j := 2) rfl
    have g2 := HR3.out.warm (j := 2) rfl
    have c3' := HX3.out.cell (j := 3) rfl
    have f3 := HX3.out.warm (j := 3) rfl
    have r3 := HR3.out.cell (j := 3) rfl
    have g3 := HR3.out.warm (j := 3) rfl
    go_wp2
    refine bodyPost_ret (v := .agg #[.string kl, .int .i64 kk, .int .i64 x, .slice A n c]) (by simp [results, Try.results43, go_sem, r0, r1, r2, r3]) rfl ⟨A, n, c, kl, kk, x, kp, rfl, ⟨HSM.out.1, HSM.out.2.1, HXI.out, HSM.out.2.2.2.1, HSM.out.2.2.2.2⟩, ?_, ?_, ?_⟩
    · refine (OwnS.top (hi := K) ?_).base (show w.heap.size + 1 ≤ w.heap.size + 1 by omega)
      repeat' refine OwnS.store ?_ _ ?_
      all_goals first | exact HO3.out | (left; simp; done) | (left; simp; omega) | (right; simp; done) | (right; simp; omega)
    · refine cur_low HC3.out ?_
      repeat' refine Below.setCell ?_ ?_ _
      all_goals first | exact Below.refl _ _ | (simp; omega)
    · refine kept_then HK3.out ?_
      repeat' refine Below.setCell ?_ ?_ _
      all_goals first | exact Below.refl _ _ | (simp; done) | (simp; omega)
  · go_wp2_with fail
    refine (l4Any_any _ B g HC2.out).mono ?_
    rintro e w3 ⟨v, ⟨s, hs, rfl⟩, rfl, hc3, hk3⟩
    have HX3 := Lib.hid (bxK (HX2.out) hk3 (by omega))
    have HR3 := Lib.hid (bxK (HR2.out) hk3 (by omega))
    have HO3 := Lib.hid (ownS_kept (HO2.out) hk3 (by omega))
    have HC3 := Lib.hid hc3
    have HK3 := Lib.hid (((HK2.out)).trans hk3)
    have hs3 : w2.heap.size ≤ w3.heap.size := by have := hk3.size; first | omega | (simp at this; omega)
    clear hc3 hk3
    have c0' := HX3.out.cell (j := 0) rfl
    have f0 := HX3.out.warm (j := 0) rfl
    have r0 := HR3.out.cell (j := 0) rfl
    have g0 := HR3.out.warm (j := 0) rfl
    have c1' := HX3.out.cell (j := 1) rfl
    have f1 := HX3.out.warm (j := 1) rfl
    have r1 := HR3.out.cell (j := 1) rfl
    have g1 := HR3.out.warm (j := 1) rfl
    have c2' := HX3.out.cell (j := 2) rfl
    have f2 := HX3.out.warm (j := 2) rfl
    have r2 := HR3.out.cell (j := 2) rfl
    have g2 := HR3.out.warm (j := 2) rfl
    have c3' := HX3.out.cell (j := 3) rfl
    have f3 := HX3.out.warm (j := 3) rfl
    have r3 := HR3.out.cell (j := 3) rfl
    have g3 := HR3.out.warm (j := 3) rfl
    go_wp2
    refine bodyPost_ret (v := .agg #[.string s, .int .i64 kk, .int .i64 kv, .slice A n c]) (by simp [results, Try.results43, go_sem, r0, r1, r2, r3]) rfl ⟨A, n, c, s, kk, kv, kp, rfl, ⟨hs, HSM.out.2.1, HSM.out.2.2.1, HSM.out.2.2.2.1, HSM.out.2.2.2.2⟩, ?_, ?_, ?_⟩
    · refine (OwnS.top (hi := K) ?_).base (show w.heap.size + 1 ≤ w.heap.size + 1 by omega)
      repeat' refine OwnS.store ?_ _ ?_
      all_goals first | exact HO3.out | (left; simp; done) | (left; simp; omega) | (right; simp; done) | (right; simp; omega)
    · refine cur_low HC3.out ?_
      repeat' refine Below.setCell ?_ ?_ _
      all_goals first | exact Below.refl _ _ | (simp; omega)
    · refine kept_then HK3.out ?_
      repeat' refine Below.setCell ?_ ?_ _
      all_goals first | exact Below.refl _ _ | (simp; done) | (simp; omega)
  · go_wp2_with fail
    refine (l5Any_any _ B g HC2.out).mono ?_
    rintro e w3 ⟨Ap, np, cp, pp, rfl, hnp, hsp, hop, hc3, hk3⟩
    have HP3 := Lib.hid hop
    have hpl := hop.len
    clear hop
    have HX3 := Lib.hid (bxK (HX2.out) hk3 (by omega))
    have HR3 := Lib.hid (bxK (HR2.out) hk3 (by omega))
    have HO3 := Lib.hid (ownS_kept (HO2.out) hk3 (by omega))
    have HC3 := Lib.hid hc3
    have HK3 := Lib.hid (((HK2.out)).trans hk3)
    have hs3 : w2.heap.size ≤ w3.heap.size := by have := hk3.size; first | omega | (simp at this; omega)
    clear hc3 hk3
    have c0' := HX3.out.cell (j := 0) rfl
    have f0 := HX3.out.warm (j := 0) rfl
    have r0 := HR3.out.cell (j := 0) rfl
    have g0 := HR3.out.warm (j := 0) rfl
    have c1' := HX3.out.cell (j := 1) rfl
    have f1 := HX3.out.warm (j := 1) rfl
    have r1 := HR3.out.cell (j := 1) rfl
    have g1 := HR3.out.warm (j := 1) rfl
    have c2' := HX3.out.cell (j := 2) rfl
    have f2 := HX3.out.warm (j := 2) rfl
    have r2 := HR3.out.cell (j := 2) rfl
    have g2 := HR3.out.warm (j := 2) rfl
    have c3' := HX3.out.cell (j := 3) rfl
    have f3 := HX3.out.warm (j := 3) rfl
    have r3 := HR3.out.cell (j := 3) rfl
    have g3 := HR3.out.warm (j := 3) rfl
    go_wp2
    refine bodyPost_ret (v := .agg #[.string kl, .int .i64 kk, .int .i64 kv, .slice Ap np cp]) (by simp [results, Try.results43, go_sem, r0, r1, r2, r3]) rfl ⟨Ap, np, cp, kl, kk, kv, pp, rfl, ⟨HSM.out.1, HSM.out.2.1, HSM.out.2.2.1, by simp only; omega, hsp⟩, ?_, ?_, ?_⟩
    · refine (OwnS.top (hi := w3.heap.size) ?_).base (show w.heap.size + 1 ≤ w2.heap.size by omega)
      repeat' refine OwnS.store ?_ _ ?_
      all_goals first | exact HP3.out | (left; simp; done) | (left; simp; omega) | (right; simp; done) | (right; simp; omega)
    · refine cur_low HC3.out ?_
      repeat' refine Below.setCell ?_ ?_ _
      all_goals first | exact Below.refl _ _ | (simp; omega)
    · refine kept_then HK3.out ?_
      repeat' refine Below.setCell ?_ ?_ _
      all_goals first | exact Below.refl _ _ | (simp; done) | (simp; omega)
  · have e0 : (y == 0) = false := beq_eq_false_iff_ne.2 h0
    have e1 : (y == 1) = false := beq_eq_false_iff_ne.2 h1
    have e2 : (y == 2) = false := beq_eq_false_iff_ne.2 h2
    have e3 : (y == 3) = false := beq_eq_false_iff_ne.2 h3
    have c0' := HX2.out.cell (j := 0) rfl
    have f0 := HX2.out.warm (j := 0) rfl
    have r0 := HR2.out.cell (j := 0) rfl
    have g0 := HR2.out.warm (j := 0) rfl
    have c1' := HX2.out.cell (j := 1) rfl
    have f1 := HX2.out.warm (j := 1) rfl
    have r1 := HR2.out.cell (j := 1) rfl
    have g1 := HR2.out.warm (j := 1) rfl
    have c2' := HX2.out.cell (j := 2) rfl
    have f2 := HX2.out.warm (j := 2) rfl
    have r2 := HR2.out.cell (j := 2) rfl
    have g2 := HR2.out.warm (j := 2) rfl
    have c3' := HX2.out.cell (j := 3) rfl
    have f3 := HX2.out.warm (j := 3) rfl
    have r3 := HR2.out.cell (j := 3) rfl
    have g3 := HR2.out.warm (j := 3) rfl
    go_wp2
    refine bodyPost_ret (v := .agg #[.string kl, .int .i64 kk, .int .i64 kv, .slice A n c]) (by simp [results, Try.results43, go_sem, r0, r1, r2, r3]) rfl ⟨A, n, c, kl, kk, kv, kp, rfl, ⟨HSM.out.1, HSM.out.2.1, HSM.out.2.2.1, HSM.out.2.2.2.1, HSM.out.2.2.2.2⟩, ?_, ?_, ?_⟩
    · refine (OwnS.top (hi := K) ?_).base (show w.heap.size + 1 ≤ w.heap.size + 1 by omega)
      repeat' refine OwnS.store ?_ _ ?_
      all_goals first | exact HO2.out | (left; simp; done) | (left; simp; omega) | (right; simp; done) | (right; simp; omega)
    · refine cur_low HC2.out ?_
      repeat' refine Below.setCell ?_ ?_ _
      all_goals first | exact Below.refl _ _ | (simp; omega)
    · refine kept_then HK2.out ?_
      repeat' refine Below.setCell ?_ ?_ _
      all_goals first | exact Below.refl _ _ | (simp; done) | (simp; omega)
def DrEE (w : World) (e : Ending) (w' : World) : Prop :=
  ∃ A n c kl kk kv kp A' n' c' kl' kk' kv' kp', e = .returned (.tuple #[.agg #[.string kl, .int .i64 kk, .int .i64 kv, .slice A n c], .agg #[.string kl', .int .i64 kk', .int .i64 kv', .slice A' n' c']]) ∧ SmE ⟨kl, kk, kv, kp⟩ ∧ SmE ⟨kl', kk', kv', kp'⟩ ∧ OwnS w' w.heap.size w'.heap.size A n c kp ∧ OwnS w' w.heap.size w'.heap.size A' n' c' kp' ∧ Below w.heap.size w w'
theorem sm_rd {w : World} {lo : Nat} {A : Option Addr} {n c : Nat} {k : Entry} (h : OwnS w lo w.heap.size A n c k.path) (hk : SmE k) : REntry.rd w (Lt w.heap.size) [.string k.label, .int .i64 k.kind, .int .i64 k.value, .slice A n c] k :=
  REntry_rd.2 ⟨A, n, c, rfl, by have := hk.1; unfold InS maxLen; omega, hk.2.1, hk.2.2.1, h.cap.1, h.cap.2, h.rd⟩
set_option maxHeartbeats 4000000 in
theorem drawEqualEntries_any (w : World) (A : Option Addr) (n c : Nat) (hn : n ≤ maxLen) (hr : BRow w w.heap.size A n) :
    Calls Try.prog 12 #[.slice A n c] w (DrEE w) := by
  have HB0 := Lib.hid ((Below.refl w.heap.size w).alloc (Nat.le_refl _) (.cells #[.string ⟨#[]⟩, .int .i64 0, .int .i64 0, .slice none 0 0] 26) |>.alloc (by simp) (.cells #[.string ⟨#[]⟩, .int .i64 0, .int .i64 0, .slice none 0 0] 26))
  obtain ⟨V, hV⟩ : ∃ V, (w.alloc (.cells #[.string ⟨#[]⟩, .int .i64 0, .int .i64 0, .slice none 0 0] 26)).alloc (.cells #[.string ⟨#[]⟩, .int .i64 0, .int .i64 0, .slice none 0 0] 26) = V := ⟨_, rfl⟩
  rw [hV] at HB0
  have HR := Lib.hid ((hr.below HB0.out).more HB0.out.size)
  have hVs : V.heap.size = w.heap.size + 2 := by rw [← hV]; simp
  have HX0 := Lib.hid (show Box V w.heap.size [.string ⟨#[]⟩, .int .i64 0, .int .i64 0, .slice none 0 0] by rw [← hV]; exact (Box.new w #[.string ⟨#[]⟩, .int .i64 0, .int .i64 0, .slice none 0 0] 26).alloc _)
  have HZ0 := Lib.hid (show Box V (w.heap.size + 1) [.string ⟨#[]⟩, .int .i64 0, .int .i64 0, .slice none 0 0] by rw [← hV]; have h := Box.new (w.alloc (.cells #[.string ⟨#[]⟩, .int .i64 0, .int .i64 0, .slice none 0 0] 26)) #[.string ⟨#[]⟩, .int .i64 0, .int .i64 0, .slice none 0 0] 26; simpa using h)
  have HV := Lib.hid hV
  have HVs := Lib.hid hVs
  clear hr hV hVs
  go_enter Try.func12, Try.ntmps12
  go_wp2_with fail
  rw [HV.out]
  refine (l1New_any _ A n c hn HR.out).mono ?_
  rintro e w1 ⟨g, rfl, hc1, hb1⟩
  have hgB := hc1.1
  have hgl := hc1.lt
  have hwg : w.heap.size + 1 < g := by have := HVs.out; omega
  have HC1 := Lib.hid hc1
  have HB1 := Lib.hid (HB0.out.trans (hb1.mono HB0.out.size))
  have HX1 := Lib.hid (HX0.out.below hb1 HX0.out.lt)
  have HZ1 := Lib.hid (HZ0.out.below hb1 HZ0.out.lt)
  clear hc1 hb1
  go_wp2_with fail
  refine (l8Any_any _ _ g HC1.out).mono ?_
  rintro e w2 ⟨A2, n2, c2, kl, kk, kv, kp, rfl, hk, hown, hc2, hk2⟩
  have hz2 : w1.heap.size ≤ w2.heap.size := hk2.size
  have HK := Lib.hid hk
  have HO2 := Lib.hid (hown.alloc (.cells #[.string kl, .int .i64 kk, .int .i64 kv, .slice A2 n2 c2] 26))
  have HC2 := Lib.hid (hc2.alloc (.cells #[.string kl, .int .i64 kk, .int .i64 kv, .slice A2 n2 c2] 26))
  have HB2 := Lib.hid ((HB1.out.trans (hk2.below (by omega) HB1.out.size)).alloc (by have := HB1.out.size; omega) (.cells #[.string kl, .int .i64 kk, .int .i64 kv, .slice A2 n2 c2] 26))
  have HX2 := Lib.hid ((bxK HX1.out hk2 (by omega)).alloc (.cells #[.string kl, .int .i64 kk, .int .i64 kv, .slice A2 n2 c2] 26))
  have HZ2 := Lib.hid ((bxK HZ1.out hk2 (by omega)).alloc (.cells #[.string kl, .int .i64 kk, .int .i64 kv, .slice A2 n2 c2] 26))
  have HY2 := Lib.hid (Box.new w2 #[.string kl, .int .i64 kk, .int .i64 kv, .slice A2 n2 c2] 26)
  have hw1 : w.heap.size + 1 < w1.heap.size := HZ1.out.lt
  have HGW := Lib.hid (show g < w1.heap.size + 1 by omega)
  clear hk hown hc2 hk2
  go_wp2_with fail
  refine (l1Once_any _ _ _ g HC2.out).mono ?_
  rintro e w3 ⟨v, ⟨t, rfl⟩, rfl, hc3, hk3⟩
  have hz3 : w2.heap.size + 1 ≤ w3.heap.size := by have := hk3.size; simpa using this
  have HC3 := Lib.hid hc3
  have HB3 := Lib.hid (HB2.out.trans (hk3.below (by omega) HB2.out.size))
  have HX3 := Lib.hid (bxK HX2.out hk3 (by omega))
  have HZ3 := Lib.hid (bxK HZ2.out hk3 (by omega))
  have HY3 := Lib.hid (bxK HY2.out hk3 (by omega))
  have HO3 := Lib.hid ((ownS_kept HO2.out hk3 HGW.out).wide (show w2.heap.size ≤ w3.heap.size by omega))
  clear hc3 hk3
  have hne : w2.heap.size ≠ g := by omega
  have hne1 : w.heap.size ≠ g := by omega
  have hne4 : w.heap.size + 1 ≠ g := by omega
  have hne2 : w2.heap.size ≠ w.heap.size := by omega
  have hne3 : w.heap.size ≠ w2.heap.size := by omega
  have hne5 : w2.heap.size ≠ w.heap.size + 1 := by omega
  have hne6 : w.heap.size + 1 ≠ w2.heap.size := by omega
  have c0 := HY3.out.cell (j := 0) rfl
  have c1 := HY3.out.cell (j := 1) rfl
  have c2' := HY3.out.cell (j := 2) rfl
  have c3 := HY3.out.cell (j := 3) rfl
  have hlx : w.heap.size < w3.heap.size := by omega
  have hlz : w.heap.size + 1 < w3.heap.size := by omega
  cases t
  · have HC3d := Lib.hid (HC3.out.below ((Below.refl w3.heap.size w3).drew))
    have HKd := Lib.hid (Kept.of_below (g := g) (Below.refl w3.heap.size w3).drew)
    go_wp2_with fail
    go_region_held3 (fun w' => w'.cell? ⟨w2.heap.size, 0, none⟩ = some (.string kl) ∧ w'.cell? ⟨w2.heap.size, 1, none⟩ = some (.int .i64 kk) ∧ w'.cell? ⟨w2.heap.size, 2, none⟩ = some (.int .i64 kv) ∧ w'.cell? ⟨w2.heap.size, 3, none⟩ = some (.slice A2 n2 c2)) (go_keep) ((first
      | (go_at_call 43; refine (l8Any_any _ _ g HC3d.out).mono ?_; rintro e w4 ⟨A4, n4, c4, ml, mk, mv, mp, rfl, hk4, hown4, hc4, hkk4⟩; have HK4 := Lib.hid hk4; have HKK4 := Lib.hid (HKd.out.trans hkk4); have HX4 := Lib.hid (bxK HX3.out (HKd.out.trans hkk4) hne1); have HZ4 := Lib.hid (bxK HZ3.out (HKd.out.trans hkk4) hne4); have HY4 := Lib.hid (bxK HY3.out (HKd.out.trans hkk4) hne); have HO4 := Lib.hid (ownS_kept HO3.out (HKd.out.trans hkk4) HGW.out); have HP4 := Lib.hid hown4; have d0 := HY4.out.cell (j := 0) rfl; have d1 := HY4.out.cell (j := 1) rfl; have d2 := HY4.out.cell (j := 2) rfl; have d3 := HY4.out.cell (j := 3) rfl; have r0 := HX4.out.cell (j := 0) rfl; have r1 := HX4.out.cell (j := 1) rfl; have r2 := HX4.out.cell (j := 2) rfl; have r3 := HX4.out.cell (j := 3) rfl; have f0 := HX4.out.warm (j := 0) rfl; have f1 := HX4.out.warm (j := 1) rfl; have f2 := HX4.out.warm (j := 2) rfl; have f3 := HX4.out.warm (j := 3) rfl; have s0 := HZ4.out.cell (j := 0) rfl; have s1 := HZ4.out.cell (j := 1) rfl; have s2 := HZ4.out.cell (j := 2) rfl; have s3 := HZ4.out.cell (j := 3) rfl; have p0 := HZ4.out.warm (j := 0) rfl; have p1 := HZ4.out.warm (j := 1) rfl; have p2 := HZ4.out.warm (j := 2) rfl; have p3 := HZ4.out.warm (j := 3) rfl; clear hk4 hown4 hc4 hkk4)))
    clear c0 c1 c2' c3
    go_wp2
    refine bodyPost_ret (v := .tuple #[.agg #[.string kl, .int .i64 kk, .int .i64 kv, .slice A2 n2 c2], .agg #[.string ml, .int .i64 mk, .int .i64 mv, .slice A4 n4 c4]]) (by simp [results, Try.results12, go_sem, r0, r1, r2, r3, s0, s1, s2, s3]) rfl ⟨A2, n2, c2, kl, kk, kv, kp, A4, n4, c4, ml, mk, mv, mp, rfl, HK.out, HK4.out, ?_, ?_, ?_⟩
    · refine (OwnS.top (hi := w3.heap.size) ?_).base (show w.heap.size ≤ w1.heap.size + 1 by omega)
      repeat' refine OwnS.store ?_ _ ?_
      all_goals first | exact HO4.out | (left; simp; done) | (left; simp; omega)
    · refine (OwnS.top (hi := w4.heap.size) ?_).base (show w.heap.size ≤ w3.heap.size + 1 by omega)
      repeat' refine OwnS.store ?_ _ ?_
      all_goals first | exact HP4.out | exact .inl (show w.heap.size < w3.heap.size + 1 by omega) | exact .inl (show w.heap.size + 1 < w3.heap.size + 1 by omega)
    · repeat' refine Below.setCell ?_ ?_ _
      all_goals first | exact HB3.out.trans (HKK4.out.below (by omega) HB3.out.size) | (simp; done)
  · have HLc := Lib.hid (l8Copy_any _ ⟨kl, kk, kv, kp⟩ w3.drew (show REntry.rd w3.drew (Lt w3.drew.heap.size) [.string kl, .int .i64 kk, .int .i64 kv, .slice A2 n2 c2] ⟨kl, kk, kv, kp⟩ from REntry.keep (sm_rd (w := w3) (k := ⟨kl, kk, kv, kp⟩) HO3.out HK.out) fun i _ => rfl) (Nat.le_trans (sm_tot HK.out) (by decide)))
    have HBd := Lib.hid ((Below.refl w3.heap.size w3).drew)
    go_wp2_with fail
    go_region_held3 (fun w' => w'.cell? ⟨w2.heap.size, 0, none⟩ = some (.string kl) ∧ w'.cell? ⟨w2.heap.size, 1, none⟩ = some (.int .i64 kk) ∧ w'.cell? ⟨w2.heap.size, 2, none⟩ = some (.int .i64 kv) ∧ w'.cell? ⟨w2.heap.size, 3, none⟩ = some (.slice A2 n2 c2)) (go_keep) ((first
      | (go_at_call 45; refine HLc.out.mono ?_; rintro e w4 ⟨cs4, rfl, hown4, hb4⟩; obtain ⟨A4, n4, c4, rfl, _, _, _, ho4⟩ := REntry_own.1 hown4; simp only at ho4; have HBB := Lib.hid (HBd.out.trans hb4); have HX4 := Lib.hid (HX3.out.below HBB.out HX3.out.lt); have HZ4 := Lib.hid (HZ3.out.below HBB.out HZ3.out.lt); have HY4 := Lib.hid (HY3.out.below HBB.out HY3.out.lt); have HO4 := Lib.hid (HO3.out.below HBB.out (Nat.le_refl _)); have HP4 := Lib.hid ho4; have d0 := HY4.out.cell (j := 0) rfl; have d1 := HY4.out.cell (j := 1) rfl; have d2 := HY4.out.cell (j := 2) rfl; have d3 := HY4.out.cell (j := 3) rfl; have r0 := HX4.out.cell (j := 0) rfl; have r1 := HX4.out.cell (j := 1) rfl; have r2 := HX4.out.cell (j := 2) rfl; have r3 := HX4.out.cell (j := 3) rfl; have f0 := HX4.out.warm (j := 0) rfl; have f1 := HX4.out.warm (j := 1) rfl; have f2 := HX4.out.warm (j := 2) rfl; have f3 := HX4.out.warm (j := 3) rfl; have s0 := HZ4.out.cell (j := 0) rfl; have s1 := HZ4.out.cell (j := 1) rfl; have s2 := HZ4.out.cell (j := 2) rfl; have s3 := HZ4.out.cell (j := 3) rfl; have p0 := HZ4.out.warm (j := 0) rfl; have p1 := HZ4.out.warm (j := 1) rfl; have p2 := HZ4.out.warm (j := 2) rfl; have p3 := HZ4.out.warm (j := 3) rfl; clear hown4 ho4 hb4)))
    clear c0 c1 c2' c3
    go_wp2
    refine bodyPost_ret (v := .tuple #[.agg #[.string kl, .int .i64 kk, .int .i64 kv, .slice A2 n2 c2], .agg #[.string kl, .int .i64 kk, .int .i64 kv, .slice A4 n4 c4]]) (by simp [results, Try.results12, go_sem, r0, r1, r2, r3, s0, s1, s2, s3]) rfl ⟨A2, n2, c2, kl, kk, kv, kp, A4, n4, c4, kl, kk, kv, kp, rfl, HK.out, HK.out, ?_, ?_, ?_⟩
    · refine (OwnS.top (hi := w3.heap.size) ?_).base (show w.heap.size ≤ w1.heap.size + 1 by omega)
      repeat' refine OwnS.store ?_ _ ?_
      all_goals first | exact HO4.out | (left; simp; done) | (left; simp; omega)
    · refine (OwnS.top (hi := w4.heap.size) ?_).base (show w.heap.size ≤ w3.heap.size by omega)
      repeat' refine OwnS.store ?_ _ ?_
      all_goals first | exact HP4.out | exact .inl hlx | exact .inl hlz
    · repeat' refine Below.setCell ?_ ?_ _
      all_goals first | exact HB3.out.trans (HBB.out.mono HB3.out.size) | (simp; done)
def DrMv (w : World) (e : Ending) (w' : World) : Prop :=
  ∃ s x A n c p, e = .returned (.tuple #[.string s, .int .i64 x, .slice A n c]) ∧ ByteArray.size s ≤ 16 ∧ 0 ≤ x ∧ x ≤ 99 ∧ n ≤ 5 ∧ (∀ s ∈ p, ByteArray.size s ≤ 16) ∧ OwnS w' w.heap.size w'.heap.size A n c p ∧ Below w.heap.size w w'
theorem drawMovedEntry_any (w : World) (A : Option Addr) (n c : Nat) (hn : n ≤ maxLen) (hr : BRow w w.heap.size A n) :
    Calls Try.prog 13 #[.slice A n c] w (DrMv w) := by
  go_enter Try.func13, Try.ntmps13
  go_wp2_with fail
  refine (l1New_any w A n c hn hr).mono ?_
  rintro e w1 ⟨g, rfl, hc1, hb1⟩
  have hgB := hc1.1
  have HC1 := Lib.hid hc1
  have HB1 := Lib.hid hb1
  clear hc1 hb1
  go_wp2_with fail
  refine (l4Any_any _ _ g HC1.out).mono ?_
  rintro e w2 ⟨v, ⟨s, hs, rfl⟩, rfl, hc2, hk2⟩
  have HC2 := Lib.hid hc2
  have HB2 := Lib.hid (HB1.out.trans (hk2.below hgB HB1.out.size))
  clear hc2 hk2
  go_wp2_with fail
  refine (l1Below_any 99 _ _ g HC2.out).mono ?_
  rintro e w3 ⟨v, ⟨x, hx0, hx1, rfl⟩, rfl, hc3, hk3⟩
  have HC3 := Lib.hid hc3
  have HB3 := Lib.hid (HB2.out.trans (hk3.below hgB HB2.out.size))
  have hx9 : x ≤ 99 := by omega
  clear hc3 hk3 hx1
  go_wp2_with fail
  refine (l5Any_any _ _ g HC3.out).mono ?_
  rintro e w4 ⟨Ap, np, cp, pp, rfl, hnp, hsp, hop, hc4, hk4⟩
  have HO4 := Lib.hid hop
  have HSP := Lib.hid hsp
  have HB4 := Lib.hid (HB3.out.trans (hk4.below hgB HB3.out.size))
  have hb0 := HB3.out.size
  clear hop hsp hc4 hk4
  go_wp2
  refine bodyPost_ret (v := .tuple #[.string s, .int .i64 x, .slice Ap np cp]) (by simp [results, Try.results13, go_sem]) rfl ⟨s, x, Ap, np, cp, pp, rfl, hs, hx0, hx9, hnp, HSP.out, HO4.out.base hb0, HB4.out⟩
end Go.Proofs.Ytobapahakcdibaa.D08
