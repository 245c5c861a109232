/- The drawing functions of chapter 8: what they return, and that they write into nothing that was there. -/
import Derived.Test.YtpjfmbcandgpeaaD05
import Derived.Test.YtpjfmbcandgpeaaC08S
import Derived.Deep.RegionHeld3
namespace Go.Proofs.Ytpjfmbcandgpeaa.D08
set_option linter.unusedVariables false
set_option maxRecDepth 100000
open Go.RowKit Mem MemS M02 M04 M05 C01 C02 D01 D02 D04 D05 SL Rep R08 M08 C08S RKA
/-- a small entry -/
def SmE (k : Entry) : Prop := k.label.size ≤ 16 ∧ In .i64 k.kind ∧ In .i64 k.value ∧ k.path.length ≤ 5 ∧ ∀ s ∈ k.path, s.size ≤ 16
/-- a draw of an entry -/
def DrE (B g : Nat) (w : World) (e : Ending) (w' : World) : Prop :=
  ∃ A n c kl kk kv kp, e = .returned (.agg #[.string kl, .int .i64 kk, .int .i64 kv, .slice A n c]) ∧ SmE ⟨kl, kk, kv, kp⟩ ∧ OwnS w' (w.heap.size + 1) w'.heap.size A n c kp ∧ Cur w' B g ∧ Kept g w w'
theorem bxK {w w' : World} {b g : Nat} {vs : List Value} (h : Box w b vs) (hk : Kept g w w') (hb : b ≠ g) : Box w' b vs := h.keep (hk.block b h.lt hb)
theorem sm_tot {k : Entry} (h : SmE k) : totEntry k ≤ 1048576 := by
  obtain ⟨h0, _, _, h3, h4⟩ := h
  have h5 : ∀ l : List ByteArray, (∀ s ∈ l, s.size ≤ 16) → (l.map ByteArray.size).sum ≤ l.length * 16 := by
    intro l
    induction l with
    | nil => intro _; simp
    | cons x r ih =>
      intro h
      have h1 := ih fun s hs => h s (List.mem_cons_of_mem _ hs)
      have h2 := h x List.mem_cons_self
      simp only [List.length_cons, List.map_cons, List.sum_cons]
      omega
  have := h5 _ h4
  unfold totEntry totSS
  omega
set_option maxHeartbeats 2000000 in
theorem l8Entry_any (w : World) (B g : Nat) (hc : Cur w B g) : Calls Try.prog 70 #[.pointer (some ⟨g, 0, none⟩)] w (DrE B g w) := by
  have hgl := hc.lt
  have HC0 := Lib.hid (hc.alloc (.cells #[.string ⟨#[]⟩, .int .i64 0, .int .i64 0, .slice none 0 0] 27))
  have HK0 := Lib.hid ((Kept.refl g w).alloc (.cells #[.string ⟨#[]⟩, .int .i64 0, .int .i64 0, .slice none 0 0] 27))
  have HR0 := Lib.hid (show Box (w.alloc (.cells #[.string ⟨#[]⟩, .int .i64 0, .int .i64 0, .slice none 0 0] 27)) w.heap.size [.string ⟨#[]⟩, .int .i64 0, .int .i64 0, .slice none 0 0] from by
    have := Box.new w #[.string ⟨#[]⟩, .int .i64 0, .int .i64 0, .slice none 0 0] 27
    simpa using this)
  clear hc
  go_enter Try.func70, Try.ntmps70
  go_wp2_with fail
  refine (l4Label_any _ B g HC0.out).mono ?_
  rintro e w1 ⟨v, ⟨kl, hkl, rfl⟩, rfl, hc1, hk1⟩
  have hz1 : w.heap.size + 1 ≤ w1.heap.size := by have := hk1.size; simpa using this
  have HC1 := Lib.hid hc1
  have HK1 := Lib.hid (HK0.out.trans hk1)
  have HR1 := Lib.hid (bxK HR0.out hk1 (by omega))
  clear hc1 hk1
  go_wp2_with fail
  refine (l1Below_any 5 _ B g HC1.out).mono ?_
  rintro e w2 ⟨v, ⟨y, hy0, hy1, rfl⟩, rfl, hc2, hk2⟩
  have hz2 : w.heap.size + 1 ≤ w2.heap.size := Nat.le_trans hz1 hk2.size
  have HC2 := Lib.hid hc2
  have HK2 := Lib.hid (HK1.out.trans hk2)
  have HR2 := Lib.hid (bxK HR1.out hk2 (by omega))
  clear hc2 hk2 hy1 hz1
  have hcase : y = 0 ∨ y = 1 ∨ (y ≠ 0 ∧ y ≠ 1) := by omega
  rcases hcase with rfl | rfl | ⟨h0, h1⟩
  · go_wp2_with fail
    refine (l1Below_any 5000 _ B g HC2.out).mono ?_
    rintro e w3 ⟨v, ⟨x, hx0, hx1, rfl⟩, rfl, hc3, hk3⟩
    have hz3 : w.heap.size + 1 ≤ w3.heap.size := Nat.le_trans hz2 hk3.size
    have hx9 : x ≤ 5000 := by omega
    have HC3 := Lib.hid hc3
    have HK3 := Lib.hid (HK2.out.trans hk3)
    have HR3 := Lib.hid (bxK HR2.out hk3 (by omega))
    clear hc3 hk3 hx1
    go_wp2_with fail
    refine (sZoneEntry_any kl x w3 (show InS kl by unfold InS maxLen; omega) (inI64 (by omega) (by omega))).mono ?_
    rintro e w4 ⟨cs, rfl, hown, hb4⟩
    obtain ⟨A, n, c, rfl, _, _, _, ho⟩ := REntry_own.1 hown
    simp only at ho
    have HO4 := Lib.hid (ho.base hz3)
    have HC4 := Lib.hid (HC3.out.below hb4)
    have HK4 := Lib.hid (HK3.out.trans (Kept.of_below hb4))
    have HR4 := Lib.hid (HR3.out.below hb4 (by omega))
    have hz4 : w.heap.size + 1 ≤ w4.heap.size := Nat.le_trans hz3 hb4.size
    clear hown ho hb4
    have r0 := HR4.out.cell (j := 0) rfl
    have r1 := HR4.out.cell (j := 1) rfl
    have r2 := HR4.out.cell (j := 2) rfl
    have r3 := HR4.out.cell (j := 3) rfl
    have g0 := HR4.out.warm (j := 0) rfl
    have g1 := HR4.out.warm (j := 1) rfl
    have g2 := HR4.out.warm (j := 2) rfl
    have g3 := HR4.out.warm (j := 3) rfl
    go_wp2
    refine bodyPost_ret (v := .agg #[.string kl, .int .i64 2, .int .i64 x, .slice A n c]) (by simp [results, Try.results70, go_sem, r0, r1, r2, r3]) rfl ⟨A, n, c, kl, 2, x, [], rfl, ⟨hkl, inI64 (by simp) (by simp), inI64 (by simp only; omega) (by simp only; omega), by simp, by simp⟩, ?_, ?_, ?_⟩
    · refine (OwnS.top (hi := w4.heap.size) ?_).base (show w.heap.size + 1 ≤ w.heap.size + 1 by omega)
      repeat refine OwnS.store ?_ _ (.inl (by simp; try omega))
      exact HO4.out
    · refine cur_low HC4.out ?_
      repeat' refine Below.setCell ?_ ?_ _
      all_goals first | exact Below.refl _ _ | (simp; omega)
    · refine kept_then HK4.out ?_
      repeat' refine Below.setCell ?_ ?_ _
      all_goals first | exact Below.refl _ _ | (simp; done) | (simp; omega)
  · go_wp2_with fail
    refine (l1Below_any 5000 _ B g HC2.out).mono ?_
    rintro e w3 ⟨v, ⟨x, hx0, hx1, rfl⟩, rfl, hc3, hk3⟩
    have hz3 : w.heap.size + 1 ≤ w3.heap.size := Nat.le_trans hz2 hk3.size
    have hx9 : x ≤ 5000 := by omega
    have HC3 := Lib.hid hc3
    have HK3 := Lib.hid (HK2.out.trans hk3)
    have HR3 := Lib.hid (bxK HR2.out hk3 (by omega))
    clear hc3 hk3 hx1
    go_wp2_with fail
    refine (l5Path_any w3 B g HC3.out).mono ?_
    rintro e w4 ⟨Ap, np, cp, kp, rfl, hnp, hsp, hop, hc4, hk4⟩
    have hz4 : w.heap.size + 1 ≤ w4.heap.size := Nat.le_trans hz3 hk4.size
    have HC4 := Lib.hid hc4
    have HK4 := Lib.hid (HK3.out.trans hk4)
    have HR4 := Lib.hid (bxK HR3.out hk4 (by omega))
    have HP4 := Lib.hid hop.rd
    have hpl := hop.len
    clear hc4 hk4 hop
    go_wp2_with fail
    refine (sMovedEntry_any kl x Ap np cp kp w4 (show InS kl by unfold InS maxLen; omega) (inI64 (by omega) (by omega)) HP4.out (by omega)).mono ?_
    rintro e w5 ⟨cs, rfl, hown, hb5⟩
    obtain ⟨A, n, c, rfl, _, _, _, ho⟩ := REntry_own.1 hown
    simp only at ho
    have HO5 := Lib.hid (ho.base hz4)
    have HC5 := Lib.hid (HC4.out.below hb5)
    have HK5 := Lib.hid (HK4.out.trans (Kept.of_below hb5))
    have HR5 := Lib.hid (HR4.out.below hb5 (by omega))
    have hz5 : w.heap.size + 1 ≤ w5.heap.size := Nat.le_trans hz4 hb5.size
    clear hown ho hb5
    have r0 := HR5.out.cell (j := 0) rfl
    have r1 := HR5.out.cell (j := 1) rfl
    have r2 := HR5.out.cell (j := 2) rfl
    have r3 := HR5.out.cell (j := 3) rfl
    have g0 := HR5.out.warm (j := 0) rfl
    have g1 := HR5.out.warm (j := 1) rfl
    have g2 := HR5.out.warm (j := 2) rfl
    have g3 := HR5.out.warm (j := 3) rfl
    go_wp2
    refine bodyPost_ret (v := .agg #[.string kl, .int .i64 3, .int .i64 x, .slice A n c]) (by simp [results, Try.results70, go_sem, r0, r1, r2, r3]) rfl ⟨A, n, c, kl, 3, x, kp, rfl, ⟨hkl, inI64 (by simp) (by simp), inI64 (by simp only; omega) (by simp only; omega), by simp only; omega, hsp⟩, ?_, ?_, ?_⟩
    · refine (OwnS.top (hi := w5.heap.size) ?_).base (show w.heap.size + 1 ≤ w.heap.size + 1 by omega)
      repeat refine OwnS.store ?_ _ (.inl (by simp; try omega))
      exact HO5.out
    · refine cur_low HC5.out ?_
      repeat' refine Below.setCell ?_ ?_ _
      all_goals first | exact Below.refl _ _ | (simp; omega)
    · refine kept_then HK5.out ?_
      repeat' refine Below.setCell ?_ ?_ _
      all_goals first | exact Below.refl _ _ | (simp; done) | (simp; omega)
  · have e0 : (y == 0) = false := beq_eq_false_iff_ne.2 h0
    have e1 : (y == 1) = false := beq_eq_false_iff_ne.2 h1
    go_wp2_with fail
    refine (l1Below_any 50 _ B g HC2.out).mono ?_
    rintro e w3 ⟨v, ⟨x, hx0, hx1, rfl⟩, rfl, hc3, hk3⟩
    have hz3 : w.heap.size + 1 ≤ w3.heap.size := Nat.le_trans hz2 hk3.size
    have hx9 : x ≤ 5000 := by omega
    have HC3 := Lib.hid hc3
    have HK3 := Lib.hid (HK2.out.trans hk3)
    have HR3 := Lib.hid (bxK HR2.out hk3 (by omega))
    clear hc3 hk3 hx1
    go_wp2_with fail
    refine (sValueEntry_any kl x w3 (show InS kl by unfold InS maxLen; omega) (inI64 (by omega) (by omega))).mono ?_
    rintro e w4 ⟨cs, rfl, hown, hb4⟩
    obtain ⟨A, n, c, rfl, _, _, _, ho⟩ := REntry_own.1 hown
    simp only at ho
    have HO4 := Lib.hid (ho.base hz3)
    have HC4 := Lib.hid (HC3.out.below hb4)
    have HK4 := Lib.hid (HK3.out.trans (Kept.of_below hb4))
    have HR4 := Lib.hid (HR3.out.below hb4 (by omega))
    have hz4 : w.heap.size + 1 ≤ w4.heap.size := Nat.le_trans hz3 hb4.size
    clear hown ho hb4
    have r0 := HR4.out.cell (j := 0) rfl
    have r1 := HR4.out.cell (j := 1) rfl
    have r2 := HR4.out.cell (j := 2) rfl
    have r3 := HR4.out.cell (j := 3) rfl
    have g0 := HR4.out.warm (j := 0) rfl
    have g1 := HR4.out.warm (j := 1) rfl
    have g2 := HR4.out.warm (j := 2) rfl
    have g3 := HR4.out.warm (j := 3) rfl
    go_wp2
    refine bodyPost_ret (v := .agg #[.string kl, .int .i64 1, .int .i64 x, .slice A n c]) (by simp [results, Try.results70, go_sem, r0, r1, r2, r3]) rfl ⟨A, n, c, kl, 1, x, [], rfl, ⟨hkl, inI64 (by simp) (by simp), inI64 (by simp only; omega) (by simp only; omega), by simp, by simp⟩, ?_, ?_, ?_⟩
    · refine (OwnS.top (hi := w4.heap.size) ?_).base (show w.heap.size + 1 ≤ w.heap.size + 1 by omega)
      repeat refine OwnS.store ?_ _ (.inl (by simp; try omega))
      exact HO4.out
    · refine cur_low HC4.out ?_
      repeat' refine Below.setCell ?_ ?_ _
      all_goals first | exact Below.refl _ _ | (simp; omega)
    · refine kept_then HK4.out ?_
      repeat' refine Below.setCell ?_ ?_ _
      all_goals first | exact Below.refl _ _ | (simp; done) | (simp; omega)
set_option maxHeartbeats 4000000 in
theorem l8Any_any (w : World) (B g : Nat) (hc : Cur w B g) : Calls Try.prog 44 #[.pointer (some ⟨g, 0, none⟩)] w (DrE B g w) := by
  have hgl := hc.lt
  have HC0 := Lib.hid (hc.alloc (.cells #[.string ⟨#[]⟩, .int .i64 0, .int .i64 0, .slice none 0 0] 27))
  have HK0 := Lib.hid ((Kept.refl g w).alloc (.cells #[.string ⟨#[]⟩, .int .i64 0, .int .i64 0, .slice none 0 0] 27))
  have HR0 := Lib.hid (show Box (w.alloc (.cells #[.string ⟨#[]⟩, .int .i64 0, .int .i64 0, .slice none 0 0] 27)) w.heap.size [.string ⟨#[]⟩, .int .i64 0, .int .i64 0, .slice none 0 0] from by
    have := Box.new w #[.string ⟨#[]⟩, .int .i64 0, .int .i64 0, .slice none 0 0] 27
    simpa using this)
  clear hc
  go_enter Try.func44, Try.ntmps44
  go_wp2_with fail
  refine (l8Entry_any _ B g HC0.out).mono ?_
  rintro e w1 ⟨A, n, c, kl, kk, kv, kp, rfl, hsm, hown, hc1, hk1⟩
  have hz1 : w.heap.size + 1 ≤ w1.heap.size := by have := hk1.size; simpa using this
  have HSM := Lib.hid hsm
  have HC1 := Lib.hid (hc1.alloc (.cells #[.string kl, .int .i64 kk, .int .i64 kv, .slice A n c] 27))
  have HK1 := Lib.hid ((HK0.out.trans hk1).alloc (.cells #[.string kl, .int .i64 kk, .int .i64 kv, .slice A n c] 27))
  have HR1 := Lib.hid ((bxK HR0.out hk1 (by omega)).alloc (.cells #[.string kl, .int .i64 kk, .int .i64 kv, .slice A n c] 27))
  have HX1 := Lib.hid (show Box (w1.alloc (.cells #[.string kl, .int .i64 kk, .int .i64 kv, .slice A n c] 27)) w1.heap.size [.string kl, .int .i64 kk, .int .i64 kv, .slice A n c] from by
    have := Box.new w1 #[.string kl, .int .i64 kk, .int .i64 kv, .slice A n c] 27
    simpa using this)
  have HO1 := Lib.hid ((hown.base (show w.heap.size + 1 ≤ _ by simp)).alloc (.cells #[.string kl, .int .i64 kk, .int .i64 kv, .slice A n c] 27))
  have hgz : g < w1.heap.size := by omega
  clear hc1 hk1 hsm hown
  go_wp2_with fail
  refine (l1Below_any 10 _ B g HC1.out).mono ?_
  rintro e w2 ⟨v, ⟨y, hy0, hy1, rfl⟩, rfl, hc2, hk2⟩
  have hz2 : w1.heap.size + 1 ≤ w2.heap.size := by have := hk2.size; simpa using this
  have HC2 := Lib.hid hc2
  have HK2 := Lib.hid (HK1.out.trans hk2)
  have HR2 := Lib.hid (bxK HR1.out hk2 (by omega))
  have HX2 := Lib.hid (bxK HX1.out hk2 (by omega))
  have HO2 := Lib.hid (ownS_kept HO1.out hk2 (by omega))
  clear hc2 hk2 hy1
  generalize hK : w1.heap.size = K at *
  have HKK := Lib.hid hK
  clear hK
  have hKw : K ≠ w.heap.size := by omega
  have hKw2 : w.heap.size ≠ K := by omega
  have hk2 : K < w2.heap.size := by omega
  have hw2 : w.heap.size < w2.heap.size := by omega
  have hcase : y = 0 ∨ y = 1 ∨ y = 2 ∨ y = 3 ∨ (y ≠ 0 ∧ y ≠ 1 ∧ y ≠ 2 ∧ y ≠ 3) := by omega
  rcases hcase with rfl | rfl | rfl | rfl | ⟨h0, h1, h2, h3⟩
  · go_wp2_with fail
    refine (l1Int_any _ 5 5 (by decide) _ B g (HC2.out.alloc _) (IRow.new (by omega) rfl rfl)).mono ?_
    rintro e w3 ⟨v, ⟨x, hx, rfl⟩, rfl, hc3, hk3⟩
    have hxi : In .i64 x := by have := hx; simp [Lit.wf, IntKind.min, IntKind.max, IntKind.signed, IntKind.bits] at this; exact inI64 this.1 this.2
    have HXI := Lib.hid hxi
    clear hx hxi
    have HX3 := Lib.hid (bxK (HX2.out.alloc _) hk3 (by omega))
    have HR3 := Lib.hid (bxK (HR2.out.alloc _) hk3 (by omega))
    have HO3 := Lib.hid (ownS_kept (HO2.out.alloc _) hk3 (by omega))
    have HC3 := Lib.hid hc3
    have HK3 := Lib.hid (((HK2.out).alloc _).trans hk3)
    have hs3 : w2.heap.size ≤ w3.heap.size := by have := hk3.size; first | omega | (simp at this; omega)
    clear hc3 hk3
    have c0' := HX3.out.cell (j := 0) rfl
    have f0 := HX3.out.warm (j := 0) rfl
    have r0 := HR3.out.cell (j := 0) rfl
    have g0 := HR3.out.warm (j := 0) rfl
    have c1' := HX3.out.cell (j := 1) rfl
    have f1 := HX3.out.warm (j := 1) rfl
    have r1 := HR3.out.cell (j := 1) rfl
    have g1 := HR3.out.warm (j := 1) rfl
    have c2' := HX3.out.cell (j := 2) rfl
    have f2 := HX3.out.warm (j := 2) rfl
    have r2 := HR3.out.cell (j := 2) rfl
    have g2 := HR3.out.warm (j := 2) rfl
    have c3' := HX3.out.cell (j := 3) rfl
    have f3 := HX3.out.warm (j := 3) rfl
    have r3 := HR3.out.cell (j := 3) rfl
    have g3 := HR3.out.warm (j := 3) rfl
    go_wp2
    refine bodyPost_ret (v := .agg #[.string kl, .int .i64 x, .int .i64 kv, .slice A n c]) (by simp [results, Try.results44, go_sem, r0, r1, r2, r3]) rfl ⟨A, n, c, kl, x, kv, kp, rfl, ⟨HSM.out.1, HXI.out, HSM.out.2.2.1, HSM.out.2.2.2.1, HSM.out.2.2.2.2⟩, ?_, ?_, ?_⟩
    · refine (OwnS.top (hi := K) ?_).base (show w.heap.size + 1 ≤ w.heap.size + 1 by omega)
      repeat' refine OwnS.store ?_ _ ?_
      all_goals first | exact HO3.out | (left; simp; done) | (left; simp; omega) | (right; simp; done) | (right; simp; omega)
    · refine cur_low HC3.out ?_
      repeat' refine Below.setCell ?_ ?_ _
      all_goals first | exact Below.refl _ _ | (simp; omega)
    · refine kept_then HK3.out ?_
      repeat' refine Below.setCell ?_ ?_ _
      all_goals first | exact Below.refl _ _ | (simp; done) | (simp; omega)
  · go_wp2_with fail
    refine (l1Int_any _ 5 5 (by decide) _ B g (HC2.out.alloc _) (IRow.new (by omega) rfl rfl)).mono ?_
    rintro e w3 ⟨v, ⟨x, hx, rfl⟩, rfl, hc3, hk3⟩
    have hxi : In .i64 x := by have := hx; simp [Lit.wf, IntKind.min, IntKind.max, IntKind.signed, IntKind.bits] at this; exact inI64 this.1 this.2
    have HXI := Lib.hid hxi
    clear hx hxi
    have HX3 := Lib.hid (bxK (HX2.out.alloc _) hk3 (by omega))
    have HR3 := Lib.hid (bxK (HR2.out.alloc _) hk3 (by omega))
    have HO3 := Lib.hid (ownS_kept (HO2.out.alloc _) hk3 (by omega))
    have HC3 := Lib.hid hc3
    have HK3 := Lib.hid (((HK2.out).alloc _).trans hk3)
    have hs3 : w2.heap.size ≤ w3.heap.size := by have := hk3.size; first | omega | (simp at this; omega)
    clear hc3 hk3
    have c0' := HX3.out.cell (j := 0) rfl
    have f0 := HX3.out.warm (j := 0) rfl
    have r0 := HR3.out.cell (j := 0) rfl
    have g0 := HR3.out.warm (j := 0) rfl
    have c1' := HX3.out.cell (j := 1) rfl
    have f1 := HX3.out.warm (j := 1) rfl
    have r1 := HR3.out.cell (j := 1) rfl
    have g1 := HR3.out.warm (j := 1) rfl
    have c2' := HX3.out.cell (j := 2) rfl
    have f2 := HX3.out.warm (j := 2) rfl
    have r2 := HR3.out.cell (j := 2) rfl
    have g2 := HR3.out.warm (j := 2) rfl
    have c3' := HX3.out.cell (j := 3) rfl
    have f3 := HX3.out.warm (j := 3) rfl
    have r3 := HR3.out.cell (j := 3) rfl
    have g3 := HR3.out.warm (j := 3) rfl
    go_wp2
    refine bodyPost_ret (v := .agg #[.string kl, .int .i64 kk, .int .i64 x, .slice A n c]) (by simp [results, Try.results44, go_sem, r0, r1, r2, r3]) rfl ⟨A, n, c, kl, kk, x, kp, rfl, ⟨HSM.out.1, HSM.out.2.1, HXI.out, HSM.out.2.2.2.1, HSM.out.2.2.2.2⟩, ?_, ?_, ?_⟩
    · refine (OwnS.top (hi := K) ?_).base (show w.heap.size + 1 ≤ w.heap.size + 1 by omega)
      repeat' refine OwnS.store ?_ _ ?_
      all_goals first | exact HO3.out | (left; simp; done) | (left; simp; omega) | (right; simp; done) | (right; simp; omega)
    · refine cur_low HC3.out ?_
      repeat' refine Below.setCell ?_ ?_ _
      all_goals first | exact Below.refl _ _ | (simp; omega)
    · refine kept_then HK3.out ?_
      repeat' refine Below.setCell ?_ ?_ _
      all_goals first | exact Below.refl _ _ | (simp; done) | (simp; omega)
  · go_wp2_with fail
    refine (l4Any_any _ B g HC2.out).mono ?_
    rintro e w3 ⟨v, ⟨s, hs, rfl⟩, rfl, hc3, hk3⟩
    have HX3 := Lib.hid (bxK (HX2.out) hk3 (by omega))
    have HR3 := Lib.hid (bxK (HR2.out) hk3 (by omega))
    have HO3 := Lib.hid (ownS_kept (HO2.out) hk3 (by omega))
    have HC3 := Lib.hid hc3
    have HK3 := Lib.hid (((HK2.out)).trans hk3)
    have hs3 : w2.heap.size ≤ w3.heap.size := by have := hk3.size; first | omega | (simp at this; omega)
    clear hc3 hk3
    have c0' := HX3.out.cell (j := 0) rfl
    have f0 := HX3.out.warm (j := 0) rfl
    have r0 := HR3.out.cell (j := 0) rfl
    have g0 := HR3.out.warm (j := 0) rfl
    have c1' := HX3.out.cell (j := 1) rfl
    have f1 := HX3.out.warm (j := 1) rfl
    have r1 := HR3.out.cell (j := 1) rfl
    have g1 := HR3.out.warm (j := 1) rfl
    have c2' := HX3.out.cell (j := 2) rfl
    have f2 := HX3.out.warm (j := 2) rfl
    have r2 := HR3.out.cell (j := 2) rfl
    have g2 := HR3.out.warm (j := 2) rfl
    have c3' := HX3.out.cell (j := 3) rfl
    have f3 := HX3.out.warm (j := 3) rfl
    have r3 := HR3.out.cell (j := 3) rfl
    have g3 := HR3.out.warm (j := 3) rfl
    go_wp2
    refine bodyPost_ret (v := .agg #[.string s, .int .i64 kk, .int .i64 kv, .slice A n c]) (by simp [results, Try.results44, go_sem, r0, r1, r2, r3]) rfl ⟨A, n, c, s, kk, kv, kp, rfl, ⟨hs, HSM.out.2.1, HSM.out.2.2.1, HSM.out.2.2.2.1, HSM.out.2.2.2.2⟩, ?_, ?_, ?_⟩
    · refine (OwnS.top (hi := K) ?_).base (show w.heap.size + 1 ≤ w.heap.size + 1 by omega)
      repeat' refine OwnS.store ?_ _ ?_
      all_goals first | exact HO3.out | (left; simp; done) | (left; simp; omega) | (right; simp; done) | (right; simp; omega)
    · refine cur_low HC3.out ?_
      repeat' refine Below.setCell ?_ ?_ _
      all_goals first | exact Below.refl _ _ | (simp; omega)
    · refine kept_then HK3.out ?_
      repeat' refine Below.setCell ?_ ?_ _
      all_goals first | exact Below.refl _ _ | (simp; done) | (simp; omega)
  · go_wp2_with fail
    refine (l5Any_any _ B g HC2.out).mono ?_
    rintro e w3 ⟨Ap, np, cp, pp, rfl, hnp, hsp, hop, hc3, hk3⟩
    have HP3 := Lib.hid hop
    have hpl := hop.len
    clear hop
    have HX3 := Lib.hid (bxK (HX2.out) hk3 (by omega))
    have HR3 := Lib.hid (bxK (HR2.out) hk3 (by omega))
    have HO3 := Lib.hid (ownS_kept (HO2.out) hk3 (by omega))
    have HC3 := Lib.hid hc3
    have HK3 := Lib.hid (((HK2.out)).trans hk3)
    have hs3 : w2.heap.size ≤ w3.heap.size := by have := hk3.size; first | omega | (simp at this; omega)
    clear hc3 hk3
    have c0' := HX3.out.cell (j := 0) rfl
    have f0 := HX3.out.warm (j := 0) rfl
    have r0 := HR3.out.cell (j := 0) rfl
    have g0 := HR3.out.warm (j := 0) rfl
    have c1' := HX3.out.cell (j := 1) rfl
    have f1 := HX3.out.warm (j := 1) rfl
    have r1 := HR3.out.cell (j := 1) rfl
    have g1 := HR3.out.warm (j := 1) rfl
    have c2' := HX3.out.cell (j := 2) rfl
    have f2 := HX3.out.warm (j := 2) rfl
    have r2 := HR3.out.cell (j := 2) rfl
    have g2 := HR3.out.warm (j := 2) rfl
    have c3' := HX3.out.cell (j := 3) rfl
    have f3 := HX3.out.warm (j := 3) rfl
    have r3 := HR3.out.cell (j := 3) rfl
    have g3 := HR3.out.warm (j := 3) rfl
    go_wp2
    refine bodyPost_ret (v := .agg #[.string kl, .int .i64 kk, .int .i64 kv, .slice Ap np cp]) (by simp [results, Try.results44, go_sem, r0, r1, r2, r3]) rfl ⟨Ap, np, cp, kl, kk, kv, pp, rfl, ⟨HSM.out.1, HSM.out.2.1, HSM.out.2.2.1, by simp only; omega, hsp⟩, ?_, ?_, ?_⟩
    · refine (OwnS.top (hi := w3.heap.size) ?_).base (show w.heap.size + 1 ≤ w2.heap.size by omega)
      repeat' refine OwnS.store ?_ _ ?_
      all_goals first | exact HP3.out | (left; simp; done) | (left; simp; omega) | (right; simp; done) | (right; simp; omega)
    · refine cur_low HC3.out ?_
      repeat' refine Below.setCell ?_ ?_ _
      all_goals first | exact Below.refl _ _ | (simp; omega)
    · refine kept_then HK3.out ?_
      repeat' refine Below.setCell ?_ ?_ _
      all_goals first | exact Below.refl _ _ | (simp; done) | (simp; omega)
  · have e0 : (y == 0) = false := beq_eq_false_iff_ne.2 h0
    have e1 : (y == 1) = false := beq_eq_false_iff_ne.2 h1
    have e2 : (y == 2) = false := beq_eq_false_iff_ne.2 h2
    have e3 : (y == 3) = false := beq_eq_false_iff_ne.2 h3
    have c0' := HX2.out.cell (j := 0) rfl
    have f0 := HX2.out.warm (j := 0) rfl
    have r0 := HR2.out.cell (j := 0) rfl
    have g0 := HR2.out.warm (j := 0) rfl
    have c1' := HX2.out.cell (j := 1) rfl
    have f1 := HX2.out.warm (j := 1) rfl
    have r1 := HR2.out.cell (j := 1) rfl
    have g1 := HR2.out.warm (j := 1) rfl
    have c2' := HX2.out.cell (j := 2) rfl
    have f2 := HX2.out.warm (j := 2) rfl
    have r2 := HR2.out.cell (j := 2) rfl
    have g2 := HR2.out.warm (j := 2) rfl
    have c3' := HX2.out.cell (j := 3) rfl
    have f3 := HX2.out.warm (j := 3) rfl
    have r3 := HR2.out.cell (j := 3) rfl
    have g3 := HR2.out.warm (j := 3) rfl
    go_wp2
    refine bodyPost_ret (v := .agg #[.string kl, .int .i64 kk, .int .i64 kv, .slice A n c]) (by simp [results, Try.results44, go_sem, r0, r1, r2, r3]) rfl ⟨A, n, c, kl, kk, kv, kp, rfl, ⟨HSM.out.1, HSM.out.2.1, HSM.out.2.2.1, HSM.out.2.2.2.1, HSM.out.2.2.2.2⟩, ?_, ?_, ?_⟩
    · refine (OwnS.top (hi := K) ?_).base (show w.heap.size + 1 ≤ w.heap.size + 1 by omega)
      repeat' refine OwnS.store ?_ _ ?_
      all_goals first | exact HO2.out | (left; simp; done) | (left; simp; omega) | (right; simp; done) | (right; simp; omega)
    · refine cur_low HC2.out ?_
      repeat' refine Below.setCell ?_ ?_ _
      all_goals first | exact Below.refl _ _ | (simp; omega)
    · refine kept_then HK2.out ?_
      repeat' refine Below.setCell ?_ ?_ _
      all_goals first | exact Below.refl _ _ | (simp; done) | (simp; omega)
def DrEE (w : World) (e : Ending) (w' : World) : Prop :=
  ∃ A n c kl kk kv kp A' n' c' kl' kk' kv' kp', e = .returned (.tuple #[.agg #[.string kl, .int .i64 kk, .int .i64 kv, .slice A n c], .agg #[.string kl', .int .i64 kk', .int .i64 kv', .slice A' n' c']]) ∧ SmE ⟨kl, kk, kv, kp⟩ ∧ SmE ⟨kl', kk', kv', kp'⟩ ∧ OwnS w' w.heap.size w'.heap.size A n c kp ∧ OwnS w' w.heap.size w'.heap.size A' n' c' kp' ∧ Below w.heap.size w w'
theorem sm_rd {w : World} {lo : Nat} {A : Option Addr} {n c : Nat} {k : Entry} (h : OwnS w lo w.heap.size A n c k.path) (hk : SmE k) : REntry.rd w (Lt w.heap.size) [.string k.label, .int .i64 k.kind, .int .i64 k.value, .slice A n c] k :=
  REntry_rd.2 ⟨A, n, c, rfl, by have := hk.1; unfold InS maxLen; omega, hk.2.1, hk.2.2.1, h.cap.1, h.cap.2, h.rd⟩
def DrMv (w : World) (e : Ending) (w' : World) : Prop :=
  ∃ s x A n c p, e = .returned (.tuple #[.string s, .int .i64 x, .slice A n c]) ∧ ByteArray.size s ≤ 16 ∧ 0 ≤ x ∧ x ≤ 99 ∧ n ≤ 5 ∧ (∀ s ∈ p, ByteArray.size s ≤ 16) ∧ OwnS w' w.heap.size w'.heap.size A n c p ∧ Below w.heap.size w w'
end Go.Proofs.Ytpjfmbcandgpeaa.D08
