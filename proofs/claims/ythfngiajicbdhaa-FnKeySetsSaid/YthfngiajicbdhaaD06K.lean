/- The drawing functions of chapter 6 that the statement of promise 6 calls. -/
import Derived.Test.YthfngiajicbdhaaD06
namespace Go.Proofs.Ythfngiajicbdhaa.D06K
set_option linter.unusedVariables false
set_option maxRecDepth 100000
open Go.RowKit Mem MemS M02 C01 C02 C02B D01 D02 SL Rep R06 M06 C06S D06
/-- a drawn set of keys and what goes with it -/
def DrK (Q : Value → World → Prop) (w : World) (e : Ending) (w' : World) : Prop :=
  ∃ A n c l nd v, e = .returned (.tuple #[.agg #[.slice A n c, .int .i64 nd], v]) ∧ AnyK l nd ∧ Own .i64 w' w.heap.size w'.heap.size A n c l ∧ Q v w' ∧ Below w.heap.size w w'
def QHasKey (w : World) (v : Value) (w' : World) : Prop := ∃ x : Int, 0 ≤ x ∧ x ≤ 8 ∧ v = .int .i64 x
def QCanSign (w : World) (v : Value) (w' : World) : Prop := ∃ A n c l, v = .slice A n c ∧ n ≤ 5 ∧ Own .i64 w' w.heap.size w'.heap.size A n c l
def DrW (B g : Nat) (Q : World → Value → World → Prop) (w : World) (e : Ending) (w' : World) : Prop := ∃ v, Q w v w' ∧ e = .returned v ∧ Cur w' B g ∧ Kept g w w'
theorem call_HasKey (w : World) (B g : Nat) (hc : Cur w B g) : Calls Try.prog 46 #[.pointer (some ⟨g, 0, none⟩), .int .i64 9] w (DrW B g QHasKey w) :=
  (l1Below_any 9 w B g hc).mono fun e w' ⟨v, ⟨x, h0, h1, h2⟩, h3, h4, h5⟩ => ⟨v, ⟨x, h0, by omega, h2⟩, h3, h4, h5⟩
theorem call_CanSign (w : World) (B g : Nat) (hc : Cur w B g) : Calls Try.prog 45 #[.pointer (some ⟨g, 0, none⟩)] w (DrW B g QCanSign w) :=
  (l6Held_any w B g hc).mono fun e w' ⟨A, n, c, l, h1, h2, h3, h4, h5⟩ => ⟨_, ⟨A, n, c, l, rfl, h2, h3⟩, h1, h4, h5⟩
theorem up_HasKey {w w0 w3 : World} {v : Value} (h : QHasKey w0 v w3) (hw : w.heap.size < w0.heap.size) (u0 u1 : Value) : QHasKey w v ((w3.setCell ⟨w.heap.size, 0, none⟩ u0).setCell ⟨w.heap.size, 1, none⟩ u1) := h
theorem up_CanSign {w w0 w3 : World} {v : Value} (h : QCanSign w0 v w3) (hw : w.heap.size < w0.heap.size) (u0 u1 : Value) : QCanSign w v ((w3.setCell ⟨w.heap.size, 0, none⟩ u0).setCell ⟨w.heap.size, 1, none⟩ u1) := by
  obtain ⟨A, n, c, l, h1, h2, h3⟩ := h
  exact ⟨A, n, c, l, h1, h2, (Own.top (Own.store (Own.store h3 _ (.inl hw)) _ (.inl hw))).base (by omega)⟩
set_option maxHeartbeats 1000000 in
theorem drawHasKey_any (w : World) (A : Option Addr) (n c : Nat) (hn : n ≤ maxLen) (hr : BRow w w.heap.size A n) :
    Calls Try.prog 14 #[.slice A n c] w (DrK (fun v w' => QHasKey w v w') w) := by
  have HR := Lib.hid ((hr.below ((Below.refl w.heap.size w).alloc (Nat.le_refl _) (.cells #[.slice none 0 0, .int .i64 0] 26))).more (show w.heap.size ≤ (w.alloc (.cells #[.slice none 0 0, .int .i64 0] 26)).heap.size by simp))
  have HB0 := Lib.hid ((Below.refl w.heap.size w).alloc (Nat.le_refl _) (.cells #[.slice none 0 0, .int .i64 0] 26))
  have HX0 := Lib.hid (Box.new w #[.slice none 0 0, .int .i64 0] 26)
  clear hr
  go_enter Try.func14, Try.ntmps14
  go_wp2_with fail
  refine (l1New_any _ A n c hn HR.out).mono ?_
  rintro e w1 ⟨g, rfl, hc1, hb1⟩
  have hgB := hc1.1
  have hgl := hc1.lt
  have hwg : w.heap.size < g := by simp at hgB; omega
  have HC1 := Lib.hid hc1
  have HB1 := Lib.hid (HB0.out.trans (hb1.mono (by simp)))
  have HX1 := Lib.hid (HX0.out.below hb1 (by simp))
  clear hc1 hb1
  go_wp2_with fail
  refine (l6Any_any _ _ g HC1.out).mono ?_
  rintro e w2 ⟨A2, n2, c2, l, nd, rfl, hk, hown, hc2, hk2⟩
  have hz2 : w1.heap.size ≤ w2.heap.size := hk2.size
  have HK := Lib.hid hk
  have HO2 := Lib.hid (hown.alloc (.cells #[.slice A2 n2 c2, .int .i64 nd] 26))
  have HC2 := Lib.hid (hc2.alloc (.cells #[.slice A2 n2 c2, .int .i64 nd] 26))
  have HB2 := Lib.hid ((HB1.out.trans (hk2.below (by omega) HB1.out.size)).alloc (by have := HB1.out.size; omega) (.cells #[.slice A2 n2 c2, .int .i64 nd] 26))
  have HX2 := Lib.hid ((box_kept HX1.out hk2 (by omega)).alloc (.cells #[.slice A2 n2 c2, .int .i64 nd] 26))
  have HY2 := Lib.hid (Box.new w2 #[.slice A2 n2 c2, .int .i64 nd] 26)
  have HLO := Lib.hid (show w.heap.size ≤ w1.heap.size + 1 by have := HB1.out.size; omega)
  have HGW := Lib.hid (show g < w1.heap.size + 1 by omega)
  have hw1 : w.heap.size < w1.heap.size := HX1.out.lt
  clear hk hown hc2 hk2
  have hne : w2.heap.size ≠ g := by omega
  have hne1 : w.heap.size ≠ g := by omega
  have hne2 : w2.heap.size ≠ w.heap.size := by omega
  have hne3 : w.heap.size ≠ w2.heap.size := by omega
  have c0 := HY2.out.cell (j := 0) rfl
  have c1 := HY2.out.cell (j := 1) rfl
  generalize hW : w2.alloc (.cells #[.slice A2 n2 c2, .int .i64 nd] 26) = W at HO2 HC2 HB2 HX2 HY2 c0 c1
  have HW := Lib.hid hW
  clear hW
  have HC2d := Lib.hid (HC2.out.below ((Below.refl W.heap.size W).drew))
  have HKd := Lib.hid (Kept.of_below (g := g) (Below.refl W.heap.size W).drew)
  go_wp2_with fail
  rw [HW.out]
  go_region_held3 (fun w' => w'.cell? ⟨w2.heap.size, 0, none⟩ = some (.slice A2 n2 c2) ∧ w'.cell? ⟨w2.heap.size, 1, none⟩ = some (.int .i64 nd)) (go_keep) ((first
    | (go_at_call 46; refine (D06K.call_HasKey _ _ g HC2d.out).mono ?_; rintro e w3 ⟨v, hv, rfl, hc3, hk3⟩; have HV := Lib.hid hv; have HK3 := Lib.hid (HKd.out.trans hk3); have HX3 := Lib.hid (box_kept HX2.out (HKd.out.trans hk3) hne1); have HY3 := Lib.hid (box_kept HY2.out (HKd.out.trans hk3) hne); have HO3 := Lib.hid (own_kept HO2.out (HKd.out.trans hk3) HGW.out); have d0 := HY3.out.cell (j := 0) rfl; have d1 := HY3.out.cell (j := 1) rfl; have r0 := HX3.out.cell (j := 0) rfl; have r1 := HX3.out.cell (j := 1) rfl; have f0 := HX3.out.warm (j := 0) rfl; have f1 := HX3.out.warm (j := 1) rfl; clear hv hc3 hk3)))
  clear c0 c1
  go_wp2
  refine bodyPost_ret (v := .tuple #[.agg #[.slice A2 n2 c2, .int .i64 nd], v]) (by simp [results, Try.results14, go_sem, r0, r1]) rfl ⟨A2, n2, c2, l, nd, v, rfl, HK.out, ?_, ?_, ?_⟩
  · refine (Own.top (hi := w2.heap.size) ?_).base HLO.out
    refine Own.store (Own.store HO3.out _ (.inl ?_)) _ (.inl ?_) <;> simp <;> omega
  · exact up_HasKey HV.out HX2.out.lt _ _
  · refine Below.setCell (Below.setCell (HB2.out.trans (HK3.out.below (by omega) HB2.out.size)) ?_ _) ?_ _ <;> simp
set_option maxHeartbeats 1000000 in
theorem drawCanSign_any (w : World) (A : Option Addr) (n c : Nat) (hn : n ≤ maxLen) (hr : BRow w w.heap.size A n) :
    Calls Try.prog 13 #[.slice A n c] w (DrK (fun v w' => QCanSign w v w') w) := by
  have HR := Lib.hid ((hr.below ((Below.refl w.heap.size w).alloc (Nat.le_refl _) (.cells #[.slice none 0 0, .int .i64 0] 26))).more (show w.heap.size ≤ (w.alloc (.cells #[.slice none 0 0, .int .i64 0] 26)).heap.size by simp))
  have HB0 := Lib.hid ((Below.refl w.heap.size w).alloc (Nat.le_refl _) (.cells #[.slice none 0 0, .int .i64 0] 26))
  have HX0 := Lib.hid (Box.new w #[.slice none 0 0, .int .i64 0] 26)
  clear hr
  go_enter Try.func13, Try.ntmps13
  go_wp2_with fail
  refine (l1New_any _ A n c hn HR.out).mono ?_
  rintro e w1 ⟨g, rfl, hc1, hb1⟩
  have hgB := hc1.1
  have hgl := hc1.lt
  have hwg : w.heap.size < g := by simp at hgB; omega
  have HC1 := Lib.hid hc1
  have HB1 := Lib.hid (HB0.out.trans (hb1.mono (by simp)))
  have HX1 := Lib.hid (HX0.out.below hb1 (by simp))
  clear hc1 hb1
  go_wp2_with fail
  refine (l6Any_any _ _ g HC1.out).mono ?_
  rintro e w2 ⟨A2, n2, c2, l, nd, rfl, hk, hown, hc2, hk2⟩
  have hz2 : w1.heap.size ≤ w2.heap.size := hk2.size
  have HK := Lib.hid hk
  have HO2 := Lib.hid (hown.alloc (.cells #[.slice A2 n2 c2, .int .i64 nd] 26))
  have HC2 := Lib.hid (hc2.alloc (.cells #[.slice A2 n2 c2, .int .i64 nd] 26))
  have HB2 := Lib.hid ((HB1.out.trans (hk2.below (by omega) HB1.out.size)).alloc (by have := HB1.out.size; omega) (.cells #[.slice A2 n2 c2, .int .i64 nd] 26))
  have HX2 := Lib.hid ((box_kept HX1.out hk2 (by omega)).alloc (.cells #[.slice A2 n2 c2, .int .i64 nd] 26))
  have HY2 := Lib.hid (Box.new w2 #[.slice A2 n2 c2, .int .i64 nd] 26)
  have HLO := Lib.hid (show w.heap.size ≤ w1.heap.size + 1 by have := HB1.out.size; omega)
  have HGW := Lib.hid (show g < w1.heap.size + 1 by omega)
  have hw1 : w.heap.size < w1.heap.size := HX1.out.lt
  clear hk hown hc2 hk2
  have hne : w2.heap.size ≠ g := by omega
  have hne1 : w.heap.size ≠ g := by omega
  have hne2 : w2.heap.size ≠ w.heap.size := by omega
  have hne3 : w.heap.size ≠ w2.heap.size := by omega
  have c0 := HY2.out.cell (j := 0) rfl
  have c1 := HY2.out.cell (j := 1) rfl
  generalize hW : w2.alloc (.cells #[.slice A2 n2 c2, .int .i64 nd] 26) = W at HO2 HC2 HB2 HX2 HY2 c0 c1
  have HW := Lib.hid hW
  clear hW
  have HC2d := Lib.hid (HC2.out.below ((Below.refl W.heap.size W).drew))
  have HKd := Lib.hid (Kept.of_below (g := g) (Below.refl W.heap.size W).drew)
  go_wp2_with fail
  rw [HW.out]
  go_region_held3 (fun w' => w'.cell? ⟨w2.heap.size, 0, none⟩ = some (.slice A2 n2 c2) ∧ w'.cell? ⟨w2.heap.size, 1, none⟩ = some (.int .i64 nd)) (go_keep) ((first
    | (go_at_call 45; refine (D06K.call_CanSign _ _ g HC2d.out).mono ?_; rintro e w3 ⟨v, hv, rfl, hc3, hk3⟩; have HV := Lib.hid hv; have HK3 := Lib.hid (HKd.out.trans hk3); have HX3 := Lib.hid (box_kept HX2.out (HKd.out.trans hk3) hne1); have HY3 := Lib.hid (box_kept HY2.out (HKd.out.trans hk3) hne); have HO3 := Lib.hid (own_kept HO2.out (HKd.out.trans hk3) HGW.out); have d0 := HY3.out.cell (j := 0) rfl; have d1 := HY3.out.cell (j := 1) rfl; have r0 := HX3.out.cell (j := 0) rfl; have r1 := HX3.out.cell (j := 1) rfl; have f0 := HX3.out.warm (j := 0) rfl; have f1 := HX3.out.warm (j := 1) rfl; clear hv hc3 hk3)))
  clear c0 c1
  go_wp2
  refine bodyPost_ret (v := .tuple #[.agg #[.slice A2 n2 c2, .int .i64 nd], v]) (by simp [results, Try.results13, go_sem, r0, r1]) rfl ⟨A2, n2, c2, l, nd, v, rfl, HK.out, ?_, ?_, ?_⟩
  · refine (Own.top (hi := w2.heap.size) ?_).base HLO.out
    refine Own.store (Own.store HO3.out _ (.inl ?_)) _ (.inl ?_) <;> simp <;> omega
  · exact up_CanSign HV.out HX2.out.lt _ _
  · refine Below.setCell (Below.setCell (HB2.out.trans (HK3.out.below (by omega) HB2.out.size)) ?_ _) ?_ _ <;> simp
theorem drawOneKey_any (w : World) (A : Option Addr) (n c : Nat) (hn : n ≤ maxLen) (hr : BRow w w.heap.size A n) :
    Calls Try.prog 16 #[.slice A n c] w fun e w' => ∃ x : Int, e = .returned (.int .i64 x) ∧ 0 ≤ x ∧ x ≤ 100 ∧ Below w.heap.size w w' := by
  go_enter Try.func16, Try.ntmps16
  go_wp2_with fail
  refine (l1New_any w A n c hn hr).mono ?_
  rintro e w1 ⟨g, rfl, hc1, hb1⟩
  have hgB := hc1.1
  have HB1 := Lib.hid hb1
  clear hb1
  go_wp2_with fail
  refine (l1Below_any 101 _ _ g hc1).mono ?_
  rintro e w2 ⟨v, ⟨x, h0, h1, rfl⟩, rfl, hc2, hk2⟩
  have HB2 := Lib.hid (HB1.out.trans (hk2.below hgB HB1.out.size))
  have h2 : x ≤ 100 := by omega
  clear hk2 hc2 h1
  go_wp2
  go_ret
  exact ⟨x, rfl, h0, h2, HB2.out⟩
/-- two drawn sets of keys -/
def DrKK (w : World) (e : Ending) (w' : World) : Prop :=
  ∃ A n c l nd A' n' c' l' nd', e = .returned (.tuple #[.agg #[.slice A n c, .int .i64 nd], .agg #[.slice A' n' c', .int .i64 nd']]) ∧ AnyK l nd ∧ AnyK l' nd' ∧ Own .i64 w' w.heap.size w'.heap.size A n c l ∧ Own .i64 w' w.heap.size w'.heap.size A' n' c' l' ∧ Below w.heap.size w w'
set_option maxHeartbeats 1000000 in
theorem drawEqualKeys_any (w : World) (A : Option Addr) (n c : Nat) (hn : n ≤ maxLen) (hr : BRow w w.heap.size A n) :
    Calls Try.prog 12 #[.slice A n c] w (DrKK w) := by
  have HB0 := Lib.hid ((Below.refl w.heap.size w).alloc (Nat.le_refl _) (.cells #[.slice none 0 0, .int .i64 0] 26) |>.alloc (by simp) (.cells #[.slice none 0 0, .int .i64 0] 26))
  generalize hV : (w.alloc (.cells #[.slice none 0 0, .int .i64 0] 26)).alloc (.cells #[.slice none 0 0, .int .i64 0] 26) = V at HB0
  have HR := Lib.hid ((hr.below HB0.out).more HB0.out.size)
  have hVs : V.heap.size = w.heap.size + 2 := by rw [← hV]; simp
  have HX0 := Lib.hid (show Box V w.heap.size [.slice none 0 0, .int .i64 0] by rw [← hV]; exact (Box.new w #[.slice none 0 0, .int .i64 0] 26).alloc _)
  have HZ0 := Lib.hid (show Box V (w.heap.size + 1) [.slice none 0 0, .int .i64 0] by rw [← hV]; have h := Box.new (w.alloc (.cells #[.slice none 0 0, .int .i64 0] 26)) #[.slice none 0 0, .int .i64 0] 26; simpa using h)
  have HV := Lib.hid hV
  have HVs := Lib.hid hVs
  clear hr hV hVs
  go_enter Try.func12, Try.ntmps12
  go_wp2_with fail
  rw [HV.out]
  refine (l1New_any _ A n c hn HR.out).mono ?_
  rintro e w1 ⟨g, rfl, hc1, hb1⟩
  have hgB := hc1.1
  have hgl := hc1.lt
  have hwg : w.heap.size + 1 < g := by have := HVs.out; omega
  have HC1 := Lib.hid hc1
  have HB1 := Lib.hid (HB0.out.trans (hb1.mono HB0.out.size))
  have HX1 := Lib.hid (HX0.out.below hb1 HX0.out.lt)
  have HZ1 := Lib.hid (HZ0.out.below hb1 HZ0.out.lt)
  clear hc1 hb1
  go_wp2_with fail
  refine (l6Any_any _ _ g HC1.out).mono ?_
  rintro e w2 ⟨A2, n2, c2, l, nd, rfl, hk, hown, hc2, hk2⟩
  have hz2 : w1.heap.size ≤ w2.heap.size := hk2.size
  have HK := Lib.hid hk
  have hn2 : n2 ≤ 1099511627776 := by
    have h1 := hown.len
    rcases hk with h | ⟨_, h, _⟩ | ⟨l0, x, h, _, rfl⟩ | ⟨rfl, _⟩
    · have := drawn_len h; omega
    · have := drawn_len h; omega
    · have := drawn_len h; simp at h1; omega
    · simp at h1; omega
  have HO2 := Lib.hid (hown.alloc (.cells #[.slice A2 n2 c2, .int .i64 nd] 26))
  have HC2 := Lib.hid (hc2.alloc (.cells #[.slice A2 n2 c2, .int .i64 nd] 26))
  have HB2 := Lib.hid ((HB1.out.trans (hk2.below (by omega) HB1.out.size)).alloc (by have := HB1.out.size; omega) (.cells #[.slice A2 n2 c2, .int .i64 nd] 26))
  have HX2 := Lib.hid ((box_kept HX1.out hk2 (by omega)).alloc (.cells #[.slice A2 n2 c2, .int .i64 nd] 26))
  have HZ2 := Lib.hid ((box_kept HZ1.out hk2 (by omega)).alloc (.cells #[.slice A2 n2 c2, .int .i64 nd] 26))
  have HY2 := Lib.hid (Box.new w2 #[.slice A2 n2 c2, .int .i64 nd] 26)
  have hw1 : w.heap.size + 1 < w1.heap.size := HZ1.out.lt
  have HGW := Lib.hid (show g < w1.heap.size + 1 by omega)
  clear hk hown hc2 hk2
  go_wp2_with fail
  refine (l1Once_any _ _ _ g HC2.out).mono ?_
  rintro e w3 ⟨v, ⟨t, rfl⟩, rfl, hc3, hk3⟩
  have hz3 : w2.heap.size + 1 ≤ w3.heap.size := by have := hk3.size; simpa using this
  have HC3 := Lib.hid hc3
  have HB3 := Lib.hid (HB2.out.trans (hk3.below (by omega) HB2.out.size))
  have HX3 := Lib.hid (box_kept HX2.out hk3 (by omega))
  have HZ3 := Lib.hid (box_kept HZ2.out hk3 (by omega))
  have HY3 := Lib.hid (box_kept HY2.out hk3 (by omega))
  have HO3 := Lib.hid ((own_kept HO2.out hk3 HGW.out).wide (show w2.heap.size ≤ w3.heap.size by omega))
  clear hc3 hk3
  have hne : w2.heap.size ≠ g := by omega
  have hne1 : w.heap.size ≠ g := by omega
  have hne4 : w.heap.size + 1 ≠ g := by omega
  have hne2 : w2.heap.size ≠ w.heap.size := by omega
  have hne3 : w.heap.size ≠ w2.heap.size := by omega
  have hne5 : w2.heap.size ≠ w.heap.size + 1 := by omega
  have hne6 : w.heap.size + 1 ≠ w2.heap.size := by omega
  have c0 := HY3.out.cell (j := 0) rfl
  have c1 := HY3.out.cell (j := 1) rfl
  cases t
  · have HC3d := Lib.hid (HC3.out.below ((Below.refl w3.heap.size w3).drew))
    have HKd := Lib.hid (Kept.of_below (g := g) (Below.refl w3.heap.size w3).drew)
    go_wp2_with fail
    go_region_held3 (fun w' => w'.cell? ⟨w2.heap.size, 0, none⟩ = some (.slice A2 n2 c2) ∧ w'.cell? ⟨w2.heap.size, 1, none⟩ = some (.int .i64 nd)) (go_keep) ((first
      | (go_at_call 42; refine (l6Any_any _ _ g HC3d.out).mono ?_; rintro e w4 ⟨A4, n4, c4, l4, nd4, rfl, hk4, hown4, hc4, hkk4⟩; have HK4 := Lib.hid hk4; have HKK4 := Lib.hid (HKd.out.trans hkk4); have HX4 := Lib.hid (box_kept HX3.out (HKd.out.trans hkk4) hne1); have HZ4 := Lib.hid (box_kept HZ3.out (HKd.out.trans hkk4) hne4); have HY4 := Lib.hid (box_kept HY3.out (HKd.out.trans hkk4) hne); have HO4 := Lib.hid (own_kept HO3.out (HKd.out.trans hkk4) HGW.out); have HP4 := Lib.hid hown4; have d0 := HY4.out.cell (j := 0) rfl; have d1 := HY4.out.cell (j := 1) rfl; have r0 := HX4.out.cell (j := 0) rfl; have r1 := HX4.out.cell (j := 1) rfl; have f0 := HX4.out.warm (j := 0) rfl; have f1 := HX4.out.warm (j := 1) rfl; have s0 := HZ4.out.cell (j := 0) rfl; have s1 := HZ4.out.cell (j := 1) rfl; have p0 := HZ4.out.warm (j := 0) rfl; have p1 := HZ4.out.warm (j := 1) rfl; clear hk4 hown4 hc4 hkk4)))
    clear c0 c1
    go_wp2
    refine bodyPost_ret (v := .tuple #[.agg #[.slice A2 n2 c2, .int .i64 nd], .agg #[.slice A4 n4 c4, .int .i64 nd4]]) (by simp [results, Try.results12, go_sem, r0, r1, s0, s1]) rfl ⟨A2, n2, c2, l, nd, A4, n4, c4, l4, nd4, rfl, HK.out, HK4.out, ?_, ?_, ?_⟩
    · refine (Own.top (hi := w3.heap.size) ?_).base (show w.heap.size ≤ w1.heap.size + 1 by omega)
      refine Own.store (Own.store (Own.store (Own.store HO4.out _ (.inl ?_)) _ (.inl ?_)) _ (.inl ?_)) _ (.inl ?_) <;> simp <;> omega
    · refine (Own.top (hi := w4.heap.size) ?_).base (show w.heap.size ≤ w3.heap.size + 1 by omega)
      refine Own.store (Own.store (Own.store (Own.store HP4.out _ (.inl ?_)) _ (.inl ?_)) _ (.inl ?_)) _ (.inl ?_) <;> first | exact (show w.heap.size < w3.heap.size + 1 by omega) | exact (show w.heap.size + 1 < w3.heap.size + 1 by omega)
    · refine Below.setCell (Below.setCell (Below.setCell (Below.setCell (HB3.out.trans (HKK4.out.below (by omega) HB3.out.size)) ?_ _) ?_ _) ?_ _) ?_ _ <;> simp
  · have HLc := Lib.hid (l6Copy_any w3.drew A2 n2 c2 l nd (HO3.out.rd.same (w' := w3.drew) ⟨rfl, rfl, rfl, rfl⟩) hn2)
    have HBd := Lib.hid ((Below.refl w3.heap.size w3).drew)
    have hlx : w.heap.size < w3.heap.size := by omega
    have hlz : w.heap.size + 1 < w3.heap.size := by omega
    go_wp2_with fail
    go_region_held3 (fun w' => w'.cell? ⟨w2.heap.size, 0, none⟩ = some (.slice A2 n2 c2) ∧ w'.cell? ⟨w2.heap.size, 1, none⟩ = some (.int .i64 nd)) (go_keep) ((first
      | (go_at_call 44; refine HLc.out.mono ?_; rintro e w4 ⟨A4, c4, rfl, hown4, hb4⟩; have HBB := Lib.hid (HBd.out.trans hb4); have HX4 := Lib.hid (HX3.out.below HBB.out HX3.out.lt); have HZ4 := Lib.hid (HZ3.out.below HBB.out HZ3.out.lt); have HY4 := Lib.hid (HY3.out.below HBB.out HY3.out.lt); have HO4 := Lib.hid (HO3.out.below HBB.out (Nat.le_refl _)); have HP4 := Lib.hid hown4; have d0 := HY4.out.cell (j := 0) rfl; have d1 := HY4.out.cell (j := 1) rfl; have r0 := HX4.out.cell (j := 0) rfl; have r1 := HX4.out.cell (j := 1) rfl; have f0 := HX4.out.warm (j := 0) rfl; have f1 := HX4.out.warm (j := 1) rfl; have s0 := HZ4.out.cell (j := 0) rfl; have s1 := HZ4.out.cell (j := 1) rfl; have p0 := HZ4.out.warm (j := 0) rfl; have p1 := HZ4.out.warm (j := 1) rfl; clear hown4 hb4)))
    clear c0 c1
    go_wp2
    refine bodyPost_ret (v := .tuple #[.agg #[.slice A2 n2 c2, .int .i64 nd], .agg #[.slice A4 n2 c4, .int .i64 nd]]) (by simp [results, Try.results12, go_sem, r0, r1, s0, s1]) rfl ⟨A2, n2, c2, l, nd, A4, n2, c4, l, nd, rfl, HK.out, HK.out, ?_, ?_, ?_⟩
    · refine (Own.top (hi := w3.heap.size) ?_).base (show w.heap.size ≤ w1.heap.size + 1 by omega)
      refine Own.store (Own.store (Own.store (Own.store HO4.out _ (.inl ?_)) _ (.inl ?_)) _ (.inl ?_)) _ (.inl ?_) <;> simp <;> omega
    · refine (Own.top (hi := w4.heap.size) ?_).base (show w.heap.size ≤ w3.heap.size by omega)
      refine Own.store (Own.store (Own.store (Own.store HP4.out _ (.inl ?_)) _ (.inl ?_)) _ (.inl ?_)) _ (.inl ?_) <;> first | exact hlx | exact hlz
    · refine Below.setCell (Below.setCell (Below.setCell (Below.setCell (HB3.out.trans (HBB.out.mono HB3.out.size)) ?_ _) ?_ _) ?_ _) ?_ _ <;> simp
end Go.Proofs.Ythfngiajicbdhaa.D06K
