/- Chapter 11: proofs of presence: what the program's functions return. -/
import Derived.Test.YtbhhifoofapgiaaGreatM11
import Derived.Test.YtbhhifoofapgiaaGreatC10I
import Derived.Test.YtbhhifoofapgiaaGreatC09I
import Derived.Test.YtbhhifoofapgiaaGreatC08I
import Derived.Test.YtbhhifoofapgiaaGreatR11
import Derived.Deep.RegionHeld3
namespace Go.Proofs.YtbhhifoofapgiaaGreat.C11I
open Go.RowKit Mem MemS M02 M03 M05 M08 M09 M10 M10F M10T M11 C01 C02 C03S C03H C03D C08I C09I C10T C10V C10R C10O C10I Rep RW R08 Q08 R11 RKA
set_option linter.unusedVariables false
set_option maxRecDepth 100000
theorem fup {w w' : World} {A : Option Addr} {n : Nat} {l : List Entry} (h : FRdEntry w w.heap.size A n l) (hb : Below w.heap.size w w') : FRdEntry w' w'.heap.size A n l := (Rds.below h hb (Nat.le_refl _)).more hb.size
theorem bcellB {B : Nat} {W w1 : World} (hb : Below B W w1) : (∀ b o, b < B → w1.cell? ⟨b, o, none⟩ = W.cell? ⟨b, o, none⟩) ∧ (∀ b o, b < B → w1.frozen? ⟨b, o, none⟩ = W.frozen? ⟨b, o, none⟩) :=
  ⟨fun b o h => hb.cell (p := ⟨b, o, none⟩) h, fun b o h => hb.frozen (p := ⟨b, o, none⟩) h⟩
/-- the boxed proof -/
def PB (w : World) (g : Nat) (I : Int) (A : Option Addr) (n c : Nat) : Prop := w.heap[g]? = some (.cells #[.int .i64 I, .slice A n c] 32 (0, 0))
section
variable {w w' : World} {g n c lo hi m d : Nat} {I : Int} {A A' A2 : Option Addr} {zs : List Int}
theorem PB.lt (h : PB w g I A n c) : g < w.heap.size := (Array.getElem?_eq_some_iff.1 h).1
theorem PB.c0 (h : PB w g I A n c) : w.cell? ⟨g, 0, none⟩ = some (.int .i64 I) := by
  have h' : w.heap[g]? = _ := h
  simp [World.cell?, h']
theorem PB.c1 (h : PB w g I A n c) : w.cell? ⟨g, 1, none⟩ = some (.slice A n c) := by
  have h' : w.heap[g]? = _ := h
  simp [World.cell?, h']
theorem PB.warm (h : PB w g I A n c) (j : Nat) : w.frozen? ⟨g, j, none⟩ = false := by
  have h' : w.heap[g]? = _ := h
  simp [World.frozen?, h']
theorem PB.below (h : PB w g I A n c) (hb : Below w.heap.size w w') : PB w' g I A n c := (hb.block g h.lt).trans h
theorem PB.alloc (h : PB w g I A n c) (o : Obj) : PB (w.alloc o) g I A n c := (Below.heap_alloc w o g h.lt).trans h
theorem PB.set (h : PB w g I A n c) (A' : Option Addr) (n' c' : Nat) : PB (w.setCell ⟨g, 1, none⟩ (.slice A' n' c')) g I A' n' c' := by
  obtain ⟨hlt, hk⟩ := Array.getElem?_eq_some_iff.1 h
  show (w.heap.modify g _)[g]? = _
  rw [Array.getElem?_eq_getElem (by rw [Array.size_modify]; exact hlt), Array.getElem_modify_self, hk]
  rfl
theorem PB.off (h : PB w g I A n c) (ho : Mem.Own .i64 w lo hi A2 m d zs) : ∀ a, A2 = some a → g ≠ a.block := by
  intro a e hg
  subst hg
  have h' : w.heap[a.block]? = _ := h
  rcases ho.row.2 with ⟨h1, _⟩ | ⟨b, cap, cur, h1, _, h3, _⟩
  · injection h1 with e1
    rw [e1] at e
    cases e
  · injection h1 with e1
    rw [e1] at e
    injection e with e
    subst e
    rw [h'] at h3
    injection h3 with h3
    injection h3 with _ h3
    exact absurd h3 (by decide)
theorem PB.gr (h : PB w g I A n c) (ho : Mem.Own .i64 w lo hi A2 m d zs) (hg : Gr A2 w A' w') : PB w' g I A n c :=
  (hg.1.block g h.lt fun e => by
    rcases A2 with _ | a
    · cases e
    · exact h.off ho a rfl (by simpa using e)).trans h
theorem own_off (ho : Mem.Own .i64 w lo w.heap.size A2 m d zs) (h : PB w g I A n c) (v : Value) : Mem.Own .i64 (w.setCell ⟨g, 1, none⟩ v) lo (w.setCell ⟨g, 1, none⟩ v).heap.size A2 m d zs := by
  have hs : (w.setCell ⟨g, 1, none⟩ v).heap.size = w.heap.size := by simp [World.setCell]
  rw [hs]
  refine ⟨ho.len, ho.wf, ⟨ho.row.1, ?_⟩, ho.hi⟩
  rcases ho.row.2 with hn | ⟨b, cap, cur, h1, h2, h3, r⟩
  · exact .inl hn
  · refine .inr ⟨b, cap, cur, h1, h2, ?_, r⟩
    injection h1 with e1
    exact (Below.heap_setCell w _ v b (fun e => h.off ho _ e1 (by exact e.symm))).trans h3
theorem kp_pb (h : PB w g I A n c) (v : Value) : Kp (fun _ => True) w (w.setCell ⟨g, 1, none⟩ v) := fun b cs _ hb => by
  have h' : w.heap[g]? = _ := h
  refine (Below.heap_setCell w _ v b fun e => ?_).trans hb
  have e' : b = g := e
  subst e'
  rw [h'] at hb
  injection hb with hb
  injection hb with _ hb
  exact absurd hb (by decide)
end
set_option maxHeartbeats 1000000 in
/-- the closure: one neighbour's number more -/
theorem iadd_any (tb sb g lo : Nat) (I sv : Int) (A : Option Addr) (c : Nat) (o : List Int) (w : World)
    (hNB : ∀ w1, Below w.heap.size w w1 → Calls Tryz.prog 87 #[.pointer (some ⟨tb, 0, none⟩)] w1 fun e w' => e = .returned (.pointer (some ⟨sb, 0, none⟩)) ∧ w' = w1)
    (hNUM : ∀ w1, Below w.heap.size w w1 → Calls Tryz.prog 65 #[.pointer (some ⟨sb, 0, none⟩)] w1 fun e w' => e = .returned (.int .i64 sv) ∧ Below w1.heap.size w1 w')
    (hsv : In .i64 sv) (hP : PB w g I A o.length c) (hown : Mem.Own .i64 w lo w.heap.size A o.length c o) (hlo : lo ≤ g) (hol : o.length ≤ 68719476735) :
    Calls Tryz.prog 86 #[.pointer (some ⟨tb, 0, none⟩), .pointer (some ⟨g, 0, none⟩)] w fun e w' => e = .returned (.tuple #[]) ∧ ∃ A' c', PB w' g I A' (o.length + 1) c' ∧ Mem.Own .i64 w' lo w'.heap.size A' (o.length + 1) c' (o ++ [sv]) ∧ Below lo w w' ∧ Kp (fun _ => True) w w' := by
  obtain ⟨W, hW⟩ : ∃ W, W = w.drew := ⟨_, rfl⟩
  have hbW : Below w.heap.size w W := by rw [hW]; exact (Below.refl _ _).drew
  have hsW : W.heap.size = w.heap.size := by rw [hW]; rfl
  have HNB := Lib.hid (fun w1 (hb : Below W.heap.size W w1) => hNB w1 (hbW.trans (by rw [hsW] at hb; exact hb)))
  have HNUM := Lib.hid (fun w1 (hb : Below W.heap.size W w1) => hNUM w1 (hbW.trans (by rw [hsW] at hb; exact hb)))
  have HSV := Lib.hid hsv
  have hgl := hP.lt
  have HP := Lib.hid (hP.below hbW)
  have HO := Lib.hid (hown.below hbW (Nat.le_refl _)).top
  have HX := Lib.hid (hbW.mono (show lo ≤ w.heap.size by omega))
  have HKW := Lib.hid (Kp.below hbW (fun _ => True))
  have hlW : lo ≤ W.heap.size := by omega
  have HW := Lib.hid hW
  clear hNB hNUM hsv hP hown hbW hsW hW hgl
  go_enter Tryz.func86, Tryz.ntmps86
  refine wp_region_any (by kernel_rfl) ?_
  change wpAny _ _ _ _ _ _ _ (World.drew _)
  rw [← HW.out]
  refine wpAny_take (i := 0) (v := .pointer (some ⟨g, 1, none⟩)) rfl (by kernel_rfl) (by kernel_rfl) (by kernel_rfl) (fun _ _ _ h => h) (Or.inl ⟨by rfl, fun w => ?_⟩) ?_
  · go_simp
  refine wpAny_take (i := 2) (v := .pointer (some ⟨tb, 0, none⟩)) rfl (by kernel_rfl) (by kernel_rfl) (by kernel_rfl) (fun _ _ _ h => h) (Or.inl ⟨by rfl, fun w => ?_⟩) ?_
  · go_simp
  refine wpAny_ready (rs := [1, 3]) (by kernel_rfl) (by simp) ?_
  refine AllReady.cons rfl (fun K hK => ?_) ?_
  · have cL := (HP).out.c1
    go_simp
    clear cL
    refine hK _ _ ?_
    clear hK K
    refine wpAny_ready (rs := [3]) (by kernel_rfl) (by simp) ?_
    refine AllReady.cons rfl (fun K hK => ?_) ?_
    · go_simp
      go_at_call 87
      refine (HNB.out W (Below.refl _ _)).mono ?_
      rintro e w1 ⟨rfl, he1⟩
      subst w1
      go_simp
      refine hK _ _ ?_
      clear hK K
      refine wpAny_ready (rs := [4]) (by kernel_rfl) (by simp) ?_
      refine AllReady.cons rfl (fun K hK => ?_) ?_
      · go_simp
        go_at_call 65
        refine (HNUM.out W (Below.refl _ _)).mono ?_
        rintro e w2 ⟨rfl, hb2⟩
        have HP2 := Lib.hid (HP.out.below hb2)
        have HO2 := Lib.hid (HO.out.below hb2 (Nat.le_refl _)).top
        have HX2 := Lib.hid (HX.out.trans (hb2.mono (show lo ≤ W.heap.size by have := HP.out.lt; omega)))
        have HK2 := Lib.hid (HKW.out.trans (Kp.below hb2 (fun _ => True)))
        have hs2 := hb2.size
        clear hb2
        go_simp
        refine hK _ _ ?_
        clear hK K
        refine wpAny_ready (rs := [5]) (by kernel_rfl) (by simp) ?_
        refine AllReady.cons rfl (fun K hK => ?_) ?_
        · go_simp
          have HP3 := Lib.hid (HP2.out.alloc (.cells #[.int .i64 sv] 3))
          have HO3 := Lib.hid (HO2.out.alloc (.cells #[.int .i64 sv] 3))
          refine hK _ _ ?_
          clear hK K
          refine wpAny_ready (rs := [6]) (by kernel_rfl) (by simp) ?_
          refine AllReady.cons rfl (fun K hK => ?_) ?_
          · refine step_app (k := .i64) (B := w2.heap.size + 1) (zs := o) (ys := [sv]) (by unfold BI; decide) rfl (.tmp 4) (.tmp 8) rfl rfl HO3.out rfl (rd_new .i64 w2 HSV.out) (by omega) (by rw [World.size_alloc]; have := HP2.out.lt; omega) ?_
            intro A4 c4 w4 hown4 hgr4
            have HP4 := Lib.hid (HP3.out.gr HO3.out hgr4)
            have HX4 := Lib.hid ((HX2.out.alloc (by have := HP2.out.lt; omega) (.cells #[.int .i64 sv] 3)).trans (hgr4.below (by rw [World.size_alloc]; have := HP2.out.lt; omega) HO3.out.ge))
            have HK4 := Lib.hid ((HK2.out.trans (Kp.below ((Below.refl _ _).alloc (Nat.le_refl _) (.cells #[.int .i64 sv] 3)) (fun _ => True))).trans (kp_gr HO3.out hgr4 (fun _ => True)))
            have HO4 := Lib.hid hown4
            clear hown4 hgr4
            refine hK _ _ ?_
            clear hK K
            refine wpAny_ready (rs := [7]) (by kernel_rfl) (by simp) ?_
            refine AllReady.cons rfl (fun K hK => ?_) ?_
            · go_simp
              refine hK _ _ ?_
              clear hK K
              refine wpAny_ready (rs := [8]) (by kernel_rfl) (by simp) ?_
              refine AllReady.cons rfl (fun K hK => ?_) ?_
              · have cS := HP4.out.c1
                have fS := HP4.out.warm 1
                go_simp
                clear cS fS
                refine hK _ _ ?_
                clear hK K
                refine wpAny_done (by kernel_rfl) ?_ _
                go_wp2
                go_end0
                exact ⟨rfl, A4, c4, HP4.out.set A4 (o.length + 1) c4, own_off HO4.out HP4.out _, HX4.out.setCell (p := ⟨g, 1, none⟩) hlo _, HK4.out.trans (kp_pb HP4.out _)⟩
              exact AllReady.nil
            exact AllReady.nil
          exact AllReady.nil
        exact AllReady.nil
      exact AllReady.nil
    exact AllReady.nil
  refine AllReady.cons rfl (fun K hK => ?_) ?_
  · go_simp
    go_at_call 87
    refine (HNB.out W (Below.refl _ _)).mono ?_
    rintro e w1 ⟨rfl, he1⟩
    subst w1
    go_simp
    refine hK _ _ ?_
    clear hK K
    refine wpAny_ready (rs := [1, 4]) (by kernel_rfl) (by simp) ?_
    refine AllReady.cons rfl (fun K hK => ?_) ?_
    · have cL := (HP).out.c1
      go_simp
      clear cL
      refine hK _ _ ?_
      clear hK K
      refine wpAny_ready (rs := [4]) (by kernel_rfl) (by simp) ?_
      refine AllReady.cons rfl (fun K hK => ?_) ?_
      · go_simp
        go_at_call 65
        refine (HNUM.out W (Below.refl _ _)).mono ?_
        rintro e w2 ⟨rfl, hb2⟩
        have HP2 := Lib.hid (HP.out.below hb2)
        have HO2 := Lib.hid (HO.out.below hb2 (Nat.le_refl _)).top
        have HX2 := Lib.hid (HX.out.trans (hb2.mono (show lo ≤ W.heap.size by have := HP.out.lt; omega)))
        have HK2 := Lib.hid (HKW.out.trans (Kp.below hb2 (fun _ => True)))
        have hs2 := hb2.size
        clear hb2
        go_simp
        refine hK _ _ ?_
        clear hK K
        refine wpAny_ready (rs := [5]) (by kernel_rfl) (by simp) ?_
        refine AllReady.cons rfl (fun K hK => ?_) ?_
        · go_simp
          have HP3 := Lib.hid (HP2.out.alloc (.cells #[.int .i64 sv] 3))
          have HO3 := Lib.hid (HO2.out.alloc (.cells #[.int .i64 sv] 3))
          refine hK _ _ ?_
          clear hK K
          refine wpAny_ready (rs := [6]) (by kernel_rfl) (by simp) ?_
          refine AllReady.cons rfl (fun K hK => ?_) ?_
          · refine step_app (k := .i64) (B := w2.heap.size + 1) (zs := o) (ys := [sv]) (by unfold BI; decide) rfl (.tmp 4) (.tmp 8) rfl rfl HO3.out rfl (rd_new .i64 w2 HSV.out) (by omega) (by rw [World.size_alloc]; have := HP2.out.lt; omega) ?_
            intro A4 c4 w4 hown4 hgr4
            have HP4 := Lib.hid (HP3.out.gr HO3.out hgr4)
            have HX4 := Lib.hid ((HX2.out.alloc (by have := HP2.out.lt; omega) (.cells #[.int .i64 sv] 3)).trans (hgr4.below (by rw [World.size_alloc]; have := HP2.out.lt; omega) HO3.out.ge))
            have HK4 := Lib.hid ((HK2.out.trans (Kp.below ((Below.refl _ _).alloc (Nat.le_refl _) (.cells #[.int .i64 sv] 3)) (fun _ => True))).trans (kp_gr HO3.out hgr4 (fun _ => True)))
            have HO4 := Lib.hid hown4
            clear hown4 hgr4
            refine hK _ _ ?_
            clear hK K
            refine wpAny_ready (rs := [7]) (by kernel_rfl) (by simp) ?_
            refine AllReady.cons rfl (fun K hK => ?_) ?_
            · go_simp
              refine hK _ _ ?_
              clear hK K
              refine wpAny_ready (rs := [8]) (by kernel_rfl) (by simp) ?_
              refine AllReady.cons rfl (fun K hK => ?_) ?_
              · have cS := HP4.out.c1
                have fS := HP4.out.warm 1
                go_simp
                clear cS fS
                refine hK _ _ ?_
                clear hK K
                refine wpAny_done (by kernel_rfl) ?_ _
                go_wp2
                go_end0
                exact ⟨rfl, A4, c4, HP4.out.set A4 (o.length + 1) c4, own_off HO4.out HP4.out _, HX4.out.setCell (p := ⟨g, 1, none⟩) hlo _, HK4.out.trans (kp_pb HP4.out _)⟩
              exact AllReady.nil
            exact AllReady.nil
          exact AllReady.nil
        exact AllReady.nil
      exact AllReady.nil
    refine AllReady.cons rfl (fun K hK => ?_) ?_
    · go_simp
      go_at_call 65
      refine (HNUM.out W (Below.refl _ _)).mono ?_
      rintro e w2 ⟨rfl, hb2⟩
      have HP2 := Lib.hid (HP.out.below hb2)
      have HO2 := Lib.hid (HO.out.below hb2 (Nat.le_refl _)).top
      have HX2 := Lib.hid (HX.out.trans (hb2.mono (show lo ≤ W.heap.size by have := HP.out.lt; omega)))
      have HK2 := Lib.hid (HKW.out.trans (Kp.below hb2 (fun _ => True)))
      have hs2 := hb2.size
      clear hb2
      go_simp
      refine hK _ _ ?_
      clear hK K
      refine wpAny_ready (rs := [1, 5]) (by kernel_rfl) (by simp) ?_
      refine AllReady.cons rfl (fun K hK => ?_) ?_
      · have cL := (HP2).out.c1
        go_simp
        clear cL
        refine hK _ _ ?_
        clear hK K
        refine wpAny_ready (rs := [5]) (by kernel_rfl) (by simp) ?_
        refine AllReady.cons rfl (fun K hK => ?_) ?_
        · go_simp
          have HP3 := Lib.hid (HP2.out.alloc (.cells #[.int .i64 sv] 3))
          have HO3 := Lib.hid (HO2.out.alloc (.cells #[.int .i64 sv] 3))
          refine hK _ _ ?_
          clear hK K
          refine wpAny_ready (rs := [6]) (by kernel_rfl) (by simp) ?_
          refine AllReady.cons rfl (fun K hK => ?_) ?_
          · refine step_app (k := .i64) (B := w2.heap.size + 1) (zs := o) (ys := [sv]) (by unfold BI; decide) rfl (.tmp 4) (.tmp 8) rfl rfl HO3.out rfl (rd_new .i64 w2 HSV.out) (by omega) (by rw [World.size_alloc]; have := HP2.out.lt; omega) ?_
            intro A4 c4 w4 hown4 hgr4
            have HP4 := Lib.hid (HP3.out.gr HO3.out hgr4)
            have HX4 := Lib.hid ((HX2.out.alloc (by have := HP2.out.lt; omega) (.cells #[.int .i64 sv] 3)).trans (hgr4.below (by rw [World.size_alloc]; have := HP2.out.lt; omega) HO3.out.ge))
            have HK4 := Lib.hid ((HK2.out.trans (Kp.below ((Below.refl _ _).alloc (Nat.le_refl _) (.cells #[.int .i64 sv] 3)) (fun _ => True))).trans (kp_gr HO3.out hgr4 (fun _ => True)))
            have HO4 := Lib.hid hown4
            clear hown4 hgr4
            refine hK _ _ ?_
            clear hK K
            refine wpAny_ready (rs := [7]) (by kernel_rfl) (by simp) ?_
            refine AllReady.cons rfl (fun K hK => ?_) ?_
            · go_simp
              refine hK _ _ ?_
              clear hK K
              refine wpAny_ready (rs := [8]) (by kernel_rfl) (by simp) ?_
              refine AllReady.cons rfl (fun K hK => ?_) ?_
              · have cS := HP4.out.c1
                have fS := HP4.out.warm 1
                go_simp
                clear cS fS
                refine hK _ _ ?_
                clear hK K
                refine wpAny_done (by kernel_rfl) ?_ _
                go_wp2
                go_end0
                exact ⟨rfl, A4, c4, HP4.out.set A4 (o.length + 1) c4, own_off HO4.out HP4.out _, HX4.out.setCell (p := ⟨g, 1, none⟩) hlo _, HK4.out.trans (kp_pb HP4.out _)⟩
              exact AllReady.nil
            exact AllReady.nil
          exact AllReady.nil
        exact AllReady.nil
      refine AllReady.cons rfl (fun K hK => ?_) ?_
      · go_simp
        have HP3 := Lib.hid (HP2.out.alloc (.cells #[.int .i64 sv] 3))
        have HO3 := Lib.hid (HO2.out.alloc (.cells #[.int .i64 sv] 3))
        refine hK _ _ ?_
        clear hK K
        refine wpAny_ready (rs := [1]) (by kernel_rfl) (by simp) ?_
        refine AllReady.cons rfl (fun K hK => ?_) ?_
        · have cL := (HP3).out.c1
          go_simp
          clear cL
          refine hK _ _ ?_
          clear hK K
          refine wpAny_ready (rs := [6]) (by kernel_rfl) (by simp) ?_
          refine AllReady.cons rfl (fun K hK => ?_) ?_
          · refine step_app (k := .i64) (B := w2.heap.size + 1) (zs := o) (ys := [sv]) (by unfold BI; decide) rfl (.tmp 4) (.tmp 8) rfl rfl HO3.out rfl (rd_new .i64 w2 HSV.out) (by omega) (by rw [World.size_alloc]; have := HP2.out.lt; omega) ?_
            intro A4 c4 w4 hown4 hgr4
            have HP4 := Lib.hid (HP3.out.gr HO3.out hgr4)
            have HX4 := Lib.hid ((HX2.out.alloc (by have := HP2.out.lt; omega) (.cells #[.int .i64 sv] 3)).trans (hgr4.below (by rw [World.size_alloc]; have := HP2.out.lt; omega) HO3.out.ge))
            have HK4 := Lib.hid ((HK2.out.trans (Kp.below ((Below.refl _ _).alloc (Nat.le_refl _) (.cells #[.int .i64 sv] 3)) (fun _ => True))).trans (kp_gr HO3.out hgr4 (fun _ => True)))
            have HO4 := Lib.hid hown4
            clear hown4 hgr4
            refine hK _ _ ?_
            clear hK K
            refine wpAny_ready (rs := [7]) (by kernel_rfl) (by simp) ?_
            refine AllReady.cons rfl (fun K hK => ?_) ?_
            · go_simp
              refine hK _ _ ?_
              clear hK K
              refine wpAny_ready (rs := [8]) (by kernel_rfl) (by simp) ?_
              refine AllReady.cons rfl (fun K hK => ?_) ?_
              · have cS := HP4.out.c1
                have fS := HP4.out.warm 1
                go_simp
                clear cS fS
                refine hK _ _ ?_
                clear hK K
                refine wpAny_done (by kernel_rfl) ?_ _
                go_wp2
                go_end0
                exact ⟨rfl, A4, c4, HP4.out.set A4 (o.length + 1) c4, own_off HO4.out HP4.out _, HX4.out.setCell (p := ⟨g, 1, none⟩) hlo _, HK4.out.trans (kp_pb HP4.out _)⟩
              exact AllReady.nil
            exact AllReady.nil
          exact AllReady.nil
        exact AllReady.nil
      exact AllReady.nil
    exact AllReady.nil
  exact AllReady.nil
set_option maxHeartbeats 1000000 in
/-- all levels -/
theorem ivisit_any (Ts : List T) (k0 : Nat) (t0 : T) (g lo : Nat) (I : Int) (l : List Int) (A : Option Addr) (c : Nat) (w : World) (hlv : Lv w Ts) (hk0 : Ts[k0]? = some t0) (hl : pathW (vals Ts) k0 = l)
    (hP : PB w g I A 0 c) (hown : Mem.Own .i64 w lo w.heap.size A 0 c []) (hlo : lo ≤ g) (hn : l.length ≤ 68719476735) :
    Calls Tryz.prog 85 #[.pointer (some ⟨t0.b, 0, none⟩), .func (.func 86) #[] #[.pointer (some ⟨g, 0, none⟩)]] w fun e w' => e = .returned (.tuple #[]) ∧ ∃ A' c', PB w' g I A' l.length c' ∧ Mem.Own .i64 w' lo w'.heap.size A' l.length c' l ∧ Below lo w w' := by
  have HLV := Lib.hid hlv
  have HK0 := Lib.hid hk0
  have HL := Lib.hid hl
  have HP := Lib.hid hP
  have HO := Lib.hid hown
  clear hlv hk0 hl hP hown
  go_enter Tryz.func85, Tryz.ntmps85
  go_wp2
  go_loopw [4] (fun v wr => ∃ (Us : List T) (k : Nat) (t : T) (o : List Int) (A1 : Option Addr) (c1 : Nat), v = .pointer (some ⟨T.b t, 0, none⟩) ∧ Lv w Us ∧ Us[k]? = some t ∧ o ++ pathW (vals Us) k = l ∧ PB wr g I A1 o.length c1 ∧ Mem.Own .i64 wr lo wr.heap.size A1 o.length c1 o ∧ Below lo w wr ∧ Kp (fun _ => True) w wr) (fun v _ => w.heap.size - blkOf v)
  case atStart => exact ⟨Ts, k0, t0, [], A, c, rfl, HLV.out, HK0.out, HL.out, HP.out, HO.out, Below.refl _ _, fun _ _ _ h => h⟩
  case round =>
    obtain ⟨Us, k, t, o, A1, c1, rfl, hlv, hk, hp, hpb, hown, hbel, hkp⟩ := hrel
    have HPB := Lib.hid hpb
    have HOW := Lib.hid hown
    have HX := Lib.hid hbel
    have HKP := Lib.hid hkp
    rcases hlv.step k t hk with ⟨i1, i2, i3, i4⟩ | ⟨b, L, R, a, Vs, k', i1, i2, i3, i4, i5, i6⟩
    · obtain ⟨⟨x, ll, rr, hn1⟩, _⟩ := i1.root
      obtain ⟨_, _, _, c3⟩ := (hkp.nd hn1 trivial).cells
      rw [pv_none] at c3
      rw [i2, List.append_nil] at hp
      have HPP := Lib.hid hp
      clear hn1 i1 i2 i3 i4 hp hk hlv hpb hown hbel hkp
      go_wp2
      go_end0
      exact ⟨rfl, A1, c1, by rw [← HPP.out]; exact HPB.out, by rw [← HPP.out]; exact HOW.out, HX.out⟩
    · have hu : IsT w t (some b) := by
        rcases i6 with ⟨rfl, _⟩ | ⟨rfl, _⟩
        · exact i1.2.2.2.1
        · exact i1.2.2.2.2
      obtain ⟨⟨x, ll, rr, hn1⟩, hlt⟩ := hu.root
      have hlt := hlt b rfl
      have hsz := i1.1.lt
      obtain ⟨_, _, _, c3⟩ := (hkp.nd hn1 trivial).cells
      rw [pv_some] at c3
      obtain ⟨⟨xL, lL, rL, hnL⟩, _⟩ := i1.2.2.2.1.root
      obtain ⟨S, hS1, hS2, hS3⟩ : ∃ S : T, (if t.b = L.b then R.b else L.b) = S.b ∧ IsT w S (some b) ∧ pathW (vals Us) k = S.val :: pathW (vals Vs) k' := by
        rcases i6 with ⟨rfl, j1, j2⟩ | ⟨rfl, j0, j1, j2⟩
        · exact ⟨R, if_pos rfl, i1.2.2.2.2, j1⟩
        · exact ⟨L, if_neg (fun e => j0 e.symm), i1.2.2.2.1, j1⟩
      rw [hS3] at hp
      have hol : o.length ≤ 68719476735 := by
        have := congrArg List.length hp
        simp only [List.length_append, List.length_cons] at this
        omega
      have HADD := Lib.hid (iadd_any t.b S.b g lo I S.val A1 c1 o wr (fun w1 hb => by
        have hk1 := hkp.trans (Kp.below hb (fun _ => True))
        have := ineighbour_any t.b b L.b R.b w1 (hk1.nd hn1 trivial) (hk1.nd i1.1 trivial) (hk1.nd hnL trivial)
        rw [hS1] at this
        exact this) (fun w1 hb => inumber_any S _ w1 (hS2.keep ((hkp.trans (Kp.below hb (fun _ => True))).mono fun _ _ => trivial))) (val_in hS2) hpb hown hlo hol)
      have HP2 := Lib.hid (show (o ++ [S.val]) ++ pathW (vals Vs) k' = l from by rw [List.append_assoc]; exact hp)
      have H2 := Lib.hid i2
      have H3 := Lib.hid i3
      have HN1 := Lib.hid hn1
      clear hS1 hS2 hS3 i1 i2 i3 i4 i5 i6 hu hnL hn1 hp hk hlv hpb hown hbel hkp hol
      generalize S.val = sv at *
      generalize S.b = sb at *
      generalize htb : T.b t = tb at *
      clear htb
      go_wp2_with fail
      refine HADD.out.mono ?_
      rintro e w4 ⟨rfl, A4, c4, hp4, ho4, hb4, hk4⟩
      have HP4 := Lib.hid hp4
      have HO4 := Lib.hid ho4
      have HX4 := Lib.hid (HX.out.trans hb4)
      have HK4 := Lib.hid (HKP.out.trans hk4)
      have c6 : w4.cell? ⟨tb, 3, none⟩ = some (.pointer (some ⟨b, 0, none⟩)) := (HK4.out.nd HN1.out trivial).cells.2.2.2
      clear hp4 ho4 hb4 hk4 c3
      go_wp2
      go_roundw
      case rel => exact ⟨Vs, k', .node b L R, o ++ [sv], A4, c4, rfl, H2.out, H3.out, HP2.out, by rw [List.length_append]; exact HP4.out, by rw [List.length_append]; exact HO4.out, HX4.out, HK4.out⟩
      case measure => simp [blkOf]; omega
theorem iFind_b (A : Option Addr) (n c : Nat) (l : List Entry) (s : ByteArray) (w : World) (h : FRdEntry w w.heap.size A n l) (hn : n ≤ 1099511627776) :
    Calls Tryz.prog 17 #[.slice A n c, .string s] w fun e w' => e = .returned (.int .i64 (fndE l s)) ∧ Below w.heap.size w w' := iFindEntry_any A n c l s w h hn
set_option maxHeartbeats 2000000 in
theorem iProveEntry_any (A : Option Addr) (n c : Nat) (l : List Entry) (s : ByteArray) (w : World) (h : FRdEntry w w.heap.size A n l) (hn : totR totEntry l ≤ 1048576) :
    Calls Tryz.prog 54 #[.slice A n c, .string s] w fun e w' => ∃ cs, e = .returned (.tuple #[.agg (List.toArray cs), .bool (proveE l s).2]) ∧ OwnI RProof w' w.heap.size w'.heap.size cs (proveE l s).1 ∧ Below w.heap.size w w' := by
  have hl := h.len
  have hn2 : n ≤ 1048576 := by have := totR_len totEntry l; omega
  have hfr : fndE l s < 0 ∨ (0 ≤ fndE l s ∧ fndE l s < (n : Int)) := by
    rcases fndE_cases l s with ⟨q, _⟩ | ⟨j, hj, q, _⟩
    · exact .inl (by omega)
    · exact .inr (by omega)
  have HR := Lib.hid h
  have HN := Lib.hid hn
  have HF := Lib.hid (fun w1 (hb : Below w.heap.size w w1) => iFind_b A n c l s w1 (fup h hb) (by omega))
  by_cases hk : fndE l s < 0
  · rw [proveE_no hk]
    generalize fndE l s = k at *
    clear h hn hl
    go_enter Tryz.func54, Tryz.ntmps54
    go_wp2_with fail
    refine (HF.out _ ((Below.refl _ _).alloc (Nat.le_refl _) _)).mono ?_
    rintro e w1 ⟨rfl, hb⟩
    have HB := Lib.hid (((Below.refl w.heap.size w).alloc (Nat.le_refl _) _).trans (hb.mono (by simp)))
    obtain ⟨hc, hf⟩ := bcell hb
    clear hb
    go_wp2
    refine bodyPost_ret (v := .tuple #[.agg #[.int .i64 0, .slice none 0 0], .bool false]) (by simp [results, Tryz.results54, go_sem, hc]) rfl ⟨[.int .i64 0, .slice none 0 0], rfl, ?_, ?_⟩
    · exact RProof_own.2 ⟨none, 0, 0, rfl, inI64 (by simp) (by simp), Mem.Own.nil _ _ _ _⟩
    · repeat' refine Below.setCell ?_ ?_ _
      all_goals first | exact HB.out | (simp; done) | (simp; omega)
  · rw [proveE_yes hk]
    rcases hfr with hfr | ⟨hf0, hf1⟩
    · exact absurd hfr hk
    obtain ⟨lv, hlv⟩ : ∃ lv, lv = leavesE l := ⟨_, rfl⟩
    have hll : lv.length = n := by rw [hlv, leavesE_len]; exact hl
    have HLV := Lib.hid (fun w1 (hb : Below w.heap.size w w1) => iLeavesOf_any A n c l w1 (fup h hb) hn)
    rw [← hlv] at HLV ⊢
    generalize fndE l s = k at *
    obtain ⟨K, rfl⟩ : ∃ K : Nat, k = K := ⟨k.toNat, by omega⟩
    obtain ⟨pf, hpf⟩ : ∃ pf, pf = pathFor lv (K : Int) := ⟨_, rfl⟩
    have hpw : pathW lv K = pf := by rw [hpf]; unfold pathFor; rw [hll, show inR (K : Int) 0 ((n : Int) - 1) = true from by unfold inR; simp; omega]; simp
    have hpl := pathFor_len lv (K : Int)
    rw [← hpf, hll] at hpl
    rw [← hpf]
    have HPW := Lib.hid hpw
    have HLL := Lib.hid hll
    have HPF := Lib.hid hpl
    have hKn : K < n := by omega
    have hKI : (K : Int) < n := by omega
    clear h hn hl hlv hpl hll hpf hpw hk hf0 hf1
    go_enter Tryz.func54, Tryz.ntmps54
    go_wp2_with fail
    refine (HF.out _ ((Below.refl _ _).alloc (Nat.le_refl _) (.cells #[.int .i64 0, .slice none 0 0] 32))).mono ?_
    rintro e w1 ⟨rfl, hb⟩
    have hs1 := hb.size
    simp only [World.size_alloc] at hs1
    have HZ1 := Lib.hid ((Box.new w #[.int .i64 0, .slice none 0 0] 32).below hb (by simp))
    have HB1 := Lib.hid (((Below.refl w.heap.size w).alloc (Nat.le_refl _) (.cells #[.int .i64 0, .slice none 0 0] 32)).trans (hb.mono (by simp)))
    clear hb
    obtain ⟨W, hW⟩ : ∃ W, W = (w1.alloc (.cells #[] 3)).alloc (.cells #[.int .i64 K, .slice (some ⟨w1.heap.size, 0, none⟩) 0 0] 32) := ⟨_, rfl⟩
    have hsW : W.heap.size = w1.heap.size + 2 := by rw [hW]; simp
    have HPB := Lib.hid (show PB W (w1.heap.size + 1) K (some ⟨w1.heap.size, 0, none⟩) 0 0 from by
      rw [hW]
      have := heap_alloc_new (w1.alloc (.cells #[] 3)) (.cells #[.int .i64 K, .slice (some ⟨w1.heap.size, 0, none⟩) 0 0] 32)
      rw [World.size_alloc] at this
      exact this)
    have HO := Lib.hid (show Mem.Own .i64 W w1.heap.size (w1.heap.size + 1) (some ⟨w1.heap.size, 0, none⟩) 0 0 [] from by
      rw [hW]
      exact (Mem.Own.lit0 .i64 (lo := w1.heap.size) w1 (Nat.le_refl _)).alloc _)
    have HBW := Lib.hid (show Below w.heap.size w W from by
      rw [hW]
      exact (HB1.out.alloc (by omega) _).alloc (by simp; omega) _)
    have HZW := Lib.hid (show Box W w.heap.size [.int .i64 0, .slice none 0 0] from by
      rw [hW]
      exact (HZ1.out.alloc _).alloc _)
    have HWW := Lib.hid hW
    clear hW
    go_wp2_with fail
    try rw [← HWW.out]
    refine (HLV.out W HBW.out).mono ?_
    rintro e w2 ⟨A2, c2, rfl, ho2, hb2⟩
    have HT := Lib.hid (itreeOver_any A2 n c2 lv w2 ho2.rd (by omega))
    have HB2 := Lib.hid (HBW.out.trans (hb2.mono HBW.out.size))
    have HZ2 := Lib.hid (HZW.out.below hb2 HZW.out.lt)
    have HPB2 := Lib.hid (HPB.out.below hb2)
    have HO2 := Lib.hid (HO.out.below hb2 (by omega))
    have hs2 := hb2.size
    clear hb2 ho2
    go_wp2_with fail
    refine HT.out.mono ?_
    rintro e w3 ⟨A3, c3, Ts, rfl, hv, hrow, hlv, hb3⟩
    have htl : Ts.length = n := by rw [← vals_len, hv, HLL.out]
    obtain ⟨gr, rfl, hgc, -, hget⟩ := hrow.get (by omega)
    obtain ⟨t0, ht0⟩ : ∃ t, Ts[K]? = some t := ⟨_, List.getElem?_eq_getElem (by omega)⟩
    have d0 : w3.cell? ⟨gr, K, none⟩ = some (.pointer (some ⟨t0.b, 0, none⟩)) := hget K t0.b (by unfold heads; rw [List.getElem?_map, ht0]; rfl)
    have HB3 := Lib.hid (HB2.out.trans (hb3.mono HB2.out.size))
    have HZ3 := Lib.hid (HZ2.out.below hb3 HZ2.out.lt)
    have HVIS := Lib.hid (ivisit_any Ts K t0 (w1.heap.size + 1) w1.heap.size K pf (some ⟨w1.heap.size, 0, none⟩) 0 w3 hlv ht0 (by rw [hv]; exact HPW.out) (HPB2.out.below hb3) (HO2.out.below hb3 (by omega)).top (by omega) (by have := HPF.out; omega))
    have hs3 := hb3.size
    clear hv hrow hlv hb3 hget htl ht0 hgc HT
    generalize T.b t0 = tb at *
    go_wp2_with fail
    refine HVIS.out.mono ?_
    rintro e w4 ⟨rfl, A4, c4, hp4, ho4, hb4⟩
    have HB4 := Lib.hid (HB3.out.trans (hb4.mono (by omega)))
    have hz4 := HZ3.out.below hb4 (by omega)
    have q0 := hz4.cell (j := 0) rfl
    have q1 := hz4.cell (j := 1) rfl
    have f0 := hz4.warm (j := 0) rfl
    have f1 := hz4.warm (j := 1) rfl
    have p0 := hp4.c0
    have p1 := hp4.c1
    have HO4 := Lib.hid ho4
    have hsz4 := hz4.lt
    clear hp4 ho4 hb4 hz4 d0
    have hw1 : w.heap.size < w1.heap.size := by omega
    have hne : w.heap.size ≠ w1.heap.size + 1 := by omega
    have hne2 : w1.heap.size + 1 ≠ w.heap.size := by omega
    go_wp2
    refine bodyPost_ret (v := .tuple #[.agg #[.int .i64 K, .slice A4 pf.length c4], .bool true]) (by simp [results, Tryz.results54, go_sem, q0, q1]) rfl ⟨[.int .i64 K, .slice A4 pf.length c4], rfl, ?_, ?_⟩
    · refine RProof_own.2 ⟨A4, pf.length, c4, rfl, (show In .i64 (K : Int) from inI64 (by omega) (by omega)), ?_⟩
      refine Mem.Own.base (lo := w1.heap.size) (Mem.Own.top (hi := w4.heap.size) ?_) (by omega)
      repeat refine Own.store ?_ _ (.inl (by first | (simp; done) | (simp; omega)))
      exact HO4.out
    · repeat' refine Below.setCell ?_ ?_ _
      all_goals first | exact HB4.out | (simp; done) | (simp; omega)
set_option maxHeartbeats 4000000 in
theorem iCheckEntry_any (root count : Int) (cs : List Value) (k : Entry) (ds : List Value) (p : Proof) (w : World) (hr0 : In .i64 root) (hc0 : In .i64 count) (h : REntry.rd w (Lt w.heap.size) cs k) (h' : RProof.rd w (Lt w.heap.size) ds p) (hn : totEntry k ≤ 1048576) (hm : totProof p ≤ 1048576) :
    Calls Tryz.prog 37 #[.int .i64 root, .int .i64 count, .agg cs.toArray, .agg ds.toArray] w fun e w' => e = .returned (.bool (checkE root count k p)) ∧ Below w.heap.size w w' := by
  obtain ⟨A, n, c, hcs, -⟩ := REntry_rd.1 h
  obtain ⟨A2, n2, c2, hds, g1, g2, g3, g4⟩ := RProof_rd.1 h'
  have hl2 := g4.len
  unfold totProof at hm
  have eup : ∀ w1, Below w.heap.size w w1 → REntry.rd w1 (Lt w1.heap.size) cs k := fun w1 hb => REntry.more (REntry.keep h fun i hi => hb.block i hi) fun i hi => Nat.lt_of_lt_of_le hi hb.size
  have HLF := Lib.hid (fun w1 hb => iLeafOf_any cs k w1 (eup w1 hb) hn)
  have HIS := Lib.hid (fun w1 hb => iIsEntry_any cs k w1 (eup w1 hb) (by omega))
  have hlr := leafRg k
  have HTF := Lib.hid (fun w1 (hb : Below w.heap.size w w1) => iTopFrom_any (leafOf k) p.at_ count A2 n2 c2 p.path w1 (inI64 (rg_in hlr).1 (rg_in hlr).2) g1 hc0 ((g4.below hb (Nat.le_refl _)).more hb.size) (by omega))
  have htr := topFrom_rg (i := p.at_) (n := count) (p := p.path) hlr
  have HTI := Lib.hid (show In .i64 (topFrom (leafOf k) p.at_ count p.path).1 from inI64 (rg_in htr).1 (rg_in htr).2)
  have HCI := Lib.hid hc0
  unfold checkE rootN
  subst hcs hds
  obtain ⟨kl, kk, kv, kp⟩ := k
  obtain ⟨pa, pp⟩ := p
  simp only at *
  generalize leafOf ⟨kl, kk, kv, kp⟩ = lf at *
  generalize topFrom lf pa count pp = tf at *
  obtain ⟨tt, tb⟩ := tf
  simp only at *
  generalize isEntry ⟨kl, kk, kv, kp⟩ = ie at *
  clear h h' eup g1 g2 g3 g4 hlr htr hl2 hn hm hr0 hc0
  obtain ⟨W, hW⟩ : ∃ W, W = (w.alloc (.cells #[.string kl, .int .i64 kk, .int .i64 kv, .slice A n c] 29)).alloc (.cells #[.int .i64 pa, .slice A2 n2 c2] 32) := ⟨_, rfl⟩
  have HXa := Lib.hid (show Box W w.heap.size [.string kl, .int .i64 kk, .int .i64 kv, .slice A n c] from by
    rw [hW]
    exact (Box.new w #[.string kl, .int .i64 kk, .int .i64 kv, .slice A n c] 29).alloc _)
  have HXb := Lib.hid (show Box W (w.heap.size + 1) [.int .i64 pa, .slice A2 n2 c2] from by
    rw [hW]
    have := Box.new (w.alloc (.cells #[.string kl, .int .i64 kk, .int .i64 kv, .slice A n c] 29)) #[.int .i64 pa, .slice A2 n2 c2] 32
    simpa using this)
  have HB0 := Lib.hid (show Below w.heap.size w W from by rw [hW]; exact ((Below.refl _ _).alloc (Nat.le_refl _) _).alloc (by simp) _)
  have hws : w.heap.size + 1 < W.heap.size := by rw [hW]; simp
  have HW := Lib.hid hW
  clear hW
  rcases ie with _ | _
  · go_enter Tryz.func37, Tryz.ntmps37
    go_wp2_with fail
    rw [show (w.alloc (.cells #[.string kl, .int .i64 kk, .int .i64 kv, .slice A n c] 29)).alloc (.cells #[.int .i64 pa, .slice A2 n2 c2] 32) = W from HW.out.symm]
    refine (HIS.out W HB0.out).mono ?_
    rintro e w1 ⟨rfl, hb1⟩
    have HB1 := Lib.hid (HB0.out.trans (hb1.mono HB0.out.size))
    clear hb1
    go_wp2
    go_ret
    exact ⟨by simp, HB1.out⟩
  · rcases tb with _ | _
    all_goals
      go_enter Tryz.func37, Tryz.ntmps37
      go_wp2_with fail
      rw [show (w.alloc (.cells #[.string kl, .int .i64 kk, .int .i64 kv, .slice A n c] 29)).alloc (.cells #[.int .i64 pa, .slice A2 n2 c2] 32) = W from HW.out.symm]
      refine (HIS.out W HB0.out).mono ?_
      rintro e w1 ⟨rfl, hb1⟩
      have HB1 := Lib.hid (HB0.out.trans (hb1.mono HB0.out.size))
      have HX1a := Lib.hid (HXa.out.below hb1 HXa.out.lt)
      have HX1b := Lib.hid (HXb.out.below hb1 HXb.out.lt)
      have c0 := HX1a.out.cell (j := 0) rfl
      have c1 := HX1a.out.cell (j := 1) rfl
      have c2_ := HX1a.out.cell (j := 2) rfl
      have c3 := HX1a.out.cell (j := 3) rfl
      have d0 := HX1b.out.cell (j := 0) rfl
      have d1 := HX1b.out.cell (j := 1) rfl
      clear hb1
      go_wp2_with fail
      go_region_held3 (fun w' => w'.cell? ⟨w.heap.size, 0, none⟩ = some (.string kl) ∧ w'.cell? ⟨w.heap.size, 1, none⟩ = some (.int .i64 kk) ∧ w'.cell? ⟨w.heap.size, 2, none⟩ = some (.int .i64 kv) ∧ w'.cell? ⟨w.heap.size, 3, none⟩ = some (.slice A n c) ∧ w'.cell? ⟨w.heap.size + 1, 0, none⟩ = some (.int .i64 pa) ∧ w'.cell? ⟨w.heap.size + 1, 1, none⟩ = some (.slice A2 n2 c2)) (go_keep) ((first
        | (go_at_call 66; refine (HLF.out w1.drew HB1.out.drew).mono ?_; rintro e w2 ⟨rfl, hb2⟩; have HB2 := Lib.hid (HB1.out.drew.trans (hb2.mono HB1.out.size)); have HX2a := Lib.hid (HX1a.out.below (RKA.below_drew hb2) HX1a.out.lt); have HX2b := Lib.hid (HX1b.out.below (RKA.below_drew hb2) HX1b.out.lt); have k0 := HX2a.out.cell (j := 0) rfl; have k1 := HX2a.out.cell (j := 1) rfl; have k2 := HX2a.out.cell (j := 2) rfl; have k3 := HX2a.out.cell (j := 3) rfl; have m0 := HX2b.out.cell (j := 0) rfl; have m1 := HX2b.out.cell (j := 1) rfl; clear hb2)
        | (go_at_call 69; refine (HTF.out w2 HB2.out).mono ?_; rintro e w3 ⟨rfl, hb3⟩; have HB3 := Lib.hid (HB2.out.trans (hb3.mono HB2.out.size)); have HX3a := Lib.hid (HX2a.out.below hb3 HX2a.out.lt); have HX3b := Lib.hid (HX2b.out.below hb3 HX2b.out.lt); have l0 := HX3a.out.cell (j := 0) rfl; have l1 := HX3a.out.cell (j := 1) rfl; have l2 := HX3a.out.cell (j := 2) rfl; have l3 := HX3a.out.cell (j := 3) rfl; have p0 := HX3b.out.cell (j := 0) rfl; have p1 := HX3b.out.cell (j := 1) rfl; clear hb3)))
      clear c0 c1 c2_ c3 d0 d1 k0 k1 k2 k3 m0 m1 l0 l1 l2 l3 p0 p1
      first
      | (go_wp2; go_ret; exact ⟨by simp, HB3.out⟩)
      | (have HR := Lib.hid (own_lit .i64 w3 (b := w3.heap.size) (cs := #[.int .i64 231, .int .i64 count, .int .i64 tt]) (ty := 3) (zs := [231, count, tt]) (n := 3) (lo := w3.heap.size) rfl rfl rfl rfl (by
           intro z hz
           simp only [List.mem_cons, List.not_mem_nil, or_false] at hz
           rcases hz with rfl | rfl | rfl
           · exact inI64 (by omega) (by omega)
           · exact HCI.out
           · exact HTI.out) (Nat.le_refl _) (by simp [maxLen])).rd
         have HB4 := Lib.hid (HB3.out.alloc HB3.out.size (.cells #[.int .i64 231, .int .i64 count, .int .i64 tt] 3))
         go_wp2_with fail
         refine (iHash_any _ _ _ _ _ (HR.out.more (by simp)) (by omega)).mono ?_
         rintro e w5 ⟨rfl, hb5⟩
         have HB5 := Lib.hid (HB4.out.trans (hb5.mono HB4.out.size))
         clear hb5
         go_wp2
         go_ret
         exact ⟨by first | rfl | (simp; done) | (simp; rfl), HB5.out⟩)
theorem iEqualProofs_any (ds ds' : List Value) (p p' : Proof) (w : World) (h : RProof.rd w (Lt w.heap.size) ds p) (h' : RProof.rd w (Lt w.heap.size) ds' p') (hm : totProof p ≤ 1048576) :
    Calls Tryz.prog 61 #[.agg ds.toArray, .agg ds'.toArray] w fun e w' => e = .returned (.bool (eqP p p')) ∧ Below w.heap.size w w' := by
  obtain ⟨A, n, c, rfl, g1, g2, g3, g4⟩ := RProof_rd.1 h
  obtain ⟨A', n', c', rfl, g1', g2', g3', g4'⟩ := RProof_rd.1 h'
  have hl := g4.len
  unfold totProof at hm
  obtain ⟨pa, pp⟩ := p
  obtain ⟨pa', pp'⟩ := p'
  simp only at *
  unfold eqP
  simp only
  have HE := Lib.hid (fun w1 (hb : Below w.heap.size w w1) => iEqualInts_any _ _ A A' n c n' c' pp pp' w1 ((g4.below hb (Nat.le_refl _)).more hb.size) ((g4'.below hb (Nat.le_refl _)).more hb.size) (by omega))
  generalize decide (pp = pp') = eqb at *
  have HB := Lib.hid (show Below w.heap.size w ((w.alloc (.cells #[.int .i64 pa, .slice A n c] 32)).alloc (.cells #[.int .i64 pa', .slice A' n' c'] 32)) from ((Below.refl _ _).alloc (Nat.le_refl _) _).alloc (by simp) _)
  clear h h' g1 g2 g3 g4 g1' g2' g3' g4' hl hm
  by_cases hp : pa = pa'
  · subst hp
    go_enter Tryz.func61, Tryz.ntmps61
    go_wp2_with fail
    refine (HE.out _ HB.out).mono ?_
    rintro e w1 ⟨rfl, hs⟩
    have HB1 := Lib.hid (HB.out.trans (hs.below _))
    clear hs
    go_wp2
    go_ret
    exact ⟨by simp, HB1.out⟩
  · have hd : decide (pa = pa') = false := decide_eq_false hp
    rw [hd]
    go_enter Tryz.func61, Tryz.ntmps61
    go_wp2
    go_ret
    exact ⟨rfl, HB.out⟩
end Go.Proofs.YtbhhifoofapgiaaGreat.C11I
