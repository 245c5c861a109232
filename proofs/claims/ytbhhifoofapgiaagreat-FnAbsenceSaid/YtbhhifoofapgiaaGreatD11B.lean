/- The drawing functions of chapter 11. -/
import Derived.Test.YtbhhifoofapgiaaGreatD11
import Derived.Test.YtbhhifoofapgiaaGreatD10
import Derived.Test.YtbhhifoofapgiaaGreatC11S
import Derived.Test.YtbhhifoofapgiaaGreatT01
import Derived.Deep.RegionHeld3
namespace Go.Proofs.YtbhhifoofapgiaaGreat.D11B
set_option linter.unusedVariables false
set_option maxRecDepth 100000
open Go.RowKit Mem MemS M02 M03 M04 M05 M08 M09 M09F C01 C02 C02B D01 D02 SL C04I C04S C05S C08S C09S C09SP Rep RepA RW R08 Q08 D04 D05 D08 RKA D10 M10 M10F M11 C10S R11 C11S D11
open D09 hiding kept_then
def DrPV (w : World) (e : Ending) (w' : World) : Prop :=
  ∃ A n c l s, e = .returned (.tuple #[.slice A n c, .string s]) ∧ SmX EL 18 l ∧ ByteArray.size s ≤ 16 ∧ FOwnEntry w' w.heap.size w'.heap.size A n c l ∧ Below w.heap.size w w'
set_option maxHeartbeats 1000000 in
theorem drawProveEntry_any (w : World) (A : Option Addr) (n c : Nat) (hn : n ≤ maxLen) (hr : BRow w w.heap.size A n) :
    Calls Tryz.prog 14 #[.slice A n c] w (DrPV w) := by
  go_enter Tryz.func14, Tryz.ntmps14
  go_wp2_with fail
  refine (l1New_any w A n c hn hr).mono ?_
  rintro e w1 ⟨g, rfl, hc1, hb1⟩
  have hgB := hc1.1
  have HC1 := Lib.hid hc1
  have HB1 := Lib.hid hb1
  clear hc1 hb1
  go_wp2_with fail
  refine (l9Any_f _ _ g HC1.out).mono ?_
  rintro e w2 ⟨Al, nl, cl, l, rfl, hsl, hown, hc2, hk2⟩
  have HS := Lib.hid hsl
  have HO := Lib.hid hown
  have HC2 := Lib.hid hc2
  have HB2 := Lib.hid (HB1.out.trans (hk2.below hgB HB1.out.size))
  have hg1 := HC1.out.lt
  have hnl : nl ≤ 18 := by have := hown.len; have := hsl.1.1; omega
  clear hsl hown hc2 hk2
  by_cases h0 : 0 < nl
  · have h0b : decide (0 < nl) = true := decide_eq_true h0
    go_wp2_with fail
    refine (l1Once_any _ _ _ g HC2.out).mono ?_
    rintro e w3 ⟨v, ⟨t, rfl⟩, rfl, hc3, hk3⟩
    have HO3 := Lib.hid ((HO.out.keep (w' := w3) fun i h0 h1 h2 => hk3.block i h0 (by omega)).wide (Nat.le_refl _) hk3.size)
    have HC3 := Lib.hid hc3
    have HB3 := Lib.hid (HB2.out.trans (hk3.below hgB HB2.out.size))
    clear hc3 hk3
    cases t
    · have HC3d := Lib.hid (HC3.out.below ((Below.refl w3.heap.size w3).drew))
      have HKd := Lib.hid (Kept.of_below (g := g) (Below.refl w3.heap.size w3).drew)
      have h0i : (0 : Int) < nl := by omega
      obtain ⟨bl, ol, _, rfl, hbl, -, -⟩ := HO3.out.rd.at h0
      go_wp2_with fail
      refine wp_region_any (by kernel_rfl) ?_
      change wpAny _ _ _ _ _ _ _ (World.drew _)
      refine wpAny_take (i := 0) (v := .slice (some ⟨bl, ol, none⟩) nl cl) rfl (by kernel_rfl) (by kernel_rfl) (by kernel_rfl) (fun _ _ _ h => h) (Or.inl ⟨by rfl, fun w => ?_⟩) ?_
      · go_simp
      refine wpAny_take (i := 1) (v := .slice (some ⟨bl, ol, none⟩) nl cl) rfl (by kernel_rfl) (by kernel_rfl) (by kernel_rfl) (fun _ _ _ h => h) (Or.inl ⟨by rfl, fun w => ?_⟩) ?_
      · go_simp
      refine wpAny_take (i := 2) (v := .pointer (some ⟨g, 0, none⟩)) rfl (by kernel_rfl) (by kernel_rfl) (by kernel_rfl) (fun _ _ _ h => h) (Or.inl ⟨by rfl, fun w => ?_⟩) ?_
      · go_simp
      refine wpAny_take (i := 3) (v := .slice (some ⟨bl, ol, none⟩) nl cl) rfl (by kernel_rfl) (by kernel_rfl) (by kernel_rfl) (fun _ _ _ h => h) (Or.inl ⟨by rfl, fun w => ?_⟩) ?_
      · go_simp
      refine wpAny_ready (rs := [4]) (by kernel_rfl) (by simp) ?_
      refine AllReady.cons rfl (fun K hK => ?_) ?_
      · go_simp
        refine hK _ _ ?_
        clear hK K
        refine wpAny_ready (rs := [5]) (by kernel_rfl) (by simp) ?_
        refine AllReady.cons rfl (fun K hK => ?_) ?_
        · go_simp
          go_at_call 41
          refine (l1Below_pos _ _ _ g h0i HC3d.out).mono ?_
          rintro e w4 ⟨v, ⟨k, hk, rfl⟩, rfl, hc4, hk4⟩
          have HK4 := Lib.hid (HKd.out.trans hk4)
          have HO4 := Lib.hid ((HO3.out.keep (w' := w4) fun i h0 h1 h2 => HK4.out.block i h0 (by omega)).wide (Nat.le_refl _) HK4.out.size)
          have hkn : k < nl := by omega
          obtain ⟨b9, o9, cs, e9, -, hrd, hcc⟩ := HO4.out.rd.at hkn
          injection e9 with e9
          obtain ⟨rfl, rfl⟩ : bl = b9 ∧ ol = o9 := by injection e9 with e1 e2; exact ⟨e1, e2⟩
          obtain ⟨A3, n3, c3, rfl, -⟩ := REntry_rd.1 hrd
          have hsz := (HS.out.1.2 (l.getD k default) (by rw [List.getD, List.getElem?_eq_getElem (show k < l.length by rw [HO3.out.len]; exact hkn), Option.getD_some]; exact List.getElem_mem _)).1
          have d0 : w4.cell? ⟨bl, ol + k * 4, none⟩ = some (.string (l.getD k default).label) := hcc 0 (by decide)
          generalize (l.getD k default).label = s at d0 hsz
          clear hcc hrd hc4 hk4 hk e9
          go_simp
          refine hK _ _ ?_
          clear hK K
          refine wpAny_take (i := 9) (v := .slice (some ⟨bl, ol, none⟩) nl cl) rfl (by kernel_rfl) (by kernel_rfl) (by kernel_rfl) (fun _ _ _ h => h) (Or.inl ⟨by rfl, fun w => ?_⟩) ?_
          · go_simp
          refine wpAny_ready (rs := [6]) (by kernel_rfl) (by simp) ?_
          refine AllReady.cons rfl (fun K hK => ?_) ?_
          · go_simp
            refine hK _ _ ?_
            clear hK K
            refine wpAny_ready (rs := [7]) (by kernel_rfl) (by simp) ?_
            refine AllReady.cons rfl (fun K hK => ?_) ?_
            · go_simp
              refine hK _ _ ?_
              clear hK K
              refine wpAny_ready (rs := [8]) (by kernel_rfl) (by simp) ?_
              refine AllReady.cons rfl (fun K hK => ?_) ?_
              · go_simp
                refine hK _ _ ?_
                clear hK K
                refine wpAny_ready (rs := [10]) (by kernel_rfl) (by simp) ?_
                refine AllReady.cons rfl (fun K hK => ?_) ?_
                · go_simp
                  refine hK _ _ ?_
                  clear hK K
                  refine wpAny_done (by kernel_rfl) ?_ _
                  have HB4 := Lib.hid (HB3.out.trans (HK4.out.below hgB HB3.out.size))
                  go_wp2
                  refine bodyPost_ret (v := .tuple #[.slice (some ⟨bl, ol, none⟩) nl cl, .string s]) (by simp [results, Tryz.results14, go_sem]) rfl ⟨_, nl, cl, l, s, rfl, HS.out, hsz, HO4.out.base HB1.out.size, HB4.out⟩
                exact AllReady.nil
              exact AllReady.nil
            exact AllReady.nil
          exact AllReady.nil
        exact AllReady.nil
      exact AllReady.nil
    · go_wp2_with fail
      refine (l4Any_any _ _ g HC3.out).mono ?_
      rintro e w4 ⟨v, ⟨s, hs, rfl⟩, rfl, hc4, hk4⟩
      have HO4 := Lib.hid ((HO3.out.keep (w' := w4) fun i h0 h1 h2 => hk4.block i h0 (by omega)).wide HB1.out.size hk4.size)
      have HB4 := Lib.hid (HB3.out.trans (hk4.below hgB HB3.out.size))
      clear hc4 hk4
      go_wp2
      refine bodyPost_ret (v := .tuple #[.slice Al nl cl, .string s]) (by simp [results, Tryz.results14, go_sem]) rfl ⟨Al, nl, cl, l, s, rfl, HS.out, hs, HO4.out, HB4.out⟩
  · have h0b : decide (0 < nl) = false := decide_eq_false h0
    go_wp2_with fail
    refine (l4Any_any _ _ g HC2.out).mono ?_
    rintro e w3 ⟨v, ⟨s, hs, rfl⟩, rfl, hc3, hk3⟩
    have HO3 := Lib.hid ((HO.out.keep (w' := w3) fun i h0 h1 h2 => hk3.block i h0 (by omega)).wide HB1.out.size hk3.size)
    have HB3 := Lib.hid (HB2.out.trans (hk3.below hgB HB2.out.size))
    clear hc3 hk3
    go_wp2
    refine bodyPost_ret (v := .tuple #[.slice Al nl cl, .string s]) (by simp [results, Tryz.results14, go_sem]) rfl ⟨Al, nl, cl, l, s, rfl, HS.out, hs, HO3.out, HB3.out⟩
theorem rootOf_in (l : List Entry) : 0 ≤ rootOf l ∧ rootOf l < 2147483647 := hsh_range _
def DrCA (w : World) (e : Ending) (w' : World) : Prop :=
  ∃ A n c l r, e = .returned (.tuple #[.int .i64 r, .slice A n c]) ∧ 0 ≤ r ∧ r ≤ 2147483648 ∧ SmL 18 l ∧ FOwnEntry w' w.heap.size w'.heap.size A n c l ∧ Below w.heap.size w w'
/-- the row (blocks lo to hi) and the cursor alone have changed -/
structure KT (g lo hi : Nat) (w w' : World) : Prop where
  os : w'.os = w.os
  tape : w'.tape = w.tape
  output : w'.output = w.output
  size : w.heap.size ≤ w'.heap.size
  block : ∀ k, k < w.heap.size → k ≠ g → (k < lo ∨ hi ≤ k) → w'.heap[k]? = w.heap[k]?
theorem KT.of_kept {g lo hi : Nat} {w w' : World} (h : Kept g w w') : KT g lo hi w w' := ⟨h.os, h.tape, h.output, h.size, fun k h1 h2 _ => h.block k h1 h2⟩
theorem KT.set_ {g lo hi : Nat} {w w' : World} (h : KT g lo hi w w') {p : Addr} (hp : (lo ≤ p.block ∧ p.block < hi) ∨ w.heap.size ≤ p.block) (v : Value) : KT g lo hi w (w'.setCell p v) :=
  ⟨h.os, h.tape, h.output, Nat.le_trans h.size (by simp [World.setCell]), fun k h1 h2 h3 => (Below.heap_setCell _ _ _ _ (by omega)).trans (h.block k h1 h2 h3)⟩
theorem KT.gr {g lo hi : Nat} {w w' w'' : World} {A A' : Option Addr} (h : KT g lo hi w w') (hg : Gr A w' A' w'') (hA : ∀ a, A = some a → lo ≤ a.block ∧ a.block < hi) : KT g lo hi w w'' :=
  ⟨hg.1.os.trans h.os, hg.1.tape.trans h.tape, hg.1.output.trans h.output, Nat.le_trans h.size hg.1.size, fun k h1 h2 h3 => (hg.1.block k (Nat.lt_of_lt_of_le h1 h.size) (fun e => by
    rcases A with _ | a
    · simp at e
    · have : a.block = k := by simpa using e.symm
      have := hA a rfl
      omega)).trans (h.block k h1 h2 h3)⟩
theorem KT.alloc {g lo hi : Nat} {w w' : World} (h : KT g lo hi w w') (o : Obj) : KT g lo hi w (w'.alloc o) :=
  ⟨h.os, h.tape, h.output, Nat.le_trans h.size (by simp), fun k h1 h2 h3 => (Below.heap_alloc _ _ _ (Nat.lt_of_lt_of_le h1 h.size)).trans (h.block k h1 h2 h3)⟩
theorem KT.below {g lo hi B : Nat} {w w' : World} (h : KT g lo hi w w') (hg : B ≤ g) (hl : B ≤ lo) (hs : B ≤ w.heap.size) : Below B w w' := ⟨h.os, h.tape, h.output, h.size, fun k hk => h.block k (by omega) (by omega) (.inl (by omega))⟩
theorem KT.box {g lo hi : Nat} {w w' : World} (h : KT g lo hi w w') {b : Nat} {vs : List Value} (hb : Box w b vs) (hg : b ≠ g) (hl : b < lo ∨ hi ≤ b) : Box w' b vs := hb.keep (h.block b hb.lt hg hl)
theorem rd_keep {k : IntKind} {w w' : World} {lo hi n c : Nat} {A : Option Addr} {zs : List Int} (h : Mem.Own k w lo hi A n c zs) (hs : w.heap.size ≤ w'.heap.size) (hk : ∀ a, A = some a → w'.heap[a.block]? = w.heap[a.block]?) : Rd k w' w'.heap.size A n zs := by
  refine ⟨h.rd.len, h.rd.wf, fun hn => ?_⟩
  obtain ⟨b, off, rfl, hlt, hc⟩ := h.top.rd.cells hn
  exact ⟨b, off, rfl, Nat.lt_of_lt_of_le hlt hs, fun j hj => (World.cell?_of_block (w := w) (a := ⟨b, off + j, none⟩) (by exact hk ⟨b, off, none⟩ rfl)).trans (hc j hj)⟩
theorem rd_drew {k : IntKind} {w : World} {n : Nat} {A : Option Addr} {zs : List Int} (h : Rd k w w.heap.size A n zs) : Rd k w.drew w.drew.heap.size A n zs := h.same ⟨rfl, rfl, rfl, rfl⟩
theorem KT.drew {g lo hi : Nat} {w w' : World} (h : KT g lo hi w w') : KT g lo hi w w'.drew := ⟨h.os, h.tape, h.output, h.size, h.block⟩
def DrBP (g lo hi B n : Nat) (w : World) (e : Ending) (w' : World) : Prop :=
  ∃ a' A' n' c' zs', e = .returned (.agg #[.int .i64 a', .slice A' n' c']) ∧ In .i64 a' ∧ n' ≤ n + 1 ∧ n' ≤ c' ∧ c' ≤ maxLen ∧ Rd .i64 w' w'.heap.size A' n' zs' ∧ (∀ a, A' = some a → (lo ≤ a.block ∧ a.block < hi) ∨ w.heap.size ≤ a.block) ∧ KT g lo hi w w'
set_option maxHeartbeats 2000000 in
theorem l11Bent_any (at_ : Int) (A : Option Addr) (n c : Nat) (zs : List Int) (w : World) (B g lo hi : Nat) (hc : Cur w B g) (hg : g < lo) (hlo : lo ≤ hi) (hh : hi ≤ w.heap.size) (ho : Mem.Own .i64 w lo hi A n c zs) (hn : n ≤ 100) (ha : In .i64 at_) :
    Calls Tryz.prog 78 #[.pointer (some ⟨g, 0, none⟩), .agg #[.int .i64 at_, .slice A n c]] w (DrBP g lo hi B n w) := by
  obtain ⟨V, hV⟩ : ∃ V, V = (w.alloc (.cells #[.int .i64 at_, .slice A n c] 32)).alloc (.cells #[.int .i64 0, .slice none 0 0] 32) := ⟨_, rfl⟩
  have HXa := Lib.hid (show Box V w.heap.size [.int .i64 at_, .slice A n c] from by
    rw [hV]
    exact (Box.new w #[.int .i64 at_, .slice A n c] 32).alloc _)
  have HXb := Lib.hid (show Box V (w.heap.size + 1) [.int .i64 0, .slice none 0 0] from by
    rw [hV]
    have := Box.new (w.alloc (.cells #[.int .i64 at_, .slice A n c] 32)) #[.int .i64 0, .slice none 0 0] 32
    simpa using this)
  have hgl := hc.lt
  have HK0 := Lib.hid (show Kept g w V from by rw [hV]; exact ((Kept.refl g w).alloc _).alloc _)
  have HC0 := Lib.hid (show Cur V B g from by rw [hV]; exact (hc.alloc _).alloc _)
  have HO0 := Lib.hid (show Mem.Own .i64 V lo hi A n c zs from by rw [hV]; exact (ho.alloc _).alloc _)
  have hVs : V.heap.size = w.heap.size + 2 := by rw [hV]; simp
  have HV := Lib.hid hV
  have HAT := Lib.hid ha
  clear hV ho hc ha
  go_enter Tryz.func78, Tryz.ntmps78
  go_wp2_with fail
  rw [show (w.alloc (.cells #[.int .i64 at_, .slice A n c] 32)).alloc (.cells #[.int .i64 0, .slice none 0 0] 32) = V from HV.out.symm]
  refine (l1Below_any 8 V B g HC0.out).mono ?_
  rintro e w1 ⟨v, ⟨x, hx0, hx1, rfl⟩, rfl, hc1, hk1⟩
  have HC1 := Lib.hid hc1
  have HK1 := Lib.hid (HK0.out.trans hk1)
  have HX1 := Lib.hid (bxK HXa.out hk1 (by omega))
  have HY1 := Lib.hid (bxK HXb.out hk1 (by omega))
  have HO1 := Lib.hid (own_kept HO0.out hk1 hg)
  have hs1 := hk1.size
  have hcap := HO1.out.cap
  have hmc := hcap.2
  have hlen := HO1.out.len
  clear hc1 hk1 hx1
  have hne : w.heap.size + 1 ≠ w.heap.size := by omega
  have hne2 : w.heap.size ≠ w.heap.size + 1 := by omega
  by_cases q0 : x = 0
  · subst q0
    have HI := Lib.hid (IRow.new (w := w1) (g := g) (cs := #[.int .i64 (-1), .int .i64 0, .int .i64 1, .int .i64 99]) (t := 3) (n := 4) HC1.out.lt (by decide +kernel) rfl)
    have HCA := Lib.hid (HC1.out.alloc (.cells #[.int .i64 (-1), .int .i64 0, .int .i64 1, .int .i64 99] 3))
    have HKA := Lib.hid ((Kept.refl g w1).alloc (.cells #[.int .i64 (-1), .int .i64 0, .int .i64 1, .int .i64 99] 3))
    go_wp2_with fail
    refine (l1Int_any _ _ _ (by omega) _ B g HCA.out HI.out).mono ?_
    rintro e w2 ⟨v, ⟨z, hz, rfl⟩, rfl, hc2, hk2⟩
    have HK2 := Lib.hid (HKA.out.trans hk2)
    have hX := bxK HX1.out HK2.out (by omega)
    have hY := bxK HY1.out HK2.out (by omega)
    have HO2 := Lib.hid (own_kept HO1.out HK2.out hg)
    have HKK := Lib.hid (KT.of_kept (lo := lo) (hi := hi) (HK1.out.trans HK2.out))
    have hs2 := HK2.out.size
    clear hc2 hk2
    have c0 := hX.cell (j := 0) rfl
    have c1 := hX.cell (j := 1) rfl
    have f0 := hX.warm (j := 0) rfl
    have f1 := hX.warm (j := 1) rfl
    have r0 := hY.cell (j := 0) rfl
    have r1 := hY.cell (j := 1) rfl
    have g0 := hY.warm (j := 0) rfl
    have g1 := hY.warm (j := 1) rfl
    clear hX hY
    go_wp2
    refine bodyPost_ret (v := .agg #[.int .i64 z, .slice A n c]) (by simp [results, Tryz.results78, go_sem, r0, r1]) rfl ⟨z, A, n, c, zs, rfl, in_wf hz, by omega, hcap.1, hmc, ?_, fun a e => .inl ⟨HO1.out.ge a e, HO1.out.hi a e⟩, ?_⟩
    · refine Mem.Own.rd (lo := lo) (c := c) (Mem.Own.top (hi := hi) ?_)
      repeat' refine Own.store ?_ _ ?_
      all_goals first | exact HO2.out | exact .inr hh | exact .inr (Nat.le_succ_of_le hh)
    · repeat' refine KT.set_ ?_ ?_ _
      all_goals first | exact HKK.out | exact .inr (Nat.le_refl _) | exact .inr (Nat.le_succ _)
  · have qb0 : (x == 0) = false := beq_eq_false_iff_ne.2 q0
    have c0 := HX1.out.cell (j := 0) rfl
    have c1 := HX1.out.cell (j := 1) rfl
    have f0 := HX1.out.warm (j := 0) rfl
    have f1 := HX1.out.warm (j := 1) rfl
    have r0 := HY1.out.cell (j := 0) rfl
    have r1 := HY1.out.cell (j := 1) rfl
    have g0 := HY1.out.warm (j := 0) rfl
    have g1 := HY1.out.warm (j := 1) rfl
    have HKK := Lib.hid (KT.of_kept (lo := lo) (hi := hi) HK1.out)
    by_cases q1 : x = 1
    · subst q1
      by_cases hk0 : 0 < n
      · have hk0b : decide (0 < n) = true := decide_eq_true hk0
        obtain ⟨bl, rfl, hbl, hbh, dz, fz, -⟩ := HO1.out.set hk0 0 (inI64 (by omega) (by omega))
        obtain ⟨z, hz⟩ : ∃ z, z = zs.getD 0 0 := ⟨_, rfl⟩
        rw [← hz] at dz
        have HOZ := Lib.hid (HO1.out.set hk0 (wrap64 (z + 1)) (in_wf (wf_wrap64 _)))
        clear hz
        have hb1 : bl ≠ w.heap.size := by omega
        have hb2 : bl ≠ w.heap.size + 1 := by omega
        have hk0i : (0 : Int) < n := by omega
        go_wp2_with fail
        refine wp_region_any (by kernel_rfl) ?_
        change wpAny _ _ _ _ _ _ _ (World.drew _)
        refine wpAny_take (i := 0) (v := .pointer (some ⟨w.heap.size, 1, none⟩)) rfl (by kernel_rfl) (by kernel_rfl) (by kernel_rfl) (fun _ _ _ h => h) (Or.inl ⟨by rfl, fun w => ?_⟩) ?_
        · go_simp
        refine wpAny_take (i := 2) (v := .pointer (some ⟨w.heap.size, 1, none⟩)) rfl (by kernel_rfl) (by kernel_rfl) (by kernel_rfl) (fun _ _ _ h => h) (Or.inl ⟨by rfl, fun w => ?_⟩) ?_
        · go_simp
        refine wpAny_ready (rs := [1, 3]) (by kernel_rfl) (by simp) ?_
        refine AllReady.cons rfl (fun K hK => ?_) ?_
        · go_simp
          refine hK _ _ ?_
          clear hK K
          refine wpAny_ready (rs := [3]) (by kernel_rfl) (by simp) ?_
          refine AllReady.cons rfl (fun K hK => ?_) ?_
          · go_simp
            refine hK _ _ ?_
            clear hK K
            refine wpAny_ready (rs := [4]) (by kernel_rfl) (by simp) ?_
            refine AllReady.cons rfl (fun K hK => ?_) ?_
            · go_simp
              refine hK _ _ ?_
              clear hK K
              refine wpAny_ready (rs := [5]) (by kernel_rfl) (by simp) ?_
              refine AllReady.cons rfl (fun K hK => ?_) ?_
              · go_simp
                refine hK _ _ ?_
                clear hK K
                refine wpAny_ready (rs := [6]) (by kernel_rfl) (by simp) ?_
                refine AllReady.cons rfl (fun K hK => ?_) ?_
                · go_simp
                  refine hK _ _ ?_
                  clear hK K
                  refine wpAny_ready (rs := [7]) (by kernel_rfl) (by simp) ?_
                  refine AllReady.cons rfl (fun K hK => ?_) ?_
                  · go_simp
                    refine hK _ _ ?_
                    clear hK K
                    refine wpAny_ready (rs := [8]) (by kernel_rfl) (by simp) ?_
                    refine AllReady.cons rfl (fun K hK => ?_) ?_
                    · go_simp
                      refine hK _ _ ?_
                      clear hK K
                      refine wpAny_done (by kernel_rfl) ?_ _
                      go_wp2
                      refine bodyPost_ret (v := .agg #[.int .i64 at_, .slice (some ⟨bl, 0, none⟩) n c]) (by simp [results, Tryz.results78, go_sem, r0, r1]) rfl ⟨at_, _, n, c, zs.set 0 (wrap64 (z + 1)), rfl, HAT.out, by omega, hcap.1, hmc, ?_, fun a e => .inl ⟨HO1.out.ge a e, HO1.out.hi a e⟩, ?_⟩
                      · obtain ⟨b9, e9, -, -, -, -, ho9⟩ := HOZ.out
                        injection e9 with e9
                        obtain rfl : bl = b9 := by injection e9
                        refine rd_drew (Mem.Own.rd (lo := lo) (c := c) (Mem.Own.top (hi := hi) ?_))
                        exact Own.store (Own.store ho9 _ (.inr (Nat.le_succ_of_le hh))) _ (.inr (Nat.le_succ_of_le hh))
                      · refine KT.drew ?_
                        repeat' refine KT.set_ ?_ ?_ _
                        all_goals first | exact HKK.out | exact .inr (Nat.le_refl _) | exact .inr (Nat.le_succ _) | exact .inl ⟨hbl, hbh⟩
                    exact AllReady.nil
                  exact AllReady.nil
                exact AllReady.nil
              exact AllReady.nil
            exact AllReady.nil
          exact AllReady.nil
        refine AllReady.cons rfl (fun K hK => ?_) ?_
        · go_simp
          refine hK _ _ ?_
          clear hK K
          refine wpAny_ready (rs := [1, 4]) (by kernel_rfl) (by simp) ?_
          refine AllReady.cons rfl (fun K hK => ?_) ?_
          · go_simp
            refine hK _ _ ?_
            clear hK K
            refine wpAny_ready (rs := [4]) (by kernel_rfl) (by simp) ?_
            refine AllReady.cons rfl (fun K hK => ?_) ?_
            · go_simp
              refine hK _ _ ?_
              clear hK K
              refine wpAny_ready (rs := [5]) (by kernel_rfl) (by simp) ?_
              refine AllReady.cons rfl (fun K hK => ?_) ?_
              · go_simp
                refine hK _ _ ?_
                clear hK K
                refine wpAny_ready (rs := [6]) (by kernel_rfl) (by simp) ?_
                refine AllReady.cons rfl (fun K hK => ?_) ?_
                · go_simp
                  refine hK _ _ ?_
                  clear hK K
                  refine wpAny_ready (rs := [7]) (by kernel_rfl) (by simp) ?_
                  refine AllReady.cons rfl (fun K hK => ?_) ?_
                  · go_simp
                    refine hK _ _ ?_
                    clear hK K
                    refine wpAny_ready (rs := [8]) (by kernel_rfl) (by simp) ?_
                    refine AllReady.cons rfl (fun K hK => ?_) ?_
                    · go_simp
                      refine hK _ _ ?_
                      clear hK K
                      refine wpAny_done (by kernel_rfl) ?_ _
                      go_wp2
                      refine bodyPost_ret (v := .agg #[.int .i64 at_, .slice (some ⟨bl, 0, none⟩) n c]) (by simp [results, Tryz.results78, go_sem, r0, r1]) rfl ⟨at_, _, n, c, zs.set 0 (wrap64 (z + 1)), rfl, HAT.out, by omega, hcap.1, hmc, ?_, fun a e => .inl ⟨HO1.out.ge a e, HO1.out.hi a e⟩, ?_⟩
                      · obtain ⟨b9, e9, -, -, -, -, ho9⟩ := HOZ.out
                        injection e9 with e9
                        obtain rfl : bl = b9 := by injection e9
                        refine rd_drew (Mem.Own.rd (lo := lo) (c := c) (Mem.Own.top (hi := hi) ?_))
                        exact Own.store (Own.store ho9 _ (.inr (Nat.le_succ_of_le hh))) _ (.inr (Nat.le_succ_of_le hh))
                      · refine KT.drew ?_
                        repeat' refine KT.set_ ?_ ?_ _
                        all_goals first | exact HKK.out | exact .inr (Nat.le_refl _) | exact .inr (Nat.le_succ _) | exact .inl ⟨hbl, hbh⟩
                    exact AllReady.nil
                  exact AllReady.nil
                exact AllReady.nil
              exact AllReady.nil
            exact AllReady.nil
          refine AllReady.cons rfl (fun K hK => ?_) ?_
          · go_simp
            refine hK _ _ ?_
            clear hK K
            refine wpAny_ready (rs := [1, 5]) (by kernel_rfl) (by simp) ?_
            refine AllReady.cons rfl (fun K hK => ?_) ?_
            · go_simp
              refine hK _ _ ?_
              clear hK K
              refine wpAny_ready (rs := [5]) (by kernel_rfl) (by simp) ?_
              refine AllReady.cons rfl (fun K hK => ?_) ?_
              · go_simp
                refine hK _ _ ?_
                clear hK K
                refine wpAny_ready (rs := [6]) (by kernel_rfl) (by simp) ?_
                refine AllReady.cons rfl (fun K hK => ?_) ?_
                · go_simp
                  refine hK _ _ ?_
                  clear hK K
                  refine wpAny_ready (rs := [7]) (by kernel_rfl) (by simp) ?_
                  refine AllReady.cons rfl (fun K hK => ?_) ?_
                  · go_simp
                    refine hK _ _ ?_
                    clear hK K
                    refine wpAny_ready (rs := [8]) (by kernel_rfl) (by simp) ?_
                    refine AllReady.cons rfl (fun K hK => ?_) ?_
                    · go_simp
                      refine hK _ _ ?_
                      clear hK K
                      refine wpAny_done (by kernel_rfl) ?_ _
                      go_wp2
                      refine bodyPost_ret (v := .agg #[.int .i64 at_, .slice (some ⟨bl, 0, none⟩) n c]) (by simp [results, Tryz.results78, go_sem, r0, r1]) rfl ⟨at_, _, n, c, zs.set 0 (wrap64 (z + 1)), rfl, HAT.out, by omega, hcap.1, hmc, ?_, fun a e => .inl ⟨HO1.out.ge a e, HO1.out.hi a e⟩, ?_⟩
                      · obtain ⟨b9, e9, -, -, -, -, ho9⟩ := HOZ.out
                        injection e9 with e9
                        obtain rfl : bl = b9 := by injection e9
                        refine rd_drew (Mem.Own.rd (lo := lo) (c := c) (Mem.Own.top (hi := hi) ?_))
                        exact Own.store (Own.store ho9 _ (.inr (Nat.le_succ_of_le hh))) _ (.inr (Nat.le_succ_of_le hh))
                      · refine KT.drew ?_
                        repeat' refine KT.set_ ?_ ?_ _
                        all_goals first | exact HKK.out | exact .inr (Nat.le_refl _) | exact .inr (Nat.le_succ _) | exact .inl ⟨hbl, hbh⟩
                    exact AllReady.nil
                  exact AllReady.nil
                exact AllReady.nil
              exact AllReady.nil
            refine AllReady.cons rfl (fun K hK => ?_) ?_
            · go_simp
              refine hK _ _ ?_
              clear hK K
              refine wpAny_ready (rs := [1, 6]) (by kernel_rfl) (by simp) ?_
              refine AllReady.cons rfl (fun K hK => ?_) ?_
              · go_simp
                refine hK _ _ ?_
                clear hK K
                refine wpAny_ready (rs := [6]) (by kernel_rfl) (by simp) ?_
                refine AllReady.cons rfl (fun K hK => ?_) ?_
                · go_simp
                  refine hK _ _ ?_
                  clear hK K
                  refine wpAny_ready (rs := [7]) (by kernel_rfl) (by simp) ?_
                  refine AllReady.cons rfl (fun K hK => ?_) ?_
                  · go_simp
                    refine hK _ _ ?_
                    clear hK K
                    refine wpAny_ready (rs := [8]) (by kernel_rfl) (by simp) ?_
                    refine AllReady.cons rfl (fun K hK => ?_) ?_
                    · go_simp
                      refine hK _ _ ?_
                      clear hK K
                      refine wpAny_done (by kernel_rfl) ?_ _
                      go_wp2
                      refine bodyPost_ret (v := .agg #[.int .i64 at_, .slice (some ⟨bl, 0, none⟩) n c]) (by simp [results, Tryz.results78, go_sem, r0, r1]) rfl ⟨at_, _, n, c, zs.set 0 (wrap64 (z + 1)), rfl, HAT.out, by omega, hcap.1, hmc, ?_, fun a e => .inl ⟨HO1.out.ge a e, HO1.out.hi a e⟩, ?_⟩
                      · obtain ⟨b9, e9, -, -, -, -, ho9⟩ := HOZ.out
                        injection e9 with e9
                        obtain rfl : bl = b9 := by injection e9
                        refine rd_drew (Mem.Own.rd (lo := lo) (c := c) (Mem.Own.top (hi := hi) ?_))
                        exact Own.store (Own.store ho9 _ (.inr (Nat.le_succ_of_le hh))) _ (.inr (Nat.le_succ_of_le hh))
                      · refine KT.drew ?_
                        repeat' refine KT.set_ ?_ ?_ _
                        all_goals first | exact HKK.out | exact .inr (Nat.le_refl _) | exact .inr (Nat.le_succ _) | exact .inl ⟨hbl, hbh⟩
                    exact AllReady.nil
                  exact AllReady.nil
                exact AllReady.nil
              refine AllReady.cons rfl (fun K hK => ?_) ?_
              · go_simp
                refine hK _ _ ?_
                clear hK K
                refine wpAny_ready (rs := [1]) (by kernel_rfl) (by simp) ?_
                refine AllReady.cons rfl (fun K hK => ?_) ?_
                · go_simp
                  refine hK _ _ ?_
                  clear hK K
                  refine wpAny_ready (rs := [7]) (by kernel_rfl) (by simp) ?_
                  refine AllReady.cons rfl (fun K hK => ?_) ?_
                  · go_simp
                    refine hK _ _ ?_
                    clear hK K
                    refine wpAny_ready (rs := [8]) (by kernel_rfl) (by simp) ?_
                    refine AllReady.cons rfl (fun K hK => ?_) ?_
                    · go_simp
                      refine hK _ _ ?_
                      clear hK K
                      refine wpAny_done (by kernel_rfl) ?_ _
                      go_wp2
                      refine bodyPost_ret (v := .agg #[.int .i64 at_, .slice (some ⟨bl, 0, none⟩) n c]) (by simp [results, Tryz.results78, go_sem, r0, r1]) rfl ⟨at_, _, n, c, zs.set 0 (wrap64 (z + 1)), rfl, HAT.out, by omega, hcap.1, hmc, ?_, fun a e => .inl ⟨HO1.out.ge a e, HO1.out.hi a e⟩, ?_⟩
                      · obtain ⟨b9, e9, -, -, -, -, ho9⟩ := HOZ.out
                        injection e9 with e9
                        obtain rfl : bl = b9 := by injection e9
                        refine rd_drew (Mem.Own.rd (lo := lo) (c := c) (Mem.Own.top (hi := hi) ?_))
                        exact Own.store (Own.store ho9 _ (.inr (Nat.le_succ_of_le hh))) _ (.inr (Nat.le_succ_of_le hh))
                      · refine KT.drew ?_
                        repeat' refine KT.set_ ?_ ?_ _
                        all_goals first | exact HKK.out | exact .inr (Nat.le_refl _) | exact .inr (Nat.le_succ _) | exact .inl ⟨hbl, hbh⟩
                    exact AllReady.nil
                  exact AllReady.nil
                exact AllReady.nil
              exact AllReady.nil
            exact AllReady.nil
          exact AllReady.nil
        exact AllReady.nil
      · have hk0b : decide (0 < n) = false := decide_eq_false hk0
        go_wp2
        refine bodyPost_ret (v := .agg #[.int .i64 at_, .slice A n c]) (by simp [results, Tryz.results78, go_sem, r0, r1]) rfl ⟨at_, A, n, c, zs, rfl, HAT.out, by omega, hcap.1, hmc, ?_, fun a e => .inl ⟨HO1.out.ge a e, HO1.out.hi a e⟩, ?_⟩
        · refine Mem.Own.rd (lo := lo) (c := c) (Mem.Own.top (hi := hi) ?_)
          repeat' refine Own.store ?_ _ ?_
          all_goals first | exact HO1.out | exact .inr hh | exact .inr (Nat.le_succ_of_le hh)
        · repeat' refine KT.set_ ?_ ?_ _
          all_goals first | exact HKK.out | exact .inr (Nat.le_refl _) | exact .inr (Nat.le_succ _)
    · have qb1 : (x == 1) = false := beq_eq_false_iff_ne.2 q1
      by_cases q2 : x = 2
      · subst q2
        have HLH := Lib.hid HO1.out.hi
        go_wp2_with (at_builtin; refine wp_push (k := .i64) (z := 1) (by unfold BI; decide) rfl _ _ rfl rfl HO1.out rfl (inI64 (by omega) (by omega)) (by omega) (by omega) ?_; intro A2 c2 w2 hown2 hgr2; have HX2 := Lib.hid (HX1.out.keep (RepA.Gr.kept hgr2 HX1.out.lt (fun a e => by have := HLH.out a e; omega))); have HY2 := Lib.hid (HY1.out.keep (RepA.Gr.kept hgr2 HY1.out.lt (fun a e => by have := HLH.out a e; omega))); have HO2 := Lib.hid hown2; have HK2 := Lib.hid (KT.gr HKK.out hgr2 (fun a e => ⟨HO1.out.ge a e, HLH.out a e⟩)); have hs2 := hgr2.1.size; have HG2 := Lib.hid hgr2; clear hown2 hgr2; have c0' := HX2.out.cell (j := 0) rfl; have c1' := HX2.out.cell (j := 1) rfl; have f0' := HX2.out.warm (j := 0) rfl; have f1' := HX2.out.warm (j := 1) rfl; have r0' := HY2.out.cell (j := 0) rfl; have r1' := HY2.out.cell (j := 1) rfl; have g0' := HY2.out.warm (j := 0) rfl; have g1' := HY2.out.warm (j := 1) rfl)
        have hge2 : ∀ a, A2 = some a → (lo ≤ a.block ∧ a.block < hi) ∨ w.heap.size ≤ a.block := fun a e => by
          rcases HG2.out.2 a e with h | h
          · rcases A with _ | a0
            · cases h
            · have h7 := HLH.out a0 rfl
              have h8 := HO1.out.ge a0 rfl
              have : a0.block = a.block := by simpa using h
              omega
          · exact .inr (by omega)
        refine bodyPost_ret (v := .agg #[.int .i64 at_, .slice A2 (n + 1) c2]) (by simp [results, Tryz.results78, go_sem, r0', r1']) rfl ⟨at_, A2, n + 1, c2, zs ++ [1], rfl, HAT.out, by omega, HO2.out.cap.1, HO2.out.cap.2, ?_, hge2, ?_⟩
        · refine rd_keep HO2.out (by simp [World.setCell]) fun a e => ?_
          have h9 : a.block < hi ∨ w1.heap.size ≤ a.block := by
            rcases HG2.out.2 a e with h | h
            · rcases A with _ | a0
              · cases h
              · have h7 := HLH.out a0 rfl
                have : a0.block = a.block := by simpa using h
                omega
            · omega
          refine (Below.heap_setCell _ _ _ _ ?_).trans ((Below.heap_setCell _ _ _ _ ?_).trans (Below.heap_setCell _ _ _ _ ?_))
          all_goals first | exact (show a.block ≠ w.heap.size by omega) | exact (show a.block ≠ w.heap.size + 1 by omega)
        · repeat' refine KT.set_ ?_ ?_ _
          all_goals first | exact HK2.out | exact .inr (Nat.le_refl _) | exact .inr (Nat.le_succ _)
      · have qb2 : (x == 2) = false := beq_eq_false_iff_ne.2 q2
        go_wp2
        refine bodyPost_ret (v := .agg #[.int .i64 at_, .slice A n c]) (by simp [results, Tryz.results78, go_sem, r0, r1]) rfl ⟨at_, A, n, c, zs, rfl, HAT.out, by omega, hcap.1, hmc, ?_, fun a e => .inl ⟨HO1.out.ge a e, HO1.out.hi a e⟩, ?_⟩
        · refine Mem.Own.rd (lo := lo) (c := c) (Mem.Own.top (hi := hi) ?_)
          repeat' refine Own.store ?_ _ ?_
          all_goals first | exact HO1.out | exact .inr hh | exact .inr (Nat.le_succ_of_le hh)
        · repeat' refine KT.set_ ?_ ?_ _
          all_goals first | exact HKK.out | exact .inr (Nat.le_refl _) | exact .inr (Nat.le_succ _)
theorem rd_on {k : IntKind} {w w' : World} {B n : Nat} {A : Option Addr} {zs : List Int} (h : Rd k w B A n zs) (hk : ∀ a, A = some a → w'.heap[a.block]? = w.heap[a.block]?) : Rd k w' B A n zs := by
  refine ⟨h.len, h.wf, fun hn => ?_⟩
  obtain ⟨b, off, rfl, hlt, hc⟩ := h.cells hn
  exact ⟨b, off, rfl, hlt, fun j hj => (World.cell?_of_block (w := w) (a := ⟨b, off + j, none⟩) (by exact hk ⟨b, off, none⟩ rfl)).trans (hc j hj)⟩
theorem two_set {w : World} {p q : Addr} {u v : Value} {k : Nat} (h1 : k ≠ p.block) (h2 : k ≠ q.block) : ((w.setCell p u).setCell q v).heap[k]? = w.heap[k]? := (Below.heap_setCell _ _ _ _ h2).trans (Below.heap_setCell _ _ _ _ h1)
def DrCE (w : World) (e : Ending) (w' : World) : Prop :=
  ∃ r m cs k ds p, e = .returned (.tuple #[.int .i64 r, .int .i64 m, .agg (List.toArray cs), .agg (List.toArray ds)]) ∧ (0 ≤ r ∧ r < 2147483647) ∧ (0 ≤ m ∧ m ≤ 19) ∧ REntry.rd w' (Lt w'.heap.size) cs k ∧ totEntry k ≤ 200 ∧ RProof.rd w' (Lt w'.heap.size) ds p ∧ totProof p ≤ 100 ∧ Below w.heap.size w w'
end Go.Proofs.YtbhhifoofapgiaaGreat.D11B
