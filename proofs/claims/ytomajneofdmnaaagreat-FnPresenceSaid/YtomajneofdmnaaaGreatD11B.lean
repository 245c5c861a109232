/- The drawing functions of chapter 11. -/
import Derived.Test.YtomajneofdmnaaaGreatD11
import Derived.Test.YtomajneofdmnaaaGreatD10
import Derived.Test.YtomajneofdmnaaaGreatC11S
import Derived.Test.YtomajneofdmnaaaGreatT01
import Derived.Deep.RegionHeld3
namespace Go.Proofs.YtomajneofdmnaaaGreat.D11B
set_option linter.unusedVariables false
set_option maxRecDepth 100000
open Go.RowKit Mem MemS M02 M03 M04 M05 M08 M09 M09F C01 C02 C02B D01 D02 SL C04I C04S C05S C08S C09S C09SP Rep RepA RW R08 Q08 D04 D05 D08 RKA D10 M10 M10F M11 C10S R11 C11S D11
open D09 hiding kept_then
def DrPV (w : World) (e : Ending) (w' : World) : Prop :=
  ∃ A n c l s, e = .returned (.tuple #[.slice A n c, .string s]) ∧ SmX EL 18 l ∧ ByteArray.size s ≤ 16 ∧ FOwnEntry w' w.heap.size w'.heap.size A n c l ∧ Below w.heap.size w w'
set_option maxHeartbeats 1000000 in
theorem drawProveEntry_any (w : World) (A : Option Addr) (n c : Nat) (hn : n ≤ maxLen) (hr : BRow w w.heap.size A n) :
    Calls Tryz.prog 5 #[.slice A n c] w (DrPV w) := by
  go_enter Tryz.func5, Tryz.ntmps5
  go_wp2_with fail
  refine (l1New_any w A n c hn hr).mono ?_
  rintro e w1 ⟨g, rfl, hc1, hb1⟩
  have hgB := hc1.1
  have HC1 := Lib.hid hc1
  have HB1 := Lib.hid hb1
  clear hc1 hb1
  go_wp2_with fail
  refine (l9Any_f _ _ g HC1.out).mono ?_
  rintro e w2 ⟨Al, nl, cl, l, rfl, hsl, hown, hc2, hk2⟩
  have HS := Lib.hid hsl
  have HO := Lib.hid hown
  have HC2 := Lib.hid hc2
  have HB2 := Lib.hid (HB1.out.trans (hk2.below hgB HB1.out.size))
  have hg1 := HC1.out.lt
  have hnl : nl ≤ 18 := by have := hown.len; have := hsl.1.1; omega
  clear hsl hown hc2 hk2
  by_cases h0 : 0 < nl
  · have h0b : decide (0 < nl) = true := decide_eq_true h0
    go_wp2_with fail
    refine (l1Once_any _ _ _ g HC2.out).mono ?_
    rintro e w3 ⟨v, ⟨t, rfl⟩, rfl, hc3, hk3⟩
    have HO3 := Lib.hid ((HO.out.keep (w' := w3) fun i h0 h1 h2 => hk3.block i h0 (by omega)).wide (Nat.le_refl _) hk3.size)
    have HC3 := Lib.hid hc3
    have HB3 := Lib.hid (HB2.out.trans (hk3.below hgB HB2.out.size))
    clear hc3 hk3
    cases t
    · have HC3d := Lib.hid (HC3.out.below ((Below.refl w3.heap.size w3).drew))
      have HKd := Lib.hid (Kept.of_below (g := g) (Below.refl w3.heap.size w3).drew)
      have h0i : (0 : Int) < nl := by omega
      obtain ⟨bl, ol, _, rfl, hbl, -, -⟩ := HO3.out.rd.at h0
      go_wp2_with fail
      refine wp_region_any (by kernel_rfl) ?_
      change wpAny _ _ _ _ _ _ _ (World.drew _)
      refine wpAny_take (i := 0) (v := .slice (some ⟨bl, ol, none⟩) nl cl) rfl (by kernel_rfl) (by kernel_rfl) (by kernel_rfl) (fun _ _ _ h => h) (Or.inl ⟨by rfl, fun w => ?_⟩) ?_
      · go_simp
      refine wpAny_take (i := 1) (v := .slice (some ⟨bl, ol, none⟩) nl cl) rfl (by kernel_rfl) (by kernel_rfl) (by kernel_rfl) (fun _ _ _ h => h) (Or.inl ⟨by rfl, fun w => ?_⟩) ?_
      · go_simp
      refine wpAny_take (i := 2) (v := .pointer (some ⟨g, 0, none⟩)) rfl (by kernel_rfl) (by kernel_rfl) (by kernel_rfl) (fun _ _ _ h => h) (Or.inl ⟨by rfl, fun w => ?_⟩) ?_
      · go_simp
      refine wpAny_take (i := 3) (v := .slice (some ⟨bl, ol, none⟩) nl cl) rfl (by kernel_rfl) (by kernel_rfl) (by kernel_rfl) (fun _ _ _ h => h) (Or.inl ⟨by rfl, fun w => ?_⟩) ?_
      · go_simp
      refine wpAny_ready (rs := [4]) (by kernel_rfl) (by simp) ?_
      refine AllReady.cons rfl (fun K hK => ?_) ?_
      · go_simp
        refine hK _ _ ?_
        clear hK K
        refine wpAny_ready (rs := [5]) (by kernel_rfl) (by simp) ?_
        refine AllReady.cons rfl (fun K hK => ?_) ?_
        · go_simp
          go_at_call 24
          refine (l1Below_pos _ _ _ g h0i HC3d.out).mono ?_
          rintro e w4 ⟨v, ⟨k, hk, rfl⟩, rfl, hc4, hk4⟩
          have HK4 := Lib.hid (HKd.out.trans hk4)
          have HO4 := Lib.hid ((HO3.out.keep (w' := w4) fun i h0 h1 h2 => HK4.out.block i h0 (by omega)).wide (Nat.le_refl _) HK4.out.size)
          have hkn : k < nl := by omega
          obtain ⟨b9, o9, cs, e9, -, hrd, hcc⟩ := HO4.out.rd.at hkn
          injection e9 with e9
          obtain ⟨rfl, rfl⟩ : bl = b9 ∧ ol = o9 := by injection e9 with e1 e2; exact ⟨e1, e2⟩
          obtain ⟨A3, n3, c3, rfl, -⟩ := REntry_rd.1 hrd
          have hsz := (HS.out.1.2 (l.getD k default) (by rw [List.getD, List.getElem?_eq_getElem (show k < l.length by rw [HO3.out.len]; exact hkn), Option.getD_some]; exact List.getElem_mem _)).1
          have d0 : w4.cell? ⟨bl, ol + k * 4, none⟩ = some (.string (l.getD k default).label) := hcc 0 (by decide)
          generalize (l.getD k default).label = s at d0 hsz
          clear hcc hrd hc4 hk4 hk e9
          go_simp
          refine hK _ _ ?_
          clear hK K
          refine wpAny_take (i := 9) (v := .slice (some ⟨bl, ol, none⟩) nl cl) rfl (by kernel_rfl) (by kernel_rfl) (by kernel_rfl) (fun _ _ _ h => h) (Or.inl ⟨by rfl, fun w => ?_⟩) ?_
          · go_simp
          refine wpAny_ready (rs := [6]) (by kernel_rfl) (by simp) ?_
          refine AllReady.cons rfl (fun K hK => ?_) ?_
          · go_simp
            refine hK _ _ ?_
            clear hK K
            refine wpAny_ready (rs := [7]) (by kernel_rfl) (by simp) ?_
            refine AllReady.cons rfl (fun K hK => ?_) ?_
            · go_simp
              refine hK _ _ ?_
              clear hK K
              refine wpAny_ready (rs := [8]) (by kernel_rfl) (by simp) ?_
              refine AllReady.cons rfl (fun K hK => ?_) ?_
              · go_simp
                refine hK _ _ ?_
                clear hK K
                refine wpAny_ready (rs := [10]) (by kernel_rfl) (by simp) ?_
                refine AllReady.cons rfl (fun K hK => ?_) ?_
                · go_simp
                  refine hK _ _ ?_
                  clear hK K
                  refine wpAny_done (by kernel_rfl) ?_ _
                  have HB4 := Lib.hid (HB3.out.trans (HK4.out.below hgB HB3.out.size))
                  go_wp2
                  refine bodyPost_ret (v := .tuple #[.slice (some ⟨bl, ol, none⟩) nl cl, .string s]) (by simp [results, Tryz.results5, go_sem]) rfl ⟨_, nl, cl, l, s, rfl, HS.out, hsz, HO4.out.base HB1.out.size, HB4.out⟩
                exact AllReady.nil
              exact AllReady.nil
            exact AllReady.nil
          exact AllReady.nil
        exact AllReady.nil
      exact AllReady.nil
    · go_wp2_with fail
      refine (l4Any_any _ _ g HC3.out).mono ?_
      rintro e w4 ⟨v, ⟨s, hs, rfl⟩, rfl, hc4, hk4⟩
      have HO4 := Lib.hid ((HO3.out.keep (w' := w4) fun i h0 h1 h2 => hk4.block i h0 (by omega)).wide HB1.out.size hk4.size)
      have HB4 := Lib.hid (HB3.out.trans (hk4.below hgB HB3.out.size))
      clear hc4 hk4
      go_wp2
      refine bodyPost_ret (v := .tuple #[.slice Al nl cl, .string s]) (by simp [results, Tryz.results5, go_sem]) rfl ⟨Al, nl, cl, l, s, rfl, HS.out, hs, HO4.out, HB4.out⟩
  · have h0b : decide (0 < nl) = false := decide_eq_false h0
    go_wp2_with fail
    refine (l4Any_any _ _ g HC2.out).mono ?_
    rintro e w3 ⟨v, ⟨s, hs, rfl⟩, rfl, hc3, hk3⟩
    have HO3 := Lib.hid ((HO.out.keep (w' := w3) fun i h0 h1 h2 => hk3.block i h0 (by omega)).wide HB1.out.size hk3.size)
    have HB3 := Lib.hid (HB2.out.trans (hk3.below hgB HB2.out.size))
    clear hc3 hk3
    go_wp2
    refine bodyPost_ret (v := .tuple #[.slice Al nl cl, .string s]) (by simp [results, Tryz.results5, go_sem]) rfl ⟨Al, nl, cl, l, s, rfl, HS.out, hs, HO3.out, HB3.out⟩
theorem rootOf_in (l : List Entry) : 0 ≤ rootOf l ∧ rootOf l < 2147483647 := hsh_range _
def DrCA (w : World) (e : Ending) (w' : World) : Prop :=
  ∃ A n c l r, e = .returned (.tuple #[.int .i64 r, .slice A n c]) ∧ 0 ≤ r ∧ r ≤ 2147483648 ∧ SmL 18 l ∧ FOwnEntry w' w.heap.size w'.heap.size A n c l ∧ Below w.heap.size w w'
theorem drawCheckAll_any (w : World) (A : Option Addr) (n c : Nat) (hn : n ≤ maxLen) (hr : BRow w w.heap.size A n) :
    Calls Tryz.prog 17 #[.slice A n c] w (DrCA w) := by
  go_enter Tryz.func17, Tryz.ntmps17
  go_wp2_with fail
  refine (l1New_any w A n c hn hr).mono ?_
  rintro e w1 ⟨g, rfl, hc1, hb1⟩
  have hgB := hc1.1
  have HC1 := Lib.hid hc1
  have HB1 := Lib.hid hb1
  clear hc1 hb1
  go_wp2_with fail
  refine (l9Any_any _ _ g HC1.out).mono ?_
  rintro e w2 ⟨Al, nl, cl, l, rfl, hsl, hown, hc2, hk2⟩
  have HS := Lib.hid hsl
  have HO := Lib.hid hown
  have HC2 := Lib.hid hc2
  have HB2 := Lib.hid (HB1.out.trans (hk2.below hgB HB1.out.size))
  have hg1 := HC1.out.lt
  have h12 := hk2.size
  have hro := rootOf_in l
  have HR := Lib.hid (sRootOf_any Al nl cl l w2 hown.rd (by have := smL_fine hsl; omega))
  generalize rootOf l = r at HR hro
  clear hsl hown hc2 hk2
  go_wp2_with fail
  refine HR.out.mono ?_
  rintro e w3 ⟨rfl, hb3⟩
  have HO3 := Lib.hid ((HO.out.below hb3 (Nat.le_refl _)).wide (Nat.le_refl _) hb3.size)
  have HC3 := Lib.hid (HC2.out.below hb3)
  have HB3 := Lib.hid (HB2.out.trans (hb3.mono HB2.out.size))
  have h23 := hb3.size
  clear hb3
  go_wp2_with fail
  refine (l1Below_any 2 _ _ g HC3.out).mono ?_
  rintro e w4 ⟨v, ⟨x, hx0, hx1, rfl⟩, rfl, hc4, hk4⟩
  have HO4 := Lib.hid ((HO3.out.keep (w' := w4) fun i h0 h1 h2 => hk4.block i h0 (by omega)).wide HB1.out.size hk4.size)
  have HB4 := Lib.hid (HB3.out.trans (hk4.below hgB HB3.out.size))
  have hx2 : x ≤ 1 := by omega
  clear hc4 hk4 hx1
  have hw : IntKind.i64.wrap (r + x) = r + x := by rw [IntKind.wrap_i64]; omega
  go_wp2
  refine bodyPost_ret (v := .tuple #[.int .i64 (r + x), .slice Al nl cl]) (by simp [results, Tryz.results17, go_sem]) rfl ⟨Al, nl, cl, l, r + x, rfl, by omega, by omega, HS.out, HO4.out, HB4.out⟩
/-- the row (blocks lo to hi) and the cursor alone have changed -/
structure KT (g lo hi : Nat) (w w' : World) : Prop where
  os : w'.os = w.os
  tape : w'.tape = w.tape
  output : w'.output = w.output
  size : w.heap.size ≤ w'.heap.size
  block : ∀ k, k < w.heap.size → k ≠ g → (k < lo ∨ hi ≤ k) → w'.heap[k]? = w.heap[k]?
theorem KT.of_kept {g lo hi : Nat} {w w' : World} (h : Kept g w w') : KT g lo hi w w' := ⟨h.os, h.tape, h.output, h.size, fun k h1 h2 _ => h.block k h1 h2⟩
theorem KT.set_ {g lo hi : Nat} {w w' : World} (h : KT g lo hi w w') {p : Addr} (hp : (lo ≤ p.block ∧ p.block < hi) ∨ w.heap.size ≤ p.block) (v : Value) : KT g lo hi w (w'.setCell p v) :=
  ⟨h.os, h.tape, h.output, Nat.le_trans h.size (by simp [World.setCell]), fun k h1 h2 h3 => (Below.heap_setCell _ _ _ _ (by omega)).trans (h.block k h1 h2 h3)⟩
theorem KT.gr {g lo hi : Nat} {w w' w'' : World} {A A' : Option Addr} (h : KT g lo hi w w') (hg : Gr A w' A' w'') (hA : ∀ a, A = some a → lo ≤ a.block ∧ a.block < hi) : KT g lo hi w w'' :=
  ⟨hg.1.os.trans h.os, hg.1.tape.trans h.tape, hg.1.output.trans h.output, Nat.le_trans h.size hg.1.size, fun k h1 h2 h3 => (hg.1.block k (Nat.lt_of_lt_of_le h1 h.size) (fun e => by
    rcases A with _ | a
    · simp at e
    · have : a.block = k := by simpa using e.symm
      have := hA a rfl
      omega)).trans (h.block k h1 h2 h3)⟩
theorem KT.alloc {g lo hi : Nat} {w w' : World} (h : KT g lo hi w w') (o : Obj) : KT g lo hi w (w'.alloc o) :=
  ⟨h.os, h.tape, h.output, Nat.le_trans h.size (by simp), fun k h1 h2 h3 => (Below.heap_alloc _ _ _ (Nat.lt_of_lt_of_le h1 h.size)).trans (h.block k h1 h2 h3)⟩
theorem KT.below {g lo hi B : Nat} {w w' : World} (h : KT g lo hi w w') (hg : B ≤ g) (hl : B ≤ lo) (hs : B ≤ w.heap.size) : Below B w w' := ⟨h.os, h.tape, h.output, h.size, fun k hk => h.block k (by omega) (by omega) (.inl (by omega))⟩
theorem KT.box {g lo hi : Nat} {w w' : World} (h : KT g lo hi w w') {b : Nat} {vs : List Value} (hb : Box w b vs) (hg : b ≠ g) (hl : b < lo ∨ hi ≤ b) : Box w' b vs := hb.keep (h.block b hb.lt hg hl)
theorem rd_keep {k : IntKind} {w w' : World} {lo hi n c : Nat} {A : Option Addr} {zs : List Int} (h : Mem.Own k w lo hi A n c zs) (hs : w.heap.size ≤ w'.heap.size) (hk : ∀ a, A = some a → w'.heap[a.block]? = w.heap[a.block]?) : Rd k w' w'.heap.size A n zs := by
  refine ⟨h.rd.len, h.rd.wf, fun hn => ?_⟩
  obtain ⟨b, off, rfl, hlt, hc⟩ := h.top.rd.cells hn
  exact ⟨b, off, rfl, Nat.lt_of_lt_of_le hlt hs, fun j hj => (World.cell?_of_block (w := w) (a := ⟨b, off + j, none⟩) (by exact hk ⟨b, off, none⟩ rfl)).trans (hc j hj)⟩
theorem rd_drew {k : IntKind} {w : World} {n : Nat} {A : Option Addr} {zs : List Int} (h : Rd k w w.heap.size A n zs) : Rd k w.drew w.drew.heap.size A n zs := h.same ⟨rfl, rfl, rfl, rfl⟩
theorem KT.drew {g lo hi : Nat} {w w' : World} (h : KT g lo hi w w') : KT g lo hi w w'.drew := ⟨h.os, h.tape, h.output, h.size, h.block⟩
def DrBP (g lo hi B n : Nat) (w : World) (e : Ending) (w' : World) : Prop :=
  ∃ a' A' n' c' zs', e = .returned (.agg #[.int .i64 a', .slice A' n' c']) ∧ In .i64 a' ∧ n' ≤ n + 1 ∧ n' ≤ c' ∧ c' ≤ maxLen ∧ Rd .i64 w' w'.heap.size A' n' zs' ∧ (∀ a, A' = some a → lo ≤ a.block) ∧ KT g lo hi w w'
set_option maxHeartbeats 2000000 in
theorem l11Bent_any (at_ : Int) (A : Option Addr) (n c : Nat) (zs : List Int) (w : World) (B g lo hi : Nat) (hc : Cur w B g) (hg : g < lo) (hlo : lo ≤ hi) (hh : hi ≤ w.heap.size) (ho : Mem.Own .i64 w lo hi A n c zs) (hn : n ≤ 100) (ha : In .i64 at_) :
    Calls Tryz.prog 49 #[.pointer (some ⟨g, 0, none⟩), .agg #[.int .i64 at_, .slice A n c]] w (DrBP g lo hi B n w) := by
  obtain ⟨V, hV⟩ : ∃ V, V = (w.alloc (.cells #[.int .i64 at_, .slice A n c] 29)).alloc (.cells #[.int .i64 0, .slice none 0 0] 29) := ⟨_, rfl⟩
  have HXa := Lib.hid (show Box V w.heap.size [.int .i64 at_, .slice A n c] from by
    rw [hV]
    exact (Box.new w #[.int .i64 at_, .slice A n c] 29).alloc _)
  have HXb := Lib.hid (show Box V (w.heap.size + 1) [.int .i64 0, .slice none 0 0] from by
    rw [hV]
    have := Box.new (w.alloc (.cells #[.int .i64 at_, .slice A n c] 29)) #[.int .i64 0, .slice none 0 0] 29
    simpa using this)
  have hgl := hc.lt
  have HK0 := Lib.hid (show Kept g w V from by rw [hV]; exact ((Kept.refl g w).alloc _).alloc _)
  have HC0 := Lib.hid (show Cur V B g from by rw [hV]; exact (hc.alloc _).alloc _)
  have HO0 := Lib.hid (show Mem.Own .i64 V lo hi A n c zs from by rw [hV]; exact (ho.alloc _).alloc _)
  have hVs : V.heap.size = w.heap.size + 2 := by rw [hV]; simp
  have HV := Lib.hid hV
  have HAT := Lib.hid ha
  clear hV ho hc ha
  go_enter Tryz.func49, Tryz.ntmps49
  go_wp2_with fail
  rw [show (w.alloc (.cells #[.int .i64 at_, .slice A n c] 29)).alloc (.cells #[.int .i64 0, .slice none 0 0] 29) = V from HV.out.symm]
  refine (l1Below_any 8 V B g HC0.out).mono ?_
  rintro e w1 ⟨v, ⟨x, hx0, hx1, rfl⟩, rfl, hc1, hk1⟩
  have HC1 := Lib.hid hc1
  have HK1 := Lib.hid (HK0.out.trans hk1)
  have HX1 := Lib.hid (bxK HXa.out hk1 (by omega))
  have HY1 := Lib.hid (bxK HXb.out hk1 (by omega))
  have HO1 := Lib.hid (own_kept HO0.out hk1 hg)
  have hs1 := hk1.size
  have hcap := HO1.out.cap
  have hmc := hcap.2
  have hlen := HO1.out.len
  clear hc1 hk1 hx1
  have hne : w.heap.size + 1 ≠ w.heap.size := by omega
  have hne2 : w.heap.size ≠ w.heap.size + 1 := by omega
  by_cases q0 : x = 0
  · subst q0
    have HI := Lib.hid (IRow.new (w := w1) (g := g) (cs := #[.int .i64 (-1), .int .i64 0, .int .i64 1, .int .i64 99]) (t := 3) (n := 4) HC1.out.lt (by decide +kernel) rfl)
    have HCA := Lib.hid (HC1.out.alloc (.cells #[.int .i64 (-1), .int .i64 0, .int .i64 1, .int .i64 99] 3))
    have HKA := Lib.hid ((Kept.refl g w1).alloc (.cells #[.int .i64 (-1), .int .i64 0, .int .i64 1, .int .i64 99] 3))
    go_wp2_with fail
    refine (l1Int_any _ _ _ (by omega) _ B g HCA.out HI.out).mono ?_
    rintro e w2 ⟨v, ⟨z, hz, rfl⟩, rfl, hc2, hk2⟩
    have HK2 := Lib.hid (HKA.out.trans hk2)
    have hX := bxK HX1.out HK2.out (by omega)
    have hY := bxK HY1.out HK2.out (by omega)
    have HO2 := Lib.hid (own_kept HO1.out HK2.out hg)
    have HKK := Lib.hid (KT.of_kept (lo := lo) (hi := hi) (HK1.out.trans HK2.out))
    have hs2 := HK2.out.size
    clear hc2 hk2
    have c0 := hX.cell (j := 0) rfl
    have c1 := hX.cell (j := 1) rfl
    have f0 := hX.warm (j := 0) rfl
    have f1 := hX.warm (j := 1) rfl
    have r0 := hY.cell (j := 0) rfl
    have r1 := hY.cell (j := 1) rfl
    have g0 := hY.warm (j := 0) rfl
    have g1 := hY.warm (j := 1) rfl
    clear hX hY
    go_wp2
    refine bodyPost_ret (v := .agg #[.int .i64 z, .slice A n c]) (by simp [results, Tryz.results49, go_sem, r0, r1]) rfl ⟨z, A, n, c, zs, rfl, in_wf hz, by omega, hcap.1, hmc, ?_, HO1.out.ge, ?_⟩
    · refine Mem.Own.rd (lo := lo) (c := c) (Mem.Own.top (hi := hi) ?_)
      repeat' refine Own.store ?_ _ ?_
      all_goals first | exact HO2.out | exact .inr hh | exact .inr (Nat.le_succ_of_le hh)
    · repeat' refine KT.set_ ?_ ?_ _
      all_goals first | exact HKK.out | exact .inr (Nat.le_refl _) | exact .inr (Nat.le_succ _)
  · have qb0 : (x == 0) = false := beq_eq_false_iff_ne.2 q0
    have c0 := HX1.out.cell (j := 0) rfl
    have c1 := HX1.out.cell (j := 1) rfl
    have f0 := HX1.out.warm (j := 0) rfl
    have f1 := HX1.out.warm (j := 1) rfl
    have r0 := HY1.out.cell (j := 0) rfl
    have r1 := HY1.out.cell (j := 1) rfl
    have g0 := HY1.out.warm (j := 0) rfl
    have g1 := HY1.out.warm (j := 1) rfl
    have HKK := Lib.hid (KT.of_kept (lo := lo) (hi := hi) HK1.out)
    by_cases q1 : x = 1
    · subst q1
      by_cases hk0 : 0 < n
      · have hk0b : decide (0 < n) = true := decide_eq_true hk0
        obtain ⟨bl, rfl, hbl, hbh, dz, fz, -⟩ := HO1.out.set hk0 0 (inI64 (by omega) (by omega))
        obtain ⟨z, hz⟩ : ∃ z, z = zs.getD 0 0 := ⟨_, rfl⟩
        rw [← hz] at dz
        have HOZ := Lib.hid (HO1.out.set hk0 (wrap64 (z + 1)) (in_wf (wf_wrap64 _)))
        clear hz
        have hb1 : bl ≠ w.heap.size := by omega
        have hb2 : bl ≠ w.heap.size + 1 := by omega
        have hk0i : (0 : Int) < n := by omega
        go_wp2_with fail
        refine wp_region_any (by kernel_rfl) ?_
        change wpAny _ _ _ _ _ _ _ (World.drew _)
        refine wpAny_take (i := 0) (v := .pointer (some ⟨w.heap.size, 1, none⟩)) rfl (by kernel_rfl) (by kernel_rfl) (by kernel_rfl) (fun _ _ _ h => h) (Or.inl ⟨by rfl, fun w => ?_⟩) ?_
        · go_simp
        refine wpAny_take (i := 2) (v := .pointer (some ⟨w.heap.size, 1, none⟩)) rfl (by kernel_rfl) (by kernel_rfl) (by kernel_rfl) (fun _ _ _ h => h) (Or.inl ⟨by rfl, fun w => ?_⟩) ?_
        · go_simp
        refine wpAny_ready (rs := [1, 3]) (by kernel_rfl) (by simp) ?_
        refine AllReady.cons rfl (fun K hK => ?_) ?_
        · go_simp
          refine hK _ _ ?_
          clear hK K
          refine wpAny_ready (rs := [3]) (by kernel_rfl) (by simp) ?_
          refine AllReady.cons rfl (fun K hK => ?_) ?_
          · go_simp
            refine hK _ _ ?_
            clear hK K
            refine wpAny_ready (rs := [4]) (by kernel_rfl) (by simp) ?_
            refine AllReady.cons rfl (fun K hK => ?_) ?_
            · go_simp
              refine hK _ _ ?_
              clear hK K
              refine wpAny_ready (rs := [5]) (by kernel_rfl) (by simp) ?_
              refine AllReady.cons rfl (fun K hK => ?_) ?_
              · go_simp
                refine hK _ _ ?_
                clear hK K
                refine wpAny_ready (rs := [6]) (by kernel_rfl) (by simp) ?_
                refine AllReady.cons rfl (fun K hK => ?_) ?_
                · go_simp
                  refine hK _ _ ?_
                  clear hK K
                  refine wpAny_ready (rs := [7]) (by kernel_rfl) (by simp) ?_
                  refine AllReady.cons rfl (fun K hK => ?_) ?_
                  · go_simp
                    refine hK _ _ ?_
                    clear hK K
                    refine wpAny_ready (rs := [8]) (by kernel_rfl) (by simp) ?_
                    refine AllReady.cons rfl (fun K hK => ?_) ?_
                    · go_simp
                      refine hK _ _ ?_
                      clear hK K
                      refine wpAny_done (by kernel_rfl) ?_ _
                      go_wp2
                      refine bodyPost_ret (v := .agg #[.int .i64 at_, .slice (some ⟨bl, 0, none⟩) n c]) (by simp [results, Tryz.results49, go_sem, r0, r1]) rfl ⟨at_, _, n, c, zs.set 0 (wrap64 (z + 1)), rfl, HAT.out, by omega, hcap.1, hmc, ?_, HO1.out.ge, ?_⟩
                      · obtain ⟨b9, e9, -, -, -, -, ho9⟩ := HOZ.out
                        injection e9 with e9
                        obtain rfl : bl = b9 := by injection e9
                        refine rd_drew (Mem.Own.rd (lo := lo) (c := c) (Mem.Own.top (hi := hi) ?_))
                        exact Own.store (Own.store ho9 _ (.inr (Nat.le_succ_of_le hh))) _ (.inr (Nat.le_succ_of_le hh))
                      · refine KT.drew ?_
                        repeat' refine KT.set_ ?_ ?_ _
                        all_goals first | exact HKK.out | exact .inr (Nat.le_refl _) | exact .inr (Nat.le_succ _) | exact .inl ⟨hbl, hbh⟩
                    exact AllReady.nil
                  exact AllReady.nil
                exact AllReady.nil
              exact AllReady.nil
            exact AllReady.nil
          exact AllReady.nil
        refine AllReady.cons rfl (fun K hK => ?_) ?_
        · go_simp
          refine hK _ _ ?_
          clear hK K
          refine wpAny_ready (rs := [1, 4]) (by kernel_rfl) (by simp) ?_
          refine AllReady.cons rfl (fun K hK => ?_) ?_
          · go_simp
            refine hK _ _ ?_
            clear hK K
            refine wpAny_ready (rs := [4]) (by kernel_rfl) (by simp) ?_
            refine AllReady.cons rfl (fun K hK => ?_) ?_
            · go_simp
              refine hK _ _ ?_
              clear hK K
              refine wpAny_ready (rs := [5]) (by kernel_rfl) (by simp) ?_
              refine AllReady.cons rfl (fun K hK => ?_) ?_
              · go_simp
                refine hK _ _ ?_
                clear hK K
                refine wpAny_ready (rs := [6]) (by kernel_rfl) (by simp) ?_
                refine AllReady.cons rfl (fun K hK => ?_) ?_
                · go_simp
                  refine hK _ _ ?_
                  clear hK K
                  refine wpAny_ready (rs := [7]) (by kernel_rfl) (by simp) ?_
                  refine AllReady.cons rfl (fun K hK => ?_) ?_
                  · go_simp
                    refine hK _ _ ?_
                    clear hK K
                    refine wpAny_ready (rs := [8]) (by kernel_rfl) (by simp) ?_
                    refine AllReady.cons rfl (fun K hK => ?_) ?_
                    · go_simp
                      refine hK _ _ ?_
                      clear hK K
                      refine wpAny_done (by kernel_rfl) ?_ _
                      go_wp2
                      refine bodyPost_ret (v := .agg #[.int .i64 at_, .slice (some ⟨bl, 0, none⟩) n c]) (by simp [results, Tryz.results49, go_sem, r0, r1]) rfl ⟨at_, _, n, c, zs.set 0 (wrap64 (z + 1)), rfl, HAT.out, by omega, hcap.1, hmc, ?_, HO1.out.ge, ?_⟩
                      · obtain ⟨b9, e9, -, -, -, -, ho9⟩ := HOZ.out
                        injection e9 with e9
                        obtain rfl : bl = b9 := by injection e9
                        refine rd_drew (Mem.Own.rd (lo := lo) (c := c) (Mem.Own.top (hi := hi) ?_))
                        exact Own.store (Own.store ho9 _ (.inr (Nat.le_succ_of_le hh))) _ (.inr (Nat.le_succ_of_le hh))
                      · refine KT.drew ?_
                        repeat' refine KT.set_ ?_ ?_ _
                        all_goals first | exact HKK.out | exact .inr (Nat.le_refl _) | exact .inr (Nat.le_succ _) | exact .inl ⟨hbl, hbh⟩
                    exact AllReady.nil
                  exact AllReady.nil
                exact AllReady.nil
              exact AllReady.nil
            exact AllReady.nil
          refine AllReady.cons rfl (fun K hK => ?_) ?_
          · go_simp
            refine hK _ _ ?_
            clear hK K
            refine wpAny_ready (rs := [1, 5]) (by kernel_rfl) (by simp) ?_
            refine AllReady.cons rfl (fun K hK => ?_) ?_
            · go_simp
              refine hK _ _ ?_
              clear hK K
              refine wpAny_ready (rs := [5]) (by kernel_rfl) (by simp) ?_
              refine AllReady.cons rfl (fun K hK => ?_) ?_
              · go_simp
                refine hK _ _ ?_
                clear hK K
                refine wpAny_ready (rs := [6]) (by kernel_rfl) (by simp) ?_
                refine AllReady.cons rfl (fun K hK => ?_) ?_
                · go_simp
                  refine hK _ _ ?_
                  clear hK K
                  refine wpAny_ready (rs := [7]) (by kernel_rfl) (by simp) ?_
                  refine AllReady.cons rfl (fun K hK => ?_) ?_
                  · go_simp
                    refine hK _ _ ?_
                    clear hK K
                    refine wpAny_ready (rs := [8]) (by kernel_rfl) (by simp) ?_
                    refine AllReady.cons rfl (fun K hK => ?_) ?_
                    · go_simp
                      refine hK _ _ ?_
                      clear hK K
                      refine wpAny_done (by kernel_rfl) ?_ _
                      go_wp2
                      refine bodyPost_ret (v := .agg #[.int .i64 at_, .slice (some ⟨bl, 0, none⟩) n c]) (by simp [results, Tryz.results49, go_sem, r0, r1]) rfl ⟨at_, _, n, c, zs.set 0 (wrap64 (z + 1)), rfl, HAT.out, by omega, hcap.1, hmc, ?_, HO1.out.ge, ?_⟩
                      · obtain ⟨b9, e9, -, -, -, -, ho9⟩ := HOZ.out
                        injection e9 with e9
                        obtain rfl : bl = b9 := by injection e9
                        refine rd_drew (Mem.Own.rd (lo := lo) (c := c) (Mem.Own.top (hi := hi) ?_))
                        exact Own.store (Own.store ho9 _ (.inr (Nat.le_succ_of_le hh))) _ (.inr (Nat.le_succ_of_le hh))
                      · refine KT.drew ?_
                        repeat' refine KT.set_ ?_ ?_ _
                        all_goals first | exact HKK.out | exact .inr (Nat.le_refl _) | exact .inr (Nat.le_succ _) | exact .inl ⟨hbl, hbh⟩
                    exact AllReady.nil
                  exact AllReady.nil
                exact AllReady.nil
              exact AllReady.nil
            refine AllReady.cons rfl (fun K hK => ?_) ?_
            · go_simp
              refine hK _ _ ?_
              clear hK K
              refine wpAny_ready (rs := [1, 6]) (by kernel_rfl) (by simp) ?_
              refine AllReady.cons rfl (fun K hK => ?_) ?_
              · go_simp
                refine hK _ _ ?_
                clear hK K
                refine wpAny_ready (rs := [6]) (by kernel_rfl) (by simp) ?_
                refine AllReady.cons rfl (fun K hK => ?_) ?_
                · go_simp
                  refine hK _ _ ?_
                  clear hK K
                  refine wpAny_ready (rs := [7]) (by kernel_rfl) (by simp) ?_
                  refine AllReady.cons rfl (fun K hK => ?_) ?_
                  · go_simp
                    refine hK _ _ ?_
                    clear hK K
                    refine wpAny_ready (rs := [8]) (by kernel_rfl) (by simp) ?_
                    refine AllReady.cons rfl (fun K hK => ?_) ?_
                    · go_simp
                      refine hK _ _ ?_
                      clear hK K
                      refine wpAny_done (by kernel_rfl) ?_ _
                      go_wp2
                      refine bodyPost_ret (v := .agg #[.int .i64 at_, .slice (some ⟨bl, 0, none⟩) n c]) (by simp [results, Tryz.results49, go_sem, r0, r1]) rfl ⟨at_, _, n, c, zs.set 0 (wrap64 (z + 1)), rfl, HAT.out, by omega, hcap.1, hmc, ?_, HO1.out.ge, ?_⟩
                      · obtain ⟨b9, e9, -, -, -, -, ho9⟩ := HOZ.out
                        injection e9 with e9
                        obtain rfl : bl = b9 := by injection e9
                        refine rd_drew (Mem.Own.rd (lo := lo) (c := c) (Mem.Own.top (hi := hi) ?_))
                        exact Own.store (Own.store ho9 _ (.inr (Nat.le_succ_of_le hh))) _ (.inr (Nat.le_succ_of_le hh))
                      · refine KT.drew ?_
                        repeat' refine KT.set_ ?_ ?_ _
                        all_goals first | exact HKK.out | exact .inr (Nat.le_refl _) | exact .inr (Nat.le_succ _) | exact .inl ⟨hbl, hbh⟩
                    exact AllReady.nil
                  exact AllReady.nil
                exact AllReady.nil
              refine AllReady.cons rfl (fun K hK => ?_) ?_
              · go_simp
                refine hK _ _ ?_
                clear hK K
                refine wpAny_ready (rs := [1]) (by kernel_rfl) (by simp) ?_
                refine AllReady.cons rfl (fun K hK => ?_) ?_
                · go_simp
                  refine hK _ _ ?_
                  clear hK K
                  refine wpAny_ready (rs := [7]) (by kernel_rfl) (by simp) ?_
                  refine AllReady.cons rfl (fun K hK => ?_) ?_
                  · go_simp
                    refine hK _ _ ?_
                    clear hK K
                    refine wpAny_ready (rs := [8]) (by kernel_rfl) (by simp) ?_
                    refine AllReady.cons rfl (fun K hK => ?_) ?_
                    · go_simp
                      refine hK _ _ ?_
                      clear hK K
                      refine wpAny_done (by kernel_rfl) ?_ _
                      go_wp2
                      refine bodyPost_ret (v := .agg #[.int .i64 at_, .slice (some ⟨bl, 0, none⟩) n c]) (by simp [results, Tryz.results49, go_sem, r0, r1]) rfl ⟨at_, _, n, c, zs.set 0 (wrap64 (z + 1)), rfl, HAT.out, by omega, hcap.1, hmc, ?_, HO1.out.ge, ?_⟩
                      · obtain ⟨b9, e9, -, -, -, -, ho9⟩ := HOZ.out
                        injection e9 with e9
                        obtain rfl : bl = b9 := by injection e9
                        refine rd_drew (Mem.Own.rd (lo := lo) (c := c) (Mem.Own.top (hi := hi) ?_))
                        exact Own.store (Own.store ho9 _ (.inr (Nat.le_succ_of_le hh))) _ (.inr (Nat.le_succ_of_le hh))
                      · refine KT.drew ?_
                        repeat' refine KT.set_ ?_ ?_ _
                        all_goals first | exact HKK.out | exact .inr (Nat.le_refl _) | exact .inr (Nat.le_succ _) | exact .inl ⟨hbl, hbh⟩
                    exact AllReady.nil
                  exact AllReady.nil
                exact AllReady.nil
              exact AllReady.nil
            exact AllReady.nil
          exact AllReady.nil
        exact AllReady.nil
      · have hk0b : decide (0 < n) = false := decide_eq_false hk0
        go_wp2
        refine bodyPost_ret (v := .agg #[.int .i64 at_, .slice A n c]) (by simp [results, Tryz.results49, go_sem, r0, r1]) rfl ⟨at_, A, n, c, zs, rfl, HAT.out, by omega, hcap.1, hmc, ?_, HO1.out.ge, ?_⟩
        · refine Mem.Own.rd (lo := lo) (c := c) (Mem.Own.top (hi := hi) ?_)
          repeat' refine Own.store ?_ _ ?_
          all_goals first | exact HO1.out | exact .inr hh | exact .inr (Nat.le_succ_of_le hh)
        · repeat' refine KT.set_ ?_ ?_ _
          all_goals first | exact HKK.out | exact .inr (Nat.le_refl _) | exact .inr (Nat.le_succ _)
    · have qb1 : (x == 1) = false := beq_eq_false_iff_ne.2 q1
      by_cases q2 : x = 2
      · subst q2
        have HLH := Lib.hid HO1.out.hi
        go_wp2_with (at_builtin; refine wp_push (k := .i64) (z := 1) (by unfold BI; decide) rfl _ _ rfl rfl HO1.out rfl (inI64 (by omega) (by omega)) (by omega) (by omega) ?_; intro A2 c2 w2 hown2 hgr2; have HX2 := Lib.hid (HX1.out.keep (RepA.Gr.kept hgr2 HX1.out.lt (fun a e => by have := HLH.out a e; omega))); have HY2 := Lib.hid (HY1.out.keep (RepA.Gr.kept hgr2 HY1.out.lt (fun a e => by have := HLH.out a e; omega))); have HO2 := Lib.hid hown2; have HK2 := Lib.hid (KT.gr HKK.out hgr2 (fun a e => ⟨HO1.out.ge a e, HLH.out a e⟩)); have hs2 := hgr2.1.size; have HG2 := Lib.hid hgr2; clear hown2 hgr2; have c0' := HX2.out.cell (j := 0) rfl; have c1' := HX2.out.cell (j := 1) rfl; have f0' := HX2.out.warm (j := 0) rfl; have f1' := HX2.out.warm (j := 1) rfl; have r0' := HY2.out.cell (j := 0) rfl; have r1' := HY2.out.cell (j := 1) rfl; have g0' := HY2.out.warm (j := 0) rfl; have g1' := HY2.out.warm (j := 1) rfl)
        refine bodyPost_ret (v := .agg #[.int .i64 at_, .slice A2 (n + 1) c2]) (by simp [results, Tryz.results49, go_sem, r0', r1']) rfl ⟨at_, A2, n + 1, c2, zs ++ [1], rfl, HAT.out, by omega, HO2.out.cap.1, HO2.out.cap.2, ?_, HO2.out.ge, ?_⟩
        · refine rd_keep HO2.out (by simp [World.setCell]) fun a e => ?_
          have h9 : a.block < hi ∨ w1.heap.size ≤ a.block := by
            rcases HG2.out.2 a e with h | h
            · rcases A with _ | a0
              · cases h
              · have h7 := HLH.out a0 rfl
                have : a0.block = a.block := by simpa using h
                omega
            · omega
          refine (Below.heap_setCell _ _ _ _ ?_).trans ((Below.heap_setCell _ _ _ _ ?_).trans (Below.heap_setCell _ _ _ _ ?_))
          all_goals first | exact (show a.block ≠ w.heap.size by omega) | exact (show a.block ≠ w.heap.size + 1 by omega)
        · repeat' refine KT.set_ ?_ ?_ _
          all_goals first | exact HK2.out | exact .inr (Nat.le_refl _) | exact .inr (Nat.le_succ _)
      · have qb2 : (x == 2) = false := beq_eq_false_iff_ne.2 q2
        go_wp2
        refine bodyPost_ret (v := .agg #[.int .i64 at_, .slice A n c]) (by simp [results, Tryz.results49, go_sem, r0, r1]) rfl ⟨at_, A, n, c, zs, rfl, HAT.out, by omega, hcap.1, hmc, ?_, HO1.out.ge, ?_⟩
        · refine Mem.Own.rd (lo := lo) (c := c) (Mem.Own.top (hi := hi) ?_)
          repeat' refine Own.store ?_ _ ?_
          all_goals first | exact HO1.out | exact .inr hh | exact .inr (Nat.le_succ_of_le hh)
        · repeat' refine KT.set_ ?_ ?_ _
          all_goals first | exact HKK.out | exact .inr (Nat.le_refl _) | exact .inr (Nat.le_succ _)
theorem rd_on {k : IntKind} {w w' : World} {B n : Nat} {A : Option Addr} {zs : List Int} (h : Rd k w B A n zs) (hk : ∀ a, A = some a → w'.heap[a.block]? = w.heap[a.block]?) : Rd k w' B A n zs := by
  refine ⟨h.len, h.wf, fun hn => ?_⟩
  obtain ⟨b, off, rfl, hlt, hc⟩ := h.cells hn
  exact ⟨b, off, rfl, hlt, fun j hj => (World.cell?_of_block (w := w) (a := ⟨b, off + j, none⟩) (by exact hk ⟨b, off, none⟩ rfl)).trans (hc j hj)⟩
theorem two_set {w : World} {p q : Addr} {u v : Value} {k : Nat} (h1 : k ≠ p.block) (h2 : k ≠ q.block) : ((w.setCell p u).setCell q v).heap[k]? = w.heap[k]? := (Below.heap_setCell _ _ _ _ h2).trans (Below.heap_setCell _ _ _ _ h1)
def DrCE (w : World) (e : Ending) (w' : World) : Prop :=
  ∃ r m cs k ds p, e = .returned (.tuple #[.int .i64 r, .int .i64 m, .agg (List.toArray cs), .agg (List.toArray ds)]) ∧ (0 ≤ r ∧ r < 2147483647) ∧ (0 ≤ m ∧ m ≤ 19) ∧ REntry.rd w' (Lt w'.heap.size) cs k ∧ totEntry k ≤ 200 ∧ RProof.rd w' (Lt w'.heap.size) ds p ∧ totProof p ≤ 100 ∧ Below w.heap.size w w'
set_option maxHeartbeats 8000000 in
theorem drawCheckEntry_any (w : World) (A : Option Addr) (n c : Nat) (hn : n ≤ maxLen) (hr : BRow w w.heap.size A n) :
    Calls Tryz.prog 16 #[.slice A n c] w (DrCE w) := by
  obtain ⟨V, hV⟩ : ∃ V, V = (w.alloc (.cells #[.string ⟨#[]⟩, .int .i64 0, .int .i64 0, .slice none 0 0] 36)).alloc (.cells #[.int .i64 0, .slice none 0 0] 29) := ⟨_, rfl⟩
  have HB0 := Lib.hid (show Below w.heap.size w V from by rw [hV]; exact ((Below.refl _ _).alloc (Nat.le_refl _) _).alloc (by simp) _)
  have HR := Lib.hid ((hr.below HB0.out).more HB0.out.size)
  have hVs : V.heap.size = w.heap.size + 2 := by rw [hV]; simp
  have HX0 := Lib.hid (show Box V w.heap.size [.string ⟨#[]⟩, .int .i64 0, .int .i64 0, .slice none 0 0] by rw [hV]; exact (Box.new w #[.string ⟨#[]⟩, .int .i64 0, .int .i64 0, .slice none 0 0] 36).alloc _)
  have HZ0 := Lib.hid (show Box V (w.heap.size + 1) [.int .i64 0, .slice none 0 0] by
    rw [hV]
    have := Box.new (w.alloc (.cells #[.string ⟨#[]⟩, .int .i64 0, .int .i64 0, .slice none 0 0] 36)) #[.int .i64 0, .slice none 0 0] 29
    simpa using this)
  have HV := Lib.hid hV
  clear hr hV
  go_enter Tryz.func16, Tryz.ntmps16
  go_wp2_with fail
  rw [show (w.alloc (.cells #[.string ⟨#[]⟩, .int .i64 0, .int .i64 0, .slice none 0 0] 36)).alloc (.cells #[.int .i64 0, .slice none 0 0] 29) = V from HV.out.symm]
  refine (l1New_any _ A n c hn HR.out).mono ?_
  rintro e w1 ⟨g, rfl, hc1, hb1⟩
  have hgB := hc1.1
  have hgl := hc1.lt
  have HC1 := Lib.hid hc1
  have HB1 := Lib.hid (HB0.out.trans (hb1.mono HB0.out.size))
  have HX1 := Lib.hid (HX0.out.below hb1 HX0.out.lt)
  have HZ1 := Lib.hid (HZ0.out.below hb1 HZ0.out.lt)
  clear hc1 hb1
  go_wp2_with fail
  refine (l9List_any _ _ g HC1.out).mono ?_
  rintro e w2 ⟨Al, nl, cl, l, rfl, hsl, hown, hc2, hk2⟩
  have HS := Lib.hid hsl
  have HO := Lib.hid hown
  have HC2 := Lib.hid hc2
  have HB2 := Lib.hid (HB1.out.trans (hk2.below (by omega) HB1.out.size))
  have HX2 := Lib.hid (bxK HX1.out hk2 (by omega))
  have HZ2 := Lib.hid (bxK HZ1.out hk2 (by omega))
  have hw12 := hk2.size
  have hnl : nl ≤ 6 := by have := hown.len; have := hsl.1; omega
  have hro := rootOf_in l
  have htl : totR totEntry l ≤ 1048576 := by have := smL_fine hsl; omega
  have HRT := Lib.hid (fun w9 (h : FRdEntry w9 w9.heap.size Al nl l) => sRootOf_any Al nl cl l w9 h htl)
  have HLEN := Lib.hid hown.len
  generalize rootOf l = r at HRT hro
  clear hsl hown hc2 hk2
  by_cases h0 : nl = 0
  · subst h0
    go_wp2_with fail
    refine (HRT.out _ HO.out.rd).mono ?_
    rintro e w3 ⟨rfl, hb3⟩
    have HC3 := Lib.hid (HC2.out.below hb3)
    have HB3 := Lib.hid (HB2.out.trans (hb3.mono HB2.out.size))
    have HX3 := Lib.hid (HX2.out.below hb3 HX2.out.lt)
    have HZ3 := Lib.hid (HZ2.out.below hb3 HZ2.out.lt)
    have h23 := hb3.size
    clear hb3
    go_wp2_with fail
    refine (l8Any_any _ _ g HC3.out).mono ?_
    rintro e w4 ⟨Ae, ne, ce, kl, kk, kv, kp, rfl, hk, hown4, hc4, hk4⟩
    have hx4 := bxK HX3.out hk4 (by omega)
    have hz4 := bxK HZ3.out hk4 (by omega)
    have HO4 := Lib.hid hown4
    have HB4 := Lib.hid (HB3.out.trans (hk4.below (by omega) HB3.out.size))
    have HSM := Lib.hid hk
    have h34 := hk4.size
    have x0 := hx4.cell (j := 0) rfl
    have x1 := hx4.cell (j := 1) rfl
    have x2 := hx4.cell (j := 2) rfl
    have x3 := hx4.cell (j := 3) rfl
    have y0 := hx4.warm (j := 0) rfl
    have y1 := hx4.warm (j := 1) rfl
    have y2 := hx4.warm (j := 2) rfl
    have y3 := hx4.warm (j := 3) rfl
    have s0 := hz4.cell (j := 0) rfl
    have s1 := hz4.cell (j := 1) rfl
    have u0 := hz4.warm (j := 0) rfl
    have u1 := hz4.warm (j := 1) rfl
    clear hk hown4 hc4 hk4 hx4 hz4
    go_wp2
    refine bodyPost_ret (v := .tuple #[.int .i64 r, .int .i64 0, .agg #[.string kl, .int .i64 kk, .int .i64 kv, .slice Ae ne ce], .agg #[.int .i64 0, .slice none 0 0]]) (by simp [results, Tryz.results16, go_sem, x0, x1, x2, x3, s0, s1]) rfl
      ⟨r, 0, [.string kl, .int .i64 kk, .int .i64 kv, .slice Ae ne ce], ⟨kl, kk, kv, kp⟩, [.int .i64 0, .slice none 0 0], ⟨0, []⟩, rfl, hro, by omega, ?_, sm_fine HSM.out, ?_, by unfold totProof; simp, ?_⟩
    · refine REntry_rd.2 ⟨Ae, ne, ce, rfl, by have := HSM.out.1; unfold InS maxLen; omega, HSM.out.2.1, HSM.out.2.2.1, HO4.out.cap.1, HO4.out.cap.2, ?_⟩
      refine OwnS.rd (lo := w3.heap.size + 1) (c := ce) (OwnS.top (hi := w4.heap.size) ?_)
      repeat' refine OwnS.store ?_ _ ?_
      all_goals first | exact HO4.out | (left; simp; omega)
    · exact RProof_rd.2 ⟨none, 0, 0, rfl, inI64 (by simp) (by simp), by omega, by unfold maxLen; omega, Rd.nil _ _ _ _⟩
    · repeat' refine Below.setCell ?_ ?_ _
      all_goals first | exact HB4.out | (simp; done) | (simp; omega)
  · have h0p : 0 < nl := by omega
    have h0i : (0 : Int) < nl := by omega
    go_wp2_with fail
    refine (l1Below_pos _ _ _ g h0i HC2.out).mono ?_
    rintro e w3 ⟨v, ⟨k, hk, rfl⟩, rfl, hc3, hk3⟩
    have hkn : k < nl := by omega
    have HC3 := Lib.hid hc3
    have HB3 := Lib.hid (HB2.out.trans (hk3.below (by omega) HB2.out.size))
    have HX3 := Lib.hid (bxK HX2.out hk3 (by omega))
    have HZ3 := Lib.hid (bxK HZ2.out hk3 (by omega))
    have HO3 := Lib.hid ((HO.out.keep (w' := w3) fun i h0 h1 h2 => hk3.block i h0 (by omega)).wide (Nat.le_refl _) hk3.size)
    have h23 := hk3.size
    clear hc3 hk3 hk
    obtain ⟨b, off, cs, rfl, hlt, hrd, hcc⟩ := HO3.out.rd.at hkn
    obtain ⟨z, hz⟩ : ∃ z, z = l.getD k default := ⟨_, rfl⟩
    rw [← hz] at hrd
    have hsz : SmE z := HS.out.2 z (by rw [hz, List.getD, List.getElem?_eq_getElem (show k < l.length by rw [HLEN.out]; exact hkn), Option.getD_some]; exact List.getElem_mem _)
    have HK := Lib.hid (l8Copy_any cs z w3 hrd (by have := sm_fine hsz; omega))
    obtain ⟨A3, n3, c3, rfl, -⟩ := REntry_rd.1 hrd
    have d0 : w3.cell? ⟨b, off + k * 4, none⟩ = some (.string z.label) := hcc 0 (by decide)
    have d1 : w3.cell? ⟨b, off + k * 4 + 1, none⟩ = some (.int .i64 z.kind) := hcc 1 (by decide)
    have d2 : w3.cell? ⟨b, off + k * 4 + 2, none⟩ = some (.int .i64 z.value) := hcc 2 (by decide)
    have d3 : w3.cell? ⟨b, off + k * 4 + 3, none⟩ = some (.slice A3 n3 c3) := hcc 3 (by decide)
    have HSZ := Lib.hid hsz
    have HPR := Lib.hid (fun w9 (h : FRdEntry w9 w9.heap.size (some ⟨b, off, none⟩) nl l) => sProveEntry_any (some ⟨b, off, none⟩) nl cl l z.label w9 h htl)
    have hpl : (proveE l z.label).1.path.length ≤ 12 := by
      unfold proveE
      split
      · simp
      · have := pathFor_len (leavesE l) (fndE l z.label)
        rw [leavesE_len] at this
        have := HLEN.out
        simp only
        omega
    clear hcc hrd hz hsz hlt
    generalize proveE l z.label = pr at HPR hpl
    obtain ⟨⟨pa, pp⟩, pb⟩ := pr
    simp only at hpl
    obtain ⟨zl, zk, zv, zp⟩ := z
    simp only at d0 d1 d2 HK HPR
    go_wp2_with fail
    refine HK.out.mono ?_
    rintro e w4 ⟨cs4, rfl, hown4, hb4⟩
    obtain ⟨A4, n4, c4, rfl, g1, g2, g3, ho4⟩ := REntry_own.1 hown4
    simp only at g1 g2 g3 ho4
    have hal : Below w3.heap.size w3 (w4.alloc (.cells #[.string zl, .int .i64 zk, .int .i64 zv, .slice A4 n4 c4] 36)) := hb4.alloc hb4.size _
    have HE4 := Lib.hid (Box.new w4 #[.string zl, .int .i64 zk, .int .i64 zv, .slice A4 n4 c4] 36)
    have HQ4 := Lib.hid (ho4.alloc (.cells #[.string zl, .int .i64 zk, .int .i64 zv, .slice A4 n4 c4] 36))
    have h34 := hb4.size
    generalize hW : w4.alloc (.cells #[.string zl, .int .i64 zk, .int .i64 zv, .slice A4 n4 c4] 36) = W4 at hal HE4 HQ4
    have hW4s : W4.heap.size = w4.heap.size + 1 := by rw [← hW]; simp
    have HC4 := Lib.hid (HC3.out.below hal)
    have HB4 := Lib.hid (HB3.out.trans (hal.mono HB3.out.size))
    have HX4 := Lib.hid (HX3.out.below hal HX3.out.lt)
    have HZ4 := Lib.hid (HZ3.out.below hal HZ3.out.lt)
    have HO4 := Lib.hid (HO3.out.below hal (Nat.le_refl _))
    have HR4 := Lib.hid ((Rds.below HO3.out.rd hal (Nat.le_refl _)).more hal.size)
    have HIN := Lib.hid (show InS zl ∧ In .i64 zk ∧ In .i64 zv from ⟨g1, g2, g3⟩)
    have HWW := Lib.hid hW
    have e0 := HE4.out.cell (j := 0) rfl
    clear hown4 ho4 hb4 hal g1 g2 g3 d0 d1 d2 d3 HK hW
    go_wp2_with fail
    rw [HWW.out]
    refine (HPR.out _ HR4.out).mono ?_
    rintro e w5 ⟨ds, rfl, hown5, hb5⟩
    obtain ⟨Ap, np, cp, rfl, hpa, ho5⟩ := RProof_own.1 hown5
    simp only at hpa ho5
    have hnp := ho5.len
    have hal : Below W4.heap.size W4 (w5.alloc (.cells #[.int .i64 pa, .slice Ap np cp] 29)) := hb5.alloc hb5.size _
    have HP5 := Lib.hid (Box.new w5 #[.int .i64 pa, .slice Ap np cp] 29)
    have HM5 := Lib.hid (ho5.alloc (.cells #[.int .i64 pa, .slice Ap np cp] 29))
    have h45 := hb5.size
    generalize hW : w5.alloc (.cells #[.int .i64 pa, .slice Ap np cp] 29) = W5 at hal HP5 HM5
    have hW5s : W5.heap.size = w5.heap.size + 1 := by rw [← hW]; simp
    have HC5 := Lib.hid (HC4.out.below hal)
    have HB5 := Lib.hid (HB4.out.trans (hal.mono HB4.out.size))
    have HX5 := Lib.hid (HX4.out.below hal HX4.out.lt)
    have HZ5 := Lib.hid (HZ4.out.below hal HZ4.out.lt)
    have HO5 := Lib.hid (HO4.out.below hal (by omega))
    have HE5 := Lib.hid (HE4.out.below hal HE4.out.lt)
    have HQ5 := Lib.hid (HQ4.out.below hal (by omega))
    have HPA := Lib.hid hpa
    have HWW5 := Lib.hid hW
    clear hown5 ho5 hb5 hal hpa hW e0
    go_wp2_with fail
    rw [HWW5.out]
    refine (l1Below_any 6 _ _ g HC5.out).mono ?_
    rintro e w6 ⟨v, ⟨y, hy0, hy1, rfl⟩, rfl, hc6, hk6⟩
    have HC6 := Lib.hid hc6
    have HB6 := Lib.hid (HB5.out.trans (hk6.below (by omega) HB5.out.size))
    have HX6 := Lib.hid (bxK HX5.out hk6 (by omega))
    have HZ6 := Lib.hid (bxK HZ5.out hk6 (by omega))
    have HE6 := Lib.hid (bxK HE5.out hk6 (by omega))
    have HP6 := Lib.hid (bxK HP5.out hk6 (by omega))
    have HO6 := Lib.hid (HO5.out.keep (w' := w6) fun i h0 h1 h2 => hk6.block i h0 (by omega))
    have HQ6 := Lib.hid (ownS_kept HQ5.out hk6 (by omega))
    have HM6 := Lib.hid (own_kept HM5.out hk6 (by omega))
    have h56 := hk6.size
    clear hc6 hk6 hy1
    have hne1 : w4.heap.size ≠ w.heap.size := by omega
    have hne2 : w4.heap.size ≠ w.heap.size + 1 := by omega
    have hne3 : w5.heap.size ≠ w.heap.size := by omega
    have hne4 : w5.heap.size ≠ w.heap.size + 1 := by omega
    have hne5 : w.heap.size ≠ w4.heap.size := by omega
    have hne6 : w.heap.size + 1 ≠ w4.heap.size := by omega
    have hne7 : w.heap.size ≠ w5.heap.size := by omega
    have hne8 : w.heap.size + 1 ≠ w5.heap.size := by omega
    have hmc2 : np ≤ 12 := by omega
    by_cases q0 : y = 0
    · subst q0
      have z0 := HE6.out.cell (j := 2) rfl
      have z1 := HE6.out.warm (j := 2) rfl
      obtain ⟨W, hW⟩ : ∃ W, W = w6.setCell ⟨w4.heap.size, 2, none⟩ (.int .i64 (wrap64 (zv + 1))) := ⟨_, rfl⟩
      have HBs := Lib.hid (show Below w4.heap.size w6 W by rw [hW]; exact Below.setCell (p := ⟨w4.heap.size, 2, none⟩) (Below.refl _ _) (Nat.le_refl _) _)
      have HE := Lib.hid (show Box W w4.heap.size [.string zl, .int .i64 zk, .int .i64 (wrap64 (zv + 1)), .slice A4 n4 c4] by rw [hW]; exact box_set HE6.out (j := 2) (by simp) _)
      have HP := Lib.hid (show Box W w5.heap.size [.int .i64 pa, .slice Ap np cp] by rw [hW]; exact HP6.out.keep (Below.heap_setCell _ _ _ _ (show w5.heap.size ≠ w4.heap.size by omega)))
      have HM := Lib.hid (show Mem.Own .i64 W W4.heap.size w5.heap.size Ap np cp pp by rw [hW]; exact Own.store HM6.out _ (.inl (show w4.heap.size < W4.heap.size by omega)))
      have HWW6 := Lib.hid hW.symm
      clear hW
      go_wp2_with fail
      rw [HWW6.out]
      have HXW := Lib.hid (HX6.out.below HBs.out (by omega))
      have HZW := Lib.hid (HZ6.out.below HBs.out (by omega))
      have HOW := Lib.hid (HO6.out.below HBs.out (by omega))
      have HQW := Lib.hid (HQ6.out.below HBs.out (Nat.le_refl _))
      have HCW := Lib.hid (cur_low HC6.out (HBs.out.mono (by omega)))
      have HBW := Lib.hid (HB6.out.trans (HBs.out.mono (by omega)))
      have h67 := HBs.out.size
      have HRd := Lib.hid (show FRdEntry W.drew W.drew.heap.size (some ⟨b, off, none⟩) nl l from Rds.same (w := W) (HOW.out.rd.more (show w3.heap.size ≤ W.heap.size by omega)) ⟨rfl, rfl, rfl, rfl⟩)
      have q0 := HE.out.cell (j := 0) rfl
      have q1 := HE.out.cell (j := 1) rfl
      have q2 := HE.out.cell (j := 2) rfl
      have q3 := HE.out.cell (j := 3) rfl
      have q4 := HP.out.cell (j := 0) rfl
      have q5 := HP.out.cell (j := 1) rfl
      have hnp2 : np ≤ 100 := by omega
      have hgW : g < w3.heap.size := by omega
      have hm9 : 0 ≤ ((nl : Int) : Int) ∧ ((nl : Int) : Int) ≤ 19 := by omega
      go_region_held3 (fun w' => w'.cell? ⟨w4.heap.size, 0, none⟩ = some (.string zl) ∧ w'.cell? ⟨w4.heap.size, 1, none⟩ = some (.int .i64 zk) ∧ w'.cell? ⟨w4.heap.size, 2, none⟩ = some (.int .i64 (wrap64 (zv + 1))) ∧ w'.cell? ⟨w4.heap.size, 3, none⟩ = some (.slice A4 n4 c4) ∧ w'.cell? ⟨w5.heap.size, 0, none⟩ = some (.int .i64 pa) ∧ w'.cell? ⟨w5.heap.size, 1, none⟩ = some (.slice Ap np cp)) (go_keep) ((first
        | (go_at_call 46; refine (HRT.out W.drew HRd.out).mono ?_; rintro e w8 ⟨rfl, hb8⟩; have hb9 := RKA.below_drew hb8; have HE8 := Lib.hid (HE.out.below hb9 HE.out.lt); have HP8 := Lib.hid (HP.out.below hb9 HP.out.lt); have HX8 := Lib.hid (HXW.out.below hb9 HXW.out.lt); have HZ8 := Lib.hid (HZW.out.below hb9 HZW.out.lt); have HQ8 := Lib.hid (HQW.out.below hb9 (show w4.heap.size ≤ W.heap.size by omega)); have HM8 := Lib.hid (HM.out.below hb9 (show w5.heap.size ≤ W.heap.size by omega)); have HC8 := Lib.hid (HCW.out.below hb9); have HB8 := Lib.hid (HBW.out.trans (hb9.mono HBW.out.size)); have h78 := hb9.size; have k0 := HE8.out.cell (j := 0) rfl; have k1 := HE8.out.cell (j := 1) rfl; have k2 := HE8.out.cell (j := 2) rfl; have k3 := HE8.out.cell (j := 3) rfl; have k4 := HP8.out.cell (j := 0) rfl; have k5 := HP8.out.cell (j := 1) rfl; clear hb8 hb9)
        | (go_at_call 49; refine (l11Bent_any pa Ap np cp pp w8 V.heap.size g W4.heap.size w5.heap.size HC8.out (by omega) h45 (by omega) HM8.out hnp2 HPA.out).mono ?_; rintro e w9 ⟨a', A', n', c', zs', rfl, ha', hn', hnc, hcm, hrd, hge, hkt⟩; have HE9 := Lib.hid (hkt.box HE8.out (by omega) (.inl (by omega))); have HP9 := Lib.hid (hkt.box HP8.out (by omega) (.inr (Nat.le_refl _))); have HX9 := Lib.hid (hkt.box HX8.out (by omega) (.inl (by omega))); have HZ9 := Lib.hid (hkt.box HZ8.out (by omega) (.inl (by omega))); have HQ9 := Lib.hid (HQ8.out.keep (w' := w9) fun i h0 h1 h2 => hkt.block i h0 (by omega) (.inl (by omega))); have HR9 := Lib.hid hrd; have HG9 := Lib.hid hge; have HA9 := Lib.hid ha'; have HB9 := Lib.hid (HB8.out.trans (hkt.below (by omega) (by omega) HB8.out.size)); have h89 := hkt.size; have l0 := HE9.out.cell (j := 0) rfl; have l1 := HE9.out.cell (j := 1) rfl; have l2 := HE9.out.cell (j := 2) rfl; have l3 := HE9.out.cell (j := 3) rfl; have l4 := HP9.out.cell (j := 0) rfl; have l5 := HP9.out.cell (j := 1) rfl; have x0 := HX9.out.cell (j := 0) rfl; have x1 := HX9.out.cell (j := 1) rfl; have x2 := HX9.out.cell (j := 2) rfl; have x3 := HX9.out.cell (j := 3) rfl; have y0 := HX9.out.warm (j := 0) rfl; have y1 := HX9.out.warm (j := 1) rfl; have y2 := HX9.out.warm (j := 2) rfl; have y3 := HX9.out.warm (j := 3) rfl; have s0 := HZ9.out.cell (j := 0) rfl; have s1 := HZ9.out.cell (j := 1) rfl; have u0 := HZ9.out.warm (j := 0) rfl; have u1 := HZ9.out.warm (j := 1) rfl; clear hrd hge hkt ha')))
      clear q0 q1 q2 q3 q4 q5
      go_wp2
      refine bodyPost_ret (v := .tuple #[.int .i64 r, .int .i64 (nl : Int), .agg #[.string zl, .int .i64 zk, .int .i64 (wrap64 (zv + 1)), .slice A4 n4 c4], .agg #[.int .i64 a', .slice A' n' c']]) (by simp [results, Tryz.results16, go_sem, x0, x1, x2, x3, s0, s1]) rfl
        ⟨r, (nl : Int), [.string zl, .int .i64 zk, .int .i64 (wrap64 (zv + 1)), .slice A4 n4 c4], ⟨zl, zk, (wrap64 (zv + 1)), zp⟩, [.int .i64 a', .slice A' n' c'], ⟨a', zs'⟩, rfl, hro, hm9, ?_, sm_fine (k := ⟨zl, zk, zv, zp⟩) HSZ.out, ?_, by have := HR9.out.len; unfold totProof; simp only; omega, ?_⟩
      · refine REntry_rd.2 ⟨A4, n4, c4, rfl, HIN.out.1, HIN.out.2.1, (in_wf (wf_wrap64 _)), HQ9.out.cap.1, HQ9.out.cap.2, ?_⟩
        refine OwnS.rd (lo := w3.heap.size) (c := c4) (OwnS.top (hi := w4.heap.size) ?_)
        repeat' refine OwnS.store ?_ _ ?_
        all_goals first | exact HQ9.out | exact .inl (show w.heap.size < w3.heap.size by omega) | exact .inl (show w.heap.size + 1 < w3.heap.size by omega)
      · refine RProof_rd.2 ⟨A', n', c', rfl, HA9.out, hnc, hcm, (rd_on HR9.out fun a e => ?_).more (by simp [World.setCell])⟩
        have := HG9.out a e
        repeat' refine (Below.heap_setCell _ _ _ _ ?_).trans ?_
        all_goals first | rfl | exact (show a.block ≠ w.heap.size by omega) | exact (show a.block ≠ w.heap.size + 1 by omega)
      · repeat' refine Below.setCell ?_ ?_ _
        all_goals first | exact HB9.out | (simp; done) | (simp; omega)
    · have qb0 : (y == 0) = false := beq_eq_false_iff_ne.2 q0
      obtain ⟨W, hW⟩ : ∃ W, W = w6 := ⟨_, rfl⟩
      have HBs := Lib.hid (show Below w4.heap.size w6 W by rw [hW]; exact Below.refl _ _)
      have HE := Lib.hid (show Box W w4.heap.size [.string zl, .int .i64 zk, .int .i64 zv, .slice A4 n4 c4] by rw [hW]; exact HE6.out)
      have HP := Lib.hid (show Box W w5.heap.size [.int .i64 pa, .slice Ap np cp] by rw [hW]; exact HP6.out)
      have HM := Lib.hid (show Mem.Own .i64 W W4.heap.size w5.heap.size Ap np cp pp by rw [hW]; exact HM6.out)
      have HWW6 := Lib.hid hW.symm
      clear hW
      by_cases q1 : y = 1
      · subst q1
        go_wp2_with fail
        rw [HWW6.out]
        have HXW := Lib.hid (HX6.out.below HBs.out (by omega))
        have HZW := Lib.hid (HZ6.out.below HBs.out (by omega))
        have HOW := Lib.hid (HO6.out.below HBs.out (by omega))
        have HQW := Lib.hid (HQ6.out.below HBs.out (Nat.le_refl _))
        have HCW := Lib.hid (cur_low HC6.out (HBs.out.mono (by omega)))
        have HBW := Lib.hid (HB6.out.trans (HBs.out.mono (by omega)))
        have h67 := HBs.out.size
        have HRd := Lib.hid (show FRdEntry W.drew W.drew.heap.size (some ⟨b, off, none⟩) nl l from Rds.same (w := W) (HOW.out.rd.more (show w3.heap.size ≤ W.heap.size by omega)) ⟨rfl, rfl, rfl, rfl⟩)
        have q0 := HE.out.cell (j := 0) rfl
        have q1 := HE.out.cell (j := 1) rfl
        have q2 := HE.out.cell (j := 2) rfl
        have q3 := HE.out.cell (j := 3) rfl
        have q4 := HP.out.cell (j := 0) rfl
        have q5 := HP.out.cell (j := 1) rfl
        have hnp2 : np ≤ 100 := by omega
        have hgW : g < w3.heap.size := by omega
        have hm9 : 0 ≤ (((nl : Int) + 1) : Int) ∧ (((nl : Int) + 1) : Int) ≤ 19 := by omega
        go_region_held3 (fun w' => w'.cell? ⟨w4.heap.size, 0, none⟩ = some (.string zl) ∧ w'.cell? ⟨w4.heap.size, 1, none⟩ = some (.int .i64 zk) ∧ w'.cell? ⟨w4.heap.size, 2, none⟩ = some (.int .i64 zv) ∧ w'.cell? ⟨w4.heap.size, 3, none⟩ = some (.slice A4 n4 c4) ∧ w'.cell? ⟨w5.heap.size, 0, none⟩ = some (.int .i64 pa) ∧ w'.cell? ⟨w5.heap.size, 1, none⟩ = some (.slice Ap np cp)) (go_keep) ((first
          | (go_at_call 46; refine (HRT.out W.drew HRd.out).mono ?_; rintro e w8 ⟨rfl, hb8⟩; have hb9 := RKA.below_drew hb8; have HE8 := Lib.hid (HE.out.below hb9 HE.out.lt); have HP8 := Lib.hid (HP.out.below hb9 HP.out.lt); have HX8 := Lib.hid (HXW.out.below hb9 HXW.out.lt); have HZ8 := Lib.hid (HZW.out.below hb9 HZW.out.lt); have HQ8 := Lib.hid (HQW.out.below hb9 (show w4.heap.size ≤ W.heap.size by omega)); have HM8 := Lib.hid (HM.out.below hb9 (show w5.heap.size ≤ W.heap.size by omega)); have HC8 := Lib.hid (HCW.out.below hb9); have HB8 := Lib.hid (HBW.out.trans (hb9.mono HBW.out.size)); have h78 := hb9.size; have k0 := HE8.out.cell (j := 0) rfl; have k1 := HE8.out.cell (j := 1) rfl; have k2 := HE8.out.cell (j := 2) rfl; have k3 := HE8.out.cell (j := 3) rfl; have k4 := HP8.out.cell (j := 0) rfl; have k5 := HP8.out.cell (j := 1) rfl; clear hb8 hb9)
          | (go_at_call 49; refine (l11Bent_any pa Ap np cp pp w8 V.heap.size g W4.heap.size w5.heap.size HC8.out (by omega) h45 (by omega) HM8.out hnp2 HPA.out).mono ?_; rintro e w9 ⟨a', A', n', c', zs', rfl, ha', hn', hnc, hcm, hrd, hge, hkt⟩; have HE9 := Lib.hid (hkt.box HE8.out (by omega) (.inl (by omega))); have HP9 := Lib.hid (hkt.box HP8.out (by omega) (.inr (Nat.le_refl _))); have HX9 := Lib.hid (hkt.box HX8.out (by omega) (.inl (by omega))); have HZ9 := Lib.hid (hkt.box HZ8.out (by omega) (.inl (by omega))); have HQ9 := Lib.hid (HQ8.out.keep (w' := w9) fun i h0 h1 h2 => hkt.block i h0 (by omega) (.inl (by omega))); have HR9 := Lib.hid hrd; have HG9 := Lib.hid hge; have HA9 := Lib.hid ha'; have HB9 := Lib.hid (HB8.out.trans (hkt.below (by omega) (by omega) HB8.out.size)); have h89 := hkt.size; have l0 := HE9.out.cell (j := 0) rfl; have l1 := HE9.out.cell (j := 1) rfl; have l2 := HE9.out.cell (j := 2) rfl; have l3 := HE9.out.cell (j := 3) rfl; have l4 := HP9.out.cell (j := 0) rfl; have l5 := HP9.out.cell (j := 1) rfl; have x0 := HX9.out.cell (j := 0) rfl; have x1 := HX9.out.cell (j := 1) rfl; have x2 := HX9.out.cell (j := 2) rfl; have x3 := HX9.out.cell (j := 3) rfl; have y0 := HX9.out.warm (j := 0) rfl; have y1 := HX9.out.warm (j := 1) rfl; have y2 := HX9.out.warm (j := 2) rfl; have y3 := HX9.out.warm (j := 3) rfl; have s0 := HZ9.out.cell (j := 0) rfl; have s1 := HZ9.out.cell (j := 1) rfl; have u0 := HZ9.out.warm (j := 0) rfl; have u1 := HZ9.out.warm (j := 1) rfl; clear hrd hge hkt ha')))
        clear q0 q1 q2 q3 q4 q5
        go_wp2
        refine bodyPost_ret (v := .tuple #[.int .i64 r, .int .i64 ((nl : Int) + 1), .agg #[.string zl, .int .i64 zk, .int .i64 zv, .slice A4 n4 c4], .agg #[.int .i64 a', .slice A' n' c']]) (by simp [results, Tryz.results16, go_sem, x0, x1, x2, x3, s0, s1]) rfl
          ⟨r, ((nl : Int) + 1), [.string zl, .int .i64 zk, .int .i64 zv, .slice A4 n4 c4], ⟨zl, zk, zv, zp⟩, [.int .i64 a', .slice A' n' c'], ⟨a', zs'⟩, rfl, hro, hm9, ?_, sm_fine (k := ⟨zl, zk, zv, zp⟩) HSZ.out, ?_, by have := HR9.out.len; unfold totProof; simp only; omega, ?_⟩
        · refine REntry_rd.2 ⟨A4, n4, c4, rfl, HIN.out.1, HIN.out.2.1, HIN.out.2.2, HQ9.out.cap.1, HQ9.out.cap.2, ?_⟩
          refine OwnS.rd (lo := w3.heap.size) (c := c4) (OwnS.top (hi := w4.heap.size) ?_)
          repeat' refine OwnS.store ?_ _ ?_
          all_goals first | exact HQ9.out | exact .inl (show w.heap.size < w3.heap.size by omega) | exact .inl (show w.heap.size + 1 < w3.heap.size by omega)
        · refine RProof_rd.2 ⟨A', n', c', rfl, HA9.out, hnc, hcm, (rd_on HR9.out fun a e => ?_).more (by simp [World.setCell])⟩
          have := HG9.out a e
          repeat' refine (Below.heap_setCell _ _ _ _ ?_).trans ?_
          all_goals first | rfl | exact (show a.block ≠ w.heap.size by omega) | exact (show a.block ≠ w.heap.size + 1 by omega)
        · repeat' refine Below.setCell ?_ ?_ _
          all_goals first | exact HB9.out | (simp; done) | (simp; omega)
      · have qb1 : (y == 1) = false := beq_eq_false_iff_ne.2 q1
        go_wp2_with fail
        rw [HWW6.out]
        have HXW := Lib.hid (HX6.out.below HBs.out (by omega))
        have HZW := Lib.hid (HZ6.out.below HBs.out (by omega))
        have HOW := Lib.hid (HO6.out.below HBs.out (by omega))
        have HQW := Lib.hid (HQ6.out.below HBs.out (Nat.le_refl _))
        have HCW := Lib.hid (cur_low HC6.out (HBs.out.mono (by omega)))
        have HBW := Lib.hid (HB6.out.trans (HBs.out.mono (by omega)))
        have h67 := HBs.out.size
        have HRd := Lib.hid (show FRdEntry W.drew W.drew.heap.size (some ⟨b, off, none⟩) nl l from Rds.same (w := W) (HOW.out.rd.more (show w3.heap.size ≤ W.heap.size by omega)) ⟨rfl, rfl, rfl, rfl⟩)
        have q0 := HE.out.cell (j := 0) rfl
        have q1 := HE.out.cell (j := 1) rfl
        have q2 := HE.out.cell (j := 2) rfl
        have q3 := HE.out.cell (j := 3) rfl
        have q4 := HP.out.cell (j := 0) rfl
        have q5 := HP.out.cell (j := 1) rfl
        have hnp2 : np ≤ 100 := by omega
        have hgW : g < w3.heap.size := by omega
        have hm9 : 0 ≤ ((nl : Int) : Int) ∧ ((nl : Int) : Int) ≤ 19 := by omega
        go_region_held3 (fun w' => w'.cell? ⟨w4.heap.size, 0, none⟩ = some (.string zl) ∧ w'.cell? ⟨w4.heap.size, 1, none⟩ = some (.int .i64 zk) ∧ w'.cell? ⟨w4.heap.size, 2, none⟩ = some (.int .i64 zv) ∧ w'.cell? ⟨w4.heap.size, 3, none⟩ = some (.slice A4 n4 c4) ∧ w'.cell? ⟨w5.heap.size, 0, none⟩ = some (.int .i64 pa) ∧ w'.cell? ⟨w5.heap.size, 1, none⟩ = some (.slice Ap np cp)) (go_keep) ((first
          | (go_at_call 46; refine (HRT.out W.drew HRd.out).mono ?_; rintro e w8 ⟨rfl, hb8⟩; have hb9 := RKA.below_drew hb8; have HE8 := Lib.hid (HE.out.below hb9 HE.out.lt); have HP8 := Lib.hid (HP.out.below hb9 HP.out.lt); have HX8 := Lib.hid (HXW.out.below hb9 HXW.out.lt); have HZ8 := Lib.hid (HZW.out.below hb9 HZW.out.lt); have HQ8 := Lib.hid (HQW.out.below hb9 (show w4.heap.size ≤ W.heap.size by omega)); have HM8 := Lib.hid (HM.out.below hb9 (show w5.heap.size ≤ W.heap.size by omega)); have HC8 := Lib.hid (HCW.out.below hb9); have HB8 := Lib.hid (HBW.out.trans (hb9.mono HBW.out.size)); have h78 := hb9.size; have k0 := HE8.out.cell (j := 0) rfl; have k1 := HE8.out.cell (j := 1) rfl; have k2 := HE8.out.cell (j := 2) rfl; have k3 := HE8.out.cell (j := 3) rfl; have k4 := HP8.out.cell (j := 0) rfl; have k5 := HP8.out.cell (j := 1) rfl; clear hb8 hb9)
          | (go_at_call 49; refine (l11Bent_any pa Ap np cp pp w8 V.heap.size g W4.heap.size w5.heap.size HC8.out (by omega) h45 (by omega) HM8.out hnp2 HPA.out).mono ?_; rintro e w9 ⟨a', A', n', c', zs', rfl, ha', hn', hnc, hcm, hrd, hge, hkt⟩; have HE9 := Lib.hid (hkt.box HE8.out (by omega) (.inl (by omega))); have HP9 := Lib.hid (hkt.box HP8.out (by omega) (.inr (Nat.le_refl _))); have HX9 := Lib.hid (hkt.box HX8.out (by omega) (.inl (by omega))); have HZ9 := Lib.hid (hkt.box HZ8.out (by omega) (.inl (by omega))); have HQ9 := Lib.hid (HQ8.out.keep (w' := w9) fun i h0 h1 h2 => hkt.block i h0 (by omega) (.inl (by omega))); have HR9 := Lib.hid hrd; have HG9 := Lib.hid hge; have HA9 := Lib.hid ha'; have HB9 := Lib.hid (HB8.out.trans (hkt.below (by omega) (by omega) HB8.out.size)); have h89 := hkt.size; have l0 := HE9.out.cell (j := 0) rfl; have l1 := HE9.out.cell (j := 1) rfl; have l2 := HE9.out.cell (j := 2) rfl; have l3 := HE9.out.cell (j := 3) rfl; have l4 := HP9.out.cell (j := 0) rfl; have l5 := HP9.out.cell (j := 1) rfl; have x0 := HX9.out.cell (j := 0) rfl; have x1 := HX9.out.cell (j := 1) rfl; have x2 := HX9.out.cell (j := 2) rfl; have x3 := HX9.out.cell (j := 3) rfl; have y0 := HX9.out.warm (j := 0) rfl; have y1 := HX9.out.warm (j := 1) rfl; have y2 := HX9.out.warm (j := 2) rfl; have y3 := HX9.out.warm (j := 3) rfl; have s0 := HZ9.out.cell (j := 0) rfl; have s1 := HZ9.out.cell (j := 1) rfl; have u0 := HZ9.out.warm (j := 0) rfl; have u1 := HZ9.out.warm (j := 1) rfl; clear hrd hge hkt ha')))
        clear q0 q1 q2 q3 q4 q5
        go_wp2
        refine bodyPost_ret (v := .tuple #[.int .i64 r, .int .i64 (nl : Int), .agg #[.string zl, .int .i64 zk, .int .i64 zv, .slice A4 n4 c4], .agg #[.int .i64 a', .slice A' n' c']]) (by simp [results, Tryz.results16, go_sem, x0, x1, x2, x3, s0, s1]) rfl
          ⟨r, (nl : Int), [.string zl, .int .i64 zk, .int .i64 zv, .slice A4 n4 c4], ⟨zl, zk, zv, zp⟩, [.int .i64 a', .slice A' n' c'], ⟨a', zs'⟩, rfl, hro, hm9, ?_, sm_fine (k := ⟨zl, zk, zv, zp⟩) HSZ.out, ?_, by have := HR9.out.len; unfold totProof; simp only; omega, ?_⟩
        · refine REntry_rd.2 ⟨A4, n4, c4, rfl, HIN.out.1, HIN.out.2.1, HIN.out.2.2, HQ9.out.cap.1, HQ9.out.cap.2, ?_⟩
          refine OwnS.rd (lo := w3.heap.size) (c := c4) (OwnS.top (hi := w4.heap.size) ?_)
          repeat' refine OwnS.store ?_ _ ?_
          all_goals first | exact HQ9.out | exact .inl (show w.heap.size < w3.heap.size by omega) | exact .inl (show w.heap.size + 1 < w3.heap.size by omega)
        · refine RProof_rd.2 ⟨A', n', c', rfl, HA9.out, hnc, hcm, (rd_on HR9.out fun a e => ?_).more (by simp [World.setCell])⟩
          have := HG9.out a e
          repeat' refine (Below.heap_setCell _ _ _ _ ?_).trans ?_
          all_goals first | rfl | exact (show a.block ≠ w.heap.size by omega) | exact (show a.block ≠ w.heap.size + 1 by omega)
        · repeat' refine Below.setCell ?_ ?_ _
          all_goals first | exact HB9.out | (simp; done) | (simp; omega)
end Go.Proofs.YtomajneofdmnaaaGreat.D11B
