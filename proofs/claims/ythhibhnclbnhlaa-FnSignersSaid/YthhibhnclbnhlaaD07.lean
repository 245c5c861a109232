/- The drawing functions of chapter 7 that the statements of promise 7 call. -/
import Derived.Test.YthhibhnclbnhlaaD06K
import Derived.Test.YthhibhnclbnhlaaC07S
import Derived.Test.YthhibhnclbnhlaaT07
import Derived.Deep.RegionHeld3
namespace Go.Proofs.Ythhibhnclbnhlaa.D07
set_option linter.unusedVariables false
set_option maxRecDepth 100000
open Go.RowKit Mem MemS M02 C01 C02 C02B D01 D02 SL Rep RepA R06 R07 Flat M06 M07 C06S C07S T07 M03 D06 D06K
/-- a drawn message -/
def Msg (l : List Int) : Prop := l.length ≤ 3 ∧ ∀ v ∈ l, 0 ≤ v ∧ v ≤ 8
def DrM (B g : Nat) (w : World) (e : Ending) (w' : World) : Prop := ∃ A n c l, e = .returned (.slice A n c) ∧ n ≤ 3 ∧ (∀ v ∈ l, 0 ≤ v ∧ v ≤ 8) ∧ Own .i64 w' w.heap.size w'.heap.size A n c l ∧ Cur w' B g ∧ Kept g w w'
theorem l7Message_any (w : World) (B g : Nat) (hc : Cur w B g) : Calls Try.prog 52 #[.pointer (some ⟨g, 0, none⟩)] w (DrM B g w) := by
  have hgl := hc.lt
  have HO := Lib.hid (Own.lit0 .i64 (lo := w.heap.size) w (Nat.le_refl _))
  have HC := Lib.hid (hc.alloc (.cells #[] 3))
  have HK := Lib.hid ((Kept.refl g w).alloc (.cells #[] 3))
  clear hc
  go_enter Try.func52, Try.ntmps52
  go_wp2_with fail
  refine (l1Below_any 4 _ _ g HC.out).mono ?_
  rintro e w2 ⟨v, ⟨x, hx0, hx1, rfl⟩, rfl, hc2, hk2⟩
  have HO2 := Lib.hid (own_kept HO.out hk2 hgl).top
  have HC2 := Lib.hid hc2
  have HK2 := Lib.hid (HK.out.trans hk2)
  clear hc2 hk2
  have hx3 : x ≤ 3 := by omega
  clear hx1
  go_wp2
  go_loopw [3, 4] (fun v i wr => ∃ (A1 : Option Addr) (c1 m : Nat) (y : Int) (d : List Int), v = .slice A1 m c1 ∧ i = .int .i64 y ∧ 0 ≤ y ∧ (m : Int) + y ≤ 3 ∧ (∀ z ∈ d, 0 ≤ z ∧ z ≤ 8) ∧ Own .i64 wr w.heap.size wr.heap.size A1 m c1 d ∧ Cur wr B g ∧ Kept g w wr) (fun _ i _ => (intOf i).toNat)
  case atStart => exact ⟨_, 0, 0, x, [], rfl, rfl, by omega, by omega, by simp, HO2.out, HC2.out, HK2.out⟩
  case round =>
    obtain ⟨A1, c1, m, y, d, rfl, rfl, hy0, hy1, hdd, hown, hcur, hkept⟩ := hrel
    have HDD := Lib.hid hdd
    clear hdd
    have HOr := Lib.hid hown
    have HCr := Lib.hid hcur
    have HKr := Lib.hid hkept
    clear hown hcur hkept
    by_cases hyp : y > 0
    · go_wp2_with fail
      refine (l1Below_any 9 _ _ g HCr.out).mono ?_
      rintro e w3 ⟨v, ⟨z, hz0, hz1, rfl⟩, rfl, hc3, hk3⟩
      have HO3 := Lib.hid (own_kept HOr.out hk3 hgl).top
      have HC3 := Lib.hid hc3
      have HK3 := Lib.hid (HKr.out.trans hk3)
      have hz9 : z ≤ 8 := by omega
      clear hc3 hk3 hz1
      go_wp2_with (at_builtin; refine wp_push (k := .i64) (by unfold BI; decide) rfl _ _ rfl rfl HO3.out rfl (z := z) (inI64 (by omega) (by omega)) (by omega) HK3.out.size ?_; intro A2 c2 w4 hown4 hgr4)
      have hb4 := hgr4.below HK3.out.size HO3.out.ge
      go_roundw
      case rel => exact ⟨A2, c2, m + 1, y - 1, d ++ [z], rfl, by go_num, by omega, by omega, fun q hq => by
        rcases List.mem_append.1 hq with h | h
        · exact HDD.out q h
        · rw [List.mem_singleton.1 h]; omega, hown4, cur_low HC3.out (hb4.mono (by omega)), kept_then HK3.out hb4⟩
      case measure => simp [intOf]; omega
    · go_wp2
      go_ret
      exact ⟨A1, m, c1, d, rfl, by omega, HDD.out, HOr.out, HCr.out, HKr.out⟩
/-- a drawn list of held keys, a set of keys, a message -/
def DrS (w : World) (e : Ending) (w' : World) : Prop :=
  ∃ Ah nh ch lh A n c l nd Am nm cm m, e = .returned (.tuple #[.slice Ah nh ch, .agg #[.slice A n c, .int .i64 nd], .slice Am nm cm]) ∧ nh ≤ 5 ∧ Own .i64 w' w.heap.size w'.heap.size Ah nh ch lh ∧ AnyK l nd ∧ Own .i64 w' w.heap.size w'.heap.size A n c l ∧
    Msg m ∧ Own .i64 w' w.heap.size w'.heap.size Am nm cm m ∧ Below w.heap.size w w'
set_option maxHeartbeats 1000000 in
theorem drawSignBy_any (w : World) (A : Option Addr) (n c : Nat) (hn : n ≤ maxLen) (hr : BRow w w.heap.size A n) :
    Calls Try.prog 12 #[.slice A n c] w (DrS w) := by
  have HR := Lib.hid ((hr.below ((Below.refl w.heap.size w).alloc (Nat.le_refl _) (.cells #[.slice none 0 0, .int .i64 0] 26))).more (show w.heap.size ≤ (w.alloc (.cells #[.slice none 0 0, .int .i64 0] 26)).heap.size by simp))
  have HB0 := Lib.hid ((Below.refl w.heap.size w).alloc (Nat.le_refl _) (.cells #[.slice none 0 0, .int .i64 0] 26))
  have HX0 := Lib.hid (Box.new w #[.slice none 0 0, .int .i64 0] 26)
  clear hr
  go_enter Try.func12, Try.ntmps12
  go_wp2_with fail
  refine (l1New_any _ A n c hn HR.out).mono ?_
  rintro e w1 ⟨g, rfl, hc1, hb1⟩
  have hgB := hc1.1
  have hgl := hc1.lt
  have hwg : w.heap.size < g := by simp at hgB; omega
  have HC1 := Lib.hid hc1
  have HB1 := Lib.hid (HB0.out.trans (hb1.mono (by simp)))
  have HX1 := Lib.hid (HX0.out.below hb1 (by simp))
  clear hc1 hb1
  go_wp2_with fail
  refine (l6Held_any _ _ g HC1.out).mono ?_
  rintro e w2 ⟨Ah, nh, ch, lh, rfl, hnh, hoh, hc2, hk2⟩
  have hz2 : w1.heap.size ≤ w2.heap.size := hk2.size
  have HOh := Lib.hid hoh
  have HC2 := Lib.hid hc2
  have HB2 := Lib.hid (HB1.out.trans (hk2.below (by omega) HB1.out.size))
  have HX2 := Lib.hid (box_kept HX1.out hk2 (by omega))
  clear hoh hc2 hk2
  go_wp2_with fail
  refine (l6Any_any _ _ g HC2.out).mono ?_
  rintro e w3 ⟨A2, n2, c2, l, nd, rfl, hk, hown, hc3, hk3⟩
  have hz3 : w2.heap.size ≤ w3.heap.size := hk3.size
  have HK := Lib.hid hk
  have HO3 := Lib.hid (hown.alloc (.cells #[.slice A2 n2 c2, .int .i64 nd] 26))
  have HOh3 := Lib.hid ((own_kept HOh.out hk3 (by omega)).alloc (.cells #[.slice A2 n2 c2, .int .i64 nd] 26))
  have HC3 := Lib.hid (hc3.alloc (.cells #[.slice A2 n2 c2, .int .i64 nd] 26))
  have HB3 := Lib.hid ((HB2.out.trans (hk3.below (by omega) HB2.out.size)).alloc (by have := HB2.out.size; omega) (.cells #[.slice A2 n2 c2, .int .i64 nd] 26))
  have HX3 := Lib.hid ((box_kept HX2.out hk3 (by omega)).alloc (.cells #[.slice A2 n2 c2, .int .i64 nd] 26))
  have HY3 := Lib.hid (Box.new w3 #[.slice A2 n2 c2, .int .i64 nd] 26)
  have HLO := Lib.hid (show w.heap.size ≤ w2.heap.size + 1 by have := HB2.out.size; omega)
  have HLO1 := Lib.hid HB1.out.size
  have HGW := Lib.hid (show g < w2.heap.size + 1 by omega)
  have hw1 : w.heap.size < w1.heap.size := HX1.out.lt
  clear hk hown hc3 hk3
  have hne : w3.heap.size ≠ g := by omega
  have hne1 : w.heap.size ≠ g := by omega
  have hne2 : w3.heap.size ≠ w.heap.size := by omega
  have hne3 : w.heap.size ≠ w3.heap.size := by omega
  have c0 := HY3.out.cell (j := 0) rfl
  have c1 := HY3.out.cell (j := 1) rfl
  generalize hW : w3.alloc (.cells #[.slice A2 n2 c2, .int .i64 nd] 26) = W at HO3 HOh3 HC3 HB3 HX3 HY3 c0 c1
  have HW := Lib.hid hW
  clear hW
  have HC3d := Lib.hid (HC3.out.below ((Below.refl W.heap.size W).drew))
  have HKd := Lib.hid (Kept.of_below (g := g) (Below.refl W.heap.size W).drew)
  go_wp2_with fail
  rw [HW.out]
  go_region_held3 (fun w' => w'.cell? ⟨w3.heap.size, 0, none⟩ = some (.slice A2 n2 c2) ∧ w'.cell? ⟨w3.heap.size, 1, none⟩ = some (.int .i64 nd)) (go_keep) ((first
    | (go_at_call 52; refine (l7Message_any _ _ g HC3d.out).mono ?_; rintro e w4 ⟨Am, nm, cm, m, rfl, hnm, hmv, hom, hc4, hk4⟩; have HM := Lib.hid hom; have HMV := Lib.hid hmv; have HK4 := Lib.hid (HKd.out.trans hk4); have HX4 := Lib.hid (box_kept HX3.out (HKd.out.trans hk4) hne1); have HY4 := Lib.hid (box_kept HY3.out (HKd.out.trans hk4) hne); have HO4 := Lib.hid (own_kept HO3.out (HKd.out.trans hk4) HGW.out); have HOh4 := Lib.hid (own_kept HOh3.out (HKd.out.trans hk4) hgl); have d0 := HY4.out.cell (j := 0) rfl; have d1 := HY4.out.cell (j := 1) rfl; have r0 := HX4.out.cell (j := 0) rfl; have r1 := HX4.out.cell (j := 1) rfl; have f0 := HX4.out.warm (j := 0) rfl; have f1 := HX4.out.warm (j := 1) rfl; clear hom hmv hc4 hk4)))
  clear c0 c1
  have hwW : w.heap.size < W.drew.heap.size := HX3.out.lt
  have hWB := HB3.out.size
  go_wp2
  refine bodyPost_ret (v := .tuple #[.slice Ah nh ch, .agg #[.slice A2 n2 c2, .int .i64 nd], .slice Am nm cm]) (by simp [results, Try.results12, go_sem, r0, r1]) rfl ⟨Ah, nh, ch, lh, A2, n2, c2, l, nd, Am, nm, cm, m, rfl, hnh, ?_, HK.out, ?_, ⟨by have := HM.out.len; omega, HMV.out⟩, ?_, ?_⟩
  · refine (Own.top (hi := w2.heap.size) ?_).base HLO1.out
    refine Own.store (Own.store HOh4.out _ (.inl ?_)) _ (.inl ?_) <;> exact hw1
  · refine (Own.top (hi := w3.heap.size) ?_).base HLO.out
    refine Own.store (Own.store HO4.out _ (.inl ?_)) _ (.inl ?_) <;> simp <;> omega
  · refine (Own.top (hi := w4.heap.size) ?_).base (show w.heap.size ≤ W.drew.heap.size by omega)
    refine Own.store (Own.store HM.out _ (.inl ?_)) _ (.inl ?_) <;> exact hwW
  · refine Below.setCell (Below.setCell (HB3.out.trans (HK4.out.below (by omega) HB3.out.size)) ?_ _) ?_ _ <;> simp
theorem anyK_len {l : List Int} {nd : Int} (h : AnyK l nd) : l.length ≤ 4 ∧ -1 ≤ nd ∧ nd ≤ 5 := by
  rcases h with h | ⟨_, h, h0⟩ | ⟨l0, x, h, _, rfl⟩ | ⟨rfl, l0, h⟩
  · have := drawn_len h; omega
  · have := drawn_len h; omega
  · have := drawn_len h; simp; omega
  · have := drawn_len h; simp; omega
theorem owns_kept {α : Type} {R : Rep α} {w w' : World} {g lo hi n c : Nat} {A : Option Addr} {zs : List α} (h : Owns R w lo hi A n c zs) (hk : Kept g w w') (hg : g < lo) : Owns R w' lo hi A n c zs := h.keep fun i h0 h1 h2 => hk.block i h0 (by omega)
def DrG (B g : Nat) (w : World) (e : Ending) (w' : World) : Prop := ∃ A n c sg, e = .returned (.slice A n c) ∧ n ≤ 8 ∧ Owns RSig w' w.heap.size w'.heap.size A n c sg ∧ Cur w' B g ∧ Kept g w w'
set_option maxHeartbeats 2000000 in
theorem l7Sigs_any (w : World) (B g lo : Nat) (hc : Cur w B g) (hg : g < lo) (Al : Option Addr) (nl cl : Nat) (l : List Int) (nd : Int) (hl : Own .i64 w lo w.heap.size Al nl cl l) (hk : AnyK l nd) (Am : Option Addr) (nm cm : Nat) (m : List Int) (hm : Own .i64 w lo w.heap.size Am nm cm m) (hmm : Msg m) :
    Calls Try.prog 57 #[.pointer (some ⟨g, 0, none⟩), .agg #[.slice Al nl cl, .int .i64 nd], .slice Am nm cm] w (DrG B g w) := by
  have hgl := hc.lt
  have hkl := anyK_len hk
  have hmn := hmm.1
  have hln := hl.len
  have hmn2 := hm.len
  obtain ⟨V, hV⟩ : ∃ V, V = w.alloc (.cells #[.slice Al nl cl, .int .i64 nd] 26) := ⟨_, rfl⟩
  have HV := Lib.hid hV
  have hsz : V.heap.size = w.heap.size + 1 := by rw [hV]; simp
  have HSZ := Lib.hid hsz
  have HX := Lib.hid (show Box V w.heap.size [.slice Al nl cl, .int .i64 nd] by rw [hV]; exact Box.new w #[.slice Al nl cl, .int .i64 nd] 26)
  have HC := Lib.hid (show Cur V.drew B g by rw [hV]; exact (hc.alloc _).below ((Below.refl _ _).drew))
  have HKd := Lib.hid (show Kept g w V.drew by rw [hV]; exact ((Kept.refl g w).alloc _).trans (Kept.of_below (g := g) (Below.refl _ _).drew))
  have HKv := Lib.hid (show Kept g V V.drew from Kept.of_below (g := g) (Below.refl _ _).drew)
  have HL := Lib.hid (show Own .i64 V.drew lo w.heap.size Al nl cl l from own_kept hl HKd.out hg)
  have HM := Lib.hid (show Own .i64 V.drew lo w.heap.size Am nm cm m from own_kept hm HKd.out hg)
  have HI := Lib.hid (show In .i64 nd from inI64 (by omega) (by omega))
  have HLN := Lib.hid hln
  have c0 : V.drew.cell? ⟨w.heap.size, 0, none⟩ = some (.slice Al nl cl) := HX.out.cell (j := 0) rfl
  have c1 : V.drew.cell? ⟨w.heap.size, 1, none⟩ = some (.int .i64 nd) := HX.out.cell (j := 1) rfl
  have hne : w.heap.size ≠ g := by omega
  clear hV hl hm hc hk hln
  go_enter Try.func57, Try.ntmps57
  go_wp2_with fail
  rw [← HV.out]
  go_region_held3 (fun w' => w'.cell? ⟨w.heap.size, 0, none⟩ = some (.slice Al nl cl) ∧ w'.cell? ⟨w.heap.size, 1, none⟩ = some (.int .i64 nd)) (first | exact ⟨c0, c1⟩ | exact ⟨d0, d1⟩ | exact ⟨e0, e1⟩ | go_keep) ((first
    | (go_at_call 50; (with_reducible refine (l6Held_any _ _ g HC.out).mono ?_); rintro e w2 ⟨Ah, nh, ch, lh, rfl, hnh, hoh, hc2, hk2⟩; have HO2 := Lib.hid hoh; have HC2 := Lib.hid hc2; have HK2 := Lib.hid (HKd.out.trans hk2); have HX2 := Lib.hid (box_kept HX.out (HKv.out.trans hk2) hne); have HL2 := Lib.hid (own_kept HL.out hk2 hg); have HM2 := Lib.hid (own_kept HM.out hk2 hg); have d0 := HX2.out.cell (j := 0) rfl; have d1 := HX2.out.cell (j := 1) rfl; have HS2 := Lib.hid hk2.size; clear hoh hc2 hk2)
    | (go_at_call 36; (with_reducible refine (sSignBy_any Ah nh ch lh [.slice Al nl cl, .int .i64 nd] ⟨l, nd⟩ Am nm cm m w2 HO2.out.rd (RKeys_rd.2 ⟨Al, nl, cl, rfl, HL2.out.cap.1, HL2.out.cap.2, HL2.out.rd.more (Nat.le_of_lt HX2.out.lt), HI.out⟩) (HM2.out.rd.more (Nat.le_of_lt HX2.out.lt)) (by simp only; omega) (by omega) (by omega)).mono ?_); rintro e w3 ⟨A3, c3, rfl, hown3, hb3⟩; have HO3 := Lib.hid hown3; have HC3 := Lib.hid (HC2.out.below hb3); have HK3 := Lib.hid (HK2.out.trans (Kept.of_below (g := g) hb3)); have HX3 := Lib.hid (HX2.out.below hb3 HX2.out.lt); have HS3 := Lib.hid hb3.size; have e0 := HX3.out.cell (j := 0) rfl; have e1 := HX3.out.cell (j := 1) rfl; clear hown3 hb3)))
  have hsl := signBy_le lh l m
  have htag : ∀ q ∈ signBy lh l m, 0 ≤ q.tag ∧ q.tag < 2147483647 := fun q hq => by
    obtain ⟨x, _, rfl⟩ := List.mem_map.1 hq
    exact kh_range _ _
  generalize signBy lh l m = sb at HO3 hsl htag
  have HTG := Lib.hid htag
  have hg2 : g < w2.heap.size := Nat.lt_trans hgl HX2.out.lt
  have HW2 := Lib.hid (Nat.le_of_lt HX2.out.lt)
  clear c0 c1 d0 d1 e0 e1 htag
  go_wp2_with fail
  refine (l1Below_any 6 _ _ g HC3.out).mono ?_
  rintro e w4 ⟨v, ⟨x, hx0, hx1, rfl⟩, rfl, hc4, hk4⟩
  have hs4 := hk4.size
  have HO4 := Lib.hid (owns_kept HO3.out hk4 hg2).top
  have HC4 := Lib.hid hc4
  have HK4 := Lib.hid (HK3.out.trans hk4)
  have hgw4 : g < w4.heap.size := hc4.lt
  have hsb : sb.length ≤ 4 := by omega
  have HSS := Lib.hid (show w2.heap.size ≤ w4.heap.size from Nat.le_trans HS3.out hs4)
  clear hc4 hk4 hsl hx1
  have hxc : x = 0 ∨ x = 1 ∨ x = 2 ∨ 3 ≤ x := by omega
  rcases hxc with rfl | rfl | rfl | hx3
  · go_wp2_with fail
    refine (l1Int_any _ 4 4 (by omega) _ _ g (HC4.out.alloc _) (IRow.new hgw4 (by decide +kernel) rfl)).mono ?_
    rintro e w5 ⟨v, ⟨y, hyw, rfl⟩, rfl, hc5, hk5⟩
    have hs5 := hk5.size
    have HO5 := Lib.hid (owns_kept (HO4.out.alloc _) hk5 hg2)
    have HC5 := Lib.hid hc5
    have HK5 := Lib.hid ((HK4.out.alloc _).trans hk5)
    have hyi : -9223372036854775808 ≤ y ∧ y ≤ 9223372036854775807 := by simpa [Lit.wf, IntKind.min, IntKind.max, IntKind.signed, IntKind.bits] using hyw
    clear hc5 hk5 hyw
    go_wp2_with fail
    refine (l1Below_any 9 _ _ g HC5.out).mono ?_
    rintro e w6 ⟨v, ⟨z, hz0, hz1, rfl⟩, rfl, hc6, hk6⟩
    have hs6 := hk6.size
    have HO6 := Lib.hid (owns_kept HO5.out hk6 hg2)
    have HC6 := Lib.hid hc6
    have HK6 := Lib.hid (HK5.out.trans hk6)
    have HQ6 := Lib.hid (show OwnI RSig w6 w4.heap.size w4.heap.size (fSig ⟨y, z⟩) ⟨y, z⟩ from ⟨[], flSig.own.2 ⟨rfl, rfl, inI64 (z := y) hyi.1 hyi.2, inI64 (z := z) (by omega) (by omega)⟩, .nil, by simp⟩)
    have hs45 : w4.heap.size + 1 ≤ w5.heap.size := by simpa using hs5
    clear hc6 hk6
    go_wp2_with (at_builtin; refine wp_pushR (st := 29) (mid := w4.heap.size) (hi := w4.heap.size) (lo := w2.heap.size) (cs := fSig ⟨y, z⟩) (z := ⟨y, z⟩) RSig tiSig rfl _ _ rfl rfl HO6.out rfl HQ6.out (by omega) HSS.out (by have := HSS.out; omega) ?_; intro A7 c7 w7 hown7 hgr7)
    have hb7 := hgr7.below (B := w2.heap.size) (by have := HSS.out; omega) HO6.out.ge
    go_ret
    exact ⟨A7, _, c7, _, rfl, by omega, hown7.base HW2.out, cur_low HC6.out (hb7.mono (by omega)), kept_then HK6.out (hb7.mono HW2.out)⟩
  · have hone : ∀ q, QSig q → ∀ u ∈ fSig q, u.oneCell' = true := fun q _ u hu => by
      simp [fSig] at hu
      rcases hu with rfl | rfl <;> rfl
    go_wp2_with (at_builtin; refine wp_appF (st := 29) (lo := w2.heap.size) (hi := w4.heap.size) flSig tiSig hone rfl _ _ rfl rfl (FOwn.of flSig HO4.out) rfl (FRd.of flSig HO4.out.rd) (by omega) HSS.out ?_; intro A7 c7 w7 hown7 hgr7)
    have hb7 := hgr7.below (B := w2.heap.size) HSS.out HO4.out.ge
    go_ret
    exact ⟨A7, _, c7, _, rfl, by omega, (FOwn.to flSig hown7).base HW2.out, cur_low HC4.out (hb7.mono (by omega)), kept_then HK4.out (hb7.mono HW2.out)⟩
  · rcases Nat.eq_zero_or_pos sb.length with h0 | h0
    · rw [h0] at HO4
      go_wp2
      go_ret
      exact ⟨A3, 0, c3, sb, rfl, by omega, HO4.out.base HW2.out, HC4.out, HK4.out⟩
    · obtain ⟨b, e, hb1, hb2, hcb0, hcb1, hfb0, hfb1, -, hset, -⟩ := put_Sig (FOwn.of flSig HO4.out) h0
      subst e
      have htg := HTG.out (sb.getD 0 default) (by simp [List.getD, h0])
      generalize hst : (sb.getD 0 default).tag = st at hcb1 htg
      have hsi := hset (st + 1) (inI64 (by omega) (by omega))
      have HS7 := Lib.hid hsi
      have hpos : (0 : Int) < (sb.length : Int) := by omega
      simp only [Nat.zero_mul, Nat.zero_add] at hcb1 hfb1 HS7
      clear hset hsi hcb0 hfb0 hst
      go_wp2
      go_ret
      have hb7 : Below w2.heap.size w4 (w4.setCell ⟨b, 1, none⟩ (.int .i64 (st + 1))) := (Below.refl _ _).setCell hb1 _
      exact ⟨_, _, c3, _, rfl, by omega, ((FOwn.to flSig HS7.out).top).base HW2.out, cur_low HC4.out (hb7.mono (by omega)), kept_then HK4.out (hb7.mono HW2.out)⟩
  · have hx0' : ¬ x = 0 := by omega
    have hx1' : ¬ x = 1 := by omega
    have hx2' : ¬ x = 2 := by omega
    go_wp2
    go_ret
    exact ⟨A3, _, c3, sb, rfl, by omega, HO4.out.base HW2.out, HC4.out, HK4.out⟩
/-- a drawn set of keys, a message, signatures -/
def DrC (w : World) (e : Ending) (w' : World) : Prop :=
  ∃ A n c l nd Am nm cm m As ns cs sg, e = .returned (.tuple #[.agg #[.slice A n c, .int .i64 nd], .slice Am nm cm, .slice As ns cs]) ∧ AnyK l nd ∧ Own .i64 w' w.heap.size w'.heap.size A n c l ∧
    Msg m ∧ Own .i64 w' w.heap.size w'.heap.size Am nm cm m ∧ ns ≤ 8 ∧ Owns RSig w' w.heap.size w'.heap.size As ns cs sg ∧ Below w.heap.size w w'
set_option maxHeartbeats 1000000 in
theorem drawCountSigs_any (w : World) (A : Option Addr) (n c : Nat) (hn : n ≤ maxLen) (hr : BRow w w.heap.size A n) :
    Calls Try.prog 18 #[.slice A n c] w (DrC w) := by
  have HR := Lib.hid ((hr.below ((Below.refl w.heap.size w).alloc (Nat.le_refl _) (.cells #[.slice none 0 0, .int .i64 0] 26))).more (show w.heap.size ≤ (w.alloc (.cells #[.slice none 0 0, .int .i64 0] 26)).heap.size by simp))
  have HB0 := Lib.hid ((Below.refl w.heap.size w).alloc (Nat.le_refl _) (.cells #[.slice none 0 0, .int .i64 0] 26))
  have HX0 := Lib.hid (Box.new w #[.slice none 0 0, .int .i64 0] 26)
  clear hr
  go_enter Try.func18, Try.ntmps18
  go_wp2_with fail
  refine (l1New_any _ A n c hn HR.out).mono ?_
  rintro e w1 ⟨g, rfl, hc1, hb1⟩
  have hgB := hc1.1
  have hgl := hc1.lt
  have hwg : w.heap.size < g := by simp at hgB; omega
  have HC1 := Lib.hid hc1
  have HB1 := Lib.hid (HB0.out.trans (hb1.mono (by simp)))
  have HX1 := Lib.hid (HX0.out.below hb1 (by simp))
  clear hc1 hb1
  go_wp2_with fail
  refine (l6Any_any _ _ g HC1.out).mono ?_
  rintro e w2 ⟨A2, n2, c2, l, nd, rfl, hk, hown, hc2, hk2⟩
  have hz2 : w1.heap.size ≤ w2.heap.size := hk2.size
  have HK := Lib.hid hk
  have HO2 := Lib.hid (hown.alloc (.cells #[.slice A2 n2 c2, .int .i64 nd] 26))
  have HC2 := Lib.hid (hc2.alloc (.cells #[.slice A2 n2 c2, .int .i64 nd] 26))
  have HB2 := Lib.hid ((HB1.out.trans (hk2.below (by omega) HB1.out.size)).alloc (by have := HB1.out.size; omega) (.cells #[.slice A2 n2 c2, .int .i64 nd] 26))
  have HX2 := Lib.hid ((box_kept HX1.out hk2 (by omega)).alloc (.cells #[.slice A2 n2 c2, .int .i64 nd] 26))
  have HY2 := Lib.hid (Box.new w2 #[.slice A2 n2 c2, .int .i64 nd] 26)
  have HLO := Lib.hid (show w.heap.size ≤ w1.heap.size + 1 by have := HB1.out.size; omega)
  have HGW := Lib.hid (show g < w1.heap.size + 1 by omega)
  have hw1 : w.heap.size < w1.heap.size := HX1.out.lt
  clear hk hown hc2 hk2
  generalize hW : w2.alloc (.cells #[.slice A2 n2 c2, .int .i64 nd] 26) = W at HO2 HC2 HB2 HX2 HY2
  have HW := Lib.hid hW
  have hgW : g < W.heap.size := HC2.out.lt
  have hwW : w2.heap.size < W.heap.size := HY2.out.lt
  clear hW
  go_wp2_with fail
  rw [HW.out]
  refine (l7Message_any _ _ g HC2.out).mono ?_
  rintro e w3 ⟨Am, nm, cm, m, rfl, hnm, hmv, hom, hc3, hk3⟩
  have hz3 : W.heap.size ≤ w3.heap.size := hk3.size
  have HMs := Lib.hid (show Msg m from ⟨by have := hom.len; omega, hmv⟩)
  have HM3 := Lib.hid hom
  have HO3 := Lib.hid (own_kept HO2.out hk3 HGW.out).top
  have HC3 := Lib.hid hc3
  have HB3 := Lib.hid (HB2.out.trans (hk3.below (by omega) HB2.out.size))
  have HX3 := Lib.hid (box_kept HX2.out hk3 (by omega))
  have HY3 := Lib.hid (box_kept HY2.out hk3 (by omega))
  clear hom hmv hc3 hk3
  have hne : w2.heap.size ≠ g := by omega
  have hne1 : w.heap.size ≠ g := by omega
  have hne2 : w2.heap.size ≠ w.heap.size := by omega
  have hne3 : w.heap.size ≠ w2.heap.size := by omega
  have c0 := HY3.out.cell (j := 0) rfl
  have c1 := HY3.out.cell (j := 1) rfl
  have HC3d := Lib.hid (HC3.out.below ((Below.refl w3.heap.size w3).drew))
  have HKd := Lib.hid (Kept.of_below (g := g) (Below.refl w3.heap.size w3).drew)
  have HO3d := Lib.hid (show Own .i64 w3.drew (w1.heap.size + 1) w3.drew.heap.size A2 n2 c2 l from own_kept HO3.out HKd.out HGW.out)
  have HM3d := Lib.hid (show Own .i64 w3.drew (w1.heap.size + 1) w3.drew.heap.size Am nm cm m from (own_kept HM3.out HKd.out hgW).base (by omega))
  go_wp2_with fail
  go_region_held3 (fun w' => w'.cell? ⟨w2.heap.size, 0, none⟩ = some (.slice A2 n2 c2) ∧ w'.cell? ⟨w2.heap.size, 1, none⟩ = some (.int .i64 nd)) (go_keep) ((first
    | (go_at_call 57; refine (l7Sigs_any _ _ g (w1.heap.size + 1) HC3d.out HGW.out A2 n2 c2 l nd HO3d.out HK.out Am nm cm m HM3d.out HMs.out).mono ?_; rintro e w4 ⟨As, ns, cs, sg, rfl, hns, hsg, hc4, hk4⟩; have HS4 := Lib.hid hsg; have HK4 := Lib.hid (HKd.out.trans hk4); have HX4 := Lib.hid (box_kept HX3.out (HKd.out.trans hk4) hne1); have HY4 := Lib.hid (box_kept HY3.out (HKd.out.trans hk4) hne); have HO4 := Lib.hid (own_kept HO3.out (HKd.out.trans hk4) HGW.out); have HM4 := Lib.hid (own_kept HM3.out (HKd.out.trans hk4) hgW); have d0 := HY4.out.cell (j := 0) rfl; have d1 := HY4.out.cell (j := 1) rfl; have r0 := HX4.out.cell (j := 0) rfl; have r1 := HX4.out.cell (j := 1) rfl; have f0 := HX4.out.warm (j := 0) rfl; have f1 := HX4.out.warm (j := 1) rfl; clear hsg hc4 hk4)))
  clear c0 c1
  have hw3 : w.heap.size < w3.drew.heap.size := HX3.out.lt
  have hWB := HB3.out.size
  go_wp2
  refine bodyPost_ret (v := .tuple #[.agg #[.slice A2 n2 c2, .int .i64 nd], .slice Am nm cm, .slice As ns cs]) (by simp [results, Try.results18, go_sem, r0, r1]) rfl ⟨A2, n2, c2, l, nd, Am, nm, cm, m, As, ns, cs, sg, rfl, HK.out, ?_, HMs.out, ?_, hns, ?_, ?_⟩
  · refine (Own.top (hi := w3.heap.size) ?_).base HLO.out
    refine Own.store (Own.store HO4.out _ (.inl ?_)) _ (.inl ?_) <;> simp <;> omega
  · refine (Own.top (hi := w3.heap.size) ?_).base (show w.heap.size ≤ W.heap.size by omega)
    refine Own.store (Own.store HM4.out _ (.inl ?_)) _ (.inl ?_) <;> simp <;> omega
  · refine (Owns.top (hi := w4.heap.size) ?_).base (show w.heap.size ≤ w3.drew.heap.size by omega)
    refine Owns.store (Owns.store HS4.out _ (.inl ?_)) _ (.inl ?_) <;> exact hw3
  · refine Below.setCell (Below.setCell (HB3.out.trans (HK4.out.below (by omega) HB3.out.size)) ?_ _) ?_ _ <;> simp
def DrO (w : World) (e : Ending) (w' : World) : Prop :=
  ∃ Am nm cm m As ns cs sg, e = .returned (.tuple #[.slice Am nm cm, .slice As ns cs]) ∧ Msg m ∧ Own .i64 w' w.heap.size w'.heap.size Am nm cm m ∧ ns ≤ 8 ∧ Owns RSig w' w.heap.size w'.heap.size As ns cs sg ∧ Below w.heap.size w w'
theorem drawSignersOf_any (w : World) (A : Option Addr) (n c : Nat) (hn : n ≤ maxLen) (hr : BRow w w.heap.size A n) :
    Calls Try.prog 28 #[.slice A n c] w (DrO w) := by
  have HD := Lib.hid (drawCountSigs_any w A n c hn hr)
  clear hr
  go_enter Try.func28, Try.ntmps28
  go_wp2_with fail
  refine HD.out.mono ?_
  rintro e w1 ⟨A1, n1, c1, l, nd, Am, nm, cm, m, As, ns, cs, sg, rfl, -, -, hm, hom, hns, hsg, hb⟩
  have HM := Lib.hid hm
  have HO := Lib.hid (hom.alloc (.cells #[.slice A1 n1 c1, .int .i64 nd] 26))
  have HS := Lib.hid (hsg.alloc (.cells #[.slice A1 n1 c1, .int .i64 nd] 26))
  have HB := Lib.hid (hb.alloc hb.size (.cells #[.slice A1 n1 c1, .int .i64 nd] 26))
  clear hm hom hsg hb
  go_wp2
  go_ret2
  exact ⟨Am, nm, cm, m, As, ns, cs, sg, rfl, HM.out, HO.out.top, hns, HS.out.top, HB.out⟩
def DrI (w : World) (e : Ending) (w' : World) : Prop :=
  ∃ s Am nm cm m, e = .returned (.tuple #[.agg (fSig s).toArray, .slice Am nm cm]) ∧ QSig s ∧ Msg m ∧ Own .i64 w' w.heap.size w'.heap.size Am nm cm m ∧ Below w.heap.size w w'
set_option maxHeartbeats 1000000 in
theorem drawIsSigBy_any (w : World) (A : Option Addr) (n c : Nat) (hn : n ≤ maxLen) (hr : BRow w w.heap.size A n) :
    Calls Try.prog 20 #[.slice A n c] w (DrI w) := by
  have HR := Lib.hid ((hr.below ((Below.refl w.heap.size w).alloc (Nat.le_refl _) (.cells #[.int .i64 0, .int .i64 0] 36))).more (show w.heap.size ≤ (w.alloc (.cells #[.int .i64 0, .int .i64 0] 36)).heap.size by simp))
  have HB0 := Lib.hid ((Below.refl w.heap.size w).alloc (Nat.le_refl _) (.cells #[.int .i64 0, .int .i64 0] 36))
  have HX0 := Lib.hid (Box.new w #[.int .i64 0, .int .i64 0] 36)
  clear hr
  go_enter Try.func20, Try.ntmps20
  go_wp2_with fail
  refine (l1New_any _ A n c hn HR.out).mono ?_
  rintro e w1 ⟨g, rfl, hc1, hb1⟩
  have hgB := hc1.1
  have hgl := hc1.lt
  have hwg : w.heap.size < g := by simp at hgB; omega
  have HC1 := Lib.hid hc1
  have HB1 := Lib.hid (HB0.out.trans (hb1.mono (by simp)))
  have HX1 := Lib.hid (HX0.out.below hb1 (by simp))
  clear hc1 hb1
  go_wp2_with fail
  refine (l7Message_any _ _ g HC1.out).mono ?_
  rintro e w2 ⟨Am, nm, cm, m, rfl, hnm, hmv, hom, hc2, hk2⟩
  have hz2 : w1.heap.size ≤ w2.heap.size := hk2.size
  have HMs := Lib.hid (show Msg m from ⟨by have := hom.len; omega, hmv⟩)
  have HM2 := Lib.hid hom
  have HC2 := Lib.hid hc2
  have HB2 := Lib.hid (HB1.out.trans (hk2.below (by omega) HB1.out.size))
  have HX2 := Lib.hid (box_kept HX1.out hk2 (by omega))
  have hg2 : g < w2.heap.size := hc2.lt
  have hw1 : w.heap.size < w1.heap.size := HX1.out.lt
  have hwB := HB2.out.size
  clear hom hmv hc2 hk2
  go_wp2_with fail
  refine (l1Int_any _ 5 5 (by omega) _ _ g (HC2.out.alloc _) (IRow.new hg2 (by decide +kernel) rfl)).mono ?_
  rintro e w3 ⟨v, ⟨y, hyw, rfl⟩, rfl, hc3, hk3⟩
  have hz3 := hk3.size
  have HM3 := Lib.hid (own_kept (HM2.out.alloc _) hk3 hgl).top
  have HC3 := Lib.hid hc3
  have HB3 := Lib.hid ((HB2.out.alloc hwB _).trans (hk3.below (by omega) (by simp; omega)))
  have HX3 := Lib.hid (box_kept (HX2.out.alloc _) hk3 (by omega))
  have hyi : In .i64 y := by
    have : -9223372036854775808 ≤ y ∧ y ≤ 9223372036854775807 := by simpa [Lit.wf, IntKind.min, IntKind.max, IntKind.signed, IntKind.bits] using hyw
    exact inI64 this.1 this.2
  have hwB3 := HB3.out.size
  clear hc3 hk3 hyw
  go_wp2_with fail
  refine (sTagOf_any y Am nm cm m w3 HM3.out.rd (by omega) hyi).mono ?_
  rintro e w4 ⟨rfl, hb4⟩
  have ht := kh_range y (223 :: m)
  have hz4 := hb4.size
  have HM4 := Lib.hid (HM3.out.below hb4 (Nat.le_refl _))
  have HC4 := Lib.hid (HC3.out.below hb4)
  have HB4 := Lib.hid (HB3.out.trans (hb4.mono hwB3))
  have HX4 := Lib.hid (HX3.out.below hb4 HX3.out.lt)
  have ht2 : 0 ≤ tagOf y m ∧ tagOf y m < 2147483647 := ht
  generalize tagOf y m = t at ht2
  have hwB4 := HB4.out.size
  clear hb4 ht
  go_wp2_with fail
  refine (l1Below_any 2 _ _ g HC4.out).mono ?_
  rintro e w5 ⟨v, ⟨x, hx0, hx1, rfl⟩, rfl, hc5, hk5⟩
  have HM5 := Lib.hid (own_kept HM4.out hk5 hgl)
  have HB5 := Lib.hid (HB4.out.trans (hk5.below (by omega) hwB4))
  have HX5 := Lib.hid (box_kept HX4.out hk5 (by omega))
  have r0 := HX5.out.cell (j := 0) rfl
  have r1 := HX5.out.cell (j := 1) rfl
  have f0 := HX5.out.warm (j := 0) rfl
  have f1 := HX5.out.warm (j := 1) rfl
  clear hc5 hk5
  go_wp2
  refine bodyPost_ret (v := .tuple #[.agg #[.int .i64 y, .int .i64 (t + x)], .slice Am nm cm]) (by simp [results, Try.results20, go_sem, r0, r1]) rfl ⟨⟨y, t + x⟩, Am, nm, cm, m, rfl, ⟨hyi, inI64 (z := t + x) (by omega) (by omega)⟩, HMs.out, ?_, ?_⟩
  · refine (Own.top (hi := w3.heap.size) ?_).base (show w.heap.size ≤ w1.heap.size by omega)
    refine Own.store (Own.store HM5.out _ (.inl ?_)) _ (.inl ?_) <;> exact hw1
  · refine Below.setCell (Below.setCell HB5.out ?_ _) ?_ _ <;> simp
end Go.Proofs.Ythhibhnclbnhlaa.D07
