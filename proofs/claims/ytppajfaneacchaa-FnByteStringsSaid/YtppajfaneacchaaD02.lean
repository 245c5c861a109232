/- The drawing functions of chapter 2: what they return, and that they write into nothing that was there. -/
import Derived.Test.YtppajfaneacchaaD01
import Derived.Test.YtppajfaneacchaaC02B
namespace Go.Proofs.Ytppajfaneacchaa.D02
set_option linter.unusedVariables false
open Go.RowKit Mem M02 C01 C02 C02R C02B D01 SL
theorem rd_brow {w : World} {B n : Nat} {A : Option Addr} {zs : List Int} (h : Rd .u8 w B A n zs) : BRow w B A n := fun hn => by
  obtain ⟨b, off, e, hlt, hc⟩ := h.cells hn
  refine ⟨b, off, e, hlt, fun j hj => ?_⟩
  have := byt_in h.wf (zs.getD j 0) (by have hl := h.len; simp [List.getD, List.getElem?_eq_getElem (show j < zs.length by omega)])
  exact ⟨_, this.1, this.2, hc j hj⟩
theorem cur_low {w w' : World} {B g : Nat} (h : Cur w B g) (hb : Below (g + 1) w w') : Cur w' B g := by
  obtain ⟨h0, A, n, c, i, k, hh, h1, h2, h3, h4⟩ := h
  exact ⟨h0, A, n, c, i, k, (hb.block g (by omega)).trans hh, h1, h2, h3, h4.below (hb.mono (by omega))⟩
theorem own_kept {k : IntKind} {w w' : World} {g lo hi n c : Nat} {A : Option Addr} {zs : List Int} (h : Own k w lo hi A n c zs) (hk : Kept g w w') (hg : g < lo) : Own k w' lo hi A n c zs :=
  h.keep fun i h0 h1 _ => hk.block i h0 (by omega)
theorem kept_then {w w' w'' : World} {g : Nat} (h : Kept g w w') (hb : Below w.heap.size w' w'') : Kept g w w'' :=
  ⟨hb.os.trans h.os, hb.tape.trans h.tape, hb.output.trans h.output, Nat.le_trans h.size hb.size, fun i hi hne => (hb.block i hi).trans (h.block i hi hne)⟩
theorem l1Bytes_any (n : Int) (w : World) (B g : Nat) (hn : n ≤ 100000) (hc : Cur w B g) :
    Calls Try.prog 42 #[.pointer (some ⟨g, 0, none⟩), .int .i64 n] w fun e w' => ∃ A m c zs, e = .returned (.slice A m c) ∧ m ≤ 100000 ∧ Own .u8 w' w.heap.size w'.heap.size A m c zs ∧ Cur w' B g ∧ Kept g w w' := by
  have hgl := hc.lt
  have HO := Lib.hid (Own.lit0 (lo := w.heap.size) .u8 w (Nat.le_refl _))
  have HC := Lib.hid (hc.alloc (.cells #[] 5))
  have HK := Lib.hid ((Kept.refl g w).alloc (.cells #[] 5))
  clear hc
  go_enter Try.func42, Try.ntmps42
  go_wp2
  go_loopw [5, 6] (fun v i wr => ∃ (A1 : Option Addr) (c1 j : Nat) (d : List Int), v = .slice A1 j c1 ∧ i = .int .i64 j ∧ ((j : Int) ≤ n ∨ j = 0) ∧ Own .u8 wr w.heap.size wr.heap.size A1 j c1 d ∧ Cur wr B g ∧ Kept g w wr) (fun _ i _ => (n - intOf i).toNat)
  case atStart => exact ⟨_, 0, 0, [], rfl, rfl, .inr rfl, HO.out.top, HC.out, HK.out⟩
  case round =>
    obtain ⟨A1, c1, j, d, rfl, rfl, hj, hown, hcur, hkept⟩ := hrel
    have HOr := Lib.hid hown
    have HCr := Lib.hid hcur
    have HKr := Lib.hid hkept
    clear hown hcur hkept
    by_cases hjn : (j : Int) < n
    · clear hj
      go_wp2_with fail
      refine (l1Byte_any _ B g HCr.out).mono ?_
      rintro e w2 ⟨v, ⟨x, hx0, hx1, rfl⟩, rfl, hc2, hk2⟩
      have HO2 := Lib.hid (own_kept HOr.out hk2 hgl).top
      have HC2 := Lib.hid hc2
      have HK2 := Lib.hid (HKr.out.trans hk2)
      clear hc2 hk2
      have hz : In .u8 x := in_u8 hx0 hx1
      go_wp2_with (at_builtin; refine wp_push (k := .u8) (z := x) (by unfold BI; decide) rfl _ _ rfl rfl HO2.out rfl hz (by omega) HK2.out.size ?_; intro A2 c2 w3 hown3 hgr3)
      have hb3 : Below w.heap.size w2 w3 := hgr3.below HK2.out.size HO2.out.ge
      go_roundw
      case rel => exact ⟨A2, c2, j + 1, d ++ [x], rfl, by go_num, by omega, hown3, cur_low HC2.out (hb3.mono (by omega)), kept_then HK2.out hb3⟩
      case measure => simp [intOf]; omega
    · go_wp2
      go_ret
      exact ⟨A1, j, c1, rfl, by omega, ⟨d, HOr.out⟩, HCr.out, HKr.out⟩
theorem drawAppendUvarint_any (w : World) (A : Option Addr) (n c : Nat) (hn : n ≤ maxLen) (hr : BRow w w.heap.size A n) :
    Calls Try.prog 13 #[.slice A n c] w fun e w' => ∃ A' m c' zs x, e = .returned (.tuple #[.slice A' m c', .int .i64 x]) ∧ m ≤ 100000 ∧ (Lit.int .i64 x).wf = true ∧ Own .u8 w' w.heap.size w'.heap.size A' m c' zs ∧ Below w.heap.size w w' := by
  go_enter Try.func13, Try.ntmps13
  go_wp2_with fail
  refine (l1New_any w A n c hn hr).mono ?_
  rintro e w1 ⟨g, rfl, hc1, hb1⟩
  have hgl := hc1.lt
  have hg0 := hc1.1
  have HB := Lib.hid hb1
  clear hb1 hr
  go_wp2_with fail
  refine (l1Below_any _ _ _ g hc1).mono ?_
  rintro e w2 ⟨v, ⟨y, hy0, hy1, rfl⟩, rfl, hc2, hk2⟩
  have HK2 := Lib.hid hk2
  have HY := Lib.hid hy1
  clear hk2 hc1 hy1
  go_wp2_with fail
  refine (l1Bytes_any y _ _ g (by have := HY.out; omega) hc2).mono ?_
  rintro e w3 ⟨A', m, c', zs, rfl, hm, ho, hc3, hk3⟩
  have HO := Lib.hid ho
  have HK3 := Lib.hid hk3
  clear ho hk3 hc2
  go_wp2_with fail
  refine (l1One_any _ _ g hc3).mono ?_
  rintro e w4 ⟨v, ⟨x, hx, rfl⟩, rfl, hc4, hk4⟩
  have HK4 := Lib.hid hk4
  have HX := Lib.hid hx
  clear hk4 hx hc3 hc4
  go_wp2
  go_ret2
  have h2 := HK2.out.size
  exact ⟨_, m, _, zs, x, rfl, hm, HX.out, (own_kept HO.out HK4.out (by omega)).top.base (by have := HB.out.size; omega), HB.out.trans (((HK2.out.trans HK3.out).trans HK4.out).below hg0 HB.out.size)⟩
theorem drawAppendBytes_any (w : World) (A : Option Addr) (n c : Nat) (hn : n ≤ maxLen) (hr : BRow w w.heap.size A n) :
    Calls Try.prog 19 #[.slice A n c] w fun e w' => ∃ A' m c' zs A2 m2 c2 ys, e = .returned (.tuple #[.slice A' m c', .slice A2 m2 c2]) ∧ m ≤ 100000 ∧ m2 ≤ 100000 ∧ Own .u8 w' w.heap.size w'.heap.size A' m c' zs ∧ Own .u8 w' w.heap.size w'.heap.size A2 m2 c2 ys ∧ Below w.heap.size w w' := by
  go_enter Try.func19, Try.ntmps19
  go_wp2_with fail
  refine (l1New_any w A n c hn hr).mono ?_
  rintro e w1 ⟨g, rfl, hc1, hb1⟩
  have hgl := hc1.lt
  have hg0 := hc1.1
  have HB := Lib.hid hb1
  clear hb1 hr
  go_wp2_with fail
  refine (l1Below_any _ _ _ g hc1).mono ?_
  rintro e w2 ⟨v, ⟨y, hy0, hy1, rfl⟩, rfl, hc2, hk2⟩
  have HK2 := Lib.hid hk2
  have HY := Lib.hid hy1
  clear hk2 hc1 hy1
  go_wp2_with fail
  refine (l1Bytes_any y _ _ g (by have := HY.out; omega) hc2).mono ?_
  rintro e w3 ⟨A', m, c', zs, rfl, hm, ho, hc3, hk3⟩
  have HO := Lib.hid ho
  have HK3 := Lib.hid hk3
  clear ho hk3 hc2
  go_wp2_with fail
  refine (l1Below_any _ _ _ g hc3).mono ?_
  rintro e w4 ⟨v, ⟨x, hx0, hx1, rfl⟩, rfl, hc4, hk4⟩
  have HK4 := Lib.hid hk4
  have HX := Lib.hid hx1
  clear hk4 hc3 hx1
  go_wp2_with fail
  refine (l1Bytes_any x _ _ g (by have := HX.out; omega) hc4).mono ?_
  rintro e w5 ⟨A2, m2, c2, ys, rfl, hm2, ho2, hc5, hk5⟩
  have HO2 := Lib.hid ho2
  have HK5 := Lib.hid hk5
  clear ho2 hk5 hc5 hc4
  go_wp2
  go_ret2
  have h1 := HB.out.size
  have h2 := HK2.out.size
  have h3 := HK3.out.size
  have h4 := HK4.out.size
  exact ⟨_, m, _, zs, _, m2, _, ys, rfl, hm, hm2, (own_kept (own_kept HO.out HK4.out (by omega)) HK5.out (by omega)).top.base (by omega), HO2.out.base (by omega), HB.out.trans ((((HK2.out.trans HK3.out).trans HK4.out).trans HK5.out).below hg0 h1)⟩
theorem drawReadUvarint_any (w : World) (A : Option Addr) (n c : Nat) (hn : n ≤ maxLen) (hr : BRow w w.heap.size A n) :
    Calls Try.prog 17 #[.slice A n c] w fun e w' => ∃ A' m c' zs x, e = .returned (.tuple #[.slice A' m c', .int .i64 x]) ∧ m ≤ 200000 ∧ (Lit.int .i64 x).wf = true ∧ Own .u8 w' w.heap.size w'.heap.size A' m c' zs ∧ Below w.heap.size w w' := by
  go_enter Try.func17, Try.ntmps17
  go_wp2_with fail
  refine (l1New_any w A n c hn hr).mono ?_
  rintro e w1 ⟨g, rfl, hc1, hb1⟩
  have hgl := hc1.lt
  have hg0 := hc1.1
  have HB := Lib.hid hb1
  have h1 := hb1.size
  clear hb1 hr
  go_wp2_with fail
  refine (l1Once_any _ _ _ g hc1).mono ?_
  rintro e w2 ⟨v, ⟨b, rfl⟩, rfl, hc2, hk2⟩
  have HK2 := Lib.hid hk2
  have h2 := hk2.size
  clear hk2 hc1
  cases b
  · have HOl := Lib.hid (Own.lit0 (lo := w2.heap.size) .u8 w2 (Nat.le_refl _))
    have hc2a := hc2.alloc (.cells #[] 5)
    have HKl := Lib.hid (HK2.out.alloc (.cells #[] 5))
    go_wp2_with fail
    refine (l1Below_any _ _ _ g hc2a).mono ?_
    rintro e w3 ⟨v, ⟨y, hy0, hy1, rfl⟩, rfl, hc3, hk3⟩
    have HO3 := Lib.hid (own_kept HOl.out hk3 (by omega)).top
    have HK3 := Lib.hid (HKl.out.trans hk3)
    have HC3 := Lib.hid hc3
    obtain ⟨k0, rfl⟩ : ∃ k : Nat, y = k := ⟨y.toNat, by omega⟩
    have hk0 : k0 ≤ 7 := by omega
    have h3 : w2.heap.size ≤ w3.heap.size := by
      have e1 := hk3.size
      simp at e1
      omega
    clear hk3 hc3 hc2 hc2a hy1 hy0
    go_wp2
    go_loopw [5, 6] (fun v i wr => ∃ (A1 : Option Addr) (c1 j k : Nat) (d : List Int), v = .slice A1 j c1 ∧ i = .int .i64 k ∧ j + k ≤ 7 ∧ w2.heap.size ≤ wr.heap.size ∧ Own .u8 wr w2.heap.size wr.heap.size A1 j c1 d ∧ Cur wr w.heap.size g ∧ Kept g w1 wr) (fun _ i _ => (intOf i).toNat)
    case atStart => exact ⟨_, 0, 0, k0, [], rfl, rfl, by omega, h3, HO3.out, HC3.out, HK3.out⟩
    case round =>
      obtain ⟨A1, c1, j, k, d, rfl, rfl, hj, hwr, hown, hcur, hkept⟩ := hrel
      have HOr := Lib.hid hown
      have HCr := Lib.hid hcur
      have HKr := Lib.hid hkept
      clear hown hcur hkept
      by_cases hk : 0 < k
      · go_wp2_with fail
        refine (l1Int_any _ _ _ (by omega) _ w.heap.size g ?_ ?_).mono ?_
        · exact HCr.out.alloc _
        · exact IRow.new HCr.out.lt (by decide +kernel) rfl
        rintro e w4 ⟨v, ⟨x, hx, rfl⟩, rfl, hc4, hk4⟩
        have HO4 := Lib.hid (own_kept (HOr.out.alloc _) hk4 (by omega)).top
        have HC4 := Lib.hid hc4
        have HK4 := Lib.hid ((HKr.out.alloc _).trans hk4)
        have h4 : w2.heap.size ≤ w4.heap.size := by
          have e1 := hk4.size
          simp at e1
          omega
        clear hc4 hk4 hx
        have hz : In .u8 (x % 256) := in_u8 (by omega) (by omega)
        go_wp2_with (at_builtin; refine wp_push (k := .u8) (z := x % 256) (by unfold BI; decide) rfl _ _ rfl rfl HO4.out rfl hz (by omega) h4 ?_; intro A2 c2 w5 hown5 hgr5)
        have hb5 : Below w2.heap.size w4 w5 := hgr5.below h4 HO4.out.ge
        go_roundw
        case rel => exact ⟨A2, c2, j + 1, k - 1, _, rfl, by go_num, by omega, by have := hb5.size; omega, hown5, cur_low HC4.out (hb5.mono (by omega)), kept_then HK4.out (hb5.mono (by omega))⟩
        case measure => simp [intOf]; omega
      · have hk00 : k = 0 := by omega
        subst hk00
        go_wp2_with fail
        refine (l1Below_any _ _ _ g HCr.out).mono ?_
        rintro e w4 ⟨v, ⟨y, hy0, hy1, rfl⟩, rfl, hc4, hk4⟩
        have HO4 := Lib.hid (own_kept HOr.out hk4 (by omega)).top
        have HK4 := Lib.hid (HKr.out.trans hk4)
        have hy2 : y ≤ 3 := by omega
        clear hc4 hk4 hy1
        go_wp2
        go_ret2
        exact ⟨A1, j, c1, d, y - 1, rfl, by omega, wf64 (by omega) (by omega), HO4.out.base (by omega), HB.out.trans (HK4.out.below hg0 h1)⟩
  · go_wp2_with fail
    refine (l1Bytes_any 1 _ _ g (by omega) hc2).mono ?_
    rintro e w3 ⟨A', m, c', zs, rfl, hm, ho, hc3, hk3⟩
    have HO := Lib.hid ho
    have HK3 := Lib.hid (HK2.out.trans hk3)
    have h3 := hk3.size
    clear ho hk3 hc2
    go_wp2_with fail
    refine (l1Num_any _ _ g hc3).mono ?_
    rintro e w4 ⟨v, ⟨x, hx, rfl⟩, rfl, hc4, hk4⟩
    have HO4 := Lib.hid (own_kept HO.out hk4 (by omega)).top
    have HK4 := Lib.hid (HK3.out.trans hk4)
    have h4 := hk4.size
    clear hc3 hc4 hk4 hx
    go_wp2_with fail
    refine (sAppendUvarint_any A' m c' zs x _ HO4.out.rd (by omega)).mono ?_
    rintro e w5 ⟨A5, n5, c5, rfl, hn5, ho5, hb5⟩
    have hel := enc_len x
    have HN := Lib.hid hn5
    have HO5 := Lib.hid ho5
    have HB5 := Lib.hid hb5
    have HEL := Lib.hid hel
    clear hn5 ho5 hb5 hel
    go_wp2
    go_ret2
    exact ⟨A5, n5, c5, _, 1, rfl, by have := HN.out; have := HEL.out; omega, by decide, HO5.out.base (by omega), (HB.out.trans (HK4.out.below hg0 h1)).trans (HB5.out.mono (by omega))⟩
end Go.Proofs.Ytppajfaneacchaa.D02
