/- The drawing functions of chapter 5: what they return, and that they write into nothing that was there. -/
import Derived.Test.YtkgdgnjlmcodlaaDoorD04
import Derived.Test.YtkgdgnjlmcodlaaDoorC05S
namespace Go.Proofs.YtkgdgnjlmcodlaaDoor.D05
set_option linter.unusedVariables false
set_option maxRecDepth 100000
open Go.RowKit Mem MemS M02 M04 M05 C01 C02 C02B D01 D02 D04 SL C04I C04S C05S
/-- a draw of a list of strings -/
def DrS (B g M : Nat) (w : World) (e : Ending) (w' : World) : Prop :=
  ∃ A' m c' ss, e = .returned (.slice A' m c') ∧ m ≤ M ∧ (∀ s ∈ ss, ByteArray.size s ≤ 16) ∧ OwnS w' w.heap.size w'.heap.size A' m c' ss ∧ Cur w' B g ∧ Kept g w w'
theorem rdS_two (w : World) {x y : ByteArray} (hx : InS x) (hy : InS y) : RdS (w.alloc (.cells #[.string x, .string y] EST)) (w.heap.size + 1) (some ⟨w.heap.size, 0, none⟩) 2 [x, y] :=
  ⟨rfl, by intro z hz; rcases List.mem_cons.1 hz with rfl | hz; exact hx; rw [List.mem_singleton.1 hz]; exact hy, fun _ => ⟨_, _, rfl, by omega, fun j hj => by
    rw [World.cell?_alloc_at _ _ _ _ rfl]
    rcases Nat.lt_or_ge j 1 with h | h
    · obtain rfl : j = 0 := by omega
      rfl
    · obtain rfl : j = 1 := by omega
      rfl⟩⟩
theorem l5Path_any (w : World) (B g : Nat) (hc : Cur w B g) : Calls Tryd.prog 50 #[.pointer (some ⟨g, 0, none⟩)] w (DrS B g 3 w) := by
  have hgl := hc.lt
  have HO := Lib.hid (OwnS.lit0 (lo := w.heap.size) w (Nat.le_refl _))
  have HC := Lib.hid (hc.alloc (.cells #[] 9))
  have HK := Lib.hid ((Kept.refl g w).alloc (.cells #[] 9))
  clear hc
  go_enter Tryd.func50, Tryd.ntmps50
  go_wp2_with fail
  refine (l1Below_any 3 _ _ g HC.out).mono ?_
  rintro e w2 ⟨v, ⟨x, hx0, hx1, rfl⟩, rfl, hc2, hk2⟩
  have HO2 := Lib.hid (ownS_kept HO.out hk2 hgl).top
  have HC2 := Lib.hid hc2
  have HK2 := Lib.hid (HK.out.trans hk2)
  clear hc2 hk2
  have hx4 : x ≤ 2 := by omega
  clear hx1
  go_wp2
  go_loopw [3, 4] (fun v i wr => ∃ (A1 : Option Addr) (c1 m : Nat) (y : Int) (d : List ByteArray), v = .slice A1 m c1 ∧ i = .int .i64 y ∧ 0 ≤ y ∧ (m : Int) + y ≤ 3 ∧ (∀ s ∈ d, s.size ≤ 16) ∧ OwnS wr w.heap.size wr.heap.size A1 m c1 d ∧ Cur wr B g ∧ Kept g w wr) (fun _ i _ => (intOf i).toNat)
  case atStart => exact ⟨_, 0, 0, 1 + x, [], rfl, rfl, by omega, by omega, by simp, HO2.out, HC2.out, HK2.out⟩
  case round =>
    obtain ⟨A1, c1, m, y, d, rfl, rfl, hy0, hy1, hd, hown, hcur, hkept⟩ := hrel
    have HD := Lib.hid hd
    have HOr := Lib.hid hown
    have HCr := Lib.hid hcur
    have HKr := Lib.hid hkept
    clear hown hcur hkept hd
    by_cases hyp : y > 0
    · go_wp2_with fail
      refine (l4Label_any _ _ g HCr.out).mono ?_
      rintro e w3 ⟨v, ⟨s, hs, rfl⟩, rfl, hc3, hk3⟩
      have HO3 := Lib.hid (ownS_kept HOr.out hk3 hgl).top
      have HC3 := Lib.hid hc3
      have HK3 := Lib.hid (HKr.out.trans hk3)
      clear hc3 hk3
      have hz : InS s := by unfold InS maxLen; omega
      go_wp2_with (at_builtin; refine wp_pushS (z := s) rfl _ _ rfl rfl HO3.out rfl hz (by omega) HK3.out.size ?_; intro A2 c2 w4 hown4 hgr4)
      have hb4 := hgr4.below HK3.out.size HO3.out.ge
      go_roundw
      case rel => exact ⟨A2, c2, m + 1, y - 1, d ++ [s], rfl, by go_num, by omega, by omega, fun t ht => by rcases List.mem_append.1 ht with ht | ht; exact HD.out t ht; rw [List.mem_singleton.1 ht]; exact hs, hown4, cur_low HC3.out (hb4.mono (by omega)), kept_then HK3.out hb4⟩
      case measure => simp [intOf]; omega
    · go_wp2
      go_ret
      exact ⟨A1, m, c1, d, rfl, by omega, HD.out, HOr.out, HCr.out, HKr.out⟩
theorem l5Any_any (w : World) (B g : Nat) (hc : Cur w B g) : Calls Tryd.prog 32 #[.pointer (some ⟨g, 0, none⟩)] w (DrS B g 5 w) := by
  have hgl := hc.lt
  go_enter Tryd.func32, Tryd.ntmps32
  go_wp2_with fail
  refine (l5Path_any _ _ g hc).mono ?_
  rintro e w1 ⟨A1, m, c1, d, rfl, hm, hd, ho1, hc1, hk1⟩
  have HO1 := Lib.hid ho1
  have HD := Lib.hid hd
  have HK1 := Lib.hid hk1
  clear ho1 hd hk1
  go_wp2_with fail
  refine (l1Below_any 8 _ _ g hc1).mono ?_
  rintro e w2 ⟨v, ⟨x, hx0, hx1, rfl⟩, rfl, hc2, hk2⟩
  have HO2 := Lib.hid (ownS_kept HO1.out hk2 hgl).top
  have HK2 := Lib.hid (HK1.out.trans hk2)
  have HC2 := Lib.hid hc2
  clear hk2 hc2 hc1 hx1
  by_cases h0 : x = 0
  · subst h0
    go_wp2_with fail
    refine (l4Any_any _ _ g HC2.out).mono ?_
    rintro e w3 ⟨v, ⟨s, hs, rfl⟩, rfl, hc3, hk3⟩
    have HO3 := Lib.hid (ownS_kept HO2.out hk3 hgl).top
    have HC3 := Lib.hid hc3
    have HK3 := Lib.hid (HK2.out.trans hk3)
    clear hc3 hk3
    go_wp2_with fail
    refine (l4Any_any _ _ g HC3.out).mono ?_
    rintro e w4 ⟨v, ⟨s2, hs2, rfl⟩, rfl, hc4, hk4⟩
    have HO4 := Lib.hid (ownS_kept HO3.out hk4 hgl).top
    have HC4 := Lib.hid hc4
    have HK4 := Lib.hid (HK3.out.trans hk4)
    clear hc4 hk4
    have hz : InS s := by unfold InS maxLen; omega
    have hz2 : InS s2 := by unfold InS maxLen; omega
    go_wp2_with (at_builtin; refine wp_appS rfl _ _ rfl rfl (HO4.out.alloc _) rfl (rdS_two w4 hz hz2) (by omega) (by have := HK4.out.size; simp; omega) ?_; intro A2 c2 w5 hown5 hgr5)
    have hb5 : Below w.heap.size w4 w5 := ((Below.refl _ _).alloc HK4.out.size _).trans (hgr5.below (by have := HK4.out.size; simp; omega) HO4.out.ge)
    go_ret
    refine ⟨A2, m + 2, c2, d ++ [s, s2], rfl, by omega, fun t ht => ?_, hown5, cur_low HC4.out (hb5.mono (by omega)), kept_then HK4.out hb5⟩
    rcases List.mem_append.1 ht with ht | ht
    · exact HD.out t ht
    · rcases List.mem_cons.1 ht with rfl | ht
      · exact hs
      · rw [List.mem_singleton.1 ht]
        exact hs2
  by_cases h1 : x = 1
  · subst h1
    go_wp2
    go_ret
    have hb5 : Below w.heap.size w2 (w2.alloc (.cells #[] EST)) := (Below.refl _ _).alloc HK2.out.size _
    exact ⟨_, 0, 0, [], rfl, by omega, by simp, (OwnS.lit0 (lo := w.heap.size) w2 HK2.out.size).top, cur_low HC2.out (hb5.mono (by omega)), kept_then HK2.out hb5⟩
  · go_wp2
    go_ret
    exact ⟨A1, m, c1, d, rfl, by omega, HD.out, HO2.out, HC2.out, HK2.out⟩
theorem drawIsPath_any (w : World) (A : Option Addr) (n c : Nat) (hn : n ≤ maxLen) (hr : BRow w w.heap.size A n) :
    Calls Tryd.prog 22 #[.slice A n c] w fun e w' => ∃ A' m c' ss, e = .returned (.slice A' m c') ∧ m ≤ 5 ∧ (∀ s ∈ ss, ByteArray.size s ≤ 16) ∧ OwnS w' w.heap.size w'.heap.size A' m c' ss ∧ Below w.heap.size w w' := by
  go_enter Tryd.func22, Tryd.ntmps22
  go_wp2_with fail
  refine (l1New_any w A n c hn hr).mono ?_
  rintro e w1 ⟨g, rfl, hc1, hb1⟩
  have hgB := hc1.1
  have HB1 := Lib.hid hb1
  clear hb1
  go_wp2_with fail
  refine (l5Any_any _ _ g hc1).mono ?_
  rintro e w2 ⟨A2, m, c2, d, rfl, hm, hd, ho2, hc2, hk2⟩
  have HD := Lib.hid hd
  have HO2 := Lib.hid ho2
  clear hd ho2
  go_wp2
  go_ret
  exact ⟨A2, m, c2, d, rfl, hm, HD.out, HO2.out.base HB1.out.size, HB1.out.trans (hk2.below hgB HB1.out.size)⟩
theorem drawFormatPath_any (w : World) (A : Option Addr) (n c : Nat) (hn : n ≤ maxLen) (hr : BRow w w.heap.size A n) :
    Calls Tryd.prog 6 #[.slice A n c] w fun e w' => ∃ A' m c' ss, e = .returned (.slice A' m c') ∧ m ≤ 5 ∧ (∀ s ∈ ss, ByteArray.size s ≤ 16) ∧ OwnS w' w.heap.size w'.heap.size A' m c' ss ∧ Below w.heap.size w w' := by
  go_enter Tryd.func6, Tryd.ntmps6
  go_wp2_with fail
  refine (drawIsPath_any w A n c hn hr).mono ?_
  rintro e w1 ⟨A2, m, c2, d, rfl, hm, hd, ho2, hb⟩
  have HD := Lib.hid hd
  have HO2 := Lib.hid ho2
  have HB := Lib.hid hb
  clear hd ho2 hb
  go_wp2
  go_ret
  exact ⟨A2, m, c2, d, rfl, hm, HD.out, HO2.out, HB.out⟩
theorem drawParsePath_any (w : World) (A : Option Addr) (n c : Nat) (hn : n ≤ maxLen) (hr : BRow w w.heap.size A n) :
    Calls Tryd.prog 9 #[.slice A n c] w fun e w' => ∃ a : ByteArray, e = .returned (.string a) ∧ a.size ≤ 35 ∧ Below w.heap.size w w' := by
  go_enter Tryd.func9, Tryd.ntmps9
  go_wp2_with fail
  refine (l1New_any w A n c hn hr).mono ?_
  rintro e w1 ⟨g, rfl, hc1, hb1⟩
  have hgB := hc1.1
  have HB1 := Lib.hid hb1
  clear hb1
  go_wp2_with fail
  refine (l1Once_any _ _ _ g hc1).mono ?_
  rintro e w3 ⟨v, ⟨t, rfl⟩, rfl, hc3, hk3⟩
  have HB3 := Lib.hid (HB1.out.trans (hk3.below hgB HB1.out.size))
  clear hk3 hc1
  cases t
  · go_wp2_with fail
    refine (l5Any_any _ _ g hc3).mono ?_
    rintro e w4 ⟨A4, m, c4, d, rfl, hm, hd, ho4, hc4, hk4⟩
    have HD := Lib.hid hd
    have HO4 := Lib.hid ho4
    have HB4 := Lib.hid (HB3.out.trans (hk4.below hgB HB3.out.size))
    clear hd ho4 hk4 hc4 hc3
    go_wp2_with fail
    refine (sFormatPath_any A4 m c4 d w4 HO4.out.rd (by omega) (fun s hs => by have := HD.out s hs; omega)).mono ?_
    rintro e w5 ⟨rfl, hb5⟩
    have HB5 := Lib.hid (HB4.out.trans (hb5.mono HB4.out.size))
    clear hb5
    have hz := fmtP_size d
    generalize fmtP d = a at hz
    go_wp2
    go_ret
    exact ⟨a, rfl, hz, HB5.out⟩
  · go_wp2_with fail
    refine (l1Str_any _ _ _ 16 (by omega) _ w.heap.size g ?_ ?_).mono ?_
    · exact hc3.alloc _
    · exact SRow.new hc3.lt (by decide +kernel) rfl
    rintro e w4 ⟨v, ⟨y, hy, rfl⟩, rfl, hc4, hk4⟩
    have HB4 := Lib.hid (HB3.out.trans ((((Kept.refl _ _).alloc _).trans hk4).below hgB HB3.out.size))
    clear hk4 hc4 hc3
    go_wp2
    go_ret
    exact ⟨y, rfl, by omega, HB4.out⟩
theorem drawIsBelow_any (w : World) (A : Option Addr) (n c : Nat) (hn : n ≤ maxLen) (hr : BRow w w.heap.size A n) :
    Calls Tryd.prog 17 #[.slice A n c] w fun e w' => ∃ A1 m1 c1 ss A2 m2 c2 ts, e = .returned (.tuple #[.slice A1 m1 c1, .slice A2 m2 c2]) ∧ m1 ≤ 5 ∧ m2 ≤ 5 ∧ (∀ s ∈ ss, ByteArray.size s ≤ 16) ∧ (∀ s ∈ ts, ByteArray.size s ≤ 16) ∧ OwnS w' w.heap.size w'.heap.size A1 m1 c1 ss ∧ OwnS w' w.heap.size w'.heap.size A2 m2 c2 ts ∧ Below w.heap.size w w' := by
  go_enter Tryd.func17, Tryd.ntmps17
  go_wp2_with fail
  refine (l1New_any w A n c hn hr).mono ?_
  rintro e w1 ⟨g, rfl, hc1, hb1⟩
  have hgB := hc1.1
  have hgl := hc1.lt
  have HB1 := Lib.hid hb1
  clear hb1
  go_wp2_with fail
  refine (l5Any_any _ _ g hc1).mono ?_
  rintro e w2 ⟨A2, m, c2, d, rfl, hm, hd, ho2, hc2, hk2⟩
  have HD := Lib.hid hd
  have HO2 := Lib.hid ho2
  have HB2 := Lib.hid (HB1.out.trans (hk2.below hgB HB1.out.size))
  have HK2 := Lib.hid hk2
  clear hd ho2 hk2 hc1
  by_cases hm0 : 0 < m
  · have hmi : (0 : Int) < m := by omega
    go_wp2_with fail
    refine (l1Once_any _ _ _ g hc2).mono ?_
    rintro e w3 ⟨v, ⟨t, rfl⟩, rfl, hc3, hk3⟩
    have HO3 := Lib.hid (ownS_kept HO2.out hk3 hgl).top
    have HB3 := Lib.hid (HB2.out.trans (hk3.below hgB HB2.out.size))
    have HZ3 := Lib.hid (Nat.le_trans HK2.out.size hk3.size)
    clear hk3 hc2
    cases t
    · go_wp2_with fail
      refine (l5Any_any _ _ g hc3).mono ?_
      rintro e w4 ⟨A4, m4, c4, d4, rfl, hm4, hd4, ho4, hc4, hk4⟩
      have HD4 := Lib.hid hd4
      have HO4 := Lib.hid ho4
      have HO4' := Lib.hid (ownS_kept HO3.out hk4 hgl).top
      have HB4 := Lib.hid (HB3.out.trans (hk4.below hgB HB3.out.size))
      clear hd4 ho4 hk4 hc4 hc3
      go_wp2
      go_ret2
      exact ⟨A2, m, c2, d, A4, m4, c4, d4, rfl, hm, hm4, HD.out, HD4.out, HO4'.out.base HB1.out.size, HO4.out.base HB3.out.size, HB4.out⟩
    · go_wp2_with fail
      refine (l1Below_pos m _ _ g hmi hc3).mono ?_
      rintro e w4 ⟨v, ⟨k, hk, rfl⟩, rfl, hc4, hk4⟩
      have HO4 := Lib.hid (ownS_kept HO3.out hk4 hgl).top
      have HB4 := Lib.hid (HB3.out.trans (hk4.below hgB HB3.out.size))
      have hkm : k ≤ m := by omega
      have hcap := HO4.out.cap
      have hcc : c2 ≤ maxLen := hcap.2
      have hmc : m ≤ c2 := hcap.1
      clear hk4 hc4 hc3 hcap
      go_wp2_with fail
      refine (l5Copy_any A2 k _ _ _ (rdS_take HO4.out.rd hkm) (by omega)).mono ?_
      rintro e w5 ⟨A5, c5, rfl, hown5, hb5⟩
      have HO5 := Lib.hid hown5
      have HO5' := Lib.hid (HO4.out.below hb5 (Nat.le_refl _)).top
      have HB5 := Lib.hid (HB4.out.trans (hb5.mono HB4.out.size))
      clear hown5 hb5
      go_wp2
      go_ret2
      exact ⟨A2, m, c2, d, A5, k, c5, d.take k, rfl, hm, by omega, HD.out, fun s hs => HD.out s (List.mem_of_mem_take hs), HO5'.out.base HB1.out.size, HO5.out.base HB4.out.size, HB5.out⟩
  · obtain rfl : m = 0 := by omega
    go_wp2_with fail
    refine (l5Any_any _ _ g hc2).mono ?_
    rintro e w4 ⟨A4, m4, c4, d4, rfl, hm4, hd4, ho4, hc4, hk4⟩
    have HD4 := Lib.hid hd4
    have HO4 := Lib.hid ho4
    have HO4' := Lib.hid (ownS_kept HO2.out hk4 hgl).top
    have HB4 := Lib.hid (HB2.out.trans (hk4.below hgB HB2.out.size))
    clear hd4 ho4 hk4 hc4 hc2
    go_wp2
    go_ret2
    exact ⟨A2, 0, c2, d, A4, m4, c4, d4, rfl, hm, hm4, HD.out, HD4.out, HO4'.out.base HB1.out.size, HO4.out.base HB2.out.size, HB4.out⟩
end Go.Proofs.YtkgdgnjlmcodlaaDoor.D05
