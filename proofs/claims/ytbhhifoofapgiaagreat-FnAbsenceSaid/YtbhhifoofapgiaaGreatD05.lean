/- The drawing functions of chapter 4: what they return, and that they write into nothing that was there. The drawing functions of chapter 5: what they return, and that they write into nothing that was there. -/
import Derived.Test.YtbhhifoofapgiaaGreatD02
import Derived.Test.YtbhhifoofapgiaaGreatC05S
namespace Go.Proofs.YtbhhifoofapgiaaGreat.D04
set_option linter.unusedVariables false
open Go.RowKit Mem MemS M02 M04 C01 C02 C02B D01 D02 SL C04I C04S
theorem ownS_kept {w w' : World} {g lo hi n c : Nat} {A : Option Addr} {zs : List ByteArray} (h : OwnS w lo hi A n c zs) (hk : Kept g w w') (hg : g < lo) : OwnS w' lo hi A n c zs :=
  h.keep fun i h0 h1 _ => hk.block i h0 (by omega)
def StrIn (m : Nat) (v : Value) : Prop := ∃ s : ByteArray, s.size ≤ m ∧ v = .string s
theorem l4Label_any (w : World) (B g : Nat) (hc : Cur w B g) : Calls Tryz.prog 73 #[.pointer (some ⟨g, 0, none⟩)] w (Dr B g (StrIn 16) w) := by
  go_enter Tryz.func73, Tryz.ntmps73
  go_wp2_with fail
  refine (l1Str_any _ _ _ 16 (by omega) _ B g ?_ ?_).mono ?_
  · exact hc.alloc _
  · exact SRow.new hc.lt (by decide +kernel) rfl
  rintro e w2 ⟨v, ⟨y, hy, rfl⟩, rfl, hc2, hk2⟩
  go_wp2
  go_ret
  exact ⟨_, ⟨y, hy, rfl⟩, rfl, hc2, ((Kept.refl _ _).alloc _).trans hk2⟩
theorem l4Any_any (w : World) (B g : Nat) (hc : Cur w B g) : Calls Tryz.prog 40 #[.pointer (some ⟨g, 0, none⟩)] w (Dr B g (StrIn 16) w) := by
  go_enter Tryz.func40, Tryz.ntmps40
  go_wp2_with fail
  refine (l1Once_any _ _ B g hc).mono ?_
  rintro e w1 ⟨v, ⟨b, rfl⟩, rfl, hc1, hk1⟩
  cases b
  · go_wp2_with fail
    refine (l4Label_any _ B g hc1).mono ?_
    rintro e w2 ⟨v, ⟨y, hy, rfl⟩, rfl, hc2, hk2⟩
    go_wp2
    go_ret
    exact ⟨_, ⟨y, hy, rfl⟩, rfl, hc2, hk1.trans hk2⟩
  · go_wp2_with fail
    refine (l1Str_any _ _ _ 16 (by omega) _ B g ?_ ?_).mono ?_
    · exact hc1.alloc _
    · exact SRow.new hc1.lt (by decide +kernel) rfl
    rintro e w2 ⟨v, ⟨y, hy, rfl⟩, rfl, hc2, hk2⟩
    go_wp2
    go_ret
    exact ⟨_, ⟨y, hy, rfl⟩, rfl, hc2, (hk1.alloc _).trans hk2⟩
end Go.Proofs.YtbhhifoofapgiaaGreat.D04
namespace Go.Proofs.YtbhhifoofapgiaaGreat.D05
set_option linter.unusedVariables false
set_option maxRecDepth 100000
open Go.RowKit Mem MemS M02 M04 M05 C01 C02 C02B D01 D02 D04 SL C04I C04S C05S
/-- a draw of a list of strings -/
def DrS (B g M : Nat) (w : World) (e : Ending) (w' : World) : Prop :=
  ∃ A' m c' ss, e = .returned (.slice A' m c') ∧ m ≤ M ∧ (∀ s ∈ ss, ByteArray.size s ≤ 16) ∧ OwnS w' w.heap.size w'.heap.size A' m c' ss ∧ Cur w' B g ∧ Kept g w w'
theorem rdS_two (w : World) {x y : ByteArray} (hx : InS x) (hy : InS y) : RdS (w.alloc (.cells #[.string x, .string y] EST)) (w.heap.size + 1) (some ⟨w.heap.size, 0, none⟩) 2 [x, y] :=
  ⟨rfl, by intro z hz; rcases List.mem_cons.1 hz with rfl | hz; exact hx; rw [List.mem_singleton.1 hz]; exact hy, fun _ => ⟨_, _, rfl, by omega, fun j hj => by
    rw [World.cell?_alloc_at _ _ _ _ rfl]
    rcases Nat.lt_or_ge j 1 with h | h
    · obtain rfl : j = 0 := by omega
      rfl
    · obtain rfl : j = 1 := by omega
      rfl⟩⟩
theorem l5Path_any (w : World) (B g : Nat) (hc : Cur w B g) : Calls Tryz.prog 103 #[.pointer (some ⟨g, 0, none⟩)] w (DrS B g 3 w) := by
  have hgl := hc.lt
  have HO := Lib.hid (OwnS.lit0 (lo := w.heap.size) w (Nat.le_refl _))
  have HC := Lib.hid (hc.alloc (.cells #[] 9))
  have HK := Lib.hid ((Kept.refl g w).alloc (.cells #[] 9))
  clear hc
  go_enter Tryz.func103, Tryz.ntmps103
  go_wp2_with fail
  refine (l1Below_any 3 _ _ g HC.out).mono ?_
  rintro e w2 ⟨v, ⟨x, hx0, hx1, rfl⟩, rfl, hc2, hk2⟩
  have HO2 := Lib.hid (ownS_kept HO.out hk2 hgl).top
  have HC2 := Lib.hid hc2
  have HK2 := Lib.hid (HK.out.trans hk2)
  clear hc2 hk2
  have hx4 : x ≤ 2 := by omega
  clear hx1
  go_wp2
  go_loopw [3, 4] (fun v i wr => ∃ (A1 : Option Addr) (c1 m : Nat) (y : Int) (d : List ByteArray), v = .slice A1 m c1 ∧ i = .int .i64 y ∧ 0 ≤ y ∧ (m : Int) + y ≤ 3 ∧ (∀ s ∈ d, s.size ≤ 16) ∧ OwnS wr w.heap.size wr.heap.size A1 m c1 d ∧ Cur wr B g ∧ Kept g w wr) (fun _ i _ => (intOf i).toNat)
  case atStart => exact ⟨_, 0, 0, 1 + x, [], rfl, rfl, by omega, by omega, by simp, HO2.out, HC2.out, HK2.out⟩
  case round =>
    obtain ⟨A1, c1, m, y, d, rfl, rfl, hy0, hy1, hd, hown, hcur, hkept⟩ := hrel
    have HD := Lib.hid hd
    have HOr := Lib.hid hown
    have HCr := Lib.hid hcur
    have HKr := Lib.hid hkept
    clear hown hcur hkept hd
    by_cases hyp : y > 0
    · go_wp2_with fail
      refine (l4Label_any _ _ g HCr.out).mono ?_
      rintro e w3 ⟨v, ⟨s, hs, rfl⟩, rfl, hc3, hk3⟩
      have HO3 := Lib.hid (ownS_kept HOr.out hk3 hgl).top
      have HC3 := Lib.hid hc3
      have HK3 := Lib.hid (HKr.out.trans hk3)
      clear hc3 hk3
      have hz : InS s := by unfold InS maxLen; omega
      go_wp2_with (at_builtin; refine wp_pushS (z := s) rfl _ _ rfl rfl HO3.out rfl hz (by omega) HK3.out.size ?_; intro A2 c2 w4 hown4 hgr4)
      have hb4 := hgr4.below HK3.out.size HO3.out.ge
      go_roundw
      case rel => exact ⟨A2, c2, m + 1, y - 1, d ++ [s], rfl, by go_num, by omega, by omega, fun t ht => by rcases List.mem_append.1 ht with ht | ht; exact HD.out t ht; rw [List.mem_singleton.1 ht]; exact hs, hown4, cur_low HC3.out (hb4.mono (by omega)), kept_then HK3.out hb4⟩
      case measure => simp [intOf]; omega
    · go_wp2
      go_ret
      exact ⟨A1, m, c1, d, rfl, by omega, HD.out, HOr.out, HCr.out, HKr.out⟩
theorem l5Any_any (w : World) (B g : Nat) (hc : Cur w B g) : Calls Tryz.prog 109 #[.pointer (some ⟨g, 0, none⟩)] w (DrS B g 5 w) := by
  have hgl := hc.lt
  go_enter Tryz.func109, Tryz.ntmps109
  go_wp2_with fail
  refine (l5Path_any _ _ g hc).mono ?_
  rintro e w1 ⟨A1, m, c1, d, rfl, hm, hd, ho1, hc1, hk1⟩
  have HO1 := Lib.hid ho1
  have HD := Lib.hid hd
  have HK1 := Lib.hid hk1
  clear ho1 hd hk1
  go_wp2_with fail
  refine (l1Below_any 8 _ _ g hc1).mono ?_
  rintro e w2 ⟨v, ⟨x, hx0, hx1, rfl⟩, rfl, hc2, hk2⟩
  have HO2 := Lib.hid (ownS_kept HO1.out hk2 hgl).top
  have HK2 := Lib.hid (HK1.out.trans hk2)
  have HC2 := Lib.hid hc2
  clear hk2 hc2 hc1 hx1
  by_cases h0 : x = 0
  · subst h0
    go_wp2_with fail
    refine (l4Any_any _ _ g HC2.out).mono ?_
    rintro e w3 ⟨v, ⟨s, hs, rfl⟩, rfl, hc3, hk3⟩
    have HO3 := Lib.hid (ownS_kept HO2.out hk3 hgl).top
    have HC3 := Lib.hid hc3
    have HK3 := Lib.hid (HK2.out.trans hk3)
    clear hc3 hk3
    go_wp2_with fail
    refine (l4Any_any _ _ g HC3.out).mono ?_
    rintro e w4 ⟨v, ⟨s2, hs2, rfl⟩, rfl, hc4, hk4⟩
    have HO4 := Lib.hid (ownS_kept HO3.out hk4 hgl).top
    have HC4 := Lib.hid hc4
    have HK4 := Lib.hid (HK3.out.trans hk4)
    clear hc4 hk4
    have hz : InS s := by unfold InS maxLen; omega
    have hz2 : InS s2 := by unfold InS maxLen; omega
    go_wp2_with (at_builtin; refine wp_appS rfl _ _ rfl rfl (HO4.out.alloc _) rfl (rdS_two w4 hz hz2) (by omega) (by have := HK4.out.size; simp; omega) ?_; intro A2 c2 w5 hown5 hgr5)
    have hb5 : Below w.heap.size w4 w5 := ((Below.refl _ _).alloc HK4.out.size _).trans (hgr5.below (by have := HK4.out.size; simp; omega) HO4.out.ge)
    go_ret
    refine ⟨A2, m + 2, c2, d ++ [s, s2], rfl, by omega, fun t ht => ?_, hown5, cur_low HC4.out (hb5.mono (by omega)), kept_then HK4.out hb5⟩
    rcases List.mem_append.1 ht with ht | ht
    · exact HD.out t ht
    · rcases List.mem_cons.1 ht with rfl | ht
      · exact hs
      · rw [List.mem_singleton.1 ht]
        exact hs2
  by_cases h1 : x = 1
  · subst h1
    go_wp2
    go_ret
    have hb5 : Below w.heap.size w2 (w2.alloc (.cells #[] EST)) := (Below.refl _ _).alloc HK2.out.size _
    exact ⟨_, 0, 0, [], rfl, by omega, by simp, (OwnS.lit0 (lo := w.heap.size) w2 HK2.out.size).top, cur_low HC2.out (hb5.mono (by omega)), kept_then HK2.out hb5⟩
  · go_wp2
    go_ret
    exact ⟨A1, m, c1, d, rfl, by omega, HD.out, HO2.out, HC2.out, HK2.out⟩
end Go.Proofs.YtbhhifoofapgiaaGreat.D05
