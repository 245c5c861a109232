/- The drawing functions of chapter 4: what they return, and that they write into nothing that was there. -/
import Derived.Test.YteokjoppplbmfaaD02
import Derived.Test.YteokjoppplbmfaaC04I
namespace Go.Proofs.Yteokjoppplbmfaa.D04
set_option linter.unusedVariables false
open Go.RowKit Mem MemS M02 M04 C01 C02 C02B D01 D02 SL C04I C04S
theorem ownS_kept {w w' : World} {g lo hi n c : Nat} {A : Option Addr} {zs : List ByteArray} (h : OwnS w lo hi A n c zs) (hk : Kept g w w') (hg : g < lo) : OwnS w' lo hi A n c zs :=
  h.keep fun i h0 h1 _ => hk.block i h0 (by omega)
def StrIn (m : Nat) (v : Value) : Prop := ∃ s : ByteArray, s.size ≤ m ∧ v = .string s
theorem l4Label_any (w : World) (B g : Nat) (hc : Cur w B g) : Calls Try.prog 44 #[.pointer (some ⟨g, 0, none⟩)] w (Dr B g (StrIn 16) w) := by
  go_enter Try.func44, Try.ntmps44
  go_wp2_with fail
  refine (l1Str_any _ _ _ 16 (by omega) _ B g ?_ ?_).mono ?_
  · exact hc.alloc _
  · exact SRow.new hc.lt (by decide +kernel) rfl
  rintro e w2 ⟨v, ⟨y, hy, rfl⟩, rfl, hc2, hk2⟩
  go_wp2
  go_ret
  exact ⟨_, ⟨y, hy, rfl⟩, rfl, hc2, ((Kept.refl _ _).alloc _).trans hk2⟩
theorem l4Any_any (w : World) (B g : Nat) (hc : Cur w B g) : Calls Try.prog 33 #[.pointer (some ⟨g, 0, none⟩)] w (Dr B g (StrIn 16) w) := by
  go_enter Try.func33, Try.ntmps33
  go_wp2_with fail
  refine (l1Once_any _ _ B g hc).mono ?_
  rintro e w1 ⟨v, ⟨b, rfl⟩, rfl, hc1, hk1⟩
  cases b
  · go_wp2_with fail
    refine (l4Label_any _ B g hc1).mono ?_
    rintro e w2 ⟨v, ⟨y, hy, rfl⟩, rfl, hc2, hk2⟩
    go_wp2
    go_ret
    exact ⟨_, ⟨y, hy, rfl⟩, rfl, hc2, hk1.trans hk2⟩
  · go_wp2_with fail
    refine (l1Str_any _ _ _ 16 (by omega) _ B g ?_ ?_).mono ?_
    · exact hc1.alloc _
    · exact SRow.new hc1.lt (by decide +kernel) rfl
    rintro e w2 ⟨v, ⟨y, hy, rfl⟩, rfl, hc2, hk2⟩
    go_wp2
    go_ret
    exact ⟨_, ⟨y, hy, rfl⟩, rfl, hc2, (hk1.alloc _).trans hk2⟩
theorem drawLooksLike_any (w : World) (A : Option Addr) (n c : Nat) (hn : n ≤ maxLen) (hr : BRow w w.heap.size A n) :
    Calls Try.prog 11 #[.slice A n c] w fun e w' => ∃ a b : ByteArray, e = .returned (.tuple #[.string a, .string b]) ∧ a.size ≤ 16 ∧ b.size ≤ 16 ∧ Below w.heap.size w w' := by
  go_enter Try.func11, Try.ntmps11
  go_wp2_with fail
  refine (l1New_any w A n c hn hr).mono ?_
  rintro e w1 ⟨g, rfl, hc1, hb1⟩
  have hgB := hc1.1
  go_wp2_with fail
  refine (l4Any_any _ _ g hc1).mono ?_
  rintro e w2 ⟨v, ⟨a, ha, rfl⟩, rfl, hc2, hk2⟩
  go_wp2_with fail
  refine (l1Once_any _ _ _ g hc2).mono ?_
  rintro e w3 ⟨v, ⟨t, rfl⟩, rfl, hc3, hk3⟩
  have HB3 := Lib.hid (hb1.trans ((hk2.trans hk3).below hgB hb1.size))
  clear hb1 hk2 hk3
  cases t
  · go_wp2_with fail
    refine (l4Any_any _ _ g hc3).mono ?_
    rintro e w4 ⟨v, ⟨b, hb, rfl⟩, rfl, hc4, hk4⟩
    go_wp2
    go_ret2
    exact ⟨a, b, rfl, ha, hb, HB3.out.trans (hk4.below hgB HB3.out.size)⟩
  · go_wp2_with fail
    refine (sPlainOf_any a w3 (by omega)).mono ?_
    rintro e w4 ⟨rfl, hb4⟩
    go_wp2
    go_ret2
    exact ⟨a, _, rfl, ha, Nat.le_trans (plain_size a) ha, HB3.out.trans (hb4.mono HB3.out.size)⟩
theorem drawFirstAlike_any (w : World) (A : Option Addr) (n c : Nat) (hn : n ≤ maxLen) (hr : BRow w w.heap.size A n) :
    Calls Try.prog 12 #[.slice A n c] w fun e w' => ∃ A' m c' ss v, e = .returned (.tuple #[.slice A' m c', .string v]) ∧ m ≤ 5 ∧ (∀ s ∈ ss, ByteArray.size s ≤ 16) ∧ v.size ≤ 16 ∧ OwnS w' w.heap.size w'.heap.size A' m c' ss ∧ Below w.heap.size w w' := by
  go_enter Try.func12, Try.ntmps12
  go_wp2_with fail
  refine (l1New_any w A n c hn hr).mono ?_
  rintro e w1 ⟨g, rfl, hc1, hb1⟩
  have hgB := hc1.1
  have hgl := hc1.lt
  have HO := Lib.hid (OwnS.lit0 (lo := w1.heap.size) w1 (Nat.le_refl _))
  have HC := Lib.hid (hc1.alloc (.cells #[] 9))
  have HK := Lib.hid ((Kept.refl g w1).alloc (.cells #[] 9))
  have HB1 := Lib.hid hb1
  clear hc1 hb1
  go_wp2_with fail
  refine (l1Below_any 5 _ _ g HC.out).mono ?_
  rintro e w2 ⟨v, ⟨x, hx0, hx1, rfl⟩, rfl, hc2, hk2⟩
  have HO2 := Lib.hid (ownS_kept HO.out hk2 hgl).top
  have HC2 := Lib.hid hc2
  have HK2 := Lib.hid (HK.out.trans hk2)
  clear hc2 hk2
  have hx4 : x ≤ 4 := by omega
  clear hx1
  go_wp2
  go_loopw [5, 6] (fun v i wr => ∃ (A1 : Option Addr) (c1 m : Nat) (y : Int) (d : List ByteArray), v = .slice A1 m c1 ∧ i = .int .i64 y ∧ 0 ≤ y ∧ (m : Int) + y ≤ 4 ∧ (∀ s ∈ d, s.size ≤ 16) ∧ OwnS wr w1.heap.size wr.heap.size A1 m c1 d ∧ Cur wr w.heap.size g ∧ Kept g w1 wr) (fun _ i _ => (intOf i).toNat)
  case atStart => exact ⟨_, 0, 0, x, [], rfl, rfl, hx0, by omega, by simp, HO2.out, HC2.out, HK2.out⟩
  case round =>
    obtain ⟨A1, c1, m, y, d, rfl, rfl, hy0, hy1, hd, hown, hcur, hkept⟩ := hrel
    have HD := Lib.hid hd
    have HOr := Lib.hid hown
    have HCr := Lib.hid hcur
    have HKr := Lib.hid hkept
    clear hown hcur hkept hd
    by_cases hyp : y > 0
    · go_wp2_with fail
      refine (l4Any_any _ _ g HCr.out).mono ?_
      rintro e w3 ⟨v, ⟨s, hs, rfl⟩, rfl, hc3, hk3⟩
      have HO3 := Lib.hid (ownS_kept HOr.out hk3 hgl).top
      have HC3 := Lib.hid hc3
      have HK3 := Lib.hid (HKr.out.trans hk3)
      clear hc3 hk3
      have hz : InS s := by unfold InS maxLen; omega
      go_wp2_with (at_builtin; refine wp_pushS (z := s) rfl _ _ rfl rfl HO3.out rfl hz (by omega) HK3.out.size ?_; intro A2 c2 w4 hown4 hgr4)
      have hb4 : Below w1.heap.size w3 w4 := hgr4.below HK3.out.size HO3.out.ge
      go_roundw
      case rel => exact ⟨A2, c2, m + 1, y - 1, d ++ [s], rfl, by go_num, by omega, by omega, fun t ht => by rcases List.mem_append.1 ht with ht | ht; exact HD.out t ht; rw [List.mem_singleton.1 ht]; exact hs, hown4, cur_low HC3.out (hb4.mono (by omega)), kept_then HK3.out hb4⟩
      case measure => simp [intOf]; omega
    · go_wp2_with fail
      refine (l4Any_any _ _ g HCr.out).mono ?_
      rintro e w3 ⟨v, ⟨s, hs, rfl⟩, rfl, hc3, hk3⟩
      have HO3 := Lib.hid (ownS_kept HOr.out hk3 hgl).top
      have HK3 := Lib.hid (HKr.out.trans hk3)
      go_wp2
      go_ret2
      exact ⟨A1, m, c1, d, s, rfl, by omega, HD.out, hs, HO3.out.base HB1.out.size, HB1.out.trans (HK3.out.below hgB HB1.out.size)⟩
end Go.Proofs.Yteokjoppplbmfaa.D04
