/- The drawing functions of chapter 3: what they return, and that they write into nothing that was there. -/
import Derived.Test.YtkkednffolfpiaaD02
namespace Go.Proofs.Ytkkednffolfpiaa.D03
set_option linter.unusedVariables false
open Go.RowKit Mem M02 C01 C02 D01 D02 SL
/-- The first n cells from A on are integers between lo and hi, in memory that is older than what comes. -/
def IRowIn (w : World) (g : Nat) (A : Option Addr) (n : Nat) (lo hi : Int) : Prop :=
  ∃ b off, A = some ⟨b, off, none⟩ ∧ b < w.heap.size ∧ b ≠ g ∧ ∀ j, j < n → ∃ x : Int, w.cell? ⟨b, off + j, none⟩ = some (.int .i64 x) ∧ lo ≤ x ∧ x ≤ hi
theorem IRowIn.kept {w w' : World} {g : Nat} {A : Option Addr} {n : Nat} {lo hi : Int} (h : IRowIn w g A n lo hi) (hk : Kept g w w') : IRowIn w' g A n lo hi := by
  obtain ⟨b, off, e, hlt, hne, hc⟩ := h
  exact ⟨b, off, e, Nat.lt_of_lt_of_le hlt hk.size, hne, fun j hj => by
    obtain ⟨x, hx, hw⟩ := hc j hj
    exact ⟨x, (World.cell?_of_block (w := w) (a := ⟨b, off + j, none⟩) (hk.block b hlt hne)).trans hx, hw⟩⟩
def allIn (lo hi : Int) (cs : Array Value) : Bool := cs.toList.all fun v => match v with | .int .i64 x => decide (lo ≤ x ∧ x ≤ hi) | _ => false
theorem IRowIn.new {w : World} {g : Nat} {cs : Array Value} {t : TypeId} {lo hi : Int} (hg : g < w.heap.size) {n : Nat} (h : allIn lo hi cs = true) (hn : n = cs.size) : IRowIn (w.alloc (.cells cs t)) g (some ⟨w.heap.size, 0, none⟩) n lo hi := by
  subst hn
  refine ⟨w.heap.size, 0, rfl, by simp, by omega, fun j hj => ?_⟩
  have hm : cs[j] ∈ cs.toList := by rw [← Array.getElem_toList]; exact List.getElem_mem _
  have h1 := (List.all_eq_true.1 h) _ hm
  have h2 : (w.alloc (.cells cs t)).cell? ⟨w.heap.size, 0 + j, none⟩ = some cs[j] := by rw [World.cell?_alloc_mark]; simp [hj]
  generalize cs[j] = v at *
  split at h1
  · exact ⟨_, h2, (of_decide_eq_true h1).1, (of_decide_eq_true h1).2⟩
  · cases h1
set_option maxHeartbeats 400000 in
theorem l1Int_in (lo hi : Int) (A : Option Addr) (n c : Nat) (hn : 0 < n) (w : World) (B g : Nat) (hc : Cur w B g) (hr : IRowIn w g A n lo hi) :
    Calls Try.prog 57 #[.pointer (some ⟨g, 0, none⟩), .slice A n c] w (Dr B g (IntIn lo hi) w) := by
  go_enter Try.func57, Try.ntmps57
  go_wp2_with fail
  refine (l1Below_pos _ _ B g (by omega) hc).mono ?_
  rintro e w1 ⟨v, ⟨k, hk, rfl⟩, rfl, hc1, hk1⟩
  obtain ⟨b, off, rfl, hlt, hne, hcell⟩ := hr.kept hk1
  obtain ⟨x, hx, hw0, hw1⟩ := hcell k (by omega)
  clear hcell hr
  go_wp2
  go_ret
  exact ⟨_, ⟨x, hw0, hw1, rfl⟩, rfl, hc1, hk1⟩
theorem mul_word {x y : Int} (hx0 : 0 ≤ x) (hx1 : x ≤ 999999) (hy0 : 0 ≤ y) (hy1 : y ≤ 1999) : ∃ p : Int, x * y = p ∧ 0 ≤ p ∧ p ≤ 1998998001 := by
  have h1 : 0 ≤ x * y := Int.mul_nonneg hx0 hy0
  have h2 : x * y ≤ 999999 * 1999 := Int.mul_le_mul hx1 hy1 hy0 (by omega)
  exact ⟨_, rfl, h1, by omega⟩
set_option maxHeartbeats 400000 in
theorem l3Word_any (w : World) (B g : Nat) (hc : Cur w B g) : Calls Try.prog 45 #[.pointer (some ⟨g, 0, none⟩)] w (Dr B g (IntIn (-1) 2147483648) w) := by
  go_enter Try.func45, Try.ntmps45
  go_wp2_with fail
  refine (l1Once_any _ _ B g hc).mono ?_
  rintro e w1 ⟨v, ⟨b1, rfl⟩, rfl, hc1, hk1⟩
  cases b1
  · go_wp2_with fail
    refine (l1Once_any _ _ B g hc1).mono ?_
    rintro e w2 ⟨v, ⟨b2, rfl⟩, rfl, hc2, hk2⟩
    cases b2
    · go_wp2_with fail
      refine (l1Below_any _ _ B g hc2).mono ?_
      rintro e w3 ⟨v, ⟨x, hx0, hx1, rfl⟩, rfl, hc3, hk3⟩
      go_wp2_with fail
      refine (l1Below_any _ _ B g hc3).mono ?_
      rintro e w4 ⟨v, ⟨y, hy0, hy1, rfl⟩, rfl, hc4, hk4⟩
      obtain ⟨p, hp, hp0, hp1⟩ := mul_word hx0 (show x ≤ 999999 by omega) hy0 (show y ≤ 1999 by omega)
      clear hx1 hy1
      go_wp2
      go_ret
      exact ⟨_, ⟨p, by omega, by omega, rfl⟩, rfl, hc4, ((hk1.trans hk2).trans hk3).trans hk4⟩
    · go_wp2_with fail
      refine (l1Int_in (-1) 2147483648 _ _ _ (by omega) _ B g ?_ ?_).mono ?_
      · exact hc2.alloc _
      · exact IRowIn.new hc2.lt (by decide +kernel) rfl
      rintro e w3 ⟨v, ⟨x, hx0, hx1, rfl⟩, rfl, hc3, hk3⟩
      go_wp2
      go_ret
      exact ⟨_, ⟨x, hx0, hx1, rfl⟩, rfl, hc3, ((hk1.trans hk2).alloc _).trans hk3⟩
  · go_wp2_with fail
    refine (l1Int_in (-1) 2147483648 _ _ _ (by omega) _ B g ?_ ?_).mono ?_
    · exact hc1.alloc _
    · exact IRowIn.new hc1.lt (by decide +kernel) rfl
    rintro e w3 ⟨v, ⟨x, hx0, hx1, rfl⟩, rfl, hc3, hk3⟩
    go_wp2
    go_ret
    exact ⟨_, ⟨x, hx0, hx1, rfl⟩, rfl, hc3, (hk1.alloc _).trans hk3⟩
def Words (zs : List Int) : Prop := ∀ z ∈ zs, -1 ≤ z ∧ z ≤ 2147483648
theorem l3Words_any (w : World) (B g : Nat) (hc : Cur w B g) :
    Calls Try.prog 49 #[.pointer (some ⟨g, 0, none⟩)] w fun e w' => ∃ A m c zs, e = .returned (.slice A m c) ∧ m ≤ 4 ∧ Words zs ∧ Own .i64 w' w.heap.size w'.heap.size A m c zs ∧ Cur w' B g ∧ Kept g w w' := by
  have hgl := hc.lt
  have HO := Lib.hid (Own.lit0 (lo := w.heap.size) .i64 w (Nat.le_refl _))
  have hca := hc.alloc (.cells #[] 3)
  have HK := Lib.hid ((Kept.refl g w).alloc (.cells #[] 3))
  clear hc
  go_enter Try.func49, Try.ntmps49
  go_wp2_with fail
  refine (l1Below_any _ _ B g hca).mono ?_
  rintro e w1 ⟨v, ⟨y, hy0, hy1, rfl⟩, rfl, hc1, hk1⟩
  obtain ⟨k0, rfl⟩ : ∃ k : Nat, y = k := ⟨y.toNat, by omega⟩
  have hk0 : k0 ≤ 4 := by omega
  have HC1 := Lib.hid hc1
  have HO1 := Lib.hid (own_kept HO.out hk1 hgl).top
  have HK1 := Lib.hid (HK.out.trans hk1)
  clear hc1 hk1 hca hy0 hy1
  go_wp2
  go_loopw [3, 4] (fun v i wr => ∃ (A1 : Option Addr) (c1 j k : Nat) (d : List Int), v = .slice A1 j c1 ∧ i = .int .i64 k ∧ j + k ≤ 4 ∧ Words d ∧ Own .i64 wr w.heap.size wr.heap.size A1 j c1 d ∧ Cur wr B g ∧ Kept g w wr) (fun _ i _ => (intOf i).toNat)
  case atStart => exact ⟨_, 0, 0, k0, [], rfl, rfl, by omega, by simp [Words], HO1.out, HC1.out, HK1.out⟩
  case round =>
    obtain ⟨A1, c1, j, k, d, rfl, rfl, hj, hd, hown, hcur, hkept⟩ := hrel
    have HD := Lib.hid hd
    have HOr := Lib.hid hown
    have HCr := Lib.hid hcur
    have HKr := Lib.hid hkept
    clear hown hcur hkept hd
    by_cases hk : 0 < k
    · go_wp2_with fail
      refine (l3Word_any _ B g HCr.out).mono ?_
      rintro e w2 ⟨v, ⟨x, hx0, hx1, rfl⟩, rfl, hc2, hk2⟩
      have HO2 := Lib.hid (own_kept HOr.out hk2 hgl).top
      have HC2 := Lib.hid hc2
      have HK2 := Lib.hid (HKr.out.trans hk2)
      clear hc2 hk2
      have hz : In .i64 x := by constructor <;> simp [IntKind.min, IntKind.max, IntKind.signed, IntKind.bits] <;> omega
      go_wp2_with (at_builtin; refine wp_push (k := .i64) (z := x) (by unfold BI; decide) rfl _ _ rfl rfl HO2.out rfl hz (by omega) HK2.out.size ?_; intro A2 c2 w3 hown3 hgr3)
      have hb3 : Below w.heap.size w2 w3 := hgr3.below HK2.out.size HO2.out.ge
      go_roundw
      case rel =>
        refine ⟨A2, c2, j + 1, k - 1, d ++ [x], rfl, by go_num, by omega, fun u hu => ?_, hown3, cur_low HC2.out (hb3.mono (by omega)), kept_then HK2.out hb3⟩
        rcases List.mem_append.1 hu with hu | hu
        · exact HD.out u hu
        · have e : u = x := by simpa using hu
          omega
      case measure => simp [intOf]; omega
    · go_wp2
      go_ret
      exact ⟨A1, j, c1, d, rfl, by omega, HD.out, HOr.out, HCr.out, HKr.out⟩
theorem drawKeyedHash_any (w : World) (A : Option Addr) (n c : Nat) (hn : n ≤ maxLen) (hr : BRow w w.heap.size A n) :
    Calls Try.prog 18 #[.slice A n c] w fun e w' => ∃ k A' m c' zs, e = .returned (.tuple #[.int .i64 k, .slice A' m c']) ∧ -1 ≤ k ∧ k ≤ 2147483648 ∧ m ≤ 4 ∧ Words zs ∧ Own .i64 w' w.heap.size w'.heap.size A' m c' zs ∧ Below w.heap.size w w' := by
  go_enter Try.func18, Try.ntmps18
  go_wp2_with fail
  refine (l1New_any w A n c hn hr).mono ?_
  rintro e w1 ⟨g, rfl, hc1, hb1⟩
  have hg0 := hc1.1
  have HB := Lib.hid hb1
  clear hb1 hr
  go_wp2_with fail
  refine (l3Word_any _ _ g hc1).mono ?_
  rintro e w2 ⟨v, ⟨k, hk0, hk1, rfl⟩, rfl, hc2, hk2⟩
  have HK2 := Lib.hid hk2
  clear hk2 hc1
  go_wp2_with fail
  refine (l3Words_any _ _ g hc2).mono ?_
  rintro e w3 ⟨A', m, c', zs, rfl, hm, hz, ho, hc3, hk3⟩
  have HO := Lib.hid ho
  have HZ := Lib.hid hz
  have HK3 := Lib.hid (HK2.out.trans hk3)
  clear ho hz hk3 hc3
  go_wp2
  go_ret2
  exact ⟨k, _, m, _, zs, rfl, hk0, hk1, hm, HZ.out, HO.out.base (by have := HB.out.size; have := HK2.out.size; omega), HB.out.trans (HK3.out.below hg0 HB.out.size)⟩
theorem drawEncrypt_any (w : World) (A : Option Addr) (n c : Nat) (hn : n ≤ maxLen) (hr : BRow w w.heap.size A n) :
    Calls Try.prog 14 #[.slice A n c] w fun e w' => ∃ k A' m c' zs, e = .returned (.tuple #[.int .i64 k, .slice A' m c']) ∧ -1 ≤ k ∧ k ≤ 2147483648 ∧ m ≤ 100000 ∧ Own .u8 w' w.heap.size w'.heap.size A' m c' zs ∧ Below w.heap.size w w' := by
  go_enter Try.func14, Try.ntmps14
  go_wp2_with fail
  refine (l1New_any w A n c hn hr).mono ?_
  rintro e w1 ⟨g, rfl, hc1, hb1⟩
  have hg0 := hc1.1
  have HB := Lib.hid hb1
  clear hb1 hr
  go_wp2_with fail
  refine (l3Word_any _ _ g hc1).mono ?_
  rintro e w2 ⟨v, ⟨k, hk0, hk1, rfl⟩, rfl, hc2, hk2⟩
  have HK2 := Lib.hid hk2
  clear hk2 hc1
  go_wp2_with fail
  refine (l1Below_any _ _ _ g hc2).mono ?_
  rintro e w3 ⟨v, ⟨y, hy0, hy1, rfl⟩, rfl, hc3, hk3⟩
  have HY := Lib.hid hy1
  have HK3 := Lib.hid (HK2.out.trans hk3)
  clear hk3 hc2 hy1
  go_wp2_with fail
  refine (l1Bytes_any y _ _ g (by have := HY.out; omega) hc3).mono ?_
  rintro e w4 ⟨A', m, c', zs, rfl, hm, ho, hc4, hk4⟩
  have HO := Lib.hid ho
  have HK4 := Lib.hid (HK3.out.trans hk4)
  clear ho hk4 hc4 hc3
  go_wp2
  go_ret2
  exact ⟨k, _, m, _, zs, rfl, hk0, hk1, hm, HO.out.base (by have := HB.out.size; have := HK3.out.size; omega), HB.out.trans (HK4.out.below hg0 HB.out.size)⟩
theorem drawDeriveFromString_any (w : World) (A : Option Addr) (n c : Nat) (hn : n ≤ maxLen) (hr : BRow w w.heap.size A n) :
    Calls Try.prog 23 #[.slice A n c] w fun e w' => ∃ k s, e = .returned (.tuple #[.int .i64 k, .string s]) ∧ -1 ≤ k ∧ k ≤ 2147483648 ∧ s.size ≤ 100 ∧ Below w.heap.size w w' := by
  go_enter Try.func23, Try.ntmps23
  go_wp2_with fail
  refine (l1New_any w A n c hn hr).mono ?_
  rintro e w1 ⟨g, rfl, hc1, hb1⟩
  have hg0 := hc1.1
  have HB := Lib.hid hb1
  clear hb1 hr
  go_wp2_with fail
  refine (l3Word_any _ _ g hc1).mono ?_
  rintro e w2 ⟨v, ⟨k, hk0, hk1, rfl⟩, rfl, hc2, hk2⟩
  have HK2 := Lib.hid hk2
  clear hk2 hc1
  go_wp2_with fail
  refine (l1Str_any _ _ _ 100 (by omega) _ w.heap.size g ?_ ?_).mono ?_
  · exact hc2.alloc _
  · exact SRow.new hc2.lt (by decide +kernel) rfl
  rintro e w3 ⟨v, ⟨s, hs, rfl⟩, rfl, hc3, hk3⟩
  have HK3 := Lib.hid ((HK2.out.alloc _).trans hk3)
  clear hk3 hc3
  go_wp2
  go_ret2
  exact ⟨k, s, rfl, hk0, hk1, hs, HB.out.trans (HK3.out.below hg0 HB.out.size)⟩
end Go.Proofs.Ytkkednffolfpiaa.D03
