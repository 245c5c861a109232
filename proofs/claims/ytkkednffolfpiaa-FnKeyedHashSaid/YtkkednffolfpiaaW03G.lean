/- The walk of the statement on keyed hashes of promise 3: the law returns true, and writes into nothing that was there. -/
import Derived.Test.YtkkednffolfpiaaW03F
namespace Go.Proofs.Ytkkednffolfpiaa.W03G
set_option linter.unusedVariables false
open Go.RowKit Mem M02 C01 C02 C02B D01 D02 SL T01 M03 C03S C03E C03D C03I D03 W03F
theorem dfs_valid (k : Int) (s : ByteArray) : inR (dfs k s) 1 2147483646 = true := by
  have := kh_range k (bti (nums s))
  exact inR_true (by unfold dfs; omega) (by unfold dfs; omega)
theorem words_hit {zs : List Int} (hw : Words zs) {i : Nat} (hi : i < zs.length) {x t : Int} (hx : zs.getD i 0 = x) (ht0 : 0 ≤ t) (ht1 : t ≤ 255) : -1 ≤ x ∧ x ≤ 2147483648 ∧ ((x + 1 + t) % 2147483647) % 2147483647 ≠ zs.getD i 0 % 2147483647 := by
  have hm : zs.getD i 0 ∈ zs := by
    simp only [List.getD, List.getElem?_eq_getElem hi, Option.getD_some]
    exact List.getElem_mem hi
  have h := hw _ hm
  rw [hx] at h ⊢
  refine ⟨h.1, h.2, ?_⟩
  omega
theorem mod_add {x t : Int} (hx0 : -1 ≤ x) (hx1 : x ≤ 2147483648) (ht0 : 0 ≤ t) (ht1 : t ≤ 255) :
    0 ≤ modQ (IntKind.i64.wrap (IntKind.i64.wrap (x + 1) + t)) 2147483647 ∧ modQ (IntKind.i64.wrap (IntKind.i64.wrap (x + 1) + t)) 2147483647 < 2147483647 ∧ modQ (IntKind.i64.wrap (IntKind.i64.wrap (x + 1) + t)) 2147483647 = (x + 1 + t) % 2147483647 := by
  have e1 : IntKind.i64.wrap (x + 1) = x + 1 := by rw [IntKind.wrap_i64]; omega
  have e2 : IntKind.i64.wrap (x + 1 + t) = x + 1 + t := by rw [IntKind.wrap_i64]; omega
  rw [e1, e2, modQ_M]
  omega
theorem at_any (B : Nat) (A : Option Addr) (n c : Nat) (i : Int) (w : World) (h : BRow w B A n) (hn : n ≤ 1048576) (hi0 : 0 ≤ i) (hi : i ≤ 1000) :
    Calls Try.prog 21 #[.slice A n c, .int .i64 i] w fun e w' => ∃ x : Int, 0 ≤ x ∧ x ≤ 255 ∧ e = .returned (.int .i64 x) ∧ w = w' := by
  obtain ⟨i, rfl⟩ : ∃ k : Nat, i = k := ⟨i.toNat, by omega⟩
  by_cases hin : i < n
  · obtain ⟨b, off, rfl, hlt, hc⟩ := h (by omega)
    obtain ⟨x, h0, h1, hx⟩ := hc i hin
    clear hc h
    go_enter Try.func21, Try.ntmps21
    go_wp2
    go_ret
    exact ⟨x, h0, h1, rfl, rfl⟩
  · clear h
    have hy0 : 0 ≤ ((i : Int) * 31 + (n : Int) * 7) % 256 := by omega
    have hy1 : ((i : Int) * 31 + (n : Int) * 7) % 256 ≤ 255 := by omega
    have HY0 := Lib.hid hy0
    have HY1 := Lib.hid hy1
    clear hy0 hy1
    go_enter Try.func21, Try.ntmps21
    go_wp2
    go_ret
    exact ⟨_, HY0.out, HY1.out, rfl, rfl⟩
set_option maxHeartbeats 1000000 in
theorem FnKeyedHash_walk (W0 : World) (A : Option Addr) (n c : Nat) (hn : n ≤ maxLen) (hr : BRow W0 W0.heap.size A n) :
    Calls Try.prog 4 #[.slice A n c] W0 fun e w' => e = .returned (.bool true) ∧ Below W0.heap.size W0 w' := by
  by_cases hbig : 1048576 < n
  · go_enter Try.func4, Try.ntmps4
    go_wp2_with fail
    refine (big_yes _ _ _ _ hbig).mono ?_
    rintro e w1 ⟨rfl, rfl⟩
    go_wp2
    go_ret
    exact ⟨rfl, Below.refl _ _⟩
  have HR := Lib.hid hr
  clear hr
  go_enter Try.func4, Try.ntmps4
  go_wp2_with fail
  refine (big_no _ _ _ _ (by omega)).mono ?_
  rintro e w1 ⟨rfl, rfl⟩
  go_wp2_with fail
  refine (drawKeyedHash_any W0 A n c hn HR.out).mono ?_
  rintro e W1 ⟨k, Al, m, cl, zs, rfl, hk0, hk1, hm, hw, hol, hb1⟩
  have HW := Lib.hid hw
  have HO1 := Lib.hid hol.top
  have HB1 := Lib.hid hb1
  clear hol hb1 hw
  have hrg := kh_range k zs
  have hK := iKeyedHash_any Al k m cl zs W1 HO1.out.rd (by omega) (by omega) (by omega)
  obtain ⟨H, hH⟩ : ∃ H, kh k zs = H := ⟨_, rfl⟩
  rw [hH] at hK hrg
  have hg1 := hrg.1
  have hg2 := hrg.2
  have hd1 : decide (H < 0) = false := decide_eq_false (by omega)
  have hd2 : decide (2147483647 ≤ H) = false := decide_eq_false (by omega)
  have HH := Lib.hid hH
  have HK := Lib.hid hK
  clear hK hH hrg hg1 hg2
  go_wp2_with fail
  refine HK.out.mono ?_
  rintro e W2 ⟨rfl, hb2⟩
  have HO2 := Lib.hid (HO1.out.below hb2 (Nat.le_refl _))
  have HB2 := Lib.hid (HB1.out.trans (hb2.mono HB1.out.size))
  have HZ2 := Lib.hid hb2.size
  clear hb2
  have hki : In .i64 k := in_i64 (by omega) (by omega)
  have HL := Lib.hid (show Own .i64 (W2.alloc (.cells #[.int .i64 k] 3)) W2.heap.size (W2.heap.size + 1) (some ⟨W2.heap.size, 0, none⟩) 1 1 [k] from Own.lit1 .i64 W2 hki (Nat.le_refl _))
  have HR2 := Lib.hid ((HO2.out.rd.more HZ2.out).alloc (Nat.le_refl _) (.cells #[.int .i64 k] 3))
  have HBl := Lib.hid ((Below.refl W2.heap.size W2).alloc (Nat.le_refl _) (.cells #[.int .i64 k] 3))
  have hm2 : 1 + m ≤ 8796093022207 := by omega
  have hm3 : 1 + m ≤ 8796093022208 := by omega
  go_wp2_with (first
    | (at_builtin; refine wp_app (k := .i64) (by unfold BI; decide) rfl (.tmp 29) (.tmp 30) rfl rfl HL.out rfl HR2.out hm3 HBl.out.size ?_; intro A3 c3 W3 hown3 hgr3; have HO3 := Lib.hid hown3; have HB3 := Lib.hid (HBl.out.trans (hgr3.below HBl.out.size HL.out.ge)); clear hown3 hgr3)
    | (at_builtin; refine wp_push (k := .i64) (z := k) (by unfold BI; decide) rfl (.tmp 31) (.tmp 33) rfl rfl HO3.out rfl hki hm2 HB3.out.size ?_; intro A4 c4 W4 hown4 hgr4; have HO4 := Lib.hid hown4; have HB4 := Lib.hid (HB3.out.trans (hgr4.below HB3.out.size HO3.out.ge)); clear hown4 hgr4))
  have hhs : hsh ([k] ++ zs ++ [k]) = H := HH.out
  have hHash := iHash_any A4 _ c4 _ W4 HO4.out.rd (by omega)
  rw [hhs] at hHash
  have HHash := Lib.hid hHash
  have HB4' := Lib.hid (HB2.out.trans (HB4.out.mono HB2.out.size))
  have HO2' := Lib.hid (HO2.out.below HB4.out HZ2.out)
  have HZ4 := Lib.hid (Nat.le_trans HZ2.out HB4.out.size)
  clear hHash hhs
  refine HHash.out.mono ?_
  rintro e W5 ⟨rfl, hb5⟩
  have HB5 := Lib.hid (HB4'.out.trans (hb5.mono HB4'.out.size))
  have HO5 := Lib.hid (HO2'.out.below hb5 HZ4.out)
  have HZ5 := Lib.hid (Nat.le_trans HZ4.out hb5.size)
  clear hb5 hd1 hd2
  by_cases hm0 : 0 < m
  · have HLm := Lib.hid (show Own .i64 (W5.alloc (.cells #[] 3)) W5.heap.size (W5.heap.size + 1) (some ⟨W5.heap.size, 0, none⟩) 0 0 [] from Own.lit0 .i64 W5 (Nat.le_refl _))
    have HRm := Lib.hid ((HO5.out.rd.more HZ5.out).alloc (Nat.le_refl _) (.cells #[] 3))
    have HBm := Lib.hid ((Below.refl W5.heap.size W5).alloc (Nat.le_refl _) (.cells #[] 3))
    have hm4 : 0 + m ≤ 8796093022208 := by omega
    go_wp2_with (at_builtin; refine wp_app (k := .i64) (by unfold BI; decide) rfl (.tmp 41) (.tmp 42) rfl rfl HLm.out rfl HRm.out hm4 HBm.out.size ?_; intro A6 c6 W6 hown6 hgr6; simp only [Nat.zero_add, List.nil_append] at hown6; have HO6 := Lib.hid hown6; have HB6 := Lib.hid (HBm.out.trans (hgr6.below HBm.out.size HLm.out.ge)); clear hown6 hgr6)
    have HB6' := Lib.hid (HB5.out.trans (HB6.out.mono HB5.out.size))
    refine (at_any W0.heap.size A n c 0 _ (HR.out.below HB6'.out) (by omega) (by omega) (by omega)).mono ?_
    rintro e w2 ⟨t, ht0, ht1, rfl, rfl⟩
    obtain ⟨i, hi⟩ : ∃ i : Nat, t % (m : Int) = i := ⟨(t % (m : Int)).toNat, by have := Int.emod_nonneg t (show (m : Int) ≠ 0 by omega); omega⟩
    have him : (i : Int) < (m : Int) := by rw [← hi]; exact Int.emod_lt_of_pos _ (by omega)
    have hin : i < m := by omega
    obtain ⟨gm, rfl, hgm0, hgm1, hcg, hfg, -⟩ := HO6.out.set hin 0 (in_i64 (by omega) (by omega))
    obtain ⟨x, hx⟩ : ∃ x, zs.getD i 0 = x := ⟨_, rfl⟩
    rw [hx] at hcg
    have HX := Lib.hid hx
    have HG0 := Lib.hid hgm0
    have HG1 := Lib.hid hgm1
    have hii : (0 : Int) ≤ (i : Int) := by omega
    clear hx hgm0 hgm1
    go_wp2_with fail
    go_region_with (first
      | (go_at_call 21; refine (at_any W0.heap.size A n c 1 _ (HR.out.below HB6'.out.drew) ?_ ?_ ?_).mono ?_; (omega); (omega); (omega); rintro e w2 ⟨t2, hu0, hu1, rfl, rfl⟩; have HU0 := Lib.hid hu0; have HU1 := Lib.hid hu1; clear hu0 hu1)
      | (go_at_call 22; refine (sMod_any _ 2147483647 _).mono ?_; rintro e w9 ⟨rfl, rfl⟩))
    all_goals
      have hwh := words_hit HW.out (i := i) (by have := HO6.out.len; omega) HX.out HU0.out HU1.out
      have hvr := mod_add hwh.1 hwh.2.1 HU0.out HU1.out
      have hne := hwh.2.2
      generalize modQ (IntKind.i64.wrap (IntKind.i64.wrap (x + 1) + t2)) 2147483647 = v at hvr ⊢
      obtain ⟨hv0, hv1, hv2⟩ := hvr
      rw [← hv2] at hne
      obtain ⟨g', e, -, -, -, -, hset⟩ := HO6.out.set hin v (in_i64 (by omega) (by omega))
      injection e with e
      injection e with e
      subst e
      have hkt := kh_tells k zs (i := i) (by have := HO6.out.len; omega) hne
      rw [HH.out] at hkt
      have hg0 := HG0.out
      have hz5 := HB5.out.size
      have HB7 := Lib.hid ((HB6'.out.setCell (p := ⟨gm, i, none⟩) (show W0.heap.size ≤ gm by omega) (.int .i64 v)).drew)
      have HO7 := Lib.hid (own_drew hset)
      have hK7 := iKeyedHash_any (some ⟨gm, 0, none⟩) k m c6 (zs.set i v) _ HO7.out.top.rd (by omega) (by omega) (by omega)
      obtain ⟨H', hH'⟩ : ∃ H', kh k (zs.set i v) = H' := ⟨_, rfl⟩
      rw [hH'] at hK7 hkt
      have HK7 := Lib.hid hK7
      clear hK7 hH' hset hne hwh hv0 hv1 hv2 hg0 hz5
      go_wp2_with fail
      refine HK7.out.mono ?_
      rintro e W8 ⟨rfl, hb8⟩
      have HBt := Lib.hid (HB7.out.trans (hb8.mono HB7.out.size))
      clear hb8
      go_wp2_with fail
      refine (drawDeriveFromString_any _ A n c hn ((HR.out.below HBt.out).more HBt.out.size)).mono ?_
      rintro e W9 ⟨key, s, rfl, hs0, hs1, hs2, hb9⟩
      have HB9 := Lib.hid (HBt.out.trans (hb9.mono HBt.out.size))
      clear hb9
      go_wp2_with fail
      refine (iDeriveFromString_any key s W9 (by omega) (by omega) (by omega)).mono ?_
      rintro e W10 ⟨rfl, hb10⟩
      have HB10 := Lib.hid (HB9.out.trans (hb10.mono HB9.out.size))
      have hv := iIsValidKey_any (dfs key s) W10
      rw [dfs_valid] at hv
      have HV := Lib.hid hv
      clear hb10 hv
      go_wp2_with fail
      refine HV.out.mono ?_
      rintro e W11 ⟨rfl, hb11⟩
      have HB11 := Lib.hid (HB10.out.trans (hb11.mono HB10.out.size))
      clear hb11
      go_wp2
      go_ret
      exact ⟨rfl, HB11.out⟩
  · have HBt := Lib.hid HB5.out
    go_wp2_with fail
    refine (drawDeriveFromString_any _ A n c hn ((HR.out.below HBt.out).more HBt.out.size)).mono ?_
    rintro e W9 ⟨key, s, rfl, hs0, hs1, hs2, hb9⟩
    have HB9 := Lib.hid (HBt.out.trans (hb9.mono HBt.out.size))
    clear hb9
    go_wp2_with fail
    refine (iDeriveFromString_any key s W9 (by omega) (by omega) (by omega)).mono ?_
    rintro e W10 ⟨rfl, hb10⟩
    have HB10 := Lib.hid (HB9.out.trans (hb10.mono HB9.out.size))
    have hv := iIsValidKey_any (dfs key s) W10
    rw [dfs_valid] at hv
    have HV := Lib.hid hv
    clear hb10 hv
    go_wp2_with fail
    refine HV.out.mono ?_
    rintro e W11 ⟨rfl, hb11⟩
    have HB11 := Lib.hid (HB10.out.trans (hb11.mono HB10.out.size))
    clear hb11
    go_wp2
    go_ret
    exact ⟨rfl, HB11.out⟩
end Go.Proofs.Ytkkednffolfpiaa.W03G
