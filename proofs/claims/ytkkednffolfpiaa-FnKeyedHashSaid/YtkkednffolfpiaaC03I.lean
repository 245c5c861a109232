/- Chapter 3: what the code's functions return. -/
import Derived.Test.YtkkednffolfpiaaC03E
import Derived.Test.YtkkednffolfpiaaC03D
import Derived.Test.YtkkednffolfpiaaT01
namespace Go.Proofs.Ytkkednffolfpiaa.C03I
open Go.RowKit Mem M02 C01 C02 C02B M03 C03S C03E C03D T01
set_option linter.unusedVariables false
theorem fold_succ {a : Int} {l : List Int} {j : Nat} (hj : j < l.length) : (l.take (j + 1)).foldl hstep a = hstep ((l.take j).foldl hstep a) (l.getD j 0) := by
  rw [List.take_succ_eq_append_getElem hj, List.foldl_append]
  simp [List.getD, List.getElem?_eq_getElem hj]
theorem iFold_any (B : Nat) (A : Option Addr) (n c : Nat) (zs : List Int) (a : Int) (w : World) (h : Rd .i64 w B A n zs) (hn : n ≤ 1099511627776) (ha0 : 0 ≤ a) (ha1 : a < 2147483647) :
    Calls Try.prog 50 #[.int .i64 a, .slice A n c] w fun e w' => e = .returned (.int .i64 (zs.foldl hstep a)) ∧ w = w' := by
  have hl := h.len
  go_enter Try.func50, Try.ntmps50
  go_wp2
  go_loop [0, 9] (fun d i => ∃ (j : Nat) (x : Int), j ≤ n ∧ i = .int .i64 j ∧ d = .int .i64 x ∧ 0 ≤ x ∧ x < 2147483647 ∧ x = (zs.take j).foldl hstep a) (fun _ i => n - (intOf i).toNat)
  case atStart => exact ⟨0, a, by omega, rfl, rfl, by omega, by omega, rfl⟩
  case round =>
    obtain ⟨j, x, hj, rfl, rfl, hx0, hx1, hx⟩ := hrel
    have HX := Lib.hid hx
    have HL := Lib.hid hl
    clear hx hl
    by_cases hjn : j < n
    · obtain ⟨b, off, rfl, _, hc⟩ := h.cell_at hjn
      have hs := fold_succ (a := a) (l := zs) (j := j) (by have := HL.out; omega)
      rw [← HX.out] at hs
      generalize zs.getD j 0 = z at hc hs
      obtain ⟨y, hy⟩ : ∃ y : Int, z % 2147483647 = y := ⟨_, rfl⟩
      have hy0 : 0 ≤ y := by omega
      have hy1 : y < 2147483647 := by omega
      have hM := iMod_any z 2147483647 w
      rw [modQ_M, hy] at hM
      have HM := Lib.hid hM
      unfold hstep at hs
      rw [hy] at hs
      have HS := Lib.hid hs
      clear hy hs hM h
      go_wp2_with fail
      refine HM.out.mono ?_
      rintro e w2 ⟨rfl, rfl⟩
      go_wp2
      go_round
      case rel => exact ⟨j + 1, _, by omega, by go_num, rfl, Int.emod_nonneg _ (by omega), Int.emod_lt_of_pos _ (by omega), HS.out.symm⟩
      case measure => simp [intOf]; omega
    · have e : zs.take j = zs := List.take_of_length_le (by have := HL.out; omega)
      have h2 := HX.out
      rw [e] at h2
      subst h2
      clear h e
      go_wp2
      go_ret
      exact ⟨rfl, rfl⟩
theorem iHash_any (A : Option Addr) (n c : Nat) (zs : List Int) (w : World) (h : Rd .i64 w w.heap.size A n zs) (hn : n ≤ 1099511627776) :
    Calls Try.prog 20 #[.slice A n c] w fun e w' => e = .returned (.int .i64 (hsh zs)) ∧ Below w.heap.size w w' := by
  have HF := Lib.hid (iFold_any _ A n c zs 11 w h hn (by omega) (by omega))
  clear h
  go_enter Try.func20, Try.ntmps20
  go_wp2_with fail
  refine HF.out.mono ?_
  rintro e w2 ⟨rfl, rfl⟩
  go_wp2
  go_ret
  exact ⟨rfl, Below.refl _ _⟩
theorem iKeyedHash_any (A : Option Addr) (k : Int) (n c : Nat) (zs : List Int) (w : World) (h : Rd .i64 w w.heap.size A n zs) (hn : n ≤ 1099511627) (hk0 : -9223372036854775808 ≤ k) (hk1 : k ≤ 9223372036854775807) :
    Calls Try.prog 19 #[.int .i64 k, .slice A n c] w fun e w' => e = .returned (.int .i64 (kh k zs)) ∧ Below w.heap.size w w' := by
  have hki := in_i64 hk0 hk1
  have hf1 := hstep_range 11 k
  have hf2 := foldl_range zs (hstep 11 k) hf1
  have he : kh k zs = hstep (zs.foldl hstep (hstep 11 k)) k := by
    unfold kh hsh
    simp only [List.foldl_cons, List.foldl_append, List.foldl_nil]
  have HF1 := Lib.hid (iFold_any _ (some ⟨w.heap.size, 0, none⟩) 1 1 [k] 11 (w.alloc (.cells #[.int .i64 k] 3)) (rd_new .i64 w hki) (by omega) (by omega) (by omega))
  have HF2 := Lib.hid (iFold_any _ A n c zs (hstep 11 k) (w.alloc (.cells #[.int .i64 k] 3)) (h.alloc (Nat.le_refl _) _) (by omega) hf1.1 hf1.2)
  have HF3 := Lib.hid (iFold_any _ (some ⟨w.heap.size + 1, 0, none⟩) 1 1 [k] (zs.foldl hstep (hstep 11 k)) ((w.alloc (.cells #[.int .i64 k] 3)).alloc (.cells #[.int .i64 k] 3)) (show Rd .i64 ((w.alloc (.cells #[.int .i64 k] 3)).alloc (.cells #[.int .i64 k] 3)) (w.heap.size + 1 + 1) (some ⟨w.heap.size + 1, 0, none⟩) 1 [k] by have := rd_new .i64 (w.alloc (.cells #[.int .i64 k] 3)) hki; simpa [ety] using this) (by omega) hf2.1 hf2.2)
  simp only [List.foldl_cons, List.foldl_nil] at HF1 HF3
  rw [he]
  generalize hstep (zs.foldl hstep (hstep 11 k)) k = r3 at HF3 ⊢
  generalize zs.foldl hstep (hstep 11 k) = r2 at HF2 HF3
  generalize hstep 11 k = r1 at HF1 HF2
  clear h hf1 hf2 he hki
  go_enter Try.func19, Try.ntmps19
  go_wp2_with fail
  refine HF1.out.mono ?_
  rintro e w2 ⟨rfl, rfl⟩
  go_wp2_with fail
  refine HF2.out.mono ?_
  rintro e w2 ⟨rfl, rfl⟩
  go_wp2_with fail
  refine HF3.out.mono ?_
  rintro e w2 ⟨rfl, rfl⟩
  go_wp2
  go_ret
  exact ⟨rfl, ((Below.refl _ w).alloc (Nat.le_refl _) _).alloc (by simp) _⟩
theorem iIsValidKey_any (k : Int) (w : World) : Calls Try.prog 24 #[.int .i64 k] w fun e w' => e = .returned (.bool (inR k 1 2147483646)) ∧ Below w.heap.size w w' := by
  go_enter Try.func24, Try.ntmps24
  go_wp2_with (go_at_call 53; refine (inRange_any _ _ _ _).mono ?_; rintro e w1 ⟨rfl, rfl⟩)
  go_ret
  exact ⟨rfl, Below.refl _ _⟩
/-- 'make([]T, 0, n)' -/
theorem wp_make0 {k : IntKind} (hk : BI k) {w : World} {ops : Array Oper} {rest : List Oper} {o : Oper} {a : Act} {Q : Exit → Act → World → Prop} (hgd : o.guard = none) (l c : Operand) (ho : o.op = Op.makeSlice (sty k) l c)
    {n : Nat} {C : Int} (hl : a.eval l = .int .i64 0) (hc : a.eval c = .int .i64 C) (hC : C = (n : Int)) (hb : n ≤ 8796093022208)
    (hK : ∀ w', Own k w' w.heap.size w'.heap.size (some ⟨w.heap.size, 0, none⟩) 0 n [] → Below w.heap.size w w' → wpList Try.prog ops Q rest (a.put o.dst (.slice (some ⟨w.heap.size, 0, none⟩) 0 n)) w') :
    wpList Try.prog ops Q (o :: rest) a w := by
  obtain ⟨i, h1, h2, h3, h4⟩ := info_of hk
  have hbb : i.bytes * n ≤ 8 * n := Nat.mul_le_mul_right _ h4
  refine wpList_make_own w hgd l c (sty k) ho w.heap.size (ety k) i (.int k 0) 1 (under_of hk) h1 h2 h3 .i64 .i64 C n hl hc hC (by omega) (by simp only [maxLen]; omega) (Nat.le_refl _) fun w' hown hg => hK w' ⟨by simp, by simp, hown, fun a e => (hown.lt a.block (by injection e with e; subst e; rfl)).2⟩ ((Below.refl _ _).grown hg (Nat.le_refl _) (by simp))
theorem iBytesToInts_any (A : Option Addr) (n c : Nat) (zs : List Int) (w : World) (h : Rd .u8 w w.heap.size A n zs) (hn : n ≤ 1099511627) :
    Calls Try.prog 33 #[.slice A n c] w fun e w' => ∃ A' c', e = .returned (.slice A' (n + 1) c') ∧ Own .i64 w' w.heap.size w'.heap.size A' (n + 1) c' (bti zs) ∧ Below w.heap.size w w' := by
  have hl := h.len
  have hni : In .i64 (n : Int) := in_i64 (by omega) (by omega)
  have H := Lib.hid h
  have HL := Lib.hid hl
  clear h hl
  go_enter Try.func33, Try.ntmps33
  go_wp2_with (first
    | (at_make; refine wp_make0 (k := .i64) (by unfold BI; decide) rfl _ _ rfl (n := n + 1) rfl rfl (by omega) (by omega) ?_; intro w1 hown1 hb1; have HO1 := Lib.hid hown1; have HB1 := Lib.hid hb1; clear hown1 hb1)
    | (at_builtin; refine wp_push (k := .i64) (z := (n : Int)) (by unfold BI; decide) rfl _ _ rfl rfl HO1.out rfl hni (by omega) HB1.out.size ?_; intro A1 c1 w2 hown2 hgr2; have HO2 := Lib.hid hown2; have HB2 := Lib.hid (HB1.out.trans (hgr2.below HB1.out.size HO1.out.ge)); clear hown2 hgr2))
  clear hni
  go_loopw [3, 17] (fun v i wr => ∃ (A1 : Option Addr) (c1 j : Nat), v = .slice A1 (j + 1) c1 ∧ i = .int .i64 j ∧ j ≤ n ∧ Own .i64 wr w.heap.size wr.heap.size A1 (j + 1) c1 ((n : Int) :: zs.take j) ∧ Below w.heap.size w wr) (fun _ i _ => n - (intOf i).toNat)
  case atStart => exact ⟨_, _, 0, rfl, rfl, by omega, by simpa using HO2.out, HB2.out⟩
  case round =>
    obtain ⟨A1, c1, j, rfl, rfl, hj, hown, hbel⟩ := hrel
    have HO := Lib.hid hown
    have HX := Lib.hid hbel
    clear hown hbel
    by_cases hjn : j < n
    · obtain ⟨b, off, rfl, hlt, hc⟩ := (H.out.below HX.out (Nat.le_refl _)).cell_at hjn
      have hz := byt_in H.out.wf (zs.getD j 0) (by have := HL.out; simp [List.getD, List.getElem?_eq_getElem (show j < zs.length by omega)])
      have ht : zs.take (j + 1) = zs.take j ++ [zs.getD j 0] := by
        have := HL.out
        rw [List.take_succ_eq_append_getElem (show j < zs.length by omega)]
        simp [List.getD, List.getElem?_eq_getElem (show j < zs.length by omega)]
      generalize zs.getD j 0 = z at hc hz ht
      have hzi : In .i64 z := in_i64 (by omega) (by omega)
      have HT := Lib.hid ht
      clear ht
      go_wp2_with (at_builtin; refine wp_push (k := .i64) (z := z) (by unfold BI; decide) rfl _ _ rfl rfl HO.out rfl hzi (by omega) HX.out.size ?_; intro A2 c2 w2 hown2 hgr2)
      go_roundw
      case rel => exact ⟨A2, c2, j + 1, rfl, by go_num, by omega, by rw [HT.out]; exact hown2, HX.out.trans (hgr2.below HX.out.size HO.out.ge)⟩
      case measure => simp [intOf]; omega
    · have hj2 : j = n := by omega
      subst hj2
      have e : (j : Int) :: zs.take j = bti zs := by
        have := HL.out
        rw [← this, List.take_length]
        rfl
      have HE := Lib.hid e
      clear e
      go_wp2
      go_ret
      rw [← HE.out]
      exact ⟨_, _, rfl, HO.out, HX.out⟩
/-- the closure's variable: the key -/
def Str (w : World) (gk : Nat) (k : Int) : Prop := w.heap[gk]? = some (.cells #[.int .i64 k] 3 (0, 0))
theorem keyStream_any (k : Int) (w : World) :
    Calls Try.prog 48 #[.int .i64 k] w fun e w' => e = .returned (.func (Fn.func 59) #[] #[.pointer (some ⟨w.heap.size, 0, none⟩)]) ∧ Str w' w.heap.size k ∧ Below w.heap.size w w' := by
  go_enter Try.func48, Try.ntmps48
  go_wp2
  go_ret
  exact ⟨rfl, heap_alloc_new w _, (Below.refl _ w).alloc (Nat.le_refl _) _⟩
theorem next_any (gk : Nat) (k : Int) (j : Nat) (w : World) (h : Str w gk k) (hj : j ≤ 1099511627) (hk0 : -9223372036854775808 ≤ k) (hk1 : k ≤ 9223372036854775807) :
    Calls Try.prog 59 #[.int .i64 (j : Int), .pointer (some ⟨gk, 0, none⟩)] w fun e w' => e = .returned (.int .u8 (stream k j % 256)) ∧ Below w.heap.size w w' := by
  have c1 : w.cell? ⟨gk, 0, none⟩ = some (.int .i64 k) := by
    unfold Str at h
    simp [World.cell?, h]
  have hji : In .i64 (j : Int) := in_i64 (by omega) (by omega)
  have hK := iKeyedHash_any (some ⟨w.heap.size, 0, none⟩) k 1 1 [(j : Int)] (w.alloc (.cells #[.int .i64 (j : Int)] 3)) ((rd_new .i64 w hji).more (by simp)) (by omega) hk0 hk1
  have hst : stream k j = kh k [(j : Int)] := rfl
  have hkr := kh_range k [(j : Int)]
  rw [hst]
  generalize kh k [(j : Int)] = s at hK hkr
  have hs0 := hkr.1
  have hs1 := hkr.2
  have HK := Lib.hid hK
  clear hK h hst hkr hk0 hk1
  go_enter Try.func59, Try.ntmps59
  go_wp2_with fail
  refine HK.out.mono ?_
  rintro e w2 ⟨rfl, hb2⟩
  have HB2 := Lib.hid (((Below.refl _ w).alloc (Nat.le_refl _) (.cells #[.int .i64 (j : Int)] 3)).trans (hb2.mono (by simp)))
  clear hb2
  go_wp2
  go_ret
  exact ⟨rfl, HB2.out⟩
theorem encr_at {k : Int} {zs : List Int} {j : Nat} (hj : j < zs.length) : (encr k zs).getD j 0 = (zs.getD j 0 + stream k j % 256) % 256 := by
  rw [List.getD, List.getElem?_eq_getElem (by rw [encr_len]; exact hj)]
  simp [encr]
theorem decr_at {k : Int} {zs : List Int} {j : Nat} (hj : j < zs.length) : (decr k zs).getD j 0 = (zs.getD j 0 - stream k j % 256) % 256 := by
  rw [List.getD, List.getElem?_eq_getElem (by rw [decr_len]; exact hj)]
  simp [decr]
theorem iEncrypt_any (A : Option Addr) (k : Int) (n c : Nat) (zs : List Int) (w : World) (h : Rd .u8 w w.heap.size A n zs) (hn : n ≤ 1099511627) (hk0 : -9223372036854775808 ≤ k) (hk1 : k ≤ 9223372036854775807) :
    Calls Try.prog 17 #[.int .i64 k, .slice A n c] w fun e w' => ∃ A' c', e = .returned (.slice A' n c') ∧ Own .u8 w' w.heap.size w'.heap.size A' n c' (encr k zs) ∧ Below w.heap.size w w' := by
  have hl := h.len
  have HK0 := Lib.hid hk0
  have HK1 := Lib.hid hk1
  have H := Lib.hid h
  have HL := Lib.hid hl
  clear h hl hk0 hk1
  go_enter Try.func17, Try.ntmps17
  go_wp2_with fail
  refine (keyStream_any k w).mono ?_
  rintro e w1 ⟨rfl, hst, hb1⟩
  have hg : w.heap.size < w1.heap.size := (Array.getElem?_eq_some_iff.1 hst).1
  have HS1 := Lib.hid hst
  have HB1 := Lib.hid hb1
  clear hst hb1
  go_wp2_with (at_make; refine wp_make (k := .u8) (by unfold BI; decide) rfl _ _ rfl rfl rfl (by omega) ?_; intro w2 hown2 hb2)
  have HO2 := Lib.hid hown2
  have hs2 := hb2.size
  have HS2 := Lib.hid (show Str w2 w.heap.size k from (hb2.block _ hg).trans HS1.out)
  have HB2 := Lib.hid (HB1.out.trans (hb2.mono (by omega)))
  clear hown2 hb2
  go_wp2
  go_loopw [16] (fun i wr => ∃ (j : Nat), i = .int .i64 j ∧ j ≤ n ∧ w1.heap.size ≤ wr.heap.size ∧ Own .u8 wr w1.heap.size wr.heap.size (some ⟨w1.heap.size, 0, none⟩) n n ((encr k zs).take j ++ List.replicate (n - j) (0 : Int)) ∧ Str wr w.heap.size k ∧ Below w.heap.size w wr) (fun i _ => n - (intOf i).toNat)
  case atStart => exact ⟨0, rfl, by omega, hs2, by simpa using HO2.out, HS2.out, HB2.out⟩
  case round =>
    obtain ⟨j, rfl, hj, hwr, hown, hst, hbel⟩ := hrel
    have HO := Lib.hid hown
    have HS := Lib.hid hst
    have HX := Lib.hid hbel
    clear hown hst hbel
    by_cases hjn : j < n
    · obtain ⟨b, off, rfl, hlt, hc⟩ := (H.out.below HX.out (Nat.le_refl _)).cell_at hjn
      have hz := byt_in H.out.wf (zs.getD j 0) (by have := HL.out; simp [List.getD, List.getElem?_eq_getElem (show j < zs.length by omega)])
      have ht := encr_at (k := k) (zs := zs) (j := j) (by have := HL.out; omega)
      have hN := next_any w.heap.size k j wr HS.out (by omega) HK0.out HK1.out
      have hkr : 0 ≤ stream k j := (kh_range k [(j : Int)]).1
      generalize zs.getD j 0 = z at hc hz ht
      generalize stream k j = s at hN hkr ht
      obtain ⟨q, hq⟩ : ∃ q, s % 256 = q := ⟨_, rfl⟩
      have hq0 : 0 ≤ q := by omega
      have hq1 : q ≤ 255 := by omega
      rw [hq] at hN ht
      have hyi : In .u8 ((z + q) % 256) := in_u8 (by omega) (by omega)
      have HN := Lib.hid hN
      have HT := Lib.hid ht
      clear hN ht hkr hq
      go_wp2_with fail
      refine HN.out.mono ?_
      rintro e w3 ⟨rfl, hb3⟩
      have HO3 := Lib.hid (HO.out.below hb3 (Nat.le_refl _)).top
      have HS3 := Lib.hid (show Str w3 w.heap.size k from (hb3.block _ (by omega)).trans HS.out)
      have HX3 := Lib.hid (HX.out.trans (hb3.mono (by omega)))
      have hs3 := hb3.size
      clear hb3
      obtain ⟨g, e, hg1, hg2, hcg, hfg, hset⟩ := HO3.out.set hjn ((z + q) % 256) hyi
      rw [← HT.out, copy_set (by rw [encr_len]; exact HL.out) hjn, HT.out] at hset
      have HZ := Lib.hid hset
      clear hset
      injection e with e
      injection e with e
      subst e
      go_wp2
      go_roundw
      case rel => exact ⟨j + 1, by go_num, by omega, by simp; omega, HZ.out.top, (Below.heap_setCell _ _ _ _ (show w.heap.size ≠ w1.heap.size by omega)).trans HS3.out, HX3.out.setCell (p := ⟨w1.heap.size, j, none⟩) (by show w.heap.size ≤ w1.heap.size; omega) _⟩
      case measure => simp [intOf]; omega
    · have hj2 : j = n := by omega
      subst hj2
      have e : (encr k zs).take j ++ List.replicate (j - j) (0 : Int) = encr k zs := by
        have := HL.out
        rw [List.take_of_length_le (by rw [encr_len]; omega)]
        simp
      have HE := Lib.hid e
      clear e
      go_wp2
      go_ret
      have hO := HO.out
      rw [HE.out] at hO
      exact ⟨_, _, rfl, hO.base (by omega), HX.out⟩
theorem iDecrypt_any (A : Option Addr) (k : Int) (n c : Nat) (zs : List Int) (w : World) (h : Rd .u8 w w.heap.size A n zs) (hn : n ≤ 1099511627) (hk0 : -9223372036854775808 ≤ k) (hk1 : k ≤ 9223372036854775807) :
    Calls Try.prog 16 #[.int .i64 k, .slice A n c] w fun e w' => ∃ A' c', e = .returned (.slice A' n c') ∧ Own .u8 w' w.heap.size w'.heap.size A' n c' (decr k zs) ∧ Below w.heap.size w w' := by
  have hl := h.len
  have HK0 := Lib.hid hk0
  have HK1 := Lib.hid hk1
  have H := Lib.hid h
  have HL := Lib.hid hl
  clear h hl hk0 hk1
  go_enter Try.func16, Try.ntmps16
  go_wp2_with fail
  refine (keyStream_any k w).mono ?_
  rintro e w1 ⟨rfl, hst, hb1⟩
  have hg : w.heap.size < w1.heap.size := (Array.getElem?_eq_some_iff.1 hst).1
  have HS1 := Lib.hid hst
  have HB1 := Lib.hid hb1
  clear hst hb1
  go_wp2_with (at_make; refine wp_make (k := .u8) (by unfold BI; decide) rfl _ _ rfl rfl rfl (by omega) ?_; intro w2 hown2 hb2)
  have HO2 := Lib.hid hown2
  have hs2 := hb2.size
  have HS2 := Lib.hid (show Str w2 w.heap.size k from (hb2.block _ hg).trans HS1.out)
  have HB2 := Lib.hid (HB1.out.trans (hb2.mono (by omega)))
  clear hown2 hb2
  go_wp2
  go_loopw [16] (fun i wr => ∃ (j : Nat), i = .int .i64 j ∧ j ≤ n ∧ w1.heap.size ≤ wr.heap.size ∧ Own .u8 wr w1.heap.size wr.heap.size (some ⟨w1.heap.size, 0, none⟩) n n ((decr k zs).take j ++ List.replicate (n - j) (0 : Int)) ∧ Str wr w.heap.size k ∧ Below w.heap.size w wr) (fun i _ => n - (intOf i).toNat)
  case atStart => exact ⟨0, rfl, by omega, hs2, by simpa using HO2.out, HS2.out, HB2.out⟩
  case round =>
    obtain ⟨j, rfl, hj, hwr, hown, hst, hbel⟩ := hrel
    have HO := Lib.hid hown
    have HS := Lib.hid hst
    have HX := Lib.hid hbel
    clear hown hst hbel
    by_cases hjn : j < n
    · obtain ⟨b, off, rfl, hlt, hc⟩ := (H.out.below HX.out (Nat.le_refl _)).cell_at hjn
      have hz := byt_in H.out.wf (zs.getD j 0) (by have := HL.out; simp [List.getD, List.getElem?_eq_getElem (show j < zs.length by omega)])
      have ht := decr_at (k := k) (zs := zs) (j := j) (by have := HL.out; omega)
      have hN := next_any w.heap.size k j wr HS.out (by omega) HK0.out HK1.out
      have hkr : 0 ≤ stream k j := (kh_range k [(j : Int)]).1
      generalize zs.getD j 0 = z at hc hz ht
      generalize stream k j = s at hN hkr ht
      obtain ⟨q, hq⟩ : ∃ q, s % 256 = q := ⟨_, rfl⟩
      have hq0 : 0 ≤ q := by omega
      have hq1 : q ≤ 255 := by omega
      rw [hq] at hN ht
      have hyi : In .u8 ((z - q) % 256) := in_u8 (by omega) (by omega)
      have HN := Lib.hid hN
      have HT := Lib.hid ht
      clear hN ht hkr hq
      go_wp2_with fail
      refine HN.out.mono ?_
      rintro e w3 ⟨rfl, hb3⟩
      have HO3 := Lib.hid (HO.out.below hb3 (Nat.le_refl _)).top
      have HS3 := Lib.hid (show Str w3 w.heap.size k from (hb3.block _ (by omega)).trans HS.out)
      have HX3 := Lib.hid (HX.out.trans (hb3.mono (by omega)))
      have hs3 := hb3.size
      clear hb3
      obtain ⟨g, e, hg1, hg2, hcg, hfg, hset⟩ := HO3.out.set hjn ((z - q) % 256) hyi
      rw [← HT.out, copy_set (by rw [decr_len]; exact HL.out) hjn, HT.out] at hset
      have HZ := Lib.hid hset
      clear hset
      injection e with e
      injection e with e
      subst e
      go_wp2
      go_roundw
      case rel => exact ⟨j + 1, by go_num, by omega, by simp; omega, HZ.out.top, (Below.heap_setCell _ _ _ _ (show w.heap.size ≠ w1.heap.size by omega)).trans HS3.out, HX3.out.setCell (p := ⟨w1.heap.size, j, none⟩) (by show w.heap.size ≤ w1.heap.size; omega) _⟩
      case measure => simp [intOf]; omega
    · have hj2 : j = n := by omega
      subst hj2
      have e : (decr k zs).take j ++ List.replicate (j - j) (0 : Int) = decr k zs := by
        have := HL.out
        rw [List.take_of_length_le (by rw [decr_len]; omega)]
        simp
      have HE := Lib.hid e
      clear e
      go_wp2
      go_ret
      have hO := HO.out
      rw [HE.out] at hO
      exact ⟨_, _, rfl, hO.base (by omega), HX.out⟩
theorem iDeriveFromString_any (k : Int) (s : ByteArray) (w : World) (hs : s.size ≤ 1048576) (hk0 : -9223372036854775808 ≤ k) (hk1 : k ≤ 9223372036854775807) :
    Calls Try.prog 25 #[.int .i64 k, .string s] w fun e w' => e = .returned (.int .i64 (dfs k s)) ∧ Below w.heap.size w w' := by
  obtain ⟨c, w1, hcv, hrd, hb1⟩ := conv_bytes s w
  have HR := Lib.hid hrd
  have HB1 := Lib.hid hb1
  have hr := kh_range k (bti (nums s))
  have hd : dfs k s = max 1 (kh k (bti (nums s))) := rfl
  have hK : ∀ (A : Option Addr) (n c : Nat) (w : World), Rd .i64 w w.heap.size A n (bti (nums s)) → n ≤ 1099511627 → Calls Try.prog 19 #[.int .i64 k, .slice A n c] w fun e w' => e = .returned (.int .i64 (kh k (bti (nums s)))) ∧ Below w.heap.size w w' := fun A n c w h hn => iKeyedHash_any A k n c _ w h hn hk0 hk1
  generalize kh k (bti (nums s)) = r at hr hd hK
  have hcase : (r = 0 ∧ dfs k s = 1) ∨ (r ≠ 0 ∧ 0 < r ∧ dfs k s = r) := by omega
  have hr1 := hr.2
  have HK := Lib.hid hK
  clear hrd hb1 hk0 hk1 hK hr hd
  generalize dfs k s = d at hcase
  rcases hcase with ⟨rfl, rfl⟩ | ⟨hr0, hr2, rfl⟩
  all_goals
    go_enter Try.func25, Try.ntmps25
    go_wp2_with fail
    refine (iBytesToInts_any _ _ c _ w1 HR.out (by omega)).mono ?_
    rintro e w2 ⟨A2, c2, rfl, ho2, hb2⟩
    have HO2 := Lib.hid ho2
    have HB2 := Lib.hid (HB1.out.trans (hb2.mono HB1.out.size))
    clear ho2 hb2
    go_wp2_with fail
    refine (HK.out A2 _ c2 w2 HO2.out.rd (by omega)).mono ?_
    rintro e w3 ⟨rfl, hb3⟩
    have HB3 := Lib.hid (HB2.out.trans (hb3.mono HB2.out.size))
    clear hb3
    go_wp2
    go_ret
    exact ⟨rfl, HB3.out⟩
end Go.Proofs.Ytkkednffolfpiaa.C03I
