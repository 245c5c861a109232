/- Chapter 3: the code's lists of bytes' numbers. -/
import Derived.Test.YtcpfdhammhcoaaaC03S
import Derived.Test.YtcpfdhammhcoaaaC03D
import Derived.Test.YtcpfdhammhcoaaaT01
namespace Go.Proofs.Ytcpfdhammhcoaaa.C03B
open Go.RowKit Mem M02 C01 C02 C02B M03 C03S C03D T01
set_option linter.unusedVariables false
set_option maxRecDepth 8000
/-- 'make([]T, 0, n)' -/
theorem wp_make0 {k : IntKind} (hk : BI k) {w : World} {ops : Array Oper} {rest : List Oper} {o : Oper} {a : Act} {Q : Exit → Act → World → Prop} (hgd : o.guard = none) (l c : Operand) (ho : o.op = Op.makeSlice (sty k) l c)
    {n : Nat} {C : Int} (hl : a.eval l = .int .i64 0) (hc : a.eval c = .int .i64 C) (hC : C = (n : Int)) (hb : n ≤ 8796093022208)
    (hK : ∀ w', Own k w' w.heap.size w'.heap.size (some ⟨w.heap.size, 0, none⟩) 0 n [] → Below w.heap.size w w' → wpList Try.prog ops Q rest (a.put o.dst (.slice (some ⟨w.heap.size, 0, none⟩) 0 n)) w') :
    wpList Try.prog ops Q (o :: rest) a w := by
  obtain ⟨i, h1, h2, h3, h4⟩ := info_of hk
  have hbb : i.bytes * n ≤ 8 * n := Nat.mul_le_mul_right _ h4
  refine wpList_make_own w hgd l c (sty k) ho w.heap.size (ety k) i (.int k 0) 1 (under_of hk) h1 h2 h3 .i64 .i64 C n hl hc hC (by omega) (by simp only [maxLen]; omega) (Nat.le_refl _) fun w' hown hg => hK w' ⟨by simp, by simp, hown, fun a e => (hown.lt a.block (by injection e with e; subst e; rfl)).2⟩ ((Below.refl _ _).grown hg (Nat.le_refl _) (by simp))
theorem iBytesToInts_any (A : Option Addr) (n c : Nat) (zs : List Int) (w : World) (h : Rd .u8 w w.heap.size A n zs) (hn : n ≤ 1099511627) :
    Calls Try.prog 86 #[.slice A n c] w fun e w' => ∃ A' c', e = .returned (.slice A' (n + 1) c') ∧ Own .i64 w' w.heap.size w'.heap.size A' (n + 1) c' (bti zs) ∧ Below w.heap.size w w' := by
  have hl := h.len
  have hni : In .i64 (n : Int) := in_i64 (by omega) (by omega)
  have H := Lib.hid h
  have HL := Lib.hid hl
  clear h hl
  go_enter Try.func86, Try.ntmps86
  go_wp2_with (first
    | (at_make; refine wp_make0 (k := .i64) (by unfold BI; decide) rfl _ _ rfl (n := n + 1) rfl rfl (by omega) (by omega) ?_; intro w1 hown1 hb1; have HO1 := Lib.hid hown1; have HB1 := Lib.hid hb1; clear hown1 hb1)
    | (at_builtin; refine wp_push (k := .i64) (z := (n : Int)) (by unfold BI; decide) rfl _ _ rfl rfl HO1.out rfl hni (by omega) HB1.out.size ?_; intro A1 c1 w2 hown2 hgr2; have HO2 := Lib.hid hown2; have HB2 := Lib.hid (HB1.out.trans (hgr2.below HB1.out.size HO1.out.ge)); clear hown2 hgr2))
  clear hni
  go_loopw [3, 17] (fun v i wr => ∃ (A1 : Option Addr) (c1 j : Nat), v = .slice A1 (j + 1) c1 ∧ i = .int .i64 j ∧ j ≤ n ∧ Own .i64 wr w.heap.size wr.heap.size A1 (j + 1) c1 ((n : Int) :: zs.take j) ∧ Below w.heap.size w wr) (fun _ i _ => n - (intOf i).toNat)
  case atStart => exact ⟨_, _, 0, rfl, rfl, by omega, by simpa using HO2.out, HB2.out⟩
  case round =>
    obtain ⟨A1, c1, j, rfl, rfl, hj, hown, hbel⟩ := hrel
    have HO := Lib.hid hown
    have HX := Lib.hid hbel
    clear hown hbel
    by_cases hjn : j < n
    · obtain ⟨b, off, rfl, hlt, hc⟩ := (H.out.below HX.out (Nat.le_refl _)).cell_at hjn
      have hz := byt_in H.out.wf (zs.getD j 0) (by have := HL.out; simp [List.getD, List.getElem?_eq_getElem (show j < zs.length by omega)])
      have ht : zs.take (j + 1) = zs.take j ++ [zs.getD j 0] := by
        have := HL.out
        rw [List.take_succ_eq_append_getElem (show j < zs.length by omega)]
        simp [List.getD, List.getElem?_eq_getElem (show j < zs.length by omega)]
      generalize zs.getD j 0 = z at hc hz ht
      have hzi : In .i64 z := in_i64 (by omega) (by omega)
      have HT := Lib.hid ht
      clear ht
      go_wp2_with (at_builtin; refine wp_push (k := .i64) (z := z) (by unfold BI; decide) rfl _ _ rfl rfl HO.out rfl hzi (by omega) HX.out.size ?_; intro A2 c2 w2 hown2 hgr2)
      go_roundw
      case rel => exact ⟨A2, c2, j + 1, rfl, by go_num, by omega, by rw [HT.out]; exact hown2, HX.out.trans (hgr2.below HX.out.size HO.out.ge)⟩
      case measure => simp [intOf]; omega
    · have hj2 : j = n := by omega
      subst hj2
      have e : (j : Int) :: zs.take j = bti zs := by
        have := HL.out
        rw [← this, List.take_length]
        rfl
      have HE := Lib.hid e
      clear e
      go_wp2
      go_ret
      rw [← HE.out]
      exact ⟨_, _, rfl, HO.out, HX.out⟩
end Go.Proofs.Ytcpfdhammhcoaaa.C03B
