/- The drawing functions of chapter 2: what they return, and that they write into nothing that was there. -/
import Derived.Test.YtkkednffolfpiaaD01
import Derived.Test.YtkkednffolfpiaaC02B
namespace Go.Proofs.Ytkkednffolfpiaa.D02
set_option linter.unusedVariables false
open Go.RowKit Mem M02 C01 C02 C02R C02B D01 SL
theorem rd_brow {w : World} {B n : Nat} {A : Option Addr} {zs : List Int} (h : Rd .u8 w B A n zs) : BRow w B A n := fun hn => by
  obtain ⟨b, off, e, hlt, hc⟩ := h.cells hn
  refine ⟨b, off, e, hlt, fun j hj => ?_⟩
  have := byt_in h.wf (zs.getD j 0) (by have hl := h.len; simp [List.getD, List.getElem?_eq_getElem (show j < zs.length by omega)])
  exact ⟨_, this.1, this.2, hc j hj⟩
theorem cur_low {w w' : World} {B g : Nat} (h : Cur w B g) (hb : Below (g + 1) w w') : Cur w' B g := by
  obtain ⟨h0, A, n, c, i, k, hh, h1, h2, h3, h4⟩ := h
  exact ⟨h0, A, n, c, i, k, (hb.block g (by omega)).trans hh, h1, h2, h3, h4.below (hb.mono (by omega))⟩
theorem own_kept {k : IntKind} {w w' : World} {g lo hi n c : Nat} {A : Option Addr} {zs : List Int} (h : Own k w lo hi A n c zs) (hk : Kept g w w') (hg : g < lo) : Own k w' lo hi A n c zs :=
  h.keep fun i h0 h1 _ => hk.block i h0 (by omega)
theorem kept_then {w w' w'' : World} {g : Nat} (h : Kept g w w') (hb : Below w.heap.size w' w'') : Kept g w w'' :=
  ⟨hb.os.trans h.os, hb.tape.trans h.tape, hb.output.trans h.output, Nat.le_trans h.size hb.size, fun i hi hne => (hb.block i hi).trans (h.block i hi hne)⟩
theorem l1Bytes_any (n : Int) (w : World) (B g : Nat) (hn : n ≤ 100000) (hc : Cur w B g) :
    Calls Try.prog 46 #[.pointer (some ⟨g, 0, none⟩), .int .i64 n] w fun e w' => ∃ A m c zs, e = .returned (.slice A m c) ∧ m ≤ 100000 ∧ Own .u8 w' w.heap.size w'.heap.size A m c zs ∧ Cur w' B g ∧ Kept g w w' := by
  have hgl := hc.lt
  have HO := Lib.hid (Own.lit0 (lo := w.heap.size) .u8 w (Nat.le_refl _))
  have HC := Lib.hid (hc.alloc (.cells #[] 5))
  have HK := Lib.hid ((Kept.refl g w).alloc (.cells #[] 5))
  clear hc
  go_enter Try.func46, Try.ntmps46
  go_wp2
  go_loopw [5, 6] (fun v i wr => ∃ (A1 : Option Addr) (c1 j : Nat) (d : List Int), v = .slice A1 j c1 ∧ i = .int .i64 j ∧ ((j : Int) ≤ n ∨ j = 0) ∧ Own .u8 wr w.heap.size wr.heap.size A1 j c1 d ∧ Cur wr B g ∧ Kept g w wr) (fun _ i _ => (n - intOf i).toNat)
  case atStart => exact ⟨_, 0, 0, [], rfl, rfl, .inr rfl, HO.out.top, HC.out, HK.out⟩
  case round =>
    obtain ⟨A1, c1, j, d, rfl, rfl, hj, hown, hcur, hkept⟩ := hrel
    have HOr := Lib.hid hown
    have HCr := Lib.hid hcur
    have HKr := Lib.hid hkept
    clear hown hcur hkept
    by_cases hjn : (j : Int) < n
    · clear hj
      go_wp2_with fail
      refine (l1Byte_any _ B g HCr.out).mono ?_
      rintro e w2 ⟨v, ⟨x, hx0, hx1, rfl⟩, rfl, hc2, hk2⟩
      have HO2 := Lib.hid (own_kept HOr.out hk2 hgl).top
      have HC2 := Lib.hid hc2
      have HK2 := Lib.hid (HKr.out.trans hk2)
      clear hc2 hk2
      have hz : In .u8 x := in_u8 hx0 hx1
      go_wp2_with (at_builtin; refine wp_push (k := .u8) (z := x) (by unfold BI; decide) rfl _ _ rfl rfl HO2.out rfl hz (by omega) HK2.out.size ?_; intro A2 c2 w3 hown3 hgr3)
      have hb3 : Below w.heap.size w2 w3 := hgr3.below HK2.out.size HO2.out.ge
      go_roundw
      case rel => exact ⟨A2, c2, j + 1, d ++ [x], rfl, by go_num, by omega, hown3, cur_low HC2.out (hb3.mono (by omega)), kept_then HK2.out hb3⟩
      case measure => simp [intOf]; omega
    · go_wp2
      go_ret
      exact ⟨A1, j, c1, rfl, by omega, ⟨d, HOr.out⟩, HCr.out, HKr.out⟩
end Go.Proofs.Ytkkednffolfpiaa.D02
