/- The walks of the statements of promise 2: the laws return true, and write into nothing that was there. -/
import Derived.Test.YtppajfaneacchaaD02
import Derived.Test.YtppajfaneacchaaC02I
import Derived.Test.YtppajfaneacchaaT01
import Derived.Test.YtppajfaneacchaaM02F
import Derived.Deep.RegionHeld3
namespace Go.Proofs.Ytppajfaneacchaa.W02F
set_option linter.unusedVariables false
open Go.RowKit Mem M02 M02F C01 C02 C02R C02B C02I D01 D02 SL T01
theorem big_yes (A : Option Addr) (n c : Nat) (w : World) (h : 1048576 < n) : Calls Try.prog 12 #[.slice A n c] w fun e w' => e = .returned (.bool true) ∧ w = w' := by
  have h' : 1048576 < (n : Int) := by omega
  go_enter Try.func12, Try.ntmps12
  go_wp2
  go_ret
  simp
theorem big_no (A : Option Addr) (n c : Nat) (w : World) (h : n ≤ 1048576) : Calls Try.prog 12 #[.slice A n c] w fun e w' => e = .returned (.bool false) ∧ w = w' := by
  have h' : ¬ 1048576 < (n : Int) := by omega
  go_enter Try.func12, Try.ntmps12
  go_wp2
  go_ret
  simp
theorem below_lit {w w7 : World} {t : TypeId} (h : Below (w.alloc (.cells #[] t)).drew.heap.size (w.alloc (.cells #[] t)).drew w7) : Below w.heap.size w w7 :=
  ((Below.refl _ w).alloc (Nat.le_refl _) _).drew.trans (h.mono (by simp [World.drew]))
theorem len7 {ys : List Int} {v : Int} {p q ny n7 : Nat} (h : enc v = (ys.take q).drop p) (hl : ys.length = ny) (hq : q ≤ ny) (hpq : p < q) (hn : n7 = 0 + (enc v).length) : n7 = q - p := by
  rw [hn, h]
  simp
  omega
theorem own7 {w : World} {lo hi n c : Nat} {A : Option Addr} {v : Int} {zs : List Int} (h : Own .u8 w lo hi A n c ([] ++ enc v)) (e : enc v = zs) : Own .u8 w lo hi A n c zs := by
  rw [List.nil_append, e] at h
  exact h
theorem le7 {p q ny : Nat} (h : ny ≤ 200000) (hq : q ≤ ny) : q - p ≤ 1099511627776 := by omega
set_option maxHeartbeats 1000000 in
theorem FnVarints_walk (W0 : World) (A : Option Addr) (n c : Nat) (hn : n ≤ maxLen) (hr : BRow W0 W0.heap.size A n) :
    Calls Try.prog 3 #[.slice A n c] W0 fun e w' => e = .returned (.bool true) ∧ Below W0.heap.size W0 w' := by
  by_cases hbig : 1048576 < n
  · go_enter Try.func3, Try.ntmps3
    go_wp2_with fail
    refine (big_yes _ _ _ _ hbig).mono ?_
    rintro e w1 ⟨rfl, rfl⟩
    go_wp2
    go_ret
    exact ⟨rfl, Below.refl _ _⟩
  have HR := Lib.hid hr
  clear hr
  go_enter Try.func3, Try.ntmps3
  go_wp2_with fail
  refine (big_no _ _ _ _ (by omega)).mono ?_
  rintro e w1 ⟨rfl, rfl⟩
  go_wp2_with fail
  refine (drawAppendUvarint_any W0 A n c hn HR.out).mono ?_
  rintro e W1 ⟨Ab, m, cb, zs, x, rfl, hm, hx, hob, hb1⟩
  have HX := Lib.hid hx
  have HOb1 := Lib.hid hob
  have HB1 := Lib.hid hb1
  clear hx hob hb1
  go_wp2_with fail
  refine (iAppendUvarint_any Ab m cb zs x W1 HOb1.out.rd (by omega)).mono ?_
  rintro e W2 ⟨Ax, nx, cx, rfl, hnx, hox, hb2⟩
  have hel := enc_len x
  have hnx2 : nx ≤ 100006 := by omega
  have HOx2 := Lib.hid hox
  have HOb2 := Lib.hid (HOb1.out.below hb2 (Nat.le_refl _))
  have HB2 := Lib.hid (HB1.out.trans (hb2.mono HB1.out.size))
  have HZ12 := Lib.hid hb2.size
  have HN := Lib.hid hnx
  clear hox hb2 hnx hel
  have hu := iReadUvarint_any Ax nx cx _ m W2 HOx2.out.rd (by omega) HOx2.out.cap.1
  have hc1 := first_cases zs x
  rw [HOb1.out.len] at hc1
  rcases hc1 with ⟨hx1, hx2, hx3⟩ | ⟨hx1, hx2, hx3⟩
  · rw [hx3] at hu
    have HU := Lib.hid hu
    have HOx2b := Lib.hid (hx2 ▸ HOx2.out)
    have hnm : nx = m := HOx2b.out.len.symm.trans HOb1.out.len
    clear hu hx2 hx3
    subst hnm
    go_wp2_with fail
    refine HU.out.mono ?_
    rintro e W3 ⟨rfl, hb3⟩
    have HB3 := Lib.hid (HB2.out.trans (hb3.mono HB2.out.size))
    have HOx3 := Lib.hid (HOx2b.out.below hb3 (Nat.le_refl _))
    have HOb3 := Lib.hid (HOb2.out.below hb3 HZ12.out)
    clear hb3
    by_cases hxneg : x < 0
    all_goals
      have hxo : x < 0 ∨ 1000000000000 < x := hx1
      clear hx1
      have hxg : ¬ x < 0 → 1000000000000 < x := by omega
      go_wp2_with fail
      refine (sameBytes_same _ _ Ax Ab _ cx cb zs _ HOx3.out.rd HOb3.out.rd (by omega)).mono ?_
      rintro e W4 ⟨rfl, hs4⟩
      have HB4 := Lib.hid (HB3.out.trans (hs4.below _))
      clear hs4
      go_wp2_with fail
      refine (drawReadUvarint_any _ A n c hn ((HR.out.below HB4.out).more HB4.out.size)).mono ?_
      rintro e W5 ⟨Ay, ny, cy, ys, off, rfl, hny, hoff, hoy, hb5⟩
      have HB5 := Lib.hid (HB4.out.trans (hb5.mono HB4.out.size))
      have HOy := Lib.hid hoy.top
      have HOF := Lib.hid hoff
      have hu2 := iReadUvarint_any Ay ny cy ys off W5 hoy.rd (by omega) hoy.cap.1
      have hc2 := second_cases ys off (byt_in hoy.wf)
      clear hoy hb5 hoff
      rcases hc2 with hR | ⟨p, q, v, rfl, hpq, hq, hv0, hv1, hR, hev⟩
      · rw [hR] at hu2
        have HR2 := Lib.hid hR
        have HU2 := Lib.hid hu2
        clear hR hu2
        go_wp2_with fail
        refine HU2.out.mono ?_
        rintro e W6 ⟨rfl, hb6⟩
        have HB6 := Lib.hid (HB5.out.trans (hb6.mono HB5.out.size))
        have hs := sReadUvarint_any _ Ay ny cy ys off W6 (HOy.out.below hb6 (Nat.le_refl _)).rd (by omega)
        rw [HR2.out] at hs
        have HS := Lib.hid hs
        clear hb6 hs
        go_wp2_with fail
        refine HS.out.mono ?_
        rintro e W7 ⟨rfl, rfl⟩
        go_wp2
        go_ret
        exact ⟨rfl, HB6.out⟩
      · rw [hR] at hu2
        have hly : ys.length = ny := HOy.out.len
        rw [hly] at hq
        have hcy := HOy.out.cap.1
        have HU2 := Lib.hid hu2
        have HEV := Lib.hid hev
        obtain ⟨bb, bo, rfl, hlt, -⟩ := HOy.out.rd.cells (by omega)
        clear hR hu2 hev hly
        go_wp2_with fail
        refine HU2.out.mono ?_
        rintro e W6 ⟨rfl, hb6⟩
        have HB6 := Lib.hid (HB5.out.trans (hb6.mono HB5.out.size))
        have HOy6 := Lib.hid (HOy.out.below hb6 (Nat.le_refl _))
        have HZ6 := Lib.hid hb6.size
        clear hb6
        have hg1 : (0 : Int) ≤ (p : Int) := by omega
        have hg2 : (q : Int) ≤ (ny : Int) := by omega
        have hg3 : (p : Int) < (q : Int) := by omega
        have hg4 : (q : Int) ≤ (cy : Int) := by omega
        have hg5 : (0 : Int) ≤ (q : Int) := by omega
        have hg6 : (p : Int) ≤ (q : Int) := by omega
        have hg7 : ¬ cy = p := by omega
        go_wp2_with fail
        go_region_held3 (fun _ => True) (trivial) ((first
          | (go_at_call 14; refine (iAppendUvarint_any _ 0 0 [] v _ (Rd.nil _ _ _ _) (Nat.zero_le _)).mono ?_; rintro e W7 ⟨A7, n7, c7, rfl, hn7, ho7, hb7⟩; have HB7' := Lib.hid (below_lit hb7); obtain rfl : n7 = q - p := len7 HEV.out HOy.out.len hq hpq hn7; have HO7 := Lib.hid (own7 ho7 HEV.out); have HP := Lib.hid ((HOy6.out.below HB7'.out HZ6.out).rd.part (i := p) (j := q) (Nat.le_of_lt hpq) hq hpq); clear ho7 hb7 hn7)
          | (go_at_call 16; refine (sameBytes_same _ _ A7 (some ⟨bb, bo + p, none⟩) (q - p) c7 (cy - p) ((ys.take q).drop p) _ HO7.out.rd HP.out (le7 hny hq)).mono ?_; rintro e W8 ⟨rfl, hs8⟩; have HS8 := Lib.hid hs8; clear hs8)))
        go_wp2
        go_ret
        exact ⟨rfl, (HB6.out.trans (HB7'.out.mono HB6.out.size)).trans (HS8.out.below _)⟩
  · rw [hx3] at hu
    have HU := Lib.hid hu
    clear hu hx3
    have hnI : (nx : Int) = (m : Int) + ((enc x).length : Int) := by have := HN.out; omega
    rw [← hnI] at HU
    clear hnI
    go_wp2_with fail
    refine HU.out.mono ?_
    rintro e W4 ⟨rfl, hb3⟩
    have HB4 := Lib.hid (HB2.out.trans (hb3.mono HB2.out.size))
    clear hb3
    go_wp2_with fail
    refine (drawReadUvarint_any _ A n c hn ((HR.out.below HB4.out).more HB4.out.size)).mono ?_
    rintro e W5 ⟨Ay, ny, cy, ys, off, rfl, hny, hoff, hoy, hb5⟩
    have HB5 := Lib.hid (HB4.out.trans (hb5.mono HB4.out.size))
    have HOy := Lib.hid hoy.top
    have HOF := Lib.hid hoff
    have hu2 := iReadUvarint_any Ay ny cy ys off W5 hoy.rd (by omega) hoy.cap.1
    have hc2 := second_cases ys off (byt_in hoy.wf)
    clear hoy hb5 hoff
    rcases hc2 with hR | ⟨p, q, v, rfl, hpq, hq, hv0, hv1, hR, hev⟩
    · rw [hR] at hu2
      have HR2 := Lib.hid hR
      have HU2 := Lib.hid hu2
      clear hR hu2
      go_wp2_with fail
      refine HU2.out.mono ?_
      rintro e W6 ⟨rfl, hb6⟩
      have HB6 := Lib.hid (HB5.out.trans (hb6.mono HB5.out.size))
      have hs := sReadUvarint_any _ Ay ny cy ys off W6 (HOy.out.below hb6 (Nat.le_refl _)).rd (by omega)
      rw [HR2.out] at hs
      have HS := Lib.hid hs
      clear hb6 hs
      go_wp2_with fail
      refine HS.out.mono ?_
      rintro e W7 ⟨rfl, rfl⟩
      go_wp2
      go_ret
      exact ⟨rfl, HB6.out⟩
    · rw [hR] at hu2
      have hly : ys.length = ny := HOy.out.len
      rw [hly] at hq
      have hcy := HOy.out.cap.1
      have HU2 := Lib.hid hu2
      have HEV := Lib.hid hev
      obtain ⟨bb, bo, rfl, hlt, -⟩ := HOy.out.rd.cells (by omega)
      clear hR hu2 hev hly
      go_wp2_with fail
      refine HU2.out.mono ?_
      rintro e W6 ⟨rfl, hb6⟩
      have HB6 := Lib.hid (HB5.out.trans (hb6.mono HB5.out.size))
      have HOy6 := Lib.hid (HOy.out.below hb6 (Nat.le_refl _))
      have HZ6 := Lib.hid hb6.size
      clear hb6
      have hg1 : (0 : Int) ≤ (p : Int) := by omega
      have hg2 : (q : Int) ≤ (ny : Int) := by omega
      have hg3 : (p : Int) < (q : Int) := by omega
      have hg4 : (q : Int) ≤ (cy : Int) := by omega
      have hg5 : (0 : Int) ≤ (q : Int) := by omega
      have hg6 : (p : Int) ≤ (q : Int) := by omega
      have hg7 : ¬ cy = p := by omega
      go_wp2_with fail
      go_region_held3 (fun _ => True) (trivial) ((first
        | (go_at_call 14; refine (iAppendUvarint_any _ 0 0 [] v _ (Rd.nil _ _ _ _) (Nat.zero_le _)).mono ?_; rintro e W7 ⟨A7, n7, c7, rfl, hn7, ho7, hb7⟩; have HB7' := Lib.hid (below_lit hb7); obtain rfl : n7 = q - p := len7 HEV.out HOy.out.len hq hpq hn7; have HO7 := Lib.hid (own7 ho7 HEV.out); have HP := Lib.hid ((HOy6.out.below HB7'.out HZ6.out).rd.part (i := p) (j := q) (Nat.le_of_lt hpq) hq hpq); clear ho7 hb7 hn7)
        | (go_at_call 16; refine (sameBytes_same _ _ A7 (some ⟨bb, bo + p, none⟩) (q - p) c7 (cy - p) ((ys.take q).drop p) _ HO7.out.rd HP.out (le7 hny hq)).mono ?_; rintro e W8 ⟨rfl, hs8⟩; have HS8 := Lib.hid hs8; clear hs8)))
      go_wp2
      go_ret
      exact ⟨rfl, (HB6.out.trans (HB7'.out.mono HB6.out.size)).trans (HS8.out.below _)⟩
end Go.Proofs.Ytppajfaneacchaa.W02F
