/- The walk of the statement on byte strings of promise 2: the law returns true, and writes into nothing that was there. -/
import Derived.Test.YtppajfaneacchaaW02F
namespace Go.Proofs.Ytppajfaneacchaa.W02G
set_option linter.unusedVariables false
open Go.RowKit Mem M02 M02F C01 C02 C02R C02B C02I D01 D02 SL T01 W02F
theorem at_any (B : Nat) (A : Option Addr) (n c : Nat) (i : Int) (w : World) (h : BRow w B A n) (hn : n ≤ 1048576) (hi0 : 0 ≤ i) (hi : i ≤ 1000) :
    Calls Try.prog 22 #[.slice A n c, .int .i64 i] w fun e w' => ∃ x : Int, 0 ≤ x ∧ x ≤ 255 ∧ e = .returned (.int .i64 x) ∧ w = w' := by
  obtain ⟨i, rfl⟩ : ∃ k : Nat, i = k := ⟨i.toNat, by omega⟩
  by_cases hin : i < n
  · obtain ⟨b, off, rfl, hlt, hc⟩ := h (by omega)
    obtain ⟨x, h0, h1, hx⟩ := hc i hin
    clear hc h
    go_enter Try.func22, Try.ntmps22
    go_wp2
    go_ret
    exact ⟨x, h0, h1, rfl, rfl⟩
  · clear h
    have hy0 : 0 ≤ ((i : Int) * 31 + (n : Int) * 7) % 256 := by omega
    have hy1 : ((i : Int) * 31 + (n : Int) * 7) % 256 ≤ 255 := by omega
    have HY0 := Lib.hid hy0
    have HY1 := Lib.hid hy1
    clear hy0 hy1
    go_enter Try.func22, Try.ntmps22
    go_wp2
    go_ret
    exact ⟨_, HY0.out, HY1.out, rfl, rfl⟩
theorem prod3 {x y z : Int} (hx0 : 0 ≤ x) (hx1 : x ≤ 255) (hy0 : 0 ≤ y) (hy1 : y ≤ 255) (hz0 : 0 ≤ z) (hz1 : z ≤ 255) : ∃ p q : Int, x * y = p ∧ 0 ≤ p ∧ p ≤ 65025 ∧ p * z = q ∧ 0 ≤ q ∧ q ≤ 16581375 := by
  have h1 : 0 ≤ x * y := Int.mul_nonneg hx0 hy0
  have h2 : x * y ≤ 255 * 255 := Int.mul_le_mul hx1 hy1 hy0 (by omega)
  have h3 : 0 ≤ x * y * z := Int.mul_nonneg h1 hz0
  have h4 : x * y * z ≤ 255 * 255 * 255 := Int.mul_le_mul h2 hz1 hz0 (by omega)
  exact ⟨_, _, rfl, h1, by omega, rfl, h3, by omega⟩
set_option maxHeartbeats 1000000 in
theorem FnByteStrings_walk (W0 : World) (A : Option Addr) (n c : Nat) (hn : n ≤ maxLen) (hr : BRow W0 W0.heap.size A n) :
    Calls Try.prog 4 #[.slice A n c] W0 fun e w' => e = .returned (.bool true) ∧ Below W0.heap.size W0 w' := by
  by_cases hbig : 1048576 < n
  · go_enter Try.func4, Try.ntmps4
    go_wp2_with fail
    refine (big_yes _ _ _ _ hbig).mono ?_
    rintro e w1 ⟨rfl, rfl⟩
    go_wp2
    go_ret
    exact ⟨rfl, Below.refl _ _⟩
  have HR := Lib.hid hr
  clear hr
  go_enter Try.func4, Try.ntmps4
  go_wp2_with fail
  refine (big_no _ _ _ _ (by omega)).mono ?_
  rintro e w1 ⟨rfl, rfl⟩
  go_wp2_with fail
  refine (drawAppendBytes_any W0 A n c hn HR.out).mono ?_
  rintro e W1 ⟨Ab, m, cb, zs, Ad, m2, cd, ys, rfl, hm, hm2, hob, hod, hb1⟩
  have HOb1 := Lib.hid hob
  have HOd1 := Lib.hid hod.top
  have HB1 := Lib.hid hb1
  clear hob hod hb1
  go_wp2_with fail
  refine (iAppendBytes_any Ab Ad m cb m2 cd zs ys W1 (HOb1.out.top.rd) HOd1.out.rd (by omega) (by omega)).mono ?_
  rintro e W2 ⟨Ax, nx, cx, rfl, hnx, hox, hb2⟩
  have hel := enc_len (m2 : Int)
  have hnx2 : nx ≤ 200006 := by omega
  have HOx2 := Lib.hid hox
  have HOd2 := Lib.hid (HOd1.out.below hb2 (Nat.le_refl _))
  have HB2 := Lib.hid (HB1.out.trans (hb2.mono HB1.out.size))
  have HZ2 := Lib.hid hb2.size
  have HN := Lib.hid hnx
  clear hox hb2 hnx hel
  have hlz : zs.length = m := HOb1.out.len
  have hly : ys.length = m2 := HOd1.out.len
  have hu := iReadBytes_any Ax nx cx _ (m : Int) (m2 : Int) W2 HOx2.out.rd (by omega) HOx2.out.cap.1
  have hR := rdB_enc zs ys (by omega)
  rw [hlz, hly] at hR
  rw [hR] at hu
  have hS := rdB_short zs ys (by omega)
  rw [hlz, hly] at hS
  have hnI : (nx : Int) = (m : Int) + ((enc (m2 : Int)).length : Int) + (m2 : Int) := by have := HN.out; omega
  simp only [hly] at hu
  rw [← hnI] at hu
  have HU := Lib.hid hu
  have HS := Lib.hid hS
  clear hu hR hS hnI hlz hly
  go_wp2_with fail
  refine HU.out.mono ?_
  rintro e W3 ⟨Ay, cy, rfl, hoy, hb3⟩
  have HOx3 := Lib.hid (HOx2.out.below hb3 (Nat.le_refl _))
  have HOd3 := Lib.hid (HOd2.out.below hb3 HZ2.out)
  have HOy3 := Lib.hid hoy
  have HB3 := Lib.hid (HB2.out.trans (hb3.mono HB2.out.size))
  have HZ3 := Lib.hid hb3.size
  clear hb3 hoy
  have hu2 := iReadBytes_any Ax nx cx _ (m : Int) ((m2 : Int) - 1) W3 (HOx3.out.rd.more HZ3.out) (by omega) HOx3.out.cap.1
  rw [HS.out] at hu2
  have HU2 := Lib.hid hu2
  clear hu2
  go_wp2_with fail
  refine HU2.out.mono ?_
  rintro e W4 ⟨Ae, ce, rfl, hoe, hb4⟩
  have HOd4 := Lib.hid (HOd3.out.below hb4 (Nat.le_trans HZ2.out HZ3.out))
  have HOy4 := Lib.hid (HOy3.out.below hb4 (Nat.le_refl _))
  have HB4 := Lib.hid (HB3.out.trans (hb4.mono HB3.out.size))
  clear hb4 hoe
  go_wp2_with fail
  refine (sameBytes_same _ _ Ay Ad m2 cy cd ys _ HOy4.out.rd HOd4.out.rd (by omega)).mono ?_
  rintro e W5 ⟨rfl, hs5⟩
  have HB5 := Lib.hid (HB4.out.trans (hs5.below _))
  clear hs5
  have HOl := Lib.hid (Own.lit0 (lo := W0.heap.size) .i64 W5 HB5.out.size)
  have HBl := Lib.hid (HB5.out.alloc HB5.out.size (.cells #[] 3))
  clear hnx2 hm hm2
  go_wp2
  go_loopw [12, 13] (fun v i wr => ∃ (A1 : Option Addr) (c1 j : Nat) (d : List Int), v = .slice A1 j c1 ∧ i = .int .i64 j ∧ j ≤ 5 ∧ (∀ x ∈ d, 0 ≤ x ∧ x ≤ 1000000000000) ∧ Own .i64 wr W0.heap.size wr.heap.size A1 j c1 d ∧ Below W0.heap.size W0 wr) (fun _ i _ => 5 - (intOf i).toNat)
  case atStart => exact ⟨_, 0, 0, [], rfl, rfl, by omega, by simp, HOl.out.top, HBl.out⟩
  case round =>
    obtain ⟨A1, c1, j, d, rfl, rfl, hj, hd, hown, hbel⟩ := hrel
    have HD := Lib.hid hd
    have HO := Lib.hid hown
    have HB := Lib.hid hbel
    clear hd hown hbel
    go_wp2_with fail
    refine (at_any W0.heap.size A n c 0 _ (HR.out.below HB.out) (by omega) (by omega) (by omega)).mono ?_
    rintro e w2 ⟨t, ht0, ht1, rfl, rfl⟩
    have ht2 : 0 ≤ t % 6 := by omega
    have ht3 : t % 6 ≤ 5 := by omega
    by_cases hjt : (j : Int) < t % 6
    · have hj4 : j ≤ 4 := by omega
      go_wp2_with fail
      refine (at_any W0.heap.size A n c ((j : Int) + 1) _ (HR.out.below HB.out) (by omega) (by omega) (by omega)).mono ?_
      rintro e w2 ⟨x, hx0, hx1, rfl, rfl⟩
      go_wp2_with fail
      refine (at_any W0.heap.size A n c ((j : Int) + 2) _ (HR.out.below HB.out) (by omega) (by omega) (by omega)).mono ?_
      rintro e w2 ⟨y, hy0, hy1, rfl, rfl⟩
      obtain ⟨p, -, hp, hp0, hp1, -⟩ := prod3 hx0 hx1 hy0 hy1 hy0 hy1
      go_wp2_with fail
      refine (at_any W0.heap.size A n c ((j : Int) + 3) _ (HR.out.below HB.out) (by omega) (by omega) (by omega)).mono ?_
      rintro e w2 ⟨z, hz0, hz1, rfl, rfl⟩
      obtain ⟨p', q, hp', -, -, hq, hq0, hq1⟩ := prod3 hx0 hx1 hy0 hy1 hz0 hz1
      obtain rfl : p' = p := hp'.symm.trans hp
      have hzq : In .i64 q := by constructor <;> simp [IntKind.min, IntKind.max, IntKind.signed, IntKind.bits] <;> omega
      clear hp'
      go_wp2_with (at_builtin; refine wp_push (k := .i64) (z := q) (by unfold BI; decide) rfl _ _ rfl rfl HO.out rfl hzq (by omega) HB.out.size ?_; intro A2 c2 w3 hown3 hgr3)
      go_roundw
      case rel =>
        refine ⟨A2, c2, j + 1, d ++ [q], rfl, by go_num, by omega, fun u hu => ?_, hown3, HB.out.trans (hgr3.below HB.out.size HO.out.ge)⟩
        rcases List.mem_append.1 hu with hu | hu
        · exact HD.out u hu
        · have e : u = q := by simpa using hu
          omega
      case measure => simp [intOf]; omega
    · obtain rfl := HO.out.len
      have hR := rdI_enc d (by omega) HD.out
      have hS := rdI_over d HD.out
      have hel := encs_len d
      have HRR := Lib.hid hR
      have HSS := Lib.hid hS
      clear hR hS
      go_wp2_with fail
      refine (iEncodeInts_any A1 _ c1 d _ HO.out.rd (by omega)).mono ?_
      rintro e w3 ⟨Ae, ce, rfl, hoe, hb3⟩
      have HOe := Lib.hid hoe
      have HO3 := Lib.hid (HO.out.below hb3 (Nat.le_refl _))
      have HB3 := Lib.hid (HB.out.trans (hb3.mono HB.out.size))
      have HZ3 := Lib.hid hb3.size
      have hu := iDecodeInts_any Ae _ ce (encs d) 0 d.length w3 hoe.top.rd (by omega) hoe.cap.1
      rw [HRR.out] at hu
      have HU := Lib.hid hu
      clear hb3 hoe hu
      go_wp2_with fail
      refine HU.out.mono ?_
      rintro e w4 ⟨Am, cm, rfl, hom, hb4⟩
      have HOe4 := Lib.hid (HOe.out.below hb4 (Nat.le_refl _))
      have HO4 := Lib.hid (HO3.out.below hb4 HZ3.out)
      have HOm := Lib.hid hom
      have HB4 := Lib.hid (HB3.out.trans (hb4.mono HB3.out.size))
      have HZ4 := Lib.hid hb4.size
      have hu2 := iDecodeInts_any Ae _ ce (encs d) 0 ((d.length : Int) + 1) w4 (HOe4.out.rd.more HZ4.out) (by omega) HOe4.out.cap.1
      rw [HSS.out] at hu2
      have HU2 := Lib.hid hu2
      clear hb4 hom hu2
      go_wp2_with fail
      refine HU2.out.mono ?_
      rintro e w5 ⟨Af, cf, rfl, hof, hb5⟩
      have HOm5 := Lib.hid (HOm.out.below hb5 (Nat.le_refl _))
      have HO5 := Lib.hid (HO4.out.below hb5 (Nat.le_trans HZ3.out HZ4.out))
      have HB5' := Lib.hid (HB4.out.trans (hb5.mono HB4.out.size))
      clear hb5 hof
      go_wp2_with fail
      refine (sameInts_same _ _ Am A1 _ cm c1 d _ HOm5.out.rd HO5.out.rd (by omega)).mono ?_
      rintro e w6 ⟨rfl, hs6⟩
      have HB6 := Lib.hid (HB5'.out.trans (hs6.below _))
      clear hs6
      go_wp2
      go_ret
      exact ⟨rfl, HB6.out⟩
end Go.Proofs.Ytppajfaneacchaa.W02G
