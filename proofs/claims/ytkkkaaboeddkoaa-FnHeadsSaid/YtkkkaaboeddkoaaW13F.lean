/- The walk of the statement 'FnHeads': the law returns true, and writes into nothing that was there. -/
import Derived.Test.YtkkkaaboeddkoaaC13S
import Derived.Test.YtkkkaaboeddkoaaC13I
import Derived.Test.YtkkkaaboeddkoaaD13C
import Derived.Test.YtkkkaaboeddkoaaD13E
import Derived.Test.YtkkkaaboeddkoaaT01
namespace Go.Proofs.Ytkkkaaboeddkoaa.W13F
set_option linter.unusedVariables false
set_option linter.unusedSimpArgs false
set_option maxRecDepth 100000
open Go.RowKit Mem MemS M02 C01 C02 Rep R06 R13 M06 M13 C13S D01 D02 D13 D13B D13C D13E SL T01 TB BX RG RGS
open C13I hiding upK upH head_parts
open RKA hiding inI64
theorem fresh_eq (h : Head) (now : Int) : freshH h now = (decide (h.time ≤ now) && decide (now ≤ h.until_)) := by
  unfold freshH inR
  rfl
theorem dig_same {a b : Head} : ((!(eqHd a b)) || ((hdDig a : Int) == (hdDig b : Int))) = true := by
  cases he : eqHd a b
  · rfl
  · rw [eqHd_iff.1 he]; simp
theorem noK_nat (q : Keys) (n : Nat) (hn : q.list.length = n) : noK q = (((q.need : Int) == (0 : Int)) && (((n : Int) : Int) == (0 : Int))) := by
  unfold noK
  rw [hn]
  congr 1
  by_cases g : n = 0
  · subst g; rfl
  · rw [decide_eq_false g]
    symm
    rw [beq_eq_false_iff_ne]
    omega
set_option maxHeartbeats 16000000 in
theorem FnHeads_walk (W0 : World) (A : Option Addr) (n c : Nat) (hn : n ≤ maxLen) (hr : BRow W0 W0.heap.size A n) :
    Calls Try.prog 3 #[.slice A n c] W0 fun e w' => e = .returned (.bool true) ∧ Below W0.heap.size W0 w' := by
  by_cases hbig : 1048576 < n
  · go_enter Try.func3, Try.ntmps3
    go_wp2_with fail
    refine (big_yes _ _ _ _ hbig).mono ?_
    rintro e w1 ⟨rfl, rfl⟩
    go_wp2
    go_ret
    exact ⟨rfl, Below.refl _ _⟩
  have HR := Lib.hid hr
  clear hr
  go_enter Try.func3, Try.ntmps3
  go_wp2_with fail
  refine (big_no _ _ _ _ (by omega)).mono ?_
  rintro e w1 ⟨rfl, rfl⟩
  go_wp2_with fail
  refine (drawEqualHeads_any W0 A n c hn HR.out).mono ?_
  rintro e W1 ⟨cs1, a, cs2, b, rfl, ha, hb1, hta, htb, hb⟩
  obtain ⟨aA0, an0, ac0, aA1, an1, ac1, aA2, an2, ac2, rfl⟩ := RHead_shape ha
  obtain ⟨bA0, bn0, bc0, bA1, bn1, bc1, bA2, bn2, bc2, rfl⟩ := RHead_shape hb1
  have HHA := Lib.hid ha
  have HHB := Lib.hid hb1
  have HB0 := Lib.hid hb
  clear ha hb1 hb
  obtain ⟨V2, hV2⟩ : ∃ V, V = (W1.alloc (.cells #[.int .i64 0, .int .i64 0, .int .i64 0, .int .i64 0, .int .i64 0, .int .i64 0, .int .i64 0, .int .i64 0, .slice none 0 0, .int .i64 0, .slice none 0 0, .int .i64 0, .int .i64 0, .slice none 0 0, .int .i64 0, .bool false] 28)).alloc (.cells #[.int .i64 0, .int .i64 0, .int .i64 0, .int .i64 0, .int .i64 0, .int .i64 0, .int .i64 0, .int .i64 0, .slice none 0 0, .int .i64 0, .slice none 0 0, .int .i64 0, .int .i64 0, .slice none 0 0, .int .i64 0, .bool false] 28) := ⟨_, rfl⟩
  have HB_1 := Lib.hid (show Below W1.heap.size W1 V2 from by
    rw [hV2]
    exact ((Below.refl _ _).alloc (by first | (simp; done) | (simp; omega)) _).alloc (by first | (simp; done) | (simp; omega)) _)
  have HX_1 := Lib.hid (show Box V2 (W1.heap.size) [.int .i64 0, .int .i64 0, .int .i64 0, .int .i64 0, .int .i64 0, .int .i64 0, .int .i64 0, .int .i64 0, .slice none 0 0, .int .i64 0, .slice none 0 0, .int .i64 0, .int .i64 0, .slice none 0 0, .int .i64 0, .bool false] from by
    rw [hV2]
    have := ((Box.new W1 #[.int .i64 0, .int .i64 0, .int .i64 0, .int .i64 0, .int .i64 0, .int .i64 0, .int .i64 0, .int .i64 0, .slice none 0 0, .int .i64 0, .slice none 0 0, .int .i64 0, .int .i64 0, .slice none 0 0, .int .i64 0, .bool false] 28).alloc (.cells #[.int .i64 0, .int .i64 0, .int .i64 0, .int .i64 0, .int .i64 0, .int .i64 0, .int .i64 0, .int .i64 0, .slice none 0 0, .int .i64 0, .slice none 0 0, .int .i64 0, .int .i64 0, .slice none 0 0, .int .i64 0, .bool false] 28))
    simpa using this)
  have HY_1 := Lib.hid (show Box V2 (W1.heap.size + 1) [.int .i64 0, .int .i64 0, .int .i64 0, .int .i64 0, .int .i64 0, .int .i64 0, .int .i64 0, .int .i64 0, .slice none 0 0, .int .i64 0, .slice none 0 0, .int .i64 0, .int .i64 0, .slice none 0 0, .int .i64 0, .bool false] from by
    rw [hV2]
    have := (Box.new (W1.alloc (.cells #[.int .i64 0, .int .i64 0, .int .i64 0, .int .i64 0, .int .i64 0, .int .i64 0, .int .i64 0, .int .i64 0, .slice none 0 0, .int .i64 0, .slice none 0 0, .int .i64 0, .int .i64 0, .slice none 0 0, .int .i64 0, .bool false] 28)) #[.int .i64 0, .int .i64 0, .int .i64 0, .int .i64 0, .int .i64 0, .int .i64 0, .int .i64 0, .int .i64 0, .slice none 0 0, .int .i64 0, .slice none 0 0, .int .i64 0, .int .i64 0, .slice none 0 0, .int .i64 0, .bool false] 28)
    simpa using this)
  have HV2 := Lib.hid hV2
  have hsV2 : V2.heap.size = W1.heap.size + 2 := by rw [hV2]; simp
  clear hV2
  obtain ⟨V3, hV3⟩ : ∃ u9, puts V2 (W1.heap.size) 0 [.int .i64 a.zone, .int .i64 a.epoch, .int .i64 a.kind, .int .i64 a.time, .int .i64 a.until_, .int .i64 a.count, .int .i64 a.root, .int .i64 a.prev, .slice aA0 an0 ac0, .int .i64 a.keys.need, .slice aA1 an1 ac1, .int .i64 a.heirs.need, .int .i64 a.wait, .slice aA2 an2 ac2, .int .i64 a.judge.need, .bool a.frozen] = u9 := ⟨_, rfl⟩
  have HB_2 := Lib.hid (pt_bel hV3 HB_1.out (show W1.heap.size ≤ (W1.heap.size) by omega))
  have HX_2 := Lib.hid (show Box V3 (W1.heap.size) [.int .i64 a.zone, .int .i64 a.epoch, .int .i64 a.kind, .int .i64 a.time, .int .i64 a.until_, .int .i64 a.count, .int .i64 a.root, .int .i64 a.prev, .slice aA0 an0 ac0, .int .i64 a.keys.need, .slice aA1 an1 ac1, .int .i64 a.heirs.need, .int .i64 a.wait, .slice aA2 an2 ac2, .int .i64 a.judge.need, .bool a.frozen] from pt_self hV3 HX_1.out (by simp))
  have HY_2 := Lib.hid (pt_box hV3 HY_1.out (show (W1.heap.size + 1) ≠ (W1.heap.size) by omega))
  have HV3 := Lib.hid hV3
  clear hV3
  have hsV3 : V3.heap.size = V2.heap.size := by rw [← HV3.out]; exact puts_size _ _
  obtain ⟨V4, hV4⟩ : ∃ u9, puts V3 (W1.heap.size + 1) 0 [.int .i64 b.zone, .int .i64 b.epoch, .int .i64 b.kind, .int .i64 b.time, .int .i64 b.until_, .int .i64 b.count, .int .i64 b.root, .int .i64 b.prev, .slice bA0 bn0 bc0, .int .i64 b.keys.need, .slice bA1 bn1 bc1, .int .i64 b.heirs.need, .int .i64 b.wait, .slice bA2 bn2 bc2, .int .i64 b.judge.need, .bool b.frozen] = u9 := ⟨_, rfl⟩
  have HB_3 := Lib.hid (pt_bel hV4 HB_2.out (show W1.heap.size ≤ (W1.heap.size + 1) by omega))
  have HX_3 := Lib.hid (pt_box hV4 HX_2.out (show (W1.heap.size) ≠ (W1.heap.size + 1) by omega))
  have HY_3 := Lib.hid (show Box V4 (W1.heap.size + 1) [.int .i64 b.zone, .int .i64 b.epoch, .int .i64 b.kind, .int .i64 b.time, .int .i64 b.until_, .int .i64 b.count, .int .i64 b.root, .int .i64 b.prev, .slice bA0 bn0 bc0, .int .i64 b.keys.need, .slice bA1 bn1 bc1, .int .i64 b.heirs.need, .int .i64 b.wait, .slice bA2 bn2 bc2, .int .i64 b.judge.need, .bool b.frozen] from pt_self hV4 HY_2.out (by simp))
  have HV4 := Lib.hid hV4
  clear hV4
  have hsV4 : V4.heap.size = V3.heap.size := by rw [← HV4.out]; exact puts_size _ _
  go_wp2_with (first | (rw [show (W1.alloc (.cells #[.int .i64 0, .int .i64 0, .int .i64 0, .int .i64 0, .int .i64 0, .int .i64 0, .int .i64 0, .int .i64 0, .slice none 0 0, .int .i64 0, .slice none 0 0, .int .i64 0, .int .i64 0, .slice none 0 0, .int .i64 0, .bool false] 28)).alloc (.cells #[.int .i64 0, .int .i64 0, .int .i64 0, .int .i64 0, .int .i64 0, .int .i64 0, .int .i64 0, .int .i64 0, .slice none 0 0, .int .i64 0, .slice none 0 0, .int .i64 0, .int .i64 0, .slice none 0 0, .int .i64 0, .bool false] 28) = V2 from HV2.out.symm]; refine LD.wp_stV LD.big_Head rfl _ _ rfl rfl rfl HX_1.out rfl (by decide) rfl HV3.out ?_) | (refine LD.wp_stV LD.big_Head rfl _ _ rfl rfl rfl HY_2.out rfl (by decide) rfl HV4.out ?_))
  refine (drawIsFresh_any V4 A n c hn ((HR.out.below (HB0.out.trans (HB_3.out.mono HB0.out.size))).more (HB0.out.trans (HB_3.out.mono HB0.out.size)).size)).mono ?_
  rintro e W5 ⟨cs3, h, now, rfl, hh, hth, hnow, hb⟩
  obtain ⟨hA0, hn0, hc0, hA1, hn1, hc1, hA2, hn2, hc2, rfl⟩ := RHead_shape hh
  have HB_4 := Lib.hid (HB_3.out.trans (hb.mono HB_3.out.size))
  have HX_4 := Lib.hid (HX_3.out.below hb HX_3.out.lt)
  have HY_4 := Lib.hid (HY_3.out.below hb HY_3.out.lt)
  have hsW5 := hb.size
  have HHH := Lib.hid hh
  clear hb hh
  have HE_4 := Lib.hid (Below.refl W5.heap.size W5)
  have hal : Below W5.heap.size W5 (W5.alloc (.cells #[.int .i64 h.zone, .int .i64 h.epoch, .int .i64 h.kind, .int .i64 h.time, .int .i64 h.until_, .int .i64 h.count, .int .i64 h.root, .int .i64 h.prev, .slice hA0 hn0 hc0, .int .i64 h.keys.need, .slice hA1 hn1 hc1, .int .i64 h.heirs.need, .int .i64 h.wait, .slice hA2 hn2 hc2, .int .i64 h.judge.need, .bool h.frozen] 28)) := (Below.refl _ _).alloc (Nat.le_refl _) _
  have HB_5 := Lib.hid (HB_4.out.trans (hal.mono HB_4.out.size))
  have HX_5 := Lib.hid (HX_4.out.below hal HX_4.out.lt)
  have HY_5 := Lib.hid (HY_4.out.below hal HY_4.out.lt)
  have HE_5 := Lib.hid (HE_4.out.trans (hal.mono HE_4.out.size))
  have HZ_5 := Lib.hid (show Box (W5.alloc (.cells #[.int .i64 h.zone, .int .i64 h.epoch, .int .i64 h.kind, .int .i64 h.time, .int .i64 h.until_, .int .i64 h.count, .int .i64 h.root, .int .i64 h.prev, .slice hA0 hn0 hc0, .int .i64 h.keys.need, .slice hA1 hn1 hc1, .int .i64 h.heirs.need, .int .i64 h.wait, .slice hA2 hn2 hc2, .int .i64 h.judge.need, .bool h.frozen] 28)) (W5.heap.size) [.int .i64 h.zone, .int .i64 h.epoch, .int .i64 h.kind, .int .i64 h.time, .int .i64 h.until_, .int .i64 h.count, .int .i64 h.root, .int .i64 h.prev, .slice hA0 hn0 hc0, .int .i64 h.keys.need, .slice hA1 hn1 hc1, .int .i64 h.heirs.need, .int .i64 h.wait, .slice hA2 hn2 hc2, .int .i64 h.judge.need, .bool h.frozen] from Box.new W5 #[.int .i64 h.zone, .int .i64 h.epoch, .int .i64 h.kind, .int .i64 h.time, .int .i64 h.until_, .int .i64 h.count, .int .i64 h.root, .int .i64 h.prev, .slice hA0 hn0 hc0, .int .i64 h.keys.need, .slice hA1 hn1 hc1, .int .i64 h.heirs.need, .int .i64 h.wait, .slice hA2 hn2 hc2, .int .i64 h.judge.need, .bool h.frozen] 28)
  obtain ⟨V6, hV6⟩ : ∃ u9, W5.alloc (.cells #[.int .i64 h.zone, .int .i64 h.epoch, .int .i64 h.kind, .int .i64 h.time, .int .i64 h.until_, .int .i64 h.count, .int .i64 h.root, .int .i64 h.prev, .slice hA0 hn0 hc0, .int .i64 h.keys.need, .slice hA1 hn1 hc1, .int .i64 h.heirs.need, .int .i64 h.wait, .slice hA2 hn2 hc2, .int .i64 h.judge.need, .bool h.frozen] 28) = u9 := ⟨_, rfl⟩
  rw [hV6] at HB_5 HX_5 HY_5 HE_5 HZ_5
  have HV6 := Lib.hid hV6
  clear hal
  have hsV6 : V6.heap.size = W5.heap.size + 1 := by rw [← hV6]; simp
  clear hV6
  go_wp2_with (refine LD.wp_new LD.big_Head rfl _ _ rfl rfl rfl rfl rfl rfl ?_)
  rw [HV6.out]
  refine (drawNoKeys_any V6 A n c hn ((HR.out.below (HB0.out.trans (HB_5.out.mono HB0.out.size))).more (HB0.out.trans (HB_5.out.mono HB0.out.size)).size)).mono ?_
  rintro e W7 ⟨kA, kn, kc, q, rfl, hq, hql, hb⟩
  have HB_6 := Lib.hid (HB_5.out.trans (hb.mono HB_5.out.size))
  have HX_6 := Lib.hid (HX_5.out.below hb HX_5.out.lt)
  have HY_6 := Lib.hid (HY_5.out.below hb HY_5.out.lt)
  have HE_6 := Lib.hid (HE_5.out.trans (hb.mono HE_5.out.size))
  have HZ_6 := Lib.hid (HZ_5.out.below hb HZ_5.out.lt)
  have hsW7 := hb.size
  have HHQ := Lib.hid hq
  have HQL := Lib.hid (keys_row hq).1.len
  clear hb hq
  have HF_6 := Lib.hid (Below.refl W7.heap.size W7)
  have hal : Below W7.heap.size W7 (W7.alloc (.cells #[.slice kA kn kc, .int .i64 q.need] 26)) := (Below.refl _ _).alloc (Nat.le_refl _) _
  have HB_7 := Lib.hid (HB_6.out.trans (hal.mono HB_6.out.size))
  have HX_7 := Lib.hid (HX_6.out.below hal HX_6.out.lt)
  have HY_7 := Lib.hid (HY_6.out.below hal HY_6.out.lt)
  have HE_7 := Lib.hid (HE_6.out.trans (hal.mono HE_6.out.size))
  have HZ_7 := Lib.hid (HZ_6.out.below hal HZ_6.out.lt)
  have HF_7 := Lib.hid (HF_6.out.trans (hal.mono HF_6.out.size))
  have HQ_7 := Lib.hid (show Box (W7.alloc (.cells #[.slice kA kn kc, .int .i64 q.need] 26)) (W7.heap.size) [.slice kA kn kc, .int .i64 q.need] from Box.new W7 #[.slice kA kn kc, .int .i64 q.need] 26)
  obtain ⟨V8, hV8⟩ : ∃ u9, W7.alloc (.cells #[.slice kA kn kc, .int .i64 q.need] 26) = u9 := ⟨_, rfl⟩
  rw [hV8] at HB_7 HX_7 HY_7 HE_7 HZ_7 HF_7 HQ_7
  have HV8 := Lib.hid hV8
  clear hal
  clear hV8
  go_wp2_with fail
  rw [HV8.out]
  have hla := headInts_len a
  have hla2 : (headInts a).length ≤ 2097152 := by unfold totHead totKeys at hta; omega
  have hta2 : totHead a ≤ 1048576 := by omega
  have htb2 : totHead b ≤ 1048576 := by omega
  have hth2 : totHead h ≤ 1048576 := by omega
  clear hla
  obtain ⟨z5, hz5⟩ : ∃ zz : Bool, zz = ((isHd a) == (isHd a)) := ⟨_, rfl⟩
  have Hz5 := Lib.hid hz5
  clear hz5
  obtain ⟨z14, hz14⟩ : ∃ zz : Bool, zz = ((z5) && ((eqHd a b) == (eqHd a b))) := ⟨_, rfl⟩
  have Hz14 := Lib.hid hz14
  clear hz14
  obtain ⟨z19, hz19⟩ : ∃ zz : Bool, zz = (!(eqHd a b)) := ⟨_, rfl⟩
  have Hz19 := Lib.hid hz19
  clear hz19
  obtain ⟨z27, hz27⟩ : ∃ zz : Bool, zz = ((z14) && ((z19) || ((hdDig a : Int) == (hdDig b : Int)))) := ⟨_, rfl⟩
  have Hz27 := Lib.hid hz27
  clear hz27
  obtain ⟨z33, hz33⟩ : ∃ zz : Bool, zz = ((hdDig a : Int) == (hdDig b : Int)) := ⟨_, rfl⟩
  have Hz33 := Lib.hid hz33
  clear hz33
  obtain ⟨z41, hz41⟩ : ∃ zz : Bool, zz = ((z27) && ((z33) || ((hdDig a : Int) != (hdDig b : Int)))) := ⟨_, rfl⟩
  have Hz41 := Lib.hid hz41
  clear hz41
  obtain ⟨z49, hz49⟩ : ∃ zz : Bool, zz = (decide ((h.time : Int) ≤ (now : Int))) := ⟨_, rfl⟩
  have Hz49 := Lib.hid hz49
  clear hz49
  obtain ⟨z57, hz57⟩ : ∃ zz : Bool, zz = ((z41) && ((decide (h.time ≤ now) && decide (now ≤ h.until_)) == ((z49) && (decide ((now : Int) ≤ (h.until_ : Int)))))) := ⟨_, rfl⟩
  have Hz57 := Lib.hid hz57
  clear hz57
  obtain ⟨z63, hz63⟩ : ∃ zz : Bool, zz = ((q.need : Int) == (0 : Int)) := ⟨_, rfl⟩
  have Hz63 := Lib.hid hz63
  clear hz63
  obtain ⟨z71, hz71⟩ : ∃ zz : Bool, zz = ((z57) && ((((q.need : Int) == (0 : Int)) && (((kn : Int) : Int) == (0 : Int))) == ((z63) && (((kn : Int) : Int) == (0 : Int))))) := ⟨_, rfl⟩
  have Hz71 := Lib.hid hz71
  clear hz71
  refine RG.region (tabP [sv (.agg #[.int .i64 a.zone, .int .i64 a.epoch, .int .i64 a.kind, .int .i64 a.time, .int .i64 a.until_, .int .i64 a.count, .int .i64 a.root, .int .i64 a.prev, .slice aA0 an0 ac0, .int .i64 a.keys.need, .slice aA1 an1 ac1, .int .i64 a.heirs.need, .int .i64 a.wait, .slice aA2 an2 ac2, .int .i64 a.judge.need, .bool a.frozen]), sv (.bool (isHd a)), sv (.agg #[.int .i64 a.zone, .int .i64 a.epoch, .int .i64 a.kind, .int .i64 a.time, .int .i64 a.until_, .int .i64 a.count, .int .i64 a.root, .int .i64 a.prev, .slice aA0 an0 ac0, .int .i64 a.keys.need, .slice aA1 an1 ac1, .int .i64 a.heirs.need, .int .i64 a.wait, .slice aA2 an2 ac2, .int .i64 a.judge.need, .bool a.frozen]), sv (.bool (isHd a)), sv (.bool ((isHd a) == (isHd a))), sv (.bool (z5)), swhen (z5 == true) (sv (.agg #[.int .i64 a.zone, .int .i64 a.epoch, .int .i64 a.kind, .int .i64 a.time, .int .i64 a.until_, .int .i64 a.count, .int .i64 a.root, .int .i64 a.prev, .slice aA0 an0 ac0, .int .i64 a.keys.need, .slice aA1 an1 ac1, .int .i64 a.heirs.need, .int .i64 a.wait, .slice aA2 an2 ac2, .int .i64 a.judge.need, .bool a.frozen])), swhen (z5 == true) (sv (.agg #[.int .i64 b.zone, .int .i64 b.epoch, .int .i64 b.kind, .int .i64 b.time, .int .i64 b.until_, .int .i64 b.count, .int .i64 b.root, .int .i64 b.prev, .slice bA0 bn0 bc0, .int .i64 b.keys.need, .slice bA1 bn1 bc1, .int .i64 b.heirs.need, .int .i64 b.wait, .slice bA2 bn2 bc2, .int .i64 b.judge.need, .bool b.frozen])), swhen (z5 == true) (sv (.bool (eqHd a b))), swhen (z5 == true) (sv (.agg #[.int .i64 a.zone, .int .i64 a.epoch, .int .i64 a.kind, .int .i64 a.time, .int .i64 a.until_, .int .i64 a.count, .int .i64 a.root, .int .i64 a.prev, .slice aA0 an0 ac0, .int .i64 a.keys.need, .slice aA1 an1 ac1, .int .i64 a.heirs.need, .int .i64 a.wait, .slice aA2 an2 ac2, .int .i64 a.judge.need, .bool a.frozen])), swhen (z5 == true) (sv (.agg #[.int .i64 b.zone, .int .i64 b.epoch, .int .i64 b.kind, .int .i64 b.time, .int .i64 b.until_, .int .i64 b.count, .int .i64 b.root, .int .i64 b.prev, .slice bA0 bn0 bc0, .int .i64 b.keys.need, .slice bA1 bn1 bc1, .int .i64 b.heirs.need, .int .i64 b.wait, .slice bA2 bn2 bc2, .int .i64 b.judge.need, .bool b.frozen])), swhen (z5 == true) (sv (.bool (eqHd a b))), swhen (z5 == true) (sv (.bool ((eqHd a b) == (eqHd a b)))), sv (.bool ((z5) && ((eqHd a b) == (eqHd a b)))), sv (.bool (z14)), swhen (z14 == true) (sv (.agg #[.int .i64 a.zone, .int .i64 a.epoch, .int .i64 a.kind, .int .i64 a.time, .int .i64 a.until_, .int .i64 a.count, .int .i64 a.root, .int .i64 a.prev, .slice aA0 an0 ac0, .int .i64 a.keys.need, .slice aA1 an1 ac1, .int .i64 a.heirs.need, .int .i64 a.wait, .slice aA2 an2 ac2, .int .i64 a.judge.need, .bool a.frozen])), swhen (z14 == true) (sv (.agg #[.int .i64 b.zone, .int .i64 b.epoch, .int .i64 b.kind, .int .i64 b.time, .int .i64 b.until_, .int .i64 b.count, .int .i64 b.root, .int .i64 b.prev, .slice bA0 bn0 bc0, .int .i64 b.keys.need, .slice bA1 bn1 bc1, .int .i64 b.heirs.need, .int .i64 b.wait, .slice bA2 bn2 bc2, .int .i64 b.judge.need, .bool b.frozen])), swhen (z14 == true) (sv (.bool (eqHd a b))), swhen (z14 == true) (sv (.bool (!(eqHd a b)))), swhen (z14 == true) (sv (.bool (z19))), swhen ((z14 == true) && (z19 == false)) (sv (.agg #[.int .i64 a.zone, .int .i64 a.epoch, .int .i64 a.kind, .int .i64 a.time, .int .i64 a.until_, .int .i64 a.count, .int .i64 a.root, .int .i64 a.prev, .slice aA0 an0 ac0, .int .i64 a.keys.need, .slice aA1 an1 ac1, .int .i64 a.heirs.need, .int .i64 a.wait, .slice aA2 an2 ac2, .int .i64 a.judge.need, .bool a.frozen])), swhen ((z14 == true) && (z19 == false)) (sv (.int .i64 (hdDig a))), swhen ((z14 == true) && (z19 == false)) (sv (.agg #[.int .i64 b.zone, .int .i64 b.epoch, .int .i64 b.kind, .int .i64 b.time, .int .i64 b.until_, .int .i64 b.count, .int .i64 b.root, .int .i64 b.prev, .slice bA0 bn0 bc0, .int .i64 b.keys.need, .slice bA1 bn1 bc1, .int .i64 b.heirs.need, .int .i64 b.wait, .slice bA2 bn2 bc2, .int .i64 b.judge.need, .bool b.frozen])), swhen ((z14 == true) && (z19 == false)) (sv (.int .i64 (hdDig b))), swhen ((z14 == true) && (z19 == false)) (sv (.bool ((hdDig a : Int) == (hdDig b : Int)))), swhen (z14 == true) (sv (.bool ((z19) || ((hdDig a : Int) == (hdDig b : Int))))), sv (.bool ((z14) && ((z19) || ((hdDig a : Int) == (hdDig b : Int))))), sv (.bool (z27)), swhen (z27 == true) (sv (.agg #[.int .i64 a.zone, .int .i64 a.epoch, .int .i64 a.kind, .int .i64 a.time, .int .i64 a.until_, .int .i64 a.count, .int .i64 a.root, .int .i64 a.prev, .slice aA0 an0 ac0, .int .i64 a.keys.need, .slice aA1 an1 ac1, .int .i64 a.heirs.need, .int .i64 a.wait, .slice aA2 an2 ac2, .int .i64 a.judge.need, .bool a.frozen])), swhen (z27 == true) (sv (.int .i64 (hdDig a))), swhen (z27 == true) (sv (.agg #[.int .i64 b.zone, .int .i64 b.epoch, .int .i64 b.kind, .int .i64 b.time, .int .i64 b.until_, .int .i64 b.count, .int .i64 b.root, .int .i64 b.prev, .slice bA0 bn0 bc0, .int .i64 b.keys.need, .slice bA1 bn1 bc1, .int .i64 b.heirs.need, .int .i64 b.wait, .slice bA2 bn2 bc2, .int .i64 b.judge.need, .bool b.frozen])), swhen (z27 == true) (sv (.int .i64 (hdDig b))), swhen (z27 == true) (sv (.bool ((hdDig a : Int) == (hdDig b : Int)))), swhen (z27 == true) (sv (.bool (z33))), swhen ((z27 == true) && (z33 == false)) (sv (.agg #[.int .i64 a.zone, .int .i64 a.epoch, .int .i64 a.kind, .int .i64 a.time, .int .i64 a.until_, .int .i64 a.count, .int .i64 a.root, .int .i64 a.prev, .slice aA0 an0 ac0, .int .i64 a.keys.need, .slice aA1 an1 ac1, .int .i64 a.heirs.need, .int .i64 a.wait, .slice aA2 an2 ac2, .int .i64 a.judge.need, .bool a.frozen])), swhen ((z27 == true) && (z33 == false)) (sv (.int .i64 (hdDig a))), swhen ((z27 == true) && (z33 == false)) (sv (.agg #[.int .i64 b.zone, .int .i64 b.epoch, .int .i64 b.kind, .int .i64 b.time, .int .i64 b.until_, .int .i64 b.count, .int .i64 b.root, .int .i64 b.prev, .slice bA0 bn0 bc0, .int .i64 b.keys.need, .slice bA1 bn1 bc1, .int .i64 b.heirs.need, .int .i64 b.wait, .slice bA2 bn2 bc2, .int .i64 b.judge.need, .bool b.frozen])), swhen ((z27 == true) && (z33 == false)) (sv (.int .i64 (hdDig b))), swhen ((z27 == true) && (z33 == false)) (sv (.bool ((hdDig a : Int) != (hdDig b : Int)))), swhen (z27 == true) (sv (.bool ((z33) || ((hdDig a : Int) != (hdDig b : Int))))), sv (.bool ((z27) && ((z33) || ((hdDig a : Int) != (hdDig b : Int))))), sv (.bool (z41)), swhen (z41 == true) (sv (.agg #[.int .i64 h.zone, .int .i64 h.epoch, .int .i64 h.kind, .int .i64 h.time, .int .i64 h.until_, .int .i64 h.count, .int .i64 h.root, .int .i64 h.prev, .slice hA0 hn0 hc0, .int .i64 h.keys.need, .slice hA1 hn1 hc1, .int .i64 h.heirs.need, .int .i64 h.wait, .slice hA2 hn2 hc2, .int .i64 h.judge.need, .bool h.frozen])), swhen (z41 == true) (sv (.int .i64 (now))), swhen (z41 == true) (sv (.bool (decide (h.time ≤ now) && decide (now ≤ h.until_)))), swhen (z41 == true) (sv (.pointer (some ⟨W5.heap.size, 3, none⟩))), swhen (z41 == true) (sv (.int .i64 (h.time))), swhen (z41 == true) (sv (.int .i64 (now))), swhen (z41 == true) (sv (.bool (decide ((h.time : Int) ≤ (now : Int))))), swhen (z41 == true) (sv (.bool (z49))), swhen ((z41 == true) && (z49 == true)) (sv (.int .i64 (now))), swhen ((z41 == true) && (z49 == true)) (sv (.pointer (some ⟨W5.heap.size, 4, none⟩))), swhen ((z41 == true) && (z49 == true)) (sv (.int .i64 (h.until_))), swhen ((z41 == true) && (z49 == true)) (sv (.bool (decide ((now : Int) ≤ (h.until_ : Int))))), swhen (z41 == true) (sv (.bool ((z49) && (decide ((now : Int) ≤ (h.until_ : Int)))))), swhen (z41 == true) (sv (.bool ((decide (h.time ≤ now) && decide (now ≤ h.until_)) == ((z49) && (decide ((now : Int) ≤ (h.until_ : Int))))))), sv (.bool ((z41) && ((decide (h.time ≤ now) && decide (now ≤ h.until_)) == ((z49) && (decide ((now : Int) ≤ (h.until_ : Int))))))), sv (.bool (z57)), swhen (z57 == true) (sv (.agg #[.slice kA kn kc, .int .i64 q.need])), swhen (z57 == true) (sv (.bool (((q.need : Int) == (0 : Int)) && (((kn : Int) : Int) == (0 : Int))))), swhen (z57 == true) (sv (.pointer (some ⟨W7.heap.size, 1, none⟩))), swhen (z57 == true) (sv (.int .i64 (q.need))), swhen (z57 == true) (sv (.bool ((q.need : Int) == (0 : Int)))), swhen (z57 == true) (sv (.bool (z63))), swhen ((z57 == true) && (z63 == true)) (sv (.pointer (some ⟨W7.heap.size, 0, none⟩))), swhen ((z57 == true) && (z63 == true)) (sv (.slice kA kn kc)), swhen ((z57 == true) && (z63 == true)) (sv (.int .i64 ((kn : Int)))), swhen ((z57 == true) && (z63 == true)) (sv (.bool (((kn : Int) : Int) == (0 : Int)))), swhen (z57 == true) (sv (.bool ((z63) && (((kn : Int) : Int) == (0 : Int))))), swhen (z57 == true) (sv (.bool ((((q.need : Int) == (0 : Int)) && (((kn : Int) : Int) == (0 : Int))) == ((z63) && (((kn : Int) : Int) == (0 : Int)))))), sv (.bool ((z57) && ((((q.need : Int) == (0 : Int)) && (((kn : Int) : Int) == (0 : Int))) == ((z63) && (((kn : Int) : Int) == (0 : Int)))))), sv (.bool (z71)), swhen (z71 == true) (sv (.agg #[.int .i64 a.zone, .int .i64 a.epoch, .int .i64 a.kind, .int .i64 a.time, .int .i64 a.until_, .int .i64 a.count, .int .i64 a.root, .int .i64 a.prev, .slice aA0 an0 ac0, .int .i64 a.keys.need, .slice aA1 an1 ac1, .int .i64 a.heirs.need, .int .i64 a.wait, .slice aA2 an2 ac2, .int .i64 a.judge.need, .bool a.frozen])), swhen (z71 == true) (snums .i64 (headInts a)), swhen (z71 == true) (sv (.agg #[.int .i64 a.zone, .int .i64 a.epoch, .int .i64 a.kind, .int .i64 a.time, .int .i64 a.until_, .int .i64 a.count, .int .i64 a.root, .int .i64 a.prev, .slice aA0 an0 ac0, .int .i64 a.keys.need, .slice aA1 an1 ac1, .int .i64 a.heirs.need, .int .i64 a.wait, .slice aA2 an2 ac2, .int .i64 a.judge.need, .bool a.frozen])), swhen (z71 == true) (snums .i64 (headInts a)), swhen (z71 == true) (sv (.bool (true))), sv (.bool ((z71) && (true))), sv (.bool ((z71) && (true)))]) (by kernel_rfl) (by kernel_rfl) (tab_keep _) ?_ ?_
  · refine steps_cons ?_ (steps_cons ?_ (steps_cons ?_ (steps_cons ?_ (steps_cons ?_ (steps_cons ?_ (steps_cons ?_ (steps_cons ?_ (steps_cons ?_ (steps_cons ?_ (steps_cons ?_ (steps_cons ?_ (steps_cons ?_ (steps_cons ?_ (steps_cons ?_ (steps_cons ?_ (steps_cons ?_ (steps_cons ?_ (steps_cons ?_ (steps_cons ?_ (steps_cons ?_ (steps_cons ?_ (steps_cons ?_ (steps_cons ?_ (steps_cons ?_ (steps_cons ?_ (steps_cons ?_ (steps_cons ?_ (steps_cons ?_ (steps_cons ?_ (steps_cons ?_ (steps_cons ?_ (steps_cons ?_ (steps_cons ?_ (steps_cons ?_ (steps_cons ?_ (steps_cons ?_ (steps_cons ?_ (steps_cons ?_ (steps_cons ?_ (steps_cons ?_ (steps_cons ?_ (steps_cons ?_ (steps_cons ?_ (steps_cons ?_ (steps_cons ?_ (steps_cons ?_ (steps_cons ?_ (steps_cons ?_ (steps_cons ?_ (steps_cons ?_ (steps_cons ?_ (steps_cons ?_ (steps_cons ?_ (steps_cons ?_ (steps_cons ?_ (steps_cons ?_ (steps_cons ?_ (steps_cons ?_ (steps_cons ?_ (steps_cons ?_ (steps_cons ?_ (steps_cons ?_ (steps_cons ?_ (steps_cons ?_ (steps_cons ?_ (steps_cons ?_ (steps_cons ?_ (steps_cons ?_ (steps_cons ?_ (steps_cons ?_ (steps_cons ?_ (steps_cons ?_ (steps_cons ?_ (steps_cons ?_ (steps_cons ?_ (steps_cons ?_ (steps_cons ?_ (steps_cons ?_ (steps_nil)))))))))))))))))))))))))))))))))))))))))))))))))))))))))))))))))))))))))))))))
    · intro aa ww hA K hK
      refine free rfl ?_
      have e3 : aa.tmps.getD 3 undef = .pointer (some ⟨W1.heap.size, 0, none⟩) := hA.old 3 (by kernel_rfl)
      have ldHX_7 := LD.ld_run LD.big_Head (HX_7.out.keep (hA.bel.block (W1.heap.size) HX_7.out.lt)) rfl
      exact gives hK (v := .agg #[.int .i64 a.zone, .int .i64 a.epoch, .int .i64 a.kind, .int .i64 a.time, .int .i64 a.until_, .int .i64 a.count, .int .i64 a.root, .int .i64 a.prev, .slice aA0 an0 ac0, .int .i64 a.keys.need, .slice aA1 an1 ac1, .int .i64 a.heirs.need, .int .i64 a.wait, .slice aA2 an2 ac2, .int .i64 a.judge.need, .bool a.frozen]) (by simp only [execOp, Act.eval, e3, ldHX_7, Sem.run_bind, Sem.run_pure, Result.andThen_ok]) rfl
    · intro aa ww hA K hK
      refine free rfl ?_
      have e22 : aa.tmps.getD 22 undef = .agg #[.int .i64 a.zone, .int .i64 a.epoch, .int .i64 a.kind, .int .i64 a.time, .int .i64 a.until_, .int .i64 a.count, .int .i64 a.root, .int .i64 a.prev, .slice aA0 an0 ac0, .int .i64 a.keys.need, .slice aA1 an1 ac1, .int .i64 a.heirs.need, .int .i64 a.wait, .slice aA2 an2 ac2, .int .i64 a.judge.need, .bool a.frozen] := hA.got 0 22 (by kernel_rfl)
      refine calls hK (by simp [Act.eval, e22, go_sem]) (iIsHead_any _ a ww (upH HHA.out (HB_7.out.trans ((RKA.below_drew hA.bel).mono HB_7.out.size))) hta2) ?_
      rintro e w1 ⟨rfl, hb⟩
      exact ⟨_, rfl, hb, rfl⟩
    · intro aa ww hA K hK
      refine free rfl ?_
      have e3 : aa.tmps.getD 3 undef = .pointer (some ⟨W1.heap.size, 0, none⟩) := hA.old 3 (by kernel_rfl)
      have ldHX_7 := LD.ld_run LD.big_Head (HX_7.out.keep (hA.bel.block (W1.heap.size) HX_7.out.lt)) rfl
      exact gives hK (v := .agg #[.int .i64 a.zone, .int .i64 a.epoch, .int .i64 a.kind, .int .i64 a.time, .int .i64 a.until_, .int .i64 a.count, .int .i64 a.root, .int .i64 a.prev, .slice aA0 an0 ac0, .int .i64 a.keys.need, .slice aA1 an1 ac1, .int .i64 a.heirs.need, .int .i64 a.wait, .slice aA2 an2 ac2, .int .i64 a.judge.need, .bool a.frozen]) (by simp only [execOp, Act.eval, e3, ldHX_7, Sem.run_bind, Sem.run_pure, Result.andThen_ok]) rfl
    · intro aa ww hA K hK
      refine free rfl ?_
      have e24 : aa.tmps.getD 24 undef = .agg #[.int .i64 a.zone, .int .i64 a.epoch, .int .i64 a.kind, .int .i64 a.time, .int .i64 a.until_, .int .i64 a.count, .int .i64 a.root, .int .i64 a.prev, .slice aA0 an0 ac0, .int .i64 a.keys.need, .slice aA1 an1 ac1, .int .i64 a.heirs.need, .int .i64 a.wait, .slice aA2 an2 ac2, .int .i64 a.judge.need, .bool a.frozen] := hA.got 2 24 (by kernel_rfl)
      refine calls hK (by simp [Act.eval, e24, go_sem]) (sIsHead_any _ a ww (upH HHA.out (HB_7.out.trans ((RKA.below_drew hA.bel).mono HB_7.out.size))) hta2) ?_
      rintro e w1 ⟨rfl, hb⟩
      exact ⟨_, rfl, hb, rfl⟩
    · intro aa ww hA K hK
      refine free rfl ?_
      have e23 : aa.tmps.getD 23 undef = .bool (isHd a) := hA.got 1 23 (by kernel_rfl)
      have e25 : aa.tmps.getD 25 undef = .bool (isHd a) := hA.got 3 25 (by kernel_rfl)
      exact gives hK (v := .bool ((isHd a) == (isHd a))) (by simp [execOp, Act.eval, e23, e25, binOp, eqGuard, eq_bool, go_sem]) rfl
    · intro aa ww hA K hK
      refine free rfl ?_
      have e26 : aa.tmps.getD 26 undef = .bool ((isHd a) == (isHd a)) := hA.got 4 26 (by kernel_rfl)
      exact gives hK rfl (show aa.tmps.getD 26 undef = .bool z5 from by rw [e26, Hz5.out])
    · intro aa ww hA K hK
      refine guarded (s := sv (.agg #[.int .i64 a.zone, .int .i64 a.epoch, .int .i64 a.kind, .int .i64 a.time, .int .i64 a.until_, .int .i64 a.count, .int .i64 a.root, .int .i64 a.prev, .slice aA0 an0 ac0, .int .i64 a.keys.need, .slice aA1 an1 ac1, .int .i64 a.heirs.need, .int .i64 a.wait, .slice aA2 an2 ac2, .int .i64 a.judge.need, .bool a.frozen])) rfl rfl (hA.got 5 27 (by kernel_rfl)) hK fun hB hK => ?_
      have e3 : aa.tmps.getD 3 undef = .pointer (some ⟨W1.heap.size, 0, none⟩) := hA.old 3 (by kernel_rfl)
      have ldHX_7 := LD.ld_run LD.big_Head (HX_7.out.keep (hA.bel.block (W1.heap.size) HX_7.out.lt)) rfl
      exact gives hK (v := .agg #[.int .i64 a.zone, .int .i64 a.epoch, .int .i64 a.kind, .int .i64 a.time, .int .i64 a.until_, .int .i64 a.count, .int .i64 a.root, .int .i64 a.prev, .slice aA0 an0 ac0, .int .i64 a.keys.need, .slice aA1 an1 ac1, .int .i64 a.heirs.need, .int .i64 a.wait, .slice aA2 an2 ac2, .int .i64 a.judge.need, .bool a.frozen]) (by simp only [execOp, Act.eval, e3, ldHX_7, Sem.run_bind, Sem.run_pure, Result.andThen_ok]) rfl
    · intro aa ww hA K hK
      refine guarded (s := sv (.agg #[.int .i64 b.zone, .int .i64 b.epoch, .int .i64 b.kind, .int .i64 b.time, .int .i64 b.until_, .int .i64 b.count, .int .i64 b.root, .int .i64 b.prev, .slice bA0 bn0 bc0, .int .i64 b.keys.need, .slice bA1 bn1 bc1, .int .i64 b.heirs.need, .int .i64 b.wait, .slice bA2 bn2 bc2, .int .i64 b.judge.need, .bool b.frozen])) rfl rfl (hA.got 5 27 (by kernel_rfl)) hK fun hB hK => ?_
      have e4 : aa.tmps.getD 4 undef = .pointer (some ⟨W1.heap.size + 1, 0, none⟩) := hA.old 4 (by kernel_rfl)
      have ldHY_7 := LD.ld_run LD.big_Head (HY_7.out.keep (hA.bel.block (W1.heap.size + 1) HY_7.out.lt)) rfl
      exact gives hK (v := .agg #[.int .i64 b.zone, .int .i64 b.epoch, .int .i64 b.kind, .int .i64 b.time, .int .i64 b.until_, .int .i64 b.count, .int .i64 b.root, .int .i64 b.prev, .slice bA0 bn0 bc0, .int .i64 b.keys.need, .slice bA1 bn1 bc1, .int .i64 b.heirs.need, .int .i64 b.wait, .slice bA2 bn2 bc2, .int .i64 b.judge.need, .bool b.frozen]) (by simp only [execOp, Act.eval, e4, ldHY_7, Sem.run_bind, Sem.run_pure, Result.andThen_ok]) rfl
    · intro aa ww hA K hK
      refine guarded (s := sv (.bool (eqHd a b))) rfl rfl (hA.got 5 27 (by kernel_rfl)) hK fun hB hK => ?_
      have e28 : aa.tmps.getD 28 undef = .agg #[.int .i64 a.zone, .int .i64 a.epoch, .int .i64 a.kind, .int .i64 a.time, .int .i64 a.until_, .int .i64 a.count, .int .i64 a.root, .int .i64 a.prev, .slice aA0 an0 ac0, .int .i64 a.keys.need, .slice aA1 an1 ac1, .int .i64 a.heirs.need, .int .i64 a.wait, .slice aA2 an2 ac2, .int .i64 a.judge.need, .bool a.frozen] := (hA.got 6 28 (by kernel_rfl)).1 hB
      have e29 : aa.tmps.getD 29 undef = .agg #[.int .i64 b.zone, .int .i64 b.epoch, .int .i64 b.kind, .int .i64 b.time, .int .i64 b.until_, .int .i64 b.count, .int .i64 b.root, .int .i64 b.prev, .slice bA0 bn0 bc0, .int .i64 b.keys.need, .slice bA1 bn1 bc1, .int .i64 b.heirs.need, .int .i64 b.wait, .slice bA2 bn2 bc2, .int .i64 b.judge.need, .bool b.frozen] := (hA.got 7 29 (by kernel_rfl)).1 hB
      refine calls hK (by simp [Act.eval, e28, e29, go_sem]) (iEqualHeads_any _ _ a b ww (upH HHA.out (HB_7.out.trans ((RKA.below_drew hA.bel).mono HB_7.out.size))) (upH HHB.out (HB_7.out.trans ((RKA.below_drew hA.bel).mono HB_7.out.size))) hta2 htb2) ?_
      rintro e w1 ⟨rfl, hb⟩
      exact ⟨_, rfl, hb, rfl⟩
    · intro aa ww hA K hK
      refine guarded (s := sv (.agg #[.int .i64 a.zone, .int .i64 a.epoch, .int .i64 a.kind, .int .i64 a.time, .int .i64 a.until_, .int .i64 a.count, .int .i64 a.root, .int .i64 a.prev, .slice aA0 an0 ac0, .int .i64 a.keys.need, .slice aA1 an1 ac1, .int .i64 a.heirs.need, .int .i64 a.wait, .slice aA2 an2 ac2, .int .i64 a.judge.need, .bool a.frozen])) rfl rfl (hA.got 5 27 (by kernel_rfl)) hK fun hB hK => ?_
      have e3 : aa.tmps.getD 3 undef = .pointer (some ⟨W1.heap.size, 0, none⟩) := hA.old 3 (by kernel_rfl)
      have ldHX_7 := LD.ld_run LD.big_Head (HX_7.out.keep (hA.bel.block (W1.heap.size) HX_7.out.lt)) rfl
      exact gives hK (v := .agg #[.int .i64 a.zone, .int .i64 a.epoch, .int .i64 a.kind, .int .i64 a.time, .int .i64 a.until_, .int .i64 a.count, .int .i64 a.root, .int .i64 a.prev, .slice aA0 an0 ac0, .int .i64 a.keys.need, .slice aA1 an1 ac1, .int .i64 a.heirs.need, .int .i64 a.wait, .slice aA2 an2 ac2, .int .i64 a.judge.need, .bool a.frozen]) (by simp only [execOp, Act.eval, e3, ldHX_7, Sem.run_bind, Sem.run_pure, Result.andThen_ok]) rfl
    · intro aa ww hA K hK
      refine guarded (s := sv (.agg #[.int .i64 b.zone, .int .i64 b.epoch, .int .i64 b.kind, .int .i64 b.time, .int .i64 b.until_, .int .i64 b.count, .int .i64 b.root, .int .i64 b.prev, .slice bA0 bn0 bc0, .int .i64 b.keys.need, .slice bA1 bn1 bc1, .int .i64 b.heirs.need, .int .i64 b.wait, .slice bA2 bn2 bc2, .int .i64 b.judge.need, .bool b.frozen])) rfl rfl (hA.got 5 27 (by kernel_rfl)) hK fun hB hK => ?_
      have e4 : aa.tmps.getD 4 undef = .pointer (some ⟨W1.heap.size + 1, 0, none⟩) := hA.old 4 (by kernel_rfl)
      have ldHY_7 := LD.ld_run LD.big_Head (HY_7.out.keep (hA.bel.block (W1.heap.size + 1) HY_7.out.lt)) rfl
      exact gives hK (v := .agg #[.int .i64 b.zone, .int .i64 b.epoch, .int .i64 b.kind, .int .i64 b.time, .int .i64 b.until_, .int .i64 b.count, .int .i64 b.root, .int .i64 b.prev, .slice bA0 bn0 bc0, .int .i64 b.keys.need, .slice bA1 bn1 bc1, .int .i64 b.heirs.need, .int .i64 b.wait, .slice bA2 bn2 bc2, .int .i64 b.judge.need, .bool b.frozen]) (by simp only [execOp, Act.eval, e4, ldHY_7, Sem.run_bind, Sem.run_pure, Result.andThen_ok]) rfl
    · intro aa ww hA K hK
      refine guarded (s := sv (.bool (eqHd a b))) rfl rfl (hA.got 5 27 (by kernel_rfl)) hK fun hB hK => ?_
      have e31 : aa.tmps.getD 31 undef = .agg #[.int .i64 a.zone, .int .i64 a.epoch, .int .i64 a.kind, .int .i64 a.time, .int .i64 a.until_, .int .i64 a.count, .int .i64 a.root, .int .i64 a.prev, .slice aA0 an0 ac0, .int .i64 a.keys.need, .slice aA1 an1 ac1, .int .i64 a.heirs.need, .int .i64 a.wait, .slice aA2 an2 ac2, .int .i64 a.judge.need, .bool a.frozen] := (hA.got 9 31 (by kernel_rfl)).1 hB
      have e32 : aa.tmps.getD 32 undef = .agg #[.int .i64 b.zone, .int .i64 b.epoch, .int .i64 b.kind, .int .i64 b.time, .int .i64 b.until_, .int .i64 b.count, .int .i64 b.root, .int .i64 b.prev, .slice bA0 bn0 bc0, .int .i64 b.keys.need, .slice bA1 bn1 bc1, .int .i64 b.heirs.need, .int .i64 b.wait, .slice bA2 bn2 bc2, .int .i64 b.judge.need, .bool b.frozen] := (hA.got 10 32 (by kernel_rfl)).1 hB
      refine calls hK (by simp [Act.eval, e31, e32, go_sem]) (sEqualHeads_any _ _ a b ww (upH HHA.out (HB_7.out.trans ((RKA.below_drew hA.bel).mono HB_7.out.size))) (upH HHB.out (HB_7.out.trans ((RKA.below_drew hA.bel).mono HB_7.out.size))) hta2 htb2) ?_
      rintro e w1 ⟨rfl, hb⟩
      exact ⟨_, rfl, hb, rfl⟩
    · intro aa ww hA K hK
      refine guarded (s := sv (.bool ((eqHd a b) == (eqHd a b)))) rfl rfl (hA.got 5 27 (by kernel_rfl)) hK fun hB hK => ?_
      have e30 : aa.tmps.getD 30 undef = .bool (eqHd a b) := (hA.got 8 30 (by kernel_rfl)).1 hB
      have e33 : aa.tmps.getD 33 undef = .bool (eqHd a b) := (hA.got 11 33 (by kernel_rfl)).1 hB
      exact gives hK (v := .bool ((eqHd a b) == (eqHd a b))) (by simp [execOp, Act.eval, e30, e33, binOp, eqGuard, eq_bool, go_sem]) rfl
    · intro aa ww hA K hK
      refine free rfl ?_
      have e27 : aa.tmps.getD 27 undef = .bool (z5) := hA.got 5 27 (by kernel_rfl)
      rcases hq : (z5) with _ | _
      · rw [hq] at e27
        exact gives hK (v := .bool false) (by simp [execOp, Act.eval, e27, asBool, go_sem]) (show Value.bool _ = .bool _ by rw [hq]; simp)
      · have ex : aa.tmps.getD 34 undef = .bool ((eqHd a b) == (eqHd a b)) := (hA.got 12 34 (by kernel_rfl)).1 (by rw [hq]; rfl)
        rw [hq] at e27
        exact gives hK (v := .bool ((eqHd a b) == (eqHd a b))) (by simp [execOp, Act.eval, e27, ex, asBool, go_sem]) (show Value.bool _ = .bool _ by rw [hq]; simp)
    · intro aa ww hA K hK
      refine free rfl ?_
      have e35 : aa.tmps.getD 35 undef = .bool ((z5) && ((eqHd a b) == (eqHd a b))) := hA.got 13 35 (by kernel_rfl)
      exact gives hK rfl (show aa.tmps.getD 35 undef = .bool z14 from by rw [e35, Hz14.out])
    · intro aa ww hA K hK
      refine guarded (s := sv (.agg #[.int .i64 a.zone, .int .i64 a.epoch, .int .i64 a.kind, .int .i64 a.time, .int .i64 a.until_, .int .i64 a.count, .int .i64 a.root, .int .i64 a.prev, .slice aA0 an0 ac0, .int .i64 a.keys.need, .slice aA1 an1 ac1, .int .i64 a.heirs.need, .int .i64 a.wait, .slice aA2 an2 ac2, .int .i64 a.judge.need, .bool a.frozen])) rfl rfl (hA.got 14 36 (by kernel_rfl)) hK fun hB hK => ?_
      have e3 : aa.tmps.getD 3 undef = .pointer (some ⟨W1.heap.size, 0, none⟩) := hA.old 3 (by kernel_rfl)
      have ldHX_7 := LD.ld_run LD.big_Head (HX_7.out.keep (hA.bel.block (W1.heap.size) HX_7.out.lt)) rfl
      exact gives hK (v := .agg #[.int .i64 a.zone, .int .i64 a.epoch, .int .i64 a.kind, .int .i64 a.time, .int .i64 a.until_, .int .i64 a.count, .int .i64 a.root, .int .i64 a.prev, .slice aA0 an0 ac0, .int .i64 a.keys.need, .slice aA1 an1 ac1, .int .i64 a.heirs.need, .int .i64 a.wait, .slice aA2 an2 ac2, .int .i64 a.judge.need, .bool a.frozen]) (by simp only [execOp, Act.eval, e3, ldHX_7, Sem.run_bind, Sem.run_pure, Result.andThen_ok]) rfl
    · intro aa ww hA K hK
      refine guarded (s := sv (.agg #[.int .i64 b.zone, .int .i64 b.epoch, .int .i64 b.kind, .int .i64 b.time, .int .i64 b.until_, .int .i64 b.count, .int .i64 b.root, .int .i64 b.prev, .slice bA0 bn0 bc0, .int .i64 b.keys.need, .slice bA1 bn1 bc1, .int .i64 b.heirs.need, .int .i64 b.wait, .slice bA2 bn2 bc2, .int .i64 b.judge.need, .bool b.frozen])) rfl rfl (hA.got 14 36 (by kernel_rfl)) hK fun hB hK => ?_
      have e4 : aa.tmps.getD 4 undef = .pointer (some ⟨W1.heap.size + 1, 0, none⟩) := hA.old 4 (by kernel_rfl)
      have ldHY_7 := LD.ld_run LD.big_Head (HY_7.out.keep (hA.bel.block (W1.heap.size + 1) HY_7.out.lt)) rfl
      exact gives hK (v := .agg #[.int .i64 b.zone, .int .i64 b.epoch, .int .i64 b.kind, .int .i64 b.time, .int .i64 b.until_, .int .i64 b.count, .int .i64 b.root, .int .i64 b.prev, .slice bA0 bn0 bc0, .int .i64 b.keys.need, .slice bA1 bn1 bc1, .int .i64 b.heirs.need, .int .i64 b.wait, .slice bA2 bn2 bc2, .int .i64 b.judge.need, .bool b.frozen]) (by simp only [execOp, Act.eval, e4, ldHY_7, Sem.run_bind, Sem.run_pure, Result.andThen_ok]) rfl
    · intro aa ww hA K hK
      refine guarded (s := sv (.bool (eqHd a b))) rfl rfl (hA.got 14 36 (by kernel_rfl)) hK fun hB hK => ?_
      have e37 : aa.tmps.getD 37 undef = .agg #[.int .i64 a.zone, .int .i64 a.epoch, .int .i64 a.kind, .int .i64 a.time, .int .i64 a.until_, .int .i64 a.count, .int .i64 a.root, .int .i64 a.prev, .slice aA0 an0 ac0, .int .i64 a.keys.need, .slice aA1 an1 ac1, .int .i64 a.heirs.need, .int .i64 a.wait, .slice aA2 an2 ac2, .int .i64 a.judge.need, .bool a.frozen] := (hA.got 15 37 (by kernel_rfl)).1 hB
      have e38 : aa.tmps.getD 38 undef = .agg #[.int .i64 b.zone, .int .i64 b.epoch, .int .i64 b.kind, .int .i64 b.time, .int .i64 b.until_, .int .i64 b.count, .int .i64 b.root, .int .i64 b.prev, .slice bA0 bn0 bc0, .int .i64 b.keys.need, .slice bA1 bn1 bc1, .int .i64 b.heirs.need, .int .i64 b.wait, .slice bA2 bn2 bc2, .int .i64 b.judge.need, .bool b.frozen] := (hA.got 16 38 (by kernel_rfl)).1 hB
      refine calls hK (by simp [Act.eval, e37, e38, go_sem]) (sEqualHeads_any _ _ a b ww (upH HHA.out (HB_7.out.trans ((RKA.below_drew hA.bel).mono HB_7.out.size))) (upH HHB.out (HB_7.out.trans ((RKA.below_drew hA.bel).mono HB_7.out.size))) hta2 htb2) ?_
      rintro e w1 ⟨rfl, hb⟩
      exact ⟨_, rfl, hb, rfl⟩
    · intro aa ww hA K hK
      refine guarded (s := sv (.bool (!(eqHd a b)))) rfl rfl (hA.got 14 36 (by kernel_rfl)) hK fun hB hK => ?_
      have e39 : aa.tmps.getD 39 undef = .bool (eqHd a b) := (hA.got 17 39 (by kernel_rfl)).1 hB
      exact gives hK (v := .bool (!(eqHd a b))) (by simp [execOp, Act.eval, e39, Op.unary, go_sem]) rfl
    · intro aa ww hA K hK
      refine guarded (s := sv (.bool (z19))) rfl rfl (hA.got 14 36 (by kernel_rfl)) hK fun hB hK => ?_
      have e40 : aa.tmps.getD 40 undef = .bool (!(eqHd a b)) := (hA.got 18 40 (by kernel_rfl)).1 hB
      exact gives hK rfl (show aa.tmps.getD 40 undef = .bool z19 from by rw [e40, Hz19.out])
    · intro aa ww hA K hK
      refine guarded2 (s := sv (.agg #[.int .i64 a.zone, .int .i64 a.epoch, .int .i64 a.kind, .int .i64 a.time, .int .i64 a.until_, .int .i64 a.count, .int .i64 a.root, .int .i64 a.prev, .slice aA0 an0 ac0, .int .i64 a.keys.need, .slice aA1 an1 ac1, .int .i64 a.heirs.need, .int .i64 a.wait, .slice aA2 an2 ac2, .int .i64 a.judge.need, .bool a.frozen])) rfl rfl (hA.got 19 41 (by kernel_rfl)) hK fun hB hK => ?_
      have e3 : aa.tmps.getD 3 undef = .pointer (some ⟨W1.heap.size, 0, none⟩) := hA.old 3 (by kernel_rfl)
      have ldHX_7 := LD.ld_run LD.big_Head (HX_7.out.keep (hA.bel.block (W1.heap.size) HX_7.out.lt)) rfl
      exact gives hK (v := .agg #[.int .i64 a.zone, .int .i64 a.epoch, .int .i64 a.kind, .int .i64 a.time, .int .i64 a.until_, .int .i64 a.count, .int .i64 a.root, .int .i64 a.prev, .slice aA0 an0 ac0, .int .i64 a.keys.need, .slice aA1 an1 ac1, .int .i64 a.heirs.need, .int .i64 a.wait, .slice aA2 an2 ac2, .int .i64 a.judge.need, .bool a.frozen]) (by simp only [execOp, Act.eval, e3, ldHX_7, Sem.run_bind, Sem.run_pure, Result.andThen_ok]) rfl
    · intro aa ww hA K hK
      refine guarded2 (s := sv (.int .i64 (hdDig a))) rfl rfl (hA.got 19 41 (by kernel_rfl)) hK fun hB hK => ?_
      have e42 : aa.tmps.getD 42 undef = .agg #[.int .i64 a.zone, .int .i64 a.epoch, .int .i64 a.kind, .int .i64 a.time, .int .i64 a.until_, .int .i64 a.count, .int .i64 a.root, .int .i64 a.prev, .slice aA0 an0 ac0, .int .i64 a.keys.need, .slice aA1 an1 ac1, .int .i64 a.heirs.need, .int .i64 a.wait, .slice aA2 an2 ac2, .int .i64 a.judge.need, .bool a.frozen] := (hA.got 20 42 (by kernel_rfl)).1 hB
      refine calls hK (by simp [Act.eval, e42, go_sem]) (iHeadDigest_any _ a ww (upH HHA.out (HB_7.out.trans ((RKA.below_drew hA.bel).mono HB_7.out.size))) hta2) ?_
      rintro e w1 ⟨rfl, hb⟩
      exact ⟨_, rfl, hb, rfl⟩
    · intro aa ww hA K hK
      refine guarded2 (s := sv (.agg #[.int .i64 b.zone, .int .i64 b.epoch, .int .i64 b.kind, .int .i64 b.time, .int .i64 b.until_, .int .i64 b.count, .int .i64 b.root, .int .i64 b.prev, .slice bA0 bn0 bc0, .int .i64 b.keys.need, .slice bA1 bn1 bc1, .int .i64 b.heirs.need, .int .i64 b.wait, .slice bA2 bn2 bc2, .int .i64 b.judge.need, .bool b.frozen])) rfl rfl (hA.got 19 41 (by kernel_rfl)) hK fun hB hK => ?_
      have e4 : aa.tmps.getD 4 undef = .pointer (some ⟨W1.heap.size + 1, 0, none⟩) := hA.old 4 (by kernel_rfl)
      have ldHY_7 := LD.ld_run LD.big_Head (HY_7.out.keep (hA.bel.block (W1.heap.size + 1) HY_7.out.lt)) rfl
      exact gives hK (v := .agg #[.int .i64 b.zone, .int .i64 b.epoch, .int .i64 b.kind, .int .i64 b.time, .int .i64 b.until_, .int .i64 b.count, .int .i64 b.root, .int .i64 b.prev, .slice bA0 bn0 bc0, .int .i64 b.keys.need, .slice bA1 bn1 bc1, .int .i64 b.heirs.need, .int .i64 b.wait, .slice bA2 bn2 bc2, .int .i64 b.judge.need, .bool b.frozen]) (by simp only [execOp, Act.eval, e4, ldHY_7, Sem.run_bind, Sem.run_pure, Result.andThen_ok]) rfl
    · intro aa ww hA K hK
      refine guarded2 (s := sv (.int .i64 (hdDig b))) rfl rfl (hA.got 19 41 (by kernel_rfl)) hK fun hB hK => ?_
      have e44 : aa.tmps.getD 44 undef = .agg #[.int .i64 b.zone, .int .i64 b.epoch, .int .i64 b.kind, .int .i64 b.time, .int .i64 b.until_, .int .i64 b.count, .int .i64 b.root, .int .i64 b.prev, .slice bA0 bn0 bc0, .int .i64 b.keys.need, .slice bA1 bn1 bc1, .int .i64 b.heirs.need, .int .i64 b.wait, .slice bA2 bn2 bc2, .int .i64 b.judge.need, .bool b.frozen] := (hA.got 22 44 (by kernel_rfl)).1 hB
      refine calls hK (by simp [Act.eval, e44, go_sem]) (iHeadDigest_any _ b ww (upH HHB.out (HB_7.out.trans ((RKA.below_drew hA.bel).mono HB_7.out.size))) htb2) ?_
      rintro e w1 ⟨rfl, hb⟩
      exact ⟨_, rfl, hb, rfl⟩
    · intro aa ww hA K hK
      refine guarded2 (s := sv (.bool ((hdDig a : Int) == (hdDig b : Int)))) rfl rfl (hA.got 19 41 (by kernel_rfl)) hK fun hB hK => ?_
      have e43 : aa.tmps.getD 43 undef = .int .i64 (hdDig a) := (hA.got 21 43 (by kernel_rfl)).1 hB
      have e45 : aa.tmps.getD 45 undef = .int .i64 (hdDig b) := (hA.got 23 45 (by kernel_rfl)).1 hB
      exact gives hK (v := .bool ((hdDig a : Int) == (hdDig b : Int))) (by simp [execOp, Act.eval, e43, e45, binOp, eqGuard, go_sem]) rfl
    · intro aa ww hA K hK
      refine guarded (s := sv (.bool ((z19) || ((hdDig a : Int) == (hdDig b : Int))))) rfl rfl (hA.got 14 36 (by kernel_rfl)) hK fun hB hK => ?_
      have e41 : aa.tmps.getD 41 undef = .bool (z19) := (hA.got 19 41 (by kernel_rfl)).1 hB
      rcases hq : (z19) with _ | _
      · have ex : aa.tmps.getD 46 undef = .bool ((hdDig a : Int) == (hdDig b : Int)) := (hA.got 24 46 (by kernel_rfl)).1 (and_i hB (by rw [hq]; rfl))
        rw [hq] at e41
        exact gives hK (v := .bool ((hdDig a : Int) == (hdDig b : Int))) (by simp [execOp, Act.eval, e41, ex, asBool, go_sem]) (show Value.bool _ = .bool _ by rw [hq]; simp)
      · rw [hq] at e41
        exact gives hK (v := .bool true) (by simp [execOp, Act.eval, e41, asBool, go_sem]) (show Value.bool _ = .bool _ by rw [hq]; simp)
    · intro aa ww hA K hK
      refine free rfl ?_
      have e36 : aa.tmps.getD 36 undef = .bool (z14) := hA.got 14 36 (by kernel_rfl)
      rcases hq : (z14) with _ | _
      · rw [hq] at e36
        exact gives hK (v := .bool false) (by simp [execOp, Act.eval, e36, asBool, go_sem]) (show Value.bool _ = .bool _ by rw [hq]; simp)
      · have ex : aa.tmps.getD 47 undef = .bool ((z19) || ((hdDig a : Int) == (hdDig b : Int))) := (hA.got 25 47 (by kernel_rfl)).1 (by rw [hq]; rfl)
        rw [hq] at e36
        exact gives hK (v := .bool ((z19) || ((hdDig a : Int) == (hdDig b : Int)))) (by simp [execOp, Act.eval, e36, ex, asBool, go_sem]) (show Value.bool _ = .bool _ by rw [hq]; simp)
    · intro aa ww hA K hK
      refine free rfl ?_
      have e48 : aa.tmps.getD 48 undef = .bool ((z14) && ((z19) || ((hdDig a : Int) == (hdDig b : Int)))) := hA.got 26 48 (by kernel_rfl)
      exact gives hK rfl (show aa.tmps.getD 48 undef = .bool z27 from by rw [e48, Hz27.out])
    · intro aa ww hA K hK
      refine guarded (s := sv (.agg #[.int .i64 a.zone, .int .i64 a.epoch, .int .i64 a.kind, .int .i64 a.time, .int .i64 a.until_, .int .i64 a.count, .int .i64 a.root, .int .i64 a.prev, .slice aA0 an0 ac0, .int .i64 a.keys.need, .slice aA1 an1 ac1, .int .i64 a.heirs.need, .int .i64 a.wait, .slice aA2 an2 ac2, .int .i64 a.judge.need, .bool a.frozen])) rfl rfl (hA.got 27 49 (by kernel_rfl)) hK fun hB hK => ?_
      have e3 : aa.tmps.getD 3 undef = .pointer (some ⟨W1.heap.size, 0, none⟩) := hA.old 3 (by kernel_rfl)
      have ldHX_7 := LD.ld_run LD.big_Head (HX_7.out.keep (hA.bel.block (W1.heap.size) HX_7.out.lt)) rfl
      exact gives hK (v := .agg #[.int .i64 a.zone, .int .i64 a.epoch, .int .i64 a.kind, .int .i64 a.time, .int .i64 a.until_, .int .i64 a.count, .int .i64 a.root, .int .i64 a.prev, .slice aA0 an0 ac0, .int .i64 a.keys.need, .slice aA1 an1 ac1, .int .i64 a.heirs.need, .int .i64 a.wait, .slice aA2 an2 ac2, .int .i64 a.judge.need, .bool a.frozen]) (by simp only [execOp, Act.eval, e3, ldHX_7, Sem.run_bind, Sem.run_pure, Result.andThen_ok]) rfl
    · intro aa ww hA K hK
      refine guarded (s := sv (.int .i64 (hdDig a))) rfl rfl (hA.got 27 49 (by kernel_rfl)) hK fun hB hK => ?_
      have e50 : aa.tmps.getD 50 undef = .agg #[.int .i64 a.zone, .int .i64 a.epoch, .int .i64 a.kind, .int .i64 a.time, .int .i64 a.until_, .int .i64 a.count, .int .i64 a.root, .int .i64 a.prev, .slice aA0 an0 ac0, .int .i64 a.keys.need, .slice aA1 an1 ac1, .int .i64 a.heirs.need, .int .i64 a.wait, .slice aA2 an2 ac2, .int .i64 a.judge.need, .bool a.frozen] := (hA.got 28 50 (by kernel_rfl)).1 hB
      refine calls hK (by simp [Act.eval, e50, go_sem]) (sHeadDigest_any _ a ww (upH HHA.out (HB_7.out.trans ((RKA.below_drew hA.bel).mono HB_7.out.size))) hta2) ?_
      rintro e w1 ⟨rfl, hb⟩
      exact ⟨_, rfl, hb, rfl⟩
    · intro aa ww hA K hK
      refine guarded (s := sv (.agg #[.int .i64 b.zone, .int .i64 b.epoch, .int .i64 b.kind, .int .i64 b.time, .int .i64 b.until_, .int .i64 b.count, .int .i64 b.root, .int .i64 b.prev, .slice bA0 bn0 bc0, .int .i64 b.keys.need, .slice bA1 bn1 bc1, .int .i64 b.heirs.need, .int .i64 b.wait, .slice bA2 bn2 bc2, .int .i64 b.judge.need, .bool b.frozen])) rfl rfl (hA.got 27 49 (by kernel_rfl)) hK fun hB hK => ?_
      have e4 : aa.tmps.getD 4 undef = .pointer (some ⟨W1.heap.size + 1, 0, none⟩) := hA.old 4 (by kernel_rfl)
      have ldHY_7 := LD.ld_run LD.big_Head (HY_7.out.keep (hA.bel.block (W1.heap.size + 1) HY_7.out.lt)) rfl
      exact gives hK (v := .agg #[.int .i64 b.zone, .int .i64 b.epoch, .int .i64 b.kind, .int .i64 b.time, .int .i64 b.until_, .int .i64 b.count, .int .i64 b.root, .int .i64 b.prev, .slice bA0 bn0 bc0, .int .i64 b.keys.need, .slice bA1 bn1 bc1, .int .i64 b.heirs.need, .int .i64 b.wait, .slice bA2 bn2 bc2, .int .i64 b.judge.need, .bool b.frozen]) (by simp only [execOp, Act.eval, e4, ldHY_7, Sem.run_bind, Sem.run_pure, Result.andThen_ok]) rfl
    · intro aa ww hA K hK
      refine guarded (s := sv (.int .i64 (hdDig b))) rfl rfl (hA.got 27 49 (by kernel_rfl)) hK fun hB hK => ?_
      have e52 : aa.tmps.getD 52 undef = .agg #[.int .i64 b.zone, .int .i64 b.epoch, .int .i64 b.kind, .int .i64 b.time, .int .i64 b.until_, .int .i64 b.count, .int .i64 b.root, .int .i64 b.prev, .slice bA0 bn0 bc0, .int .i64 b.keys.need, .slice bA1 bn1 bc1, .int .i64 b.heirs.need, .int .i64 b.wait, .slice bA2 bn2 bc2, .int .i64 b.judge.need, .bool b.frozen] := (hA.got 30 52 (by kernel_rfl)).1 hB
      refine calls hK (by simp [Act.eval, e52, go_sem]) (sHeadDigest_any _ b ww (upH HHB.out (HB_7.out.trans ((RKA.below_drew hA.bel).mono HB_7.out.size))) htb2) ?_
      rintro e w1 ⟨rfl, hb⟩
      exact ⟨_, rfl, hb, rfl⟩
    · intro aa ww hA K hK
      refine guarded (s := sv (.bool ((hdDig a : Int) == (hdDig b : Int)))) rfl rfl (hA.got 27 49 (by kernel_rfl)) hK fun hB hK => ?_
      have e51 : aa.tmps.getD 51 undef = .int .i64 (hdDig a) := (hA.got 29 51 (by kernel_rfl)).1 hB
      have e53 : aa.tmps.getD 53 undef = .int .i64 (hdDig b) := (hA.got 31 53 (by kernel_rfl)).1 hB
      exact gives hK (v := .bool ((hdDig a : Int) == (hdDig b : Int))) (by simp [execOp, Act.eval, e51, e53, binOp, eqGuard, go_sem]) rfl
    · intro aa ww hA K hK
      refine guarded (s := sv (.bool (z33))) rfl rfl (hA.got 27 49 (by kernel_rfl)) hK fun hB hK => ?_
      have e54 : aa.tmps.getD 54 undef = .bool ((hdDig a : Int) == (hdDig b : Int)) := (hA.got 32 54 (by kernel_rfl)).1 hB
      exact gives hK rfl (show aa.tmps.getD 54 undef = .bool z33 from by rw [e54, Hz33.out])
    · intro aa ww hA K hK
      refine guarded2 (s := sv (.agg #[.int .i64 a.zone, .int .i64 a.epoch, .int .i64 a.kind, .int .i64 a.time, .int .i64 a.until_, .int .i64 a.count, .int .i64 a.root, .int .i64 a.prev, .slice aA0 an0 ac0, .int .i64 a.keys.need, .slice aA1 an1 ac1, .int .i64 a.heirs.need, .int .i64 a.wait, .slice aA2 an2 ac2, .int .i64 a.judge.need, .bool a.frozen])) rfl rfl (hA.got 33 55 (by kernel_rfl)) hK fun hB hK => ?_
      have e3 : aa.tmps.getD 3 undef = .pointer (some ⟨W1.heap.size, 0, none⟩) := hA.old 3 (by kernel_rfl)
      have ldHX_7 := LD.ld_run LD.big_Head (HX_7.out.keep (hA.bel.block (W1.heap.size) HX_7.out.lt)) rfl
      exact gives hK (v := .agg #[.int .i64 a.zone, .int .i64 a.epoch, .int .i64 a.kind, .int .i64 a.time, .int .i64 a.until_, .int .i64 a.count, .int .i64 a.root, .int .i64 a.prev, .slice aA0 an0 ac0, .int .i64 a.keys.need, .slice aA1 an1 ac1, .int .i64 a.heirs.need, .int .i64 a.wait, .slice aA2 an2 ac2, .int .i64 a.judge.need, .bool a.frozen]) (by simp only [execOp, Act.eval, e3, ldHX_7, Sem.run_bind, Sem.run_pure, Result.andThen_ok]) rfl
    · intro aa ww hA K hK
      refine guarded2 (s := sv (.int .i64 (hdDig a))) rfl rfl (hA.got 33 55 (by kernel_rfl)) hK fun hB hK => ?_
      have e56 : aa.tmps.getD 56 undef = .agg #[.int .i64 a.zone, .int .i64 a.epoch, .int .i64 a.kind, .int .i64 a.time, .int .i64 a.until_, .int .i64 a.count, .int .i64 a.root, .int .i64 a.prev, .slice aA0 an0 ac0, .int .i64 a.keys.need, .slice aA1 an1 ac1, .int .i64 a.heirs.need, .int .i64 a.wait, .slice aA2 an2 ac2, .int .i64 a.judge.need, .bool a.frozen] := (hA.got 34 56 (by kernel_rfl)).1 hB
      refine calls hK (by simp [Act.eval, e56, go_sem]) (iHeadDigest_any _ a ww (upH HHA.out (HB_7.out.trans ((RKA.below_drew hA.bel).mono HB_7.out.size))) hta2) ?_
      rintro e w1 ⟨rfl, hb⟩
      exact ⟨_, rfl, hb, rfl⟩
    · intro aa ww hA K hK
      refine guarded2 (s := sv (.agg #[.int .i64 b.zone, .int .i64 b.epoch, .int .i64 b.kind, .int .i64 b.time, .int .i64 b.until_, .int .i64 b.count, .int .i64 b.root, .int .i64 b.prev, .slice bA0 bn0 bc0, .int .i64 b.keys.need, .slice bA1 bn1 bc1, .int .i64 b.heirs.need, .int .i64 b.wait, .slice bA2 bn2 bc2, .int .i64 b.judge.need, .bool b.frozen])) rfl rfl (hA.got 33 55 (by kernel_rfl)) hK fun hB hK => ?_
      have e4 : aa.tmps.getD 4 undef = .pointer (some ⟨W1.heap.size + 1, 0, none⟩) := hA.old 4 (by kernel_rfl)
      have ldHY_7 := LD.ld_run LD.big_Head (HY_7.out.keep (hA.bel.block (W1.heap.size + 1) HY_7.out.lt)) rfl
      exact gives hK (v := .agg #[.int .i64 b.zone, .int .i64 b.epoch, .int .i64 b.kind, .int .i64 b.time, .int .i64 b.until_, .int .i64 b.count, .int .i64 b.root, .int .i64 b.prev, .slice bA0 bn0 bc0, .int .i64 b.keys.need, .slice bA1 bn1 bc1, .int .i64 b.heirs.need, .int .i64 b.wait, .slice bA2 bn2 bc2, .int .i64 b.judge.need, .bool b.frozen]) (by simp only [execOp, Act.eval, e4, ldHY_7, Sem.run_bind, Sem.run_pure, Result.andThen_ok]) rfl
    · intro aa ww hA K hK
      refine guarded2 (s := sv (.int .i64 (hdDig b))) rfl rfl (hA.got 33 55 (by kernel_rfl)) hK fun hB hK => ?_
      have e58 : aa.tmps.getD 58 undef = .agg #[.int .i64 b.zone, .int .i64 b.epoch, .int .i64 b.kind, .int .i64 b.time, .int .i64 b.until_, .int .i64 b.count, .int .i64 b.root, .int .i64 b.prev, .slice bA0 bn0 bc0, .int .i64 b.keys.need, .slice bA1 bn1 bc1, .int .i64 b.heirs.need, .int .i64 b.wait, .slice bA2 bn2 bc2, .int .i64 b.judge.need, .bool b.frozen] := (hA.got 36 58 (by kernel_rfl)).1 hB
      refine calls hK (by simp [Act.eval, e58, go_sem]) (iHeadDigest_any _ b ww (upH HHB.out (HB_7.out.trans ((RKA.below_drew hA.bel).mono HB_7.out.size))) htb2) ?_
      rintro e w1 ⟨rfl, hb⟩
      exact ⟨_, rfl, hb, rfl⟩
    · intro aa ww hA K hK
      refine guarded2 (s := sv (.bool ((hdDig a : Int) != (hdDig b : Int)))) rfl rfl (hA.got 33 55 (by kernel_rfl)) hK fun hB hK => ?_
      have e57 : aa.tmps.getD 57 undef = .int .i64 (hdDig a) := (hA.got 35 57 (by kernel_rfl)).1 hB
      have e59 : aa.tmps.getD 59 undef = .int .i64 (hdDig b) := (hA.got 37 59 (by kernel_rfl)).1 hB
      exact gives hK (v := .bool ((hdDig a : Int) != (hdDig b : Int))) (by simp [execOp, Act.eval, e57, e59, binOp, eqGuard, go_sem]) rfl
    · intro aa ww hA K hK
      refine guarded (s := sv (.bool ((z33) || ((hdDig a : Int) != (hdDig b : Int))))) rfl rfl (hA.got 27 49 (by kernel_rfl)) hK fun hB hK => ?_
      have e55 : aa.tmps.getD 55 undef = .bool (z33) := (hA.got 33 55 (by kernel_rfl)).1 hB
      rcases hq : (z33) with _ | _
      · have ex : aa.tmps.getD 60 undef = .bool ((hdDig a : Int) != (hdDig b : Int)) := (hA.got 38 60 (by kernel_rfl)).1 (and_i hB (by rw [hq]; rfl))
        rw [hq] at e55
        exact gives hK (v := .bool ((hdDig a : Int) != (hdDig b : Int))) (by simp [execOp, Act.eval, e55, ex, asBool, go_sem]) (show Value.bool _ = .bool _ by rw [hq]; simp)
      · rw [hq] at e55
        exact gives hK (v := .bool true) (by simp [execOp, Act.eval, e55, asBool, go_sem]) (show Value.bool _ = .bool _ by rw [hq]; simp)
    · intro aa ww hA K hK
      refine free rfl ?_
      have e49 : aa.tmps.getD 49 undef = .bool (z27) := hA.got 27 49 (by kernel_rfl)
      rcases hq : (z27) with _ | _
      · rw [hq] at e49
        exact gives hK (v := .bool false) (by simp [execOp, Act.eval, e49, asBool, go_sem]) (show Value.bool _ = .bool _ by rw [hq]; simp)
      · have ex : aa.tmps.getD 61 undef = .bool ((z33) || ((hdDig a : Int) != (hdDig b : Int))) := (hA.got 39 61 (by kernel_rfl)).1 (by rw [hq]; rfl)
        rw [hq] at e49
        exact gives hK (v := .bool ((z33) || ((hdDig a : Int) != (hdDig b : Int)))) (by simp [execOp, Act.eval, e49, ex, asBool, go_sem]) (show Value.bool _ = .bool _ by rw [hq]; simp)
    · intro aa ww hA K hK
      refine free rfl ?_
      have e62 : aa.tmps.getD 62 undef = .bool ((z27) && ((z33) || ((hdDig a : Int) != (hdDig b : Int)))) := hA.got 40 62 (by kernel_rfl)
      exact gives hK rfl (show aa.tmps.getD 62 undef = .bool z41 from by rw [e62, Hz41.out])
    · intro aa ww hA K hK
      refine guarded (s := sv (.agg #[.int .i64 h.zone, .int .i64 h.epoch, .int .i64 h.kind, .int .i64 h.time, .int .i64 h.until_, .int .i64 h.count, .int .i64 h.root, .int .i64 h.prev, .slice hA0 hn0 hc0, .int .i64 h.keys.need, .slice hA1 hn1 hc1, .int .i64 h.heirs.need, .int .i64 h.wait, .slice hA2 hn2 hc2, .int .i64 h.judge.need, .bool h.frozen])) rfl rfl (hA.got 41 63 (by kernel_rfl)) hK fun hB hK => ?_
      have e5 : aa.tmps.getD 5 undef = .pointer (some ⟨W5.heap.size, 0, none⟩) := hA.old 5 (by kernel_rfl)
      have ldHZ_7 := LD.ld_run LD.big_Head (HZ_7.out.keep (hA.bel.block (W5.heap.size) HZ_7.out.lt)) rfl
      exact gives hK (v := .agg #[.int .i64 h.zone, .int .i64 h.epoch, .int .i64 h.kind, .int .i64 h.time, .int .i64 h.until_, .int .i64 h.count, .int .i64 h.root, .int .i64 h.prev, .slice hA0 hn0 hc0, .int .i64 h.keys.need, .slice hA1 hn1 hc1, .int .i64 h.heirs.need, .int .i64 h.wait, .slice hA2 hn2 hc2, .int .i64 h.judge.need, .bool h.frozen]) (by simp only [execOp, Act.eval, e5, ldHZ_7, Sem.run_bind, Sem.run_pure, Result.andThen_ok]) rfl
    · intro aa ww hA K hK
      refine guarded (s := sv (.int .i64 (now))) rfl rfl (hA.got 41 63 (by kernel_rfl)) hK fun hB hK => ?_
      exact gives hK rfl (hA.old 6 (by kernel_rfl))
    · intro aa ww hA K hK
      refine guarded (s := sv (.bool (decide (h.time ≤ now) && decide (now ≤ h.until_)))) rfl rfl (hA.got 41 63 (by kernel_rfl)) hK fun hB hK => ?_
      have e64 : aa.tmps.getD 64 undef = .agg #[.int .i64 h.zone, .int .i64 h.epoch, .int .i64 h.kind, .int .i64 h.time, .int .i64 h.until_, .int .i64 h.count, .int .i64 h.root, .int .i64 h.prev, .slice hA0 hn0 hc0, .int .i64 h.keys.need, .slice hA1 hn1 hc1, .int .i64 h.heirs.need, .int .i64 h.wait, .slice hA2 hn2 hc2, .int .i64 h.judge.need, .bool h.frozen] := (hA.got 42 64 (by kernel_rfl)).1 hB
      have e65 : aa.tmps.getD 65 undef = .int .i64 (now) := (hA.got 43 65 (by kernel_rfl)).1 hB
      have hfr := iIsFresh_any _ h now ww (upH HHH.out (HE_7.out.trans ((RKA.below_drew hA.bel).mono HE_7.out.size)))
      rw [fresh_eq] at hfr
      refine calls hK (by simp [Act.eval, e64, e65, go_sem]) (hfr) ?_
      rintro e w1 ⟨rfl, hb⟩
      exact ⟨_, rfl, hb, rfl⟩
    · intro aa ww hA K hK
      refine guarded (s := sv (.pointer (some ⟨W5.heap.size, 3, none⟩))) rfl rfl (hA.got 41 63 (by kernel_rfl)) hK fun hB hK => ?_
      have e5 : aa.tmps.getD 5 undef = .pointer (some ⟨W5.heap.size, 0, none⟩) := hA.old 5 (by kernel_rfl)
      exact gives hK (v := .pointer (some ⟨W5.heap.size, 3, none⟩)) (by simp [execOp, Act.eval, e5, go_sem]) rfl
    · intro aa ww hA K hK
      refine guarded (s := sv (.int .i64 (h.time))) rfl rfl (hA.got 41 63 (by kernel_rfl)) hK fun hB hK => ?_
      have e67 : aa.tmps.getD 67 undef = .pointer (some ⟨W5.heap.size, 3, none⟩) := (hA.got 45 67 (by kernel_rfl)).1 hB
      have cqHZ_73 := (hA.bel.cell (p := ⟨W5.heap.size, 3, none⟩) HZ_7.out.lt).trans (HZ_7.out.cell (j := 3) rfl)
      exact gives hK (v := .int .i64 h.time) (by simp [execOp, Act.eval, e67, cqHZ_73, go_sem]) rfl
    · intro aa ww hA K hK
      refine guarded (s := sv (.int .i64 (now))) rfl rfl (hA.got 41 63 (by kernel_rfl)) hK fun hB hK => ?_
      exact gives hK rfl (hA.old 6 (by kernel_rfl))
    · intro aa ww hA K hK
      refine guarded (s := sv (.bool (decide ((h.time : Int) ≤ (now : Int))))) rfl rfl (hA.got 41 63 (by kernel_rfl)) hK fun hB hK => ?_
      have e68 : aa.tmps.getD 68 undef = .int .i64 (h.time) := (hA.got 46 68 (by kernel_rfl)).1 hB
      have e69 : aa.tmps.getD 69 undef = .int .i64 (now) := (hA.got 47 69 (by kernel_rfl)).1 hB
      exact gives hK (v := .bool (decide ((h.time : Int) ≤ (now : Int)))) (by simp [execOp, Act.eval, e68, e69, binOp, eqGuard, go_sem]) rfl
    · intro aa ww hA K hK
      refine guarded (s := sv (.bool (z49))) rfl rfl (hA.got 41 63 (by kernel_rfl)) hK fun hB hK => ?_
      have e70 : aa.tmps.getD 70 undef = .bool (decide ((h.time : Int) ≤ (now : Int))) := (hA.got 48 70 (by kernel_rfl)).1 hB
      exact gives hK rfl (show aa.tmps.getD 70 undef = .bool z49 from by rw [e70, Hz49.out])
    · intro aa ww hA K hK
      refine guarded2 (s := sv (.int .i64 (now))) rfl rfl (hA.got 49 71 (by kernel_rfl)) hK fun hB hK => ?_
      exact gives hK rfl (hA.old 6 (by kernel_rfl))
    · intro aa ww hA K hK
      refine guarded2 (s := sv (.pointer (some ⟨W5.heap.size, 4, none⟩))) rfl rfl (hA.got 49 71 (by kernel_rfl)) hK fun hB hK => ?_
      have e5 : aa.tmps.getD 5 undef = .pointer (some ⟨W5.heap.size, 0, none⟩) := hA.old 5 (by kernel_rfl)
      exact gives hK (v := .pointer (some ⟨W5.heap.size, 4, none⟩)) (by simp [execOp, Act.eval, e5, go_sem]) rfl
    · intro aa ww hA K hK
      refine guarded2 (s := sv (.int .i64 (h.until_))) rfl rfl (hA.got 49 71 (by kernel_rfl)) hK fun hB hK => ?_
      have e73 : aa.tmps.getD 73 undef = .pointer (some ⟨W5.heap.size, 4, none⟩) := (hA.got 51 73 (by kernel_rfl)).1 hB
      have cqHZ_74 := (hA.bel.cell (p := ⟨W5.heap.size, 4, none⟩) HZ_7.out.lt).trans (HZ_7.out.cell (j := 4) rfl)
      exact gives hK (v := .int .i64 h.until_) (by simp [execOp, Act.eval, e73, cqHZ_74, go_sem]) rfl
    · intro aa ww hA K hK
      refine guarded2 (s := sv (.bool (decide ((now : Int) ≤ (h.until_ : Int))))) rfl rfl (hA.got 49 71 (by kernel_rfl)) hK fun hB hK => ?_
      have e72 : aa.tmps.getD 72 undef = .int .i64 (now) := (hA.got 50 72 (by kernel_rfl)).1 hB
      have e74 : aa.tmps.getD 74 undef = .int .i64 (h.until_) := (hA.got 52 74 (by kernel_rfl)).1 hB
      exact gives hK (v := .bool (decide ((now : Int) ≤ (h.until_ : Int)))) (by simp [execOp, Act.eval, e72, e74, binOp, eqGuard, go_sem]) rfl
    · intro aa ww hA K hK
      refine guarded (s := sv (.bool ((z49) && (decide ((now : Int) ≤ (h.until_ : Int)))))) rfl rfl (hA.got 41 63 (by kernel_rfl)) hK fun hB hK => ?_
      have e71 : aa.tmps.getD 71 undef = .bool (z49) := (hA.got 49 71 (by kernel_rfl)).1 hB
      rcases hq : (z49) with _ | _
      · rw [hq] at e71
        exact gives hK (v := .bool false) (by simp [execOp, Act.eval, e71, asBool, go_sem]) (show Value.bool _ = .bool _ by rw [hq]; simp)
      · have ex : aa.tmps.getD 75 undef = .bool (decide ((now : Int) ≤ (h.until_ : Int))) := (hA.got 53 75 (by kernel_rfl)).1 (and_i hB (by rw [hq]; rfl))
        rw [hq] at e71
        exact gives hK (v := .bool (decide ((now : Int) ≤ (h.until_ : Int)))) (by simp [execOp, Act.eval, e71, ex, asBool, go_sem]) (show Value.bool _ = .bool _ by rw [hq]; simp)
    · intro aa ww hA K hK
      refine guarded (s := sv (.bool ((decide (h.time ≤ now) && decide (now ≤ h.until_)) == ((z49) && (decide ((now : Int) ≤ (h.until_ : Int))))))) rfl rfl (hA.got 41 63 (by kernel_rfl)) hK fun hB hK => ?_
      have e66 : aa.tmps.getD 66 undef = .bool (decide (h.time ≤ now) && decide (now ≤ h.until_)) := (hA.got 44 66 (by kernel_rfl)).1 hB
      have e76 : aa.tmps.getD 76 undef = .bool ((z49) && (decide ((now : Int) ≤ (h.until_ : Int)))) := (hA.got 54 76 (by kernel_rfl)).1 hB
      exact gives hK (v := .bool ((decide (h.time ≤ now) && decide (now ≤ h.until_)) == ((z49) && (decide ((now : Int) ≤ (h.until_ : Int)))))) (by simp [execOp, Act.eval, e66, e76, binOp, eqGuard, eq_bool, go_sem]) rfl
    · intro aa ww hA K hK
      refine free rfl ?_
      have e63 : aa.tmps.getD 63 undef = .bool (z41) := hA.got 41 63 (by kernel_rfl)
      rcases hq : (z41) with _ | _
      · rw [hq] at e63
        exact gives hK (v := .bool false) (by simp [execOp, Act.eval, e63, asBool, go_sem]) (show Value.bool _ = .bool _ by rw [hq]; simp)
      · have ex : aa.tmps.getD 77 undef = .bool ((decide (h.time ≤ now) && decide (now ≤ h.until_)) == ((z49) && (decide ((now : Int) ≤ (h.until_ : Int))))) := (hA.got 55 77 (by kernel_rfl)).1 (by rw [hq]; rfl)
        rw [hq] at e63
        exact gives hK (v := .bool ((decide (h.time ≤ now) && decide (now ≤ h.until_)) == ((z49) && (decide ((now : Int) ≤ (h.until_ : Int)))))) (by simp [execOp, Act.eval, e63, ex, asBool, go_sem]) (show Value.bool _ = .bool _ by rw [hq]; simp)
    · intro aa ww hA K hK
      refine free rfl ?_
      have e78 : aa.tmps.getD 78 undef = .bool ((z41) && ((decide (h.time ≤ now) && decide (now ≤ h.until_)) == ((z49) && (decide ((now : Int) ≤ (h.until_ : Int)))))) := hA.got 56 78 (by kernel_rfl)
      exact gives hK rfl (show aa.tmps.getD 78 undef = .bool z57 from by rw [e78, Hz57.out])
    · intro aa ww hA K hK
      refine guarded (s := sv (.agg #[.slice kA kn kc, .int .i64 q.need])) rfl rfl (hA.got 57 79 (by kernel_rfl)) hK fun hB hK => ?_
      have e7 : aa.tmps.getD 7 undef = .pointer (some ⟨W7.heap.size, 0, none⟩) := hA.old 7 (by kernel_rfl)
      have cqHQ_70 := (hA.bel.cell (p := ⟨W7.heap.size, 0, none⟩) HQ_7.out.lt).trans (HQ_7.out.cell (j := 0) rfl)
      have cqHQ_71 := (hA.bel.cell (p := ⟨W7.heap.size, 1, none⟩) HQ_7.out.lt).trans (HQ_7.out.cell (j := 1) rfl)
      exact gives hK (v := .agg #[.slice kA kn kc, .int .i64 q.need]) (by simp [execOp, Act.eval, e7, cqHQ_70, cqHQ_71, go_sem]) rfl
    · intro aa ww hA K hK
      refine guarded (s := sv (.bool (((q.need : Int) == (0 : Int)) && (((kn : Int) : Int) == (0 : Int))))) rfl rfl (hA.got 57 79 (by kernel_rfl)) hK fun hB hK => ?_
      have e80 : aa.tmps.getD 80 undef = .agg #[.slice kA kn kc, .int .i64 q.need] := (hA.got 58 80 (by kernel_rfl)).1 hB
      have hnk := iNoKeys_any _ q ww (upK HHQ.out (HF_7.out.trans ((RKA.below_drew hA.bel).mono HF_7.out.size)))
      rw [noK_nat q kn HQL.out] at hnk
      refine calls hK (by simp [Act.eval, e80, go_sem]) (hnk) ?_
      rintro e w1 ⟨rfl, hb⟩
      exact ⟨_, rfl, hb, rfl⟩
    · intro aa ww hA K hK
      refine guarded (s := sv (.pointer (some ⟨W7.heap.size, 1, none⟩))) rfl rfl (hA.got 57 79 (by kernel_rfl)) hK fun hB hK => ?_
      have e7 : aa.tmps.getD 7 undef = .pointer (some ⟨W7.heap.size, 0, none⟩) := hA.old 7 (by kernel_rfl)
      exact gives hK (v := .pointer (some ⟨W7.heap.size, 1, none⟩)) (by simp [execOp, Act.eval, e7, go_sem]) rfl
    · intro aa ww hA K hK
      refine guarded (s := sv (.int .i64 (q.need))) rfl rfl (hA.got 57 79 (by kernel_rfl)) hK fun hB hK => ?_
      have e82 : aa.tmps.getD 82 undef = .pointer (some ⟨W7.heap.size, 1, none⟩) := (hA.got 60 82 (by kernel_rfl)).1 hB
      have cqHQ_71 := (hA.bel.cell (p := ⟨W7.heap.size, 1, none⟩) HQ_7.out.lt).trans (HQ_7.out.cell (j := 1) rfl)
      exact gives hK (v := .int .i64 q.need) (by simp [execOp, Act.eval, e82, cqHQ_71, go_sem]) rfl
    · intro aa ww hA K hK
      refine guarded (s := sv (.bool ((q.need : Int) == (0 : Int)))) rfl rfl (hA.got 57 79 (by kernel_rfl)) hK fun hB hK => ?_
      have e83 : aa.tmps.getD 83 undef = .int .i64 (q.need) := (hA.got 61 83 (by kernel_rfl)).1 hB
      exact gives hK (v := .bool ((q.need : Int) == (0 : Int))) (by simp [execOp, Act.eval, e83, binOp, eqGuard, go_sem]) rfl
    · intro aa ww hA K hK
      refine guarded (s := sv (.bool (z63))) rfl rfl (hA.got 57 79 (by kernel_rfl)) hK fun hB hK => ?_
      have e84 : aa.tmps.getD 84 undef = .bool ((q.need : Int) == (0 : Int)) := (hA.got 62 84 (by kernel_rfl)).1 hB
      exact gives hK rfl (show aa.tmps.getD 84 undef = .bool z63 from by rw [e84, Hz63.out])
    · intro aa ww hA K hK
      refine guarded2 (s := sv (.pointer (some ⟨W7.heap.size, 0, none⟩))) rfl rfl (hA.got 63 85 (by kernel_rfl)) hK fun hB hK => ?_
      have e7 : aa.tmps.getD 7 undef = .pointer (some ⟨W7.heap.size, 0, none⟩) := hA.old 7 (by kernel_rfl)
      exact gives hK (v := .pointer (some ⟨W7.heap.size, 0, none⟩)) (by simp [execOp, Act.eval, e7, go_sem]) rfl
    · intro aa ww hA K hK
      refine guarded2 (s := sv (.slice kA kn kc)) rfl rfl (hA.got 63 85 (by kernel_rfl)) hK fun hB hK => ?_
      have e86 : aa.tmps.getD 86 undef = .pointer (some ⟨W7.heap.size, 0, none⟩) := (hA.got 64 86 (by kernel_rfl)).1 hB
      have cqs := (hA.bel.cell (p := ⟨W7.heap.size, 0, none⟩) HQ_7.out.lt).trans (HQ_7.out.cell (j := 0) rfl)
      exact gives hK (v := .slice kA kn kc) (by simp [execOp, Act.eval, e86, cqs, go_sem]) rfl
    · intro aa ww hA K hK
      refine guarded2 (s := sv (.int .i64 ((kn : Int)))) rfl rfl (hA.got 63 85 (by kernel_rfl)) hK fun hB hK => ?_
      have e87 : aa.tmps.getD 87 undef = .slice kA kn kc := (hA.got 65 87 (by kernel_rfl)).1 hB
      exact gives hK (v := .int .i64 ((kn : Int))) (by simp [Act.eval, e87, go_sem]) rfl
    · intro aa ww hA K hK
      refine guarded2 (s := sv (.bool (((kn : Int) : Int) == (0 : Int)))) rfl rfl (hA.got 63 85 (by kernel_rfl)) hK fun hB hK => ?_
      have e88 : aa.tmps.getD 88 undef = .int .i64 ((kn : Int)) := (hA.got 66 88 (by kernel_rfl)).1 hB
      exact gives hK (v := .bool (((kn : Int) : Int) == (0 : Int))) (by simp [execOp, Act.eval, e88, binOp, eqGuard, go_sem]) rfl
    · intro aa ww hA K hK
      refine guarded (s := sv (.bool ((z63) && (((kn : Int) : Int) == (0 : Int))))) rfl rfl (hA.got 57 79 (by kernel_rfl)) hK fun hB hK => ?_
      have e85 : aa.tmps.getD 85 undef = .bool (z63) := (hA.got 63 85 (by kernel_rfl)).1 hB
      rcases hq : (z63) with _ | _
      · rw [hq] at e85
        exact gives hK (v := .bool false) (by simp [execOp, Act.eval, e85, asBool, go_sem]) (show Value.bool _ = .bool _ by rw [hq]; simp)
      · have ex : aa.tmps.getD 89 undef = .bool (((kn : Int) : Int) == (0 : Int)) := (hA.got 67 89 (by kernel_rfl)).1 (and_i hB (by rw [hq]; rfl))
        rw [hq] at e85
        exact gives hK (v := .bool (((kn : Int) : Int) == (0 : Int))) (by simp [execOp, Act.eval, e85, ex, asBool, go_sem]) (show Value.bool _ = .bool _ by rw [hq]; simp)
    · intro aa ww hA K hK
      refine guarded (s := sv (.bool ((((q.need : Int) == (0 : Int)) && (((kn : Int) : Int) == (0 : Int))) == ((z63) && (((kn : Int) : Int) == (0 : Int)))))) rfl rfl (hA.got 57 79 (by kernel_rfl)) hK fun hB hK => ?_
      have e81 : aa.tmps.getD 81 undef = .bool (((q.need : Int) == (0 : Int)) && (((kn : Int) : Int) == (0 : Int))) := (hA.got 59 81 (by kernel_rfl)).1 hB
      have e90 : aa.tmps.getD 90 undef = .bool ((z63) && (((kn : Int) : Int) == (0 : Int))) := (hA.got 68 90 (by kernel_rfl)).1 hB
      exact gives hK (v := .bool ((((q.need : Int) == (0 : Int)) && (((kn : Int) : Int) == (0 : Int))) == ((z63) && (((kn : Int) : Int) == (0 : Int))))) (by simp [execOp, Act.eval, e81, e90, binOp, eqGuard, eq_bool, go_sem]) rfl
    · intro aa ww hA K hK
      refine free rfl ?_
      have e79 : aa.tmps.getD 79 undef = .bool (z57) := hA.got 57 79 (by kernel_rfl)
      rcases hq : (z57) with _ | _
      · rw [hq] at e79
        exact gives hK (v := .bool false) (by simp [execOp, Act.eval, e79, asBool, go_sem]) (show Value.bool _ = .bool _ by rw [hq]; simp)
      · have ex : aa.tmps.getD 91 undef = .bool ((((q.need : Int) == (0 : Int)) && (((kn : Int) : Int) == (0 : Int))) == ((z63) && (((kn : Int) : Int) == (0 : Int)))) := (hA.got 69 91 (by kernel_rfl)).1 (by rw [hq]; rfl)
        rw [hq] at e79
        exact gives hK (v := .bool ((((q.need : Int) == (0 : Int)) && (((kn : Int) : Int) == (0 : Int))) == ((z63) && (((kn : Int) : Int) == (0 : Int))))) (by simp [execOp, Act.eval, e79, ex, asBool, go_sem]) (show Value.bool _ = .bool _ by rw [hq]; simp)
    · intro aa ww hA K hK
      refine free rfl ?_
      have e92 : aa.tmps.getD 92 undef = .bool ((z57) && ((((q.need : Int) == (0 : Int)) && (((kn : Int) : Int) == (0 : Int))) == ((z63) && (((kn : Int) : Int) == (0 : Int))))) := hA.got 70 92 (by kernel_rfl)
      exact gives hK rfl (show aa.tmps.getD 92 undef = .bool z71 from by rw [e92, Hz71.out])
    · intro aa ww hA K hK
      refine guarded (s := sv (.agg #[.int .i64 a.zone, .int .i64 a.epoch, .int .i64 a.kind, .int .i64 a.time, .int .i64 a.until_, .int .i64 a.count, .int .i64 a.root, .int .i64 a.prev, .slice aA0 an0 ac0, .int .i64 a.keys.need, .slice aA1 an1 ac1, .int .i64 a.heirs.need, .int .i64 a.wait, .slice aA2 an2 ac2, .int .i64 a.judge.need, .bool a.frozen])) rfl rfl (hA.got 71 93 (by kernel_rfl)) hK fun hB hK => ?_
      have e3 : aa.tmps.getD 3 undef = .pointer (some ⟨W1.heap.size, 0, none⟩) := hA.old 3 (by kernel_rfl)
      have ldHX_7 := LD.ld_run LD.big_Head (HX_7.out.keep (hA.bel.block (W1.heap.size) HX_7.out.lt)) rfl
      exact gives hK (v := .agg #[.int .i64 a.zone, .int .i64 a.epoch, .int .i64 a.kind, .int .i64 a.time, .int .i64 a.until_, .int .i64 a.count, .int .i64 a.root, .int .i64 a.prev, .slice aA0 an0 ac0, .int .i64 a.keys.need, .slice aA1 an1 ac1, .int .i64 a.heirs.need, .int .i64 a.wait, .slice aA2 an2 ac2, .int .i64 a.judge.need, .bool a.frozen]) (by simp only [execOp, Act.eval, e3, ldHX_7, Sem.run_bind, Sem.run_pure, Result.andThen_ok]) rfl
    · intro aa ww hA K hK
      refine guarded (s := snums .i64 (headInts a)) rfl rfl (hA.got 71 93 (by kernel_rfl)) hK fun hB hK => ?_
      have e94 : aa.tmps.getD 94 undef = .agg #[.int .i64 a.zone, .int .i64 a.epoch, .int .i64 a.kind, .int .i64 a.time, .int .i64 a.until_, .int .i64 a.count, .int .i64 a.root, .int .i64 a.prev, .slice aA0 an0 ac0, .int .i64 a.keys.need, .slice aA1 an1 ac1, .int .i64 a.heirs.need, .int .i64 a.wait, .slice aA2 an2 ac2, .int .i64 a.judge.need, .bool a.frozen] := (hA.got 72 94 (by kernel_rfl)).1 hB
      refine calls hK (by simp [Act.eval, e94, go_sem]) (iHeadInts_any _ a ww (upH HHA.out (HB_7.out.trans ((RKA.below_drew hA.bel).mono HB_7.out.size))) hta2) ?_
      rintro e w1 ⟨A9, c9, rfl, hop, hb⟩
      exact ⟨_, rfl, hb, snums_own hop⟩
    · intro aa ww hA K hK
      refine guarded (s := sv (.agg #[.int .i64 a.zone, .int .i64 a.epoch, .int .i64 a.kind, .int .i64 a.time, .int .i64 a.until_, .int .i64 a.count, .int .i64 a.root, .int .i64 a.prev, .slice aA0 an0 ac0, .int .i64 a.keys.need, .slice aA1 an1 ac1, .int .i64 a.heirs.need, .int .i64 a.wait, .slice aA2 an2 ac2, .int .i64 a.judge.need, .bool a.frozen])) rfl rfl (hA.got 71 93 (by kernel_rfl)) hK fun hB hK => ?_
      have e3 : aa.tmps.getD 3 undef = .pointer (some ⟨W1.heap.size, 0, none⟩) := hA.old 3 (by kernel_rfl)
      have ldHX_7 := LD.ld_run LD.big_Head (HX_7.out.keep (hA.bel.block (W1.heap.size) HX_7.out.lt)) rfl
      exact gives hK (v := .agg #[.int .i64 a.zone, .int .i64 a.epoch, .int .i64 a.kind, .int .i64 a.time, .int .i64 a.until_, .int .i64 a.count, .int .i64 a.root, .int .i64 a.prev, .slice aA0 an0 ac0, .int .i64 a.keys.need, .slice aA1 an1 ac1, .int .i64 a.heirs.need, .int .i64 a.wait, .slice aA2 an2 ac2, .int .i64 a.judge.need, .bool a.frozen]) (by simp only [execOp, Act.eval, e3, ldHX_7, Sem.run_bind, Sem.run_pure, Result.andThen_ok]) rfl
    · intro aa ww hA K hK
      refine guarded (s := snums .i64 (headInts a)) rfl rfl (hA.got 71 93 (by kernel_rfl)) hK fun hB hK => ?_
      have e96 : aa.tmps.getD 96 undef = .agg #[.int .i64 a.zone, .int .i64 a.epoch, .int .i64 a.kind, .int .i64 a.time, .int .i64 a.until_, .int .i64 a.count, .int .i64 a.root, .int .i64 a.prev, .slice aA0 an0 ac0, .int .i64 a.keys.need, .slice aA1 an1 ac1, .int .i64 a.heirs.need, .int .i64 a.wait, .slice aA2 an2 ac2, .int .i64 a.judge.need, .bool a.frozen] := (hA.got 74 96 (by kernel_rfl)).1 hB
      refine calls hK (by simp [Act.eval, e96, go_sem]) (sHeadInts_any _ a ww (upH HHA.out (HB_7.out.trans ((RKA.below_drew hA.bel).mono HB_7.out.size))) hta2) ?_
      rintro e w1 ⟨A9, c9, rfl, hop, hb⟩
      exact ⟨_, rfl, hb, snums_own hop⟩
    · intro aa ww hA K hK
      refine guarded (s := sv (.bool (true))) rfl rfl (hA.got 71 93 (by kernel_rfl)) hK fun hB hK => ?_
      obtain ⟨A95, c95, e95, hc95, h95⟩ := (hA.got 73 95 (by kernel_rfl)).1 hB
      obtain ⟨A97, c97, e97, hc97, h97⟩ := (hA.got 75 97 (by kernel_rfl)).1 hB
      refine calls hK (by simp [Act.eval, e95, e97, go_sem]) (sameInts_same _ _ A95 A97 _ c95 c97 (headInts a) ww h95 h97 (by omega)) ?_
      rintro e w1 ⟨rfl, hs⟩
      exact ⟨_, rfl, (hs.below _), rfl⟩
    · intro aa ww hA K hK
      refine free rfl ?_
      have e93 : aa.tmps.getD 93 undef = .bool (z71) := hA.got 71 93 (by kernel_rfl)
      rcases hq : (z71) with _ | _
      · rw [hq] at e93
        exact gives hK (v := .bool false) (by simp [execOp, Act.eval, e93, asBool, go_sem]) (show Value.bool _ = .bool _ by rw [hq]; simp)
      · have ex : aa.tmps.getD 98 undef = .bool (true) := (hA.got 76 98 (by kernel_rfl)).1 (by rw [hq]; rfl)
        rw [hq] at e93
        exact gives hK (v := .bool (true)) (by simp [execOp, Act.eval, e93, ex, asBool, go_sem]) (show Value.bool _ = .bool _ by rw [hq]; simp)
    · intro aa ww hA K hK
      refine free rfl ?_
      exact gives hK rfl (hA.got 77 99 (by kernel_rfl))
  · intro a1 w1 hb hd hsz hold hgot
    have e2 : a1.tmps.getD 2 undef = .bool ((z71) && (true)) := hgot 78 2 (by kernel_rfl)
    rw [Bool.and_true] at e2
    rename_i K9 hK9
    refine hK9 a1 w1 (wp_ret ?_)
    exact bodyPost_ret (v := .bool z71) (by simp [results, Try.results3, go_sem]; rw [← Array.getD_eq_getD_getElem?]; exact e2) (hd.trans rfl) ⟨by rw [Hz71.out, Hz63.out, Hz57.out, Hz49.out, Hz41.out, Hz33.out, Hz27.out, Hz19.out, Hz14.out, Hz5.out]; simp [dig_same]; exact Decidable.em _, (HB0.out.trans (HB_7.out.mono HB0.out.size)).trans ((RKA.below_drew hb).mono (HB0.out.trans (HB_7.out.mono HB0.out.size)).size)⟩
end Go.Proofs.Ytkkkaaboeddkoaa.W13F
