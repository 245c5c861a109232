/- The walks of the statements of promise 3: the laws return true, and write into nothing that was there. -/
import Derived.Test.YtkkednffolfpiaaD03
import Derived.Test.YtkkednffolfpiaaC03I
import Derived.Test.YtkkednffolfpiaaT01
import Derived.Deep.RegionHeld3
namespace Go.Proofs.Ytkkednffolfpiaa.W03F
set_option linter.unusedVariables false
open Go.RowKit Mem M02 C01 C02 C02B D01 D02 SL T01 M03 C03S C03E C03D C03I D03
theorem big_yes (A : Option Addr) (n c : Nat) (w : World) (h : 1048576 < n) : Calls Try.prog 13 #[.slice A n c] w fun e w' => e = .returned (.bool true) ∧ w = w' := by
  have h' : 1048576 < (n : Int) := by omega
  go_enter Try.func13, Try.ntmps13
  go_wp2
  go_ret
  simp
theorem big_no (A : Option Addr) (n c : Nat) (w : World) (h : n ≤ 1048576) : Calls Try.prog 13 #[.slice A n c] w fun e w' => e = .returned (.bool false) ∧ w = w' := by
  have h' : ¬ 1048576 < (n : Int) := by omega
  go_enter Try.func13, Try.ntmps13
  go_wp2
  go_ret
  simp
theorem FnCipher_walk (W0 : World) (A : Option Addr) (n c : Nat) (hn : n ≤ maxLen) (hr : BRow W0 W0.heap.size A n) :
    Calls Try.prog 3 #[.slice A n c] W0 fun e w' => e = .returned (.bool true) ∧ Below W0.heap.size W0 w' := by
  by_cases hbig : 1048576 < n
  · go_enter Try.func3, Try.ntmps3
    go_wp2_with fail
    refine (big_yes _ _ _ _ hbig).mono ?_
    rintro e w1 ⟨rfl, rfl⟩
    go_wp2
    go_ret
    exact ⟨rfl, Below.refl _ _⟩
  have HR := Lib.hid hr
  clear hr
  go_enter Try.func3, Try.ntmps3
  go_wp2_with fail
  refine (big_no _ _ _ _ (by omega)).mono ?_
  rintro e w1 ⟨rfl, rfl⟩
  go_wp2_with fail
  refine (drawEncrypt_any W0 A n c hn HR.out).mono ?_
  rintro e W1 ⟨k, Ab, m, cb, zs, rfl, hk0, hk1, hm, hob, hb1⟩
  have HO1 := Lib.hid hob.top
  have HB1 := Lib.hid hb1
  clear hob hb1
  have hz := byt_in HO1.out.wf
  have e1 := decr_encr k zs hz
  have e2 := encr_decr k zs hz
  have HE1 := Lib.hid e1
  have HE2 := Lib.hid e2
  clear hz e1 e2
  -- the first comparison
  go_wp2_with fail
  refine (iEncrypt_any Ab k m cb zs W1 HO1.out.rd (by omega) (by omega) (by omega)).mono ?_
  rintro e W2 ⟨A2, c2, rfl, ho2, hb2⟩
  have HO2 := Lib.hid ho2
  have HB2 := Lib.hid (HB1.out.trans (hb2.mono HB1.out.size))
  have HOb2 := Lib.hid (HO1.out.below hb2 (Nat.le_refl _))
  have HZ2 := Lib.hid hb2.size
  clear ho2 hb2
  go_wp2_with fail
  refine (iDecrypt_any A2 k m c2 _ W2 HO2.out.rd (by omega) (by omega) (by omega)).mono ?_
  rw [HE1.out]
  rintro e W3 ⟨A3, c3, rfl, ho3, hb3⟩
  have HO3 := Lib.hid ho3
  have HB3 := Lib.hid (HB2.out.trans (hb3.mono HB2.out.size))
  have HOb3 := Lib.hid (HOb2.out.below hb3 HZ2.out)
  have HZ3 := Lib.hid (Nat.le_trans HZ2.out hb3.size)
  clear ho3 hb3
  go_wp2_with fail
  refine (sameBytes_same _ _ A3 Ab m c3 cb zs _ HO3.out.rd HOb3.out.rd (by omega)).mono ?_
  rintro e W4 ⟨rfl, hs4⟩
  have HB4 := Lib.hid (HB3.out.trans (hs4.below _))
  have HOb4 := Lib.hid (HOb3.out.same hs4)
  have HZ4 := Lib.hid (show W1.heap.size ≤ W4.heap.size from Nat.le_trans HZ3.out (hs4.below 0).size)
  clear hs4
  -- the second
  go_wp2_with fail
  refine (iDecrypt_any Ab k m cb zs W4 (HOb4.out.rd.more HZ4.out) (by omega) (by omega) (by omega)).mono ?_
  rintro e W5 ⟨A5, c5, rfl, ho5, hb5⟩
  have HO5 := Lib.hid ho5
  have HB5 := Lib.hid (HB4.out.trans (hb5.mono HB4.out.size))
  have HOb5 := Lib.hid (HOb4.out.below hb5 HZ4.out)
  have HZ5 := Lib.hid (Nat.le_trans HZ4.out hb5.size)
  clear ho5 hb5
  go_wp2_with fail
  refine (iEncrypt_any A5 k m c5 _ W5 HO5.out.rd (by omega) (by omega) (by omega)).mono ?_
  rw [HE2.out]
  rintro e W6 ⟨A6, c6, rfl, ho6, hb6⟩
  have HO6 := Lib.hid ho6
  have HB6 := Lib.hid (HB5.out.trans (hb6.mono HB5.out.size))
  have HOb6 := Lib.hid (HOb5.out.below hb6 HZ5.out)
  have HZ6 := Lib.hid (Nat.le_trans HZ5.out hb6.size)
  clear ho6 hb6
  go_wp2_with fail
  refine (sameBytes_same _ _ A6 Ab m c6 cb zs _ HO6.out.rd HOb6.out.rd (by omega)).mono ?_
  rintro e W7 ⟨rfl, hs7⟩
  have HB7 := Lib.hid (HB6.out.trans (hs7.below _))
  have HOb7 := Lib.hid (HOb6.out.same hs7)
  have HZ7 := Lib.hid (show W1.heap.size ≤ W7.heap.size from Nat.le_trans HZ6.out (hs7.below 0).size)
  clear hs7
  -- the length
  go_wp2_with fail
  refine (iEncrypt_any Ab k m cb zs W7 (HOb7.out.rd.more HZ7.out) (by omega) (by omega) (by omega)).mono ?_
  rintro e W8 ⟨A8, c8, rfl, ho8, hb8⟩
  have HB8 := Lib.hid (HB7.out.trans (hb8.mono HB7.out.size))
  clear ho8 hb8
  go_wp2
  go_ret
  exact ⟨rfl, HB8.out⟩
end Go.Proofs.Ytkkednffolfpiaa.W03F
