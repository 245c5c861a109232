/- The walks of the exact laws of chapter 5: each law returns true, and writes into nothing that was there. -/
import Derived.Test.YtkgdgnjlmcodlaaDoorC05U
import Derived.Test.YtkgdgnjlmcodlaaDoorT01
import Derived.Test.YtkgdgnjlmcodlaaDoorT04
import Derived.Test.YtkgdgnjlmcodlaaDoorT05
namespace Go.Proofs.YtkgdgnjlmcodlaaDoor.W05
open Go.RowKit Mem MemS M04 T01 T04 T05 C05U
set_option linter.unusedVariables false
set_option maxRecDepth 100000
set_option maxHeartbeats 400000
theorem FnExactParsePath_walk (W0 : World) (v0 : ByteArray) (hv0 : v0.size ≤ maxLen) :
    Calls Tryd.prog 4 #[.string v0] W0 fun e w' => e = .returned (.bool true) ∧ Below W0.heap.size W0 w' := by
  by_cases hg0 : 1048576 < v0.size
  · have hg : 1048576 < (v0.size : Int) := by omega
    go_enter Tryd.func4, Tryd.ntmps4
    go_wp2
    go_ret
    exact ⟨rfl, Below.refl _ _⟩
  obtain ⟨r0, r1, hlen0, hS, hI⟩ := both_ParsePath v0 (by omega)
  have HS := Lib.hid hS
  have HI := Lib.hid hI
  clear hS hI
  clear hv0
  have HA_0 := Lib.hid (Below.refl W0.heap.size W0)
  go_enter Tryd.func4, Tryd.ntmps4
  go_wp2_with fail
  refine (HS.out  _ ).mono ?_
  rintro e W1 ⟨A_w0, c_w0, rfl, ho0, hb⟩
  have HO_w0_1 := Lib.hid ho0
  clear ho0
  have HB_0 := Lib.hid hb
  clear hb
  have HZ_0 := Lib.hid HB_0.out.size
  have HA_1 := Lib.hid (HA_0.out.trans (HB_0.out.mono (Nat.le_refl _)))
  go_wp2_with fail
  refine (HI.out  _ ).mono ?_
  rintro e W2 ⟨A_g0, c_g0, rfl, ho0, hb⟩
  have HO_g0_2 := Lib.hid ho0
  clear ho0
  have HB_1 := Lib.hid hb
  clear hb
  have HZ_1 := Lib.hid HB_1.out.size
  have HA_2 := Lib.hid (HA_1.out.trans (HB_1.out.mono HZ_0.out))
  have HO_w0_2 := Lib.hid (HO_w0_1.out.below HB_1.out (Nat.le_refl _))
  go_wp2_with fail
  refine (eqStringS_same _ _ A_g0 A_w0 r0.length c_g0 c_w0 r0 _ HO_g0_2.out.rd HO_w0_2.out.rd (by omega)).mono ?_
  rintro e W3 ⟨rfl, hb⟩
  have HB_2 := Lib.hid hb
  clear hb
  have HZ_2 := Lib.hid (HB_2.out.below 0).size
  have HA_3 := Lib.hid (HA_2.out.trans (HB_2.out.below _))
  have HO_w0_3 := Lib.hid (HO_w0_2.out.same HB_2.out)
  have HO_g0_3 := Lib.hid (HO_g0_2.out.same HB_2.out)
  go_wp2_with fail
  refine (markStringS_any _ _ A_g0 r0.length c_g0 r0 1 _ HO_g0_3.out (by omega) (by omega) (by omega)).mono ?_
  rintro e W4 ⟨rfl, hown, hb⟩
  have HO_g0_4 := Lib.hid hown
  clear hown
  have HB_3 := Lib.hid hb
  clear hb
  have HZ_3 := Lib.hid HB_3.out.size
  have HA_4 := Lib.hid (HA_3.out.trans (HB_3.out.below HZ_0.out (Nat.le_trans (Nat.le_trans HZ_0.out HZ_1.out) HZ_2.out)))
  have HO_w0_4 := Lib.hid (HO_w0_3.out.fr HB_3.out (.inl (Nat.le_refl _)))
  go_wp2_with fail
  refine (heldStringS_marks _ A_g0 r0.length c_g0 1 _ (HO_g0_4.out.rd.more (Nat.le_trans HZ_2.out HZ_3.out)) (Nat.le_refl _) (by omega) (by omega) (by omega)).mono ?_
  rintro e W5 ⟨rfl, hb⟩
  have HB_4 := Lib.hid hb
  clear hb
  have HZ_4 := Lib.hid HB_4.out.size
  have HA_5 := Lib.hid (HA_4.out.trans (HB_4.out.mono (Nat.le_trans (Nat.le_trans (Nat.le_trans HZ_0.out HZ_1.out) HZ_2.out) HZ_3.out)))
  have HO_w0_5 := Lib.hid (HO_w0_4.out.below HB_4.out (Nat.le_trans (Nat.le_trans HZ_1.out HZ_2.out) HZ_3.out))
  have HO_g0_5 := Lib.hid (HO_g0_4.out.below HB_4.out (Nat.le_trans HZ_2.out HZ_3.out))
  go_wp2_with fail
  refine (HI.out  _ ).mono ?_
  rintro e W6 ⟨A_h0, c_h0, rfl, ho0, hb⟩
  have HO_h0_6 := Lib.hid ho0
  clear ho0
  have HB_5 := Lib.hid hb
  clear hb
  have HZ_5 := Lib.hid HB_5.out.size
  have HA_6 := Lib.hid (HA_5.out.trans (HB_5.out.mono (Nat.le_trans (Nat.le_trans (Nat.le_trans (Nat.le_trans HZ_0.out HZ_1.out) HZ_2.out) HZ_3.out) HZ_4.out)))
  have HO_w0_6 := Lib.hid (HO_w0_5.out.below HB_5.out (Nat.le_trans (Nat.le_trans (Nat.le_trans HZ_1.out HZ_2.out) HZ_3.out) HZ_4.out))
  have HO_g0_6 := Lib.hid (HO_g0_5.out.below HB_5.out (Nat.le_trans (Nat.le_trans HZ_2.out HZ_3.out) HZ_4.out))
  go_wp2_with fail
  refine (eqStringS_same _ _ A_h0 A_w0 r0.length c_h0 c_w0 r0 _ HO_h0_6.out.rd HO_w0_6.out.rd (by omega)).mono ?_
  rintro e W7 ⟨rfl, hb⟩
  have HB_6 := Lib.hid hb
  clear hb
  have HZ_6 := Lib.hid (HB_6.out.below 0).size
  have HA_7 := Lib.hid (HA_6.out.trans (HB_6.out.below _))
  have HO_g0_7 := Lib.hid (HO_g0_6.out.same HB_6.out)
  go_wp2_with fail
  refine (heldStringS_marks _ A_g0 r0.length c_g0 1 _ (HO_g0_7.out.rd.more (Nat.le_trans (Nat.le_trans (Nat.le_trans (Nat.le_trans HZ_2.out HZ_3.out) HZ_4.out) HZ_5.out) HZ_6.out)) (Nat.le_refl _) (by omega) (by omega) (by omega)).mono ?_
  rintro e W8 ⟨rfl, hb⟩
  have HB_7 := Lib.hid hb
  clear hb
  have HZ_7 := Lib.hid HB_7.out.size
  have HA_8 := Lib.hid (HA_7.out.trans (HB_7.out.mono (Nat.le_trans (Nat.le_trans (Nat.le_trans (Nat.le_trans (Nat.le_trans (Nat.le_trans HZ_0.out HZ_1.out) HZ_2.out) HZ_3.out) HZ_4.out) HZ_5.out) HZ_6.out)))
  go_wp2
  go_ret
  exact ⟨rfl, HA_8.out⟩
end Go.Proofs.YtkgdgnjlmcodlaaDoor.W05
