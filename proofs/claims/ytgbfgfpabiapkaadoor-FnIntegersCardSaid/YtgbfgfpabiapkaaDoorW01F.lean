/- The walk of the statement on integers of promise 1: the law returns true, and writes into nothing that was there. -/
import Derived.Test.YtgbfgfpabiapkaaDoorD01P
import Derived.Test.YtgbfgfpabiapkaaDoorC01I
namespace Go.Proofs.YtgbfgfpabiapkaaDoor.W01F
set_option linter.unusedVariables false
open Go.RowKit Go.Proofs.YtgbfgfpabiapkaaDoor.C01 Go.Proofs.YtgbfgfpabiapkaaDoor.C01S Go.Proofs.YtgbfgfpabiapkaaDoor.C01I Go.Proofs.YtgbfgfpabiapkaaDoor.VV Go.Proofs.YtgbfgfpabiapkaaDoor.M01 Go.Proofs.YtgbfgfpabiapkaaDoor.D01 Go.Proofs.YtgbfgfpabiapkaaDoor.D01P Go.Proofs.YtgbfgfpabiapkaaDoor.SL
theorem big_yes (A : Option Addr) (n c : Nat) (w : World) (h : 1048576 < n) : Calls Tryd.prog 6 #[.slice A n c] w fun e w' => e = .returned (.bool true) ∧ w = w' := by
  have h' : 1048576 < (n : Int) := by omega
  go_enter Tryd.func6, Tryd.ntmps6
  go_wp2
  go_ret
  simp
theorem big_no (A : Option Addr) (n c : Nat) (w : World) (h : n ≤ 1048576) : Calls Tryd.prog 6 #[.slice A n c] w fun e w' => e = .returned (.bool false) ∧ w = w' := by
  have h' : ¬ 1048576 < (n : Int) := by omega
  go_enter Tryd.func6, Tryd.ntmps6
  go_wp2
  go_ret
  simp
theorem ceil_spec {a b : Int} (h1 : 0 ≤ a) (h2 : a ≤ 1000000000000) (h3 : 1 ≤ b) (h4 : b ≤ 1000000000000) :
    ∃ q p : Int, ceilDiv a b = q ∧ q * b = p ∧ a ≤ p ∧ p - a < b ∧ 0 ≤ q ∧ q ≤ 2000000000000 ∧ p ≤ 2000000000000 := by
  have e : ceilDiv a b = (a + b - 1) / b := by simp [ceilDiv, inR_true h1 h2, inR_true h3 h4]
  have k1 := Int.emod_add_mul_ediv (a + b - 1) b
  have k2 := Int.emod_nonneg (a + b - 1) (show b ≠ 0 by omega)
  have k3 := Int.emod_lt_of_pos (a + b - 1) (show 0 < b by omega)
  have k4 : 0 ≤ (a + b - 1) / b := Int.ediv_nonneg (by omega) (by omega)
  have k5 : (a + b - 1) / b ≤ a + b - 1 := Int.ediv_le_self _ (by omega)
  refine ⟨(a + b - 1) / b, (a + b - 1) / b * b, e, rfl, ?_, ?_, k4, by omega, ?_⟩ <;> rw [Int.mul_comm] <;> omega
theorem ceil_no {a b : Int} (h : ¬ (0 ≤ a ∧ a ≤ 1000000000000) ∨ ¬ (1 ≤ b ∧ b ≤ 1000000000000)) : ceilDiv a b = 0 := by
  rcases h with h | h
  · have := inR_false (n := a) (a := 0) (b := 1000000000000) (by omega)
    simp [ceilDiv, this]
  · have := inR_false (n := b) (a := 1) (b := 1000000000000) (by omega)
    simp [ceilDiv, this]
theorem s_parts (s : ByteArray) (w : World) (hs : s.size ≤ 281474976710656) (hv : Vars w) :
    ∃ (N : Int) (ok : Bool) (t : ByteArray), (Calls Tryd.prog 8 #[.string s] w fun e w' => e = .returned (.tuple #[.int .i64 N, .bool ok]) ∧ Below w.heap.size w w') ∧
      (∀ W, Tab W → Calls Tryd.prog 10 #[.int .i64 N] W fun e w' => e = .returned (.string t) ∧ Below W.heap.size W w') ∧ (ok = false ∨ ok = true ∧ t = s) := by
  have hP := iParseInt_any s w hs hv
  rcases pI_cases s.data.toList with ⟨N, hN, hsN, hp⟩ | ⟨hnone, hp⟩
  · rw [hp] at hP
    refine ⟨N, true, s, hP, fun W hW => ?_, .inr ⟨rfl, rfl⟩⟩
    have hF := iFormatInt_any (N : Int) W (by omega) (by omega) hW
    rw [show (⟨(Lib.itoa (N : Int)).toArray⟩ : ByteArray) = s by rw [itoa_nat, ← hsN]] at hF
    exact hF
  · rw [hp] at hP
    exact ⟨0, false, _, hP, fun W hW => iFormatInt_any 0 W (by omega) (by omega) hW, .inl rfl⟩
theorem m_parts (m : Int) (w : World) (h0 : -9223372036854775808 ≤ m) (h1 : m ≤ 9223372036854775807) (hv : Vars w) :
    ∃ (k : Int) (ok : Bool), (Calls Tryd.prog 8 #[.string ⟨(Lib.itoa m).toArray⟩] w fun e w' => e = .returned (.tuple #[.int .i64 k, .bool ok]) ∧ Below w.heap.size w w') ∧
      (ok = true ∧ k = m ∧ 0 ≤ m ∧ m ≤ 1000000000000 ∨ ok = false ∧ k = 0 ∧ m < 0 ∨ ok = false ∧ k = 0 ∧ 1000000000000 < m) := by
  have hQ := iParseInt_any ⟨(Lib.itoa m).toArray⟩ w (by have := Lib.itoa_length_le m h0 h1; simp [ByteArray.size]; omega) hv
  rw [show (⟨(Lib.itoa m).toArray⟩ : ByteArray).data.toList = Lib.itoa m by simp] at hQ
  by_cases hmr : 0 ≤ m ∧ m ≤ 1000000000000
  · rw [pI_itoa hmr] at hQ
    exact ⟨m, true, hQ, .inl ⟨rfl, rfl, hmr⟩⟩
  · rw [pI_itoa_no hmr] at hQ
    refine ⟨0, false, hQ, .inr ?_⟩
    by_cases hneg : m < 0
    · exact .inl ⟨rfl, rfl, hneg⟩
    · exact .inr ⟨rfl, rfl, by omega⟩
theorem rem_zero {a b r : Int} (h1 : 1 ≤ b) (h2 : b ≤ 1000000000000) (hr : a % b = r) :
    ((wrap64 (a % b - r)).tmod b != 0) = false ∧ ((wrap64 (a.tmod b - r)).tmod b != 0) = false := by
  obtain ⟨k1, k2, k3⟩ := tmod_parts a b h1
  have z : (wrap64 0).tmod b = 0 := by rw [show wrap64 0 = 0 by unfold wrap64; omega]; simp
  constructor
  · rw [hr, Int.sub_self, z]; rfl
  · rcases k1 with k1 | ⟨k1, _⟩
    · rw [k1, hr, Int.sub_self, z]; rfl
    · rw [k1, hr, show r - b - r = -b by omega, show wrap64 (-b) = -b by unfold wrap64; omega]
      simp
theorem ab_parts (a b : Int) : ∃ q r : Int, (∀ W, Calls Tryd.prog 12 #[.int .i64 a, .int .i64 b] W fun e w' => e = .returned (.int .i64 q) ∧ W = w') ∧
    (∀ W, Calls Tryd.prog 13 #[.int .i64 a, .int .i64 b] W fun e w' => e = .returned (.int .i64 r) ∧ W = w') ∧
    (b < 1 ∧ q = 0 ∧ r = 0 ∨ 1000000000000 < b ∧ q = 0 ∧ r = 0 ∨
     1 ≤ b ∧ b ≤ 1000000000000 ∧ 0 ≤ r ∧ r < b ∧ (((wrap64 (a % b - r)).tmod b != 0) = false ∧ ((wrap64 (a.tmod b - r)).tmod b != 0) = false) ∧
      (a < 0 ∧ q = 0 ∨ 1000000000000 < a ∧ q = 0 ∨ 0 ≤ a ∧ a ≤ 1000000000000 ∧ ∃ p, q * b = p ∧ a ≤ p ∧ p - a < b ∧ 0 ≤ q ∧ q ≤ 2000000000000 ∧ p ≤ 2000000000000)) := by
  refine ⟨ceilDiv a b, modQ a b, fun W => iCeilDiv_any a b W, fun W => iMod_any a b W, ?_⟩
  by_cases hb : 1 ≤ b ∧ b ≤ 1000000000000
  · obtain ⟨hb1, hb2⟩ := hb
    have er : modQ a b = a % b := by simp [modQ, inR_true hb1 hb2]
    refine .inr (.inr ⟨hb1, hb2, ?_, ?_, rem_zero hb1 hb2 er.symm, ?_⟩)
    · rw [er]; exact Int.emod_nonneg _ (by omega)
    · rw [er]; exact Int.emod_lt_of_pos _ (by omega)
    · by_cases ha : 0 ≤ a ∧ a ≤ 1000000000000
      · obtain ⟨ha1, ha2⟩ := ha
        obtain ⟨q, p, e1, e2, k1, k2, k3, k4, k5⟩ := ceil_spec ha1 ha2 hb1 hb2
        exact .inr (.inr ⟨ha1, ha2, p, by rw [e1]; exact e2, k1, k2, by rw [e1]; exact k3, by rw [e1]; exact k4, k5⟩)
      · by_cases hneg : a < 0
        · exact .inl ⟨hneg, ceil_no (.inl ha)⟩
        · exact .inr (.inl ⟨by omega, ceil_no (.inl ha)⟩)
  · have er : modQ a b = 0 := by
      have := inR_false (n := b) (a := 1) (b := 1000000000000) (by omega)
      simp [modQ, this]
    by_cases hneg : b < 1
    · exact .inl ⟨hneg, ceil_no (.inr hb), er⟩
    · exact .inr (.inl ⟨by omega, ceil_no (.inr hb), er⟩)
set_option maxRecDepth 100000 in
set_option maxHeartbeats 16000000 in
theorem FnIntegers_walk (w : World) (hv : Vars w) (A : Option Addr) (n c : Nat) (hn : n ≤ maxLen) (hr : BRow w w.heap.size A n) :
    Calls Tryd.prog 3 #[.slice A n c] w fun e w' => e = .returned (.bool true) ∧ Below w.heap.size w w' := by
  by_cases hbig : 1048576 < n
  · go_enter Tryd.func3, Tryd.ntmps3
    go_wp2_with fail
    refine (big_yes _ _ _ _ hbig).mono ?_
    rintro e w' ⟨rfl, rfl⟩
    go_wp2
    go_ret
    exact ⟨rfl, Below.refl _ _⟩
  · go_enter Tryd.func3, Tryd.ntmps3
    go_wp2_with fail
    refine (big_no _ _ _ _ (by omega)).mono ?_
    rintro e w' ⟨rfl, rfl⟩
    go_wp2_with fail
    refine (drawParseInt_any _ A n c hn hr).mono ?_
    rintro e w1 ⟨s, hs, rfl, hb1⟩
    have hv1 := hv.below hb1 hv.tab.size
    go_wp2_with fail
    obtain ⟨N, okS, t, hP, hF, hS⟩ := s_parts s w1 (by omega) hv1
    have HF := Lib.hid hF
    have HS := Lib.hid hS
    clear hF hS
    refine hP.mono ?_
    clear hP
    rintro e w2 ⟨rfl, hb2⟩
    have hb12 := hb1.trans (hb2.mono hb1.size)
    clear hb2 hv1 hb1
    go_wp2_with fail
    refine (drawFormatInt_any _ A n c hn ((hr.below hb12).more hb12.size)).mono ?_
    rintro e w3 ⟨m, hm, rfl, hb3⟩
    have hb13 := hb12.trans (hb3.mono hb12.size)
    have hv3 := hv.below hb13 hv.tab.size
    have hmb := Lib.hid (wf_bounds hm)
    clear hb3 hb12
    go_wp2_with fail
    refine (iFormatInt_any m _ hmb.out.1 hmb.out.2 hv3.tab).mono ?_
    rintro e w4 ⟨rfl, hb4⟩
    have hv4 := hv3.below hb4 hv3.tab.size
    have hb14 := hb13.trans (hb4.mono hb13.size)
    clear hb4 hb13 hv3
    go_wp2_with fail
    obtain ⟨k, okM, hQ, hM⟩ := m_parts m w4 hmb.out.1 hmb.out.2 hv4
    have HM := Lib.hid hM
    clear hM
    refine hQ.mono ?_
    clear hQ
    rintro e w5 ⟨rfl, hb5⟩
    have hb15 := hb14.trans (hb5.mono hb14.size)
    clear hb5 hb14 hv4
    go_wp2_with fail
    refine (DrawCeilDiv_any _ A n c hn ((hr.below hb15).more hb15.size)).mono ?_
    rintro e w6 ⟨a, b, ha, hb, rfl, hb6⟩
    have hb16 := hb15.trans (hb6.mono hb15.size)
    have hv6 := hv.below hb16 hv.tab.size
    clear hb6 hb15
    obtain ⟨q, r, hC, hD, hAB⟩ := ab_parts a b
    have HC := Lib.hid hC
    have HD := Lib.hid hD
    have HAB := Lib.hid hAB
    clear hC hD hAB
    go_wp2_with fail
    refine (HC.out _).mono ?_
    rintro e w' ⟨rfl, rfl⟩
    go_wp2_with fail
    refine (HD.out _).mono ?_
    rintro e w' ⟨rfl, rfl⟩
    clear HC HD
    rcases HS.out with rfl | ⟨rfl, rfl⟩ <;> rcases HM.out with ⟨rfl, rfl, hm1, hm2⟩ | ⟨rfl, rfl, hm1⟩ | ⟨rfl, rfl, hm1⟩ <;>
      rcases HAB.out with ⟨h1, rfl, rfl⟩ | ⟨h1, rfl, rfl⟩ | ⟨h1, h2, h3, h4, ⟨h5, h6⟩, ⟨h7, rfl⟩ | ⟨h7, rfl⟩ | ⟨h7, h8, p, h9, h10, h11, h12, h13, h14⟩⟩ <;> clear HS HM HAB
    all_goals
      go_wp2_with (go_at_call 10; refine (HF.out _ hv6.tab).mono ?_; rintro e w7 ⟨rfl, hb7⟩)
      all_goals first | (go_ret; exact ⟨rfl, hb16⟩) | (go_ret; exact ⟨rfl, hb16.trans (hb7.mono hb16.size)⟩)
end Go.Proofs.YtgbfgfpabiapkaaDoor.W01F
