/- Chapter 5: what the model's functions on paths return. -/
import Derived.Test.YtcpfdhammhcoaaaM05
import Derived.Test.YtcpfdhammhcoaaaC04I
import Derived.Test.YtcpfdhammhcoaaaC01
import Derived.RegionTactic
namespace Go.Proofs.Ytcpfdhammhcoaaa.C05S
open Go.RowKit Mem MemS M02 M04 M05 C01 C02 C04S C04I
set_option linter.unusedVariables false
set_option maxRecDepth 100000
theorem inR_isPth {ss : List ByteArray} {n : Nat} (hl : ss.length = n) (h : ∀ j, j < n → isLab (ss.getD j .empty) = true) : inR (n : Int) 1 4 = isPth ss := by
  subst hl
  rw [isPth_all h]
  by_cases hh : 1 ≤ ss.length ∧ ss.length ≤ 4
  · rw [inR_true (by omega) (by omega)]
    exact (decide_eq_true hh).symm
  · rw [inR_false (by omega)]
    exact (decide_eq_false hh).symm
theorem getD_size {ss : List ByteArray} {j m : Nat} (h : ∀ s ∈ ss, s.size ≤ m) (hj : j < ss.length) : (ss.getD j .empty).size ≤ m := by
  refine h _ ?_
  rw [List.getD, List.getElem?_eq_getElem hj]
  exact List.getElem_mem hj
theorem sIsPath_any (B : Nat) (A : Option Addr) (n c : Nat) (ss : List ByteArray) (w : World) (h : RdS w B A n ss) (hB : B ≤ w.heap.size) (hn : n ≤ 1099511627776) (hss : ∀ s ∈ ss, s.size ≤ 1099511627776) :
    Calls Try.prog 96 #[.slice A n c] w fun e w' => e = .returned (.bool (isPth ss)) ∧ Below w.heap.size w w' := by
  have HL := Lib.hid h.len
  have HSS := Lib.hid hss
  have H := Lib.hid (h.more hB)
  clear hss h hB
  go_enter Try.func96, Try.ntmps96
  go_wp2
  go_loopw [3] (fun i wr => ∃ j : Nat, j ≤ n ∧ i = .int .i64 j ∧ (∀ k, k < j → isLab (ss.getD k .empty) = true) ∧ Below w.heap.size w wr) (fun i _ => n - (intOf i).toNat)
  case atStart => exact ⟨0, by omega, rfl, fun k hk => absurd hk (by omega), Below.refl _ _⟩
  case round =>
    obtain ⟨j, hj, rfl, hf, hbel⟩ := hrel
    have HB := Lib.hid hbel
    have HF := Lib.hid hf
    clear hbel hf
    by_cases hjn : j < n
    · obtain ⟨b, off, rfl, hlt, hc⟩ := (H.out.below HB.out (Nat.le_refl _)).cell_at hjn
      have hjl : j < ss.length := by rw [HL.out]; exact hjn
      have hK := fun w => sIsLabel_b (ss.getD j .empty) w (getD_size HSS.out hjl)
      rcases hlk : isLab (ss.getD j .empty) with _ | _
      · have HP := Lib.hid (isPth_bad hjl hlk)
        rw [hlk] at hK
        have HK := Lib.hid hK
        clear hK hlk hjl
        generalize ss.getD j .empty = s at hc HK
        go_wp2_with fail
        refine (HK.out _).mono ?_
        rintro e w1 ⟨rfl, hb1⟩
        have HB1 := Lib.hid (HB.out.trans (hb1.mono HB.out.size))
        clear hb1
        go_wp2
        go_ret
        exact ⟨by rw [HP.out]; rfl, HB1.out⟩
      · have HJ := Lib.hid hlk
        rw [hlk] at hK
        have HK := Lib.hid hK
        clear hK hlk hjl
        generalize hs : ss.getD j .empty = s at hc HK HJ
        have HS := Lib.hid hs
        clear hs
        go_wp2_with fail
        refine (HK.out _).mono ?_
        rintro e w1 ⟨rfl, hb1⟩
        have HB1 := Lib.hid (HB.out.trans (hb1.mono HB.out.size))
        clear hb1
        go_wp2
        go_roundw
        case rel => exact ⟨j + 1, by omega, by go_num, fun k hk => by
          rcases Nat.lt_or_ge k j with h1 | h1
          · exact HF.out k h1
          · obtain rfl : k = j := by omega
            rw [HS.out]
            exact HJ.out, HB1.out⟩
        case measure => simp [intOf]; omega
    · obtain rfl : j = n := by omega
      have HP := Lib.hid (inR_isPth HL.out HF.out)
      clear hj hjn
      go_wp2_with fail
      refine (l1In_any _ _ _ _).mono ?_
      rintro e w1 ⟨rfl, rfl⟩
      go_wp2
      go_ret
      exact ⟨by rw [HP.out]; rfl, HB.out⟩
theorem l5Copy_any (A : Option Addr) (n c : Nat) (ss : List ByteArray) (w : World) (h : RdS w w.heap.size A n ss) (hn : n ≤ 1099511627776) :
    Calls Try.prog 93 #[.slice A n c] w fun e w' => ∃ A' c', e = .returned (.slice A' n c') ∧ OwnS w' w.heap.size w'.heap.size A' n c' ss ∧ Below w.heap.size w w' := by
  have H := Lib.hid h
  clear h
  go_enter Try.func93, Try.ntmps93
  go_wp2_with (at_builtin; refine wp_appS rfl _ _ rfl rfl (OwnS.lit0 w (Nat.le_refl _)) rfl (H.out.alloc (Nat.le_refl _) _) (by omega) (by simp) ?_; intro A' c' w' hown hgr)
  simp only [Nat.zero_add, List.nil_append] at hown ⊢
  go_ret
  exact ⟨A', c', rfl, hown, ((Below.refl _ _).alloc (Nat.le_refl _) _).trans (hgr.below (by simp) (fun a e => by injection e with e; subst e; simp))⟩
theorem rdS_take {w : World} {B n k : Nat} {A : Option Addr} {ss : List ByteArray} (h : RdS w B A n ss) (hk : k ≤ n) : RdS w B A k (ss.take k) := by
  have hl := h.len
  refine ⟨by simp; omega, fun z hz => h.wf z (List.mem_of_mem_take hz), fun hn => ?_⟩
  obtain ⟨b, off, e, hlt, hc⟩ := h.cells (by omega)
  refine ⟨b, off, e, hlt, fun j hj => ?_⟩
  rw [hc j (by omega)]
  simp [hj]
end Go.Proofs.Ytcpfdhammhcoaaa.C05S
