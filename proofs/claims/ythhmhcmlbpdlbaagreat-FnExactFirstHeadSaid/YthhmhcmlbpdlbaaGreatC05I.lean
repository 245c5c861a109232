/- Chapter 5: what the program's functions on paths return. -/
import Derived.Test.YthhmhcmlbpdlbaaGreatC05S
import Derived.Lib.Join
import Derived.Lib.SliceRun
namespace Go.Proofs.YthhmhcmlbpdlbaaGreat.C05I
open Go.RowKit Mem MemS M02 M04 M05 C01 C02 C04S C04I C05S
set_option linter.unusedVariables false
set_option maxRecDepth 100000
theorem iisPath_any (B : Nat) (A : Option Addr) (n c : Nat) (ss : List ByteArray) (w : World) (h : RdS w B A n ss) (hB : B ≤ w.heap.size) (hn : n ≤ 1099511627776) (hss : ∀ s ∈ ss, s.size ≤ 1099511627776) :
    Calls Tryz.prog 208 #[.slice A n c] w fun e w' => e = .returned (.bool (isPth ss)) ∧ Below w.heap.size w w' := by
  have HL := Lib.hid h.len
  have HSS := Lib.hid hss
  have H := Lib.hid (h.more hB)
  clear hss h hB
  have hI := fun w => inRange_any (n : Int) 1 4 w
  by_cases hin : 1 ≤ n ∧ n ≤ 4
  · have e1 : inR (n : Int) 1 4 = true := by unfold inR; simp; omega
    rw [e1] at hI
    have HI := Lib.hid hI
    clear hI
    go_enter Tryz.func208, Tryz.ntmps208
    go_wp2_with fail
    refine (HI.out _).mono ?_
    rintro e w1 ⟨rfl, rfl⟩
    go_wp2
    go_loopw [11] (fun i wr => ∃ j : Nat, j ≤ n ∧ i = .int .i64 j ∧ (∀ k, k < j → isLab (ss.getD k .empty) = true) ∧ Below w.heap.size w wr) (fun i _ => n - (intOf i).toNat)
    case atStart => exact ⟨0, by omega, rfl, fun k hk => absurd hk (by omega), Below.refl _ _⟩
    case round =>
      obtain ⟨j, hj, rfl, hf, hbel⟩ := hrel
      have HB := Lib.hid hbel
      have HF := Lib.hid hf
      clear hbel hf
      by_cases hjn : j < n
      · obtain ⟨b, off, rfl, hlt, hc⟩ := (H.out.below HB.out (Nat.le_refl _)).cell_at hjn
        have hjl : j < ss.length := by rw [HL.out]; exact hjn
        have hK := fun w => iIsLabel_b (ss.getD j .empty) w (getD_size HSS.out hjl)
        rcases hlk : isLab (ss.getD j .empty) with _ | _
        · have HP := Lib.hid (isPth_bad hjl hlk)
          rw [hlk] at hK
          have HK := Lib.hid hK
          clear hK hlk hjl
          generalize ss.getD j .empty = s at hc HK
          go_wp2_with fail
          refine (HK.out _).mono ?_
          rintro e w1 ⟨rfl, hb1⟩
          have HB1 := Lib.hid (HB.out.trans (hb1.mono HB.out.size))
          clear hb1
          go_wp2
          go_ret
          exact ⟨by rw [HP.out]; rfl, HB1.out⟩
        · have HJ := Lib.hid hlk
          rw [hlk] at hK
          have HK := Lib.hid hK
          clear hK hlk hjl
          generalize hs : ss.getD j .empty = s at hc HK HJ
          have HS := Lib.hid hs
          clear hs
          go_wp2_with fail
          refine (HK.out _).mono ?_
          rintro e w1 ⟨rfl, hb1⟩
          have HB1 := Lib.hid (HB.out.trans (hb1.mono HB.out.size))
          clear hb1
          go_wp2
          go_roundw
          case rel => exact ⟨j + 1, by omega, by go_num, fun k hk => by
            rcases Nat.lt_or_ge k j with h1 | h1
            · exact HF.out k h1
            · obtain rfl : k = j := by omega
              rw [HS.out]
              exact HJ.out, HB1.out⟩
          case measure => simp [intOf]; omega
      · obtain rfl : j = n := by omega
        have HP := Lib.hid (inR_isPth HL.out HF.out)
        have HE := Lib.hid e1
        clear hj hjn e1
        go_wp2
        go_ret
        exact ⟨by rw [← HP.out, HE.out]; rfl, HB.out⟩
  · have e1 : inR (n : Int) 1 4 = false := by unfold inR; simp; omega
    have HP := Lib.hid (isPth_long (p := ss) (by rw [HL.out]; omega))
    rw [e1] at hI
    have HI := Lib.hid hI
    clear hI e1
    go_enter Tryz.func208, Tryz.ntmps208
    go_wp2_with fail
    refine (HI.out _).mono ?_
    rintro e w1 ⟨rfl, rfl⟩
    go_wp2
    go_ret
    exact ⟨by rw [HP.out]; rfl, Below.refl _ _⟩
end Go.Proofs.YthhmhcmlbpdlbaaGreat.C05I
