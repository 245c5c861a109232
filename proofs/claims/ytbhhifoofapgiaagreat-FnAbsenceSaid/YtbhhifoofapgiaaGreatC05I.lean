/- Chapter 5: what the program's functions on paths return. -/
import Derived.Test.YtbhhifoofapgiaaGreatC05S
import Derived.Lib.Join
import Derived.Lib.SliceRun
namespace Go.Proofs.YtbhhifoofapgiaaGreat.C05I
open Go.RowKit Mem MemS M02 M04 M05 C01 C02 C04S C04I C05S
set_option linter.unusedVariables false
set_option maxRecDepth 100000
theorem iisPath_any (B : Nat) (A : Option Addr) (n c : Nat) (ss : List ByteArray) (w : World) (h : RdS w B A n ss) (hB : B ≤ w.heap.size) (hn : n ≤ 1099511627776) (hss : ∀ s ∈ ss, s.size ≤ 1099511627776) :
    Calls Tryz.prog 138 #[.slice A n c] w fun e w' => e = .returned (.bool (isPth ss)) ∧ Below w.heap.size w w' := by
  have HL := Lib.hid h.len
  have HSS := Lib.hid hss
  have H := Lib.hid (h.more hB)
  clear hss h hB
  have hI := fun w => inRange_any (n : Int) 1 4 w
  by_cases hin : 1 ≤ n ∧ n ≤ 4
  · have e1 : inR (n : Int) 1 4 = true := by unfold inR; simp; omega
    rw [e1] at hI
    have HI := Lib.hid hI
    clear hI
    go_enter Tryz.func138, Tryz.ntmps138
    go_wp2_with fail
    refine (HI.out _).mono ?_
    rintro e w1 ⟨rfl, rfl⟩
    go_wp2
    go_loopw [11] (fun i wr => ∃ j : Nat, j ≤ n ∧ i = .int .i64 j ∧ (∀ k, k < j → isLab (ss.getD k .empty) = true) ∧ Below w.heap.size w wr) (fun i _ => n - (intOf i).toNat)
    case atStart => exact ⟨0, by omega, rfl, fun k hk => absurd hk (by omega), Below.refl _ _⟩
    case round =>
      obtain ⟨j, hj, rfl, hf, hbel⟩ := hrel
      have HB := Lib.hid hbel
      have HF := Lib.hid hf
      clear hbel hf
      by_cases hjn : j < n
      · obtain ⟨b, off, rfl, hlt, hc⟩ := (H.out.below HB.out (Nat.le_refl _)).cell_at hjn
        have hjl : j < ss.length := by rw [HL.out]; exact hjn
        have hK := fun w => iIsLabel_b (ss.getD j .empty) w (getD_size HSS.out hjl)
        rcases hlk : isLab (ss.getD j .empty) with _ | _
        · have HP := Lib.hid (isPth_bad hjl hlk)
          rw [hlk] at hK
          have HK := Lib.hid hK
          clear hK hlk hjl
          generalize ss.getD j .empty = s at hc HK
          go_wp2_with fail
          refine (HK.out _).mono ?_
          rintro e w1 ⟨rfl, hb1⟩
          have HB1 := Lib.hid (HB.out.trans (hb1.mono HB.out.size))
          clear hb1
          go_wp2
          go_ret
          exact ⟨by rw [HP.out]; rfl, HB1.out⟩
        · have HJ := Lib.hid hlk
          rw [hlk] at hK
          have HK := Lib.hid hK
          clear hK hlk hjl
          generalize hs : ss.getD j .empty = s at hc HK HJ
          have HS := Lib.hid hs
          clear hs
          go_wp2_with fail
          refine (HK.out _).mono ?_
          rintro e w1 ⟨rfl, hb1⟩
          have HB1 := Lib.hid (HB.out.trans (hb1.mono HB.out.size))
          clear hb1
          go_wp2
          go_roundw
          case rel => exact ⟨j + 1, by omega, by go_num, fun k hk => by
            rcases Nat.lt_or_ge k j with h1 | h1
            · exact HF.out k h1
            · obtain rfl : k = j := by omega
              rw [HS.out]
              exact HJ.out, HB1.out⟩
          case measure => simp [intOf]; omega
      · obtain rfl : j = n := by omega
        have HP := Lib.hid (inR_isPth HL.out HF.out)
        have HE := Lib.hid e1
        clear hj hjn e1
        go_wp2
        go_ret
        exact ⟨by rw [← HP.out, HE.out]; rfl, HB.out⟩
  · have e1 : inR (n : Int) 1 4 = false := by unfold inR; simp; omega
    have HP := Lib.hid (isPth_long (p := ss) (by rw [HL.out]; omega))
    rw [e1] at hI
    have HI := Lib.hid hI
    clear hI e1
    go_enter Tryz.func138, Tryz.ntmps138
    go_wp2_with fail
    refine (HI.out _).mono ?_
    rintro e w1 ⟨rfl, rfl⟩
    go_wp2
    go_ret
    exact ⟨by rw [HP.out]; rfl, Below.refl _ _⟩
theorem iEqual_any (B B2 : Nat) (A A2 : Option Addr) (n c m c2 : Nat) (ss ts : List ByteArray) (w : World) (h : RdS w B A n ss) (h2 : RdS w B2 A2 m ts) (hn : n ≤ 1099511627776) (hm : m ≤ 1099511627776) :
    Calls Tryz.prog 111 #[.slice A n c, .slice A2 m c2] w fun e w' => e = .returned (.bool (decide (ss = ts))) ∧ Same w w' := by
  by_cases hnm : n = m
  · subst hnm
    have HL := Lib.hid h.len
    have HL2 := Lib.hid h2.len
    go_enter Tryz.func111, Tryz.ntmps111
    go_wp2
    go_loopw [13] (fun i wr => ∃ j : Nat, j ≤ n ∧ i = .int .i64 j ∧ (∀ k, k < j → ss.getD k .empty = ts.getD k .empty) ∧ Same w wr) (fun i _ => n - (intOf i).toNat)
    case atStart => exact ⟨0, by omega, rfl, fun k hk => absurd hk (by omega), Same.refl _⟩
    case round =>
      obtain ⟨j, hj, rfl, hf, hsm⟩ := hrel
      have HF := Lib.hid hf
      clear hf
      by_cases hjn : j < n
      · obtain ⟨b, off, rfl, _, hcj⟩ := (h.same hsm).cell_at hjn
        obtain ⟨b', off', rfl, _, hcj'⟩ := (h2.same hsm).cell_at hjn
        have HS := Lib.hid hsm
        clear h h2 hsm
        generalize hx : ss.getD j .empty = x at hcj
        generalize hy : ts.getD j .empty = y at hcj'
        have HX := Lib.hid hx
        have HY := Lib.hid hy
        clear hx hy
        by_cases he : x.toList = y.toList
        · have hxy : x = y := by
            have h1 := toList_beq x y
            rw [he] at h1
            simp at h1
            exact h1
          have HXY := Lib.hid hxy
          subst hxy
          clear he
          go_wp2
          go_region
          all_goals (try go_wp2)
          go_roundw
          case rel => exact ⟨j + 1, by omega, by go_num, fun k hk => by
            rcases Nat.lt_or_ge k j with h1 | h1
            · exact HF.out k h1
            · obtain rfl : k = j := by omega
              rw [HX.out, HY.out], HS.out.drew⟩
          case measure => simp [intOf]; omega
        · have hne : (x.toList == y.toList) = false := beq_eq_false_iff_ne.2 he
          have HN := Lib.hid (show ss ≠ ts from fun e => he (by rw [← HX.out, ← HY.out, e]))
          clear he
          go_wp2
          go_region
          all_goals (try go_wp2)
          go_ret
          exact ⟨by rw [decide_eq_false HN.out]; rfl, HS.out.drew⟩
      · have HE := Lib.hid (show ss = ts from List.ext_getElem (by rw [HL.out, HL2.out]) fun i h1 h3 => by
          have := HF.out i (by have := HL.out; omega)
          rw [List.getD, List.getD, List.getElem?_eq_getElem h1, List.getElem?_eq_getElem h3] at this
          exact this)
        clear h h2
        go_wp2
        go_ret
        exact ⟨by rw [decide_eq_true HE.out]; rfl, hsm⟩
  · have hne : ss ≠ ts := fun e => hnm (by rw [← h.len, ← h2.len, e])
    have hnm' : ¬ (n : Int) = m := by omega
    have HN := Lib.hid hne
    clear h h2 hne
    go_enter Tryz.func111, Tryz.ntmps111
    go_wp2
    go_ret
    exact ⟨by rw [decide_eq_false HN.out]; rfl, Same.refl _⟩
theorem iSamePath_any (B B2 : Nat) (A A2 : Option Addr) (n c m c2 : Nat) (ss ts : List ByteArray) (w : World) (h : RdS w B A n ss) (h2 : RdS w B2 A2 m ts) (hn : n ≤ 1099511627776) (hm : m ≤ 1099511627776) :
    Calls Tryz.prog 91 #[.slice A n c, .slice A2 m c2] w fun e w' => e = .returned (.bool (decide (ss = ts))) ∧ Same w w' := by
  have HK := Lib.hid (iEqual_any B B2 A A2 n c m c2 ss ts w h h2 hn hm)
  clear h h2
  go_enter Tryz.func91, Tryz.ntmps91
  go_wp2_with fail
  refine HK.out.mono ?_
  rintro e w1 ⟨rfl, hs⟩
  go_wp2
  go_ret
  exact ⟨rfl, hs⟩
theorem iSamePath_b (B B2 : Nat) (A A2 : Option Addr) (n c m c2 : Nat) (ss ts : List ByteArray) (w : World) (h : RdS w B A n ss) (h2 : RdS w B2 A2 m ts) (hn : n ≤ 1099511627776) (hm : m ≤ 1099511627776) :
    Calls Tryz.prog 91 #[.slice A n c, .slice A2 m c2] w fun e w' => e = .returned (.bool (decide (ss = ts))) ∧ Below w.heap.size w w' :=
  (iSamePath_any B B2 A A2 n c m c2 ss ts w h h2 hn hm).mono fun e w' q => ⟨q.1, q.2.below _⟩
theorem under_iCloneP_any : Tryz.prog.underlying 111 = some (.slice EST) := by kernel_rfl
theorem iCloneP_any (A : Option Addr) (n c : Nat) (ss : List ByteArray) (w : World) (h : RdS w w.heap.size A n ss) (hn : n ≤ 1099511627776) :
    Calls Tryz.prog 110 #[.slice A n c] w fun e w' => ∃ A' c', e = .returned (.slice A' n c') ∧ OwnS w' w.heap.size w'.heap.size A' n c' ss ∧ Below w.heap.size w w' := by
  have q24 : ∀ (w : World) (a : Option Addr) (n c n' c' : Nat), (binOp .eql 111 (.slice a n c) (.slice none n' c')).run Tryz.prog w = .ok (.bool a.isNone) w := fun w a n c n' c' => Lib.run_eql_slice_nil w _ _ a n c n' c' under_iCloneP_any
  have H := Lib.hid h
  rcases A with _ | a
  · have hn0 : n = 0 := by
      rcases Nat.eq_zero_or_pos n with h0 | h0
      · exact h0
      · obtain ⟨_, _, e, _⟩ := H.out.cells h0
        cases e
    subst hn0
    obtain rfl : ss = [] := List.eq_nil_of_length_eq_zero H.out.len
    clear h H
    go_enter Tryz.func110, Tryz.ntmps110
    go_wp2
    go_ret
    exact ⟨none, 0, rfl, OwnS.nil _ _ _, Below.refl _ _⟩
  · clear h
    go_enter Tryz.func110, Tryz.ntmps110
    go_wp2_with (at_builtin; refine wp_appT under_iCloneP_any rfl _ _ rfl rfl (OwnS.lit0 w (Nat.le_refl _)) rfl (H.out.alloc (Nat.le_refl _) _) (by omega) (by simp) ?_; intro A' c' w' hown hgr)
    simp only [Nat.zero_add, List.nil_append] at hown ⊢
    go_ret
    exact ⟨A', c', rfl, hown, ((Below.refl _ _).alloc (Nat.le_refl _) _).trans (hgr.below (by simp) (fun a e => by injection e with e; subst e; simp))⟩
theorem ilabels_any (A : Option Addr) (n c : Nat) (ss : List ByteArray) (w : World) (h : RdS w w.heap.size A n ss) (hn : n ≤ 1099511627776) :
    Calls Tryz.prog 88 #[.slice A n c] w fun e w' => ∃ A' c', e = .returned (.slice A' n c') ∧ OwnS w' w.heap.size w'.heap.size A' n c' ss ∧ Below w.heap.size w w' := by
  have HK := Lib.hid (iCloneP_any A n c ss w h hn)
  clear h
  go_enter Tryz.func88, Tryz.ntmps88
  go_wp2_with fail
  refine HK.out.mono ?_
  rintro e w1 ⟨A1, c1, rfl, hown, hb⟩
  go_wp2
  go_ret
  exact ⟨A1, c1, rfl, hown, hb⟩
end Go.Proofs.YtbhhifoofapgiaaGreat.C05I
