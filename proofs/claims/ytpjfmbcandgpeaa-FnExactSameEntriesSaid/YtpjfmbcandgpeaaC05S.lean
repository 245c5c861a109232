/- Chapter 5: what the model's functions on paths return. -/
import Derived.Test.YtpjfmbcandgpeaaM05
import Derived.Test.YtpjfmbcandgpeaaC04I
import Derived.Test.YtpjfmbcandgpeaaC01
import Derived.RegionTactic
namespace Go.Proofs.Ytpjfmbcandgpeaa.C05S
open Go.RowKit Mem MemS M02 M04 M05 C01 C02 C04S C04I
set_option linter.unusedVariables false
set_option maxRecDepth 100000
theorem inR_isPth {ss : List ByteArray} {n : Nat} (hl : ss.length = n) (h : ∀ j, j < n → isLab (ss.getD j .empty) = true) : inR (n : Int) 1 4 = isPth ss := by
  subst hl
  rw [isPth_all h]
  by_cases hh : 1 ≤ ss.length ∧ ss.length ≤ 4
  · rw [inR_true (by omega) (by omega)]
    exact (decide_eq_true hh).symm
  · rw [inR_false (by omega)]
    exact (decide_eq_false hh).symm
theorem getD_size {ss : List ByteArray} {j m : Nat} (h : ∀ s ∈ ss, s.size ≤ m) (hj : j < ss.length) : (ss.getD j .empty).size ≤ m := by
  refine h _ ?_
  rw [List.getD, List.getElem?_eq_getElem hj]
  exact List.getElem_mem hj
theorem sIsPath_any (B : Nat) (A : Option Addr) (n c : Nat) (ss : List ByteArray) (w : World) (h : RdS w B A n ss) (hB : B ≤ w.heap.size) (hn : n ≤ 1099511627776) (hss : ∀ s ∈ ss, s.size ≤ 1099511627776) :
    Calls Try.prog 87 #[.slice A n c] w fun e w' => e = .returned (.bool (isPth ss)) ∧ Below w.heap.size w w' := by
  have HL := Lib.hid h.len
  have HSS := Lib.hid hss
  have H := Lib.hid (h.more hB)
  clear hss h hB
  go_enter Try.func87, Try.ntmps87
  go_wp2
  go_loopw [3] (fun i wr => ∃ j : Nat, j ≤ n ∧ i = .int .i64 j ∧ (∀ k, k < j → isLab (ss.getD k .empty) = true) ∧ Below w.heap.size w wr) (fun i _ => n - (intOf i).toNat)
  case atStart => exact ⟨0, by omega, rfl, fun k hk => absurd hk (by omega), Below.refl _ _⟩
  case round =>
    obtain ⟨j, hj, rfl, hf, hbel⟩ := hrel
    have HB := Lib.hid hbel
    have HF := Lib.hid hf
    clear hbel hf
    by_cases hjn : j < n
    · obtain ⟨b, off, rfl, hlt, hc⟩ := (H.out.below HB.out (Nat.le_refl _)).cell_at hjn
      have hjl : j < ss.length := by rw [HL.out]; exact hjn
      have hK := fun w => sIsLabel_b (ss.getD j .empty) w (getD_size HSS.out hjl)
      rcases hlk : isLab (ss.getD j .empty) with _ | _
      · have HP := Lib.hid (isPth_bad hjl hlk)
        rw [hlk] at hK
        have HK := Lib.hid hK
        clear hK hlk hjl
        generalize ss.getD j .empty = s at hc HK
        go_wp2_with fail
        refine (HK.out _).mono ?_
        rintro e w1 ⟨rfl, hb1⟩
        have HB1 := Lib.hid (HB.out.trans (hb1.mono HB.out.size))
        clear hb1
        go_wp2
        go_ret
        exact ⟨by rw [HP.out]; rfl, HB1.out⟩
      · have HJ := Lib.hid hlk
        rw [hlk] at hK
        have HK := Lib.hid hK
        clear hK hlk hjl
        generalize hs : ss.getD j .empty = s at hc HK HJ
        have HS := Lib.hid hs
        clear hs
        go_wp2_with fail
        refine (HK.out _).mono ?_
        rintro e w1 ⟨rfl, hb1⟩
        have HB1 := Lib.hid (HB.out.trans (hb1.mono HB.out.size))
        clear hb1
        go_wp2
        go_roundw
        case rel => exact ⟨j + 1, by omega, by go_num, fun k hk => by
          rcases Nat.lt_or_ge k j with h1 | h1
          · exact HF.out k h1
          · obtain rfl : k = j := by omega
            rw [HS.out]
            exact HJ.out, HB1.out⟩
        case measure => simp [intOf]; omega
    · obtain rfl : j = n := by omega
      have HP := Lib.hid (inR_isPth HL.out HF.out)
      clear hj hjn
      go_wp2_with fail
      refine (l1In_any _ _ _ _).mono ?_
      rintro e w1 ⟨rfl, rfl⟩
      go_wp2
      go_ret
      exact ⟨by rw [HP.out]; rfl, HB.out⟩
theorem sSamePath_any (B B2 : Nat) (A A2 : Option Addr) (n c m c2 : Nat) (ss ts : List ByteArray) (w : World) (h : RdS w B A n ss) (h2 : RdS w B2 A2 m ts) (hn : n ≤ 1099511627776) (hm : m ≤ 1099511627776) :
    Calls Try.prog 88 #[.slice A n c, .slice A2 m c2] w fun e w' => e = .returned (.bool (decide (ss = ts))) ∧ Same w w' := by
  by_cases hnm : n = m
  · subst hnm
    have HL := Lib.hid h.len
    have HL2 := Lib.hid h2.len
    go_enter Try.func88, Try.ntmps88
    go_wp2
    go_loopw [5] (fun i wr => ∃ j : Nat, j ≤ n ∧ i = .int .i64 j ∧ (∀ k, k < j → ss.getD k .empty = ts.getD k .empty) ∧ Same w wr) (fun i _ => n - (intOf i).toNat)
    case atStart => exact ⟨0, by omega, rfl, fun k hk => absurd hk (by omega), Same.refl _⟩
    case round =>
      obtain ⟨j, hj, rfl, hf, hsm⟩ := hrel
      have HF := Lib.hid hf
      clear hf
      by_cases hjn : j < n
      · obtain ⟨b, off, rfl, _, hcj⟩ := (h.same hsm).cell_at hjn
        obtain ⟨b', off', rfl, _, hcj'⟩ := (h2.same hsm).cell_at hjn
        have HS := Lib.hid hsm
        clear h h2 hsm
        generalize hx : ss.getD j .empty = x at hcj
        generalize hy : ts.getD j .empty = y at hcj'
        have HX := Lib.hid hx
        have HY := Lib.hid hy
        clear hx hy
        by_cases he : x.toList = y.toList
        · have hxy : x = y := by
            have h1 := toList_beq x y
            rw [he] at h1
            simp at h1
            exact h1
          have HXY := Lib.hid hxy
          subst hxy
          clear he
          go_wp2
          go_region
          all_goals (try go_wp2)
          go_roundw
          case rel => exact ⟨j + 1, by omega, by go_num, fun k hk => by
            rcases Nat.lt_or_ge k j with h1 | h1
            · exact HF.out k h1
            · obtain rfl : k = j := by omega
              rw [HX.out, HY.out], HS.out.drew⟩
          case measure => simp [intOf]; omega
        · have hne : (x.toList == y.toList) = false := beq_eq_false_iff_ne.2 he
          have HN := Lib.hid (show ss ≠ ts from fun e => he (by rw [← HX.out, ← HY.out, e]))
          clear he
          go_wp2
          go_region
          all_goals (try go_wp2)
          go_ret
          exact ⟨by rw [decide_eq_false HN.out]; rfl, HS.out.drew⟩
      · have HE := Lib.hid (show ss = ts from List.ext_getElem (by rw [HL.out, HL2.out]) fun i h1 h3 => by
          have := HF.out i (by have := HL.out; omega)
          rw [List.getD, List.getD, List.getElem?_eq_getElem h1, List.getElem?_eq_getElem h3] at this
          exact this)
        clear h h2
        go_wp2
        go_ret
        exact ⟨by rw [decide_eq_true HE.out]; rfl, hsm⟩
  · have hne : ss ≠ ts := fun e => hnm (by rw [← h.len, ← h2.len, e])
    have hnm' : ¬ (n : Int) = m := by omega
    have HN := Lib.hid hne
    clear h h2 hne
    go_enter Try.func88, Try.ntmps88
    go_wp2
    go_ret
    exact ⟨by rw [decide_eq_false HN.out]; rfl, Same.refl _⟩
theorem l5Copy_any (A : Option Addr) (n c : Nat) (ss : List ByteArray) (w : World) (h : RdS w w.heap.size A n ss) (hn : n ≤ 1099511627776) :
    Calls Try.prog 79 #[.slice A n c] w fun e w' => ∃ A' c', e = .returned (.slice A' n c') ∧ OwnS w' w.heap.size w'.heap.size A' n c' ss ∧ Below w.heap.size w w' := by
  have H := Lib.hid h
  clear h
  go_enter Try.func79, Try.ntmps79
  go_wp2_with (at_builtin; refine wp_appS rfl _ _ rfl rfl (OwnS.lit0 w (Nat.le_refl _)) rfl (H.out.alloc (Nat.le_refl _) _) (by omega) (by simp) ?_; intro A' c' w' hown hgr)
  simp only [Nat.zero_add, List.nil_append] at hown ⊢
  go_ret
  exact ⟨A', c', rfl, hown, ((Below.refl _ _).alloc (Nat.le_refl _) _).trans (hgr.below (by simp) (fun a e => by injection e with e; subst e; simp))⟩
theorem rdS_take {w : World} {B n k : Nat} {A : Option Addr} {ss : List ByteArray} (h : RdS w B A n ss) (hk : k ≤ n) : RdS w B A k (ss.take k) := by
  have hl := h.len
  refine ⟨by simp; omega, fun z hz => h.wf z (List.mem_of_mem_take hz), fun hn => ?_⟩
  obtain ⟨b, off, e, hlt, hc⟩ := h.cells (by omega)
  refine ⟨b, off, e, hlt, fun j hj => ?_⟩
  rw [hc j (by omega)]
  simp [hj]
end Go.Proofs.Ytpjfmbcandgpeaa.C05S
