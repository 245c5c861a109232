/- Chapter 5: what the model's functions on paths return. -/
import Derived.Test.YtkgdgnjlmcodlaaM05
import Derived.Test.YtkgdgnjlmcodlaaC04I
import Derived.Test.YtkgdgnjlmcodlaaC01
import Derived.RegionTactic
namespace Go.Proofs.Ytkgdgnjlmcodlaa.C05S
open Go.RowKit Mem MemS M02 M04 M05 C01 C02 C04S C04I
set_option linter.unusedVariables false
set_option maxRecDepth 100000
theorem inR_isPth {ss : List ByteArray} {n : Nat} (hl : ss.length = n) (h : ∀ j, j < n → isLab (ss.getD j .empty) = true) : inR (n : Int) 1 4 = isPth ss := by
  subst hl
  rw [isPth_all h]
  by_cases hh : 1 ≤ ss.length ∧ ss.length ≤ 4
  · rw [inR_true (by omega) (by omega)]
    exact (decide_eq_true hh).symm
  · rw [inR_false (by omega)]
    exact (decide_eq_false hh).symm
theorem getD_size {ss : List ByteArray} {j m : Nat} (h : ∀ s ∈ ss, s.size ≤ m) (hj : j < ss.length) : (ss.getD j .empty).size ≤ m := by
  refine h _ ?_
  rw [List.getD, List.getElem?_eq_getElem hj]
  exact List.getElem_mem hj
theorem sIsPath_any (B : Nat) (A : Option Addr) (n c : Nat) (ss : List ByteArray) (w : World) (h : RdS w B A n ss) (hB : B ≤ w.heap.size) (hn : n ≤ 1099511627776) (hss : ∀ s ∈ ss, s.size ≤ 1099511627776) :
    Calls Try.prog 10 #[.slice A n c] w fun e w' => e = .returned (.bool (isPth ss)) ∧ Below w.heap.size w w' := by
  have HL := Lib.hid h.len
  have HSS := Lib.hid hss
  have H := Lib.hid (h.more hB)
  clear hss h hB
  go_enter Try.func10, Try.ntmps10
  go_wp2
  go_loopw [3] (fun i wr => ∃ j : Nat, j ≤ n ∧ i = .int .i64 j ∧ (∀ k, k < j → isLab (ss.getD k .empty) = true) ∧ Below w.heap.size w wr) (fun i _ => n - (intOf i).toNat)
  case atStart => exact ⟨0, by omega, rfl, fun k hk => absurd hk (by omega), Below.refl _ _⟩
  case round =>
    obtain ⟨j, hj, rfl, hf, hbel⟩ := hrel
    have HB := Lib.hid hbel
    have HF := Lib.hid hf
    clear hbel hf
    by_cases hjn : j < n
    · obtain ⟨b, off, rfl, hlt, hc⟩ := (H.out.below HB.out (Nat.le_refl _)).cell_at hjn
      have hjl : j < ss.length := by rw [HL.out]; exact hjn
      have hK := fun w => sIsLabel_b (ss.getD j .empty) w (getD_size HSS.out hjl)
      rcases hlk : isLab (ss.getD j .empty) with _ | _
      · have HP := Lib.hid (isPth_bad hjl hlk)
        rw [hlk] at hK
        have HK := Lib.hid hK
        clear hK hlk hjl
        generalize ss.getD j .empty = s at hc HK
        go_wp2_with fail
        refine (HK.out _).mono ?_
        rintro e w1 ⟨rfl, hb1⟩
        have HB1 := Lib.hid (HB.out.trans (hb1.mono HB.out.size))
        clear hb1
        go_wp2
        go_ret
        exact ⟨by rw [HP.out]; rfl, HB1.out⟩
      · have HJ := Lib.hid hlk
        rw [hlk] at hK
        have HK := Lib.hid hK
        clear hK hlk hjl
        generalize hs : ss.getD j .empty = s at hc HK HJ
        have HS := Lib.hid hs
        clear hs
        go_wp2_with fail
        refine (HK.out _).mono ?_
        rintro e w1 ⟨rfl, hb1⟩
        have HB1 := Lib.hid (HB.out.trans (hb1.mono HB.out.size))
        clear hb1
        go_wp2
        go_roundw
        case rel => exact ⟨j + 1, by omega, by go_num, fun k hk => by
          rcases Nat.lt_or_ge k j with h1 | h1
          · exact HF.out k h1
          · obtain rfl : k = j := by omega
            rw [HS.out]
            exact HJ.out, HB1.out⟩
        case measure => simp [intOf]; omega
    · obtain rfl : j = n := by omega
      have HP := Lib.hid (inR_isPth HL.out HF.out)
      clear hj hjn
      go_wp2_with fail
      refine (l1In_any _ _ _ _).mono ?_
      rintro e w1 ⟨rfl, rfl⟩
      go_wp2
      go_ret
      exact ⟨by rw [HP.out]; rfl, HB.out⟩
theorem sSamePath_any (B B2 : Nat) (A A2 : Option Addr) (n c m c2 : Nat) (ss ts : List ByteArray) (w : World) (h : RdS w B A n ss) (h2 : RdS w B2 A2 m ts) (hn : n ≤ 1099511627776) (hm : m ≤ 1099511627776) :
    Calls Try.prog 24 #[.slice A n c, .slice A2 m c2] w fun e w' => e = .returned (.bool (decide (ss = ts))) ∧ Same w w' := by
  by_cases hnm : n = m
  · subst hnm
    have HL := Lib.hid h.len
    have HL2 := Lib.hid h2.len
    go_enter Try.func24, Try.ntmps24
    go_wp2
    go_loopw [5] (fun i wr => ∃ j : Nat, j ≤ n ∧ i = .int .i64 j ∧ (∀ k, k < j → ss.getD k .empty = ts.getD k .empty) ∧ Same w wr) (fun i _ => n - (intOf i).toNat)
    case atStart => exact ⟨0, by omega, rfl, fun k hk => absurd hk (by omega), Same.refl _⟩
    case round =>
      obtain ⟨j, hj, rfl, hf, hsm⟩ := hrel
      have HF := Lib.hid hf
      clear hf
      by_cases hjn : j < n
      · obtain ⟨b, off, rfl, _, hcj⟩ := (h.same hsm).cell_at hjn
        obtain ⟨b', off', rfl, _, hcj'⟩ := (h2.same hsm).cell_at hjn
        have HS := Lib.hid hsm
        clear h h2 hsm
        generalize hx : ss.getD j .empty = x at hcj
        generalize hy : ts.getD j .empty = y at hcj'
        have HX := Lib.hid hx
        have HY := Lib.hid hy
        clear hx hy
        by_cases he : x.toList = y.toList
        · have hxy : x = y := by
            have h1 := toList_beq x y
            rw [he] at h1
            simp at h1
            exact h1
          have HXY := Lib.hid hxy
          subst hxy
          clear he
          go_wp2
          go_region
          all_goals (try go_wp2)
          go_roundw
          case rel => exact ⟨j + 1, by omega, by go_num, fun k hk => by
            rcases Nat.lt_or_ge k j with h1 | h1
            · exact HF.out k h1
            · obtain rfl : k = j := by omega
              rw [HX.out, HY.out], HS.out.drew⟩
          case measure => simp [intOf]; omega
        · have hne : (x.toList == y.toList) = false := beq_eq_false_iff_ne.2 he
          have HN := Lib.hid (show ss ≠ ts from fun e => he (by rw [← HX.out, ← HY.out, e]))
          clear he
          go_wp2
          go_region
          all_goals (try go_wp2)
          go_ret
          exact ⟨by rw [decide_eq_false HN.out]; rfl, HS.out.drew⟩
      · have HE := Lib.hid (show ss = ts from List.ext_getElem (by rw [HL.out, HL2.out]) fun i h1 h3 => by
          have := HF.out i (by have := HL.out; omega)
          rw [List.getD, List.getD, List.getElem?_eq_getElem h1, List.getElem?_eq_getElem h3] at this
          exact this)
        clear h h2
        go_wp2
        go_ret
        exact ⟨by rw [decide_eq_true HE.out]; rfl, hsm⟩
  · have hne : ss ≠ ts := fun e => hnm (by rw [← h.len, ← h2.len, e])
    have hnm' : ¬ (n : Int) = m := by omega
    have HN := Lib.hid hne
    clear h h2 hne
    go_enter Try.func24, Try.ntmps24
    go_wp2
    go_ret
    exact ⟨by rw [decide_eq_false HN.out]; rfl, Same.refl _⟩
theorem l5Copy_any (A : Option Addr) (n c : Nat) (ss : List ByteArray) (w : World) (h : RdS w w.heap.size A n ss) (hn : n ≤ 1099511627776) :
    Calls Try.prog 30 #[.slice A n c] w fun e w' => ∃ A' c', e = .returned (.slice A' n c') ∧ OwnS w' w.heap.size w'.heap.size A' n c' ss ∧ Below w.heap.size w w' := by
  have H := Lib.hid h
  clear h
  go_enter Try.func30, Try.ntmps30
  go_wp2_with (at_builtin; refine wp_appS rfl _ _ rfl rfl (OwnS.lit0 w (Nat.le_refl _)) rfl (H.out.alloc (Nat.le_refl _) _) (by omega) (by simp) ?_; intro A' c' w' hown hgr)
  simp only [Nat.zero_add, List.nil_append] at hown ⊢
  go_ret
  exact ⟨A', c', rfl, hown, ((Below.refl _ _).alloc (Nat.le_refl _) _).trans (hgr.below (by simp) (fun a e => by injection e with e; subst e; simp))⟩
theorem rdS_take {w : World} {B n k : Nat} {A : Option Addr} {ss : List ByteArray} (h : RdS w B A n ss) (hk : k ≤ n) : RdS w B A k (ss.take k) := by
  have hl := h.len
  refine ⟨by simp; omega, fun z hz => h.wf z (List.mem_of_mem_take hz), fun hn => ?_⟩
  obtain ⟨b, off, e, hlt, hc⟩ := h.cells (by omega)
  refine ⟨b, off, e, hlt, fun j hj => ?_⟩
  rw [hc j (by omega)]
  simp [hj]
theorem sFormatPath_any (A : Option Addr) (n c : Nat) (ss : List ByteArray) (w : World) (h : RdS w w.heap.size A n ss) (hn : n ≤ 1099511627776) (hss : ∀ s ∈ ss, s.size ≤ 1099511627776) :
    Calls Try.prog 14 #[.slice A n c] w fun e w' => e = .returned (.string (fmtP ss)) ∧ Below w.heap.size w w' := by
  have hK := sIsPath_any _ A n c ss w h (Nat.le_refl _) hn hss
  rcases hp : isPth ss with _ | _
  · rw [hp] at hK
    rw [fmt_no hp]
    have HK := Lib.hid hK
    clear hK hp h hss
    go_enter Try.func14, Try.ntmps14
    go_wp2_with fail
    refine HK.out.mono ?_
    rintro e w1 ⟨rfl, hb⟩
    go_wp2
    go_ret
    exact ⟨rfl, hb⟩
  · rw [hp] at hK
    have hlen := isPth_len hp
    have HL := Lib.hid h.len
    rw [HL.out] at hlen
    have H := Lib.hid h
    have HK := Lib.hid hK
    have HY := Lib.hid (fmt_yes hp)
    have HZ := Lib.hid (fmt_part hp)
    have HLb := Lib.hid (isPth_lab hp)
    clear hK hp h hss
    go_enter Try.func14, Try.ntmps14
    go_wp2_with fail
    refine HK.out.mono ?_
    rintro e w1 ⟨rfl, hb⟩
    obtain ⟨b, off, rfl, hlt, hc⟩ := (H.out.below hb (Nat.le_refl _)).cell_at (j := 0) (by omega)
    rw [fmt_one (by rw [HL.out]; omega)] at hc
    rw [Nat.add_zero] at hc
    have HB := Lib.hid hb
    have HR := Lib.hid (H.out.below hb (Nat.le_refl _))
    clear hb
    generalize hs0 : ofL (jn ((ss.take 1).map bys)) = s0 at hc
    have HS0 := Lib.hid hs0
    clear hs0
    go_wp2
    go_loop [3, 4] (fun v i => ∃ j : Nat, j ≤ n ∧ 1 ≤ j ∧ i = .int .i64 j ∧ v = .string (ofL (jn ((ss.take j).map bys)))) (fun _ i => n - (intOf i).toNat)
    case atStart => exact ⟨1, by omega, by omega, rfl, by rw [HS0.out]⟩
    case round =>
      obtain ⟨j, hj, hj1, rfl, rfl⟩ := hrel
      by_cases hjn : j < n
      · obtain ⟨b', off', e0, _, hcj⟩ := HR.out.cell_at hjn
        injection e0 with e0
        injection e0 with e1 e2 e3
        subst e1 e2
        have hst := fmt_step hj1 (show j < ss.length by rw [HL.out]; exact hjn)
        have hz := HZ.out j
        have HST := Lib.hid hst
        generalize hx : ss.getD j .empty = x at hcj
        have HX := Lib.hid hx
        generalize hv : ofL (jn ((ss.take j).map bys)) = v at hz
        have HV := Lib.hid hv
        have hx8 : x.size ≤ 8 := by
          rw [← HX.out]
          exact (isLab_size (HLb.out _ (by rw [List.getD, List.getElem?_eq_getElem (show j < ss.length by rw [HL.out]; exact hjn)]; exact List.getElem_mem _))).2
        have hv37 : (v ++ ⟨#[47]⟩).size ≤ 37 := by
          rw [ByteArray.size_append]
          exact Nat.add_le_add_right hz 1
        clear hst hx hv hc
        go_wp2
        go_round
        case rel => exact ⟨j + 1, by omega, by omega, by go_num, by rw [← HST.out, HV.out, HX.out]⟩
        case measure => simp [intOf]; omega
      · obtain rfl : j = n := by omega
        clear hc hj hjn
        have HY2 := HY.out
        rw [HL.out] at HY2
        have HY3 := Lib.hid HY2
        clear HY2
        generalize hv : ofL (jn ((ss.take j).map bys)) = v at HY3
        clear hv
        go_wp2
        go_ret
        exact ⟨by rw [HY3.out]; rfl, HB.out⟩
theorem sJoinPath_any (A : Option Addr) (n c : Nat) (ss : List ByteArray) (s : ByteArray) (w : World) (h : RdS w w.heap.size A n ss) (hn : n ≤ 1099511627775) (hss : ∀ s ∈ ss, s.size ≤ 1099511627776) (hs : s.size ≤ 1099511627776) :
    Calls Try.prog 20 #[.slice A n c, .string s] w fun e w' => ∃ A' c', e = .returned (.tuple #[.slice A' (joinP ss s).1.length c', .bool (joinP ss s).2]) ∧ OwnS w' w.heap.size w'.heap.size A' (joinP ss s).1.length c' (joinP ss s).1 ∧ Below w.heap.size w w' := by
  have hall : ∀ x ∈ ss ++ [s], x.size ≤ 1099511627776 := fun x hx => by
    rcases List.mem_append.1 hx with hx | hx
    · exact hss x hx
    · rw [List.mem_singleton.1 hx]; exact hs
  have HA := Lib.hid hall
  have HL := Lib.hid h.len
  have hz : InS s := by unfold InS maxLen; omega
  have H := Lib.hid h
  clear hall h hss
  unfold joinP
  rcases hp : isPth (ss ++ [s]) with _ | _
  · have HP := Lib.hid hp
    simp only [Bool.false_eq_true, if_false]
    clear hp
    go_enter Try.func20, Try.ntmps20
    go_wp2_with fail
    refine (l5Copy_any A n c ss w H.out (by omega)).mono ?_
    rintro e w1 ⟨A1, c1, rfl, hown, hb⟩
    have HO := Lib.hid hown
    have HB := Lib.hid hb
    clear hown hb
    go_wp2_with (at_builtin; refine wp_pushS (z := s) rfl _ _ rfl rfl HO.out rfl hz (by omega) HB.out.size ?_; intro A2 c2 w2 hown2 hgr2)
    have HB2 := Lib.hid (HB.out.trans (hgr2.below HB.out.size HO.out.ge))
    have HO2 := Lib.hid hown2
    clear hown2 hgr2
    go_wp2_with fail
    refine (sIsPath_any _ _ _ _ _ _ HO2.out.rd (Nat.le_refl _) (by omega) HA.out).mono ?_
    rw [HP.out]
    rintro e w3 ⟨rfl, hb3⟩
    have HB3 := Lib.hid (HB2.out.trans (hb3.mono HB2.out.size))
    clear hb3
    go_wp2
    go_ret2
    exact ⟨_, _, rfl, (OwnS.lit0 w3 HB3.out.size).top, HB3.out.alloc HB3.out.size _⟩
  · have HP := Lib.hid hp
    simp only [if_true]
    have hl : (ss ++ [s]).length = n + 1 := by rw [List.length_append, HL.out]; rfl
    rw [hl]
    clear hp hl
    go_enter Try.func20, Try.ntmps20
    go_wp2_with fail
    refine (l5Copy_any A n c ss w H.out (by omega)).mono ?_
    rintro e w1 ⟨A1, c1, rfl, hown, hb⟩
    have HO := Lib.hid hown
    have HB := Lib.hid hb
    clear hown hb
    go_wp2_with (at_builtin; refine wp_pushS (z := s) rfl _ _ rfl rfl HO.out rfl hz (by omega) HB.out.size ?_; intro A2 c2 w2 hown2 hgr2)
    have HB2 := Lib.hid (HB.out.trans (hgr2.below HB.out.size HO.out.ge))
    have HO2 := Lib.hid hown2
    clear hown2 hgr2
    go_wp2_with fail
    refine (sIsPath_any _ _ _ _ _ _ HO2.out.rd (Nat.le_refl _) (by omega) HA.out).mono ?_
    rw [HP.out]
    rintro e w3 ⟨rfl, hb3⟩
    have HO3 := Lib.hid (HO2.out.below hb3 (Nat.le_refl _)).top
    have HB3 := Lib.hid (HB2.out.trans (hb3.mono HB2.out.size))
    clear hb3
    go_wp2
    go_ret2
    exact ⟨_, _, rfl, HO3.out, HB3.out⟩
theorem sParentOf_any (A : Option Addr) (n c : Nat) (ss : List ByteArray) (w : World) (h : RdS w w.heap.size A n ss) (hn : n ≤ 1099511627776) (hnc : n ≤ c) (hss : ∀ s ∈ ss, s.size ≤ 1099511627776) :
    Calls Try.prog 16 #[.slice A n c] w fun e w' => ∃ A' c', e = .returned (.tuple #[.slice A' (parP ss).1.length c', .bool (parP ss).2]) ∧ OwnS w' w.heap.size w'.heap.size A' (parP ss).1.length c' (parP ss).1 ∧ Below w.heap.size w w' := by
  have hK := sIsPath_any _ A n c ss w h (Nat.le_refl _) hn hss
  have HL := Lib.hid h.len
  rcases hp : isPth ss with _ | _
  · rw [show parP ss = ([], false) from by unfold parP; rw [hp]; rfl]
    rw [hp] at hK
    have HK := Lib.hid hK
    clear hK hp h hss
    go_enter Try.func16, Try.ntmps16
    go_wp2_with fail
    refine HK.out.mono ?_
    rintro e w1 ⟨rfl, hb⟩
    have HB := Lib.hid hb
    clear hb
    go_wp2
    go_ret2
    exact ⟨_, _, rfl, (OwnS.lit0 w1 HB.out.size).top, HB.out.alloc HB.out.size _⟩
  · have hlen := isPth_len hp
    rw [HL.out] at hlen
    rw [hp] at hK
    by_cases h1 : n = 1
    · subst h1
      rw [show parP ss = ([], false) from by unfold parP; rw [hp, HL.out]; rfl]
      have HK := Lib.hid hK
      clear hK hp h hss hlen
      go_enter Try.func16, Try.ntmps16
      go_wp2_with fail
      refine HK.out.mono ?_
      rintro e w1 ⟨rfl, hb⟩
      have HB := Lib.hid hb
      clear hb
      go_wp2
      go_ret2
      exact ⟨_, _, rfl, (OwnS.lit0 w1 HB.out.size).top, HB.out.alloc HB.out.size _⟩
    · have hpar : parP ss = (ss.take (n - 1), true) := by
        unfold parP
        rw [hp, HL.out, decide_eq_true h1]
        rfl
      rw [hpar]
      have hl2 : (ss.take (n - 1)).length = n - 1 := by rw [List.length_take, HL.out]; omega
      simp only [hl2]
      have H := Lib.hid (rdS_take h (k := n - 1) (by omega))
      have HK := Lib.hid hK
      have hi1 : ((n : Int) == 1) = false := by simp; omega
      have hi2 : ((n : Int) - 1).toNat = n - 1 := by omega
      clear hK hp h hss hpar hl2
      go_enter Try.func16, Try.ntmps16
      go_wp2_with fail
      refine HK.out.mono ?_
      rintro e w1 ⟨rfl, hb⟩
      have HB := Lib.hid hb
      have HR := Lib.hid ((H.out.below hb (Nat.le_refl _)).more hb.size)
      clear hb
      go_wp2_with fail
      refine (l5Copy_any A (n - 1) _ _ w1 HR.out (by omega)).mono ?_
      rintro e w2 ⟨A2, c2, rfl, hown2, hb2⟩
      have HO2 := Lib.hid hown2
      have HB2 := Lib.hid (HB.out.trans (hb2.mono HB.out.size))
      clear hown2 hb2
      go_wp2
      go_ret2
      exact ⟨_, _, rfl, HO2.out.base HB.out.size, HB2.out⟩
theorem sIsBelow_any (A A2 : Option Addr) (n c m c2 : Nat) (ss ts : List ByteArray) (w : World) (h : RdS w w.heap.size A n ss) (h2 : RdS w w.heap.size A2 m ts) (hn : n ≤ 1099511627776) (hnc : n ≤ c) (hm : m ≤ 1099511627776) (hss : ∀ s ∈ ss, s.size ≤ 1099511627776) (hts : ∀ s ∈ ts, s.size ≤ 1099511627776) :
    Calls Try.prog 22 #[.slice A n c, .slice A2 m c2] w fun e w' => e = .returned (.bool (belowP ss ts)) ∧ Below w.heap.size w w' := by
  have HL := Lib.hid h.len
  have HL2 := Lib.hid h2.len
  have hK := sIsPath_any _ A n c ss w h (Nat.le_refl _) hn hss
  have hK2 := fun w1 (hb : Below w.heap.size w w1) => sIsPath_any _ A2 m c2 ts w1 (h2.below hb (Nat.le_refl _)) hb.size hm hts
  rcases hp : isPth ss with _ | _
  · rw [show belowP ss ts = false from by unfold belowP; rw [hp]; rfl]
    rw [hp] at hK
    have HK := Lib.hid hK
    clear hK hK2 hp h h2 hss hts
    go_enter Try.func22, Try.ntmps22
    go_wp2_with fail
    refine HK.out.mono ?_
    rintro e w1 ⟨rfl, hb⟩
    have HB := Lib.hid hb
    clear hb
    go_wp2
    go_ret
    exact ⟨rfl, HB.out⟩
  rcases hq : isPth ts with _ | _
  · rw [show belowP ss ts = false from by unfold belowP; rw [hp, hq]; rfl]
    rw [hp] at hK
    rw [hq] at hK2
    have HK := Lib.hid hK
    have HK2 := Lib.hid hK2
    clear hK hK2 hp hq h h2 hss hts
    go_enter Try.func22, Try.ntmps22
    go_wp2_with fail
    refine HK.out.mono ?_
    rintro e w1 ⟨rfl, hb⟩
    have HB := Lib.hid hb
    clear hb
    go_wp2_with fail
    refine (HK2.out _ HB.out).mono ?_
    rintro e w2 ⟨rfl, hb2⟩
    have HB2 := Lib.hid (HB.out.trans (hb2.mono HB.out.size))
    clear hb2
    go_wp2
    go_ret
    exact ⟨rfl, HB2.out⟩
  by_cases hlt : m < n
  · have hbl : belowP ss ts = decide (ss.take m = ts) := by
      unfold belowP
      rw [hp, hq, HL.out, HL2.out, decide_eq_true hlt]
      rfl
    rw [hbl]
    rw [hp] at hK
    rw [hq] at hK2
    have HK := Lib.hid hK
    have HK2 := Lib.hid hK2
    have H := Lib.hid (rdS_take h (k := m) (by omega))
    have H2 := Lib.hid h2
    clear hK hK2 hp hq h h2 hss hts hbl
    have hlti : (m : Int) < n := by omega
    go_enter Try.func22, Try.ntmps22
    go_wp2_with fail
    refine HK.out.mono ?_
    rintro e w1 ⟨rfl, hb⟩
    have HB := Lib.hid hb
    clear hb
    go_wp2_with fail
    refine (HK2.out _ HB.out).mono ?_
    rintro e w2 ⟨rfl, hb2⟩
    have HB2 := Lib.hid (HB.out.trans (hb2.mono HB.out.size))
    clear hb2
    go_wp2_with fail
    refine (sSamePath_any _ _ A A2 m _ m c2 _ _ w2 (H.out.below HB2.out (Nat.le_refl _)) (H2.out.below HB2.out (Nat.le_refl _)) (by omega) (by omega)).mono ?_
    rintro e w3 ⟨rfl, hs3⟩
    have HB3 := Lib.hid (HB2.out.trans (hs3.below _))
    clear hs3
    go_wp2
    go_ret
    exact ⟨rfl, HB3.out⟩
  · rw [show belowP ss ts = false from by
      unfold belowP
      rw [hp, hq, HL.out, HL2.out, decide_eq_false hlt]
      rfl]
    rw [hp] at hK
    rw [hq] at hK2
    have HK := Lib.hid hK
    have HK2 := Lib.hid hK2
    clear hK hK2 hp hq h h2 hss hts
    have hlti : ¬ (m : Int) < n := by omega
    go_enter Try.func22, Try.ntmps22
    go_wp2_with fail
    refine HK.out.mono ?_
    rintro e w1 ⟨rfl, hb⟩
    have HB := Lib.hid hb
    clear hb
    go_wp2_with fail
    refine (HK2.out _ HB.out).mono ?_
    rintro e w2 ⟨rfl, hb2⟩
    have HB2 := Lib.hid (HB.out.trans (hb2.mono HB.out.size))
    clear hb2
    go_wp2
    go_ret
    exact ⟨rfl, HB2.out⟩
end Go.Proofs.Ytkgdgnjlmcodlaa.C05S
