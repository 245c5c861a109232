/- Chapter 5: what the model's functions on paths return. -/
import Derived.Test.YtkgdgnjlmcodlaaDoorM05
import Derived.Test.YtkgdgnjlmcodlaaDoorC04I
import Derived.Test.YtkgdgnjlmcodlaaDoorC01
import Derived.RegionTactic
namespace Go.Proofs.YtkgdgnjlmcodlaaDoor.C05S
open Go.RowKit Mem MemS M02 M04 M05 C01 C02 C04S C04I
set_option linter.unusedVariables false
set_option maxRecDepth 100000
theorem inR_isPth {ss : List ByteArray} {n : Nat} (hl : ss.length = n) (h : ∀ j, j < n → isLab (ss.getD j .empty) = true) : inR (n : Int) 1 4 = isPth ss := by
  subst hl
  rw [isPth_all h]
  by_cases hh : 1 ≤ ss.length ∧ ss.length ≤ 4
  · rw [inR_true (by omega) (by omega)]
    exact (decide_eq_true hh).symm
  · rw [inR_false (by omega)]
    exact (decide_eq_false hh).symm
theorem getD_size {ss : List ByteArray} {j m : Nat} (h : ∀ s ∈ ss, s.size ≤ m) (hj : j < ss.length) : (ss.getD j .empty).size ≤ m := by
  refine h _ ?_
  rw [List.getD, List.getElem?_eq_getElem hj]
  exact List.getElem_mem hj
theorem sIsPath_any (B : Nat) (A : Option Addr) (n c : Nat) (ss : List ByteArray) (w : World) (h : RdS w B A n ss) (hB : B ≤ w.heap.size) (hn : n ≤ 1099511627776) (hss : ∀ s ∈ ss, s.size ≤ 1099511627776) :
    Calls Tryd.prog 12 #[.slice A n c] w fun e w' => e = .returned (.bool (isPth ss)) ∧ Below w.heap.size w w' := by
  have HL := Lib.hid h.len
  have HSS := Lib.hid hss
  have H := Lib.hid (h.more hB)
  clear hss h hB
  go_enter Tryd.func12, Tryd.ntmps12
  go_wp2
  go_loopw [3] (fun i wr => ∃ j : Nat, j ≤ n ∧ i = .int .i64 j ∧ (∀ k, k < j → isLab (ss.getD k .empty) = true) ∧ Below w.heap.size w wr) (fun i _ => n - (intOf i).toNat)
  case atStart => exact ⟨0, by omega, rfl, fun k hk => absurd hk (by omega), Below.refl _ _⟩
  case round =>
    obtain ⟨j, hj, rfl, hf, hbel⟩ := hrel
    have HB := Lib.hid hbel
    have HF := Lib.hid hf
    clear hbel hf
    by_cases hjn : j < n
    · obtain ⟨b, off, rfl, hlt, hc⟩ := (H.out.below HB.out (Nat.le_refl _)).cell_at hjn
      have hjl : j < ss.length := by rw [HL.out]; exact hjn
      have hK := fun w => sIsLabel_b (ss.getD j .empty) w (getD_size HSS.out hjl)
      rcases hlk : isLab (ss.getD j .empty) with _ | _
      · have HP := Lib.hid (isPth_bad hjl hlk)
        rw [hlk] at hK
        have HK := Lib.hid hK
        clear hK hlk hjl
        generalize ss.getD j .empty = s at hc HK
        go_wp2_with fail
        refine (HK.out _).mono ?_
        rintro e w1 ⟨rfl, hb1⟩
        have HB1 := Lib.hid (HB.out.trans (hb1.mono HB.out.size))
        clear hb1
        go_wp2
        go_ret
        exact ⟨by rw [HP.out]; rfl, HB1.out⟩
      · have HJ := Lib.hid hlk
        rw [hlk] at hK
        have HK := Lib.hid hK
        clear hK hlk hjl
        generalize hs : ss.getD j .empty = s at hc HK HJ
        have HS := Lib.hid hs
        clear hs
        go_wp2_with fail
        refine (HK.out _).mono ?_
        rintro e w1 ⟨rfl, hb1⟩
        have HB1 := Lib.hid (HB.out.trans (hb1.mono HB.out.size))
        clear hb1
        go_wp2
        go_roundw
        case rel => exact ⟨j + 1, by omega, by go_num, fun k hk => by
          rcases Nat.lt_or_ge k j with h1 | h1
          · exact HF.out k h1
          · obtain rfl : k = j := by omega
            rw [HS.out]
            exact HJ.out, HB1.out⟩
        case measure => simp [intOf]; omega
    · obtain rfl : j = n := by omega
      have HP := Lib.hid (inR_isPth HL.out HF.out)
      clear hj hjn
      go_wp2_with fail
      refine (l1In_any _ _ _ _).mono ?_
      rintro e w1 ⟨rfl, rfl⟩
      go_wp2
      go_ret
      exact ⟨by rw [HP.out]; rfl, HB.out⟩
theorem sSamePath_any (B B2 : Nat) (A A2 : Option Addr) (n c m c2 : Nat) (ss ts : List ByteArray) (w : World) (h : RdS w B A n ss) (h2 : RdS w B2 A2 m ts) (hn : n ≤ 1099511627776) (hm : m ≤ 1099511627776) :
    Calls Tryd.prog 41 #[.slice A n c, .slice A2 m c2] w fun e w' => e = .returned (.bool (decide (ss = ts))) ∧ Same w w' := by
  by_cases hnm : n = m
  · subst hnm
    have HL := Lib.hid h.len
    have HL2 := Lib.hid h2.len
    go_enter Tryd.func41, Tryd.ntmps41
    go_wp2
    go_loopw [5] (fun i wr => ∃ j : Nat, j ≤ n ∧ i = .int .i64 j ∧ (∀ k, k < j → ss.getD k .empty = ts.getD k .empty) ∧ Same w wr) (fun i _ => n - (intOf i).toNat)
    case atStart => exact ⟨0, by omega, rfl, fun k hk => absurd hk (by omega), Same.refl _⟩
    case round =>
      obtain ⟨j, hj, rfl, hf, hsm⟩ := hrel
      have HF := Lib.hid hf
      clear hf
      by_cases hjn : j < n
      · obtain ⟨b, off, rfl, _, hcj⟩ := (h.same hsm).cell_at hjn
        obtain ⟨b', off', rfl, _, hcj'⟩ := (h2.same hsm).cell_at hjn
        have HS := Lib.hid hsm
        clear h h2 hsm
        generalize hx : ss.getD j .empty = x at hcj
        generalize hy : ts.getD j .empty = y at hcj'
        have HX := Lib.hid hx
        have HY := Lib.hid hy
        clear hx hy
        by_cases he : x.toList = y.toList
        · have hxy : x = y := by
            have h1 := toList_beq x y
            rw [he] at h1
            simp at h1
            exact h1
          have HXY := Lib.hid hxy
          subst hxy
          clear he
          go_wp2
          go_region
          all_goals (try go_wp2)
          go_roundw
          case rel => exact ⟨j + 1, by omega, by go_num, fun k hk => by
            rcases Nat.lt_or_ge k j with h1 | h1
            · exact HF.out k h1
            · obtain rfl : k = j := by omega
              rw [HX.out, HY.out], HS.out.drew⟩
          case measure => simp [intOf]; omega
        · have hne : (x.toList == y.toList) = false := beq_eq_false_iff_ne.2 he
          have HN := Lib.hid (show ss ≠ ts from fun e => he (by rw [← HX.out, ← HY.out, e]))
          clear he
          go_wp2
          go_region
          all_goals (try go_wp2)
          go_ret
          exact ⟨by rw [decide_eq_false HN.out]; rfl, HS.out.drew⟩
      · have HE := Lib.hid (show ss = ts from List.ext_getElem (by rw [HL.out, HL2.out]) fun i h1 h3 => by
          have := HF.out i (by have := HL.out; omega)
          rw [List.getD, List.getD, List.getElem?_eq_getElem h1, List.getElem?_eq_getElem h3] at this
          exact this)
        clear h h2
        go_wp2
        go_ret
        exact ⟨by rw [decide_eq_true HE.out]; rfl, hsm⟩
  · have hne : ss ≠ ts := fun e => hnm (by rw [← h.len, ← h2.len, e])
    have hnm' : ¬ (n : Int) = m := by omega
    have HN := Lib.hid hne
    clear h h2 hne
    go_enter Tryd.func41, Tryd.ntmps41
    go_wp2
    go_ret
    exact ⟨by rw [decide_eq_false HN.out]; rfl, Same.refl _⟩
theorem l5Copy_any (A : Option Addr) (n c : Nat) (ss : List ByteArray) (w : World) (h : RdS w w.heap.size A n ss) (hn : n ≤ 1099511627776) :
    Calls Tryd.prog 39 #[.slice A n c] w fun e w' => ∃ A' c', e = .returned (.slice A' n c') ∧ OwnS w' w.heap.size w'.heap.size A' n c' ss ∧ Below w.heap.size w w' := by
  have H := Lib.hid h
  clear h
  go_enter Tryd.func39, Tryd.ntmps39
  go_wp2_with (at_builtin; refine wp_appS rfl _ _ rfl rfl (OwnS.lit0 w (Nat.le_refl _)) rfl (H.out.alloc (Nat.le_refl _) _) (by omega) (by simp) ?_; intro A' c' w' hown hgr)
  simp only [Nat.zero_add, List.nil_append] at hown ⊢
  go_ret
  exact ⟨A', c', rfl, hown, ((Below.refl _ _).alloc (Nat.le_refl _) _).trans (hgr.below (by simp) (fun a e => by injection e with e; subst e; simp))⟩
theorem sub_eq (s : ByteArray) (a b : Nat) (hab : a ≤ b) (hb : b ≤ s.size) : s.extract a b = ofL (((bys s).take b).drop a) := by
  apply bys_inj
  rw [bys_ofL]
  unfold bys
  rw [ByteArray.data_extract, Array.toList_extract, List.extract_eq_take_drop, List.drop_take]
theorem sub_size (s : ByteArray) (a b : Nat) (hab : a ≤ b) (hb : b ≤ s.size) : (s.extract a b).size ≤ s.size := by
  rw [sub_eq s a b hab hb, ofL_size]
  simp [bys_len]
  omega
theorem bys_at (s : ByteArray) (j : Nat) (hj : j < s.size) : (bys s).drop j = s[j]'hj :: (bys s).drop (j + 1) := by
  rw [List.drop_eq_getElem_cons (by rw [bys_len]; exact hj)]
  rfl
theorem bys_take (s : ByteArray) (j : Nat) (hj : j < s.size) : (bys s).take (j + 1) = (bys s).take j ++ [s[j]'hj] := by
  rw [List.take_succ_eq_append_getElem (by rw [bys_len]; exact hj)]
  rfl
theorem u8_47 {x : UInt8} (h : (x.toNat : Int) = 47) : x = 47 := by
  apply UInt8.toNat_inj.1
  have : x.toNat = 47 := by omega
  rw [this]
  rfl
theorem split_slash {s : ByteArray} {a j : Nat} {d : List ByteArray} (haj : a ≤ j) (hj : j < s.size) (h : ((s[j]'hj).toNat : Int) = 47)
    (hd : d ++ (onH (((bys s).take j).drop a) (splitL ((bys s).drop j))).map ofL = splitS s) :
    (d ++ [s.extract a j]) ++ (onH (((bys s).take (j + 1)).drop (j + 1)) (splitL ((bys s).drop (j + 1)))).map ofL = splitS s := by
  rw [← hd, bys_at s j hj, u8_47 h, splitL_slash, sub_eq s a j haj (by omega)]
  have e : ((bys s).take (j + 1)).drop (j + 1) = [] := List.drop_eq_nil_of_le (by simp; omega)
  rw [e, onH_nil]
  simp [onH]
theorem split_other {s : ByteArray} {a j : Nat} {d : List ByteArray} (haj : a ≤ j) (hj : j < s.size) (h : ¬ ((s[j]'hj).toNat : Int) = 47)
    (hd : d ++ (onH (((bys s).take j).drop a) (splitL ((bys s).drop j))).map ofL = splitS s) :
    d ++ (onH (((bys s).take (j + 1)).drop a) (splitL ((bys s).drop (j + 1)))).map ofL = splitS s := by
  rw [← hd, bys_at s j hj, splitL_other (fun e => h (by rw [e]; rfl)), onH_onH, bys_take s j hj, List.drop_append_of_le_length (by simp [bys_len]; omega)]
theorem split_end {s : ByteArray} {a : Nat} {d : List ByteArray} (haj : a ≤ s.size)
    (hd : d ++ (onH (((bys s).take s.size).drop a) (splitL ((bys s).drop s.size))).map ofL = splitS s) :
    d ++ [s.extract a s.size] = splitS s := by
  rw [← hd, sub_eq s a s.size haj (Nat.le_refl _), show (bys s).drop s.size = [] from List.drop_eq_nil_of_le (by rw [bys_len]; omega)]
  simp [splitL, onH]
set_option maxHeartbeats 1000000 in
theorem l5Split_any (s : ByteArray) (w : World) (hs : s.size ≤ 1099511627776) :
    Calls Tryd.prog 36 #[.string s, .int .u8 47] w fun e w' => ∃ A' c', e = .returned (.slice A' (splitS s).length c') ∧ OwnS w' w.heap.size w'.heap.size A' (splitS s).length c' (splitS s) ∧ Below w.heap.size w w' := by
  have HO := Lib.hid (OwnS.lit0 (lo := w.heap.size) w (Nat.le_refl _))
  go_enter Tryd.func36, Tryd.ntmps36
  go_wp2
  go_loopw [5, 6, 7] (fun v f i wr => ∃ (A1 : Option Addr) (c1 m a j : Nat) (d : List ByteArray), v = .slice A1 m c1 ∧ f = .int .i64 a ∧ i = .int .i64 j ∧ m ≤ j ∧ j ≤ s.size + 1 ∧ (a ≤ j ∧ j ≤ s.size ∧ d ++ (onH (((bys s).take j).drop a) (splitL ((bys s).drop j))).map ofL = splitS s ∨ j = s.size + 1 ∧ d = splitS s) ∧ OwnS wr w.heap.size wr.heap.size A1 m c1 d ∧ Below w.heap.size w wr) (fun _ _ i _ => s.size + 1 - (intOf i).toNat)
  case atStart => exact ⟨_, 0, 0, 0, 0, [], rfl, rfl, rfl, by omega, by omega, .inl ⟨by omega, by omega, by simp [onH_nil, splitS]⟩, HO.out.top, (Below.refl _ _).alloc (Nat.le_refl _) _⟩
  case round =>
    obtain ⟨A1, c1, m, a, j, d, rfl, rfl, rfl, hmj, hj, hcase, hown, hbel⟩ := hrel
    have HOr := Lib.hid hown
    have HBr := Lib.hid hbel
    clear hown hbel
    rcases hcase with ⟨haj, hjs, hd⟩ | ⟨rfl, hd⟩
    · have HD := Lib.hid hd
      clear hd
      by_cases hjn : j < s.size
      · have hb := byte_lt s j hjn
        by_cases h47 : ((s[j]'hjn).toNat : Int) = 47
        · have HD1 := Lib.hid (split_slash haj hjn h47 HD.out)
          have hz : InS (s.extract a j) := by
            have := sub_size s a j haj hjs
            unfold InS maxLen
            omega
          have hjb : ((j : Int) == (s.size : Int)) = false := by simp; omega
          go_wp2_with (at_builtin; refine wp_pushS (z := s.extract a j) rfl _ _ rfl rfl HOr.out rfl hz (by omega) HBr.out.size ?_; intro A2 c2 w4 hown4 hgr4)
          have hb4 := hgr4.below HBr.out.size HOr.out.ge
          go_roundw
          case rel => exact ⟨A2, c2, m + 1, j + 1, j + 1, _, rfl, by go_num, by go_num, by omega, by omega, .inl ⟨by omega, by omega, HD1.out⟩, hown4.base (by omega), HBr.out.trans hb4⟩
          case measure => simp [intOf]; omega
        · have HD1 := Lib.hid (split_other haj hjn h47 HD.out)
          have hjb : ((j : Int) == (s.size : Int)) = false := by simp; omega
          have hne : (((s[j]'hjn).toNat : Int) == 47) = false := beq_eq_false_iff_ne.2 h47
          go_wp2
          go_roundw
          case rel => exact ⟨A1, c1, m, a, j + 1, d, rfl, rfl, by go_num, by omega, by omega, .inl ⟨by omega, by omega, HD1.out⟩, HOr.out, HBr.out⟩
          case measure => simp [intOf]; omega
      · obtain rfl : j = s.size := by omega
        have HD1 := Lib.hid (split_end haj HD.out)
        have hz : InS (s.extract a s.size) := by
          have := sub_size s a s.size haj hjs
          unfold InS maxLen
          omega
        clear hjn hjs hj
        go_wp2_with (at_builtin; refine wp_pushS (z := s.extract a s.size) rfl _ _ rfl rfl HOr.out rfl hz (by omega) HBr.out.size ?_; intro A2 c2 w4 hown4 hgr4)
        have hb4 := hgr4.below HBr.out.size HOr.out.ge
        go_roundw
        case rel => exact ⟨A2, c2, m + 1, s.size + 1, s.size + 1, _, rfl, by go_num, by go_num, by omega, by omega, .inr ⟨rfl, HD1.out⟩, hown4.base (by omega), HBr.out.trans hb4⟩
        case measure => simp [intOf]
    · subst hd
      have HL := Lib.hid HOr.out.len
      clear hmj hj
      go_wp2
      go_ret
      exact ⟨A1, c1, by rw [HL.out]; rfl, by rw [HL.out]; exact HOr.out, HBr.out⟩
theorem rdS_take {w : World} {B n k : Nat} {A : Option Addr} {ss : List ByteArray} (h : RdS w B A n ss) (hk : k ≤ n) : RdS w B A k (ss.take k) := by
  have hl := h.len
  refine ⟨by simp; omega, fun z hz => h.wf z (List.mem_of_mem_take hz), fun hn => ?_⟩
  obtain ⟨b, off, e, hlt, hc⟩ := h.cells (by omega)
  refine ⟨b, off, e, hlt, fun j hj => ?_⟩
  rw [hc j (by omega)]
  simp [hj]
theorem sFormatPath_any (A : Option Addr) (n c : Nat) (ss : List ByteArray) (w : World) (h : RdS w w.heap.size A n ss) (hn : n ≤ 1099511627776) (hss : ∀ s ∈ ss, s.size ≤ 1099511627776) :
    Calls Tryd.prog 31 #[.slice A n c] w fun e w' => e = .returned (.string (fmtP ss)) ∧ Below w.heap.size w w' := by
  have hK := sIsPath_any _ A n c ss w h (Nat.le_refl _) hn hss
  rcases hp : isPth ss with _ | _
  · rw [hp] at hK
    rw [fmt_no hp]
    have HK := Lib.hid hK
    clear hK hp h hss
    go_enter Tryd.func31, Tryd.ntmps31
    go_wp2_with fail
    refine HK.out.mono ?_
    rintro e w1 ⟨rfl, hb⟩
    go_wp2
    go_ret
    exact ⟨rfl, hb⟩
  · rw [hp] at hK
    have hlen := isPth_len hp
    have HL := Lib.hid h.len
    rw [HL.out] at hlen
    have H := Lib.hid h
    have HK := Lib.hid hK
    have HY := Lib.hid (fmt_yes hp)
    have HZ := Lib.hid (fmt_part hp)
    have HLb := Lib.hid (isPth_lab hp)
    clear hK hp h hss
    go_enter Tryd.func31, Tryd.ntmps31
    go_wp2_with fail
    refine HK.out.mono ?_
    rintro e w1 ⟨rfl, hb⟩
    obtain ⟨b, off, rfl, hlt, hc⟩ := (H.out.below hb (Nat.le_refl _)).cell_at (j := 0) (by omega)
    rw [fmt_one (by rw [HL.out]; omega)] at hc
    rw [Nat.add_zero] at hc
    have HB := Lib.hid hb
    have HR := Lib.hid (H.out.below hb (Nat.le_refl _))
    clear hb
    generalize hs0 : ofL (jn ((ss.take 1).map bys)) = s0 at hc
    have HS0 := Lib.hid hs0
    clear hs0
    go_wp2
    go_loop [3, 4] (fun v i => ∃ j : Nat, j ≤ n ∧ 1 ≤ j ∧ i = .int .i64 j ∧ v = .string (ofL (jn ((ss.take j).map bys)))) (fun _ i => n - (intOf i).toNat)
    case atStart => exact ⟨1, by omega, by omega, rfl, by rw [HS0.out]⟩
    case round =>
      obtain ⟨j, hj, hj1, rfl, rfl⟩ := hrel
      by_cases hjn : j < n
      · obtain ⟨b', off', e0, _, hcj⟩ := HR.out.cell_at hjn
        injection e0 with e0
        injection e0 with e1 e2 e3
        subst e1 e2
        have hst := fmt_step hj1 (show j < ss.length by rw [HL.out]; exact hjn)
        have hz := HZ.out j
        have HST := Lib.hid hst
        generalize hx : ss.getD j .empty = x at hcj
        have HX := Lib.hid hx
        generalize hv : ofL (jn ((ss.take j).map bys)) = v at hz
        have HV := Lib.hid hv
        have hx8 : x.size ≤ 8 := by
          rw [← HX.out]
          exact (isLab_size (HLb.out _ (by rw [List.getD, List.getElem?_eq_getElem (show j < ss.length by rw [HL.out]; exact hjn)]; exact List.getElem_mem _))).2
        have hv37 : (v ++ ⟨#[47]⟩).size ≤ 37 := by
          rw [ByteArray.size_append]
          exact Nat.add_le_add_right hz 1
        clear hst hx hv hc
        go_wp2
        go_round
        case rel => exact ⟨j + 1, by omega, by omega, by go_num, by rw [← HST.out, HV.out, HX.out]⟩
        case measure => simp [intOf]; omega
      · obtain rfl : j = n := by omega
        clear hc hj hjn
        have HY2 := HY.out
        rw [HL.out] at HY2
        have HY3 := Lib.hid HY2
        clear HY2
        generalize hv : ofL (jn ((ss.take j).map bys)) = v at HY3
        clear hv
        go_wp2
        go_ret
        exact ⟨by rw [HY3.out]; rfl, HB.out⟩
theorem sParsePath_any (s : ByteArray) (w : World) (hs : s.size ≤ 1099511627775) :
    Calls Tryd.prog 13 #[.string s] w fun e w' => ∃ A' c', e = .returned (.tuple #[.slice A' (prsP s).1.length c', .bool (prsP s).2]) ∧ OwnS w' w.heap.size w'.heap.size A' (prsP s).1.length c' (prsP s).1 ∧ Below w.heap.size w w' := by
  have HL := Lib.hid (splitS_len s)
  unfold prsP
  rcases hp : isPth (splitS s) with _ | _
  · have HP := Lib.hid hp
    simp only [Bool.false_eq_true, if_false]
    clear hp
    go_enter Tryd.func13, Tryd.ntmps13
    go_wp2_with fail
    refine (l5Split_any s w (by omega)).mono ?_
    rintro e w1 ⟨A1, c1, rfl, hown, hb⟩
    have HO := Lib.hid hown
    have HB := Lib.hid hb
    clear hown hb
    go_wp2_with fail
    refine (sIsPath_any _ _ _ _ _ _ HO.out.rd (Nat.le_refl _) (by have := HL.out.1; omega) (fun x hx => by have := HL.out.2 x hx; omega)).mono ?_
    rw [HP.out]
    rintro e w2 ⟨rfl, hb2⟩
    have HB2 := Lib.hid (HB.out.trans (hb2.mono HB.out.size))
    clear hb2
    go_wp2
    go_ret2
    exact ⟨_, _, rfl, (OwnS.lit0 w2 HB2.out.size).top, HB2.out.alloc HB2.out.size _⟩
  · have HP := Lib.hid hp
    simp only [if_true]
    clear hp
    go_enter Tryd.func13, Tryd.ntmps13
    go_wp2_with fail
    refine (l5Split_any s w (by omega)).mono ?_
    rintro e w1 ⟨A1, c1, rfl, hown, hb⟩
    have HO := Lib.hid hown
    have HB := Lib.hid hb
    clear hown hb
    go_wp2_with fail
    refine (sIsPath_any _ _ _ _ _ _ HO.out.rd (Nat.le_refl _) (by have := HL.out.1; omega) (fun x hx => by have := HL.out.2 x hx; omega)).mono ?_
    rw [HP.out]
    rintro e w2 ⟨rfl, hb2⟩
    have HO2 := Lib.hid (HO.out.below hb2 (Nat.le_refl _)).top
    have HB2 := Lib.hid (HB.out.trans (hb2.mono HB.out.size))
    clear hb2
    go_wp2
    go_ret2
    exact ⟨_, _, rfl, HO2.out, HB2.out⟩
theorem sIsBelow_any (A A2 : Option Addr) (n c m c2 : Nat) (ss ts : List ByteArray) (w : World) (h : RdS w w.heap.size A n ss) (h2 : RdS w w.heap.size A2 m ts) (hn : n ≤ 1099511627776) (hnc : n ≤ c) (hm : m ≤ 1099511627776) (hss : ∀ s ∈ ss, s.size ≤ 1099511627776) (hts : ∀ s ∈ ts, s.size ≤ 1099511627776) :
    Calls Tryd.prog 18 #[.slice A n c, .slice A2 m c2] w fun e w' => e = .returned (.bool (belowP ss ts)) ∧ Below w.heap.size w w' := by
  have HL := Lib.hid h.len
  have HL2 := Lib.hid h2.len
  have hK := sIsPath_any _ A n c ss w h (Nat.le_refl _) hn hss
  have hK2 := fun w1 (hb : Below w.heap.size w w1) => sIsPath_any _ A2 m c2 ts w1 (h2.below hb (Nat.le_refl _)) hb.size hm hts
  rcases hp : isPth ss with _ | _
  · rw [show belowP ss ts = false from by unfold belowP; rw [hp]; rfl]
    rw [hp] at hK
    have HK := Lib.hid hK
    clear hK hK2 hp h h2 hss hts
    go_enter Tryd.func18, Tryd.ntmps18
    go_wp2_with fail
    refine HK.out.mono ?_
    rintro e w1 ⟨rfl, hb⟩
    have HB := Lib.hid hb
    clear hb
    go_wp2
    go_ret
    exact ⟨rfl, HB.out⟩
  rcases hq : isPth ts with _ | _
  · rw [show belowP ss ts = false from by unfold belowP; rw [hp, hq]; rfl]
    rw [hp] at hK
    rw [hq] at hK2
    have HK := Lib.hid hK
    have HK2 := Lib.hid hK2
    clear hK hK2 hp hq h h2 hss hts
    go_enter Tryd.func18, Tryd.ntmps18
    go_wp2_with fail
    refine HK.out.mono ?_
    rintro e w1 ⟨rfl, hb⟩
    have HB := Lib.hid hb
    clear hb
    go_wp2_with fail
    refine (HK2.out _ HB.out).mono ?_
    rintro e w2 ⟨rfl, hb2⟩
    have HB2 := Lib.hid (HB.out.trans (hb2.mono HB.out.size))
    clear hb2
    go_wp2
    go_ret
    exact ⟨rfl, HB2.out⟩
  by_cases hlt : m < n
  · have hbl : belowP ss ts = decide (ss.take m = ts) := by
      unfold belowP
      rw [hp, hq, HL.out, HL2.out, decide_eq_true hlt]
      rfl
    rw [hbl]
    rw [hp] at hK
    rw [hq] at hK2
    have HK := Lib.hid hK
    have HK2 := Lib.hid hK2
    have H := Lib.hid (rdS_take h (k := m) (by omega))
    have H2 := Lib.hid h2
    clear hK hK2 hp hq h h2 hss hts hbl
    have hlti : (m : Int) < n := by omega
    go_enter Tryd.func18, Tryd.ntmps18
    go_wp2_with fail
    refine HK.out.mono ?_
    rintro e w1 ⟨rfl, hb⟩
    have HB := Lib.hid hb
    clear hb
    go_wp2_with fail
    refine (HK2.out _ HB.out).mono ?_
    rintro e w2 ⟨rfl, hb2⟩
    have HB2 := Lib.hid (HB.out.trans (hb2.mono HB.out.size))
    clear hb2
    go_wp2_with fail
    refine (sSamePath_any _ _ A A2 m _ m c2 _ _ w2 (H.out.below HB2.out (Nat.le_refl _)) (H2.out.below HB2.out (Nat.le_refl _)) (by omega) (by omega)).mono ?_
    rintro e w3 ⟨rfl, hs3⟩
    have HB3 := Lib.hid (HB2.out.trans (hs3.below _))
    clear hs3
    go_wp2
    go_ret
    exact ⟨rfl, HB3.out⟩
  · rw [show belowP ss ts = false from by
      unfold belowP
      rw [hp, hq, HL.out, HL2.out, decide_eq_false hlt]
      rfl]
    rw [hp] at hK
    rw [hq] at hK2
    have HK := Lib.hid hK
    have HK2 := Lib.hid hK2
    clear hK hK2 hp hq h h2 hss hts
    have hlti : ¬ (m : Int) < n := by omega
    go_enter Tryd.func18, Tryd.ntmps18
    go_wp2_with fail
    refine HK.out.mono ?_
    rintro e w1 ⟨rfl, hb⟩
    have HB := Lib.hid hb
    clear hb
    go_wp2_with fail
    refine (HK2.out _ HB.out).mono ?_
    rintro e w2 ⟨rfl, hb2⟩
    have HB2 := Lib.hid (HB.out.trans (hb2.mono HB.out.size))
    clear hb2
    go_wp2
    go_ret
    exact ⟨rfl, HB2.out⟩
end Go.Proofs.YtkgdgnjlmcodlaaDoor.C05S
