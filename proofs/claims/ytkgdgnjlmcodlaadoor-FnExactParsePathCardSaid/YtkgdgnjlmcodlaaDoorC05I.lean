/- Chapter 5: what the program's functions on paths return. -/
import Derived.Test.YtkgdgnjlmcodlaaDoorC05S
import Derived.Test.YtkgdgnjlmcodlaaDoorShelf
import Derived.Lib.Join
import Derived.Test.YtkgdgnjlmcodlaaDoorC05G
import Derived.Lib.SliceRun
namespace Go.Proofs.YtkgdgnjlmcodlaaDoor.C05I
open Go.RowKit Mem MemS M02 M04 M05 C01 C02 C04S C04I C05S
set_option linter.unusedVariables false
set_option maxRecDepth 100000
theorem iisPath_any (B : Nat) (A : Option Addr) (n c : Nat) (ss : List ByteArray) (w : World) (h : RdS w B A n ss) (hB : B ≤ w.heap.size) (hn : n ≤ 1099511627776) (hss : ∀ s ∈ ss, s.size ≤ 1099511627776) :
    Calls Tryd.prog 25 #[.slice A n c] w fun e w' => e = .returned (.bool (isPth ss)) ∧ Below w.heap.size w w' := by
  have HL := Lib.hid h.len
  have HSS := Lib.hid hss
  have H := Lib.hid (h.more hB)
  clear hss h hB
  have hI := fun w => inRange_any (n : Int) 1 4 w
  by_cases hin : 1 ≤ n ∧ n ≤ 4
  · have e1 : inR (n : Int) 1 4 = true := by unfold inR; simp; omega
    rw [e1] at hI
    have HI := Lib.hid hI
    clear hI
    go_enter Tryd.func25, Tryd.ntmps25
    go_wp2_with fail
    refine (HI.out _).mono ?_
    rintro e w1 ⟨rfl, rfl⟩
    go_wp2
    go_loopw [11] (fun i wr => ∃ j : Nat, j ≤ n ∧ i = .int .i64 j ∧ (∀ k, k < j → isLab (ss.getD k .empty) = true) ∧ Below w.heap.size w wr) (fun i _ => n - (intOf i).toNat)
    case atStart => exact ⟨0, by omega, rfl, fun k hk => absurd hk (by omega), Below.refl _ _⟩
    case round =>
      obtain ⟨j, hj, rfl, hf, hbel⟩ := hrel
      have HB := Lib.hid hbel
      have HF := Lib.hid hf
      clear hbel hf
      by_cases hjn : j < n
      · obtain ⟨b, off, rfl, hlt, hc⟩ := (H.out.below HB.out (Nat.le_refl _)).cell_at hjn
        have hjl : j < ss.length := by rw [HL.out]; exact hjn
        have hK := fun w => iIsLabel_b (ss.getD j .empty) w (getD_size HSS.out hjl)
        rcases hlk : isLab (ss.getD j .empty) with _ | _
        · have HP := Lib.hid (isPth_bad hjl hlk)
          rw [hlk] at hK
          have HK := Lib.hid hK
          clear hK hlk hjl
          generalize ss.getD j .empty = s at hc HK
          go_wp2_with fail
          refine (HK.out _).mono ?_
          rintro e w1 ⟨rfl, hb1⟩
          have HB1 := Lib.hid (HB.out.trans (hb1.mono HB.out.size))
          clear hb1
          go_wp2
          go_ret
          exact ⟨by rw [HP.out]; rfl, HB1.out⟩
        · have HJ := Lib.hid hlk
          rw [hlk] at hK
          have HK := Lib.hid hK
          clear hK hlk hjl
          generalize hs : ss.getD j .empty = s at hc HK HJ
          have HS := Lib.hid hs
          clear hs
          go_wp2_with fail
          refine (HK.out _).mono ?_
          rintro e w1 ⟨rfl, hb1⟩
          have HB1 := Lib.hid (HB.out.trans (hb1.mono HB.out.size))
          clear hb1
          go_wp2
          go_roundw
          case rel => exact ⟨j + 1, by omega, by go_num, fun k hk => by
            rcases Nat.lt_or_ge k j with h1 | h1
            · exact HF.out k h1
            · obtain rfl : k = j := by omega
              rw [HS.out]
              exact HJ.out, HB1.out⟩
          case measure => simp [intOf]; omega
      · obtain rfl : j = n := by omega
        have HP := Lib.hid (inR_isPth HL.out HF.out)
        have HE := Lib.hid e1
        clear hj hjn e1
        go_wp2
        go_ret
        exact ⟨by rw [← HP.out, HE.out]; rfl, HB.out⟩
  · have e1 : inR (n : Int) 1 4 = false := by unfold inR; simp; omega
    have HP := Lib.hid (isPth_long (p := ss) (by rw [HL.out]; omega))
    rw [e1] at hI
    have HI := Lib.hid hI
    clear hI e1
    go_enter Tryd.func25, Tryd.ntmps25
    go_wp2_with fail
    refine (HI.out _).mono ?_
    rintro e w1 ⟨rfl, rfl⟩
    go_wp2
    go_ret
    exact ⟨by rw [HP.out]; rfl, Below.refl _ _⟩
theorem iIsPath_any (B : Nat) (A : Option Addr) (n c : Nat) (ss : List ByteArray) (w : World) (h : RdS w B A n ss) (hB : B ≤ w.heap.size) (hn : n ≤ 1099511627776) (hss : ∀ s ∈ ss, s.size ≤ 1099511627776) :
    Calls Tryd.prog 10 #[.slice A n c] w fun e w' => e = .returned (.bool (isPth ss)) ∧ Below w.heap.size w w' := by
  have HK := Lib.hid (iisPath_any B A n c ss w h hB hn hss)
  clear h hss
  go_enter Tryd.func10, Tryd.ntmps10
  go_wp2_with fail
  refine HK.out.mono ?_
  rintro e w1 ⟨rfl, hb⟩
  go_wp2
  go_ret
  exact ⟨rfl, hb⟩
theorem iEqual_any (B B2 : Nat) (A A2 : Option Addr) (n c m c2 : Nat) (ss ts : List ByteArray) (w : World) (h : RdS w B A n ss) (h2 : RdS w B2 A2 m ts) (hn : n ≤ 1099511627776) (hm : m ≤ 1099511627776) :
    Calls Tryd.prog 33 #[.slice A n c, .slice A2 m c2] w fun e w' => e = .returned (.bool (decide (ss = ts))) ∧ Same w w' := by
  by_cases hnm : n = m
  · subst hnm
    have HL := Lib.hid h.len
    have HL2 := Lib.hid h2.len
    go_enter Tryd.func33, Tryd.ntmps33
    go_wp2
    go_loopw [13] (fun i wr => ∃ j : Nat, j ≤ n ∧ i = .int .i64 j ∧ (∀ k, k < j → ss.getD k .empty = ts.getD k .empty) ∧ Same w wr) (fun i _ => n - (intOf i).toNat)
    case atStart => exact ⟨0, by omega, rfl, fun k hk => absurd hk (by omega), Same.refl _⟩
    case round =>
      obtain ⟨j, hj, rfl, hf, hsm⟩ := hrel
      have HF := Lib.hid hf
      clear hf
      by_cases hjn : j < n
      · obtain ⟨b, off, rfl, _, hcj⟩ := (h.same hsm).cell_at hjn
        obtain ⟨b', off', rfl, _, hcj'⟩ := (h2.same hsm).cell_at hjn
        have HS := Lib.hid hsm
        clear h h2 hsm
        generalize hx : ss.getD j .empty = x at hcj
        generalize hy : ts.getD j .empty = y at hcj'
        have HX := Lib.hid hx
        have HY := Lib.hid hy
        clear hx hy
        by_cases he : x.toList = y.toList
        · have hxy : x = y := by
            have h1 := toList_beq x y
            rw [he] at h1
            simp at h1
            exact h1
          have HXY := Lib.hid hxy
          subst hxy
          clear he
          go_wp2
          go_region
          all_goals (try go_wp2)
          go_roundw
          case rel => exact ⟨j + 1, by omega, by go_num, fun k hk => by
            rcases Nat.lt_or_ge k j with h1 | h1
            · exact HF.out k h1
            · obtain rfl : k = j := by omega
              rw [HX.out, HY.out], HS.out.drew⟩
          case measure => simp [intOf]; omega
        · have hne : (x.toList == y.toList) = false := beq_eq_false_iff_ne.2 he
          have HN := Lib.hid (show ss ≠ ts from fun e => he (by rw [← HX.out, ← HY.out, e]))
          clear he
          go_wp2
          go_region
          all_goals (try go_wp2)
          go_ret
          exact ⟨by rw [decide_eq_false HN.out]; rfl, HS.out.drew⟩
      · have HE := Lib.hid (show ss = ts from List.ext_getElem (by rw [HL.out, HL2.out]) fun i h1 h3 => by
          have := HF.out i (by have := HL.out; omega)
          rw [List.getD, List.getD, List.getElem?_eq_getElem h1, List.getElem?_eq_getElem h3] at this
          exact this)
        clear h h2
        go_wp2
        go_ret
        exact ⟨by rw [decide_eq_true HE.out]; rfl, hsm⟩
  · have hne : ss ≠ ts := fun e => hnm (by rw [← h.len, ← h2.len, e])
    have hnm' : ¬ (n : Int) = m := by omega
    have HN := Lib.hid hne
    clear h h2 hne
    go_enter Tryd.func33, Tryd.ntmps33
    go_wp2
    go_ret
    exact ⟨by rw [decide_eq_false HN.out]; rfl, Same.refl _⟩
theorem iSamePath_any (B B2 : Nat) (A A2 : Option Addr) (n c m c2 : Nat) (ss ts : List ByteArray) (w : World) (h : RdS w B A n ss) (h2 : RdS w B2 A2 m ts) (hn : n ≤ 1099511627776) (hm : m ≤ 1099511627776) :
    Calls Tryd.prog 11 #[.slice A n c, .slice A2 m c2] w fun e w' => e = .returned (.bool (decide (ss = ts))) ∧ Same w w' := by
  have HK := Lib.hid (iEqual_any B B2 A A2 n c m c2 ss ts w h h2 hn hm)
  clear h h2
  go_enter Tryd.func11, Tryd.ntmps11
  go_wp2_with fail
  refine HK.out.mono ?_
  rintro e w1 ⟨rfl, hs⟩
  go_wp2
  go_ret
  exact ⟨rfl, hs⟩
theorem iSamePath_b (B B2 : Nat) (A A2 : Option Addr) (n c m c2 : Nat) (ss ts : List ByteArray) (w : World) (h : RdS w B A n ss) (h2 : RdS w B2 A2 m ts) (hn : n ≤ 1099511627776) (hm : m ≤ 1099511627776) :
    Calls Tryd.prog 11 #[.slice A n c, .slice A2 m c2] w fun e w' => e = .returned (.bool (decide (ss = ts))) ∧ Below w.heap.size w w' :=
  (iSamePath_any B B2 A A2 n c m c2 ss ts w h h2 hn hm).mono fun e w' q => ⟨q.1, q.2.below _⟩
theorem under_iClone_any : Tryd.prog.underlying 24 = some (.slice EST) := by kernel_rfl
theorem iClone_any (A : Option Addr) (n c : Nat) (ss : List ByteArray) (w : World) (h : RdS w w.heap.size A n ss) (hn : n ≤ 1099511627776) :
    Calls Tryd.prog 38 #[.slice A n c] w fun e w' => ∃ A' c', e = .returned (.slice A' n c') ∧ OwnS w' w.heap.size w'.heap.size A' n c' ss ∧ Below w.heap.size w w' := by
  have q24 : ∀ (w : World) (a : Option Addr) (n c n' c' : Nat), (binOp .eql 24 (.slice a n c) (.slice none n' c')).run Tryd.prog w = .ok (.bool a.isNone) w := fun w a n c n' c' => Lib.run_eql_slice_nil w _ _ a n c n' c' under_iClone_any
  have H := Lib.hid h
  rcases A with _ | a
  · have hn0 : n = 0 := by
      rcases Nat.eq_zero_or_pos n with h0 | h0
      · exact h0
      · obtain ⟨_, _, e, _⟩ := H.out.cells h0
        cases e
    subst hn0
    obtain rfl : ss = [] := List.eq_nil_of_length_eq_zero H.out.len
    clear h H
    go_enter Tryd.func38, Tryd.ntmps38
    go_wp2
    go_ret
    exact ⟨none, 0, rfl, OwnS.nil _ _ _, Below.refl _ _⟩
  · clear h
    go_enter Tryd.func38, Tryd.ntmps38
    go_wp2_with (at_builtin; refine wp_appT under_iClone_any rfl _ _ rfl rfl (OwnS.lit0 w (Nat.le_refl _)) rfl (H.out.alloc (Nat.le_refl _) _) (by omega) (by simp) ?_; intro A' c' w' hown hgr)
    simp only [Nat.zero_add, List.nil_append] at hown ⊢
    go_ret
    exact ⟨A', c', rfl, hown, ((Below.refl _ _).alloc (Nat.le_refl _) _).trans (hgr.below (by simp) (fun a e => by injection e with e; subst e; simp))⟩
theorem under_iCloneP_any : Tryd.prog.underlying 38 = some (.slice EST) := by kernel_rfl
theorem iCloneP_any (A : Option Addr) (n c : Nat) (ss : List ByteArray) (w : World) (h : RdS w w.heap.size A n ss) (hn : n ≤ 1099511627776) :
    Calls Tryd.prog 46 #[.slice A n c] w fun e w' => ∃ A' c', e = .returned (.slice A' n c') ∧ OwnS w' w.heap.size w'.heap.size A' n c' ss ∧ Below w.heap.size w w' := by
  have q24 : ∀ (w : World) (a : Option Addr) (n c n' c' : Nat), (binOp .eql 38 (.slice a n c) (.slice none n' c')).run Tryd.prog w = .ok (.bool a.isNone) w := fun w a n c n' c' => Lib.run_eql_slice_nil w _ _ a n c n' c' under_iCloneP_any
  have H := Lib.hid h
  rcases A with _ | a
  · have hn0 : n = 0 := by
      rcases Nat.eq_zero_or_pos n with h0 | h0
      · exact h0
      · obtain ⟨_, _, e, _⟩ := H.out.cells h0
        cases e
    subst hn0
    obtain rfl : ss = [] := List.eq_nil_of_length_eq_zero H.out.len
    clear h H
    go_enter Tryd.func46, Tryd.ntmps46
    go_wp2
    go_ret
    exact ⟨none, 0, rfl, OwnS.nil _ _ _, Below.refl _ _⟩
  · clear h
    go_enter Tryd.func46, Tryd.ntmps46
    go_wp2_with (at_builtin; refine wp_appT under_iCloneP_any rfl _ _ rfl rfl (OwnS.lit0 w (Nat.le_refl _)) rfl (H.out.alloc (Nat.le_refl _) _) (by omega) (by simp) ?_; intro A' c' w' hown hgr)
    simp only [Nat.zero_add, List.nil_append] at hown ⊢
    go_ret
    exact ⟨A', c', rfl, hown, ((Below.refl _ _).alloc (Nat.le_refl _) _).trans (hgr.below (by simp) (fun a e => by injection e with e; subst e; simp))⟩
theorem ilabels_any (A : Option Addr) (n c : Nat) (ss : List ByteArray) (w : World) (h : RdS w w.heap.size A n ss) (hn : n ≤ 1099511627776) :
    Calls Tryd.prog 26 #[.slice A n c] w fun e w' => ∃ A' c', e = .returned (.slice A' n c') ∧ OwnS w' w.heap.size w'.heap.size A' n c' ss ∧ Below w.heap.size w w' := by
  have HK := Lib.hid (iCloneP_any A n c ss w h hn)
  clear h
  go_enter Tryd.func26, Tryd.ntmps26
  go_wp2_with fail
  refine HK.out.mono ?_
  rintro e w1 ⟨A1, c1, rfl, hown, hb⟩
  go_wp2
  go_ret
  exact ⟨A1, c1, rfl, hown, hb⟩
theorem iparent_any (A : Option Addr) (n c : Nat) (ss : List ByteArray) (w : World) (h : RdS w w.heap.size A n ss) (hn : n ≤ 1099511627776) (h1 : 1 ≤ n) (hnc : n ≤ c) :
    Calls Tryd.prog 37 #[.slice A n c] w fun e w' => ∃ A' c', e = .returned (.slice A' (n - 1) c') ∧ OwnS w' w.heap.size w'.heap.size A' (n - 1) c' (ss.take (n - 1)) ∧ Below w.heap.size w w' := by
  have hi2 : ((n : Int) - 1).toNat = n - 1 := by omega
  have HK := fun c => Lib.hid (ilabels_any A (n - 1) c _ w (rdS_take h (k := n - 1) (by omega)) (by omega))
  clear h
  go_enter Tryd.func37, Tryd.ntmps37
  go_wp2_with fail
  refine (HK _).out.mono ?_
  rintro e w1 ⟨A1, c1, rfl, hown, hb⟩
  go_wp2
  go_ret
  exact ⟨A1, c1, rfl, hown, hb⟩
theorem ipathIf_no (f : Value) (w : World) :
    Calls Tryd.prog 24 #[.bool false, f] w fun e w' => ∃ A' c', e = .returned (.tuple #[.slice A' 0 c', .bool false]) ∧ OwnS w' w.heap.size w'.heap.size A' 0 c' [] ∧ Below w.heap.size w w' := by
  go_enter Tryd.func24, Tryd.ntmps24
  go_wp2
  go_ret2
  exact ⟨_, _, rfl, (OwnS.lit0 w (Nat.le_refl _)).top, (Below.refl _ w).alloc (Nat.le_refl _) _⟩
theorem ipathIf_labels (A : Option Addr) (n c : Nat) (ss : List ByteArray) (w : World) (h : RdS w w.heap.size A n ss) (hn : n ≤ 1099511627776) :
    Calls Tryd.prog 24 #[.bool true, .func (.func 26) #[.slice A n c] #[]] w fun e w' => ∃ A' c', e = .returned (.tuple #[.slice A' n c', .bool true]) ∧ OwnS w' w.heap.size w'.heap.size A' n c' ss ∧ Below w.heap.size w w' := by
  have HK := Lib.hid (ilabels_any A n c ss w h hn)
  clear h
  go_enter Tryd.func24, Tryd.ntmps24
  go_wp2_with fail
  refine HK.out.mono ?_
  rintro e w1 ⟨A1, c1, rfl, hown, hb⟩
  go_wp2
  go_ret2
  exact ⟨A1, c1, rfl, hown, hb⟩
theorem ipathIf_parent (A : Option Addr) (n c : Nat) (ss : List ByteArray) (w : World) (h : RdS w w.heap.size A n ss) (hn : n ≤ 1099511627776) (h1 : 1 ≤ n) (hnc : n ≤ c) :
    Calls Tryd.prog 24 #[.bool true, .func (.func 37) #[.slice A n c] #[]] w fun e w' => ∃ A' c', e = .returned (.tuple #[.slice A' (n - 1) c', .bool true]) ∧ OwnS w' w.heap.size w'.heap.size A' (n - 1) c' (ss.take (n - 1)) ∧ Below w.heap.size w w' := by
  have HK := Lib.hid (iparent_any A n c ss w h hn h1 hnc)
  clear h
  go_enter Tryd.func24, Tryd.ntmps24
  go_wp2_with fail
  refine HK.out.mono ?_
  rintro e w1 ⟨A1, c1, rfl, hown, hb⟩
  go_wp2
  go_ret2
  exact ⟨A1, c1, rfl, hown, hb⟩
theorem join_jn (l : List (List UInt8)) : Lib.join l [47] = jn l := by
  induction l with
  | nil => rfl
  | cons x r ih =>
    cases r with
    | nil => rw [Lib.join_one]; rfl
    | cons y r =>
      rw [jn_cons x (by simp), ← ih, Lib.join_cons, Lib.join_cons]
      simp [Lib.joinTail]
theorem iFormatPath_any (A : Option Addr) (n c : Nat) (ss : List ByteArray) (w : World) (h : RdS w w.heap.size A n ss) (hn : n ≤ 1099511627776) (hnc : n ≤ c) (hss : ∀ s ∈ ss, s.size ≤ 1099511627776) :
    Calls Tryd.prog 8 #[.slice A n c] w fun e w' => e = .returned (.string (fmtP ss)) ∧ Below w.heap.size w w' := by
  have hK := iIsPath_any _ A n c ss w h (Nat.le_refl _) hn hss
  rcases hp : isPth ss with _ | _
  · rw [hp] at hK
    rw [fmt_no hp]
    have HK := Lib.hid hK
    clear hK hp h hss
    go_enter Tryd.func8, Tryd.ntmps8
    go_wp2_with fail
    refine HK.out.mono ?_
    rintro e w1 ⟨rfl, hb⟩
    go_wp2
    go_ret
    exact ⟨rfl, hb⟩
  · rw [hp] at hK
    have hlen := isPth_len hp
    have HL := Lib.hid h.len
    obtain ⟨b, off, rfl, hlt, hc⟩ := h.cells (by have := HL.out; omega)
    have hJ := fun w1 (hb : Below w.heap.size w w1) => Tryd.strings_Join b off c ss ⟨#[47]⟩ w1 (fun j x hx => by
        obtain ⟨hj, rfl⟩ := List.getElem?_eq_some_iff.1 hx
        rw [hb.cell (p := ⟨b, off + j, none⟩) hlt]
        have := hc j (by have := HL.out; omega)
        rw [this, List.getD, List.getElem?_eq_getElem hj]
        rfl) (by have := hb.size; omega) (by have := HL.out; omega) (by have := HL.out; omega) (by
        have h1 := fmtP_size ss
        rw [fmtP, if_pos hp, joinS, ofL_size] at h1
        show (Lib.join (ss.map bys) [47]).length ≤ _
        rw [join_jn]
        omega)
    have e2 : (⟨(Lib.join (ss.map (·.data.toList)) (ByteArray.mk #[47]).data.toList).toArray⟩ : ByteArray) = fmtP ss := by
      show (⟨(Lib.join (ss.map bys) [47]).toArray⟩ : ByteArray) = _
      rw [join_jn, fmtP, if_pos hp]
      rfl
    rw [e2, HL.out] at hJ
    have HJ := Lib.hid hJ
    have HK := Lib.hid hK
    clear hK hJ hp h hss hc e2
    go_enter Tryd.func8, Tryd.ntmps8
    go_wp2_with fail
    refine HK.out.mono ?_
    rintro e w1 ⟨rfl, hb⟩
    go_wp2_with fail
    refine (HJ.out _ hb).mono ?_
    rintro e w2 ⟨rfl, hb2⟩
    have HB2 := Lib.hid (hb.trans (hb2.mono hb.size))
    clear hb hb2
    go_wp2
    go_ret
    exact ⟨rfl, HB2.out⟩
theorem iParentOf_any (A : Option Addr) (n c : Nat) (ss : List ByteArray) (w : World) (h : RdS w w.heap.size A n ss) (hn : n ≤ 1099511627776) (hnc : n ≤ c) (hss : ∀ s ∈ ss, s.size ≤ 1099511627776) :
    Calls Tryd.prog 14 #[.slice A n c] w fun e w' => ∃ A' c', e = .returned (.tuple #[.slice A' (parP ss).1.length c', .bool (parP ss).2]) ∧ OwnS w' w.heap.size w'.heap.size A' (parP ss).1.length c' (parP ss).1 ∧ Below w.heap.size w w' := by
  have hmf : ∀ (fn : Fn) (first cap : Array Value) (w : World), (Instr.makeFunc fn first cap).run Tryd.prog w = .ok (.func fn first cap) w := fun _ _ _ _ => rfl
  have hK := iIsPath_any _ A n c ss w h (Nat.le_refl _) hn hss
  have HL := Lib.hid h.len
  rcases hp : isPth ss with _ | _
  · rw [show parP ss = ([], false) from by unfold parP; rw [hp]; rfl]
    rw [hp] at hK
    have HK := Lib.hid hK
    clear hK hp h hss
    go_enter Tryd.func14, Tryd.ntmps14
    go_wp2_with fail
    refine HK.out.mono ?_
    rintro e w1 ⟨rfl, hb⟩
    have HB := Lib.hid hb
    clear hb
    go_wp2_with fail
    refine (ipathIf_no _ _).mono ?_
    rintro e w2 ⟨A2, c2, rfl, hown, hb2⟩
    have HO := Lib.hid hown
    have HB2 := Lib.hid (HB.out.trans (hb2.mono HB.out.size))
    clear hown hb2
    go_wp2
    go_ret2
    exact ⟨_, _, rfl, HO.out.base HB.out.size, HB2.out⟩
  · have hlen := isPth_len hp
    rw [HL.out] at hlen
    rw [hp] at hK
    by_cases h1 : n = 1
    · subst h1
      rw [show parP ss = ([], false) from by unfold parP; rw [hp, HL.out]; rfl]
      have HK := Lib.hid hK
      clear hK hp h hss hlen
      go_enter Tryd.func14, Tryd.ntmps14
      go_wp2_with fail
      refine HK.out.mono ?_
      rintro e w1 ⟨rfl, hb⟩
      have HB := Lib.hid hb
      clear hb
      go_wp2_with fail
      refine (ipathIf_no _ _).mono ?_
      rintro e w2 ⟨A2, c2, rfl, hown, hb2⟩
      have HO := Lib.hid hown
      have HB2 := Lib.hid (HB.out.trans (hb2.mono HB.out.size))
      clear hown hb2
      go_wp2
      go_ret2
      exact ⟨_, _, rfl, HO.out.base HB.out.size, HB2.out⟩
    · have hpar : parP ss = (ss.take (n - 1), true) := by
        unfold parP
        rw [hp, HL.out, decide_eq_true h1]
        rfl
      rw [hpar]
      have hl2 : (ss.take (n - 1)).length = n - 1 := by rw [List.length_take, HL.out]; omega
      simp only [hl2]
      have H := Lib.hid h
      have HK := Lib.hid hK
      have hgt : (1 : Int) < n := by omega
      clear hK hp h hss hpar hl2
      go_enter Tryd.func14, Tryd.ntmps14
      go_wp2_with fail
      refine HK.out.mono ?_
      rintro e w1 ⟨rfl, hb⟩
      have HB := Lib.hid hb
      have HR := Lib.hid ((H.out.below hb (Nat.le_refl _)).more hb.size)
      clear hb
      go_wp2_with fail
      refine (ipathIf_parent A n c _ w1 HR.out (by omega) (by omega) (by omega)).mono ?_
      rintro e w2 ⟨A2, c2, rfl, hown2, hb2⟩
      have HO2 := Lib.hid hown2
      have HB2 := Lib.hid (HB.out.trans (hb2.mono HB.out.size))
      clear hown2 hb2
      go_wp2
      go_ret2
      exact ⟨_, _, rfl, HO2.out.base HB.out.size, HB2.out⟩
theorem iJoinPath_any (A : Option Addr) (n c : Nat) (ss : List ByteArray) (s : ByteArray) (w : World) (h : RdS w w.heap.size A n ss) (hn : n ≤ 1099511627775) (hss : ∀ s ∈ ss, s.size ≤ 1099511627776) (hs : s.size ≤ 1099511627776) :
    Calls Tryd.prog 15 #[.slice A n c, .string s] w fun e w' => ∃ A' c', e = .returned (.tuple #[.slice A' (joinP ss s).1.length c', .bool (joinP ss s).2]) ∧ OwnS w' w.heap.size w'.heap.size A' (joinP ss s).1.length c' (joinP ss s).1 ∧ Below w.heap.size w w' := by
  have hmf : ∀ (fn : Fn) (first cap : Array Value) (w : World), (Instr.makeFunc fn first cap).run Tryd.prog w = .ok (.func fn first cap) w := fun _ _ _ _ => rfl
  have hall : ∀ x ∈ ss ++ [s], x.size ≤ 1099511627776 := fun x hx => by
    rcases List.mem_append.1 hx with hx | hx
    · exact hss x hx
    · rw [List.mem_singleton.1 hx]; exact hs
  have HA := Lib.hid hall
  have HL := Lib.hid h.len
  have hz : InS s := by unfold InS maxLen; omega
  have H := Lib.hid h
  clear hall h hss
  unfold joinP
  rcases hp : isPth (ss ++ [s]) with _ | _
  · have HP := Lib.hid hp
    simp only [Bool.false_eq_true, if_false]
    clear hp
    go_enter Tryd.func15, Tryd.ntmps15
    go_wp2_with fail
    refine (iClone_any A n c ss w H.out (by omega)).mono ?_
    rintro e w1 ⟨A1, c1, rfl, hown, hb⟩
    have HO := Lib.hid hown
    have HB := Lib.hid hb
    clear hown hb
    go_wp2_with (at_builtin; refine wp_pushS (z := s) rfl _ _ rfl rfl HO.out rfl hz (by omega) HB.out.size ?_; intro A2 c2 w2 hown2 hgr2)
    have HB2 := Lib.hid (HB.out.trans (hgr2.below HB.out.size HO.out.ge))
    have HO2 := Lib.hid hown2
    clear hown2 hgr2
    go_wp2_with fail
    refine (iisPath_any _ _ _ _ _ _ HO2.out.rd (Nat.le_refl _) (by omega) HA.out).mono ?_
    rw [HP.out]
    rintro e w3 ⟨rfl, hb3⟩
    have HB3 := Lib.hid (HB2.out.trans (hb3.mono HB2.out.size))
    clear hb3
    go_wp2_with fail
    refine (ipathIf_no _ _).mono ?_
    rintro e w4 ⟨A4, c4, rfl, hown4, hb4⟩
    have HO4 := Lib.hid hown4
    have HB4 := Lib.hid (HB3.out.trans (hb4.mono HB3.out.size))
    clear hown4 hb4
    go_wp2
    go_ret2
    exact ⟨_, _, rfl, HO4.out.base HB3.out.size, HB4.out⟩
  · have HP := Lib.hid hp
    simp only [if_true]
    have hl : (ss ++ [s]).length = n + 1 := by rw [List.length_append, HL.out]; rfl
    rw [hl]
    clear hp hl
    go_enter Tryd.func15, Tryd.ntmps15
    go_wp2_with fail
    refine (iClone_any A n c ss w H.out (by omega)).mono ?_
    rintro e w1 ⟨A1, c1, rfl, hown, hb⟩
    have HO := Lib.hid hown
    have HB := Lib.hid hb
    clear hown hb
    go_wp2_with (at_builtin; refine wp_pushS (z := s) rfl _ _ rfl rfl HO.out rfl hz (by omega) HB.out.size ?_; intro A2 c2 w2 hown2 hgr2)
    have HB2 := Lib.hid (HB.out.trans (hgr2.below HB.out.size HO.out.ge))
    have HO2 := Lib.hid hown2
    clear hown2 hgr2
    go_wp2_with fail
    refine (iisPath_any _ _ _ _ _ _ HO2.out.rd (Nat.le_refl _) (by omega) HA.out).mono ?_
    rw [HP.out]
    rintro e w3 ⟨rfl, hb3⟩
    have HR3 := Lib.hid (((HO2.out.below hb3 (Nat.le_refl _)).rd).more hb3.size)
    have HB3 := Lib.hid (HB2.out.trans (hb3.mono HB2.out.size))
    clear hb3
    go_wp2_with fail
    refine (ipathIf_labels A2 (n + 1) c2 _ w3 HR3.out (by omega)).mono ?_
    rintro e w4 ⟨A4, c4, rfl, hown4, hb4⟩
    have HO4 := Lib.hid hown4
    have HB4 := Lib.hid (HB3.out.trans (hb4.mono HB3.out.size))
    clear hown4 hb4
    go_wp2
    go_ret2
    exact ⟨_, _, rfl, HO4.out.base HB3.out.size, HB4.out⟩
open C05G in
theorem isPth_cut {s : ByteArray} {r : List ByteArray} (h : r = splitS s ∨ r.length = 5 ∧ 5 ≤ (splitS s).length) : isPth r = isPth (splitS s) ∧ (isPth r = true → r = splitS s) := by
  rcases h with rfl | ⟨h1, h2⟩
  · exact ⟨rfl, fun _ => rfl⟩
  · rw [isPth_long (p := r) (by omega), isPth_long (p := splitS s) (by omega)]
    exact ⟨rfl, fun h => absurd h (by simp)⟩
theorem iSplitN_any (s : ByteArray) (w : World) (hs : s.size ≤ 1099511627775) :
    Calls Tryd.prog 23 #[.string s, .string ⟨#[47]⟩, .int .i64 5] w fun e w' => ∃ (A' : Option Addr) (c' : Nat) (r : List ByteArray), e = .returned (.slice A' r.length c') ∧ RdS w' w'.heap.size A' r.length r ∧ Below w.heap.size w w' ∧ (r = splitS s ∨ r.length = 5 ∧ 5 ≤ (splitS s).length) ∧ (∀ x ∈ r, x.size ≤ s.size) := by
  have HK := Lib.hid (C05G.genSplit_any s w hs)
  go_enter Tryd.func23, Tryd.ntmps23
  go_wp2_with fail
  refine HK.out.mono ?_
  rintro e w1 ⟨A1, c1, r, rfl, h1, h2, h3, h4⟩
  have H1 := Lib.hid h1
  have H2 := Lib.hid h2
  have H3 := Lib.hid h3
  have H4 := Lib.hid h4
  clear h1 h2 h3 h4
  go_wp2
  go_ret
  exact ⟨_, _, r, rfl, H1.out, H2.out, H3.out, H4.out⟩
theorem iParsePath_any (s : ByteArray) (w : World) (hs : s.size ≤ 1099511627775) :
    Calls Tryd.prog 7 #[.string s] w fun e w' => ∃ A' c', e = .returned (.tuple #[.slice A' (prsP s).1.length c', .bool (prsP s).2]) ∧ OwnS w' w.heap.size w'.heap.size A' (prsP s).1.length c' (prsP s).1 ∧ Below w.heap.size w w' := by
  have hmf : ∀ (fn : Fn) (first cap : Array Value) (w : World), (Instr.makeFunc fn first cap).run Tryd.prog w = .ok (.func fn first cap) w := fun _ _ _ _ => rfl
  have HL := Lib.hid (splitS_len s)
  have HK := Lib.hid (iSplitN_any s w hs)
  unfold prsP
  rcases hp : isPth (splitS s) with _ | _
  · have HP := Lib.hid hp
    simp only [Bool.false_eq_true, if_false]
    clear hp
    go_enter Tryd.func7, Tryd.ntmps7
    go_wp2_with fail
    refine HK.out.mono ?_
    rintro e w1 ⟨A1, c1, r, rfl, hr, hb, hcut, hx⟩
    have hlen : r.length ≤ 1099511627776 := by
      rcases hcut with rfl | h
      · have := HL.out.1; omega
      · omega
    obtain ⟨he, hq⟩ := isPth_cut hcut
    have HR := Lib.hid hr
    have HB := Lib.hid hb
    have HX := Lib.hid hx
    rw [HP.out] at he
    have HE := Lib.hid he
    clear he hq hcut hr hb hx
    go_wp2_with fail
    refine (iisPath_any _ _ _ _ _ _ HR.out (Nat.le_refl _) (by omega) (fun x hx => by have := HX.out x hx; omega)).mono ?_
    rw [HE.out]
    rintro e w2 ⟨rfl, hb2⟩
    have HB2 := Lib.hid (HB.out.trans (hb2.mono HB.out.size))
    clear hb2
    go_wp2_with fail
    refine (ipathIf_no _ _).mono ?_
    rintro e w4 ⟨A4, c4, rfl, hown4, hb4⟩
    have HO4 := Lib.hid hown4
    have HB4 := Lib.hid (HB2.out.trans (hb4.mono HB2.out.size))
    clear hown4 hb4
    go_wp2
    go_ret2
    exact ⟨_, _, rfl, HO4.out.base HB2.out.size, HB4.out⟩
  · have HP := Lib.hid hp
    simp only [if_true]
    clear hp
    go_enter Tryd.func7, Tryd.ntmps7
    go_wp2_with fail
    refine HK.out.mono ?_
    rintro e w1 ⟨A1, c1, r, rfl, hr, hb, hcut, hx⟩
    have hlen : r.length ≤ 1099511627776 := by
      rcases hcut with rfl | h
      · have := HL.out.1; omega
      · omega
    obtain ⟨he, hq⟩ := isPth_cut hcut
    have HR := Lib.hid hr
    have HB := Lib.hid hb
    have HX := Lib.hid hx
    rw [HP.out] at he
    obtain rfl := hq he
    clear he hq hcut hr hb hx
    go_wp2_with fail
    refine (iisPath_any _ _ _ _ _ _ HR.out (Nat.le_refl _) (by omega) (fun x hx => by have := HX.out x hx; omega)).mono ?_
    rw [HP.out]
    rintro e w2 ⟨rfl, hb2⟩
    have HR2 := Lib.hid ((HR.out.below hb2 (Nat.le_refl _)).more hb2.size)
    have HB2 := Lib.hid (HB.out.trans (hb2.mono HB.out.size))
    clear hb2
    go_wp2_with fail
    refine (ipathIf_labels A1 _ c1 _ w2 HR2.out (by omega)).mono ?_
    rintro e w4 ⟨A4, c4, rfl, hown4, hb4⟩
    have HO4 := Lib.hid hown4
    have HB4 := Lib.hid (HB2.out.trans (hb4.mono HB2.out.size))
    clear hown4 hb4
    go_wp2
    go_ret2
    exact ⟨_, _, rfl, HO4.out.base HB2.out.size, HB4.out⟩
theorem iIsBelow_any (A A2 : Option Addr) (n c m c2 : Nat) (ss ts : List ByteArray) (w : World) (h : RdS w w.heap.size A n ss) (h2 : RdS w w.heap.size A2 m ts) (hn : n ≤ 1099511627776) (hnc : n ≤ c) (hm : m ≤ 1099511627776) (hss : ∀ s ∈ ss, s.size ≤ 1099511627776) (hts : ∀ s ∈ ts, s.size ≤ 1099511627776) :
    Calls Tryd.prog 16 #[.slice A n c, .slice A2 m c2] w fun e w' => e = .returned (.bool (belowP ss ts)) ∧ Below w.heap.size w w' := by
  have HL := Lib.hid h.len
  have HL2 := Lib.hid h2.len
  have hK := iIsPath_any _ A n c ss w h (Nat.le_refl _) hn hss
  have hK2 := fun w1 (hb : Below w.heap.size w w1) => iIsPath_any _ A2 m c2 ts w1 (h2.below hb (Nat.le_refl _)) hb.size hm hts
  rcases hp : isPth ss with _ | _
  · rw [show belowP ss ts = false from by unfold belowP; rw [hp]; rfl]
    rw [hp] at hK
    have HK := Lib.hid hK
    clear hK hK2 hp h h2 hss hts
    go_enter Tryd.func16, Tryd.ntmps16
    go_wp2_with fail
    refine HK.out.mono ?_
    rintro e w1 ⟨rfl, hb⟩
    have HB := Lib.hid hb
    clear hb
    go_wp2
    go_ret
    exact ⟨rfl, HB.out⟩
  rcases hq : isPth ts with _ | _
  · rw [show belowP ss ts = false from by unfold belowP; rw [hp, hq]; rfl]
    rw [hp] at hK
    rw [hq] at hK2
    have HK := Lib.hid hK
    have HK2 := Lib.hid hK2
    clear hK hK2 hp hq h h2 hss hts
    go_enter Tryd.func16, Tryd.ntmps16
    go_wp2_with fail
    refine HK.out.mono ?_
    rintro e w1 ⟨rfl, hb⟩
    have HB := Lib.hid hb
    clear hb
    go_wp2_with fail
    refine (HK2.out _ HB.out).mono ?_
    rintro e w2 ⟨rfl, hb2⟩
    have HB2 := Lib.hid (HB.out.trans (hb2.mono HB.out.size))
    clear hb2
    go_wp2
    go_ret
    exact ⟨rfl, HB2.out⟩
  by_cases hlt : m < n
  · have hbl : belowP ss ts = decide (ss.take m = ts) := by
      unfold belowP
      rw [hp, hq, HL.out, HL2.out, decide_eq_true hlt]
      rfl
    rw [hbl]
    rw [hp] at hK
    rw [hq] at hK2
    have HK := Lib.hid hK
    have HK2 := Lib.hid hK2
    have H := Lib.hid (rdS_take h (k := m) (by omega))
    have H2 := Lib.hid h2
    clear hK hK2 hp hq h h2 hss hts hbl
    have hlti : (m : Int) < n := by omega
    go_enter Tryd.func16, Tryd.ntmps16
    go_wp2_with fail
    refine HK.out.mono ?_
    rintro e w1 ⟨rfl, hb⟩
    have HB := Lib.hid hb
    clear hb
    go_wp2_with fail
    refine (HK2.out _ HB.out).mono ?_
    rintro e w2 ⟨rfl, hb2⟩
    have HB2 := Lib.hid (HB.out.trans (hb2.mono HB.out.size))
    clear hb2
    go_wp2_with fail
    refine (iSamePath_any _ _ A A2 m _ m c2 _ _ w2 (H.out.below HB2.out (Nat.le_refl _)) (H2.out.below HB2.out (Nat.le_refl _)) (by omega) (by omega)).mono ?_
    rintro e w3 ⟨rfl, hs3⟩
    have HB3 := Lib.hid (HB2.out.trans (hs3.below _))
    clear hs3
    go_wp2
    go_ret
    exact ⟨rfl, HB3.out⟩
  · rw [show belowP ss ts = false from by
      unfold belowP
      rw [hp, hq, HL.out, HL2.out, decide_eq_false hlt]
      rfl]
    rw [hp] at hK
    rw [hq] at hK2
    have HK := Lib.hid hK
    have HK2 := Lib.hid hK2
    clear hK hK2 hp hq h h2 hss hts
    have hlti : ¬ (m : Int) < n := by omega
    go_enter Tryd.func16, Tryd.ntmps16
    go_wp2_with fail
    refine HK.out.mono ?_
    rintro e w1 ⟨rfl, hb⟩
    have HB := Lib.hid hb
    clear hb
    go_wp2_with fail
    refine (HK2.out _ HB.out).mono ?_
    rintro e w2 ⟨rfl, hb2⟩
    have HB2 := Lib.hid (HB.out.trans (hb2.mono HB.out.size))
    clear hb2
    go_wp2
    go_ret
    exact ⟨rfl, HB2.out⟩
end Go.Proofs.YtkgdgnjlmcodlaaDoor.C05I
