/- Chapter 4: what the code's own functions on labels return, and what both share. -/
import Derived.Test.YtpjfmbcandgpeaaC04S
import Derived.Test.YtpjfmbcandgpeaaC03B
import Derived.Laws.RangeAny
import Derived.Lib.Bytealg
namespace Go.Proofs.Ytpjfmbcandgpeaa.C04I
open Go.RowKit Mem MemS M02 M03 M04 C01 C02 C02B C03S C03D C03B C04S T01
set_option linter.unusedVariables false
theorem isLabelRune_any (x : Int) (w : World) (h0 : 0 ≤ x) (h1 : x ≤ 2147483647) : Calls Try.prog 82 #[.int .i32 x] w fun e w' => e = .returned (.bool (labB x)) ∧ w = w' := by
  have hc : (labB x = true ∧ 97 ≤ x ∧ x ≤ 122) ∨ (labB x = true ∧ ¬ 97 ≤ x ∧ 48 ≤ x ∧ x ≤ 57) ∨ (labB x = true ∧ ¬ 97 ≤ x ∧ ¬ 48 ≤ x ∧ x = 45) ∨
      (labB x = false ∧ ¬ 97 ≤ x ∧ ¬ 48 ≤ x ∧ (x == 45) = false) ∨ (labB x = false ∧ ¬ 97 ≤ x ∧ 48 ≤ x ∧ ¬ x ≤ 57 ∧ (x == 45) = false) ∨ (labB x = false ∧ 97 ≤ x ∧ ¬ x ≤ 122 ∧ 48 ≤ x ∧ ¬ x ≤ 57 ∧ (x == 45) = false) := by
    unfold labB
    simp only [decide_eq_true_eq, decide_eq_false_iff_not, beq_eq_false_iff_ne]
    omega
  rcases hc with ⟨hl, h⟩ | ⟨hl, h⟩ | ⟨hl, h⟩ | ⟨hl, h⟩ | ⟨hl, h⟩ | ⟨hl, h⟩
  all_goals rw [hl]
  · obtain ⟨h2, h3⟩ := h
    clear hl
    go_enter Try.func82, Try.ntmps82
    go_wp2
    go_ret
    exact ⟨rfl, rfl⟩
  · obtain ⟨h2, h3, h4⟩ := h
    clear hl
    go_enter Try.func82, Try.ntmps82
    go_wp2
    go_ret
    exact ⟨rfl, rfl⟩
  · obtain ⟨h2, h3, h4⟩ := h
    clear hl
    go_enter Try.func82, Try.ntmps82
    go_wp2
    go_ret
    exact ⟨rfl, rfl⟩
  · obtain ⟨h2, h3, h4⟩ := h
    clear hl
    go_enter Try.func82, Try.ntmps82
    go_wp2
    go_ret
    exact ⟨rfl, rfl⟩
  · obtain ⟨h2, h3, h4, h5⟩ := h
    clear hl
    go_enter Try.func82, Try.ntmps82
    go_wp2
    go_ret
    exact ⟨rfl, rfl⟩
  · obtain ⟨h2, h3, h4, h5, h6⟩ := h
    clear hl
    go_enter Try.func82, Try.ntmps82
    go_wp2
    go_ret
    exact ⟨rfl, rfl⟩
theorem width_pos (s : ByteArray) (pos : Nat) (h : pos < s.size) : 1 ≤ (Utf8.decode s pos).2 := by
  by_cases ha : (s[pos]'h).toNat < 128
  · rw [decode_ascii s pos h ha]
    exact Nat.le_refl _
  · exact (decode_high s pos h (by omega)).2
theorem labB_high {x : Int} (h : 128 ≤ x) : labB x = false := by
  unfold labB
  simp only [decide_eq_false_iff_not]
  omega
set_option maxHeartbeats 1000000 in
theorem iIsLabel_any (s : ByteArray) (w : World) (hs : s.size ≤ 1099511627776) : Calls Try.prog 59 #[.string s] w fun e w' => e = .returned (.bool (isLab s)) ∧ Below w.heap.size w w' := by
  by_cases hn : 1 ≤ s.size ∧ s.size ≤ 8
  · have hr : inR (s.size : Int) 1 8 = true := inR_true (by omega) (by omega)
    have h0s : 0 < s.size := by omega
    have h8s : s.size - 1 < s.size := by omega
    have b0 := byte_lt s 0 h0s
    have b1 := byte_lt s (s.size - 1) h8s
    have hix : ((s.size : Int) - 1).toNat = s.size - 1 := by omega
    by_cases hf : ((s[0]'h0s).toNat : Int) = 45
    · rw [isLab_first h0s hf]
      clear b1 h8s hix
      go_enter Try.func59, Try.ntmps59
      go_wp2_with (go_at_call 81; refine (inRange_any _ _ _ _).mono ?_; rintro e w1 ⟨rfl, rfl⟩)
      go_ret
      exact ⟨rfl, Below.refl _ _⟩
    by_cases hl : ((s[s.size - 1]'h8s).toNat : Int) = 45
    · rw [isLab_last h8s hl]
      go_enter Try.func59, Try.ntmps59
      go_wp2_with (go_at_call 81; refine (inRange_any _ _ _ _).mono ?_; rintro e w1 ⟨rfl, rfl⟩)
      go_ret
      exact ⟨rfl, Below.refl _ _⟩
    rw [isLab_all hn h0s h8s hf hl]
    have hfb : (((s[0]'h0s).toNat : Int) == 45) = false := beq_eq_false_iff_ne.2 hf
    have hlb : (((s[s.size - 1]'h8s).toNat : Int) == 45) = false := beq_eq_false_iff_ne.2 hl
    clear hf hl
    go_enter Try.func59, Try.ntmps59
    go_wp2_with (go_at_call 81; refine (inRange_any _ _ _ _).mono ?_; rintro e w1 ⟨rfl, rfl⟩)
    clear hfb hlb b0 b1 hr
    have hbel : ∀ pos, Below w.heap.size w (w.iter s pos) := fun pos => (Below.refl _ _).alloc (Nat.le_refl _) _
    have HB := Lib.hid hbel
    clear hbel
    go_loopw [4] (fun r wr => ∃ pos : Nat, wr = w.iter s pos ∧ pos ≤ s.size ∧ ((nums s).take pos).all labB = true) (fun _ wr => s.size - wr.iterPos w.heap.size)
    case atStart => exact ⟨0, rfl, by omega, by simp⟩
    case round =>
      obtain ⟨pos, rfl, hk, ha⟩ := hrel
      have HA := Lib.hid ha
      clear ha
      by_cases hp : pos < s.size
      · have hnx : ∀ ty, (Instr.next (.pointer (some ⟨w.heap.size, 0, none⟩)) true ty).run Try.prog (w.iter s pos) = _ := fun ty => run_next_any w s pos ty hp
        have hd1 := decode_le s pos
        have hlb : labB ((Utf8.decode s pos).1 : Int) = labB ((s[pos]'hp).toNat : Int) ∧ (labB ((s[pos]'hp).toNat : Int) = true → (Utf8.decode s pos).2 = 1) := by
          by_cases ha : (s[pos]'hp).toNat < 128
          · rw [decode_ascii s pos hp ha]
            exact ⟨rfl, fun _ => rfl⟩
          · have hh := decode_high s pos hp (by omega)
            rw [labB_high (by omega), labB_high (x := ((s[pos]'hp).toNat : Int)) (by omega)]
            exact ⟨rfl, fun h => by cases h⟩
        have he := nums_get s pos hp
        have hR := isLabelRune_any ((Utf8.decode s pos).1 : Int) (w.iter s (pos + (Utf8.decode s pos).2)) (by omega) (by omega)
        rw [hlb.1, ← he] at hR
        rw [← he] at hlb
        rcases hz : labB ((nums s).getD pos 0) with _ | _
        · rw [hz] at hR
          have HR := Lib.hid hR
          have HN := Lib.hid (all_no (zs := nums s) (k := pos) (by rw [nums_len]; exact hp) hz)
          clear hR hz hlb he
          go_wp2_with (go_at_call 82; refine HR.out.mono ?_; rintro e w1 ⟨rfl, rfl⟩)
          go_ret
          exact ⟨by rw [HN.out]; rfl, HB.out _⟩
        · rw [hz] at hR
          have HR := Lib.hid hR
          have HW := Lib.hid (hlb.2 hz)
          have HT := Lib.hid (all_step (by rw [nums_len]; exact hp) HA.out hz)
          clear hR hz hlb he
          go_wp2_with (go_at_call 82; refine HR.out.mono ?_; rintro e w1 ⟨rfl, rfl⟩)
          go_roundw
          case rel => exact ⟨pos + 1, by rw [HW.out], by omega, HT.out⟩
          case measure => rw [HW.out]; simp; omega
      · have hnx : ∀ ty, (Instr.next (.pointer (some ⟨w.heap.size, 0, none⟩)) true ty).run Try.prog (w.iter s pos) = _ := fun ty => run_next_end w s pos ty hp
        go_wp2
        go_ret
        have h := HA.out
        rw [List.take_of_length_le (by rw [nums_len]; omega)] at h
        exact ⟨by rw [h]; rfl, HB.out _⟩
  · rw [isLab_small hn]
    have hr : inR (s.size : Int) 1 8 = false := inR_false (by omega)
    go_enter Try.func59, Try.ntmps59
    go_wp2_with (go_at_call 81; refine (inRange_any _ _ _ _).mono ?_; rintro e w1 ⟨rfl, rfl⟩)
    go_ret
    exact ⟨rfl, Below.refl _ _⟩
def plC (x : Int) : Int := if x = 48 then 111 else if x = 49 then 108 else if x = 53 then 115 else x
theorem plB_plC {x : Int} (h : x ≠ 45) : plB x = [plC x] := by
  unfold plB plC
  repeat' split
  all_goals first | rfl | contradiction
theorem plC_in {x : Int} (h0 : 0 ≤ x) (h1 : x ≤ 255) : In .u8 (plC x) := by
  unfold plC
  repeat' split
  all_goals exact in_u8 (by omega) (by omega)
theorem plainByte_any (x : Int) (w : World) : Calls Try.prog 83 #[.int .u8 x] w fun e w' => e = .returned (.int .u8 (plC x)) ∧ w = w' := by
  have hc : (x = 48 ∧ plC x = 111) ∨ ((x == 48) = false ∧ x = 49 ∧ plC x = 108) ∨ ((x == 48) = false ∧ (x == 49) = false ∧ x = 53 ∧ plC x = 115) ∨ ((x == 48) = false ∧ (x == 49) = false ∧ (x == 53) = false ∧ plC x = x) := by
    simp only [beq_eq_false_iff_ne]
    unfold plC
    repeat' split
    all_goals omega
  rcases hc with ⟨h1, hr⟩ | ⟨h1, h2, hr⟩ | ⟨h1, h2, h3, hr⟩ | ⟨h1, h2, h3, hr⟩
  all_goals rw [hr]
  · clear hr
    go_enter Try.func83, Try.ntmps83
    go_wp2
    go_ret
    exact ⟨rfl, rfl⟩
  · clear hr
    go_enter Try.func83, Try.ntmps83
    go_wp2
    go_ret
    exact ⟨rfl, rfl⟩
  · clear hr
    go_enter Try.func83, Try.ntmps83
    go_wp2
    go_ret
    exact ⟨rfl, rfl⟩
  · clear hr
    go_enter Try.func83, Try.ntmps83
    go_wp2
    go_ret
    exact ⟨rfl, rfl⟩
set_option maxHeartbeats 1000000 in
theorem iPlainOf_any (s : ByteArray) (w : World) (hs : s.size ≤ 1099511627776) : Calls Try.prog 60 #[.string s] w fun e w' => e = .returned (.string (plain s)) ∧ Below w.heap.size w w' := by
  have HP := Lib.hid (show plain s = strOfNums (plL (nums s)) from rfl)
  go_enter Try.func60, Try.ntmps60
  go_wp2_with (at_make; refine wp_make0 (k := .u8) (by unfold BI; decide) rfl _ _ rfl (n := s.size) rfl rfl rfl (by omega) ?_; intro w1 hown1 hb1; have HO1 := Lib.hid hown1; have HB1 := Lib.hid hb1; clear hown1 hb1)
  go_loopw [3, 10] (fun v i wr => ∃ (A1 : Option Addr) (m c1 k : Nat) (d : List Int), v = .slice A1 m c1 ∧ i = .int .i64 k ∧ k ≤ s.size ∧ m ≤ k ∧ d = plL ((nums s).take k) ∧ Own .u8 wr w.heap.size wr.heap.size A1 m c1 d ∧ Below w.heap.size w wr) (fun _ i _ => s.size - (intOf i).toNat)
  case atStart => exact ⟨_, 0, _, 0, [], rfl, rfl, by omega, by omega, by simp [plL], HO1.out, HB1.out⟩
  case round =>
    obtain ⟨A1, m, c1, k, d, rfl, rfl, hk, hm, hd, hown, hbel⟩ := hrel
    have HD := Lib.hid hd
    have HOr := Lib.hid hown
    have HBr := Lib.hid hbel
    clear hd hown hbel
    by_cases hks : k < s.size
    · have hb := byte_lt s k hks
      have hst := plL_step (zs := nums s) (k := k) (by rw [nums_len]; exact hks)
      rw [nums_get s k hks, ← HD.out] at hst
      by_cases hx : ((s[k]'hks).toNat : Int) = 45
      · rw [hx] at hst
        have hst2 : plL ((nums s).take (k + 1)) = d := by rw [hst]; simp [plB]
        have HS := Lib.hid hst2
        clear hst hst2
        go_wp2
        go_roundw
        case rel => exact ⟨A1, m, c1, k + 1, d, rfl, by go_num, by omega, by omega, HS.out.symm, HOr.out, HBr.out⟩
        case measure => simp [intOf]; omega
      · rw [plB_plC hx] at hst
        have HS := Lib.hid hst
        have hxb : (((s[k]'hks).toNat : Int) == 45) = false := beq_eq_false_iff_ne.2 hx
        have hz : In .u8 (plC ((s[k]'hks).toNat : Int)) := plC_in (by omega) hb
        have HC := Lib.hid fun w => plainByte_any ((s[k]'hks).toNat : Int) w
        have HZ := Lib.hid hz
        clear hst hx hz
        obtain ⟨y, hy⟩ : ∃ y, plC ((s[k]'hks).toNat : Int) = y := ⟨_, rfl⟩
        rw [hy] at HC HS HZ
        clear hy
        go_wp2_with (first | (go_at_call 83; refine (HC.out _).mono ?_; rintro e w2 ⟨rfl, rfl⟩) | (at_builtin; refine wp_push (k := .u8) (z := y) (by unfold BI; decide) rfl _ _ rfl rfl HOr.out rfl HZ.out (by omega) HBr.out.size ?_; intro A2 c2 w3 hown3 hgr3))
        go_roundw
        case rel => exact ⟨A2, m + 1, c2, k + 1, _, rfl, by go_num, by omega, by omega, HS.out.symm, hown3, HBr.out.trans (hgr3.below HBr.out.size HOr.out.ge)⟩
        case measure => simp [intOf]; omega
    · have hd := HD.out
      rw [List.take_of_length_le (by rw [nums_len]; omega)] at hd
      have hcv := conv_str HOr.out.rd c1
      rw [hd, ← HP.out] at hcv
      clear hd
      go_wp2
      go_ret
      exact ⟨rfl, HBr.out⟩
theorem sIsLabel_b (s : ByteArray) (w : World) (hs : s.size ≤ 1099511627776) : Calls Try.prog 84 #[.string s] w fun e w' => e = .returned (.bool (isLab s)) ∧ Below w.heap.size w w' :=
  (sIsLabel_any s w hs).mono fun e w' h => ⟨h.1, h.2 ▸ Below.refl _ _⟩
theorem iIsLabel_b (s : ByteArray) (w : World) (hs : s.size ≤ 1099511627776) : Calls Try.prog 59 #[.string s] w fun e w' => e = .returned (.bool (isLab s)) ∧ Below w.heap.size w w' := iIsLabel_any s w hs
theorem looks_cases (a b : ByteArray) : (isLab a = false ∧ looks a b = false) ∨ (isLab a = true ∧ isLab b = false ∧ looks a b = false) ∨ (isLab a = true ∧ isLab b = true ∧ looks a b = ((plain a).toList == (plain b).toList)) := by
  unfold looks
  rw [toList_beq]
  cases isLab a <;> cases isLab b <;> simp
theorem sLooksLike_any (a b : ByteArray) (w : World) (ha : a.size ≤ 1099511627776) (hb : b.size ≤ 1099511627776) : Calls Try.prog 61 #[.string a, .string b] w fun e w' => e = .returned (.bool (looks a b)) ∧ Below w.heap.size w w' := by
  have hLa := fun w => sIsLabel_b a w ha
  have hLb := fun w => sIsLabel_b b w hb
  have HPa := Lib.hid fun w => sPlainOf_any a w ha
  have HPb := Lib.hid fun w => sPlainOf_any b w hb
  rcases looks_cases a b with ⟨h1, hr⟩ | ⟨h1, h2, hr⟩ | ⟨h1, h2, hr⟩
  · rw [hr]
    rw [h1] at hLa
    have HLa := Lib.hid hLa
    clear hLa hLb h1 hr
    go_enter Try.func61, Try.ntmps61
    go_wp2_with fail
    refine (HLa.out _).mono ?_
    rintro e w1 ⟨rfl, hb1⟩
    have HB1 := Lib.hid hb1
    clear hb1
    go_wp2
    go_ret
    exact ⟨rfl, HB1.out⟩
  · rw [hr]
    rw [h1] at hLa
    rw [h2] at hLb
    have HLa := Lib.hid hLa
    have HLb := Lib.hid hLb
    clear hLa hLb h1 h2 hr
    go_enter Try.func61, Try.ntmps61
    go_wp2_with fail
    refine (HLa.out _).mono ?_
    rintro e w1 ⟨rfl, hb1⟩
    have HB1 := Lib.hid hb1
    clear hb1
    go_wp2_with fail
    refine (HLb.out _).mono ?_
    rintro e w2 ⟨rfl, hb2⟩
    have HB2 := Lib.hid (HB1.out.trans (hb2.mono HB1.out.size))
    clear hb2
    go_wp2
    go_ret
    exact ⟨rfl, HB2.out⟩
  · rw [hr]
    rw [h1] at hLa
    rw [h2] at hLb
    have HLa := Lib.hid hLa
    have HLb := Lib.hid hLb
    clear hLa hLb h1 h2 hr
    go_enter Try.func61, Try.ntmps61
    go_wp2_with fail
    refine (HLa.out _).mono ?_
    rintro e w1 ⟨rfl, hb1⟩
    have HB1 := Lib.hid hb1
    clear hb1
    go_wp2_with fail
    refine (HLb.out _).mono ?_
    rintro e w2 ⟨rfl, hb2⟩
    have HB2 := Lib.hid (HB1.out.trans (hb2.mono HB1.out.size))
    clear hb2
    go_wp2_with fail
    refine (HPa.out _).mono ?_
    rintro e w3 ⟨rfl, hb3⟩
    have HB3 := Lib.hid (HB2.out.trans (hb3.mono HB2.out.size))
    clear hb3
    go_wp2_with fail
    refine (HPb.out _).mono ?_
    rintro e w4 ⟨rfl, hb4⟩
    have HB4 := Lib.hid (HB3.out.trans (hb4.mono HB3.out.size))
    clear hb4
    go_wp2
    go_ret
    exact ⟨rfl, HB4.out⟩
theorem iLooksLike_any (a b : ByteArray) (w : World) (ha : a.size ≤ 1099511627776) (hb : b.size ≤ 1099511627776) : Calls Try.prog 22 #[.string a, .string b] w fun e w' => e = .returned (.bool (looks a b)) ∧ Below w.heap.size w w' := by
  have hLa := fun w => iIsLabel_b a w ha
  have hLb := fun w => iIsLabel_b b w hb
  have HPa := Lib.hid fun w => iPlainOf_any a w ha
  have HPb := Lib.hid fun w => iPlainOf_any b w hb
  rcases looks_cases a b with ⟨h1, hr⟩ | ⟨h1, h2, hr⟩ | ⟨h1, h2, hr⟩
  · rw [hr]
    rw [h1] at hLa
    have HLa := Lib.hid hLa
    clear hLa hLb h1 hr
    go_enter Try.func22, Try.ntmps22
    go_wp2_with fail
    refine (HLa.out _).mono ?_
    rintro e w1 ⟨rfl, hb1⟩
    have HB1 := Lib.hid hb1
    clear hb1
    go_wp2
    go_ret
    exact ⟨rfl, HB1.out⟩
  · rw [hr]
    rw [h1] at hLa
    rw [h2] at hLb
    have HLa := Lib.hid hLa
    have HLb := Lib.hid hLb
    clear hLa hLb h1 h2 hr
    go_enter Try.func22, Try.ntmps22
    go_wp2_with fail
    refine (HLa.out _).mono ?_
    rintro e w1 ⟨rfl, hb1⟩
    have HB1 := Lib.hid hb1
    clear hb1
    go_wp2_with fail
    refine (HLb.out _).mono ?_
    rintro e w2 ⟨rfl, hb2⟩
    have HB2 := Lib.hid (HB1.out.trans (hb2.mono HB1.out.size))
    clear hb2
    go_wp2
    go_ret
    exact ⟨rfl, HB2.out⟩
  · rw [hr]
    rw [h1] at hLa
    rw [h2] at hLb
    have HLa := Lib.hid hLa
    have HLb := Lib.hid hLb
    clear hLa hLb h1 h2 hr
    go_enter Try.func22, Try.ntmps22
    go_wp2_with fail
    refine (HLa.out _).mono ?_
    rintro e w1 ⟨rfl, hb1⟩
    have HB1 := Lib.hid hb1
    clear hb1
    go_wp2_with fail
    refine (HLb.out _).mono ?_
    rintro e w2 ⟨rfl, hb2⟩
    have HB2 := Lib.hid (HB1.out.trans (hb2.mono HB1.out.size))
    clear hb2
    go_wp2_with fail
    refine (HPa.out _).mono ?_
    rintro e w3 ⟨rfl, hb3⟩
    have HB3 := Lib.hid (HB2.out.trans (hb3.mono HB2.out.size))
    clear hb3
    go_wp2_with fail
    refine (HPb.out _).mono ?_
    rintro e w4 ⟨rfl, hb4⟩
    have HB4 := Lib.hid (HB3.out.trans (hb4.mono HB3.out.size))
    clear hb4
    go_wp2
    go_ret
    exact ⟨rfl, HB4.out⟩
theorem sCompareLabels_any (a b : ByteArray) (w : World) : Calls Try.prog 50 #[.string a, .string b] w fun e w' => e = .returned (.int .i64 (cmpS a b)) ∧ w = w' := by
  rcases cmp_cases a b with ⟨h1, h2⟩ | ⟨h1, h2, h3⟩ | ⟨h1, h2, h3⟩
  all_goals rw [h1]
  all_goals clear h1
  · go_enter Try.func50, Try.ntmps50
    go_wp2
    go_ret
    exact ⟨rfl, rfl⟩
  · go_enter Try.func50, Try.ntmps50
    go_wp2
    go_ret
    exact ⟨rfl, rfl⟩
  · go_enter Try.func50, Try.ntmps50
    go_wp2
    go_ret
    exact ⟨rfl, rfl⟩
theorem cmpString_any (a b : ByteArray) (w : World) : Calls Try.prog 101 #[.string a, .string b] w fun e w' => e = .returned (.int .i64 (cmpS a b)) ∧ w = w' := by
  have hx : (callFunc 106 #[.string a, .string b]).run Try.prog w = .ok (.value (.int .i64 (cmpS a b))) w := by
    rw [run_callFunc_extern Try.func106 (by kernel_rfl) (by kernel_rfl) (by kernel_rfl) (e := Extern.BytealgCompare.compare) (by kernel_rfl), Lib.run_compareString]
    rfl
  go_enter Try.func101, Try.ntmps101
  go_wp2
  go_ret
  exact ⟨rfl, rfl⟩
theorem stringsCompare_any (a b : ByteArray) (w : World) : Calls Try.prog 96 #[.string a, .string b] w fun e w' => e = .returned (.int .i64 (cmpS a b)) ∧ w = w' := by
  have HC := Lib.hid (cmpString_any a b w)
  go_enter Try.func96, Try.ntmps96
  go_wp2_with fail
  refine HC.out.mono ?_
  rintro e w1 ⟨rfl, rfl⟩
  go_wp2
  go_ret
  exact ⟨rfl, rfl⟩
theorem iCompareLabels_any (a b : ByteArray) (w : World) : Calls Try.prog 74 #[.string a, .string b] w fun e w' => e = .returned (.int .i64 (cmpS a b)) ∧ w = w' := by
  have HC := Lib.hid (stringsCompare_any a b w)
  go_enter Try.func74, Try.ntmps74
  go_wp2_with fail
  refine HC.out.mono ?_
  rintro e w1 ⟨rfl, rfl⟩
  go_wp2
  go_ret
  exact ⟨rfl, rfl⟩
end Go.Proofs.Ytpjfmbcandgpeaa.C04I
