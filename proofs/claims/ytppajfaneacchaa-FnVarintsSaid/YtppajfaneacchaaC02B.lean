/- Chapter 2: what the code's and the model's functions on byte strings and lists of integers return. -/
import Derived.Test.YtppajfaneacchaaC02R
import Derived.Lib.Bytes
namespace Go.Proofs.Ytppajfaneacchaa.C02B
open Go.RowKit Mem M02 C01 C02 C02R
set_option linter.unusedVariables false
theorem iAppendBytes_any (A A2 : Option Addr) (n c m c2 : Nat) (zs ys : List Int) (w : World) (h : Rd .u8 w w.heap.size A n zs) (h2 : Rd .u8 w w.heap.size A2 m ys) (hn : n ≤ 1099511627776) (hm : m ≤ 1099511627776) :
    Calls Try.prog 20 #[.slice A n c, .slice A2 m c2] w fun e w' => ∃ A' n' c', e = .returned (.slice A' n' c') ∧ n' = n + (enc (m : Int)).length + m ∧ Own .u8 w' w.heap.size w'.heap.size A' n' c' (zs ++ (enc (m : Int) ++ ys)) ∧ Below w.heap.size w w' := by
  have hel := enc_len (m : Int)
  go_enter Try.func20, Try.ntmps20
  go_wp2_with (first | (go_at_call 14; refine (iAppendUvarint_any A n c zs m w h hn).mono ?_; rintro e w1 ⟨A1, n1, c1, rfl, hn1, hown1, hb1⟩; have h3 := h2.below hb1 (Nat.le_refl _); have hn1b : n1 ≤ 1099511627776 + 6 := (by omega); have HN := Lib.hid hn1; clear hn1) | (at_builtin; refine wp_app (k := .u8) (by unfold BI; decide) rfl _ _ rfl rfl hown1 rfl h3 (by omega) hb1.size ?_; intro A2 c2 w2 hown2 hgr2))
  go_ret
  exact ⟨_, _, _, rfl, by rw [HN.out], by simpa using hown2, hb1.trans (hgr2.below hb1.size hown1.ge)⟩
theorem sAppendBytes_any (A A2 : Option Addr) (n c m c2 : Nat) (zs ys : List Int) (w : World) (h : Rd .u8 w w.heap.size A n zs) (h2 : Rd .u8 w w.heap.size A2 m ys) (hn : n ≤ 1099511627776) (hm : m ≤ 1099511627776) :
    Calls Try.prog 31 #[.slice A n c, .slice A2 m c2] w fun e w' => ∃ A' n' c', e = .returned (.slice A' n' c') ∧ n' = n + (enc (m : Int)).length + m ∧ Own .u8 w' w.heap.size w'.heap.size A' n' c' (zs ++ (enc (m : Int) ++ ys)) ∧ Below w.heap.size w w' := by
  have hel := enc_len (m : Int)
  go_enter Try.func31, Try.ntmps31
  go_wp2_with (first | (go_at_call 26; refine (sAppendUvarint_any A n c zs m w h hn).mono ?_; rintro e w1 ⟨A1, n1, c1, rfl, hn1, hown1, hb1⟩; have h3 := h2.below hb1 (Nat.le_refl _); have hn1b : n1 ≤ 1099511627776 + 6 := (by omega); have HN := Lib.hid hn1; clear hn1) | (at_builtin; refine wp_app (k := .u8) (by unfold BI; decide) rfl _ _ rfl rfl hown1 rfl h3 (by omega) hb1.size ?_; intro A2 c2 w2 hown2 hgr2))
  go_ret
  exact ⟨_, _, _, rfl, by rw [HN.out], by simpa using hown2, hb1.trans (hgr2.below hb1.size hown1.ge)⟩
theorem conv_str {B n : Nat} {A : Option Addr} {zs : List Int} {w : World} (h : Rd .u8 w B A n zs) (c : Nat) : (convert 22 9 (.slice A n c)).run Try.prog w = .ok (.string (strOfNums zs)) w := by
  have hu : Try.prog.underlying 5 = some (.int .u8) := by kernel_rfl
  have hs : Try.prog.underlying 9 = some .string := by kernel_rfl
  rcases Nat.eq_zero_or_pos n with h0 | h0
  · subst h0
    have hz : zs = [] := List.eq_nil_of_length_eq_zero h.len
    subst hz
    rw [run_convert_bytes_string w 22 9 5 A 0 c under_u8 hu hs]
    cases A <;> simp [Conv.bytesToString, loadCells] <;> rfl
  · obtain ⟨b, off, rfl, _, hc⟩ := h.cells h0
    exact run_convert_bytes_arg w _ _ under_u8 hu b off n c zs h.len hc _ hs
theorem str_beq {zs ys : List Int} (hx : Byt zs) (hy : Byt ys) : ((strOfNums zs).toList == (strOfNums ys).toList) = decide (zs = ys) := by
  by_cases e : zs = ys
  · subst e; simp
  · rw [decide_eq_false e]
    refine beq_eq_false_iff_ne.2 fun h => e (str_inj hx hy ?_)
    rw [Lib.strOfNums_toList, Lib.strOfNums_toList] at h
    have h1 : (strOfNums zs).data.toList = (strOfNums ys).data.toList := h
    cases h2 : strOfNums zs
    cases h3 : strOfNums ys
    rw [h2, h3] at h1
    congr 1
    exact Array.toList_inj.1 h1
theorem bytesEqual_any (B B2 : Nat) (A A2 : Option Addr) (n c m c2 : Nat) (zs ys : List Int) (w : World) (h : Rd .u8 w B A n zs) (h2 : Rd .u8 w B2 A2 m ys) :
    Calls Try.prog 53 #[.slice A n c, .slice A2 m c2] w fun e w' => e = .returned (.bool (decide (zs = ys))) ∧ w = w' := by
  have e1 := conv_str h c
  have e2 := conv_str h2 c2
  have e3 := str_beq (byt_in h.wf) (byt_in h2.wf)
  have H3 := Lib.hid e3
  clear e3 h h2
  go_enter Try.func53, Try.ntmps53
  go_wp2
  go_ret
  rw [← H3.out]
  exact ⟨rfl, rfl⟩
theorem sEqualBytes_any (B B2 : Nat) (A A2 : Option Addr) (n c m c2 : Nat) (zs ys : List Int) (w : World) (h : Rd .u8 w B A n zs) (h2 : Rd .u8 w B2 A2 m ys) :
    Calls Try.prog 39 #[.slice A n c, .slice A2 m c2] w fun e w' => e = .returned (.bool (decide (zs = ys))) ∧ w = w' := by
  have e1 := conv_str h c
  have e2 := conv_str h2 c2
  have e3 := str_beq (byt_in h.wf) (byt_in h2.wf)
  have H3 := Lib.hid e3
  clear e3 h h2
  go_enter Try.func39, Try.ntmps39
  go_wp2
  go_ret
  rw [← H3.out]
  exact ⟨rfl, rfl⟩
theorem iEqualBytes_any (B B2 : Nat) (A A2 : Option Addr) (n c m c2 : Nat) (zs ys : List Int) (w : World) (h : Rd .u8 w B A n zs) (h2 : Rd .u8 w B2 A2 m ys) :
    Calls Try.prog 40 #[.slice A n c, .slice A2 m c2] w fun e w' => e = .returned (.bool (decide (zs = ys))) ∧ w = w' := by
  go_enter Try.func40, Try.ntmps40
  go_wp2_with (go_at_call 53; refine (bytesEqual_any _ _ A A2 n c m c2 zs ys _ h h2).mono ?_; rintro e w1 ⟨rfl, rfl⟩)
  go_ret
  exact ⟨rfl, rfl⟩
theorem iReadU_any (A : Option Addr) (n c : Nat) (zs : List Int) (at_ : Int) (w : World) (h : Rd .u8 w w.heap.size A n zs) (hn : n ≤ 1099511627776) (hnc : n ≤ c) :
    Calls Try.prog 15 #[.slice A n c, .int .i64 at_] w fun e w' => e = .returned (.tuple #[.int .i64 (rdU zs at_).1, .int .i64 (rdU zs at_).2.1, .bool (rdU zs at_).2.2]) ∧ Below w.heap.size w w' := iReadUvarint_any A n c zs at_ w h hn hnc
theorem sReadU_any (A : Option Addr) (n c : Nat) (zs : List Int) (at_ : Int) (w : World) (h : Rd .u8 w w.heap.size A n zs) (hn : n ≤ 1099511627776) (hnc : n ≤ c) :
    Calls Try.prog 18 #[.slice A n c, .int .i64 at_] w fun e w' => e = .returned (.tuple #[.int .i64 (rdU zs at_).1, .int .i64 (rdU zs at_).2.1, .bool (rdU zs at_).2.2]) ∧ Below w.heap.size w w' :=
  (sReadUvarint_any _ A n c zs at_ w h hn).mono fun e w' h => ⟨h.1, h.2 ▸ Below.refl _ _⟩
/-- 'b[p:p+q]' -/
theorem cut_rd {B n : Nat} {zs : List Int} {w : World} {b off p q : Nat} (h : Rd .u8 w B (some ⟨b, off, none⟩) n zs) (hpq : p + q ≤ n) : Rd .u8 w B (some ⟨b, off + p, none⟩) q ((zs.take (p + q)).drop p) := by
  rcases Nat.eq_zero_or_pos q with h0 | h0
  · subst h0
    have e : (zs.take (p + 0)).drop p = [] := List.drop_of_length_le (by simp; omega)
    rw [e]
    exact Rd.nil _ _ _ _
  · have := h.part (i := p) (j := p + q) (by omega) hpq (by omega)
    rwa [Nat.add_sub_cancel_left] at this
theorem rdB_cases (zs : List Int) (at_ most : Int) (hb : Byt zs) : ∃ (v x : Int) (ok : Bool), rdU zs at_ = (v, x, ok) ∧
    ((ok = false ∧ rdB zs at_ most = ([], 0, false)) ∨
     ∃ p q : Nat, ok = true ∧ v = q ∧ x = p ∧ 0 < p ∧ p ≤ zs.length ∧ (most < q ∧ rdB zs at_ most = ([], 0, false) ∨ (q : Int) ≤ most ∧ zs.length < p + q ∧ rdB zs at_ most = ([], 0, false) ∨ (q : Int) ≤ most ∧ p + q ≤ zs.length ∧ rdB zs at_ most = ((zs.take (p + q)).drop p, (p : Int) + q, true))) := by
  rcases hr : rdU zs at_ with ⟨v, x, ok⟩
  refine ⟨v, x, ok, rfl, ?_⟩
  rcases ok with _ | _
  · exact .inl ⟨rfl, by rw [rdB, hr, if_neg (by simp)]⟩
  · obtain ⟨h1, h2, h3, h4, h5, _⟩ := rdU_true hb (at_ := at_) (by rw [hr])
    rw [hr] at h2 h3 h4 h5
    simp only at h2 h3 h4 h5
    obtain ⟨p, rfl⟩ : ∃ p : Nat, x = p := ⟨x.toNat, by omega⟩
    obtain ⟨q, rfl⟩ : ∃ q : Nat, v = q := ⟨v.toNat, by omega⟩
    refine .inr ⟨p, q, rfl, rfl, rfl, by omega, by omega, ?_⟩
    by_cases hm : (q : Int) ≤ most
    · by_cases hl : p + q ≤ zs.length
      · refine .inr (.inr ⟨hm, hl, ?_⟩)
        rw [rdB, hr]
        simp only
        rw [if_pos (by simp; omega)]
        congr 1
      · refine .inr (.inl ⟨hm, by omega, ?_⟩)
        rw [rdB, hr, if_neg (by simp only; omega)]
    · refine .inl ⟨by omega, ?_⟩
      rw [rdB, hr, if_neg (by simp only; omega)]
set_option maxHeartbeats 800000 in
theorem iReadBytes_any (A : Option Addr) (n c : Nat) (zs : List Int) (at_ most : Int) (w : World) (h : Rd .u8 w w.heap.size A n zs) (hn : n ≤ 1099511627776) (hnc : n ≤ c) :
    Calls Try.prog 21 #[.slice A n c, .int .i64 at_, .int .i64 most] w fun e w' => ∃ A' c', e = .returned (.tuple #[.slice A' (rdB zs at_ most).1.length c', .int .i64 (rdB zs at_ most).2.1, .bool (rdB zs at_ most).2.2]) ∧ Own .u8 w' w.heap.size w'.heap.size A' (rdB zs at_ most).1.length c' (rdB zs at_ most).1 ∧ Below w.heap.size w w' := by
  have hl := h.len
  have hu := iReadU_any A n c zs at_ w h hn hnc
  obtain ⟨v, x, ok, hr, hcs⟩ := rdB_cases zs at_ most (byt_in h.wf)
  rw [hr] at hu
  have H := Lib.hid h
  have HU := Lib.hid hu
  clear h hr hu
  rcases hcs with ⟨rfl, hR⟩ | ⟨p, q, rfl, rfl, rfl, hp0, hpl, ⟨hq, hR⟩ | ⟨hq, hq2, hR⟩ | ⟨hq, hq2, hR⟩⟩
  · rw [hR]
    clear hR
    go_enter Try.func21, Try.ntmps21
    go_wp2_with fail
    refine HU.out.mono ?_
    rintro e w1 ⟨rfl, hb1⟩
    have h0 : Own .u8 (w1.alloc (.cells #[] 5)) w.heap.size (w1.heap.size + 1) (some ⟨w1.heap.size, 0, none⟩) 0 0 [] := Own.lit0 .u8 w1 hb1.size
    have hb0 := hb1.alloc hb1.size (.cells #[] 5)
    have H0 := Lib.hid h0
    have HB := Lib.hid hb0
    clear h0 hb0 hb1
    go_wp2
    go_ret3
    exact ⟨_, _, rfl, H0.out.top, HB.out⟩
  · rw [hR]
    clear hR
    rw [hl] at hpl
    go_enter Try.func21, Try.ntmps21
    go_wp2_with fail
    refine HU.out.mono ?_
    rintro e w1 ⟨rfl, hb1⟩
    have h0 : Own .u8 (w1.alloc (.cells #[] 5)) w.heap.size (w1.heap.size + 1) (some ⟨w1.heap.size, 0, none⟩) 0 0 [] := Own.lit0 .u8 w1 hb1.size
    have hb0 := hb1.alloc hb1.size (.cells #[] 5)
    have H0 := Lib.hid h0
    have HB := Lib.hid hb0
    clear h0 hb0 hb1
    go_wp2
    go_ret3
    exact ⟨_, _, rfl, H0.out.top, HB.out⟩
  · rw [hR]
    clear hR
    rw [hl] at hpl hq2
    go_enter Try.func21, Try.ntmps21
    go_wp2_with fail
    refine HU.out.mono ?_
    rintro e w1 ⟨rfl, hb1⟩
    have h0 : Own .u8 (w1.alloc (.cells #[] 5)) w.heap.size (w1.heap.size + 1) (some ⟨w1.heap.size, 0, none⟩) 0 0 [] := Own.lit0 .u8 w1 hb1.size
    have hb0 := hb1.alloc hb1.size (.cells #[] 5)
    have H0 := Lib.hid h0
    have HB := Lib.hid hb0
    clear h0 hb0 hb1
    go_wp2
    go_ret3
    exact ⟨_, _, rfl, H0.out.top, HB.out⟩
  · rw [hR]
    have hlr : ((zs.take (p + q)).drop p).length = q := by simp; omega
    rw [hl] at hpl hq2
    simp only [hlr]
    have HLR := Lib.hid hlr
    clear hR hlr
    obtain ⟨b, off, rfl, hlt, -⟩ := H.out.cells (by omega)
    generalize hd : (zs.take (p + q)).drop p = d
    have HD := Lib.hid hd
    clear hd
    by_cases hq0 : q = 0
    · subst hq0
      have hd0 : d = [] := by rw [← HD.out]; exact List.drop_of_length_le (by simp; omega)
      subst hd0
      by_cases hcp : c = p
      all_goals
        try subst hcp
        go_enter Try.func21, Try.ntmps21
        go_wp2_with fail
        refine HU.out.mono ?_
        rintro e w1 ⟨rfl, hb1⟩
        have HB1 := Lib.hid hb1
        clear hb1
        go_wp2_with (go_at_call 46; refine (copyBytes_any _ 0 _ [] w1 (Rd.nil _ _ _ _) (by omega)).mono ?_; rintro e w2 ⟨A2, c2, rfl, hown2, hgr2⟩)
        go_ret3
        exact ⟨A2, c2, by simp, by simpa using hown2.base HB1.out.size, HB1.out.trans (hgr2.mono HB1.out.size)⟩
    · go_enter Try.func21, Try.ntmps21
      go_wp2_with fail
      refine HU.out.mono ?_
      rintro e w1 ⟨rfl, hb1⟩
      have HB1 := Lib.hid hb1
      clear hb1
      have hcut : Rd .u8 w1 w1.heap.size (some ⟨b, off + p, none⟩) q d := by rw [← HD.out]; exact (cut_rd (H.out.below HB1.out (Nat.le_refl _)) (by omega)).more HB1.out.size
      have HC := Lib.hid hcut
      clear hcut
      go_wp2_with (go_at_call 46; refine (copyBytes_any _ q _ d w1 HC.out (by omega)).mono ?_; rintro e w2 ⟨A2, c2, rfl, hown2, hgr2⟩)
      go_ret3
      exact ⟨A2, c2, by simp, by simpa using hown2.base HB1.out.size, HB1.out.trans (hgr2.mono HB1.out.size)⟩
set_option maxHeartbeats 800000 in
theorem sReadBytes_any (A : Option Addr) (n c : Nat) (zs : List Int) (at_ most : Int) (w : World) (h : Rd .u8 w w.heap.size A n zs) (hn : n ≤ 1099511627776) (hnc : n ≤ c) :
    Calls Try.prog 32 #[.slice A n c, .int .i64 at_, .int .i64 most] w fun e w' => ∃ A' c', e = .returned (.tuple #[.slice A' (rdB zs at_ most).1.length c', .int .i64 (rdB zs at_ most).2.1, .bool (rdB zs at_ most).2.2]) ∧ Own .u8 w' w.heap.size w'.heap.size A' (rdB zs at_ most).1.length c' (rdB zs at_ most).1 ∧ Below w.heap.size w w' := by
  have hl := h.len
  have hu := sReadU_any A n c zs at_ w h hn hnc
  obtain ⟨v, x, ok, hr, hcs⟩ := rdB_cases zs at_ most (byt_in h.wf)
  rw [hr] at hu
  have H := Lib.hid h
  have HU := Lib.hid hu
  clear h hr hu
  rcases hcs with ⟨rfl, hR⟩ | ⟨p, q, rfl, rfl, rfl, hp0, hpl, ⟨hq, hR⟩ | ⟨hq, hq2, hR⟩ | ⟨hq, hq2, hR⟩⟩
  · rw [hR]
    clear hR
    go_enter Try.func32, Try.ntmps32
    go_wp2_with fail
    refine HU.out.mono ?_
    rintro e w1 ⟨rfl, hb1⟩
    have h0 : Own .u8 (w1.alloc (.cells #[] 5)) w.heap.size (w1.heap.size + 1) (some ⟨w1.heap.size, 0, none⟩) 0 0 [] := Own.lit0 .u8 w1 hb1.size
    have hb0 := hb1.alloc hb1.size (.cells #[] 5)
    have H0 := Lib.hid h0
    have HB := Lib.hid hb0
    clear h0 hb0 hb1
    go_wp2
    go_ret3
    exact ⟨_, _, rfl, H0.out.top, HB.out⟩
  · rw [hR]
    clear hR
    rw [hl] at hpl
    go_enter Try.func32, Try.ntmps32
    go_wp2_with fail
    refine HU.out.mono ?_
    rintro e w1 ⟨rfl, hb1⟩
    have h0 : Own .u8 (w1.alloc (.cells #[] 5)) w.heap.size (w1.heap.size + 1) (some ⟨w1.heap.size, 0, none⟩) 0 0 [] := Own.lit0 .u8 w1 hb1.size
    have hb0 := hb1.alloc hb1.size (.cells #[] 5)
    have H0 := Lib.hid h0
    have HB := Lib.hid hb0
    clear h0 hb0 hb1
    go_wp2
    go_ret3
    exact ⟨_, _, rfl, H0.out.top, HB.out⟩
  · rw [hR]
    clear hR
    rw [hl] at hpl hq2
    go_enter Try.func32, Try.ntmps32
    go_wp2_with fail
    refine HU.out.mono ?_
    rintro e w1 ⟨rfl, hb1⟩
    have h0 : Own .u8 (w1.alloc (.cells #[] 5)) w.heap.size (w1.heap.size + 1) (some ⟨w1.heap.size, 0, none⟩) 0 0 [] := Own.lit0 .u8 w1 hb1.size
    have hb0 := hb1.alloc hb1.size (.cells #[] 5)
    have H0 := Lib.hid h0
    have HB := Lib.hid hb0
    clear h0 hb0 hb1
    go_wp2
    go_ret3
    exact ⟨_, _, rfl, H0.out.top, HB.out⟩
  · rw [hR]
    have hlr : ((zs.take (p + q)).drop p).length = q := by simp; omega
    rw [hl] at hpl hq2
    simp only [hlr]
    have HLR := Lib.hid hlr
    clear hR hlr
    obtain ⟨b, off, rfl, hlt, -⟩ := H.out.cells (by omega)
    generalize hd : (zs.take (p + q)).drop p = d
    have HD := Lib.hid hd
    clear hd
    by_cases hq0 : q = 0
    · subst hq0
      have hd0 : d = [] := by rw [← HD.out]; exact List.drop_of_length_le (by simp; omega)
      subst hd0
      by_cases hcp : c = p
      all_goals
        try subst hcp
        go_enter Try.func32, Try.ntmps32
        go_wp2_with fail
        refine HU.out.mono ?_
        rintro e w1 ⟨rfl, hb1⟩
        have HB1 := Lib.hid hb1
        clear hb1
        have H0 := Lib.hid (Own.lit0 .u8 w1 HB1.out.size)
        go_wp2_with (at_builtin; refine wp_app (k := .u8) (lo := w.heap.size) (by unfold BI; decide) rfl _ _ rfl rfl H0.out rfl (Rd.nil _ _ w.heap.size _) (by omega) (by have := HB1.out.size; simp; omega) ?_; intro A2 c2 w2 hown2 hgr2)
        go_ret3
        exact ⟨A2, c2, by simp, by simpa using hown2, (HB1.out.alloc HB1.out.size _).trans (hgr2.below (by have := HB1.out.size; simp; omega) H0.out.ge)⟩
    · go_enter Try.func32, Try.ntmps32
      go_wp2_with fail
      refine HU.out.mono ?_
      rintro e w1 ⟨rfl, hb1⟩
      have HB1 := Lib.hid hb1
      clear hb1
      have H0 := Lib.hid (Own.lit0 .u8 w1 HB1.out.size)
      have hcut : Rd .u8 (w1.alloc (.cells #[] 5)) w.heap.size (some ⟨b, off + p, none⟩) (p + q - p) d := by rw [Nat.add_sub_cancel_left, ← HD.out]; exact (cut_rd (H.out.below HB1.out (Nat.le_refl _)) (by omega)).alloc HB1.out.size _
      have HC := Lib.hid hcut
      clear hcut
      go_wp2_with (at_builtin; refine wp_app (k := .u8) (lo := w.heap.size) (by unfold BI; decide) rfl _ _ rfl rfl H0.out rfl HC.out (by omega) (by have := HB1.out.size; simp; omega) ?_; intro A2 c2 w2 hown2 hgr2)
      go_ret3
      exact ⟨A2, c2, by simp, by simpa using hown2, (HB1.out.alloc HB1.out.size _).trans (hgr2.below (by have := HB1.out.size; simp; omega) H0.out.ge)⟩
end Go.Proofs.Ytppajfaneacchaa.C02B
