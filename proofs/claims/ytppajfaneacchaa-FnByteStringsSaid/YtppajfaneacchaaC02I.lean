/- Chapter 2: what the code's and the model's functions on lists of integers return. -/
import Derived.Test.YtppajfaneacchaaC02B
namespace Go.Proofs.Ytppajfaneacchaa.C02I
open Go.RowKit Mem M02 C01 C02 C02R C02B
set_option linter.unusedVariables false
theorem iEncodeInts_any (A : Option Addr) (n c : Nat) (zs : List Int) (w : World) (h : Rd .i64 w w.heap.size A n zs) (hn : n ≤ 1073741824) :
    Calls Try.prog 23 #[.slice A n c] w fun e w' => ∃ A' c', e = .returned (.slice A' (encs zs).length c') ∧ Own .u8 w' w.heap.size w'.heap.size A' (encs zs).length c' (encs zs) ∧ Below w.heap.size w w' := by
  have hl := h.len
  have h0 : Own .u8 (w.alloc (.cells #[] 5)) w.heap.size (w.heap.size + 1) (some ⟨w.heap.size, 0, none⟩) 0 0 [] := Own.lit0 .u8 w (Nat.le_refl _)
  have hb0 : Below w.heap.size w (w.alloc (.cells #[] 5)) := (Below.refl _ _).alloc (Nat.le_refl _) _
  have H0 := Lib.hid h0
  have HB := Lib.hid hb0
  have H := Lib.hid h
  clear h0 hb0 h
  go_enter Try.func23, Try.ntmps23
  go_wp2
  go_loopw [3, 9] (fun v i wr => ∃ (A1 : Option Addr) (n1 c1 j : Nat), v = .slice A1 n1 c1 ∧ i = .int .i64 j ∧ j ≤ n ∧ n1 = (encs (zs.take j)).length ∧ Own .u8 wr w.heap.size wr.heap.size A1 n1 c1 (encs (zs.take j)) ∧ Below w.heap.size w wr) (fun _ i _ => n - (intOf i).toNat)
  case atStart => exact ⟨_, 0, 0, 0, rfl, rfl, by omega, by simp [encs], by simpa [encs] using H0.out.top, HB.out⟩
  case round =>
    obtain ⟨A1, n1, c1, j, rfl, rfl, hj, hn1, hown, hbel⟩ := hrel
    have hlo := hbel.size
    have hnb : n1 ≤ 6 * j := by
      have := encs_len (zs.take j)
      have h2 : (zs.take j).length ≤ j := by simp; omega
      omega
    have HN := Lib.hid hn1
    have HO := Lib.hid hown
    have HX := Lib.hid hbel
    have HL := Lib.hid hl
    by_cases hjn : j < n
    · obtain ⟨b, off, rfl, hlt, hc⟩ := (H.out.below hbel (Nat.le_refl _)).cell_at hjn
      have hs := encs_succ (l := zs) (j := j) (by omega)
      generalize zs.getD j 0 = z at hc hs
      have HS := Lib.hid hs
      clear hn1 hown hbel hl hs
      go_wp2_with (go_at_call 45; refine (appendGroups_any w.heap.size _ A1 n1 c1 _ z _ HO.out hlo (by omega)).mono ?_; rintro e w2 ⟨A2, n2, c2, rfl, hn2, hown2, hgr2⟩; have HN2 := Lib.hid hn2; clear hn2)
      go_roundw
      case rel => exact ⟨A2, n2, c2, j + 1, rfl, by go_num, by omega, by rw [HS.out, List.length_append, ← HN.out]; exact HN2.out, by rw [HS.out]; exact hown2, HX.out.trans (hgr2.below hlo HO.out.ge)⟩
      case measure => simp [intOf]; omega
    · have e : zs.take j = zs := List.take_of_length_le (by omega)
      clear hn1 hown hbel hl
      go_wp2
      go_ret
      have hN := HN.out
      have hO := HO.out
      rw [e] at hN hO
      subst hN
      exact ⟨_, _, rfl, hO, HX.out⟩
theorem sEncodeInts_any (A : Option Addr) (n c : Nat) (zs : List Int) (w : World) (h : Rd .i64 w w.heap.size A n zs) (hn : n ≤ 1073741824) :
    Calls Try.prog 33 #[.slice A n c] w fun e w' => ∃ A' c', e = .returned (.slice A' (encs zs).length c') ∧ Own .u8 w' w.heap.size w'.heap.size A' (encs zs).length c' (encs zs) ∧ Below w.heap.size w w' := by
  have hl := h.len
  have h0 : Own .u8 (w.alloc (.cells #[] 5)) w.heap.size (w.heap.size + 1) (some ⟨w.heap.size, 0, none⟩) 0 0 [] := Own.lit0 .u8 w (Nat.le_refl _)
  have hb0 : Below w.heap.size w (w.alloc (.cells #[] 5)) := (Below.refl _ _).alloc (Nat.le_refl _) _
  have H0 := Lib.hid h0
  have HB := Lib.hid hb0
  have H := Lib.hid h
  clear h0 hb0 h
  go_enter Try.func33, Try.ntmps33
  go_wp2
  go_loopw [3, 4] (fun v i wr => ∃ (A1 : Option Addr) (n1 c1 j : Nat), v = .slice A1 n1 c1 ∧ i = .int .i64 j ∧ j ≤ n ∧ n1 = (encs (zs.take j)).length ∧ Own .u8 wr w.heap.size wr.heap.size A1 n1 c1 (encs (zs.take j)) ∧ Below w.heap.size w wr) (fun _ i _ => n - (intOf i).toNat)
  case atStart => exact ⟨_, 0, 0, 0, rfl, rfl, by omega, by simp [encs], by simpa [encs] using H0.out.top, HB.out⟩
  case round =>
    obtain ⟨A1, n1, c1, j, rfl, rfl, hj, hn1, hown, hbel⟩ := hrel
    have hlo := hbel.size
    have hnb : n1 ≤ 6 * j := by
      have := encs_len (zs.take j)
      have h2 : (zs.take j).length ≤ j := by simp; omega
      omega
    have HN := Lib.hid hn1
    have HO := Lib.hid hown
    have HX := Lib.hid hbel
    have HL := Lib.hid hl
    by_cases hjn : j < n
    · obtain ⟨b, off, rfl, hlt, hc⟩ := (H.out.below hbel (Nat.le_refl _)).cell_at hjn
      have hs := encs_succ (l := zs) (j := j) (by omega)
      generalize zs.getD j 0 = z at hc hs
      have HS := Lib.hid hs
      clear hn1 hown hbel hl hs
      go_wp2_with (go_at_call 26; refine (sAppendUvarint_any A1 n1 c1 _ z _ HO.out.rd (by omega)).mono ?_; rintro e w2 ⟨A2, n2, c2, rfl, hn2, hown2, hb2⟩; have HN2 := Lib.hid hn2; clear hn2)
      go_roundw
      case rel => exact ⟨A2, n2, c2, j + 1, rfl, by go_num, by omega, by rw [HS.out, List.length_append, ← HN.out]; exact HN2.out, by rw [HS.out]; exact hown2.base hlo, HX.out.trans (hb2.mono hlo)⟩
      case measure => simp [intOf]; omega
    · have e : zs.take j = zs := List.take_of_length_le (by omega)
      clear hn1 hown hbel hl
      go_wp2
      go_ret
      have hN := HN.out
      have hO := HO.out
      rw [e] at hN hO
      subst hN
      exact ⟨_, _, rfl, hO, HX.out⟩
theorem iDecodeInts_any (A : Option Addr) (n c : Nat) (zs : List Int) (at_ cnt : Int) (w : World) (h : Rd .u8 w w.heap.size A n zs) (hn : n ≤ 1099511627776) (hnc : n ≤ c) :
    Calls Try.prog 24 #[.slice A n c, .int .i64 at_, .int .i64 cnt] w fun e w' => ∃ A' c', e = .returned (.tuple #[.slice A' (rdI zs at_ cnt).1.length c', .int .i64 (rdI zs at_ cnt).2.1, .bool (rdI zs at_ cnt).2.2]) ∧ Own .i64 w' w.heap.size w'.heap.size A' (rdI zs at_ cnt).1.length c' (rdI zs at_ cnt).1 ∧ Below w.heap.size w w' := by
  have hl := h.len
  have h0 : Own .i64 (w.alloc (.cells #[] 3)) w.heap.size (w.heap.size + 1) (some ⟨w.heap.size, 0, none⟩) 0 0 [] := Own.lit0 .i64 w (Nat.le_refl _)
  have hb0 : Below w.heap.size w (w.alloc (.cells #[] 3)) := (Below.refl _ _).alloc (Nat.le_refl _) _
  have H0 := Lib.hid h0
  have HB := Lib.hid hb0
  have H := Lib.hid h
  have HL := Lib.hid hl
  clear h0 hb0 h hl
  by_cases h1 : 0 ≤ cnt ∧ cnt ≤ 100
  · have hir1 := inR_true h1.1 h1.2
    by_cases h2 : 0 ≤ at_ ∧ at_ ≤ n
    · have hir2 := inR_true h2.1 h2.2
      obtain ⟨p, rfl⟩ : ∃ p : Nat, at_ = p := ⟨at_.toNat, by omega⟩
      obtain ⟨k, rfl⟩ : ∃ k : Nat, cnt = k := ⟨cnt.toNat, by omega⟩
      have hk : k ≤ 100 := by omega
      have hpn : p ≤ n := by omega
      have hR : rdI zs p k = dres (decs zs k p) := by
        rw [rdI, if_pos ⟨⟨by omega, by omega⟩, by omega, by have := HL.out; omega⟩, Int.toNat_natCast]
      rw [hR]
      clear hR h1 h2
      go_enter Try.func24, Try.ntmps24
      go_wp2_with (go_at_call 47; refine (inRange_any _ _ _ _).mono ?_; (first | rw [hir1] | rw [hir2]); rintro e w1 ⟨rfl, rfl⟩)
      go_loopw [1, 9, 26] (fun q v i wr => ∃ (A1 : Option Addr) (c1 j cur : Nat) (d : List Int), v = .slice A1 j c1 ∧ i = .int .i64 j ∧ j ≤ k ∧ q = .int .i64 cur ∧ cur ≤ n ∧ Own .i64 wr w.heap.size wr.heap.size A1 j c1 d ∧ Below w.heap.size w wr ∧ decs zs k p = (decs zs (k - j) cur).map fun r => (d ++ r.1, r.2)) (fun _ _ i _ => k - (intOf i).toNat)
      case atStart => exact ⟨_, 0, 0, p, [], rfl, rfl, by omega, rfl, hpn, H0.out.top, HB.out, by simp⟩
      case round =>
        obtain ⟨A1, c1, j, cur, d, rfl, rfl, hj, rfl, hcn, hown, hbel, hd⟩ := hrel
        have hlo := hbel.size
        have HO := Lib.hid hown
        have HX := Lib.hid hbel
        have HD := Lib.hid hd
        clear hown hbel hd
        by_cases hjk : j < k
        · have hu := iReadU_any A n c zs cur wr ((H.out.below HX.out (Nat.le_refl _)).more hlo) hn hnc
          rcases hr : rdU zs cur with ⟨v, x, ok⟩
          rw [hr] at hu
          have hkj : k - j = (k - (j + 1)) + 1 := by omega
          have hd2 := HD.out
          rw [hkj] at hd2
          have HU := Lib.hid hu
          rcases ok with _ | _
          · have hf := decs_fail hd2 hr
            have HF := Lib.hid hf
            clear hu hr hkj hd2 hf
            go_wp2_with fail
            refine HU.out.mono ?_
            rintro e w2 ⟨rfl, hb2⟩
            have HB2 := Lib.hid (HX.out.trans (hb2.mono hlo))
            clear hb2
            have H2 := Lib.hid (Own.lit0 (lo := w.heap.size) .i64 w2 HB2.out.size)
            go_wp2
            go_ret3
            rw [HF.out]
            exact ⟨_, _, by simp [dres], H2.out.top, HB2.out.alloc HB2.out.size _⟩
          · obtain ⟨g1, g2, g3, g4, g5, -⟩ := rdU_true (byt_in H.out.wf) (at_ := cur) (by rw [hr])
            rw [hr, HL.out] at g3
            rw [hr] at g2 g4 g5
            simp only at g2 g3 g4 g5
            obtain ⟨x, rfl⟩ : ∃ x' : Nat, x = x' := ⟨x.toNat, by omega⟩
            have hs := decs_step hd2 hr
            have hvin : In .i64 v := by constructor <;> simp [IntKind.min, IntKind.max, IntKind.signed, IntKind.bits] <;> omega
            have HS := Lib.hid hs
            clear hu hr hkj hd2 hs g1 g2 g4 g5
            go_wp2_with fail
            refine HU.out.mono ?_
            rintro e w2 ⟨rfl, hb2⟩
            have HB2 := Lib.hid (HX.out.trans (hb2.mono hlo))
            have HO2 := Lib.hid (HO.out.below hb2 (Nat.le_refl _)).top
            clear hb2
            go_wp2_with (at_builtin; refine wp_push (k := .i64) (z := v) (by unfold BI; decide) rfl _ _ rfl rfl HO2.out rfl hvin (by omega) HB2.out.size ?_; intro A2 c2 w3 hown3 hgr3)
            go_roundw
            case rel => exact ⟨A2, c2, j + 1, x, d ++ [v], rfl, by go_num, by omega, rfl, by omega, hown3, HB2.out.trans (hgr3.below HB2.out.size HO2.out.ge), HS.out⟩
            case measure => simp [intOf]; omega
        · have hkj : k - j = 0 := by omega
          have hd2 := HD.out
          rw [hkj, decs] at hd2
          simp only [Option.map_some, List.append_nil] at hd2
          have hj2 : d.length = j := HO.out.len
          have HD2 := Lib.hid hd2
          have HJ2 := Lib.hid hj2
          clear hd2 hkj hj2
          go_wp2
          go_ret3
          have hj2 := HJ2.out
          subst hj2
          rw [HD2.out]
          exact ⟨_, _, rfl, HO.out, HX.out⟩
    · have hir2 := inR_false (n := at_) (a := 0) (b := n) (by omega)
      have hR : rdI zs at_ cnt = ([], 0, false) := by
        rw [rdI, if_neg (by have := HL.out; omega)]
      rw [hR]
      clear hR h1 h2
      go_enter Try.func24, Try.ntmps24
      go_wp2_with (go_at_call 47; refine (inRange_any _ _ _ _).mono ?_; (first | rw [hir1] | rw [hir2]); rintro e w1 ⟨rfl, rfl⟩)
      go_ret3
      exact ⟨_, _, by simp, H0.out.top, HB.out⟩
  · have hir1 := inR_false (n := cnt) (a := 0) (b := 100) (by omega)
    have hR : rdI zs at_ cnt = ([], 0, false) := by
      rw [rdI, if_neg (by omega)]
    rw [hR]
    clear hR h1
    go_enter Try.func24, Try.ntmps24
    go_wp2_with (go_at_call 47; refine (inRange_any _ _ _ _).mono ?_; rw [hir1]; rintro e w1 ⟨rfl, rfl⟩)
    go_ret3
    exact ⟨_, _, by simp, H0.out.top, HB.out⟩
theorem sDecodeInts_any (A : Option Addr) (n c : Nat) (zs : List Int) (at_ cnt : Int) (w : World) (h : Rd .u8 w w.heap.size A n zs) (hn : n ≤ 1099511627776) (hnc : n ≤ c) :
    Calls Try.prog 37 #[.slice A n c, .int .i64 at_, .int .i64 cnt] w fun e w' => ∃ A' c', e = .returned (.tuple #[.slice A' (rdI zs at_ cnt).1.length c', .int .i64 (rdI zs at_ cnt).2.1, .bool (rdI zs at_ cnt).2.2]) ∧ Own .i64 w' w.heap.size w'.heap.size A' (rdI zs at_ cnt).1.length c' (rdI zs at_ cnt).1 ∧ Below w.heap.size w w' := by
  have hl := h.len
  have h0 : Own .i64 (w.alloc (.cells #[] 3)) w.heap.size (w.heap.size + 1) (some ⟨w.heap.size, 0, none⟩) 0 0 [] := Own.lit0 .i64 w (Nat.le_refl _)
  have hb0 : Below w.heap.size w (w.alloc (.cells #[] 3)) := (Below.refl _ _).alloc (Nat.le_refl _) _
  have H0 := Lib.hid h0
  have HB := Lib.hid hb0
  have H := Lib.hid h
  have HL := Lib.hid hl
  clear h0 hb0 h hl
  by_cases h1 : 0 ≤ cnt ∧ cnt ≤ 100
  · have hir1 := inR_true h1.1 h1.2
    by_cases h2 : 0 ≤ at_ ∧ at_ ≤ n
    · have hir2 := inR_true h2.1 h2.2
      obtain ⟨p, rfl⟩ : ∃ p : Nat, at_ = p := ⟨at_.toNat, by omega⟩
      obtain ⟨k, rfl⟩ : ∃ k : Nat, cnt = k := ⟨cnt.toNat, by omega⟩
      have hk : k ≤ 100 := by omega
      have hpn : p ≤ n := by omega
      have hR : rdI zs p k = dres (decs zs k p) := by
        rw [rdI, if_pos ⟨⟨by omega, by omega⟩, by omega, by have := HL.out; omega⟩, Int.toNat_natCast]
      rw [hR]
      clear hR h1 h2
      go_enter Try.func37, Try.ntmps37
      go_wp2_with (go_at_call 52; refine (l1In_any _ _ _ _).mono ?_; (first | rw [hir1] | rw [hir2]); rintro e w1 ⟨rfl, rfl⟩)
      go_loopw [1, 9, 10] (fun q v i wr => ∃ (A1 : Option Addr) (c1 j cur : Nat) (d : List Int), v = .slice A1 j c1 ∧ i = .int .i64 j ∧ j ≤ k ∧ q = .int .i64 cur ∧ cur ≤ n ∧ Own .i64 wr w.heap.size wr.heap.size A1 j c1 d ∧ Below w.heap.size w wr ∧ decs zs k p = (decs zs (k - j) cur).map fun r => (d ++ r.1, r.2)) (fun _ _ i _ => k - (intOf i).toNat)
      case atStart => exact ⟨_, 0, 0, p, [], rfl, rfl, by omega, rfl, hpn, H0.out.top, HB.out, by simp⟩
      case round =>
        obtain ⟨A1, c1, j, cur, d, rfl, rfl, hj, rfl, hcn, hown, hbel, hd⟩ := hrel
        have hlo := hbel.size
        have HO := Lib.hid hown
        have HX := Lib.hid hbel
        have HD := Lib.hid hd
        clear hown hbel hd
        by_cases hjk : j < k
        · have hu := sReadU_any A n c zs cur wr ((H.out.below HX.out (Nat.le_refl _)).more hlo) hn hnc
          rcases hr : rdU zs cur with ⟨v, x, ok⟩
          rw [hr] at hu
          have hkj : k - j = (k - (j + 1)) + 1 := by omega
          have hd2 := HD.out
          rw [hkj] at hd2
          have HU := Lib.hid hu
          rcases ok with _ | _
          · have hf := decs_fail hd2 hr
            have HF := Lib.hid hf
            clear hu hr hkj hd2 hf
            go_wp2_with fail
            refine HU.out.mono ?_
            rintro e w2 ⟨rfl, hb2⟩
            have HB2 := Lib.hid (HX.out.trans (hb2.mono hlo))
            clear hb2
            have H2 := Lib.hid (Own.lit0 (lo := w.heap.size) .i64 w2 HB2.out.size)
            go_wp2
            go_ret3
            rw [HF.out]
            exact ⟨_, _, by simp [dres], H2.out.top, HB2.out.alloc HB2.out.size _⟩
          · obtain ⟨g1, g2, g3, g4, g5, -⟩ := rdU_true (byt_in H.out.wf) (at_ := cur) (by rw [hr])
            rw [hr, HL.out] at g3
            rw [hr] at g2 g4 g5
            simp only at g2 g3 g4 g5
            obtain ⟨x, rfl⟩ : ∃ x' : Nat, x = x' := ⟨x.toNat, by omega⟩
            have hs := decs_step hd2 hr
            have hvin : In .i64 v := by constructor <;> simp [IntKind.min, IntKind.max, IntKind.signed, IntKind.bits] <;> omega
            have HS := Lib.hid hs
            clear hu hr hkj hd2 hs g1 g2 g4 g5
            go_wp2_with fail
            refine HU.out.mono ?_
            rintro e w2 ⟨rfl, hb2⟩
            have HB2 := Lib.hid (HX.out.trans (hb2.mono hlo))
            have HO2 := Lib.hid (HO.out.below hb2 (Nat.le_refl _)).top
            clear hb2
            go_wp2_with (at_builtin; refine wp_push (k := .i64) (z := v) (by unfold BI; decide) rfl _ _ rfl rfl HO2.out rfl hvin (by omega) HB2.out.size ?_; intro A2 c2 w3 hown3 hgr3)
            go_roundw
            case rel => exact ⟨A2, c2, j + 1, x, d ++ [v], rfl, by go_num, by omega, rfl, by omega, hown3, HB2.out.trans (hgr3.below HB2.out.size HO2.out.ge), HS.out⟩
            case measure => simp [intOf]; omega
        · have hkj : k - j = 0 := by omega
          have hd2 := HD.out
          rw [hkj, decs] at hd2
          simp only [Option.map_some, List.append_nil] at hd2
          have hj2 : d.length = j := HO.out.len
          have HD2 := Lib.hid hd2
          have HJ2 := Lib.hid hj2
          clear hd2 hkj hj2
          go_wp2
          go_ret3
          have hj2 := HJ2.out
          subst hj2
          rw [HD2.out]
          exact ⟨_, _, rfl, HO.out, HX.out⟩
    · have hir2 := inR_false (n := at_) (a := 0) (b := n) (by omega)
      have hR : rdI zs at_ cnt = ([], 0, false) := by
        rw [rdI, if_neg (by have := HL.out; omega)]
      rw [hR]
      clear hR h1 h2
      go_enter Try.func37, Try.ntmps37
      go_wp2_with (go_at_call 52; refine (l1In_any _ _ _ _).mono ?_; (first | rw [hir1] | rw [hir2]); rintro e w1 ⟨rfl, rfl⟩)
      go_ret3
      exact ⟨_, _, by simp, H0.out.top, HB.out⟩
  · have hir1 := inR_false (n := cnt) (a := 0) (b := 100) (by omega)
    have hR : rdI zs at_ cnt = ([], 0, false) := by
      rw [rdI, if_neg (by omega)]
    rw [hR]
    clear hR h1
    go_enter Try.func37, Try.ntmps37
    go_wp2_with (go_at_call 52; refine (l1In_any _ _ _ _).mono ?_; rw [hir1]; rintro e w1 ⟨rfl, rfl⟩)
    go_ret3
    exact ⟨_, _, by simp, H0.out.top, HB.out⟩
end Go.Proofs.Ytppajfaneacchaa.C02I
