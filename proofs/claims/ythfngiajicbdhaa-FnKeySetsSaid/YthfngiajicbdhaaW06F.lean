/- The walk of the statement of promise 6: the law returns true, and writes into nothing that was there. -/
import Derived.Test.YthfngiajicbdhaaC06I
import Derived.Test.YthfngiajicbdhaaD06K
import Derived.Test.YthfngiajicbdhaaM06F
import Derived.Test.YthfngiajicbdhaaT01
import Derived.Test.YthfngiajicbdhaaTB
import Derived.Test.YthfngiajicbdhaaRGS
import Derived.Deep.RegionHeld3
namespace Go.Proofs.Ythfngiajicbdhaa.W06F
set_option linter.unusedVariables false
set_option maxRecDepth 100000
open Go.RowKit Mem MemS M02 C01 C02 Rep R06 M03 M06 C06S C06I D01 D06 D06K M06F SL T01 TB RG RGS
theorem hasInt_any (B : Nat) (A : Option Addr) (n c : Nat) (l : List Int) (key : Int) (w : World) (h : Rd .i64 w B A n l) (hn : n ≤ 1099511627776) :
    Calls Try.prog 15 #[.slice A n c, .int .i64 key] w fun e w' => e = .returned (.bool (hasK l key)) ∧ w = w' := by
  have HL := Lib.hid h.len
  go_enter Try.func15, Try.ntmps15
  go_wp2
  go_loop [5] (fun i => ∃ j : Nat, j ≤ n ∧ i = .int .i64 j ∧ ∀ k, k < j → l.getD k 0 ≠ key) (fun i => n - (intOf i).toNat)
  case atStart => exact ⟨0, by omega, rfl, fun k hk => absurd hk (by omega)⟩
  case round =>
    obtain ⟨j, hj, rfl, hf⟩ := hrel
    have HF := Lib.hid hf
    clear hf
    by_cases hjn : j < n
    · obtain ⟨b, off, rfl, hlt, hc⟩ := h.cells (by omega)
      have hcj := hc j hjn
      have HX := Lib.hid (show ∀ x : Int, l.getD j 0 = x → j < l.length from fun _ _ => by rw [HL.out]; exact hjn)
      generalize hx : l.getD j 0 = x at hcj
      have HE := Lib.hid hx
      clear hc hx h
      by_cases hk : x = key
      · subst hk
        have HR := Lib.hid (hasK_at (HX.out _ HE.out) HE.out)
        go_wp2
        go_ret
        exact ⟨by rw [HR.out]; rfl, rfl⟩
      · have hkb : (x == key) = false := beq_eq_false_iff_ne.2 hk
        have HK := Lib.hid hk
        clear hk
        go_wp2
        go_round
        case rel => exact ⟨j + 1, by omega, by go_num, fun k hk => by
          rcases Nat.lt_or_ge k j with h1 | h1
          · exact HF.out k h1
          · obtain rfl : k = j := by omega
            rw [HE.out]
            exact HK.out⟩
        case measure => simp [intOf]; omega
    · have HR := Lib.hid (hasK_none (l := l) (key := key) fun j' hj' => HF.out j' (by have := HL.out; omega))
      clear h
      go_wp2
      go_ret
      exact ⟨by rw [HR.out]; rfl, rfl⟩
theorem up_rd {w w' : World} {cs : List Value} {k : Keys} (h : RKeys.rd w (Lt w.heap.size) cs k) (hb : Below w.heap.size w w') : RKeys.rd w' (Lt w'.heap.size) cs k :=
  RKeys.more (RKeys.keep h fun i hi => hb.block i hi) fun i hi => Nat.lt_of_lt_of_le hi hb.size
theorem Rep_below_drew {w w7 : World} (h : Below w.drew.heap.size w.drew w7) : Below w.heap.size w w7 := R06.below_drew h
theorem one_le : 1 ≤ 1099511627776 := by decide
theorem lit_one {x : Int} (hx : In .i64 x) {w : World} : Rd .i64 (w.alloc (.cells #[.int .i64 x] 3)) (w.alloc (.cells #[.int .i64 x] 3)).heap.size (some ⟨w.heap.size, 0, none⟩) 1 [x] :=
  (own_lit .i64 w (b := w.heap.size) (lo := w.heap.size) (zs := [x]) (n := 1) (cs := #[.int .i64 x]) (ty := 3) rfl rfl rfl rfl (by intro z hz; rw [List.mem_singleton.1 hz]; exact hx) (Nat.le_refl _) (by simp [maxLen])).rd.more (by simp)
theorem sameInts_b {B B' n : Nat} (A A' : Option Addr) (c c' : Nat) {zs : List Int} {w : World} (h : Rd .i64 w B A n zs) (h' : Rd .i64 w B' A' n zs) (hn : zs.length ≤ 1099511627776) :
    Calls Try.prog 24 #[.slice A n c, .slice A' n c'] w fun e w' => e = .returned (.bool true) ∧ Below w.heap.size w w' :=
  (sameInts_same B B' A A' n c c' zs w h h' (by have := h.len; omega)).mono fun e w' q => ⟨q.1, q.2.below _⟩
theorem anyK_len {l : List Int} {nd : Int} (h : AnyK l nd) : l.length ≤ 4 ∧ -1 ≤ nd ∧ nd ≤ 5 := by
  rcases h with h | ⟨_, h, h0⟩ | ⟨l0, x, h, _, rfl⟩ | ⟨rfl, l0, h⟩
  · have := drawn_len h; omega
  · have := drawn_len h; omega
  · have := drawn_len h; simp; omega
  · have := drawn_len h; simp; omega
theorem rd_of {w : World} {lo : Nat} {A : Option Addr} {n c : Nat} {l : List Int} {nd : Int} (h : Own .i64 w lo w.heap.size A n c l) (hk : AnyK l nd) : RKeys.rd w (Lt w.heap.size) [.slice A n c, .int .i64 nd] ⟨l, nd⟩ := by
  have := anyK_len hk
  exact RKeys_rd.2 ⟨A, n, c, rfl, h.cap.1, h.cap.2, h.rd, inI64 (by simp only; omega) (by simp only; omega)⟩
set_option maxHeartbeats 8000000 in
theorem FnKeySets_walk (W0 : World) (A : Option Addr) (n c : Nat) (hn : n ≤ maxLen) (hr : BRow W0 W0.heap.size A n) :
    Calls Try.prog 3 #[.slice A n c] W0 fun e w' => e = .returned (.bool true) ∧ Below W0.heap.size W0 w' := by
  by_cases hbig : 1048576 < n
  · go_enter Try.func3, Try.ntmps3
    go_wp2_with fail
    refine (big_yes _ _ _ _ hbig).mono ?_
    rintro e w1 ⟨rfl, rfl⟩
    go_wp2
    go_ret
    exact ⟨rfl, Below.refl _ _⟩
  have HR := Lib.hid hr
  clear hr
  go_enter Try.func3, Try.ntmps3
  go_wp2_with fail
  refine (big_no _ _ _ _ (by omega)).mono ?_
  rintro e w1 ⟨rfl, rfl⟩
  go_wp2_with fail
  refine (drawEqualKeys_any W0 A n c hn HR.out).mono ?_
  rintro e W1 ⟨Aa, na, ca, la, da, Ab, nb, cb, lb, db, rfl, hka, hkb, hoa, hob, hb1⟩
  have HKa := Lib.hid hka
  have HKb := Lib.hid hkb
  have HB1 := Lib.hid (hb1.alloc hb1.size (.cells #[.slice Aa na ca, .int .i64 da] 26) |>.alloc (by have := hb1.size; simp; omega) (.cells #[.slice Ab nb cb, .int .i64 db] 26))
  have HN1 := Lib.hid ((Below.refl W1.heap.size W1).alloc (Nat.le_refl _) (.cells #[.slice Aa na ca, .int .i64 da] 26) |>.alloc (by simp) (.cells #[.slice Ab nb cb, .int .i64 db] 26))
  have HXa := Lib.hid ((Box.new W1 #[.slice Aa na ca, .int .i64 da] 26).alloc (.cells #[.slice Ab nb cb, .int .i64 db] 26))
  have HXb := Lib.hid (show Box ((W1.alloc (.cells #[.slice Aa na ca, .int .i64 da] 26)).alloc (.cells #[.slice Ab nb cb, .int .i64 db] 26)) (W1.heap.size + 1) [.slice Ab nb cb, .int .i64 db] by have h := Box.new (W1.alloc (.cells #[.slice Aa na ca, .int .i64 da] 26)) #[.slice Ab nb cb, .int .i64 db] 26; simpa using h)
  have HDa := Lib.hid (up_rd (rd_of hoa hka) HN1.out)
  have HDb := Lib.hid (up_rd (rd_of hob hkb) HN1.out)
  generalize hV1 : (W1.alloc (.cells #[.slice Aa na ca, .int .i64 da] 26)).alloc (.cells #[.slice Ab nb cb, .int .i64 db] 26) = V1 at HB1 HN1 HXa HXb HDa HDb
  have HV1 := Lib.hid hV1
  clear hka hkb hoa hob hb1 HN1 hV1
  go_wp2_with fail
  rw [HV1.out]
  refine (drawCanSign_any V1 A n c hn ((HR.out.below HB1.out).more HB1.out.size)).mono ?_
  rintro e W2 ⟨Ac, nc, cc, lc, dc, v, rfl, hkc, hoc, ⟨Ah, nh, ch, lh, rfl, hnh, hoh⟩, hb2⟩
  have HKc := Lib.hid hkc
  have HB2 := Lib.hid ((HB1.out.trans (hb2.mono HB1.out.size)).alloc (Nat.le_trans HB1.out.size hb2.size) (.cells #[.slice Ac nc cc, .int .i64 dc] 26))
  have HN2 := Lib.hid ((Below.refl W2.heap.size W2).alloc (Nat.le_refl _) (.cells #[.slice Ac nc cc, .int .i64 dc] 26))
  have HM2 := Lib.hid (hb2.alloc hb2.size (.cells #[.slice Ac nc cc, .int .i64 dc] 26))
  have HXa2 := Lib.hid (HXa.out.below HM2.out HXa.out.lt)
  have HXb2 := Lib.hid (HXb.out.below HM2.out HXb.out.lt)
  have HXc := Lib.hid (Box.new W2 #[.slice Ac nc cc, .int .i64 dc] 26)
  have HDa2 := Lib.hid (up_rd HDa.out HM2.out)
  have HDb2 := Lib.hid (up_rd HDb.out HM2.out)
  have HDc := Lib.hid (up_rd (rd_of hoc hkc) HN2.out)
  have HHh := Lib.hid ((hoh.rd.below HN2.out (Nat.le_refl _)).more HN2.out.size)
  have HCh := Lib.hid hoh.cap.1
  have hlh := hoh.len
  have HLh := Lib.hid hlh
  generalize hV2 : W2.alloc (.cells #[.slice Ac nc cc, .int .i64 dc] 26) = V2 at HB2 HN2 HM2 HXa2 HXb2 HXc HDa2 HDb2 HDc HHh
  have HV2 := Lib.hid hV2
  clear hkc hoc hoh hb2 HN2 HM2 hV2 hlh HXa HXb HDa HDb
  go_wp2_with fail
  rw [HV2.out]
  refine (drawHasKey_any V2 A n c hn ((HR.out.below HB2.out).more HB2.out.size)).mono ?_
  rintro e W3 ⟨Ak, nk, ck, lk, dk, v, rfl, hkk, hok, ⟨key, hy0, hy1, rfl⟩, hb3⟩
  have HKk := Lib.hid hkk
  have HB3 := Lib.hid ((HB2.out.trans (hb3.mono HB2.out.size)).alloc (Nat.le_trans HB2.out.size hb3.size) (.cells #[.slice Ak nk ck, .int .i64 dk] 26))
  have HN3 := Lib.hid ((Below.refl W3.heap.size W3).alloc (Nat.le_refl _) (.cells #[.slice Ak nk ck, .int .i64 dk] 26))
  have HM3 := Lib.hid (hb3.alloc hb3.size (.cells #[.slice Ak nk ck, .int .i64 dk] 26))
  have HXa_0 := Lib.hid (HXa2.out.below HM3.out HXa2.out.lt)
  have HXb_0 := Lib.hid (HXb2.out.below HM3.out HXb2.out.lt)
  have HXc_0 := Lib.hid (HXc.out.below HM3.out HXc.out.lt)
  have HXk_0 := Lib.hid (Box.new W3 #[.slice Ak nk ck, .int .i64 dk] 26)
  have HDa_0 := Lib.hid (up_rd HDa2.out HM3.out)
  have HDb_0 := Lib.hid (up_rd HDb2.out HM3.out)
  have HDc_0 := Lib.hid (up_rd HDc.out HM3.out)
  have HDk_0 := Lib.hid (up_rd (rd_of hok hkk) HN3.out)
  have HH_0 := Lib.hid ((HHh.out.below HM3.out (Nat.le_refl _)).more HM3.out.size)
  generalize hV3 : W3.alloc (.cells #[.slice Ak nk ck, .int .i64 dk] 26) = V_0 at HB3 HN3 HM3 HXa_0 HXb_0 HXc_0 HXk_0 HDa_0 HDb_0 HDc_0 HDk_0 HH_0
  have HV3 := Lib.hid hV3
  have HA_0 := Lib.hid HB3.out
  clear hkk hok hb3 HN3 HM3 hV3 HXa2 HXb2 HXc HDa2 HDb2 HDc HHh HB3
  have hqa := anyK_len HKa.out
  have hza := hqa.1
  clear hqa
  have hqb := anyK_len HKb.out
  have hzb := hqb.1
  clear hqb
  have hqc := anyK_len HKc.out
  have hzc := hqc.1
  clear hqc
  have hqk := anyK_len HKk.out
  have hzk := hqk.1
  clear hqk
  have x0 := HXc_0.out.cell (j := 0) rfl
  have HRc := Lib.hid (show Rd .i64 V_0 V_0.heap.size Ac nc lc by obtain ⟨A9, n9, c9, e9, _, _, h9, _⟩ := RKeys_rd.1 HDc_0.out; injection e9 with e9 _; injection e9 with e1 e2 e3; rw [e1, e2]; exact h9)
  have HLc := Lib.hid HRc.out.len
  have hnc4 : nc ≤ 4 := by have := HLc.out; omega
  go_wp2_with fail
  try rw [HV3.out]
  go_loop [9, 10] (fun v i => ∃ j : Nat, j ≤ nc ∧ i = .int .i64 j ∧ v = .int .i64 (cntK lh (lc.take j) : Int)) (fun _ i => nc - (intOf i).toNat)
  case atStart => exact ⟨0, by omega, rfl, rfl⟩
  case round =>
    obtain ⟨j, hj, rfl, rfl⟩ := hrel
    by_cases hjn : j < nc
    · obtain ⟨b, off, rfl, hlt, hcc⟩ := HRc.out.cells (by omega)
      have hcj := hcc j hjn
      have hjl : j < lc.length := by rw [HLc.out]; exact hjn
      have hst := cntK_step (held := lh) hjl
      have hle := cntK_le lh (lc.take j)
      rw [List.length_take] at hle
      have hK := hasInt_any (V_0.heap.size) Ah nh ch lh (lc.getD j 0) V_0 HH_0.out (by omega)
      rcases hhas : hasK lh (lc.getD j 0) with _ | _
      · rw [hhas] at hst hK
        simp only [Bool.false_eq_true, if_false, Nat.add_zero] at hst
        have HH := Lib.hid hK
        have HS := Lib.hid hst
        generalize lc.getD j 0 = x at hcj HH
        clear hcc hhas hK hst hjl
        go_wp2_with fail
        refine HH.out.mono ?_
        rintro e w1 ⟨rfl, rfl⟩
        go_wp2
        go_round
        case rel => exact ⟨j + 1, by omega, by go_num, by rw [HS.out]⟩
        case measure => simp [intOf]; omega
      · rw [hhas] at hst hK
        simp only [if_true] at hst
        have HH := Lib.hid hK
        have HS := Lib.hid hst
        generalize lc.getD j 0 = x at hcj HH
        have hcn : cntK lh (lc.take j) ≤ 4 := by omega
        generalize hq : cntK lh (lc.take j) = q at hcn HS
        clear hcc hhas hK hst hjl hle hq
        go_wp2_with fail
        refine HH.out.mono ?_
        rintro e w1 ⟨rfl, rfl⟩
        go_wp2
        go_round
        case rel => exact ⟨j + 1, by omega, by go_num, by rw [HS.out]; go_num⟩
        case measure => simp [intOf]; omega
    · obtain rfl : nc = j := by omega
      have e1 : lc.take nc = lc := List.take_of_length_le (by rw [HLc.out]; omega)
      rw [e1]
      have HCS := Lib.hid (show canSign ⟨lc, dc⟩ lh = (isKeys ⟨lc, dc⟩ && decide (dc ≤ (cntK lh lc : Int))) from rfl)
      generalize cntK lh lc = q at HCS
      clear e1 HRc
      go_wp2_with fail
      refine (drawOneKey_any V_0 A n c hn ((HR.out.below HA_0.out).more HA_0.out.size)).mono ?_
      rintro e V_1 ⟨one, rfl, ho0, ho1, hb⟩
      have HB_0 := Lib.hid hb
      have HA_1 := Lib.hid (HA_0.out.trans (HB_0.out.mono HA_0.out.size))
      have HDa_1 := Lib.hid (up_rd HDa_0.out HB_0.out)
      have HXa_1 := Lib.hid (HXa_0.out.below HB_0.out HXa_0.out.lt)
      have HDb_1 := Lib.hid (up_rd HDb_0.out HB_0.out)
      have HXb_1 := Lib.hid (HXb_0.out.below HB_0.out HXb_0.out.lt)
      have HDc_1 := Lib.hid (up_rd HDc_0.out HB_0.out)
      have HXc_1 := Lib.hid (HXc_0.out.below HB_0.out HXc_0.out.lt)
      have HDk_1 := Lib.hid (up_rd HDk_0.out HB_0.out)
      have HXk_1 := Lib.hid (HXk_0.out.below HB_0.out HXk_0.out.lt)
      have HH_1 := Lib.hid ((HH_0.out.below HB_0.out (Nat.le_refl _)).more HB_0.out.size)
      clear hb
      clear x0 hj hjn
      have HIone := Lib.hid (inI64 (z := one) (by omega) (by omega))
      have HMa := Lib.hid (show la.length ≤ 1099511627776 by omega)
      have HMMa := Lib.hid (show la.length ≤ 1099511627 by omega)
      have HMb := Lib.hid (show lb.length ≤ 1099511627776 by omega)
      have HMMb := Lib.hid (show lb.length ≤ 1099511627 by omega)
      have HMc := Lib.hid (show lc.length ≤ 1099511627776 by omega)
      have HMMc := Lib.hid (show lc.length ≤ 1099511627 by omega)
      have HMk := Lib.hid (show lk.length ≤ 1099511627776 by omega)
      have HMMk := Lib.hid (show lk.length ≤ 1099511627 by omega)
      have HMh := Lib.hid (show lh.length ≤ 1099511627776 by rw [HLh.out]; omega)
      have HKI := Lib.hid (show (keysInts ⟨la, da⟩).length ≤ 1099511627776 by simp [keysInts]; omega)
      have hlo : (oneKey one).list.length ≤ 1099511627776 := by simp [oneKey]
      have HLO := Lib.hid hlo
      clear hlo
      have HPh := Lib.hid (sy_drew (S := snums .i64 lh) (snums_rd HH_1.out HCh.out))
      have HPa := Lib.hid (sy_drew (S := srep RKeys ⟨la, da⟩) (srep_rd HDa_1.out))
      have HPb := Lib.hid (sy_drew (S := srep RKeys ⟨lb, db⟩) (srep_rd HDb_1.out))
      have HPc := Lib.hid (sy_drew (S := srep RKeys ⟨lc, dc⟩) (srep_rd HDc_1.out))
      have HPk := Lib.hid (sy_drew (S := srep RKeys ⟨lk, dk⟩) (srep_rd HDk_1.out))
      have HZa0 := Lib.hid (HXa_1.out.cell (j := 0) rfl)
      have HZa1 := Lib.hid (HXa_1.out.cell (j := 1) rfl)
      have HZb0 := Lib.hid (HXb_1.out.cell (j := 0) rfl)
      have HZb1 := Lib.hid (HXb_1.out.cell (j := 1) rfl)
      have HZc0 := Lib.hid (HXc_1.out.cell (j := 0) rfl)
      have HZc1 := Lib.hid (HXc_1.out.cell (j := 1) rfl)
      have HZk0 := Lib.hid (HXk_1.out.cell (j := 0) rfl)
      have HZk1 := Lib.hid (HXk_1.out.cell (j := 1) rfl)
      go_wp2_with fail
      have HPlk := Lib.hid (sy_drew (S := snums .i64 lk) (w := V_1) (v := .slice Ak nk ck) (by obtain ⟨A9, n9, c9, e9, hc9, _, h9, _⟩ := RKeys_rd.1 HDk_1.out; injection e9 with e9 _; injection e9 with e1 e2 e3; subst e1 e2 e3; exact snums_rd h9 hc9))
      obtain ⟨z7, hz7⟩ : ∃ zz : Bool, zz = ((eqKeysB ⟨la, da⟩ ⟨lb, db⟩) == (eqKeysB ⟨la, da⟩ ⟨lb, db⟩)) := ⟨_, rfl⟩
      have Hz7 := Lib.hid hz7
      clear hz7
      obtain ⟨z11, hz11⟩ : ∃ zz : Bool, zz = (!(isKeys ⟨la, da⟩)) := ⟨_, rfl⟩
      have Hz11 := Lib.hid hz11
      clear hz11
      obtain ⟨z16, hz16⟩ : ∃ zz : Bool, zz = ((z11) || (!(isKeys ⟨lb, db⟩))) := ⟨_, rfl⟩
      have Hz16 := Lib.hid hz16
      clear hz16
      obtain ⟨z28, hz28⟩ : ∃ zz : Bool, zz = ((z7) && ((z16) || (((hsh (211 :: keysInts ⟨la, da⟩) : Int) == (hsh (211 :: keysInts ⟨lb, db⟩) : Int)) == (eqKeysB ⟨la, da⟩ ⟨lb, db⟩)))) := ⟨_, rfl⟩
      have Hz28 := Lib.hid hz28
      clear hz28
      obtain ⟨z34, hz34⟩ : ∃ zz : Bool, zz = (isKeys ⟨lc, dc⟩) := ⟨_, rfl⟩
      have Hz34 := Lib.hid hz34
      clear hz34
      obtain ⟨z42, hz42⟩ : ∃ zz : Bool, zz = ((z28) && ((canSign (⟨lc, dc⟩) lh) == ((z34) && (decide ((dc : Int) ≤ ((q : Int) : Int)))))) := ⟨_, rfl⟩
      have Hz42 := Lib.hid hz42
      clear hz42
      obtain ⟨z49, hz49⟩ : ∃ zz : Bool, zz = ((z42) && ((isKeys ⟨lc, dc⟩) == (isKeys ⟨lc, dc⟩))) := ⟨_, rfl⟩
      have Hz49 := Lib.hid hz49
      clear hz49
      obtain ⟨z59, hz59⟩ : ∃ zz : Bool, zz = ((z49) && ((hasK (lk) key) == (hasK lk key))) := ⟨_, rfl⟩
      have Hz59 := Lib.hid hz59
      clear hz59
      obtain ⟨z66, hz66⟩ : ∃ zz : Bool, zz = ((z59) && (true)) := ⟨_, rfl⟩
      have Hz66 := Lib.hid hz66
      clear hz66
      obtain ⟨z72, hz72⟩ : ∃ zz : Bool, zz = ((z66) && (hasK ((oneKey one).list) one)) := ⟨_, rfl⟩
      have Hz72 := Lib.hid hz72
      clear hz72
      obtain ⟨z80, hz80⟩ : ∃ zz : Bool, zz = (decide ((1 : Int) ≤ (one : Int))) := ⟨_, rfl⟩
      have Hz80 := Lib.hid hz80
      clear hz80
      refine RG.region (tabP [srep RKeys (⟨la, da⟩), srep RKeys (⟨lb, db⟩), sv (.bool (eqKeysB ⟨la, da⟩ ⟨lb, db⟩)), srep RKeys (⟨la, da⟩), srep RKeys (⟨lb, db⟩), sv (.bool (eqKeysB ⟨la, da⟩ ⟨lb, db⟩)), sv (.bool ((eqKeysB ⟨la, da⟩ ⟨lb, db⟩) == (eqKeysB ⟨la, da⟩ ⟨lb, db⟩))), sv (.bool (z7)), swhen (z7 == true) (srep RKeys (⟨la, da⟩)), swhen (z7 == true) (sv (.bool (isKeys ⟨la, da⟩))), swhen (z7 == true) (sv (.bool (!(isKeys ⟨la, da⟩)))), swhen (z7 == true) (sv (.bool (z11))), swhen ((z7 == true) && (z11 == false)) (srep RKeys (⟨lb, db⟩)), swhen ((z7 == true) && (z11 == false)) (sv (.bool (isKeys ⟨lb, db⟩))), swhen ((z7 == true) && (z11 == false)) (sv (.bool (!(isKeys ⟨lb, db⟩)))), swhen (z7 == true) (sv (.bool ((z11) || (!(isKeys ⟨lb, db⟩))))), swhen (z7 == true) (sv (.bool (z16))), swhen ((z7 == true) && (z16 == false)) (srep RKeys (⟨la, da⟩)), swhen ((z7 == true) && (z16 == false)) (sv (.int .i64 (hsh (211 :: keysInts ⟨la, da⟩)))), swhen ((z7 == true) && (z16 == false)) (srep RKeys (⟨lb, db⟩)), swhen ((z7 == true) && (z16 == false)) (sv (.int .i64 (hsh (211 :: keysInts ⟨lb, db⟩)))), swhen ((z7 == true) && (z16 == false)) (sv (.bool ((hsh (211 :: keysInts ⟨la, da⟩) : Int) == (hsh (211 :: keysInts ⟨lb, db⟩) : Int)))), swhen ((z7 == true) && (z16 == false)) (srep RKeys (⟨la, da⟩)), swhen ((z7 == true) && (z16 == false)) (srep RKeys (⟨lb, db⟩)), swhen ((z7 == true) && (z16 == false)) (sv (.bool (eqKeysB ⟨la, da⟩ ⟨lb, db⟩))), swhen ((z7 == true) && (z16 == false)) (sv (.bool (((hsh (211 :: keysInts ⟨la, da⟩) : Int) == (hsh (211 :: keysInts ⟨lb, db⟩) : Int)) == (eqKeysB ⟨la, da⟩ ⟨lb, db⟩)))), swhen (z7 == true) (sv (.bool ((z16) || (((hsh (211 :: keysInts ⟨la, da⟩) : Int) == (hsh (211 :: keysInts ⟨lb, db⟩) : Int)) == (eqKeysB ⟨la, da⟩ ⟨lb, db⟩))))), sv (.bool ((z7) && ((z16) || (((hsh (211 :: keysInts ⟨la, da⟩) : Int) == (hsh (211 :: keysInts ⟨lb, db⟩) : Int)) == (eqKeysB ⟨la, da⟩ ⟨lb, db⟩))))), sv (.bool (z28)), swhen (z28 == true) (srep RKeys (⟨lc, dc⟩)), swhen (z28 == true) (snums .i64 (lh)), swhen (z28 == true) (sv (.bool (canSign (⟨lc, dc⟩) lh))), swhen (z28 == true) (srep RKeys (⟨lc, dc⟩)), swhen (z28 == true) (sv (.bool (isKeys ⟨lc, dc⟩))), swhen (z28 == true) (sv (.bool (z34))), swhen ((z28 == true) && (z34 == true)) (sv (.int .i64 ((q : Int)))), swhen ((z28 == true) && (z34 == true)) (sv (.pointer (some ⟨W2.heap.size, 1, none⟩))), swhen ((z28 == true) && (z34 == true)) (sv (.int .i64 (dc))), swhen ((z28 == true) && (z34 == true)) (sv (.bool (decide ((dc : Int) ≤ ((q : Int) : Int))))), swhen (z28 == true) (sv (.bool ((z34) && (decide ((dc : Int) ≤ ((q : Int) : Int)))))), swhen (z28 == true) (sv (.bool ((canSign (⟨lc, dc⟩) lh) == ((z34) && (decide ((dc : Int) ≤ ((q : Int) : Int))))))), sv (.bool ((z28) && ((canSign (⟨lc, dc⟩) lh) == ((z34) && (decide ((dc : Int) ≤ ((q : Int) : Int))))))), sv (.bool (z42)), swhen (z42 == true) (srep RKeys (⟨lc, dc⟩)), swhen (z42 == true) (sv (.bool (isKeys ⟨lc, dc⟩))), swhen (z42 == true) (srep RKeys (⟨lc, dc⟩)), swhen (z42 == true) (sv (.bool (isKeys ⟨lc, dc⟩))), swhen (z42 == true) (sv (.bool ((isKeys ⟨lc, dc⟩) == (isKeys ⟨lc, dc⟩)))), sv (.bool ((z42) && ((isKeys ⟨lc, dc⟩) == (isKeys ⟨lc, dc⟩)))), sv (.bool (z49)), swhen (z49 == true) (srep RKeys (⟨lk, dk⟩)), swhen (z49 == true) (sv (.int .i64 (key))), swhen (z49 == true) (sv (.bool (hasK (lk) key))), swhen (z49 == true) (sv (.pointer (some ⟨W3.heap.size, 0, none⟩))), swhen (z49 == true) (snums .i64 (lk)), swhen (z49 == true) (sv (.int .i64 (key))), swhen (z49 == true) (sv (.bool (hasK lk key))), swhen (z49 == true) (sv (.bool ((hasK (lk) key) == (hasK lk key)))), sv (.bool ((z49) && ((hasK (lk) key) == (hasK lk key)))), sv (.bool (z59)), swhen (z59 == true) (srep RKeys (⟨la, da⟩)), swhen (z59 == true) (snums .i64 (keysInts ⟨la, da⟩)), swhen (z59 == true) (srep RKeys (⟨la, da⟩)), swhen (z59 == true) (snums .i64 (keysInts ⟨la, da⟩)), swhen (z59 == true) (sv (.bool (true))), sv (.bool ((z59) && (true))), sv (.bool (z66)), swhen (z66 == true) (sv (.int .i64 (one))), swhen (z66 == true) (srep RKeys (oneKey one)), swhen (z66 == true) (sv (.int .i64 (one))), swhen (z66 == true) (sv (.bool (hasK ((oneKey one).list) one))), sv (.bool ((z66) && (hasK ((oneKey one).list) one))), sv (.bool (z72)), swhen (z72 == true) (sv (.int .i64 (one))), swhen (z72 == true) (srep RKeys (oneKey one)), swhen (z72 == true) (sv (.int .i64 (one))), swhen (z72 == true) (snums .i64 ([one])), swhen (z72 == true) (sv (.bool (canSign (oneKey one) [one]))), swhen (z72 == true) (sv (.int .i64 (one))), swhen (z72 == true) (sv (.bool (decide ((1 : Int) ≤ (one : Int))))), swhen (z72 == true) (sv (.bool (z80))), swhen ((z72 == true) && (z80 == true)) (sv (.int .i64 (one))), swhen ((z72 == true) && (z80 == true)) (sv (.bool (decide ((one : Int) ≤ (99 : Int))))), swhen (z72 == true) (sv (.bool ((z80) && (decide ((one : Int) ≤ (99 : Int)))))), swhen (z72 == true) (sv (.bool ((canSign (oneKey one) [one]) == ((z80) && (decide ((one : Int) ≤ (99 : Int))))))), sv (.bool ((z72) && ((canSign (oneKey one) [one]) == ((z80) && (decide ((one : Int) ≤ (99 : Int))))))), sv (.bool ((z72) && ((canSign (oneKey one) [one]) == ((z80) && (decide ((one : Int) ≤ (99 : Int)))))))]) (by kernel_rfl) (by kernel_rfl) (tab_keep _) ?_ ?_
      · refine steps_cons ?_ (steps_cons ?_ (steps_cons ?_ (steps_cons ?_ (steps_cons ?_ (steps_cons ?_ (steps_cons ?_ (steps_cons ?_ (steps_cons ?_ (steps_cons ?_ (steps_cons ?_ (steps_cons ?_ (steps_cons ?_ (steps_cons ?_ (steps_cons ?_ (steps_cons ?_ (steps_cons ?_ (steps_cons ?_ (steps_cons ?_ (steps_cons ?_ (steps_cons ?_ (steps_cons ?_ (steps_cons ?_ (steps_cons ?_ (steps_cons ?_ (steps_cons ?_ (steps_cons ?_ (steps_cons ?_ (steps_cons ?_ (steps_cons ?_ (steps_cons ?_ (steps_cons ?_ (steps_cons ?_ (steps_cons ?_ (steps_cons ?_ (steps_cons ?_ (steps_cons ?_ (steps_cons ?_ (steps_cons ?_ (steps_cons ?_ (steps_cons ?_ (steps_cons ?_ (steps_cons ?_ (steps_cons ?_ (steps_cons ?_ (steps_cons ?_ (steps_cons ?_ (steps_cons ?_ (steps_cons ?_ (steps_cons ?_ (steps_cons ?_ (steps_cons ?_ (steps_cons ?_ (steps_cons ?_ (steps_cons ?_ (steps_cons ?_ (steps_cons ?_ (steps_cons ?_ (steps_cons ?_ (steps_cons ?_ (steps_cons ?_ (steps_cons ?_ (steps_cons ?_ (steps_cons ?_ (steps_cons ?_ (steps_cons ?_ (steps_cons ?_ (steps_cons ?_ (steps_cons ?_ (steps_cons ?_ (steps_cons ?_ (steps_cons ?_ (steps_cons ?_ (steps_cons ?_ (steps_cons ?_ (steps_cons ?_ (steps_cons ?_ (steps_cons ?_ (steps_cons ?_ (steps_cons ?_ (steps_cons ?_ (steps_cons ?_ (steps_cons ?_ (steps_cons ?_ (steps_cons ?_ (steps_cons ?_ (steps_cons ?_ (steps_nil)))))))))))))))))))))))))))))))))))))))))))))))))))))))))))))))))))))))))))))))))))))))
        · intro aa ww hA K hK
          refine free rfl ?_
          have e3 : aa.tmps.getD 3 undef = .pointer (some ⟨W1.heap.size, 0, none⟩) := hA.old 3 (by kernel_rfl)
          have c0 := (hA.bel.cell (p := ⟨W1.heap.size, 0, none⟩) HXa_1.out.lt).trans HZa0.out
          have c1 := (hA.bel.cell (p := ⟨W1.heap.size, 1, none⟩) HXa_1.out.lt).trans HZa1.out
          exact gives hK (v := .agg #[.slice Aa na ca, .int .i64 da]) (by simp [execOp, Act.eval, e3, c0, c1, go_sem]) ((srep RKeys ⟨la, da⟩).keep _ _ _ hA.bel HPa.out)
        · intro aa ww hA K hK
          refine free rfl ?_
          have e4 : aa.tmps.getD 4 undef = .pointer (some ⟨W1.heap.size + 1, 0, none⟩) := hA.old 4 (by kernel_rfl)
          have c0 := (hA.bel.cell (p := ⟨W1.heap.size + 1, 0, none⟩) HXb_1.out.lt).trans HZb0.out
          have c1 := (hA.bel.cell (p := ⟨W1.heap.size + 1, 1, none⟩) HXb_1.out.lt).trans HZb1.out
          exact gives hK (v := .agg #[.slice Ab nb cb, .int .i64 db]) (by simp [execOp, Act.eval, e4, c0, c1, go_sem]) ((srep RKeys ⟨lb, db⟩).keep _ _ _ hA.bel HPb.out)
        · intro aa ww hA K hK
          refine free rfl ?_
          obtain ⟨q47, e47, h47⟩ := hA.got 0 47 (by kernel_rfl)
          obtain ⟨q48, e48, h48⟩ := hA.got 1 48 (by kernel_rfl)
          refine calls hK (by simp [Act.eval, e47, e48, go_sem]) (iEqualKeys_any q47 q48 ⟨la, da⟩ ⟨lb, db⟩ ww h47 h48 HMa.out) ?_
          rintro e w1 ⟨rfl, hb⟩
          exact ⟨_, rfl, hb, rfl⟩
        · intro aa ww hA K hK
          refine free rfl ?_
          have e3 : aa.tmps.getD 3 undef = .pointer (some ⟨W1.heap.size, 0, none⟩) := hA.old 3 (by kernel_rfl)
          have c0 := (hA.bel.cell (p := ⟨W1.heap.size, 0, none⟩) HXa_1.out.lt).trans HZa0.out
          have c1 := (hA.bel.cell (p := ⟨W1.heap.size, 1, none⟩) HXa_1.out.lt).trans HZa1.out
          exact gives hK (v := .agg #[.slice Aa na ca, .int .i64 da]) (by simp [execOp, Act.eval, e3, c0, c1, go_sem]) ((srep RKeys ⟨la, da⟩).keep _ _ _ hA.bel HPa.out)
        · intro aa ww hA K hK
          refine free rfl ?_
          have e4 : aa.tmps.getD 4 undef = .pointer (some ⟨W1.heap.size + 1, 0, none⟩) := hA.old 4 (by kernel_rfl)
          have c0 := (hA.bel.cell (p := ⟨W1.heap.size + 1, 0, none⟩) HXb_1.out.lt).trans HZb0.out
          have c1 := (hA.bel.cell (p := ⟨W1.heap.size + 1, 1, none⟩) HXb_1.out.lt).trans HZb1.out
          exact gives hK (v := .agg #[.slice Ab nb cb, .int .i64 db]) (by simp [execOp, Act.eval, e4, c0, c1, go_sem]) ((srep RKeys ⟨lb, db⟩).keep _ _ _ hA.bel HPb.out)
        · intro aa ww hA K hK
          refine free rfl ?_
          obtain ⟨q50, e50, h50⟩ := hA.got 3 50 (by kernel_rfl)
          obtain ⟨q51, e51, h51⟩ := hA.got 4 51 (by kernel_rfl)
          refine calls hK (by simp [Act.eval, e50, e51, go_sem]) (sEqualKeys_any q50 q51 ⟨la, da⟩ ⟨lb, db⟩ ww h50 h51 HMa.out) ?_
          rintro e w1 ⟨rfl, hb⟩
          exact ⟨_, rfl, hb, rfl⟩
        · intro aa ww hA K hK
          refine free rfl ?_
          have e49 : aa.tmps.getD 49 undef = .bool (eqKeysB ⟨la, da⟩ ⟨lb, db⟩) := hA.got 2 49 (by kernel_rfl)
          have e52 : aa.tmps.getD 52 undef = .bool (eqKeysB ⟨la, da⟩ ⟨lb, db⟩) := hA.got 5 52 (by kernel_rfl)
          exact gives hK (v := .bool ((eqKeysB ⟨la, da⟩ ⟨lb, db⟩) == (eqKeysB ⟨la, da⟩ ⟨lb, db⟩))) (by simp [execOp, Act.eval, e49, e52, binOp, eqGuard, eq_bool, go_sem]) rfl
        · intro aa ww hA K hK
          refine free rfl ?_
          have e53 : aa.tmps.getD 53 undef = .bool ((eqKeysB ⟨la, da⟩ ⟨lb, db⟩) == (eqKeysB ⟨la, da⟩ ⟨lb, db⟩)) := hA.got 6 53 (by kernel_rfl)
          exact gives hK rfl (show aa.tmps.getD 53 undef = .bool z7 from by rw [e53, Hz7.out])
        · intro aa ww hA K hK
          refine guarded (s := srep RKeys (⟨la, da⟩)) rfl rfl (hA.got 7 54 (by kernel_rfl)) hK fun hB hK => ?_
          have e3 : aa.tmps.getD 3 undef = .pointer (some ⟨W1.heap.size, 0, none⟩) := hA.old 3 (by kernel_rfl)
          have c0 := (hA.bel.cell (p := ⟨W1.heap.size, 0, none⟩) HXa_1.out.lt).trans HZa0.out
          have c1 := (hA.bel.cell (p := ⟨W1.heap.size, 1, none⟩) HXa_1.out.lt).trans HZa1.out
          exact gives hK (v := .agg #[.slice Aa na ca, .int .i64 da]) (by simp [execOp, Act.eval, e3, c0, c1, go_sem]) ((srep RKeys ⟨la, da⟩).keep _ _ _ hA.bel HPa.out)
        · intro aa ww hA K hK
          refine guarded (s := sv (.bool (isKeys ⟨la, da⟩))) rfl rfl (hA.got 7 54 (by kernel_rfl)) hK fun hB hK => ?_
          obtain ⟨q55, e55, h55⟩ := (hA.got 8 55 (by kernel_rfl)).1 hB
          refine calls hK (by simp [Act.eval, e55, go_sem]) (sIsKeys_any q55 ⟨la, da⟩ ww h55 HMa.out) ?_
          rintro e w1 ⟨rfl, hb⟩
          exact ⟨_, rfl, hb, rfl⟩
        · intro aa ww hA K hK
          refine guarded (s := sv (.bool (!(isKeys ⟨la, da⟩)))) rfl rfl (hA.got 7 54 (by kernel_rfl)) hK fun hB hK => ?_
          have e56 : aa.tmps.getD 56 undef = .bool (isKeys ⟨la, da⟩) := (hA.got 9 56 (by kernel_rfl)).1 hB
          exact gives hK (v := .bool (!(isKeys ⟨la, da⟩))) (by simp [execOp, Act.eval, e56, Op.unary, go_sem]) rfl
        · intro aa ww hA K hK
          refine guarded (s := sv (.bool (z11))) rfl rfl (hA.got 7 54 (by kernel_rfl)) hK fun hB hK => ?_
          have e57 : aa.tmps.getD 57 undef = .bool (!(isKeys ⟨la, da⟩)) := (hA.got 10 57 (by kernel_rfl)).1 hB
          exact gives hK rfl (show aa.tmps.getD 57 undef = .bool z11 from by rw [e57, Hz11.out])
        · intro aa ww hA K hK
          refine guarded2 (s := srep RKeys (⟨lb, db⟩)) rfl rfl (hA.got 11 58 (by kernel_rfl)) hK fun hB hK => ?_
          have e4 : aa.tmps.getD 4 undef = .pointer (some ⟨W1.heap.size + 1, 0, none⟩) := hA.old 4 (by kernel_rfl)
          have c0 := (hA.bel.cell (p := ⟨W1.heap.size + 1, 0, none⟩) HXb_1.out.lt).trans HZb0.out
          have c1 := (hA.bel.cell (p := ⟨W1.heap.size + 1, 1, none⟩) HXb_1.out.lt).trans HZb1.out
          exact gives hK (v := .agg #[.slice Ab nb cb, .int .i64 db]) (by simp [execOp, Act.eval, e4, c0, c1, go_sem]) ((srep RKeys ⟨lb, db⟩).keep _ _ _ hA.bel HPb.out)
        · intro aa ww hA K hK
          refine guarded2 (s := sv (.bool (isKeys ⟨lb, db⟩))) rfl rfl (hA.got 11 58 (by kernel_rfl)) hK fun hB hK => ?_
          obtain ⟨q59, e59, h59⟩ := (hA.got 12 59 (by kernel_rfl)).1 hB
          refine calls hK (by simp [Act.eval, e59, go_sem]) (sIsKeys_any q59 ⟨lb, db⟩ ww h59 HMb.out) ?_
          rintro e w1 ⟨rfl, hb⟩
          exact ⟨_, rfl, hb, rfl⟩
        · intro aa ww hA K hK
          refine guarded2 (s := sv (.bool (!(isKeys ⟨lb, db⟩)))) rfl rfl (hA.got 11 58 (by kernel_rfl)) hK fun hB hK => ?_
          have e60 : aa.tmps.getD 60 undef = .bool (isKeys ⟨lb, db⟩) := (hA.got 13 60 (by kernel_rfl)).1 hB
          exact gives hK (v := .bool (!(isKeys ⟨lb, db⟩))) (by simp [execOp, Act.eval, e60, Op.unary, go_sem]) rfl
        · intro aa ww hA K hK
          refine guarded (s := sv (.bool ((z11) || (!(isKeys ⟨lb, db⟩))))) rfl rfl (hA.got 7 54 (by kernel_rfl)) hK fun hB hK => ?_
          have e58 : aa.tmps.getD 58 undef = .bool (z11) := (hA.got 11 58 (by kernel_rfl)).1 hB
          rcases hq : (z11) with _ | _
          · have ex : aa.tmps.getD 61 undef = .bool (!(isKeys ⟨lb, db⟩)) := (hA.got 14 61 (by kernel_rfl)).1 (and_i hB (by rw [hq]; rfl))
            rw [hq] at e58
            exact gives hK (v := .bool (!(isKeys ⟨lb, db⟩))) (by simp [execOp, Act.eval, e58, ex, asBool, go_sem]) (show Value.bool _ = .bool _ by rw [hq]; simp)
          · rw [hq] at e58
            exact gives hK (v := .bool true) (by simp [execOp, Act.eval, e58, asBool, go_sem]) (show Value.bool _ = .bool _ by rw [hq]; simp)
        · intro aa ww hA K hK
          refine guarded (s := sv (.bool (z16))) rfl rfl (hA.got 7 54 (by kernel_rfl)) hK fun hB hK => ?_
          have e62 : aa.tmps.getD 62 undef = .bool ((z11) || (!(isKeys ⟨lb, db⟩))) := (hA.got 15 62 (by kernel_rfl)).1 hB
          exact gives hK rfl (show aa.tmps.getD 62 undef = .bool z16 from by rw [e62, Hz16.out])
        · intro aa ww hA K hK
          refine guarded2 (s := srep RKeys (⟨la, da⟩)) rfl rfl (hA.got 16 63 (by kernel_rfl)) hK fun hB hK => ?_
          have e3 : aa.tmps.getD 3 undef = .pointer (some ⟨W1.heap.size, 0, none⟩) := hA.old 3 (by kernel_rfl)
          have c0 := (hA.bel.cell (p := ⟨W1.heap.size, 0, none⟩) HXa_1.out.lt).trans HZa0.out
          have c1 := (hA.bel.cell (p := ⟨W1.heap.size, 1, none⟩) HXa_1.out.lt).trans HZa1.out
          exact gives hK (v := .agg #[.slice Aa na ca, .int .i64 da]) (by simp [execOp, Act.eval, e3, c0, c1, go_sem]) ((srep RKeys ⟨la, da⟩).keep _ _ _ hA.bel HPa.out)
        · intro aa ww hA K hK
          refine guarded2 (s := sv (.int .i64 (hsh (211 :: keysInts ⟨la, da⟩)))) rfl rfl (hA.got 16 63 (by kernel_rfl)) hK fun hB hK => ?_
          obtain ⟨q64, e64, h64⟩ := (hA.got 17 64 (by kernel_rfl)).1 hB
          refine calls hK (by simp [Act.eval, e64, go_sem]) (iKeysDigest_any q64 ⟨la, da⟩ ww h64 HMMa.out) ?_
          rintro e w1 ⟨rfl, hb⟩
          exact ⟨_, rfl, hb, rfl⟩
        · intro aa ww hA K hK
          refine guarded2 (s := srep RKeys (⟨lb, db⟩)) rfl rfl (hA.got 16 63 (by kernel_rfl)) hK fun hB hK => ?_
          have e4 : aa.tmps.getD 4 undef = .pointer (some ⟨W1.heap.size + 1, 0, none⟩) := hA.old 4 (by kernel_rfl)
          have c0 := (hA.bel.cell (p := ⟨W1.heap.size + 1, 0, none⟩) HXb_1.out.lt).trans HZb0.out
          have c1 := (hA.bel.cell (p := ⟨W1.heap.size + 1, 1, none⟩) HXb_1.out.lt).trans HZb1.out
          exact gives hK (v := .agg #[.slice Ab nb cb, .int .i64 db]) (by simp [execOp, Act.eval, e4, c0, c1, go_sem]) ((srep RKeys ⟨lb, db⟩).keep _ _ _ hA.bel HPb.out)
        · intro aa ww hA K hK
          refine guarded2 (s := sv (.int .i64 (hsh (211 :: keysInts ⟨lb, db⟩)))) rfl rfl (hA.got 16 63 (by kernel_rfl)) hK fun hB hK => ?_
          obtain ⟨q66, e66, h66⟩ := (hA.got 19 66 (by kernel_rfl)).1 hB
          refine calls hK (by simp [Act.eval, e66, go_sem]) (iKeysDigest_any q66 ⟨lb, db⟩ ww h66 HMMb.out) ?_
          rintro e w1 ⟨rfl, hb⟩
          exact ⟨_, rfl, hb, rfl⟩
        · intro aa ww hA K hK
          refine guarded2 (s := sv (.bool ((hsh (211 :: keysInts ⟨la, da⟩) : Int) == (hsh (211 :: keysInts ⟨lb, db⟩) : Int)))) rfl rfl (hA.got 16 63 (by kernel_rfl)) hK fun hB hK => ?_
          have e65 : aa.tmps.getD 65 undef = .int .i64 (hsh (211 :: keysInts ⟨la, da⟩)) := (hA.got 18 65 (by kernel_rfl)).1 hB
          have e67 : aa.tmps.getD 67 undef = .int .i64 (hsh (211 :: keysInts ⟨lb, db⟩)) := (hA.got 20 67 (by kernel_rfl)).1 hB
          exact gives hK (v := .bool ((hsh (211 :: keysInts ⟨la, da⟩) : Int) == (hsh (211 :: keysInts ⟨lb, db⟩) : Int))) (by simp [execOp, Act.eval, e65, e67, binOp, eqGuard, go_sem]) rfl
        · intro aa ww hA K hK
          refine guarded2 (s := srep RKeys (⟨la, da⟩)) rfl rfl (hA.got 16 63 (by kernel_rfl)) hK fun hB hK => ?_
          have e3 : aa.tmps.getD 3 undef = .pointer (some ⟨W1.heap.size, 0, none⟩) := hA.old 3 (by kernel_rfl)
          have c0 := (hA.bel.cell (p := ⟨W1.heap.size, 0, none⟩) HXa_1.out.lt).trans HZa0.out
          have c1 := (hA.bel.cell (p := ⟨W1.heap.size, 1, none⟩) HXa_1.out.lt).trans HZa1.out
          exact gives hK (v := .agg #[.slice Aa na ca, .int .i64 da]) (by simp [execOp, Act.eval, e3, c0, c1, go_sem]) ((srep RKeys ⟨la, da⟩).keep _ _ _ hA.bel HPa.out)
        · intro aa ww hA K hK
          refine guarded2 (s := srep RKeys (⟨lb, db⟩)) rfl rfl (hA.got 16 63 (by kernel_rfl)) hK fun hB hK => ?_
          have e4 : aa.tmps.getD 4 undef = .pointer (some ⟨W1.heap.size + 1, 0, none⟩) := hA.old 4 (by kernel_rfl)
          have c0 := (hA.bel.cell (p := ⟨W1.heap.size + 1, 0, none⟩) HXb_1.out.lt).trans HZb0.out
          have c1 := (hA.bel.cell (p := ⟨W1.heap.size + 1, 1, none⟩) HXb_1.out.lt).trans HZb1.out
          exact gives hK (v := .agg #[.slice Ab nb cb, .int .i64 db]) (by simp [execOp, Act.eval, e4, c0, c1, go_sem]) ((srep RKeys ⟨lb, db⟩).keep _ _ _ hA.bel HPb.out)
        · intro aa ww hA K hK
          refine guarded2 (s := sv (.bool (eqKeysB ⟨la, da⟩ ⟨lb, db⟩))) rfl rfl (hA.got 16 63 (by kernel_rfl)) hK fun hB hK => ?_
          obtain ⟨q69, e69, h69⟩ := (hA.got 22 69 (by kernel_rfl)).1 hB
          obtain ⟨q70, e70, h70⟩ := (hA.got 23 70 (by kernel_rfl)).1 hB
          refine calls hK (by simp [Act.eval, e69, e70, go_sem]) (iEqualKeys_any q69 q70 ⟨la, da⟩ ⟨lb, db⟩ ww h69 h70 HMa.out) ?_
          rintro e w1 ⟨rfl, hb⟩
          exact ⟨_, rfl, hb, rfl⟩
        · intro aa ww hA K hK
          refine guarded2 (s := sv (.bool (((hsh (211 :: keysInts ⟨la, da⟩) : Int) == (hsh (211 :: keysInts ⟨lb, db⟩) : Int)) == (eqKeysB ⟨la, da⟩ ⟨lb, db⟩)))) rfl rfl (hA.got 16 63 (by kernel_rfl)) hK fun hB hK => ?_
          have e68 : aa.tmps.getD 68 undef = .bool ((hsh (211 :: keysInts ⟨la, da⟩) : Int) == (hsh (211 :: keysInts ⟨lb, db⟩) : Int)) := (hA.got 21 68 (by kernel_rfl)).1 hB
          have e71 : aa.tmps.getD 71 undef = .bool (eqKeysB ⟨la, da⟩ ⟨lb, db⟩) := (hA.got 24 71 (by kernel_rfl)).1 hB
          exact gives hK (v := .bool (((hsh (211 :: keysInts ⟨la, da⟩) : Int) == (hsh (211 :: keysInts ⟨lb, db⟩) : Int)) == (eqKeysB ⟨la, da⟩ ⟨lb, db⟩))) (by simp [execOp, Act.eval, e68, e71, binOp, eqGuard, eq_bool, go_sem]) rfl
        · intro aa ww hA K hK
          refine guarded (s := sv (.bool ((z16) || (((hsh (211 :: keysInts ⟨la, da⟩) : Int) == (hsh (211 :: keysInts ⟨lb, db⟩) : Int)) == (eqKeysB ⟨la, da⟩ ⟨lb, db⟩))))) rfl rfl (hA.got 7 54 (by kernel_rfl)) hK fun hB hK => ?_
          have e63 : aa.tmps.getD 63 undef = .bool (z16) := (hA.got 16 63 (by kernel_rfl)).1 hB
          rcases hq : (z16) with _ | _
          · have ex : aa.tmps.getD 72 undef = .bool (((hsh (211 :: keysInts ⟨la, da⟩) : Int) == (hsh (211 :: keysInts ⟨lb, db⟩) : Int)) == (eqKeysB ⟨la, da⟩ ⟨lb, db⟩)) := (hA.got 25 72 (by kernel_rfl)).1 (and_i hB (by rw [hq]; rfl))
            rw [hq] at e63
            exact gives hK (v := .bool (((hsh (211 :: keysInts ⟨la, da⟩) : Int) == (hsh (211 :: keysInts ⟨lb, db⟩) : Int)) == (eqKeysB ⟨la, da⟩ ⟨lb, db⟩))) (by simp [execOp, Act.eval, e63, ex, asBool, go_sem]) (show Value.bool _ = .bool _ by rw [hq]; simp)
          · rw [hq] at e63
            exact gives hK (v := .bool true) (by simp [execOp, Act.eval, e63, asBool, go_sem]) (show Value.bool _ = .bool _ by rw [hq]; simp)
        · intro aa ww hA K hK
          refine free rfl ?_
          have e54 : aa.tmps.getD 54 undef = .bool (z7) := hA.got 7 54 (by kernel_rfl)
          rcases hq : (z7) with _ | _
          · rw [hq] at e54
            exact gives hK (v := .bool false) (by simp [execOp, Act.eval, e54, asBool, go_sem]) (show Value.bool _ = .bool _ by rw [hq]; simp)
          · have ex : aa.tmps.getD 73 undef = .bool ((z16) || (((hsh (211 :: keysInts ⟨la, da⟩) : Int) == (hsh (211 :: keysInts ⟨lb, db⟩) : Int)) == (eqKeysB ⟨la, da⟩ ⟨lb, db⟩))) := (hA.got 26 73 (by kernel_rfl)).1 (by rw [hq]; rfl)
            rw [hq] at e54
            exact gives hK (v := .bool ((z16) || (((hsh (211 :: keysInts ⟨la, da⟩) : Int) == (hsh (211 :: keysInts ⟨lb, db⟩) : Int)) == (eqKeysB ⟨la, da⟩ ⟨lb, db⟩)))) (by simp [execOp, Act.eval, e54, ex, asBool, go_sem]) (show Value.bool _ = .bool _ by rw [hq]; simp)
        · intro aa ww hA K hK
          refine free rfl ?_
          have e74 : aa.tmps.getD 74 undef = .bool ((z7) && ((z16) || (((hsh (211 :: keysInts ⟨la, da⟩) : Int) == (hsh (211 :: keysInts ⟨lb, db⟩) : Int)) == (eqKeysB ⟨la, da⟩ ⟨lb, db⟩)))) := hA.got 27 74 (by kernel_rfl)
          exact gives hK rfl (show aa.tmps.getD 74 undef = .bool z28 from by rw [e74, Hz28.out])
        · intro aa ww hA K hK
          refine guarded (s := srep RKeys (⟨lc, dc⟩)) rfl rfl (hA.got 28 75 (by kernel_rfl)) hK fun hB hK => ?_
          have e5 : aa.tmps.getD 5 undef = .pointer (some ⟨W2.heap.size, 0, none⟩) := hA.old 5 (by kernel_rfl)
          have c0 := (hA.bel.cell (p := ⟨W2.heap.size, 0, none⟩) HXc_1.out.lt).trans HZc0.out
          have c1 := (hA.bel.cell (p := ⟨W2.heap.size, 1, none⟩) HXc_1.out.lt).trans HZc1.out
          exact gives hK (v := .agg #[.slice Ac nc cc, .int .i64 dc]) (by simp [execOp, Act.eval, e5, c0, c1, go_sem]) ((srep RKeys ⟨lc, dc⟩).keep _ _ _ hA.bel HPc.out)
        · intro aa ww hA K hK
          refine guarded (s := snums .i64 (lh)) rfl rfl (hA.got 28 75 (by kernel_rfl)) hK fun hB hK => ?_
          exact gives hK rfl (old_sy (S := snums .i64 (lh)) (hA.old 6 (by kernel_rfl)) HPh.out hA.bel)
        · intro aa ww hA K hK
          refine guarded (s := sv (.bool (canSign (⟨lc, dc⟩) lh))) rfl rfl (hA.got 28 75 (by kernel_rfl)) hK fun hB hK => ?_
          obtain ⟨q76, e76, h76⟩ := (hA.got 29 76 (by kernel_rfl)).1 hB
          obtain ⟨A77, c77, e77, hc77, h77⟩ := (hA.got 30 77 (by kernel_rfl)).1 hB
          refine calls hK (by simp [Act.eval, e76, e77, go_sem]) (iCanSign_any q76 (⟨lc, dc⟩) A77 _ c77 lh ww h76 h77 HMc.out HMh.out) ?_
          rintro e w1 ⟨rfl, hb⟩
          exact ⟨_, rfl, hb, rfl⟩
        · intro aa ww hA K hK
          refine guarded (s := srep RKeys (⟨lc, dc⟩)) rfl rfl (hA.got 28 75 (by kernel_rfl)) hK fun hB hK => ?_
          have e5 : aa.tmps.getD 5 undef = .pointer (some ⟨W2.heap.size, 0, none⟩) := hA.old 5 (by kernel_rfl)
          have c0 := (hA.bel.cell (p := ⟨W2.heap.size, 0, none⟩) HXc_1.out.lt).trans HZc0.out
          have c1 := (hA.bel.cell (p := ⟨W2.heap.size, 1, none⟩) HXc_1.out.lt).trans HZc1.out
          exact gives hK (v := .agg #[.slice Ac nc cc, .int .i64 dc]) (by simp [execOp, Act.eval, e5, c0, c1, go_sem]) ((srep RKeys ⟨lc, dc⟩).keep _ _ _ hA.bel HPc.out)
        · intro aa ww hA K hK
          refine guarded (s := sv (.bool (isKeys ⟨lc, dc⟩))) rfl rfl (hA.got 28 75 (by kernel_rfl)) hK fun hB hK => ?_
          obtain ⟨q79, e79, h79⟩ := (hA.got 32 79 (by kernel_rfl)).1 hB
          refine calls hK (by simp [Act.eval, e79, go_sem]) (iIsKeys_any q79 ⟨lc, dc⟩ ww h79 HMc.out) ?_
          rintro e w1 ⟨rfl, hb⟩
          exact ⟨_, rfl, hb, rfl⟩
        · intro aa ww hA K hK
          refine guarded (s := sv (.bool (z34))) rfl rfl (hA.got 28 75 (by kernel_rfl)) hK fun hB hK => ?_
          have e80 : aa.tmps.getD 80 undef = .bool (isKeys ⟨lc, dc⟩) := (hA.got 33 80 (by kernel_rfl)).1 hB
          exact gives hK rfl (show aa.tmps.getD 80 undef = .bool z34 from by rw [e80, Hz34.out])
        · intro aa ww hA K hK
          refine guarded2 (s := sv (.int .i64 ((q : Int)))) rfl rfl (hA.got 34 81 (by kernel_rfl)) hK fun hB hK => ?_
          exact gives hK rfl (hA.old 9 (by kernel_rfl))
        · intro aa ww hA K hK
          refine guarded2 (s := sv (.pointer (some ⟨W2.heap.size, 1, none⟩))) rfl rfl (hA.got 34 81 (by kernel_rfl)) hK fun hB hK => ?_
          have e5 : aa.tmps.getD 5 undef = .pointer (some ⟨W2.heap.size, 0, none⟩) := hA.old 5 (by kernel_rfl)
          exact gives hK (v := .pointer (some ⟨W2.heap.size, 1, none⟩)) (by simp [execOp, Act.eval, e5, go_sem]) rfl
        · intro aa ww hA K hK
          refine guarded2 (s := sv (.int .i64 (dc))) rfl rfl (hA.got 34 81 (by kernel_rfl)) hK fun hB hK => ?_
          have e83 : aa.tmps.getD 83 undef = .pointer (some ⟨W2.heap.size, 1, none⟩) := (hA.got 36 83 (by kernel_rfl)).1 hB
          have c1 := (hA.bel.cell (p := ⟨W2.heap.size, 1, none⟩) HXc_1.out.lt).trans HZc1.out
          exact gives hK (v := .int .i64 dc) (by simp [execOp, Act.eval, e83, c1, go_sem]) rfl
        · intro aa ww hA K hK
          refine guarded2 (s := sv (.bool (decide ((dc : Int) ≤ ((q : Int) : Int))))) rfl rfl (hA.got 34 81 (by kernel_rfl)) hK fun hB hK => ?_
          have e82 : aa.tmps.getD 82 undef = .int .i64 ((q : Int)) := (hA.got 35 82 (by kernel_rfl)).1 hB
          have e84 : aa.tmps.getD 84 undef = .int .i64 (dc) := (hA.got 37 84 (by kernel_rfl)).1 hB
          exact gives hK (v := .bool (decide ((dc : Int) ≤ ((q : Int) : Int)))) (by simp [execOp, Act.eval, e82, e84, binOp, eqGuard, go_sem]) rfl
        · intro aa ww hA K hK
          refine guarded (s := sv (.bool ((z34) && (decide ((dc : Int) ≤ ((q : Int) : Int)))))) rfl rfl (hA.got 28 75 (by kernel_rfl)) hK fun hB hK => ?_
          have e81 : aa.tmps.getD 81 undef = .bool (z34) := (hA.got 34 81 (by kernel_rfl)).1 hB
          rcases hq : (z34) with _ | _
          · rw [hq] at e81
            exact gives hK (v := .bool false) (by simp [execOp, Act.eval, e81, asBool, go_sem]) (show Value.bool _ = .bool _ by rw [hq]; simp)
          · have ex : aa.tmps.getD 85 undef = .bool (decide ((dc : Int) ≤ ((q : Int) : Int))) := (hA.got 38 85 (by kernel_rfl)).1 (and_i hB (by rw [hq]; rfl))
            rw [hq] at e81
            exact gives hK (v := .bool (decide ((dc : Int) ≤ ((q : Int) : Int)))) (by simp [execOp, Act.eval, e81, ex, asBool, go_sem]) (show Value.bool _ = .bool _ by rw [hq]; simp)
        · intro aa ww hA K hK
          refine guarded (s := sv (.bool ((canSign (⟨lc, dc⟩) lh) == ((z34) && (decide ((dc : Int) ≤ ((q : Int) : Int))))))) rfl rfl (hA.got 28 75 (by kernel_rfl)) hK fun hB hK => ?_
          have e78 : aa.tmps.getD 78 undef = .bool (canSign (⟨lc, dc⟩) lh) := (hA.got 31 78 (by kernel_rfl)).1 hB
          have e86 : aa.tmps.getD 86 undef = .bool ((z34) && (decide ((dc : Int) ≤ ((q : Int) : Int)))) := (hA.got 39 86 (by kernel_rfl)).1 hB
          exact gives hK (v := .bool ((canSign (⟨lc, dc⟩) lh) == ((z34) && (decide ((dc : Int) ≤ ((q : Int) : Int)))))) (by simp [execOp, Act.eval, e78, e86, binOp, eqGuard, eq_bool, go_sem]) rfl
        · intro aa ww hA K hK
          refine free rfl ?_
          have e75 : aa.tmps.getD 75 undef = .bool (z28) := hA.got 28 75 (by kernel_rfl)
          rcases hq : (z28) with _ | _
          · rw [hq] at e75
            exact gives hK (v := .bool false) (by simp [execOp, Act.eval, e75, asBool, go_sem]) (show Value.bool _ = .bool _ by rw [hq]; simp)
          · have ex : aa.tmps.getD 87 undef = .bool ((canSign (⟨lc, dc⟩) lh) == ((z34) && (decide ((dc : Int) ≤ ((q : Int) : Int))))) := (hA.got 40 87 (by kernel_rfl)).1 (by rw [hq]; rfl)
            rw [hq] at e75
            exact gives hK (v := .bool ((canSign (⟨lc, dc⟩) lh) == ((z34) && (decide ((dc : Int) ≤ ((q : Int) : Int)))))) (by simp [execOp, Act.eval, e75, ex, asBool, go_sem]) (show Value.bool _ = .bool _ by rw [hq]; simp)
        · intro aa ww hA K hK
          refine free rfl ?_
          have e88 : aa.tmps.getD 88 undef = .bool ((z28) && ((canSign (⟨lc, dc⟩) lh) == ((z34) && (decide ((dc : Int) ≤ ((q : Int) : Int)))))) := hA.got 41 88 (by kernel_rfl)
          exact gives hK rfl (show aa.tmps.getD 88 undef = .bool z42 from by rw [e88, Hz42.out])
        · intro aa ww hA K hK
          refine guarded (s := srep RKeys (⟨lc, dc⟩)) rfl rfl (hA.got 42 89 (by kernel_rfl)) hK fun hB hK => ?_
          have e5 : aa.tmps.getD 5 undef = .pointer (some ⟨W2.heap.size, 0, none⟩) := hA.old 5 (by kernel_rfl)
          have c0 := (hA.bel.cell (p := ⟨W2.heap.size, 0, none⟩) HXc_1.out.lt).trans HZc0.out
          have c1 := (hA.bel.cell (p := ⟨W2.heap.size, 1, none⟩) HXc_1.out.lt).trans HZc1.out
          exact gives hK (v := .agg #[.slice Ac nc cc, .int .i64 dc]) (by simp [execOp, Act.eval, e5, c0, c1, go_sem]) ((srep RKeys ⟨lc, dc⟩).keep _ _ _ hA.bel HPc.out)
        · intro aa ww hA K hK
          refine guarded (s := sv (.bool (isKeys ⟨lc, dc⟩))) rfl rfl (hA.got 42 89 (by kernel_rfl)) hK fun hB hK => ?_
          obtain ⟨q90, e90, h90⟩ := (hA.got 43 90 (by kernel_rfl)).1 hB
          refine calls hK (by simp [Act.eval, e90, go_sem]) (iIsKeys_any q90 ⟨lc, dc⟩ ww h90 HMc.out) ?_
          rintro e w1 ⟨rfl, hb⟩
          exact ⟨_, rfl, hb, rfl⟩
        · intro aa ww hA K hK
          refine guarded (s := srep RKeys (⟨lc, dc⟩)) rfl rfl (hA.got 42 89 (by kernel_rfl)) hK fun hB hK => ?_
          have e5 : aa.tmps.getD 5 undef = .pointer (some ⟨W2.heap.size, 0, none⟩) := hA.old 5 (by kernel_rfl)
          have c0 := (hA.bel.cell (p := ⟨W2.heap.size, 0, none⟩) HXc_1.out.lt).trans HZc0.out
          have c1 := (hA.bel.cell (p := ⟨W2.heap.size, 1, none⟩) HXc_1.out.lt).trans HZc1.out
          exact gives hK (v := .agg #[.slice Ac nc cc, .int .i64 dc]) (by simp [execOp, Act.eval, e5, c0, c1, go_sem]) ((srep RKeys ⟨lc, dc⟩).keep _ _ _ hA.bel HPc.out)
        · intro aa ww hA K hK
          refine guarded (s := sv (.bool (isKeys ⟨lc, dc⟩))) rfl rfl (hA.got 42 89 (by kernel_rfl)) hK fun hB hK => ?_
          obtain ⟨q92, e92, h92⟩ := (hA.got 45 92 (by kernel_rfl)).1 hB
          refine calls hK (by simp [Act.eval, e92, go_sem]) (sIsKeys_any q92 ⟨lc, dc⟩ ww h92 HMc.out) ?_
          rintro e w1 ⟨rfl, hb⟩
          exact ⟨_, rfl, hb, rfl⟩
        · intro aa ww hA K hK
          refine guarded (s := sv (.bool ((isKeys ⟨lc, dc⟩) == (isKeys ⟨lc, dc⟩)))) rfl rfl (hA.got 42 89 (by kernel_rfl)) hK fun hB hK => ?_
          have e91 : aa.tmps.getD 91 undef = .bool (isKeys ⟨lc, dc⟩) := (hA.got 44 91 (by kernel_rfl)).1 hB
          have e93 : aa.tmps.getD 93 undef = .bool (isKeys ⟨lc, dc⟩) := (hA.got 46 93 (by kernel_rfl)).1 hB
          exact gives hK (v := .bool ((isKeys ⟨lc, dc⟩) == (isKeys ⟨lc, dc⟩))) (by simp [execOp, Act.eval, e91, e93, binOp, eqGuard, eq_bool, go_sem]) rfl
        · intro aa ww hA K hK
          refine free rfl ?_
          have e89 : aa.tmps.getD 89 undef = .bool (z42) := hA.got 42 89 (by kernel_rfl)
          rcases hq : (z42) with _ | _
          · rw [hq] at e89
            exact gives hK (v := .bool false) (by simp [execOp, Act.eval, e89, asBool, go_sem]) (show Value.bool _ = .bool _ by rw [hq]; simp)
          · have ex : aa.tmps.getD 94 undef = .bool ((isKeys ⟨lc, dc⟩) == (isKeys ⟨lc, dc⟩)) := (hA.got 47 94 (by kernel_rfl)).1 (by rw [hq]; rfl)
            rw [hq] at e89
            exact gives hK (v := .bool ((isKeys ⟨lc, dc⟩) == (isKeys ⟨lc, dc⟩))) (by simp [execOp, Act.eval, e89, ex, asBool, go_sem]) (show Value.bool _ = .bool _ by rw [hq]; simp)
        · intro aa ww hA K hK
          refine free rfl ?_
          have e95 : aa.tmps.getD 95 undef = .bool ((z42) && ((isKeys ⟨lc, dc⟩) == (isKeys ⟨lc, dc⟩))) := hA.got 48 95 (by kernel_rfl)
          exact gives hK rfl (show aa.tmps.getD 95 undef = .bool z49 from by rw [e95, Hz49.out])
        · intro aa ww hA K hK
          refine guarded (s := srep RKeys (⟨lk, dk⟩)) rfl rfl (hA.got 49 96 (by kernel_rfl)) hK fun hB hK => ?_
          have e7 : aa.tmps.getD 7 undef = .pointer (some ⟨W3.heap.size, 0, none⟩) := hA.old 7 (by kernel_rfl)
          have c0 := (hA.bel.cell (p := ⟨W3.heap.size, 0, none⟩) HXk_1.out.lt).trans HZk0.out
          have c1 := (hA.bel.cell (p := ⟨W3.heap.size, 1, none⟩) HXk_1.out.lt).trans HZk1.out
          exact gives hK (v := .agg #[.slice Ak nk ck, .int .i64 dk]) (by simp [execOp, Act.eval, e7, c0, c1, go_sem]) ((srep RKeys ⟨lk, dk⟩).keep _ _ _ hA.bel HPk.out)
        · intro aa ww hA K hK
          refine guarded (s := sv (.int .i64 (key))) rfl rfl (hA.got 49 96 (by kernel_rfl)) hK fun hB hK => ?_
          exact gives hK rfl (hA.old 8 (by kernel_rfl))
        · intro aa ww hA K hK
          refine guarded (s := sv (.bool (hasK (lk) key))) rfl rfl (hA.got 49 96 (by kernel_rfl)) hK fun hB hK => ?_
          obtain ⟨q97, e97, h97⟩ := (hA.got 50 97 (by kernel_rfl)).1 hB
          have e98 : aa.tmps.getD 98 undef = .int .i64 (key) := (hA.got 51 98 (by kernel_rfl)).1 hB
          refine calls hK (by simp [Act.eval, e97, e98, go_sem]) (iHasKey_any q97 (⟨lk, dk⟩) key ww h97 HMk.out) ?_
          rintro e w1 ⟨rfl, hb⟩
          exact ⟨_, rfl, hb, rfl⟩
        · intro aa ww hA K hK
          refine guarded (s := sv (.pointer (some ⟨W3.heap.size, 0, none⟩))) rfl rfl (hA.got 49 96 (by kernel_rfl)) hK fun hB hK => ?_
          have e7 : aa.tmps.getD 7 undef = .pointer (some ⟨W3.heap.size, 0, none⟩) := hA.old 7 (by kernel_rfl)
          exact gives hK (v := .pointer (some ⟨W3.heap.size, 0, none⟩)) (by simp [execOp, Act.eval, e7, go_sem]) rfl
        · intro aa ww hA K hK
          refine guarded (s := snums .i64 (lk)) rfl rfl (hA.got 49 96 (by kernel_rfl)) hK fun hB hK => ?_
          have e100 : aa.tmps.getD 100 undef = .pointer (some ⟨W3.heap.size, 0, none⟩) := (hA.got 53 100 (by kernel_rfl)).1 hB
          have c0 := (hA.bel.cell (p := ⟨W3.heap.size, 0, none⟩) HXk_1.out.lt).trans HZk0.out
          exact gives hK (v := .slice Ak nk ck) (by simp [execOp, Act.eval, e100, c0, go_sem]) ((snums .i64 lk).keep _ _ _ hA.bel HPlk.out)
        · intro aa ww hA K hK
          refine guarded (s := sv (.int .i64 (key))) rfl rfl (hA.got 49 96 (by kernel_rfl)) hK fun hB hK => ?_
          exact gives hK rfl (hA.old 8 (by kernel_rfl))
        · intro aa ww hA K hK
          refine guarded (s := sv (.bool (hasK lk key))) rfl rfl (hA.got 49 96 (by kernel_rfl)) hK fun hB hK => ?_
          obtain ⟨A101, c101, e101, hc101, h101⟩ := (hA.got 54 101 (by kernel_rfl)).1 hB
          have e102 : aa.tmps.getD 102 undef = .int .i64 (key) := (hA.got 55 102 (by kernel_rfl)).1 hB
          refine calls hK (by simp [Act.eval, e101, e102, go_sem]) (hasInt_any _ A101 _ c101 lk key ww h101 HMk.out) ?_
          rintro e w1 ⟨rfl, rfl⟩
          exact ⟨_, rfl, (Below.refl _ _), rfl⟩
        · intro aa ww hA K hK
          refine guarded (s := sv (.bool ((hasK (lk) key) == (hasK lk key)))) rfl rfl (hA.got 49 96 (by kernel_rfl)) hK fun hB hK => ?_
          have e99 : aa.tmps.getD 99 undef = .bool (hasK (lk) key) := (hA.got 52 99 (by kernel_rfl)).1 hB
          have e103 : aa.tmps.getD 103 undef = .bool (hasK lk key) := (hA.got 56 103 (by kernel_rfl)).1 hB
          exact gives hK (v := .bool ((hasK (lk) key) == (hasK lk key))) (by simp [execOp, Act.eval, e99, e103, binOp, eqGuard, eq_bool, go_sem]) rfl
        · intro aa ww hA K hK
          refine free rfl ?_
          have e96 : aa.tmps.getD 96 undef = .bool (z49) := hA.got 49 96 (by kernel_rfl)
          rcases hq : (z49) with _ | _
          · rw [hq] at e96
            exact gives hK (v := .bool false) (by simp [execOp, Act.eval, e96, asBool, go_sem]) (show Value.bool _ = .bool _ by rw [hq]; simp)
          · have ex : aa.tmps.getD 104 undef = .bool ((hasK (lk) key) == (hasK lk key)) := (hA.got 57 104 (by kernel_rfl)).1 (by rw [hq]; rfl)
            rw [hq] at e96
            exact gives hK (v := .bool ((hasK (lk) key) == (hasK lk key))) (by simp [execOp, Act.eval, e96, ex, asBool, go_sem]) (show Value.bool _ = .bool _ by rw [hq]; simp)
        · intro aa ww hA K hK
          refine free rfl ?_
          have e105 : aa.tmps.getD 105 undef = .bool ((z49) && ((hasK (lk) key) == (hasK lk key))) := hA.got 58 105 (by kernel_rfl)
          exact gives hK rfl (show aa.tmps.getD 105 undef = .bool z59 from by rw [e105, Hz59.out])
        · intro aa ww hA K hK
          refine guarded (s := srep RKeys (⟨la, da⟩)) rfl rfl (hA.got 59 106 (by kernel_rfl)) hK fun hB hK => ?_
          have e3 : aa.tmps.getD 3 undef = .pointer (some ⟨W1.heap.size, 0, none⟩) := hA.old 3 (by kernel_rfl)
          have c0 := (hA.bel.cell (p := ⟨W1.heap.size, 0, none⟩) HXa_1.out.lt).trans HZa0.out
          have c1 := (hA.bel.cell (p := ⟨W1.heap.size, 1, none⟩) HXa_1.out.lt).trans HZa1.out
          exact gives hK (v := .agg #[.slice Aa na ca, .int .i64 da]) (by simp [execOp, Act.eval, e3, c0, c1, go_sem]) ((srep RKeys ⟨la, da⟩).keep _ _ _ hA.bel HPa.out)
        · intro aa ww hA K hK
          refine guarded (s := snums .i64 (keysInts ⟨la, da⟩)) rfl rfl (hA.got 59 106 (by kernel_rfl)) hK fun hB hK => ?_
          obtain ⟨q107, e107, h107⟩ := (hA.got 60 107 (by kernel_rfl)).1 hB
          refine calls hK (by simp [Act.eval, e107, go_sem]) (iKeysInts_any q107 ⟨la, da⟩ ww h107 HMa.out) ?_
          rintro e w1 ⟨A9, c9, rfl, hop, hb⟩
          exact ⟨_, rfl, hb, snums_own hop⟩
        · intro aa ww hA K hK
          refine guarded (s := srep RKeys (⟨la, da⟩)) rfl rfl (hA.got 59 106 (by kernel_rfl)) hK fun hB hK => ?_
          have e3 : aa.tmps.getD 3 undef = .pointer (some ⟨W1.heap.size, 0, none⟩) := hA.old 3 (by kernel_rfl)
          have c0 := (hA.bel.cell (p := ⟨W1.heap.size, 0, none⟩) HXa_1.out.lt).trans HZa0.out
          have c1 := (hA.bel.cell (p := ⟨W1.heap.size, 1, none⟩) HXa_1.out.lt).trans HZa1.out
          exact gives hK (v := .agg #[.slice Aa na ca, .int .i64 da]) (by simp [execOp, Act.eval, e3, c0, c1, go_sem]) ((srep RKeys ⟨la, da⟩).keep _ _ _ hA.bel HPa.out)
        · intro aa ww hA K hK
          refine guarded (s := snums .i64 (keysInts ⟨la, da⟩)) rfl rfl (hA.got 59 106 (by kernel_rfl)) hK fun hB hK => ?_
          obtain ⟨q109, e109, h109⟩ := (hA.got 62 109 (by kernel_rfl)).1 hB
          refine calls hK (by simp [Act.eval, e109, go_sem]) (sKeysInts_any q109 ⟨la, da⟩ ww h109 HMa.out) ?_
          rintro e w1 ⟨A9, c9, rfl, hop, hb⟩
          exact ⟨_, rfl, hb, snums_own hop⟩
        · intro aa ww hA K hK
          refine guarded (s := sv (.bool (true))) rfl rfl (hA.got 59 106 (by kernel_rfl)) hK fun hB hK => ?_
          obtain ⟨A108, c108, e108, hc108, h108⟩ := (hA.got 61 108 (by kernel_rfl)).1 hB
          obtain ⟨A110, c110, e110, hc110, h110⟩ := (hA.got 63 110 (by kernel_rfl)).1 hB
          refine calls hK (by simp [Act.eval, e108, e110, go_sem]) (sameInts_b A108 A110 c108 c110 h108 h110 HKI.out) ?_
          rintro e w1 ⟨rfl, hb⟩
          exact ⟨_, rfl, hb, rfl⟩
        · intro aa ww hA K hK
          refine free rfl ?_
          have e106 : aa.tmps.getD 106 undef = .bool (z59) := hA.got 59 106 (by kernel_rfl)
          rcases hq : (z59) with _ | _
          · rw [hq] at e106
            exact gives hK (v := .bool false) (by simp [execOp, Act.eval, e106, asBool, go_sem]) (show Value.bool _ = .bool _ by rw [hq]; simp)
          · have ex : aa.tmps.getD 111 undef = .bool (true) := (hA.got 64 111 (by kernel_rfl)).1 (by rw [hq]; rfl)
            rw [hq] at e106
            exact gives hK (v := .bool (true)) (by simp [execOp, Act.eval, e106, ex, asBool, go_sem]) (show Value.bool _ = .bool _ by rw [hq]; simp)
        · intro aa ww hA K hK
          refine free rfl ?_
          have e112 : aa.tmps.getD 112 undef = .bool ((z59) && (true)) := hA.got 65 112 (by kernel_rfl)
          exact gives hK rfl (show aa.tmps.getD 112 undef = .bool z66 from by rw [e112, Hz66.out])
        · intro aa ww hA K hK
          refine guarded (s := sv (.int .i64 (one))) rfl rfl (hA.got 66 113 (by kernel_rfl)) hK fun hB hK => ?_
          exact gives hK rfl (hA.old 11 (by kernel_rfl))
        · intro aa ww hA K hK
          refine guarded (s := srep RKeys (oneKey one)) rfl rfl (hA.got 66 113 (by kernel_rfl)) hK fun hB hK => ?_
          have e114 : aa.tmps.getD 114 undef = .int .i64 (one) := (hA.got 67 114 (by kernel_rfl)).1 hB
          refine calls hK (by simp [Act.eval, e114, go_sem]) (iOneKey_any one ww HIone.out) ?_
          rintro e w1 ⟨u1, rfl, hu1, hb⟩
          exact ⟨_, rfl, hb, srep_rd hu1.rd⟩
        · intro aa ww hA K hK
          refine guarded (s := sv (.int .i64 (one))) rfl rfl (hA.got 66 113 (by kernel_rfl)) hK fun hB hK => ?_
          exact gives hK rfl (hA.old 11 (by kernel_rfl))
        · intro aa ww hA K hK
          refine guarded (s := sv (.bool (hasK ((oneKey one).list) one))) rfl rfl (hA.got 66 113 (by kernel_rfl)) hK fun hB hK => ?_
          obtain ⟨q115, e115, h115⟩ := (hA.got 68 115 (by kernel_rfl)).1 hB
          have e116 : aa.tmps.getD 116 undef = .int .i64 (one) := (hA.got 69 116 (by kernel_rfl)).1 hB
          refine calls hK (by simp [Act.eval, e115, e116, go_sem]) (iHasKey_any q115 (oneKey one) one ww h115 HLO.out) ?_
          rintro e w1 ⟨rfl, hb⟩
          exact ⟨_, rfl, hb, rfl⟩
        · intro aa ww hA K hK
          refine free rfl ?_
          have e113 : aa.tmps.getD 113 undef = .bool (z66) := hA.got 66 113 (by kernel_rfl)
          rcases hq : (z66) with _ | _
          · rw [hq] at e113
            exact gives hK (v := .bool false) (by simp [execOp, Act.eval, e113, asBool, go_sem]) (show Value.bool _ = .bool _ by rw [hq]; simp)
          · have ex : aa.tmps.getD 117 undef = .bool (hasK ((oneKey one).list) one) := (hA.got 70 117 (by kernel_rfl)).1 (by rw [hq]; rfl)
            rw [hq] at e113
            exact gives hK (v := .bool (hasK ((oneKey one).list) one)) (by simp [execOp, Act.eval, e113, ex, asBool, go_sem]) (show Value.bool _ = .bool _ by rw [hq]; simp)
        · intro aa ww hA K hK
          refine free rfl ?_
          have e118 : aa.tmps.getD 118 undef = .bool ((z66) && (hasK ((oneKey one).list) one)) := hA.got 71 118 (by kernel_rfl)
          exact gives hK rfl (show aa.tmps.getD 118 undef = .bool z72 from by rw [e118, Hz72.out])
        · intro aa ww hA K hK
          refine guarded (s := sv (.int .i64 (one))) rfl rfl (hA.got 72 119 (by kernel_rfl)) hK fun hB hK => ?_
          exact gives hK rfl (hA.old 11 (by kernel_rfl))
        · intro aa ww hA K hK
          refine guarded (s := srep RKeys (oneKey one)) rfl rfl (hA.got 72 119 (by kernel_rfl)) hK fun hB hK => ?_
          have e120 : aa.tmps.getD 120 undef = .int .i64 (one) := (hA.got 73 120 (by kernel_rfl)).1 hB
          refine calls hK (by simp [Act.eval, e120, go_sem]) (iOneKey_any one ww HIone.out) ?_
          rintro e w1 ⟨u1, rfl, hu1, hb⟩
          exact ⟨_, rfl, hb, srep_rd hu1.rd⟩
        · intro aa ww hA K hK
          refine guarded (s := sv (.int .i64 (one))) rfl rfl (hA.got 72 119 (by kernel_rfl)) hK fun hB hK => ?_
          exact gives hK rfl (hA.old 11 (by kernel_rfl))
        · intro aa ww hA K hK
          refine guarded (s := snums .i64 ([one])) rfl rfl (hA.got 72 119 (by kernel_rfl)) hK fun hB hK => ?_
          have e122 : aa.tmps.getD 122 undef = .int .i64 (one) := (hA.got 75 122 (by kernel_rfl)).1 hB
          exact lays hK (v := .slice (some ⟨ww.heap.size, 0, none⟩) 1 1) (w' := ww.alloc (.cells #[.int .i64 (one)] 3)) (by simp only [execOp, List.map_toArray, List.map_cons, List.map_nil, Act.eval, e122]; simp [go_sem]) ((Below.refl _ _).alloc (Nat.le_refl _) _) (snums_lit (zs := [one]) (by intro z hz; simp at hz; subst hz; exact HIone.out))
        · intro aa ww hA K hK
          refine guarded (s := sv (.bool (canSign (oneKey one) [one]))) rfl rfl (hA.got 72 119 (by kernel_rfl)) hK fun hB hK => ?_
          obtain ⟨q121, e121, h121⟩ := (hA.got 74 121 (by kernel_rfl)).1 hB
          obtain ⟨A123, c123, e123, hc123, h123⟩ := (hA.got 76 123 (by kernel_rfl)).1 hB
          refine calls hK (by simp [Act.eval, e121, e123, go_sem]) (iCanSign_any q121 (oneKey one) A123 _ c123 [one] ww h121 h123 HLO.out (by simp)) ?_
          rintro e w1 ⟨rfl, hb⟩
          exact ⟨_, rfl, hb, rfl⟩
        · intro aa ww hA K hK
          refine guarded (s := sv (.int .i64 (one))) rfl rfl (hA.got 72 119 (by kernel_rfl)) hK fun hB hK => ?_
          exact gives hK rfl (hA.old 11 (by kernel_rfl))
        · intro aa ww hA K hK
          refine guarded (s := sv (.bool (decide ((1 : Int) ≤ (one : Int))))) rfl rfl (hA.got 72 119 (by kernel_rfl)) hK fun hB hK => ?_
          have e125 : aa.tmps.getD 125 undef = .int .i64 (one) := (hA.got 78 125 (by kernel_rfl)).1 hB
          exact gives hK (v := .bool (decide ((1 : Int) ≤ (one : Int)))) (by simp [execOp, Act.eval, e125, binOp, eqGuard, go_sem]) rfl
        · intro aa ww hA K hK
          refine guarded (s := sv (.bool (z80))) rfl rfl (hA.got 72 119 (by kernel_rfl)) hK fun hB hK => ?_
          have e126 : aa.tmps.getD 126 undef = .bool (decide ((1 : Int) ≤ (one : Int))) := (hA.got 79 126 (by kernel_rfl)).1 hB
          exact gives hK rfl (show aa.tmps.getD 126 undef = .bool z80 from by rw [e126, Hz80.out])
        · intro aa ww hA K hK
          refine guarded2 (s := sv (.int .i64 (one))) rfl rfl (hA.got 80 127 (by kernel_rfl)) hK fun hB hK => ?_
          exact gives hK rfl (hA.old 11 (by kernel_rfl))
        · intro aa ww hA K hK
          refine guarded2 (s := sv (.bool (decide ((one : Int) ≤ (99 : Int))))) rfl rfl (hA.got 80 127 (by kernel_rfl)) hK fun hB hK => ?_
          have e128 : aa.tmps.getD 128 undef = .int .i64 (one) := (hA.got 81 128 (by kernel_rfl)).1 hB
          exact gives hK (v := .bool (decide ((one : Int) ≤ (99 : Int)))) (by simp [execOp, Act.eval, e128, binOp, eqGuard, go_sem]) rfl
        · intro aa ww hA K hK
          refine guarded (s := sv (.bool ((z80) && (decide ((one : Int) ≤ (99 : Int)))))) rfl rfl (hA.got 72 119 (by kernel_rfl)) hK fun hB hK => ?_
          have e127 : aa.tmps.getD 127 undef = .bool (z80) := (hA.got 80 127 (by kernel_rfl)).1 hB
          rcases hq : (z80) with _ | _
          · rw [hq] at e127
            exact gives hK (v := .bool false) (by simp [execOp, Act.eval, e127, asBool, go_sem]) (show Value.bool _ = .bool _ by rw [hq]; simp)
          · have ex : aa.tmps.getD 129 undef = .bool (decide ((one : Int) ≤ (99 : Int))) := (hA.got 82 129 (by kernel_rfl)).1 (and_i hB (by rw [hq]; rfl))
            rw [hq] at e127
            exact gives hK (v := .bool (decide ((one : Int) ≤ (99 : Int)))) (by simp [execOp, Act.eval, e127, ex, asBool, go_sem]) (show Value.bool _ = .bool _ by rw [hq]; simp)
        · intro aa ww hA K hK
          refine guarded (s := sv (.bool ((canSign (oneKey one) [one]) == ((z80) && (decide ((one : Int) ≤ (99 : Int))))))) rfl rfl (hA.got 72 119 (by kernel_rfl)) hK fun hB hK => ?_
          have e124 : aa.tmps.getD 124 undef = .bool (canSign (oneKey one) [one]) := (hA.got 77 124 (by kernel_rfl)).1 hB
          have e130 : aa.tmps.getD 130 undef = .bool ((z80) && (decide ((one : Int) ≤ (99 : Int)))) := (hA.got 83 130 (by kernel_rfl)).1 hB
          exact gives hK (v := .bool ((canSign (oneKey one) [one]) == ((z80) && (decide ((one : Int) ≤ (99 : Int)))))) (by simp [execOp, Act.eval, e124, e130, binOp, eqGuard, eq_bool, go_sem]) rfl
        · intro aa ww hA K hK
          refine free rfl ?_
          have e119 : aa.tmps.getD 119 undef = .bool (z72) := hA.got 72 119 (by kernel_rfl)
          rcases hq : (z72) with _ | _
          · rw [hq] at e119
            exact gives hK (v := .bool false) (by simp [execOp, Act.eval, e119, asBool, go_sem]) (show Value.bool _ = .bool _ by rw [hq]; simp)
          · have ex : aa.tmps.getD 131 undef = .bool ((canSign (oneKey one) [one]) == ((z80) && (decide ((one : Int) ≤ (99 : Int))))) := (hA.got 84 131 (by kernel_rfl)).1 (by rw [hq]; rfl)
            rw [hq] at e119
            exact gives hK (v := .bool ((canSign (oneKey one) [one]) == ((z80) && (decide ((one : Int) ≤ (99 : Int)))))) (by simp [execOp, Act.eval, e119, ex, asBool, go_sem]) (show Value.bool _ = .bool _ by rw [hq]; simp)
        · intro aa ww hA K hK
          refine free rfl ?_
          exact gives hK rfl (hA.got 85 132 (by kernel_rfl))
      · intro a1 w1 hb hd hsz hold hgot
        have e2 : a1.tmps.getD 2 undef = .bool ((z72) && ((canSign (oneKey one) [one]) == ((z80) && (decide ((one : Int) ≤ (99 : Int)))))) := hgot 86 2 (by kernel_rfl)
        have HF : ((z72) && ((canSign (oneKey one) [one]) == ((z80) && (decide ((one : Int) ≤ (99 : Int)))))) = true := by
          have k28 : z28 = true := by
            rw [Hz28.out, Hz7.out, beq_self_eq_true, Bool.true_and, Hz16.out, Hz11.out]
            rcases hva : isKeys ⟨la, da⟩ with _ | _
            · rfl
            rcases hvb : isKeys ⟨lb, db⟩ with _ | _
            · rfl
            rw [show ((hsh (211 :: keysInts ⟨la, da⟩) : Int) == (hsh (211 :: keysInts ⟨lb, db⟩) : Int)) = eqKeysB ⟨la, da⟩ ⟨lb, db⟩ from dig_eq HKa.out HKb.out hva hvb]
            simp
          have k42 : z42 = true := by rw [Hz42.out, k28, HCS.out, Hz34.out]; simp
          have k49 : z49 = true := by rw [Hz49.out, k42]; simp
          have k59 : z59 = true := by rw [Hz59.out, k49]; simp
          have k66 : z66 = true := by rw [Hz66.out, k59]; rfl
          have k72 : z72 = true := by rw [Hz72.out, k66, has_one]; rfl
          rw [k72, Hz80.out, can_one]
          simp
        rw [HF] at e2
        rename_i K9 hK9
        refine hK9 a1 w1 (wp_ret ?_)
        exact bodyPost_ret (v := .bool true) (by simp [results, Try.results3, go_sem]; rw [← Array.getD_eq_getD_getElem?]; exact e2) (hd.trans rfl) ⟨rfl, HA_1.out.trans ((R06.below_drew hb).mono HA_1.out.size)⟩
end Go.Proofs.Ythfngiajicbdhaa.W06F
