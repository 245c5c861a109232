/- The walk of the statement 'FnSigners': the law returns true, and writes into nothing that was there. -/
import Derived.Test.YthhibhnclbnhlaaC07I
import Derived.Test.YthhibhnclbnhlaaC07S
import Derived.Test.YthhibhnclbnhlaaD07
import Derived.Test.YthhibhnclbnhlaaRGF
import Derived.Test.YthhibhnclbnhlaaT01
import Derived.Test.YthhibhnclbnhlaaTB
import Derived.RegionTactic
namespace Go.Proofs.Ythhibhnclbnhlaa.W07G
set_option linter.unusedVariables false
set_option maxRecDepth 100000
open Go.RowKit Mem MemS M02 C01 C02 Rep R06 R07 Flat M03 M06 M07 C06S C07S C07I D01 D06 D07 SL T01 TB RG RGS RGF
theorem hasInt_any (B : Nat) (A : Option Addr) (n c : Nat) (l : List Int) (key : Int) (w : World) (h : Rd .i64 w B A n l) (hn : n ≤ 1099511627776) :
    Calls Try.prog 30 #[.slice A n c, .int .i64 key] w fun e w' => e = .returned (.bool (hasK l key)) ∧ w = w' := by
  have HL := Lib.hid h.len
  go_enter Try.func30, Try.ntmps30
  go_wp2
  go_loop [5] (fun i => ∃ j : Nat, j ≤ n ∧ i = .int .i64 j ∧ ∀ k, k < j → l.getD k 0 ≠ key) (fun i => n - (intOf i).toNat)
  case atStart => exact ⟨0, by omega, rfl, fun k hk => absurd hk (by omega)⟩
  case round =>
    obtain ⟨j, hj, rfl, hf⟩ := hrel
    have HF := Lib.hid hf
    clear hf
    by_cases hjn : j < n
    · obtain ⟨b, off, rfl, hlt, hc⟩ := h.cells (by omega)
      have hcj := hc j hjn
      have HX := Lib.hid (show ∀ x : Int, l.getD j 0 = x → j < l.length from fun _ _ => by rw [HL.out]; exact hjn)
      generalize hx : l.getD j 0 = x at hcj
      have HE := Lib.hid hx
      clear hc hx h
      by_cases hk : x = key
      · subst hk
        have HR := Lib.hid (hasK_at (HX.out _ HE.out) HE.out)
        go_wp2
        go_ret
        exact ⟨by rw [HR.out]; rfl, rfl⟩
      · have hkb : (x == key) = false := beq_eq_false_iff_ne.2 hk
        have HK := Lib.hid hk
        clear hk
        go_wp2
        go_round
        case rel => exact ⟨j + 1, by omega, by go_num, fun k hk => by
          rcases Nat.lt_or_ge k j with h1 | h1
          · exact HF.out k h1
          · obtain rfl : k = j := by omega
            rw [HE.out]
            exact HK.out⟩
        case measure => simp [intOf]; omega
    · have HR := Lib.hid (hasK_none (l := l) (key := key) fun j' hj' => HF.out j' (by have := HL.out; omega))
      clear h
      go_wp2
      go_ret
      exact ⟨by rw [HR.out]; rfl, rfl⟩
theorem sameInts_b {B B' n : Nat} (A A' : Option Addr) (c c' : Nat) {zs : List Int} {w : World} (h : Rd .i64 w B A n zs) (h' : Rd .i64 w B' A' n zs) (hn : zs.length ≤ 1099511627776) :
    Calls Try.prog 31 #[.slice A n c, .slice A' n c'] w fun e w' => e = .returned (.bool true) ∧ Below w.heap.size w w' :=
  (sameInts_same B B' A A' n c c' zs w h h' (by have := h.len; omega)).mono fun e w' q => ⟨q.1, q.2.below _⟩
theorem keys99_asc : keys99.Pairwise (· < ·) := by
  unfold keys99
  rw [List.pairwise_map]
  exact List.pairwise_lt_range.imp fun h => by omega
theorem sgn_asc {m : List Int} {sg : List Sig} {i : Nat} (h0 : 0 < i) (h : i < (sgnOf m sg).length) : (sgnOf m sg).getD (i - 1) 0 < (sgnOf m sg).getD i 0 := by
  have hp : (sgnOf m sg).Pairwise (· < ·) := keys99_asc.sublist List.filter_sublist
  have := List.pairwise_iff_getElem.1 hp (i - 1) i (by omega) h (by omega)
  simpa [List.getD, h, show i - 1 < (sgnOf m sg).length by omega] using this
theorem sgn_any {m : List Int} {sg : List Sig} {i : Nat} (h : i < (sgnOf m sg).length) : anyS sg ((sgnOf m sg).getD i 0) m = true := by
  simp only [List.getD, List.getElem?_eq_getElem h, Option.getD_some]
  exact (List.mem_filter.1 (List.getElem_mem h)).2
theorem sgn_in {m : List Int} {sg : List Sig} {i : Nat} (h : i < (sgnOf m sg).length) : 1 ≤ (sgnOf m sg).getD i 0 ∧ (sgnOf m sg).getD i 0 ≤ 99 := by
  simp only [List.getD, List.getElem?_eq_getElem h, Option.getD_some]
  obtain ⟨k, hk, e⟩ := List.mem_map.1 (List.mem_filter.1 (List.getElem_mem h)).1
  have := List.mem_range.1 hk
  omega
theorem keys99_mem {x : Int} (h0 : 1 ≤ x) (h1 : x ≤ 99) : x ∈ keys99 := by
  refine List.mem_map.2 ⟨(x - 1).toNat, List.mem_range.2 (by omega), by omega⟩
theorem sgn_has {m : List Int} {sg : List Sig} {j : Nat} (h : j < sg.length) (hs : isSig (sg.getD j default) m = true) : hasK (sgnOf m sg) (sg.getD j default).key = true := by
  have hr : 1 ≤ (sg.getD j default).key ∧ (sg.getD j default).key ≤ 99 := by
    unfold isSig at hs
    simp only [Bool.and_eq_true] at hs
    have h1 := hs.1
    unfold inR at h1
    simp at h1
    exact h1
  have ha : anyS sg (sg.getD j default).key m = true := anyS_hit (j := j) h (by rw [hs]; simp)
  have hm : (sg.getD j default).key ∈ sgnOf m sg := List.mem_filter.2 ⟨keys99_mem hr.1 hr.2, ha⟩
  unfold hasK
  first | exact List.any_eq_true.2 ⟨_, hm, by simp⟩ | simpa using hm
theorem any_step {sg : List Sig} {x : Int} {m : List Int} {j : Nat} (h : j < sg.length) : anyS (sg.take (j + 1)) x m = (anyS (sg.take j) x m || ((sg.getD j default).key == x && isSig (sg.getD j default) m)) := by
  unfold anyS
  rw [take_snoc h, List.any_append]
  simp [List.getD, h]
theorem sgn_len (m : List Int) (sg : List Sig) : (sgnOf m sg).length ≤ 99 := by
  have h := List.length_filter_le (fun x => anyS sg x m) keys99
  rw [keys99_len] at h
  exact h
set_option maxHeartbeats 8000000 in
theorem FnSigners_walk (W0 : World) (A : Option Addr) (n c : Nat) (hn : n ≤ maxLen) (hr : BRow W0 W0.heap.size A n) :
    Calls Try.prog 4 #[.slice A n c] W0 fun e w' => e = .returned (.bool true) ∧ Below W0.heap.size W0 w' := by
  by_cases hbig : 1048576 < n
  · go_enter Try.func4, Try.ntmps4
    go_wp2_with fail
    refine (big_yes _ _ _ _ hbig).mono ?_
    rintro e w1 ⟨rfl, rfl⟩
    go_wp2
    go_ret
    exact ⟨rfl, Below.refl _ _⟩
  have HR := Lib.hid hr
  clear hr
  go_enter Try.func4, Try.ntmps4
  go_wp2_with fail
  refine (big_no _ _ _ _ (by omega)).mono ?_
  rintro e w1 ⟨rfl, rfl⟩
  go_wp2_with fail
  refine (drawSignersOf_any W0 A n c hn HR.out).mono ?_
  rintro e W1 ⟨Am, nm, cm, m, As, ns, cs, sg, rfl, hms, hom, hns, hsg, hb1⟩
  have hml := hom.len
  have hm3 := hms.1
  have hsl := hsg.len
  have HN := Lib.hid (show m.length ≤ 1099511626 by omega)
  go_wp2_with fail
  refine (iSignersOf_any Am nm cm m As ns cs sg W1 hom.rd hom.cap.1 (FRd.of flSig hsg.rd) (by omega) (by omega)).mono ?_
  rintro e V ⟨A3, c3, rfl, hol, hb2⟩
  have HB := Lib.hid (hb1.trans (hb2.mono hb1.size))
  have HM := Lib.hid ((hom.rd.below hb2 (Nat.le_refl _)).more hb2.size)
  have HG := Lib.hid (((FRd.of flSig hsg.rd).below hb2 (Nat.le_refl _)).more hb2.size)
  have HLo := Lib.hid hol.rd
  have HCm := Lib.hid hom.cap.1
  have HSL := Lib.hid hsl
  have HCl := Lib.hid hol.cap.1
  have HASC := Lib.hid (fun i (h0 : 0 < i) (h : i < (sgnOf m sg).length) => sgn_asc (m := m) (sg := sg) h0 h)
  have HANY := Lib.hid (fun i (h : i < (sgnOf m sg).length) => sgn_any (m := m) (sg := sg) h)
  have HINN := Lib.hid (fun i (h : i < (sgnOf m sg).length) => sgn_in (m := m) (sg := sg) h)
  have HHAS := Lib.hid (fun j (h : j < sg.length) => sgn_has (m := m) (sg := sg) h)
  have HSO := Lib.hid (rfl : sgnOf m sg = sgnOf m sg)
  have hll := sgn_len m sg
  have HKS := Lib.hid (fun w (h1 : Rd .i64 w w.heap.size Am nm m) (h2 : FRdSig w w.heap.size As ns sg) => sSignersOf_any Am nm cm m As ns cs sg w h1 hom.cap.1 h2 (by omega) (by omega))
  clear hom hsg hb1 hb2 hol hms
  generalize hL : sgnOf m sg = L at HLo HCl HASC HANY HINN HHAS HKS hll
  have HL := Lib.hid hL
  clear hL HSO
  have hnm4 : nm ≤ 3 := by omega
  go_wp2
  go_loopw [6] (fun iv wr => ∃ i : Nat, i ≤ L.length ∧ iv = .int .i64 i ∧ Below V.heap.size V wr) (fun iv _ => L.length - (intOf iv).toNat)
  case atStart => exact ⟨0, by omega, rfl, Below.refl _ _⟩
  case round =>
    obtain ⟨i, hi, rfl, hbel⟩ := hrel
    have HR1 := Lib.hid hbel
    clear hbel
    by_cases hin : i < L.length
    · obtain ⟨bl, ol, rfl, hltl, hcl⟩ := (HLo.out.below HR1.out (Nat.le_refl _)).cells (by omega)
      have hci := hcl i hin
      have hxi := HINN.out i hin
      have HAN := Lib.hid (HANY.out i hin)
      have HLT := Lib.hid (show bl < V.heap.size from hltl)
      have hil : (i : Int) < L.length := by omega
      rcases Nat.eq_zero_or_pos i with h0 | h0
      · have hi2 : ¬ (0 : Int) < (i : Int) := by omega
        have hi5 : decide (0 < i) = false := by rw [h0]; rfl
        have hi6 : ¬ 0 < i := by omega
        clear h0
        generalize hx : L.getD i 0 = x at hci hxi HAN
        clear hx hcl
        go_wp2_with fail
        go_region
        go_wp2
        obtain ⟨wo, rfl⟩ : ∃ wo, wo = wr := ⟨_, rfl⟩
        have HCI := Lib.hid hci
        clear hci
        go_loopw [7, 8] (fun fv jv wr => ∃ j : Nat, j ≤ ns ∧ fv = .bool (anyS (sg.take j) x m) ∧ jv = .int .i64 j ∧ Below wo.heap.size wo wr) (fun _ jv _ => ns - (intOf jv).toNat)
        case atStart => exact ⟨0, by omega, rfl, rfl, (Below.refl _ _).drew⟩
        case round =>
          obtain ⟨j, hj, rfl, rfl, hbq⟩ := hrel
          have HQ := Lib.hid hbq
          have HW := Lib.hid (HR1.out.trans (hbq.mono HR1.out.size))
          clear hbq
          by_cases hjn : j < ns
          · obtain ⟨b2, o2, rfl, hlt2, hc2⟩ := (HG.out.below HW.out (Nat.le_refl _)).cell_at hjn
            have hqz := (HG.out.below HW.out (Nat.le_refl _)).getQ hjn
            have hst := any_step (x := x) (m := m) (sg := sg) (j := j) (by rw [HSL.out]; exact hjn)
            obtain ⟨z, hz⟩ : ∃ z, z = sg.getD j default := ⟨_, rfl⟩
            rw [← hz] at hc2 hqz hst
            have HQz := Lib.hid hqz
            have HST := Lib.hid hst
            generalize anyS (sg.take j) x m = fb at HST
            have HZx := Lib.hid (show bl < wr.drew.heap.size ∧ wr.drew.cell? ⟨bl, ol + i, none⟩ = some (.int .i64 x) from ⟨Nat.lt_of_lt_of_le HLT.out HW.out.size, (HQ.out.cell (p := ⟨bl, ol + i, none⟩) (Nat.lt_of_lt_of_le HLT.out HR1.out.size)).trans HCI.out⟩)
            have HZk := Lib.hid (show b2 < wr.drew.heap.size ∧ wr.drew.cell? ⟨b2, o2 + j * 2, none⟩ = some (.int .i64 z.key) from ⟨Nat.lt_of_lt_of_le hlt2 HW.out.size, hc2 0 (by decide)⟩)
            have HZt := Lib.hid (show b2 < wr.drew.heap.size ∧ wr.drew.cell? ⟨b2, o2 + j * 2 + 1, none⟩ = some (.int .i64 z.tag) from ⟨Nat.lt_of_lt_of_le hlt2 HW.out.size, hc2 1 (by decide)⟩)
            have HPm := Lib.hid (sy_drew (S := snums .i64 m) (w := wr) (v := .slice Am nm cm) (snums_rd ((HM.out.below HW.out (Nat.le_refl _)).more HW.out.size) HCm.out))
            have hj2 : (j : Int) < ns := by omega
            clear hc2 hqz hz hlt2 hst
            go_wp2
            obtain ⟨z1, hz1⟩ : ∃ zz : Bool, zz = (fb) := ⟨_, rfl⟩
            have Hz1 := Lib.hid hz1
            clear hz1
            obtain ⟨z12, hz12⟩ : ∃ zz : Bool, zz = ((z.key : Int) == (x : Int)) := ⟨_, rfl⟩
            have Hz12 := Lib.hid hz12
            clear hz12
            refine RG.region (tabP [sv (.bool (fb)), sv (.bool (z1)), swhen (z1 == false) (sv (.slice (some ⟨b2, o2, none⟩) ns cs)), swhen (z1 == false) (sv (.int .i64 ((j : Int)))), swhen (z1 == false) (sv (.pointer (some ⟨b2, o2 + j * 2, none⟩))), swhen (z1 == false) (sv (.pointer (some ⟨b2, o2 + j * 2, none⟩))), swhen (z1 == false) (sv (.int .i64 (z.key))), swhen (z1 == false) (sv (.slice (some ⟨bl, ol, none⟩) L.length c3)), swhen (z1 == false) (sv (.int .i64 ((i : Int)))), swhen (z1 == false) (sv (.pointer (some ⟨bl, ol + i, none⟩))), swhen (z1 == false) (sv (.int .i64 (x))), swhen (z1 == false) (sv (.bool ((z.key : Int) == (x : Int)))), swhen (z1 == false) (sv (.bool (z12))), swhen ((z1 == false) && (z12 == true)) (sv (.slice (some ⟨b2, o2, none⟩) ns cs)), swhen ((z1 == false) && (z12 == true)) (sv (.int .i64 ((j : Int)))), swhen ((z1 == false) && (z12 == true)) (sv (.pointer (some ⟨b2, o2 + j * 2, none⟩))), swhen ((z1 == false) && (z12 == true)) (sv (.agg #[.int .i64 z.key, .int .i64 z.tag])), swhen ((z1 == false) && (z12 == true)) (snums .i64 (m)), swhen ((z1 == false) && (z12 == true)) (sv (.bool (isSig z m))), swhen (z1 == false) (sv (.bool ((z12) && (isSig z m)))), sv (.bool ((z1) || ((z12) && (isSig z m)))), sv (.bool ((z1) || ((z12) && (isSig z m))))]) (by kernel_rfl) (by kernel_rfl) (tab_keep _) ?_ ?_
            · refine steps_cons ?_ (steps_cons ?_ (steps_cons ?_ (steps_cons ?_ (steps_cons ?_ (steps_cons ?_ (steps_cons ?_ (steps_cons ?_ (steps_cons ?_ (steps_cons ?_ (steps_cons ?_ (steps_cons ?_ (steps_cons ?_ (steps_cons ?_ (steps_cons ?_ (steps_cons ?_ (steps_cons ?_ (steps_cons ?_ (steps_cons ?_ (steps_cons ?_ (steps_cons ?_ (steps_cons ?_ (steps_nil))))))))))))))))))))))
              · intro aa ww hA K hK
                refine free rfl ?_
                exact gives hK rfl (hA.old 7 (by kernel_rfl))
              · intro aa ww hA K hK
                refine free rfl ?_
                have e46 : aa.tmps.getD 46 undef = .bool (fb) := hA.got 0 46 (by kernel_rfl)
                exact gives hK rfl (show aa.tmps.getD 46 undef = .bool z1 from by rw [e46, Hz1.out])
              · intro aa ww hA K hK
                refine guarded (s := sv (.slice (some ⟨b2, o2, none⟩) ns cs)) rfl rfl (hA.got 1 47 (by kernel_rfl)) hK fun hB hK => ?_
                exact gives hK rfl (hA.old 4 (by kernel_rfl))
              · intro aa ww hA K hK
                refine guarded (s := sv (.int .i64 ((j : Int)))) rfl rfl (hA.got 1 47 (by kernel_rfl)) hK fun hB hK => ?_
                exact gives hK rfl (hA.old 8 (by kernel_rfl))
              · intro aa ww hA K hK
                refine guarded (s := sv (.pointer (some ⟨b2, o2 + j * 2, none⟩))) rfl rfl (hA.got 1 47 (by kernel_rfl)) hK fun hB hK => ?_
                have e48 : aa.tmps.getD 48 undef = .slice (some ⟨b2, o2, none⟩) ns cs := (hA.got 2 48 (by kernel_rfl)).1 hB
                have e49 : aa.tmps.getD 49 undef = .int .i64 ((j : Int)) := (hA.got 3 49 (by kernel_rfl)).1 hB
                exact gives hK (v := .pointer (some ⟨b2, o2 + j * 2, none⟩)) (by simp [execOp, Act.eval, e48, e49, go_sem, hj2]) rfl
              · intro aa ww hA K hK
                refine guarded (s := sv (.pointer (some ⟨b2, o2 + j * 2, none⟩))) rfl rfl (hA.got 1 47 (by kernel_rfl)) hK fun hB hK => ?_
                have e50 : aa.tmps.getD 50 undef = .pointer (some ⟨b2, o2 + j * 2, none⟩) := (hA.got 4 50 (by kernel_rfl)).1 hB
                exact gives hK (v := .pointer (some ⟨b2, o2 + j * 2, none⟩)) (by simp [execOp, Act.eval, e50, go_sem]) rfl
              · intro aa ww hA K hK
                refine guarded (s := sv (.int .i64 (z.key))) rfl rfl (hA.got 1 47 (by kernel_rfl)) hK fun hB hK => ?_
                have e51 : aa.tmps.getD 51 undef = .pointer (some ⟨b2, o2 + j * 2, none⟩) := (hA.got 5 51 (by kernel_rfl)).1 hB
                have d2 := (hA.bel.cell (p := ⟨b2, o2 + j * 2, none⟩) HZk.out.1).trans HZk.out.2
                exact gives hK (v := .int .i64 z.key) (by simp [execOp, Act.eval, e51, d2, go_sem]) rfl
              · intro aa ww hA K hK
                refine guarded (s := sv (.slice (some ⟨bl, ol, none⟩) L.length c3)) rfl rfl (hA.got 1 47 (by kernel_rfl)) hK fun hB hK => ?_
                exact gives hK rfl (hA.old 5 (by kernel_rfl))
              · intro aa ww hA K hK
                refine guarded (s := sv (.int .i64 ((i : Int)))) rfl rfl (hA.got 1 47 (by kernel_rfl)) hK fun hB hK => ?_
                exact gives hK rfl (hA.old 6 (by kernel_rfl))
              · intro aa ww hA K hK
                refine guarded (s := sv (.pointer (some ⟨bl, ol + i, none⟩))) rfl rfl (hA.got 1 47 (by kernel_rfl)) hK fun hB hK => ?_
                have e53 : aa.tmps.getD 53 undef = .slice (some ⟨bl, ol, none⟩) L.length c3 := (hA.got 7 53 (by kernel_rfl)).1 hB
                have e54 : aa.tmps.getD 54 undef = .int .i64 ((i : Int)) := (hA.got 8 54 (by kernel_rfl)).1 hB
                exact gives hK (v := .pointer (some ⟨bl, ol + i, none⟩)) (by simp [execOp, Act.eval, e53, e54, go_sem, hil]) rfl
              · intro aa ww hA K hK
                refine guarded (s := sv (.int .i64 (x))) rfl rfl (hA.got 1 47 (by kernel_rfl)) hK fun hB hK => ?_
                have e55 : aa.tmps.getD 55 undef = .pointer (some ⟨bl, ol + i, none⟩) := (hA.got 9 55 (by kernel_rfl)).1 hB
                have d1 := (hA.bel.cell (p := ⟨bl, ol + i, none⟩) HZx.out.1).trans HZx.out.2
                exact gives hK (v := .int .i64 x) (by simp [execOp, Act.eval, e55, d1, go_sem]) rfl
              · intro aa ww hA K hK
                refine guarded (s := sv (.bool ((z.key : Int) == (x : Int)))) rfl rfl (hA.got 1 47 (by kernel_rfl)) hK fun hB hK => ?_
                have e52 : aa.tmps.getD 52 undef = .int .i64 (z.key) := (hA.got 6 52 (by kernel_rfl)).1 hB
                have e56 : aa.tmps.getD 56 undef = .int .i64 (x) := (hA.got 10 56 (by kernel_rfl)).1 hB
                exact gives hK (v := .bool ((z.key : Int) == (x : Int))) (by simp [execOp, Act.eval, e52, e56, binOp, eqGuard, go_sem]) rfl
              · intro aa ww hA K hK
                refine guarded (s := sv (.bool (z12))) rfl rfl (hA.got 1 47 (by kernel_rfl)) hK fun hB hK => ?_
                have e57 : aa.tmps.getD 57 undef = .bool ((z.key : Int) == (x : Int)) := (hA.got 11 57 (by kernel_rfl)).1 hB
                exact gives hK rfl (show aa.tmps.getD 57 undef = .bool z12 from by rw [e57, Hz12.out])
              · intro aa ww hA K hK
                refine guarded2 (s := sv (.slice (some ⟨b2, o2, none⟩) ns cs)) rfl rfl (hA.got 12 58 (by kernel_rfl)) hK fun hB hK => ?_
                exact gives hK rfl (hA.old 4 (by kernel_rfl))
              · intro aa ww hA K hK
                refine guarded2 (s := sv (.int .i64 ((j : Int)))) rfl rfl (hA.got 12 58 (by kernel_rfl)) hK fun hB hK => ?_
                exact gives hK rfl (hA.old 8 (by kernel_rfl))
              · intro aa ww hA K hK
                refine guarded2 (s := sv (.pointer (some ⟨b2, o2 + j * 2, none⟩))) rfl rfl (hA.got 12 58 (by kernel_rfl)) hK fun hB hK => ?_
                have e59 : aa.tmps.getD 59 undef = .slice (some ⟨b2, o2, none⟩) ns cs := (hA.got 13 59 (by kernel_rfl)).1 hB
                have e60 : aa.tmps.getD 60 undef = .int .i64 ((j : Int)) := (hA.got 14 60 (by kernel_rfl)).1 hB
                exact gives hK (v := .pointer (some ⟨b2, o2 + j * 2, none⟩)) (by simp [execOp, Act.eval, e59, e60, go_sem, hj2]) rfl
              · intro aa ww hA K hK
                refine guarded2 (s := sv (.agg #[.int .i64 z.key, .int .i64 z.tag])) rfl rfl (hA.got 12 58 (by kernel_rfl)) hK fun hB hK => ?_
                have e61 : aa.tmps.getD 61 undef = .pointer (some ⟨b2, o2 + j * 2, none⟩) := (hA.got 15 61 (by kernel_rfl)).1 hB
                have d2 := (hA.bel.cell (p := ⟨b2, o2 + j * 2, none⟩) HZk.out.1).trans HZk.out.2
                have d3 := (hA.bel.cell (p := ⟨b2, o2 + j * 2 + 1, none⟩) HZt.out.1).trans HZt.out.2
                exact gives hK (v := .agg #[.int .i64 z.key, .int .i64 z.tag]) (by simp [execOp, Act.eval, e61, d2, d3, go_sem]) rfl
              · intro aa ww hA K hK
                refine guarded2 (s := snums .i64 (m)) rfl rfl (hA.got 12 58 (by kernel_rfl)) hK fun hB hK => ?_
                exact gives hK rfl (old_sy (S := snums .i64 (m)) (hA.old 3 (by kernel_rfl)) HPm.out hA.bel)
              · intro aa ww hA K hK
                refine guarded2 (s := sv (.bool (isSig z m))) rfl rfl (hA.got 12 58 (by kernel_rfl)) hK fun hB hK => ?_
                have e62 : aa.tmps.getD 62 undef = .agg #[.int .i64 z.key, .int .i64 z.tag] := (hA.got 16 62 (by kernel_rfl)).1 hB
                obtain ⟨A63, c63, e63, hc63, h63⟩ := (hA.got 17 63 (by kernel_rfl)).1 hB
                refine calls hK (by simp [Act.eval, e62, e63, fSig, go_sem]) (iIsSigBy_any z A63 _ c63 m ww h63 HN.out hc63 HQz.out) ?_
                rintro e w1 ⟨rfl, hb⟩
                exact ⟨_, rfl, hb, rfl⟩
              · intro aa ww hA K hK
                refine guarded (s := sv (.bool ((z12) && (isSig z m)))) rfl rfl (hA.got 1 47 (by kernel_rfl)) hK fun hB hK => ?_
                have e58 : aa.tmps.getD 58 undef = .bool (z12) := (hA.got 12 58 (by kernel_rfl)).1 hB
                rcases hq : (z12) with _ | _
                · rw [hq] at e58
                  exact gives hK (v := .bool false) (by simp [execOp, Act.eval, e58, asBool, go_sem]) (show Value.bool _ = .bool _ by rw [hq]; simp)
                · have ex : aa.tmps.getD 64 undef = .bool (isSig z m) := (hA.got 18 64 (by kernel_rfl)).1 (and_i hB (by rw [hq]; rfl))
                  rw [hq] at e58
                  exact gives hK (v := .bool (isSig z m)) (by simp [execOp, Act.eval, e58, ex, asBool, go_sem]) (show Value.bool _ = .bool _ by rw [hq]; simp)
              · intro aa ww hA K hK
                refine free rfl ?_
                have e47 : aa.tmps.getD 47 undef = .bool (z1) := hA.got 1 47 (by kernel_rfl)
                rcases hq : (z1) with _ | _
                · have ex : aa.tmps.getD 65 undef = .bool ((z12) && (isSig z m)) := (hA.got 19 65 (by kernel_rfl)).1 (by rw [hq]; rfl)
                  rw [hq] at e47
                  exact gives hK (v := .bool ((z12) && (isSig z m))) (by simp [execOp, Act.eval, e47, ex, asBool, go_sem]) (show Value.bool _ = .bool _ by rw [hq]; simp)
                · rw [hq] at e47
                  exact gives hK (v := .bool true) (by simp [execOp, Act.eval, e47, asBool, go_sem]) (show Value.bool _ = .bool _ by rw [hq]; simp)
              · intro aa ww hA K hK
                refine free rfl ?_
                exact gives hK rfl (hA.got 20 66 (by kernel_rfl))
            · intro a1 w1 hb hd hsz hold hgot
              have g7 : a1.tmps.getD 7 undef = .bool ((z1) || ((z12) && (isSig z m))) := hgot 21 7 (by kernel_rfl)
              have ea := act_put hd hsz hold [46, 47, 48, 49, 50, 51, 52, 53, 54, 55, 56, 57, 58, 59, 60, 61, 62, 63, 64, 65, 66, 7] rfl
              simp only [List.foldl_cons, List.foldl_nil, g7] at ea
              rename_i K9 hK9
              refine hK9 a1 w1 ?_
              generalize a1.tmps.getD 46 undef = v46 at ea
              generalize a1.tmps.getD 47 undef = v47 at ea
              generalize a1.tmps.getD 48 undef = v48 at ea
              generalize a1.tmps.getD 49 undef = v49 at ea
              generalize a1.tmps.getD 50 undef = v50 at ea
              generalize a1.tmps.getD 51 undef = v51 at ea
              generalize a1.tmps.getD 52 undef = v52 at ea
              generalize a1.tmps.getD 53 undef = v53 at ea
              generalize a1.tmps.getD 54 undef = v54 at ea
              generalize a1.tmps.getD 55 undef = v55 at ea
              generalize a1.tmps.getD 56 undef = v56 at ea
              generalize a1.tmps.getD 57 undef = v57 at ea
              generalize a1.tmps.getD 58 undef = v58 at ea
              generalize a1.tmps.getD 59 undef = v59 at ea
              generalize a1.tmps.getD 60 undef = v60 at ea
              generalize a1.tmps.getD 61 undef = v61 at ea
              generalize a1.tmps.getD 62 undef = v62 at ea
              generalize a1.tmps.getD 63 undef = v63 at ea
              generalize a1.tmps.getD 64 undef = v64 at ea
              generalize a1.tmps.getD 65 undef = v65 at ea
              generalize a1.tmps.getD 66 undef = v66 at ea
              clear hgot hold hsz hd g7
              simp only [Act.put, List.setIfInBounds_toArray, List.set_cons_succ, List.set_cons_zero] at ea
              subst ea
              have HW9 := Lib.hid (HQ.out.trans ((R06.below_drew hb).mono HQ.out.size))
              clear hb
              go_wp2
              go_roundw
              case rel => exact ⟨j + 1, by omega, by rw [HST.out, Hz12.out, Hz1.out], by go_num, HW9.out⟩
              case measure => simp [intOf]; omega
          · obtain rfl : j = ns := by omega
            have hall : anyS (sg.take j) x m = true := by rw [List.take_of_length_le (by rw [HSL.out]; omega)]; exact HAN.out
            rw [hall]
            go_wp2
            go_roundw
            case rel => exact ⟨i + 1, by omega, by go_num, HW.out⟩
            case measure => simp [intOf]; omega
      · have hcp := hcl (i - 1) (by omega)
        have hlt := HASC.out i h0 hin
        have hi1 : ((i : Int) - 1).toNat = i - 1 := by omega
        have hi2 : (0 : Int) < (i : Int) := by omega
        have hi3 : (0 : Int) ≤ (i : Int) - 1 := by omega
        have hi4 : (i : Int) - 1 < L.length := by omega
        have hcid : wr.drew.cell? ⟨bl, ol + i, none⟩ = some (.int .i64 (L.getD i 0)) := hci
        have hcpd : wr.drew.cell? ⟨bl, ol + (i - 1), none⟩ = some (.int .i64 (L.getD (i - 1) 0)) := hcp
        generalize L.getD i 0 = x at hcid hlt hxi HAN
        generalize L.getD (i - 1) 0 = xp at hcpd hlt
        have hle : ¬ x ≤ xp := by omega
        have hci : wr.cell? ⟨bl, ol + i, none⟩ = some (.int .i64 x) := hcid
        clear hcl hcp
        go_wp2_with fail
        go_region
        go_wp2
        obtain ⟨wo, rfl⟩ : ∃ wo, wo = wr := ⟨_, rfl⟩
        have HCI := Lib.hid hci
        clear hci
        go_loopw [7, 8] (fun fv jv wr => ∃ j : Nat, j ≤ ns ∧ fv = .bool (anyS (sg.take j) x m) ∧ jv = .int .i64 j ∧ Below wo.heap.size wo wr) (fun _ jv _ => ns - (intOf jv).toNat)
        case atStart => exact ⟨0, by omega, rfl, rfl, (Below.refl _ _).drew⟩
        case round =>
          obtain ⟨j, hj, rfl, rfl, hbq⟩ := hrel
          have HQ := Lib.hid hbq
          have HW := Lib.hid (HR1.out.trans (hbq.mono HR1.out.size))
          clear hbq
          by_cases hjn : j < ns
          · obtain ⟨b2, o2, rfl, hlt2, hc2⟩ := (HG.out.below HW.out (Nat.le_refl _)).cell_at hjn
            have hqz := (HG.out.below HW.out (Nat.le_refl _)).getQ hjn
            have hst := any_step (x := x) (m := m) (sg := sg) (j := j) (by rw [HSL.out]; exact hjn)
            obtain ⟨z, hz⟩ : ∃ z, z = sg.getD j default := ⟨_, rfl⟩
            rw [← hz] at hc2 hqz hst
            have HQz := Lib.hid hqz
            have HST := Lib.hid hst
            generalize anyS (sg.take j) x m = fb at HST
            have HZx := Lib.hid (show bl < wr.drew.heap.size ∧ wr.drew.cell? ⟨bl, ol + i, none⟩ = some (.int .i64 x) from ⟨Nat.lt_of_lt_of_le HLT.out HW.out.size, (HQ.out.cell (p := ⟨bl, ol + i, none⟩) (Nat.lt_of_lt_of_le HLT.out HR1.out.size)).trans HCI.out⟩)
            have HZk := Lib.hid (show b2 < wr.drew.heap.size ∧ wr.drew.cell? ⟨b2, o2 + j * 2, none⟩ = some (.int .i64 z.key) from ⟨Nat.lt_of_lt_of_le hlt2 HW.out.size, hc2 0 (by decide)⟩)
            have HZt := Lib.hid (show b2 < wr.drew.heap.size ∧ wr.drew.cell? ⟨b2, o2 + j * 2 + 1, none⟩ = some (.int .i64 z.tag) from ⟨Nat.lt_of_lt_of_le hlt2 HW.out.size, hc2 1 (by decide)⟩)
            have HPm := Lib.hid (sy_drew (S := snums .i64 m) (w := wr) (v := .slice Am nm cm) (snums_rd ((HM.out.below HW.out (Nat.le_refl _)).more HW.out.size) HCm.out))
            have hj2 : (j : Int) < ns := by omega
            clear hc2 hqz hz hlt2 hst
            go_wp2
            obtain ⟨z1, hz1⟩ : ∃ zz : Bool, zz = (fb) := ⟨_, rfl⟩
            have Hz1 := Lib.hid hz1
            clear hz1
            obtain ⟨z12, hz12⟩ : ∃ zz : Bool, zz = ((z.key : Int) == (x : Int)) := ⟨_, rfl⟩
            have Hz12 := Lib.hid hz12
            clear hz12
            refine RG.region (tabP [sv (.bool (fb)), sv (.bool (z1)), swhen (z1 == false) (sv (.slice (some ⟨b2, o2, none⟩) ns cs)), swhen (z1 == false) (sv (.int .i64 ((j : Int)))), swhen (z1 == false) (sv (.pointer (some ⟨b2, o2 + j * 2, none⟩))), swhen (z1 == false) (sv (.pointer (some ⟨b2, o2 + j * 2, none⟩))), swhen (z1 == false) (sv (.int .i64 (z.key))), swhen (z1 == false) (sv (.slice (some ⟨bl, ol, none⟩) L.length c3)), swhen (z1 == false) (sv (.int .i64 ((i : Int)))), swhen (z1 == false) (sv (.pointer (some ⟨bl, ol + i, none⟩))), swhen (z1 == false) (sv (.int .i64 (x))), swhen (z1 == false) (sv (.bool ((z.key : Int) == (x : Int)))), swhen (z1 == false) (sv (.bool (z12))), swhen ((z1 == false) && (z12 == true)) (sv (.slice (some ⟨b2, o2, none⟩) ns cs)), swhen ((z1 == false) && (z12 == true)) (sv (.int .i64 ((j : Int)))), swhen ((z1 == false) && (z12 == true)) (sv (.pointer (some ⟨b2, o2 + j * 2, none⟩))), swhen ((z1 == false) && (z12 == true)) (sv (.agg #[.int .i64 z.key, .int .i64 z.tag])), swhen ((z1 == false) && (z12 == true)) (snums .i64 (m)), swhen ((z1 == false) && (z12 == true)) (sv (.bool (isSig z m))), swhen (z1 == false) (sv (.bool ((z12) && (isSig z m)))), sv (.bool ((z1) || ((z12) && (isSig z m)))), sv (.bool ((z1) || ((z12) && (isSig z m))))]) (by kernel_rfl) (by kernel_rfl) (tab_keep _) ?_ ?_
            · refine steps_cons ?_ (steps_cons ?_ (steps_cons ?_ (steps_cons ?_ (steps_cons ?_ (steps_cons ?_ (steps_cons ?_ (steps_cons ?_ (steps_cons ?_ (steps_cons ?_ (steps_cons ?_ (steps_cons ?_ (steps_cons ?_ (steps_cons ?_ (steps_cons ?_ (steps_cons ?_ (steps_cons ?_ (steps_cons ?_ (steps_cons ?_ (steps_cons ?_ (steps_cons ?_ (steps_cons ?_ (steps_nil))))))))))))))))))))))
              · intro aa ww hA K hK
                refine free rfl ?_
                exact gives hK rfl (hA.old 7 (by kernel_rfl))
              · intro aa ww hA K hK
                refine free rfl ?_
                have e46 : aa.tmps.getD 46 undef = .bool (fb) := hA.got 0 46 (by kernel_rfl)
                exact gives hK rfl (show aa.tmps.getD 46 undef = .bool z1 from by rw [e46, Hz1.out])
              · intro aa ww hA K hK
                refine guarded (s := sv (.slice (some ⟨b2, o2, none⟩) ns cs)) rfl rfl (hA.got 1 47 (by kernel_rfl)) hK fun hB hK => ?_
                exact gives hK rfl (hA.old 4 (by kernel_rfl))
              · intro aa ww hA K hK
                refine guarded (s := sv (.int .i64 ((j : Int)))) rfl rfl (hA.got 1 47 (by kernel_rfl)) hK fun hB hK => ?_
                exact gives hK rfl (hA.old 8 (by kernel_rfl))
              · intro aa ww hA K hK
                refine guarded (s := sv (.pointer (some ⟨b2, o2 + j * 2, none⟩))) rfl rfl (hA.got 1 47 (by kernel_rfl)) hK fun hB hK => ?_
                have e48 : aa.tmps.getD 48 undef = .slice (some ⟨b2, o2, none⟩) ns cs := (hA.got 2 48 (by kernel_rfl)).1 hB
                have e49 : aa.tmps.getD 49 undef = .int .i64 ((j : Int)) := (hA.got 3 49 (by kernel_rfl)).1 hB
                exact gives hK (v := .pointer (some ⟨b2, o2 + j * 2, none⟩)) (by simp [execOp, Act.eval, e48, e49, go_sem, hj2]) rfl
              · intro aa ww hA K hK
                refine guarded (s := sv (.pointer (some ⟨b2, o2 + j * 2, none⟩))) rfl rfl (hA.got 1 47 (by kernel_rfl)) hK fun hB hK => ?_
                have e50 : aa.tmps.getD 50 undef = .pointer (some ⟨b2, o2 + j * 2, none⟩) := (hA.got 4 50 (by kernel_rfl)).1 hB
                exact gives hK (v := .pointer (some ⟨b2, o2 + j * 2, none⟩)) (by simp [execOp, Act.eval, e50, go_sem]) rfl
              · intro aa ww hA K hK
                refine guarded (s := sv (.int .i64 (z.key))) rfl rfl (hA.got 1 47 (by kernel_rfl)) hK fun hB hK => ?_
                have e51 : aa.tmps.getD 51 undef = .pointer (some ⟨b2, o2 + j * 2, none⟩) := (hA.got 5 51 (by kernel_rfl)).1 hB
                have d2 := (hA.bel.cell (p := ⟨b2, o2 + j * 2, none⟩) HZk.out.1).trans HZk.out.2
                exact gives hK (v := .int .i64 z.key) (by simp [execOp, Act.eval, e51, d2, go_sem]) rfl
              · intro aa ww hA K hK
                refine guarded (s := sv (.slice (some ⟨bl, ol, none⟩) L.length c3)) rfl rfl (hA.got 1 47 (by kernel_rfl)) hK fun hB hK => ?_
                exact gives hK rfl (hA.old 5 (by kernel_rfl))
              · intro aa ww hA K hK
                refine guarded (s := sv (.int .i64 ((i : Int)))) rfl rfl (hA.got 1 47 (by kernel_rfl)) hK fun hB hK => ?_
                exact gives hK rfl (hA.old 6 (by kernel_rfl))
              · intro aa ww hA K hK
                refine guarded (s := sv (.pointer (some ⟨bl, ol + i, none⟩))) rfl rfl (hA.got 1 47 (by kernel_rfl)) hK fun hB hK => ?_
                have e53 : aa.tmps.getD 53 undef = .slice (some ⟨bl, ol, none⟩) L.length c3 := (hA.got 7 53 (by kernel_rfl)).1 hB
                have e54 : aa.tmps.getD 54 undef = .int .i64 ((i : Int)) := (hA.got 8 54 (by kernel_rfl)).1 hB
                exact gives hK (v := .pointer (some ⟨bl, ol + i, none⟩)) (by simp [execOp, Act.eval, e53, e54, go_sem, hil]) rfl
              · intro aa ww hA K hK
                refine guarded (s := sv (.int .i64 (x))) rfl rfl (hA.got 1 47 (by kernel_rfl)) hK fun hB hK => ?_
                have e55 : aa.tmps.getD 55 undef = .pointer (some ⟨bl, ol + i, none⟩) := (hA.got 9 55 (by kernel_rfl)).1 hB
                have d1 := (hA.bel.cell (p := ⟨bl, ol + i, none⟩) HZx.out.1).trans HZx.out.2
                exact gives hK (v := .int .i64 x) (by simp [execOp, Act.eval, e55, d1, go_sem]) rfl
              · intro aa ww hA K hK
                refine guarded (s := sv (.bool ((z.key : Int) == (x : Int)))) rfl rfl (hA.got 1 47 (by kernel_rfl)) hK fun hB hK => ?_
                have e52 : aa.tmps.getD 52 undef = .int .i64 (z.key) := (hA.got 6 52 (by kernel_rfl)).1 hB
                have e56 : aa.tmps.getD 56 undef = .int .i64 (x) := (hA.got 10 56 (by kernel_rfl)).1 hB
                exact gives hK (v := .bool ((z.key : Int) == (x : Int))) (by simp [execOp, Act.eval, e52, e56, binOp, eqGuard, go_sem]) rfl
              · intro aa ww hA K hK
                refine guarded (s := sv (.bool (z12))) rfl rfl (hA.got 1 47 (by kernel_rfl)) hK fun hB hK => ?_
                have e57 : aa.tmps.getD 57 undef = .bool ((z.key : Int) == (x : Int)) := (hA.got 11 57 (by kernel_rfl)).1 hB
                exact gives hK rfl (show aa.tmps.getD 57 undef = .bool z12 from by rw [e57, Hz12.out])
              · intro aa ww hA K hK
                refine guarded2 (s := sv (.slice (some ⟨b2, o2, none⟩) ns cs)) rfl rfl (hA.got 12 58 (by kernel_rfl)) hK fun hB hK => ?_
                exact gives hK rfl (hA.old 4 (by kernel_rfl))
              · intro aa ww hA K hK
                refine guarded2 (s := sv (.int .i64 ((j : Int)))) rfl rfl (hA.got 12 58 (by kernel_rfl)) hK fun hB hK => ?_
                exact gives hK rfl (hA.old 8 (by kernel_rfl))
              · intro aa ww hA K hK
                refine guarded2 (s := sv (.pointer (some ⟨b2, o2 + j * 2, none⟩))) rfl rfl (hA.got 12 58 (by kernel_rfl)) hK fun hB hK => ?_
                have e59 : aa.tmps.getD 59 undef = .slice (some ⟨b2, o2, none⟩) ns cs := (hA.got 13 59 (by kernel_rfl)).1 hB
                have e60 : aa.tmps.getD 60 undef = .int .i64 ((j : Int)) := (hA.got 14 60 (by kernel_rfl)).1 hB
                exact gives hK (v := .pointer (some ⟨b2, o2 + j * 2, none⟩)) (by simp [execOp, Act.eval, e59, e60, go_sem, hj2]) rfl
              · intro aa ww hA K hK
                refine guarded2 (s := sv (.agg #[.int .i64 z.key, .int .i64 z.tag])) rfl rfl (hA.got 12 58 (by kernel_rfl)) hK fun hB hK => ?_
                have e61 : aa.tmps.getD 61 undef = .pointer (some ⟨b2, o2 + j * 2, none⟩) := (hA.got 15 61 (by kernel_rfl)).1 hB
                have d2 := (hA.bel.cell (p := ⟨b2, o2 + j * 2, none⟩) HZk.out.1).trans HZk.out.2
                have d3 := (hA.bel.cell (p := ⟨b2, o2 + j * 2 + 1, none⟩) HZt.out.1).trans HZt.out.2
                exact gives hK (v := .agg #[.int .i64 z.key, .int .i64 z.tag]) (by simp [execOp, Act.eval, e61, d2, d3, go_sem]) rfl
              · intro aa ww hA K hK
                refine guarded2 (s := snums .i64 (m)) rfl rfl (hA.got 12 58 (by kernel_rfl)) hK fun hB hK => ?_
                exact gives hK rfl (old_sy (S := snums .i64 (m)) (hA.old 3 (by kernel_rfl)) HPm.out hA.bel)
              · intro aa ww hA K hK
                refine guarded2 (s := sv (.bool (isSig z m))) rfl rfl (hA.got 12 58 (by kernel_rfl)) hK fun hB hK => ?_
                have e62 : aa.tmps.getD 62 undef = .agg #[.int .i64 z.key, .int .i64 z.tag] := (hA.got 16 62 (by kernel_rfl)).1 hB
                obtain ⟨A63, c63, e63, hc63, h63⟩ := (hA.got 17 63 (by kernel_rfl)).1 hB
                refine calls hK (by simp [Act.eval, e62, e63, fSig, go_sem]) (iIsSigBy_any z A63 _ c63 m ww h63 HN.out hc63 HQz.out) ?_
                rintro e w1 ⟨rfl, hb⟩
                exact ⟨_, rfl, hb, rfl⟩
              · intro aa ww hA K hK
                refine guarded (s := sv (.bool ((z12) && (isSig z m)))) rfl rfl (hA.got 1 47 (by kernel_rfl)) hK fun hB hK => ?_
                have e58 : aa.tmps.getD 58 undef = .bool (z12) := (hA.got 12 58 (by kernel_rfl)).1 hB
                rcases hq : (z12) with _ | _
                · rw [hq] at e58
                  exact gives hK (v := .bool false) (by simp [execOp, Act.eval, e58, asBool, go_sem]) (show Value.bool _ = .bool _ by rw [hq]; simp)
                · have ex : aa.tmps.getD 64 undef = .bool (isSig z m) := (hA.got 18 64 (by kernel_rfl)).1 (and_i hB (by rw [hq]; rfl))
                  rw [hq] at e58
                  exact gives hK (v := .bool (isSig z m)) (by simp [execOp, Act.eval, e58, ex, asBool, go_sem]) (show Value.bool _ = .bool _ by rw [hq]; simp)
              · intro aa ww hA K hK
                refine free rfl ?_
                have e47 : aa.tmps.getD 47 undef = .bool (z1) := hA.got 1 47 (by kernel_rfl)
                rcases hq : (z1) with _ | _
                · have ex : aa.tmps.getD 65 undef = .bool ((z12) && (isSig z m)) := (hA.got 19 65 (by kernel_rfl)).1 (by rw [hq]; rfl)
                  rw [hq] at e47
                  exact gives hK (v := .bool ((z12) && (isSig z m))) (by simp [execOp, Act.eval, e47, ex, asBool, go_sem]) (show Value.bool _ = .bool _ by rw [hq]; simp)
                · rw [hq] at e47
                  exact gives hK (v := .bool true) (by simp [execOp, Act.eval, e47, asBool, go_sem]) (show Value.bool _ = .bool _ by rw [hq]; simp)
              · intro aa ww hA K hK
                refine free rfl ?_
                exact gives hK rfl (hA.got 20 66 (by kernel_rfl))
            · intro a1 w1 hb hd hsz hold hgot
              have g7 : a1.tmps.getD 7 undef = .bool ((z1) || ((z12) && (isSig z m))) := hgot 21 7 (by kernel_rfl)
              have ea := act_put hd hsz hold [46, 47, 48, 49, 50, 51, 52, 53, 54, 55, 56, 57, 58, 59, 60, 61, 62, 63, 64, 65, 66, 7] rfl
              simp only [List.foldl_cons, List.foldl_nil, g7] at ea
              rename_i K9 hK9
              refine hK9 a1 w1 ?_
              generalize a1.tmps.getD 46 undef = v46 at ea
              generalize a1.tmps.getD 47 undef = v47 at ea
              generalize a1.tmps.getD 48 undef = v48 at ea
              generalize a1.tmps.getD 49 undef = v49 at ea
              generalize a1.tmps.getD 50 undef = v50 at ea
              generalize a1.tmps.getD 51 undef = v51 at ea
              generalize a1.tmps.getD 52 undef = v52 at ea
              generalize a1.tmps.getD 53 undef = v53 at ea
              generalize a1.tmps.getD 54 undef = v54 at ea
              generalize a1.tmps.getD 55 undef = v55 at ea
              generalize a1.tmps.getD 56 undef = v56 at ea
              generalize a1.tmps.getD 57 undef = v57 at ea
              generalize a1.tmps.getD 58 undef = v58 at ea
              generalize a1.tmps.getD 59 undef = v59 at ea
              generalize a1.tmps.getD 60 undef = v60 at ea
              generalize a1.tmps.getD 61 undef = v61 at ea
              generalize a1.tmps.getD 62 undef = v62 at ea
              generalize a1.tmps.getD 63 undef = v63 at ea
              generalize a1.tmps.getD 64 undef = v64 at ea
              generalize a1.tmps.getD 65 undef = v65 at ea
              generalize a1.tmps.getD 66 undef = v66 at ea
              clear hgot hold hsz hd g7
              simp only [Act.put, List.setIfInBounds_toArray, List.set_cons_succ, List.set_cons_zero] at ea
              subst ea
              have HW9 := Lib.hid (HQ.out.trans ((R06.below_drew hb).mono HQ.out.size))
              clear hb
              go_wp2
              go_roundw
              case rel => exact ⟨j + 1, by omega, by rw [HST.out, Hz12.out, Hz1.out], by go_num, HW9.out⟩
              case measure => simp [intOf]; omega
          · obtain rfl : j = ns := by omega
            have hall : anyS (sg.take j) x m = true := by rw [List.take_of_length_le (by rw [HSL.out]; omega)]; exact HAN.out
            rw [hall]
            go_wp2
            go_roundw
            case rel => exact ⟨i + 1, by omega, by go_num, HW.out⟩
            case measure => simp [intOf]; omega
    · obtain rfl : i = L.length := by omega
      obtain ⟨wo, rfl⟩ : ∃ wo, wo = wr := ⟨_, rfl⟩
      clear hin hi
      go_wp2
      go_loopw [9] (fun jv wr => ∃ j : Nat, j ≤ ns ∧ jv = .int .i64 j ∧ Below wo.heap.size wo wr) (fun jv _ => ns - (intOf jv).toNat)
      case atStart => exact ⟨0, by omega, rfl, Below.refl _ _⟩
      case round =>
        obtain ⟨j, hj, rfl, hbq⟩ := hrel
        have HQ := Lib.hid hbq
        have HW := Lib.hid (HR1.out.trans (hbq.mono HR1.out.size))
        clear hbq
        by_cases hjn : j < ns
        · obtain ⟨b2, o2, rfl, hlt2, hc2⟩ := (HG.out.below HW.out (Nat.le_refl _)).cell_at hjn
          have hqz := (HG.out.below HW.out (Nat.le_refl _)).getQ hjn
          have hhas := HHAS.out j (by rw [HSL.out]; exact hjn)
          obtain ⟨z, hz⟩ : ∃ z, z = sg.getD j default := ⟨_, rfl⟩
          rw [← hz] at hc2 hqz hhas
          have d0 : wr.cell? ⟨b2, o2 + j * 2, none⟩ = some (.int .i64 z.key) := hc2 0 (by decide)
          have d1 : wr.cell? ⟨b2, o2 + j * 2 + 1, none⟩ = some (.int .i64 z.tag) := hc2 1 (by decide)
          have hK := iIsSigBy_any z Am nm cm m wr ((HM.out.below HW.out (Nat.le_refl _)).more HW.out.size) (by omega) HCm.out hqz
          clear hc2 hqz hz
          simp only [fSig] at hK
          rcases his : isSig z m with _ | _
          · rw [his] at hK
            have HK := Lib.hid hK
            clear hK his hhas hlt2
            go_wp2_with fail
            refine HK.out.mono ?_
            rintro e w2 ⟨rfl, hb2⟩
            have HB2 := Lib.hid (HQ.out.trans (hb2.mono HQ.out.size))
            clear hb2 d0 d1
            go_wp2
            go_roundw
            case rel => exact ⟨j + 1, by omega, by go_num, HB2.out⟩
            case measure => simp [intOf]; omega
          · have hh := hhas his
            rw [his] at hK
            have HK := Lib.hid hK
            have HH := Lib.hid hh
            clear hK his hhas hh
            go_wp2_with fail
            refine HK.out.mono ?_
            rintro e w2 ⟨rfl, hb2⟩
            have HB2 := Lib.hid (HQ.out.trans (hb2.mono HQ.out.size))
            have e0 : w2.cell? ⟨b2, o2 + j * 2, none⟩ = some (.int .i64 z.key) := (hb2.cell (p := ⟨b2, o2 + j * 2, none⟩) (Nat.lt_of_lt_of_le hlt2 HW.out.size)).trans d0
            have HLw := Lib.hid ((HLo.out.below (HW.out.trans (hb2.mono HW.out.size)) (Nat.le_refl _)))
            clear hb2 d0 d1 hlt2
            go_wp2_with fail
            refine (hasInt_any _ A3 L.length c3 L z.key w2 HLw.out (by omega)).mono ?_
            rw [HH.out]
            rintro e w3 ⟨rfl, rfl⟩
            go_wp2
            go_roundw
            case rel => exact ⟨j + 1, by omega, by go_num, HB2.out⟩
            case measure => simp [intOf]; omega
        · go_wp2_with fail
          refine (HKS.out wr ((HM.out.below HW.out (Nat.le_refl _)).more HW.out.size) ((HG.out.below HW.out (Nat.le_refl _)).more HW.out.size)).mono ?_
          rintro e w4 ⟨A5, c5, rfl, hol5, hb5⟩
          have HL5 := Lib.hid hol5.rd
          have HL6 := Lib.hid (HLo.out.below (HW.out.trans (hb5.mono HW.out.size)) (Nat.le_refl _))
          have HW5 := Lib.hid (HB.out.trans ((HW.out.trans (hb5.mono HW.out.size)).mono HB.out.size))
          clear hol5 hb5
          go_wp2_with fail
          refine (sameInts_b A3 A5 c3 c5 HL6.out HL5.out (by omega)).mono ?_
          rintro e w5 ⟨rfl, hb6⟩
          have HW6 := Lib.hid (HW5.out.trans (hb6.mono HW5.out.size))
          clear hb6
          go_wp2
          go_ret
          exact ⟨rfl, HW6.out⟩
end Go.Proofs.Ythhibhnclbnhlaa.W07G
