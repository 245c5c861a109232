/- Chapter 9: contents of zones (PutEntry), what the model's functions return. -/
import Derived.Test.YtpjfmbcandgpeaaC08S
import Derived.Test.YtpjfmbcandgpeaaC04I
import Derived.Test.YtpjfmbcandgpeaaM09
import Derived.Test.YtpjfmbcandgpeaaRGS
import Derived.Deep.RegionWith
import Derived.Deep.RegionLaw
import Derived.BigQuiet
import Derived.Deep.QuietTactic
import Derived.Test.YtpjfmbcandgpeaaC09S
namespace Go.Proofs.Ytpjfmbcandgpeaa.C09SP
open Go.RowKit C09S Mem MemS M02 M04 M05 M08 M09 C01 C02 C04S C04I C08S Rep RepA RW R08 Q08 RG RGS
set_option linter.unusedVariables false
set_option maxRecDepth 100000
set_option maxHeartbeats 8000000 in
theorem sPutEntry_any (A : Option Addr) (n c : Nat) (l : List Entry) (cs : List Value) (x : Entry) (w : World) (h : FRdEntry w w.heap.size A n l) (h' : REntry.rd w (Lt w.heap.size) cs x) (hn : totR totEntry l ≤ 8589934592) (he : totEntry x ≤ 8589934592) :
    Calls Try.prog 14 #[.slice A n c, .agg cs.toArray] w fun e w' => ∃ A' c', e = .returned (.tuple #[.slice A' (putE l x).1.length c', .bool (putE l x).2]) ∧ FOwnEntry w' w.heap.size w'.heap.size A' (putE l x).1.length c' (putE l x).1 ∧ Below w.heap.size w w' := by
  obtain ⟨Ae, ne, ce, rfl, -⟩ := REntry_rd.1 h'
  obtain ⟨el, ek, ev, ep⟩ := x
  simp only at h' he ⊢
  have HL := Lib.hid h.len
  have HTL := Lib.hid hn
  have hn2 : n ≤ 8589934592 := by have := totR_len totEntry l; have := h.len; omega
  obtain ⟨V, hV⟩ : ∃ V, V = (w.alloc (.cells #[.string el, .int .i64 ek, .int .i64 ev, .slice Ae ne ce] 27)).alloc (.cells #[] 27) := ⟨_, rfl⟩
  have hX : Box V w.heap.size [.string el, .int .i64 ek, .int .i64 ev, .slice Ae ne ce] := by rw [hV]; exact (Box.new w #[.string el, .int .i64 ek, .int .i64 ev, .slice Ae ne ce] 27).alloc _
  have HB0 := Lib.hid (show Below w.heap.size w V by rw [hV]; exact ((Below.refl w.heap.size w).alloc (Nat.le_refl _) _).alloc (by simp) _)
  have HO0 := Lib.hid (show FOwnEntry V (w.heap.size + 1) V.heap.size (some ⟨w.heap.size + 1, 0, none⟩) 0 0 [] by
    have h := Owns.lit0 (lo := w.heap.size + 1) REntry (w.alloc (.cells #[.string el, .int .i64 ek, .int .i64 ev, .slice Ae ne ce] 27)) (by simp)
    rw [hV]
    rw [show REntry.ty = 27 from rfl] at h
    simpa using h)
  have HV1 := Lib.hid (show w.heap.size + 1 ≤ V.heap.size by rw [hV]; simp)
  have HV0 := Lib.hid (show w.heap.size ≤ V.heap.size by rw [hV]; simp; omega)
  have Xe0 := Lib.hid (hX.cell (j := 0) rfl)
  have Xe1 := Lib.hid (hX.cell (j := 1) rfl)
  have Xe2 := Lib.hid (hX.cell (j := 2) rfl)
  have Xe3 := Lib.hid (hX.cell (j := 3) rfl)
  have HH := Lib.hid (h.below HB0.out (Nat.le_refl _))
  have HRe := Lib.hid (show REntry.rd V (Lt w.heap.size) [.string el, .int .i64 ek, .int .i64 ev, .slice Ae ne ce] ⟨el, ek, ev, ep⟩ from REntry.keep h' fun i hi => HB0.out.block i hi)
  have HTe := Lib.hid (show totEntry ⟨el, ek, ev, ep⟩ ≤ 1099511627776 by omega)
  have HST := Lib.hid (fun j (hj : j < n) => putSt_step (e := ⟨el, ek, ev, ep⟩) (l := l) (j := j) (by rw [HL.out]; exact hj))
  have HLE := Lib.hid (fun j => putSt_len ⟨el, ek, ev, ep⟩ (l.take j))
  have HTA := Lib.hid (show totR totEntry (putAll ⟨el, ek, ev, ep⟩ l) ≤ 1099511627776 by have := putAll_tot ⟨el, ek, ev, ep⟩ l; omega)
  have HLA := Lib.hid (putAll_len ⟨el, ek, ev, ep⟩ l)
  have HAR := Lib.hid (fun w1 (hr : FRdEntry w1 w1.heap.size A n l) => sAreEntries_any A n c l w1 hr (by have := HTL.out; omega))
  have HCP := Lib.hid (fun w1 (hr : FRdEntry w1 w1.heap.size A n l) => l9Copy_any A n c l w1 hr (by have := HTL.out; omega))
  have HUP := Lib.hid (show ∀ w1, Below (w.heap.size + 1) V w1 → FRdEntry w1 w1.heap.size A n l from fun w1 hb => (HH.out.below hb (Nat.le_succ _)).more (Nat.le_trans HV0.out hb.size))
  have HVV := Lib.hid hV
  clear h h' hn he hX hV
  go_enter Try.func14, Try.ntmps14
  go_wp2
  rw [← HVV.out]
  go_loopw [6, 7, 8] (fun o d i wr => ∃ (j : Nat) (A1 : Option Addr) (c1 : Nat), j ≤ n ∧ o = .slice A1 (putSt ⟨el, ek, ev, ep⟩ (l.take j)).1.length c1 ∧ d = .bool (putSt ⟨el, ek, ev, ep⟩ (l.take j)).2 ∧ i = .int .i64 j ∧ FOwnEntry wr (w.heap.size + 1) wr.heap.size A1 (putSt ⟨el, ek, ev, ep⟩ (l.take j)).1.length c1 (putSt ⟨el, ek, ev, ep⟩ (l.take j)).1 ∧ Below (w.heap.size + 1) V wr) (fun _ _ i _ => n - (intOf i).toNat)
  case atStart => exact ⟨0, _, 0, by omega, rfl, rfl, rfl, HO0.out, Below.refl _ _⟩
  case round =>
    obtain ⟨j, A1, c1, hj, rfl, rfl, rfl, hown, hbel⟩ := hrel
    have HR := Lib.hid hbel
    have HO1 := Lib.hid hown
    clear hbel hown
    have hle := HLE.out j
    rw [List.length_take] at hle
    by_cases hjn : j < n
    · have hst := HST.out j hjn
      obtain ⟨b, off, cs, rfl, hlt, hrd, hcc⟩ := HH.out.at hjn
      obtain ⟨z, hz⟩ : ∃ z, z = at0 l j := ⟨_, rfl⟩
      rw [show l.getD j default = z from hz.symm] at hrd
      rw [← hz] at hst
      have htz : totEntry z ≤ totR totEntry l := by rw [hz]; exact totR_mem totEntry (by rw [HL.out]; exact hjn)
      have htz2 : totEntry z ≤ 1099511627776 := by have := HTL.out; omega
      obtain ⟨A3, n3, c3, rfl, -⟩ := REntry_rd.1 hrd
      have dz0 : V.cell? ⟨b, off + j * 4, none⟩ = some (.string z.label) := hcc 0 (by decide)
      have dz1 : V.cell? ⟨b, off + j * 4 + 1, none⟩ = some (.int .i64 z.kind) := hcc 1 (by decide)
      have dz2 : V.cell? ⟨b, off + j * 4 + 2, none⟩ = some (.int .i64 z.value) := hcc 2 (by decide)
      have dz3 : V.cell? ⟨b, off + j * 4 + 3, none⟩ = some (.slice A3 n3 c3) := hcc 3 (by decide)
      clear hcc hz htz
      obtain ⟨z0, z1, z2, z3⟩ := z
      simp only at dz0 dz1 dz2 dz3 hrd
      have Xz0 := Lib.hid dz0
      have Xz1 := Lib.hid dz1
      have Xz2 := Lib.hid dz2
      have Xz3 := Lib.hid dz3
      have HRz := Lib.hid hrd
      have HTz := Lib.hid htz2
      have HLT := Lib.hid hlt
      clear dz0 dz1 dz2 dz3 hrd htz2 hlt
      have hcv := cmpS_range z0 el
      have hK := fun w1 => sCompareLabels_any z0 el w1
      have hsp := fun o d => show putStep ⟨el, ek, ev, ep⟩ (o, d) ⟨z0, z1, z2, z3⟩ = ((o ++ (if decide (0 ≤ cmpS z0 el) && !d then [⟨el, ek, ev, ep⟩] else [])) ++ (if cmpS z0 el = 0 then [] else [⟨z0, z1, z2, z3⟩]), d || decide (0 ≤ cmpS z0 el)) from rfl
      generalize cmpS z0 el = cv at hcv hK hsp
      obtain ⟨⟨o, d⟩, hod⟩ : ∃ p, p = putSt ⟨el, ek, ev, ep⟩ (l.take j) := ⟨_, rfl⟩
      rw [← hod] at hst hle HO1 ⊢
      rw [hsp] at hst
      simp only at hle HO1 ⊢
      clear hod hsp
      have hol : o.length ≤ 8589934594 := by omega
      have x0 : wr.drew.cell? ⟨b, off + j * 4, none⟩ = some (.string z0) := (HR.out.cell (p := ⟨b, off + j * 4, none⟩) (Nat.lt_succ_of_lt HLT.out)).trans Xz0.out
      have x1 : wr.drew.cell? ⟨w.heap.size, 0, none⟩ = some (.string el) := (HR.out.cell (p := ⟨w.heap.size, 0, none⟩) (Nat.lt_succ_self _)).trans Xe0.out
      have HK := Lib.hid hK
      have HBd := Lib.hid (show Below (w.heap.size + 1) V wr.drew from HR.out.drew)
      have HOd := Lib.hid (show FOwnEntry wr.drew (w.heap.size + 1) wr.drew.heap.size A1 o.length c1 o from HO1.out.keep fun i _ _ _ => rfl)
      clear hK hle
      have HX0 := Lib.hid x0
      have HX1 := Lib.hid x1
      have HBW := Lib.hid (show b < wr.drew.heap.size from Nat.lt_of_lt_of_le HLT.out (Nat.le_trans HV0.out HR.out.size))
      have HBX := Lib.hid (show w.heap.size < wr.drew.heap.size from Nat.lt_of_lt_of_le (Nat.lt_succ_self _) (Nat.le_trans HV1.out HR.out.size))
      have hj2 : (j : Int) < n := by omega
      clear x0 x1
      go_wp2_with fail
      refine RG.region (tabP [sv (.slice (some ⟨b, off, none⟩) n c), sv (.int .i64 ((j : Int))), sv (.pointer (some ⟨b, off + j * 4, none⟩)), sv (.pointer (some ⟨b, off + j * 4, none⟩)), sv (.string (z0)), sv (.pointer (some ⟨w.heap.size, 0, none⟩)), sv (.string (el)), sv (.int .i64 (cv)), sv (.int .i64 (cv))]) (by kernel_rfl) (by kernel_rfl) (tab_keep _) ?_ ?_
      · refine steps_cons ?_ (steps_cons ?_ (steps_cons ?_ (steps_cons ?_ (steps_cons ?_ (steps_cons ?_ (steps_cons ?_ (steps_cons ?_ (steps_cons ?_ (steps_nil)))))))))
        · intro aa ww hA K hK
          refine free rfl ?_
          exact gives hK rfl (hA.old 0 (by kernel_rfl))
        · intro aa ww hA K hK
          refine free rfl ?_
          exact gives hK rfl (hA.old 8 (by kernel_rfl))
        · intro aa ww hA K hK
          refine free rfl ?_
          have e17 : aa.tmps.getD 17 undef = .slice (some ⟨b, off, none⟩) n c := hA.got 0 17 (by kernel_rfl)
          have e18 : aa.tmps.getD 18 undef = .int .i64 ((j : Int)) := hA.got 1 18 (by kernel_rfl)
          exact gives hK (v := .pointer (some ⟨b, off + j * 4, none⟩)) (by simp [execOp, Act.eval, e17, e18, go_sem, hj2]) rfl
        · intro aa ww hA K hK
          refine free rfl ?_
          have e19 : aa.tmps.getD 19 undef = .pointer (some ⟨b, off + j * 4, none⟩) := hA.got 2 19 (by kernel_rfl)
          exact gives hK (v := .pointer (some ⟨b, off + j * 4, none⟩)) (by simp [execOp, Act.eval, e19, go_sem]) rfl
        · intro aa ww hA K hK
          refine free rfl ?_
          have e20 : aa.tmps.getD 20 undef = .pointer (some ⟨b, off + j * 4, none⟩) := hA.got 3 20 (by kernel_rfl)
          have k0 := (hA.bel.cell (p := ⟨b, off + j * 4, none⟩) HBW.out).trans HX0.out
          exact gives hK (v := .string z0) (by simp [execOp, Act.eval, e20, k0, go_sem]) rfl
        · intro aa ww hA K hK
          refine free rfl ?_
          have e3 : aa.tmps.getD 3 undef = .pointer (some ⟨w.heap.size, 0, none⟩) := hA.old 3 (by kernel_rfl)
          exact gives hK (v := .pointer (some ⟨w.heap.size, 0, none⟩)) (by simp [execOp, Act.eval, e3, go_sem]) rfl
        · intro aa ww hA K hK
          refine free rfl ?_
          have e22 : aa.tmps.getD 22 undef = .pointer (some ⟨w.heap.size, 0, none⟩) := hA.got 5 22 (by kernel_rfl)
          have k1 := (hA.bel.cell (p := ⟨w.heap.size, 0, none⟩) HBX.out).trans HX1.out
          exact gives hK (v := .string el) (by simp [execOp, Act.eval, e22, k1, go_sem]) rfl
        · intro aa ww hA K hK
          refine free rfl ?_
          have e21 : aa.tmps.getD 21 undef = .string (z0) := hA.got 4 21 (by kernel_rfl)
          have e23 : aa.tmps.getD 23 undef = .string (el) := hA.got 6 23 (by kernel_rfl)
          refine calls hK (by simp [Act.eval, e21, e23, go_sem]) (HK.out ww) ?_
          rintro e w1 ⟨rfl, rfl⟩
          exact ⟨_, rfl, (Below.refl _ _), rfl⟩
        · intro aa ww hA K hK
          refine free rfl ?_
          exact gives hK rfl (hA.got 7 24 (by kernel_rfl))
      · intro a1 w1 hb hd hsz hold hgot
        have g9 : a1.tmps.getD 9 undef = .int .i64 (cv) := hgot 8 9 (by kernel_rfl)
        have ea := act_put hd hsz hold [17, 18, 19, 20, 21, 22, 23, 24, 9] rfl
        simp only [List.foldl_cons, List.foldl_nil, g9] at ea
        rename_i K9 hK9
        refine hK9 a1 w1 ?_
        generalize a1.tmps.getD 17 undef = v17 at ea
        generalize a1.tmps.getD 18 undef = v18 at ea
        generalize a1.tmps.getD 19 undef = v19 at ea
        generalize a1.tmps.getD 20 undef = v20 at ea
        generalize a1.tmps.getD 21 undef = v21 at ea
        generalize a1.tmps.getD 22 undef = v22 at ea
        generalize a1.tmps.getD 23 undef = v23 at ea
        generalize a1.tmps.getD 24 undef = v24 at ea
        clear hgot hold hsz hd g9
        simp only [Act.put, List.setIfInBounds_toArray, List.set_cons_succ, List.set_cons_zero] at ea
        subst ea
        have HBe := Lib.hid (HBd.out.trans (hb.mono (Nat.le_trans HV1.out HR.out.size)))
        have HOe := Lib.hid ((HOd.out.below hb (Nat.le_refl _)).wide (Nat.le_refl _) hb.size)
        clear hb
        have HST2 := Lib.hid hst
        clear hst
        rcases hcv with rfl | rfl | rfl
        · have HS := Lib.hid (show putSt ⟨el, ek, ev, ep⟩ (l.take (j + 1)) = (o ++ [⟨z0, z1, z2, z3⟩], d) from by rw [HST2.out]; simp)
          have ua0 : w1.cell? ⟨b, off + j * 4, none⟩ = some (.string z0) := (HBe.out.cell (p := ⟨b, off + j * 4, none⟩) (Nat.lt_succ_of_lt HLT.out)).trans Xz0.out
          have ua1 : w1.cell? ⟨b, off + j * 4 + 1, none⟩ = some (.int .i64 z1) := (HBe.out.cell (p := ⟨b, off + j * 4 + 1, none⟩) (Nat.lt_succ_of_lt HLT.out)).trans Xz1.out
          have ua2 : w1.cell? ⟨b, off + j * 4 + 2, none⟩ = some (.int .i64 z2) := (HBe.out.cell (p := ⟨b, off + j * 4 + 2, none⟩) (Nat.lt_succ_of_lt HLT.out)).trans Xz2.out
          have ua3 : w1.cell? ⟨b, off + j * 4 + 3, none⟩ = some (.slice A3 n3 c3) := (HBe.out.cell (p := ⟨b, off + j * 4 + 3, none⟩) (Nat.lt_succ_of_lt HLT.out)).trans Xz3.out
          have HKa := Lib.hid (l8Copy_any [.string z0, .int .i64 z1, .int .i64 z2, .slice A3 n3 c3] ⟨z0, z1, z2, z3⟩ w1 (REntry.more (REntry.keep HRz.out fun i hi => HBe.out.block i (Nat.lt_succ_of_lt hi)) fun i hi => Nat.lt_of_lt_of_le hi (Nat.le_trans HV0.out HBe.out.size)) HTz.out)
          go_wp2_with fail
          refine HKa.out.mono ?_
          rintro e wa ⟨csa, rfl, howna, hba⟩
          have HOaa := Lib.hid (HOe.out.below hba (Nat.le_refl _))
          have HZa := Lib.hid howna
          have HBaa := Lib.hid (HBe.out.trans (hba.mono (Nat.le_trans HV1.out HBe.out.size)))
          have HSa := Lib.hid (show w.heap.size + 1 ≤ w1.heap.size from Nat.le_trans HV1.out HBe.out.size)
          obtain ⟨Aqa, nqa, cqa, rfl, _⟩ := REntry_own.1 howna
          clear hba howna ua0 ua1 ua2 ua3
          go_wp2_with (at_builtin; refine wp_pushR (st := 24) (mid := w1.heap.size) (hi := wa.heap.size) (lo := w.heap.size + 1) REntry tiEntry rfl _ _ rfl rfl HOaa.out rfl HZa.out (by omega) HSa.out (Nat.le_trans HV1.out HBaa.out.size) ?_; intro Aa ca wab hown hgr)
          have HBa := Lib.hid (HBaa.out.trans (hgr.below (Nat.le_trans HV1.out HBaa.out.size) HOaa.out.ge))
          have HOa := Lib.hid hown
          clear hown hgr
          go_wp2
          go_roundw
          case rel => exact ⟨j + 1, Aa, ca, by omega, by simp [HS.out], by rw [HS.out], by go_num, by rw [HS.out]; simpa using HOa.out, HBa.out⟩
          case measure => simp [intOf]; omega
        · rcases d with _ | _
          · have HS := Lib.hid (show putSt ⟨el, ek, ev, ep⟩ (l.take (j + 1)) = (o ++ [⟨el, ek, ev, ep⟩], true) from by rw [HST2.out]; simp)
            have ua0 : w1.cell? ⟨w.heap.size, 0, none⟩ = some (.string el) := (HBe.out.cell (p := ⟨w.heap.size, 0, none⟩) (Nat.lt_succ_self _)).trans Xe0.out
            have ua1 : w1.cell? ⟨w.heap.size, 1, none⟩ = some (.int .i64 ek) := (HBe.out.cell (p := ⟨w.heap.size, 1, none⟩) (Nat.lt_succ_self _)).trans Xe1.out
            have ua2 : w1.cell? ⟨w.heap.size, 2, none⟩ = some (.int .i64 ev) := (HBe.out.cell (p := ⟨w.heap.size, 2, none⟩) (Nat.lt_succ_self _)).trans Xe2.out
            have ua3 : w1.cell? ⟨w.heap.size, 3, none⟩ = some (.slice Ae ne ce) := (HBe.out.cell (p := ⟨w.heap.size, 3, none⟩) (Nat.lt_succ_self _)).trans Xe3.out
            have HKa := Lib.hid (l8Copy_any [.string el, .int .i64 ek, .int .i64 ev, .slice Ae ne ce] ⟨el, ek, ev, ep⟩ w1 (REntry.more (REntry.keep HRe.out fun i hi => HBe.out.block i (Nat.lt_succ_of_lt hi)) fun i hi => Nat.lt_of_lt_of_le hi (Nat.le_trans HV0.out HBe.out.size)) HTe.out)
            go_wp2_with fail
            refine HKa.out.mono ?_
            rintro e wa ⟨csa, rfl, howna, hba⟩
            have HOaa := Lib.hid (HOe.out.below hba (Nat.le_refl _))
            have HZa := Lib.hid howna
            have HBaa := Lib.hid (HBe.out.trans (hba.mono (Nat.le_trans HV1.out HBe.out.size)))
            have HSa := Lib.hid (show w.heap.size + 1 ≤ w1.heap.size from Nat.le_trans HV1.out HBe.out.size)
            obtain ⟨Aqa, nqa, cqa, rfl, _⟩ := REntry_own.1 howna
            clear hba howna ua0 ua1 ua2 ua3
            go_wp2_with (at_builtin; refine wp_pushR (st := 24) (mid := w1.heap.size) (hi := wa.heap.size) (lo := w.heap.size + 1) REntry tiEntry rfl _ _ rfl rfl HOaa.out rfl HZa.out (by omega) HSa.out (Nat.le_trans HV1.out HBaa.out.size) ?_; intro Aa ca wab hown hgr)
            have HBa := Lib.hid (HBaa.out.trans (hgr.below (Nat.le_trans HV1.out HBaa.out.size) HOaa.out.ge))
            have HOa := Lib.hid hown
            clear hown hgr
            go_wp2
            go_roundw
            case rel => exact ⟨j + 1, Aa, ca, by omega, by simp [HS.out], by rw [HS.out], by go_num, by rw [HS.out]; simpa using HOa.out, HBa.out⟩
            case measure => simp [intOf]; omega
          · have HS := Lib.hid (show putSt ⟨el, ek, ev, ep⟩ (l.take (j + 1)) = (o, true) from by rw [HST2.out]; simp)
            go_wp2
            go_roundw
            case rel => exact ⟨j + 1, A1, c1, by omega, by simp [HS.out], by rw [HS.out], by go_num, by rw [HS.out]; simpa using HOe.out.top, HBe.out⟩
            case measure => simp [intOf]; omega
        · rcases d with _ | _
          · have HS := Lib.hid (show putSt ⟨el, ek, ev, ep⟩ (l.take (j + 1)) = (o ++ [⟨el, ek, ev, ep⟩, ⟨z0, z1, z2, z3⟩], true) from by rw [HST2.out]; simp)
            have ua0 : w1.cell? ⟨w.heap.size, 0, none⟩ = some (.string el) := (HBe.out.cell (p := ⟨w.heap.size, 0, none⟩) (Nat.lt_succ_self _)).trans Xe0.out
            have ua1 : w1.cell? ⟨w.heap.size, 1, none⟩ = some (.int .i64 ek) := (HBe.out.cell (p := ⟨w.heap.size, 1, none⟩) (Nat.lt_succ_self _)).trans Xe1.out
            have ua2 : w1.cell? ⟨w.heap.size, 2, none⟩ = some (.int .i64 ev) := (HBe.out.cell (p := ⟨w.heap.size, 2, none⟩) (Nat.lt_succ_self _)).trans Xe2.out
            have ua3 : w1.cell? ⟨w.heap.size, 3, none⟩ = some (.slice Ae ne ce) := (HBe.out.cell (p := ⟨w.heap.size, 3, none⟩) (Nat.lt_succ_self _)).trans Xe3.out
            have HKa := Lib.hid (l8Copy_any [.string el, .int .i64 ek, .int .i64 ev, .slice Ae ne ce] ⟨el, ek, ev, ep⟩ w1 (REntry.more (REntry.keep HRe.out fun i hi => HBe.out.block i (Nat.lt_succ_of_lt hi)) fun i hi => Nat.lt_of_lt_of_le hi (Nat.le_trans HV0.out HBe.out.size)) HTe.out)
            go_wp2_with fail
            refine HKa.out.mono ?_
            rintro e wa ⟨csa, rfl, howna, hba⟩
            have HOaa := Lib.hid (HOe.out.below hba (Nat.le_refl _))
            have HZa := Lib.hid howna
            have HBaa := Lib.hid (HBe.out.trans (hba.mono (Nat.le_trans HV1.out HBe.out.size)))
            have HSa := Lib.hid (show w.heap.size + 1 ≤ w1.heap.size from Nat.le_trans HV1.out HBe.out.size)
            obtain ⟨Aqa, nqa, cqa, rfl, _⟩ := REntry_own.1 howna
            clear hba howna ua0 ua1 ua2 ua3
            go_wp2_with (at_builtin; refine wp_pushR (st := 24) (mid := w1.heap.size) (hi := wa.heap.size) (lo := w.heap.size + 1) REntry tiEntry rfl _ _ rfl rfl HOaa.out rfl HZa.out (by omega) HSa.out (Nat.le_trans HV1.out HBaa.out.size) ?_; intro Aa ca wab hown hgr; have HBa := Lib.hid (HBaa.out.trans (hgr.below (Nat.le_trans HV1.out HBaa.out.size) HOaa.out.ge)); have HOa := Lib.hid hown; clear hown hgr; have ub0 : wab.cell? ⟨b, off + j * 4, none⟩ = some (.string z0) := (HBa.out.cell (p := ⟨b, off + j * 4, none⟩) (Nat.lt_succ_of_lt HLT.out)).trans Xz0.out; have ub1 : wab.cell? ⟨b, off + j * 4 + 1, none⟩ = some (.int .i64 z1) := (HBa.out.cell (p := ⟨b, off + j * 4 + 1, none⟩) (Nat.lt_succ_of_lt HLT.out)).trans Xz1.out; have ub2 : wab.cell? ⟨b, off + j * 4 + 2, none⟩ = some (.int .i64 z2) := (HBa.out.cell (p := ⟨b, off + j * 4 + 2, none⟩) (Nat.lt_succ_of_lt HLT.out)).trans Xz2.out; have ub3 : wab.cell? ⟨b, off + j * 4 + 3, none⟩ = some (.slice A3 n3 c3) := (HBa.out.cell (p := ⟨b, off + j * 4 + 3, none⟩) (Nat.lt_succ_of_lt HLT.out)).trans Xz3.out)
            have HKb := Lib.hid (l8Copy_any [.string z0, .int .i64 z1, .int .i64 z2, .slice A3 n3 c3] ⟨z0, z1, z2, z3⟩ wab (REntry.more (REntry.keep HRz.out fun i hi => HBa.out.block i (Nat.lt_succ_of_lt hi)) fun i hi => Nat.lt_of_lt_of_le hi (Nat.le_trans HV0.out HBa.out.size)) HTz.out)
            refine HKb.out.mono ?_
            rintro e wb ⟨csb, rfl, hownb, hbb⟩
            have HOba := Lib.hid (HOa.out.below hbb (Nat.le_refl _))
            have HZb := Lib.hid hownb
            have HBba := Lib.hid (HBa.out.trans (hbb.mono (Nat.le_trans HV1.out HBa.out.size)))
            have HSb := Lib.hid (show w.heap.size + 1 ≤ wab.heap.size from Nat.le_trans HV1.out HBa.out.size)
            obtain ⟨Aqb, nqb, cqb, rfl, _⟩ := REntry_own.1 hownb
            clear hbb hownb ub0 ub1 ub2 ub3
            go_wp2_with (at_builtin; refine wp_pushR (st := 24) (mid := wab.heap.size) (hi := wb.heap.size) (lo := w.heap.size + 1) REntry tiEntry rfl _ _ rfl rfl HOba.out rfl HZb.out (by omega) HSb.out (Nat.le_trans HV1.out HBba.out.size) ?_; intro Ab cb wbb hown hgr)
            have HBb := Lib.hid (HBba.out.trans (hgr.below (Nat.le_trans HV1.out HBba.out.size) HOba.out.ge))
            have HOb := Lib.hid hown
            clear hown hgr
            go_wp2
            go_roundw
            case rel => exact ⟨j + 1, Ab, cb, by omega, by simp [HS.out], by rw [HS.out], by go_num, by rw [HS.out]; simpa using HOb.out, HBb.out⟩
            case measure => simp [intOf]; omega
          · have HS := Lib.hid (show putSt ⟨el, ek, ev, ep⟩ (l.take (j + 1)) = (o ++ [⟨z0, z1, z2, z3⟩], true) from by rw [HST2.out]; simp)
            have ua0 : w1.cell? ⟨b, off + j * 4, none⟩ = some (.string z0) := (HBe.out.cell (p := ⟨b, off + j * 4, none⟩) (Nat.lt_succ_of_lt HLT.out)).trans Xz0.out
            have ua1 : w1.cell? ⟨b, off + j * 4 + 1, none⟩ = some (.int .i64 z1) := (HBe.out.cell (p := ⟨b, off + j * 4 + 1, none⟩) (Nat.lt_succ_of_lt HLT.out)).trans Xz1.out
            have ua2 : w1.cell? ⟨b, off + j * 4 + 2, none⟩ = some (.int .i64 z2) := (HBe.out.cell (p := ⟨b, off + j * 4 + 2, none⟩) (Nat.lt_succ_of_lt HLT.out)).trans Xz2.out
            have ua3 : w1.cell? ⟨b, off + j * 4 + 3, none⟩ = some (.slice A3 n3 c3) := (HBe.out.cell (p := ⟨b, off + j * 4 + 3, none⟩) (Nat.lt_succ_of_lt HLT.out)).trans Xz3.out
            have HKa := Lib.hid (l8Copy_any [.string z0, .int .i64 z1, .int .i64 z2, .slice A3 n3 c3] ⟨z0, z1, z2, z3⟩ w1 (REntry.more (REntry.keep HRz.out fun i hi => HBe.out.block i (Nat.lt_succ_of_lt hi)) fun i hi => Nat.lt_of_lt_of_le hi (Nat.le_trans HV0.out HBe.out.size)) HTz.out)
            go_wp2_with fail
            refine HKa.out.mono ?_
            rintro e wa ⟨csa, rfl, howna, hba⟩
            have HOaa := Lib.hid (HOe.out.below hba (Nat.le_refl _))
            have HZa := Lib.hid howna
            have HBaa := Lib.hid (HBe.out.trans (hba.mono (Nat.le_trans HV1.out HBe.out.size)))
            have HSa := Lib.hid (show w.heap.size + 1 ≤ w1.heap.size from Nat.le_trans HV1.out HBe.out.size)
            obtain ⟨Aqa, nqa, cqa, rfl, _⟩ := REntry_own.1 howna
            clear hba howna ua0 ua1 ua2 ua3
            go_wp2_with (at_builtin; refine wp_pushR (st := 24) (mid := w1.heap.size) (hi := wa.heap.size) (lo := w.heap.size + 1) REntry tiEntry rfl _ _ rfl rfl HOaa.out rfl HZa.out (by omega) HSa.out (Nat.le_trans HV1.out HBaa.out.size) ?_; intro Aa ca wab hown hgr)
            have HBa := Lib.hid (HBaa.out.trans (hgr.below (Nat.le_trans HV1.out HBaa.out.size) HOaa.out.ge))
            have HOa := Lib.hid hown
            clear hown hgr
            go_wp2
            go_roundw
            case rel => exact ⟨j + 1, Aa, ca, by omega, by simp [HS.out], by rw [HS.out], by go_num, by rw [HS.out]; simpa using HOa.out, HBa.out⟩
            case measure => simp [intOf]; omega
    · obtain rfl : j = n := by omega
      have htk : l.take j = l := List.take_of_length_le (by rw [HL.out]; omega)
      rw [htk] at HO1 hle ⊢
      have hpa : putAll ⟨el, ek, ev, ep⟩ l = (putSt ⟨el, ek, ev, ep⟩ l).1 ++ (if (putSt ⟨el, ek, ev, ep⟩ l).2 then [] else [⟨el, ek, ev, ep⟩]) := rfl
      have hpe : putE l ⟨el, ek, ev, ep⟩ = if areE l && areE (putAll ⟨el, ek, ev, ep⟩ l) then (putAll ⟨el, ek, ev, ep⟩ l, true) else (l, false) := rfl
      obtain ⟨⟨o, d⟩, hod⟩ : ∃ p, p = putSt ⟨el, ek, ev, ep⟩ l := ⟨_, rfl⟩
      rw [← hod] at hle HO1 hpa ⊢
      simp only at hle HO1 hpa ⊢
      clear hod htk
      have hol : o.length ≤ 8589934594 := by omega
      generalize hall : putAll ⟨el, ek, ev, ep⟩ l = all at hpa hpe HTA HLA
      clear hall hle
      rcases d with _ | _
      · have hpa2 : all = o ++ [⟨el, ek, ev, ep⟩] := by rw [hpa]; rfl
        have hla : all.length = o.length + 1 := by rw [hpa2]; simp
        clear hpa
        have ua0 : wr.cell? ⟨w.heap.size, 0, none⟩ = some (.string el) := (HR.out.cell (p := ⟨w.heap.size, 0, none⟩) (Nat.lt_succ_self _)).trans Xe0.out
        have ua1 : wr.cell? ⟨w.heap.size, 1, none⟩ = some (.int .i64 ek) := (HR.out.cell (p := ⟨w.heap.size, 1, none⟩) (Nat.lt_succ_self _)).trans Xe1.out
        have ua2 : wr.cell? ⟨w.heap.size, 2, none⟩ = some (.int .i64 ev) := (HR.out.cell (p := ⟨w.heap.size, 2, none⟩) (Nat.lt_succ_self _)).trans Xe2.out
        have ua3 : wr.cell? ⟨w.heap.size, 3, none⟩ = some (.slice Ae ne ce) := (HR.out.cell (p := ⟨w.heap.size, 3, none⟩) (Nat.lt_succ_self _)).trans Xe3.out
        have HKa := Lib.hid (l8Copy_any [.string el, .int .i64 ek, .int .i64 ev, .slice Ae ne ce] ⟨el, ek, ev, ep⟩ wr (REntry.more (REntry.keep HRe.out fun i hi => HR.out.block i (Nat.lt_succ_of_lt hi)) fun i hi => Nat.lt_of_lt_of_le hi (Nat.le_trans HV0.out HR.out.size)) HTe.out)
        go_wp2_with fail
        refine HKa.out.mono ?_
        rintro e wa ⟨csa, rfl, howna, hba⟩
        have HOaa := Lib.hid (HO1.out.below hba (Nat.le_refl _))
        have HZa := Lib.hid howna
        have HBaa := Lib.hid (HR.out.trans (hba.mono (Nat.le_trans HV1.out HR.out.size)))
        have HSa := Lib.hid (show w.heap.size + 1 ≤ wr.heap.size from Nat.le_trans HV1.out HR.out.size)
        obtain ⟨Aqa, nqa, cqa, rfl, _⟩ := REntry_own.1 howna
        clear hba howna ua0 ua1 ua2 ua3
        go_wp2_with (at_builtin; refine wp_pushR (st := 24) (mid := wr.heap.size) (hi := wa.heap.size) (lo := w.heap.size + 1) REntry tiEntry rfl _ _ rfl rfl HOaa.out rfl HZa.out (by omega) HSa.out (Nat.le_trans HV1.out HBaa.out.size) ?_; intro Aa ca wab hown hgr)
        have HBa := Lib.hid (HBaa.out.trans (hgr.below (Nat.le_trans HV1.out HBaa.out.size) HOaa.out.ge))
        have HOa := Lib.hid hown
        clear hown hgr
        rw [← hpa2, ← hla] at HOa
        rw [← hla]
        clear hpa2 hla
        clear HO1
        have HAO := Lib.hid (fun w1 (hr : FRdEntry w1 w1.heap.size Aa all.length all) => sAreEntries_any Aa all.length ca all w1 hr HTA.out)
        rcases ha : areE l with _ | _
        · have HPE := Lib.hid (show putE l ⟨el, ek, ev, ep⟩ = (l, false) from by rw [hpe, ha]; rfl)
          have hA := HAR.out wab (HUP.out _ HBa.out)
          rw [ha] at hA
          have HA := Lib.hid hA
          clear hpe ha hA
          go_wp2_with fail
          refine HA.out.mono ?_
          rintro e wy ⟨rfl, hby⟩
          have HBy := Lib.hid (HBa.out.trans (hby.mono (Nat.le_trans HV1.out HBa.out.size)))
          clear hby
          have HKc := Lib.hid (HCP.out wy (HUP.out _ HBy.out))
          go_wp2_with fail
          refine HKc.out.mono ?_
          rintro e wz ⟨Az, cz, rfl, hoz, hbz⟩
          have HOz := Lib.hid (hoz.base (Nat.le_trans HV0.out HBy.out.size))
          have HBz := Lib.hid (HBy.out.trans (hbz.mono (Nat.le_trans HV1.out HBy.out.size)))
          clear hoz hbz
          go_wp2
          go_ret2
          rw [HPE.out]
          exact ⟨Az, cz, by rw [show l.length = _ from HL.out]; rfl, by rw [show l.length = _ from HL.out]; exact HOz.out, HB0.out.trans (HBz.out.mono (Nat.le_succ _))⟩
        · have hA := HAR.out wab (HUP.out _ HBa.out)
          rw [ha] at hA
          have HA := Lib.hid hA
          rcases ha2 : areE all with _ | _
          · have HPE := Lib.hid (show putE l ⟨el, ek, ev, ep⟩ = (l, false) from by rw [hpe, ha, ha2]; rfl)
            have HA := Lib.hid HA.out
            have hA2 := HAO.out
            simp only [ha2] at hA2
            have HA2 := Lib.hid hA2
            clear hpe ha hA ha2 hA2
            go_wp2_with fail
            refine HA.out.mono ?_
            rintro e wy ⟨rfl, hby⟩
            have HBy := Lib.hid (HBa.out.trans (hby.mono (Nat.le_trans HV1.out HBa.out.size)))
            have HOy := Lib.hid (HOa.out.below hby (Nat.le_refl _))
            have HRy := Lib.hid (HOy.out.rd.more hby.size)
            have HSY := Lib.hid hby.size
            clear hby
            go_wp2_with fail
            refine (HA2.out _ HRy.out).mono ?_
            rintro e wx ⟨rfl, hbx⟩
            have HBx := Lib.hid (HBy.out.trans (hbx.mono (Nat.le_trans HV1.out HBy.out.size)))
            have HOx := Lib.hid (HOy.out.below hbx (Nat.le_trans (Nat.le_refl _) HSY.out))
            clear hbx
            have HKc := Lib.hid (HCP.out wx (HUP.out _ HBx.out))
            go_wp2_with fail
            refine HKc.out.mono ?_
            rintro e wz ⟨Az, cz, rfl, hoz, hbz⟩
            have HOz := Lib.hid (hoz.base (Nat.le_trans HV0.out HBx.out.size))
            have HBz := Lib.hid (HBx.out.trans (hbz.mono (Nat.le_trans HV1.out HBx.out.size)))
            clear hoz hbz
            go_wp2
            go_ret2
            rw [HPE.out]
            exact ⟨Az, cz, by rw [show l.length = _ from HL.out]; rfl, by rw [show l.length = _ from HL.out]; exact HOz.out, HB0.out.trans (HBz.out.mono (Nat.le_succ _))⟩
          · have HPE := Lib.hid (show putE l ⟨el, ek, ev, ep⟩ = (all, true) from by rw [hpe, ha, ha2]; rfl)
            have HA := Lib.hid HA.out
            have hA2 := HAO.out
            simp only [ha2] at hA2
            have HA2 := Lib.hid hA2
            clear hpe ha hA ha2 hA2
            go_wp2_with fail
            refine HA.out.mono ?_
            rintro e wy ⟨rfl, hby⟩
            have HBy := Lib.hid (HBa.out.trans (hby.mono (Nat.le_trans HV1.out HBa.out.size)))
            have HOy := Lib.hid (HOa.out.below hby (Nat.le_refl _))
            have HRy := Lib.hid (HOy.out.rd.more hby.size)
            have HSY := Lib.hid hby.size
            clear hby
            go_wp2_with fail
            refine (HA2.out _ HRy.out).mono ?_
            rintro e wx ⟨rfl, hbx⟩
            have HBx := Lib.hid (HBy.out.trans (hbx.mono (Nat.le_trans HV1.out HBy.out.size)))
            have HOx := Lib.hid (HOy.out.below hbx (Nat.le_trans (Nat.le_refl _) HSY.out))
            clear hbx
            go_wp2
            go_ret2
            rw [HPE.out]
            exact ⟨Aa, ca, rfl, (HOx.out.top).base (Nat.le_succ _), HB0.out.trans (HBx.out.mono (Nat.le_succ _))⟩
      · have hpa2 : all = o := by rw [hpa]; simp
        clear hpa
        subst hpa2
        have HAO := Lib.hid (fun w1 (hr : FRdEntry w1 w1.heap.size A1 all.length all) => sAreEntries_any A1 all.length c1 all w1 hr HTA.out)
        rcases ha : areE l with _ | _
        · have HPE := Lib.hid (show putE l ⟨el, ek, ev, ep⟩ = (l, false) from by rw [hpe, ha]; rfl)
          have hA := HAR.out wr (HUP.out _ HR.out)
          rw [ha] at hA
          have HA := Lib.hid hA
          clear hpe ha hA
          go_wp2_with fail
          refine HA.out.mono ?_
          rintro e wy ⟨rfl, hby⟩
          have HBy := Lib.hid (HR.out.trans (hby.mono (Nat.le_trans HV1.out HR.out.size)))
          clear hby
          have HKc := Lib.hid (HCP.out wy (HUP.out _ HBy.out))
          go_wp2_with fail
          refine HKc.out.mono ?_
          rintro e wz ⟨Az, cz, rfl, hoz, hbz⟩
          have HOz := Lib.hid (hoz.base (Nat.le_trans HV0.out HBy.out.size))
          have HBz := Lib.hid (HBy.out.trans (hbz.mono (Nat.le_trans HV1.out HBy.out.size)))
          clear hoz hbz
          go_wp2
          go_ret2
          rw [HPE.out]
          exact ⟨Az, cz, by rw [show l.length = _ from HL.out]; rfl, by rw [show l.length = _ from HL.out]; exact HOz.out, HB0.out.trans (HBz.out.mono (Nat.le_succ _))⟩
        · have hA := HAR.out wr (HUP.out _ HR.out)
          rw [ha] at hA
          have HA := Lib.hid hA
          rcases ha2 : areE all with _ | _
          · have HPE := Lib.hid (show putE l ⟨el, ek, ev, ep⟩ = (l, false) from by rw [hpe, ha, ha2]; rfl)
            have HA := Lib.hid HA.out
            have hA2 := HAO.out
            simp only [ha2] at hA2
            have HA2 := Lib.hid hA2
            clear hpe ha hA ha2 hA2
            go_wp2_with fail
            refine HA.out.mono ?_
            rintro e wy ⟨rfl, hby⟩
            have HBy := Lib.hid (HR.out.trans (hby.mono (Nat.le_trans HV1.out HR.out.size)))
            have HOy := Lib.hid (HO1.out.below hby (Nat.le_refl _))
            have HRy := Lib.hid (HOy.out.rd.more hby.size)
            have HSY := Lib.hid hby.size
            clear hby
            go_wp2_with fail
            refine (HA2.out _ HRy.out).mono ?_
            rintro e wx ⟨rfl, hbx⟩
            have HBx := Lib.hid (HBy.out.trans (hbx.mono (Nat.le_trans HV1.out HBy.out.size)))
            have HOx := Lib.hid (HOy.out.below hbx (Nat.le_trans (Nat.le_refl _) HSY.out))
            clear hbx
            have HKc := Lib.hid (HCP.out wx (HUP.out _ HBx.out))
            go_wp2_with fail
            refine HKc.out.mono ?_
            rintro e wz ⟨Az, cz, rfl, hoz, hbz⟩
            have HOz := Lib.hid (hoz.base (Nat.le_trans HV0.out HBx.out.size))
            have HBz := Lib.hid (HBx.out.trans (hbz.mono (Nat.le_trans HV1.out HBx.out.size)))
            clear hoz hbz
            go_wp2
            go_ret2
            rw [HPE.out]
            exact ⟨Az, cz, by rw [show l.length = _ from HL.out]; rfl, by rw [show l.length = _ from HL.out]; exact HOz.out, HB0.out.trans (HBz.out.mono (Nat.le_succ _))⟩
          · have HPE := Lib.hid (show putE l ⟨el, ek, ev, ep⟩ = (all, true) from by rw [hpe, ha, ha2]; rfl)
            have HA := Lib.hid HA.out
            have hA2 := HAO.out
            simp only [ha2] at hA2
            have HA2 := Lib.hid hA2
            clear hpe ha hA ha2 hA2
            go_wp2_with fail
            refine HA.out.mono ?_
            rintro e wy ⟨rfl, hby⟩
            have HBy := Lib.hid (HR.out.trans (hby.mono (Nat.le_trans HV1.out HR.out.size)))
            have HOy := Lib.hid (HO1.out.below hby (Nat.le_refl _))
            have HRy := Lib.hid (HOy.out.rd.more hby.size)
            have HSY := Lib.hid hby.size
            clear hby
            go_wp2_with fail
            refine (HA2.out _ HRy.out).mono ?_
            rintro e wx ⟨rfl, hbx⟩
            have HBx := Lib.hid (HBy.out.trans (hbx.mono (Nat.le_trans HV1.out HBy.out.size)))
            have HOx := Lib.hid (HOy.out.below hbx (Nat.le_trans (Nat.le_refl _) HSY.out))
            clear hbx
            go_wp2
            go_ret2
            rw [HPE.out]
            exact ⟨A1, c1, rfl, (HOx.out.top).base (Nat.le_succ _), HB0.out.trans (HBx.out.mono (Nat.le_succ _))⟩
end Go.Proofs.Ytpjfmbcandgpeaa.C09SP
