/- The drawing functions of chapter 13, fourth part. -/
import Derived.Test.YtkkkaaboeddkoaaD13B
namespace Go.Proofs.Ytkkkaaboeddkoaa.D13E
set_option linter.unusedVariables false
set_option linter.unusedSimpArgs false
set_option maxRecDepth 100000
open Go.RowKit Mem MemS M02 C01 C02 C02B D01 D02 SL Rep R06 R13 M06 M13 C06S C13S D06 BX D13 D13B
theorem own_up {w : World} {lo hi : Nat} {cs : List Value} {k : Head} (h : OwnI RHead w lo hi cs k) (hh : hi ≤ w.heap.size) : RHead.rd w (Lt w.heap.size) cs k := RHead.more h.rd fun i hi' => Nat.lt_of_lt_of_le hi' hh
def DrHH (w : World) (e : Ending) (w' : World) : Prop := ∃ cs a cs' b, e = .returned (.tuple #[.agg (List.toArray cs), .agg (List.toArray cs')]) ∧ RHead.rd w' (Lt w'.heap.size) cs a ∧ RHead.rd w' (Lt w'.heap.size) cs' b ∧ totHead a ≤ 1000 ∧ totHead b ≤ 1000 ∧ Below w.heap.size w w'
def DrK1 (w : World) (e : Ending) (w' : World) : Prop := ∃ A n c k, e = .returned (.agg #[.slice A n c, .int .i64 k.need]) ∧ RKeys.rd w' (Lt w'.heap.size) [.slice A n c, .int .i64 k.need] k ∧ k.list.length ≤ 4 ∧ Below w.heap.size w w'

set_option maxHeartbeats 16000000 in
theorem drawEqualHeads_any (w : World) (A : Option Addr) (n c : Nat) (hn : n ≤ maxLen) (hr : BRow w w.heap.size A n) :
    Calls Try.prog 11 #[.slice A n c] w (DrHH w) := by
  obtain ⟨V, hV⟩ : ∃ V, V = (w.alloc (.cells #[.int .i64 0, .int .i64 0, .int .i64 0, .int .i64 0, .int .i64 0, .int .i64 0, .int .i64 0, .int .i64 0, .slice none 0 0, .int .i64 0, .slice none 0 0, .int .i64 0, .int .i64 0, .slice none 0 0, .int .i64 0, .bool false] 28)).alloc (.cells #[.int .i64 0, .int .i64 0, .int .i64 0, .int .i64 0, .int .i64 0, .int .i64 0, .int .i64 0, .int .i64 0, .slice none 0 0, .int .i64 0, .slice none 0 0, .int .i64 0, .int .i64 0, .slice none 0 0, .int .i64 0, .bool false] 28) := ⟨_, rfl⟩
  have hbel : Below w.heap.size w V := by rw [hV]; exact ((Below.refl _ _).alloc (by first | (simp; done) | (simp; omega)) _).alloc (by first | (simp; done) | (simp; omega)) _
  have hsV : V.heap.size = w.heap.size + 2 := by rw [hV]; simp
  have HR_1 := Lib.hid (show Box V (w.heap.size) [.int .i64 0, .int .i64 0, .int .i64 0, .int .i64 0, .int .i64 0, .int .i64 0, .int .i64 0, .int .i64 0, .slice none 0 0, .int .i64 0, .slice none 0 0, .int .i64 0, .int .i64 0, .slice none 0 0, .int .i64 0, .bool false] from by
    rw [hV]
    have := ((Box.new w #[.int .i64 0, .int .i64 0, .int .i64 0, .int .i64 0, .int .i64 0, .int .i64 0, .int .i64 0, .int .i64 0, .slice none 0 0, .int .i64 0, .slice none 0 0, .int .i64 0, .int .i64 0, .slice none 0 0, .int .i64 0, .bool false] 28).alloc (.cells #[.int .i64 0, .int .i64 0, .int .i64 0, .int .i64 0, .int .i64 0, .int .i64 0, .int .i64 0, .int .i64 0, .slice none 0 0, .int .i64 0, .slice none 0 0, .int .i64 0, .int .i64 0, .slice none 0 0, .int .i64 0, .bool false] 28))
    simpa using this)
  have HS_1 := Lib.hid (show Box V (w.heap.size + 1) [.int .i64 0, .int .i64 0, .int .i64 0, .int .i64 0, .int .i64 0, .int .i64 0, .int .i64 0, .int .i64 0, .slice none 0 0, .int .i64 0, .slice none 0 0, .int .i64 0, .int .i64 0, .slice none 0 0, .int .i64 0, .bool false] from by
    rw [hV]
    have := (Box.new (w.alloc (.cells #[.int .i64 0, .int .i64 0, .int .i64 0, .int .i64 0, .int .i64 0, .int .i64 0, .int .i64 0, .int .i64 0, .slice none 0 0, .int .i64 0, .slice none 0 0, .int .i64 0, .int .i64 0, .slice none 0 0, .int .i64 0, .bool false] 28)) #[.int .i64 0, .int .i64 0, .int .i64 0, .int .i64 0, .int .i64 0, .int .i64 0, .int .i64 0, .int .i64 0, .slice none 0 0, .int .i64 0, .slice none 0 0, .int .i64 0, .int .i64 0, .slice none 0 0, .int .i64 0, .bool false] 28)
    simpa using this)
  have HB_1 := Lib.hid hbel
  have HRR := Lib.hid ((hr.below hbel).more hbel.size)
  have HV := Lib.hid hV
  clear hV hbel hr
  go_enter Try.func11, Try.ntmps11
  go_wp2_with fail
  rw [show (w.alloc (.cells #[.int .i64 0, .int .i64 0, .int .i64 0, .int .i64 0, .int .i64 0, .int .i64 0, .int .i64 0, .int .i64 0, .slice none 0 0, .int .i64 0, .slice none 0 0, .int .i64 0, .int .i64 0, .slice none 0 0, .int .i64 0, .bool false] 28)).alloc (.cells #[.int .i64 0, .int .i64 0, .int .i64 0, .int .i64 0, .int .i64 0, .int .i64 0, .int .i64 0, .int .i64 0, .slice none 0 0, .int .i64 0, .slice none 0 0, .int .i64 0, .int .i64 0, .slice none 0 0, .int .i64 0, .bool false] 28) = V from HV.out.symm]
  refine (l1New_any _ A n c hn HRR.out).mono ?_
  rintro e W1 ⟨g, rfl, hc1, hb1⟩
  have HR_2 := Lib.hid (HR_1.out.below hb1 HR_1.out.lt)
  have HS_2 := Lib.hid (HS_1.out.below hb1 HS_1.out.lt)
  have HB_2 := Lib.hid (HB_1.out.trans (hb1.mono HB_1.out.size))
  have hsW1 := hb1.size
  have hgB := hc1.1
  have hgl := hc1.lt
  have gwl : w.heap.size ≤ g := by omega
  have HC_2 := Lib.hid hc1
  clear hc1 hb1
  have neR : (w.heap.size) ≠ g := by omega
  have wlR : w.heap.size ≤ (w.heap.size) := by omega
  have apSR : (w.heap.size + 1) ≠ (w.heap.size) := by omega
  have apRS : (w.heap.size) ≠ (w.heap.size + 1) := by omega
  have neS : (w.heap.size + 1) ≠ g := by omega
  have wlS : w.heap.size ≤ (w.heap.size + 1) := by omega
  have apRS : (w.heap.size) ≠ (w.heap.size + 1) := by omega
  have apSR : (w.heap.size + 1) ≠ (w.heap.size) := by omega
  go_wp2_with fail
  refine (l13Any_any _ _ g HC_2.out).mono ?_
  rintro e W2 ⟨cs, k, rfl, ho, hsm, hc_, hk_⟩
  obtain ⟨kA0, kn0, kc0, kA1, kn1, kc1, kA2, kn2, kc2, rfl⟩ := RHead_shape ho.rd
  have HR_3 := Lib.hid (bxK HR_2.out hk_ neR)
  have HS_3 := Lib.hid (bxK HS_2.out hk_ neS)
  have HB_3 := Lib.hid (HB_2.out.trans (hk_.below gwl HB_2.out.size))
  have HC_3 := Lib.hid (hc_)
  have hsW2 := hk_.size
  have HH_3 := Lib.hid (show OwnI RHead W2 (W1.heap.size) (W2.heap.size) [.int .i64 k.zone, .int .i64 k.epoch, .int .i64 k.kind, .int .i64 k.time, .int .i64 k.until_, .int .i64 k.count, .int .i64 k.root, .int .i64 k.prev, .slice kA0 kn0 kc0, .int .i64 k.keys.need, .slice kA1 kn1 kc1, .int .i64 k.heirs.need, .int .i64 k.wait, .slice kA2 kn2 kc2, .int .i64 k.judge.need, .bool k.frozen] k from ho)
  have glH : g < (W1.heap.size) := by omega
  have djRH : (w.heap.size) < (W1.heap.size) ∨ (W2.heap.size) ≤ (w.heap.size) := by omega
  have djSH : (w.heap.size + 1) < (W1.heap.size) ∨ (W2.heap.size) ≤ (w.heap.size + 1) := by omega
  obtain ⟨mk, uk, vk⟩ := hsm
  clear ho hc_ hk_
  have hal : Below W2.heap.size W2 (W2.alloc (.cells #[.int .i64 k.zone, .int .i64 k.epoch, .int .i64 k.kind, .int .i64 k.time, .int .i64 k.until_, .int .i64 k.count, .int .i64 k.root, .int .i64 k.prev, .slice kA0 kn0 kc0, .int .i64 k.keys.need, .slice kA1 kn1 kc1, .int .i64 k.heirs.need, .int .i64 k.wait, .slice kA2 kn2 kc2, .int .i64 k.judge.need, .bool k.frozen] 28)) := (Below.refl _ _).alloc (Nat.le_refl _) _
  have hnb := Box.new W2 #[.int .i64 k.zone, .int .i64 k.epoch, .int .i64 k.kind, .int .i64 k.time, .int .i64 k.until_, .int .i64 k.count, .int .i64 k.root, .int .i64 k.prev, .slice kA0 kn0 kc0, .int .i64 k.keys.need, .slice kA1 kn1 kc1, .int .i64 k.heirs.need, .int .i64 k.wait, .slice kA2 kn2 kc2, .int .i64 k.judge.need, .bool k.frozen] 28
  generalize hV2 : W2.alloc (.cells #[.int .i64 k.zone, .int .i64 k.epoch, .int .i64 k.kind, .int .i64 k.time, .int .i64 k.until_, .int .i64 k.count, .int .i64 k.root, .int .i64 k.prev, .slice kA0 kn0 kc0, .int .i64 k.keys.need, .slice kA1 kn1 kc1, .int .i64 k.heirs.need, .int .i64 k.wait, .slice kA2 kn2 kc2, .int .i64 k.judge.need, .bool k.frozen] 28) = V2 at hal hnb
  have hsV2 : V2.heap.size = W2.heap.size + 1 := by rw [← hV2]; simp
  have HR_4 := Lib.hid (HR_3.out.below hal HR_3.out.lt)
  have HS_4 := Lib.hid (HS_3.out.below hal HS_3.out.lt)
  have HB_4 := Lib.hid (HB_3.out.trans (hal.mono HB_3.out.size))
  have HC_4 := Lib.hid (HC_3.out.below hal)
  have HH_4 := Lib.hid (HH_3.out.below hal (by omega))
  have HY_4 := Lib.hid (show Box V2 W2.heap.size [.int .i64 k.zone, .int .i64 k.epoch, .int .i64 k.kind, .int .i64 k.time, .int .i64 k.until_, .int .i64 k.count, .int .i64 k.root, .int .i64 k.prev, .slice kA0 kn0 kc0, .int .i64 k.keys.need, .slice kA1 kn1 kc1, .int .i64 k.heirs.need, .int .i64 k.wait, .slice kA2 kn2 kc2, .int .i64 k.judge.need, .bool k.frozen] from hnb)
  have HV2 := Lib.hid hV2
  clear hal hnb hV2
  have neY : (W2.heap.size) ≠ g := by omega
  have wlY : w.heap.size ≤ (W2.heap.size) := by omega
  have gbY : g < (W2.heap.size) := by omega
  have apRY : (w.heap.size) ≠ (W2.heap.size) := by omega
  have apYR : (W2.heap.size) ≠ (w.heap.size) := by omega
  have apSY : (w.heap.size + 1) ≠ (W2.heap.size) := by omega
  have apYS : (W2.heap.size) ≠ (w.heap.size + 1) := by omega
  have djYH : (W2.heap.size) < (W1.heap.size) ∨ (W2.heap.size) ≤ (W2.heap.size) := by omega
  go_wp2_with (refine LD.wp_new LD.big_Head rfl _ _ rfl rfl rfl rfl rfl rfl ?_)
  rw [HV2.out]
  refine (l1Once_any 2 _ _ g HC_4.out).mono ?_
  rintro e W3 ⟨v, ⟨b1, rfl⟩, rfl, hc_, hk_⟩
  have HR_5 := Lib.hid (bxK HR_4.out hk_ neR)
  have HS_5 := Lib.hid (bxK HS_4.out hk_ neS)
  have HB_5 := Lib.hid (HB_4.out.trans (hk_.below gwl HB_4.out.size))
  have HC_5 := Lib.hid (hc_)
  have HH_5 := Lib.hid (HH_4.out.keep (w' := W3) fun i h0 h1 h2 => hk_.block i h0 (Nat.ne_of_gt (Nat.lt_of_lt_of_le glH h1)))
  have HY_5 := Lib.hid (bxK HY_4.out hk_ neY)
  have hsW3 := hk_.size
  clear hc_ hk_
  rcases b1 with _ | _
  · skip
    go_wp2_with fail
    refine wp_region_any (by kernel_rfl) ?_
    change wpAny _ _ _ _ _ _ _ (World.drew _)
    have hdr : Below W3.heap.size W3 W3.drew := (Below.refl _ _).drew
    have HR_6 := Lib.hid (HR_5.out.below hdr HR_5.out.lt)
    have HS_6 := Lib.hid (HS_5.out.below hdr HS_5.out.lt)
    have HB_6 := Lib.hid (HB_5.out.trans (hdr.mono HB_5.out.size))
    have HC_6 := Lib.hid (HC_5.out.below hdr)
    have HH_6 := Lib.hid (HH_5.out.below hdr (by omega))
    have HY_6 := Lib.hid (HY_5.out.below hdr HY_5.out.lt)
    clear hdr
    have hsd : W3.drew.heap.size = W3.heap.size := rfl
    refine wpAny_take (i := 1) (v := .pointer (some ⟨g, 0, none⟩)) rfl (by kernel_rfl) (by kernel_rfl) (by kernel_rfl) (fun _ _ _ h => h) (Or.inl ⟨by rfl, fun w => ?_⟩) ?_
    · go_simp
    refine wpAny_ready (rs := [0, 2]) (by kernel_rfl) (by simp) ?_
    refine AllReady.cons rfl (fun K hK => ?_) ?_
    · skip
      refine LD.op_ld LD.big_Head _ rfl rfl HY_6.out rfl ?_
      simp only [Act.put, List.getElem_toArray, List.getElem_cons_zero, List.getElem_cons_succ, List.setIfInBounds_toArray, List.set_cons_succ, List.set_cons_zero]
      refine hK _ _ ?_
      clear hK K
      refine wpAny_ready (rs := [2]) (by kernel_rfl) (by simp) ?_
      refine AllReady.cons rfl (fun K hK => ?_) ?_
      · skip
        go_simp
        go_at_call 38
        refine (l13Any_any _ _ g HC_6.out).mono ?_
        rintro e W4 ⟨cs, k2, rfl, ho, hsm, hc_, hk_⟩
        obtain ⟨k2A0, k2n0, k2c0, k2A1, k2n1, k2c1, k2A2, k2n2, k2c2, rfl⟩ := RHead_shape ho.rd
        have HR_7 := Lib.hid (bxK HR_6.out hk_ neR)
        have HS_7 := Lib.hid (bxK HS_6.out hk_ neS)
        have HB_7 := Lib.hid (HB_6.out.trans (hk_.below gwl HB_6.out.size))
        have HC_7 := Lib.hid (hc_)
        have HH_7 := Lib.hid (HH_6.out.keep (w' := W4) fun i h0 h1 h2 => hk_.block i h0 (Nat.ne_of_gt (Nat.lt_of_lt_of_le glH h1)))
        have HY_7 := Lib.hid (bxK HY_6.out hk_ neY)
        have hsW4 := hk_.size
        have HI_7 := Lib.hid (show OwnI RHead W4 (W3.drew.heap.size) (W4.heap.size) [.int .i64 k2.zone, .int .i64 k2.epoch, .int .i64 k2.kind, .int .i64 k2.time, .int .i64 k2.until_, .int .i64 k2.count, .int .i64 k2.root, .int .i64 k2.prev, .slice k2A0 k2n0 k2c0, .int .i64 k2.keys.need, .slice k2A1 k2n1 k2c1, .int .i64 k2.heirs.need, .int .i64 k2.wait, .slice k2A2 k2n2 k2c2, .int .i64 k2.judge.need, .bool k2.frozen] k2 from ho)
        have glI : g < (W3.drew.heap.size) := by omega
        have djRI : (w.heap.size) < (W3.drew.heap.size) ∨ (W4.heap.size) ≤ (w.heap.size) := by omega
        have djSI : (w.heap.size + 1) < (W3.drew.heap.size) ∨ (W4.heap.size) ≤ (w.heap.size + 1) := by omega
        have djYI : (W2.heap.size) < (W3.drew.heap.size) ∨ (W4.heap.size) ≤ (W2.heap.size) := by omega
        obtain ⟨mk2, uk2, vk2⟩ := hsm
        clear ho hc_ hk_
        go_simp
        refine hK _ _ ?_
        clear hK K
        refine wpAny_ready (rs := [3]) (by kernel_rfl) (by simp) ?_
        refine AllReady.cons rfl (fun K hK => ?_) ?_
        · skip
          obtain ⟨VE, hVE⟩ : ∃ u9, puts W4 (w.heap.size) 0 [.int .i64 k.zone, .int .i64 k.epoch, .int .i64 k.kind, .int .i64 k.time, .int .i64 k.until_, .int .i64 k.count, .int .i64 k.root, .int .i64 k.prev, .slice kA0 kn0 kc0, .int .i64 k.keys.need, .slice kA1 kn1 kc1, .int .i64 k.heirs.need, .int .i64 k.wait, .slice kA2 kn2 kc2, .int .i64 k.judge.need, .bool k.frozen] = u9 := ⟨_, rfl⟩
          have hsVE : VE.heap.size = W4.heap.size := by rw [← hVE]; exact puts_size _ _
          have HR_8 := Lib.hid (show Box VE (w.heap.size) [.int .i64 k.zone, .int .i64 k.epoch, .int .i64 k.kind, .int .i64 k.time, .int .i64 k.until_, .int .i64 k.count, .int .i64 k.root, .int .i64 k.prev, .slice kA0 kn0 kc0, .int .i64 k.keys.need, .slice kA1 kn1 kc1, .int .i64 k.heirs.need, .int .i64 k.wait, .slice kA2 kn2 kc2, .int .i64 k.judge.need, .bool k.frozen] from (show Box VE (w.heap.size) ([] ++ [.int .i64 k.zone, .int .i64 k.epoch, .int .i64 k.kind, .int .i64 k.time, .int .i64 k.until_, .int .i64 k.count, .int .i64 k.root, .int .i64 k.prev, .slice kA0 kn0 kc0, .int .i64 k.keys.need, .slice kA1 kn1 kc1, .int .i64 k.heirs.need, .int .i64 k.wait, .slice kA2 kn2 kc2, .int .i64 k.judge.need, .bool k.frozen] ++ []) from pt_mid hVE (show Box W4 (w.heap.size) ([] ++ [.int .i64 0, .int .i64 0, .int .i64 0, .int .i64 0, .int .i64 0, .int .i64 0, .int .i64 0, .int .i64 0, .slice none 0 0, .int .i64 0, .slice none 0 0, .int .i64 0, .int .i64 0, .slice none 0 0, .int .i64 0, .bool false] ++ []) from HR_7.out) rfl rfl))
          have HS_8 := Lib.hid (pt_box hVE HS_7.out apSR)
          have HB_8 := Lib.hid (pt_bel hVE HB_7.out wlR)
          have HH_8 := Lib.hid (pt_own2 hVE HH_7.out djRH)
          have HY_8 := Lib.hid (pt_box hVE HY_7.out apYR)
          have HI_8 := Lib.hid (pt_own2 hVE HI_7.out djRI)
          have HVE := Lib.hid hVE
          clear hVE
          refine LD.op_stV LD.big_Head _ _ rfl rfl rfl HR_7.out rfl (by decide) rfl HVE.out ?_
          simp only [Act.put, List.getElem_toArray, List.getElem_cons_zero, List.getElem_cons_succ, List.setIfInBounds_toArray, List.set_cons_succ, List.set_cons_zero]
          refine hK _ _ ?_
          clear hK K
          refine wpAny_ready (rs := [4]) (by kernel_rfl) (by simp) ?_
          refine AllReady.cons rfl (fun K hK => ?_) ?_
          · skip
            obtain ⟨VF, hVF⟩ : ∃ u9, puts VE (w.heap.size + 1) 0 [.int .i64 k2.zone, .int .i64 k2.epoch, .int .i64 k2.kind, .int .i64 k2.time, .int .i64 k2.until_, .int .i64 k2.count, .int .i64 k2.root, .int .i64 k2.prev, .slice k2A0 k2n0 k2c0, .int .i64 k2.keys.need, .slice k2A1 k2n1 k2c1, .int .i64 k2.heirs.need, .int .i64 k2.wait, .slice k2A2 k2n2 k2c2, .int .i64 k2.judge.need, .bool k2.frozen] = u9 := ⟨_, rfl⟩
            have hsVF : VF.heap.size = VE.heap.size := by rw [← hVF]; exact puts_size _ _
            have HR_9 := Lib.hid (pt_box hVF HR_8.out apRS)
            have HS_9 := Lib.hid (show Box VF (w.heap.size + 1) [.int .i64 k2.zone, .int .i64 k2.epoch, .int .i64 k2.kind, .int .i64 k2.time, .int .i64 k2.until_, .int .i64 k2.count, .int .i64 k2.root, .int .i64 k2.prev, .slice k2A0 k2n0 k2c0, .int .i64 k2.keys.need, .slice k2A1 k2n1 k2c1, .int .i64 k2.heirs.need, .int .i64 k2.wait, .slice k2A2 k2n2 k2c2, .int .i64 k2.judge.need, .bool k2.frozen] from (show Box VF (w.heap.size + 1) ([] ++ [.int .i64 k2.zone, .int .i64 k2.epoch, .int .i64 k2.kind, .int .i64 k2.time, .int .i64 k2.until_, .int .i64 k2.count, .int .i64 k2.root, .int .i64 k2.prev, .slice k2A0 k2n0 k2c0, .int .i64 k2.keys.need, .slice k2A1 k2n1 k2c1, .int .i64 k2.heirs.need, .int .i64 k2.wait, .slice k2A2 k2n2 k2c2, .int .i64 k2.judge.need, .bool k2.frozen] ++ []) from pt_mid hVF (show Box VE (w.heap.size + 1) ([] ++ [.int .i64 0, .int .i64 0, .int .i64 0, .int .i64 0, .int .i64 0, .int .i64 0, .int .i64 0, .int .i64 0, .slice none 0 0, .int .i64 0, .slice none 0 0, .int .i64 0, .int .i64 0, .slice none 0 0, .int .i64 0, .bool false] ++ []) from HS_8.out) rfl rfl))
            have HB_9 := Lib.hid (pt_bel hVF HB_8.out wlS)
            have HH_9 := Lib.hid (pt_own2 hVF HH_8.out djSH)
            have HY_9 := Lib.hid (pt_box hVF HY_8.out apYS)
            have HI_9 := Lib.hid (pt_own2 hVF HI_8.out djSI)
            have HVF := Lib.hid hVF
            clear hVF
            refine LD.op_stV LD.big_Head _ _ rfl rfl rfl HS_8.out rfl (by decide) rfl HVF.out ?_
            simp only [Act.put, List.getElem_toArray, List.getElem_cons_zero, List.getElem_cons_succ, List.setIfInBounds_toArray, List.set_cons_succ, List.set_cons_zero]
            refine hK _ _ ?_
            clear hK K
            refine wpAny_done (by kernel_rfl) ?_ _
            go_wp2
            refine bodyPost_ret (v := .tuple #[.agg #[.int .i64 k.zone, .int .i64 k.epoch, .int .i64 k.kind, .int .i64 k.time, .int .i64 k.until_, .int .i64 k.count, .int .i64 k.root, .int .i64 k.prev, .slice kA0 kn0 kc0, .int .i64 k.keys.need, .slice kA1 kn1 kc1, .int .i64 k.heirs.need, .int .i64 k.wait, .slice kA2 kn2 kc2, .int .i64 k.judge.need, .bool k.frozen], .agg #[.int .i64 k2.zone, .int .i64 k2.epoch, .int .i64 k2.kind, .int .i64 k2.time, .int .i64 k2.until_, .int .i64 k2.count, .int .i64 k2.root, .int .i64 k2.prev, .slice k2A0 k2n0 k2c0, .int .i64 k2.keys.need, .slice k2A1 k2n1 k2c1, .int .i64 k2.heirs.need, .int .i64 k2.wait, .slice k2A2 k2n2 k2c2, .int .i64 k2.judge.need, .bool k2.frozen]]) (LD.res_cell2 LD.big_Head LD.big_Head Try.results11 rfl rfl HR_9.out rfl HS_9.out rfl) rfl ⟨[.int .i64 k.zone, .int .i64 k.epoch, .int .i64 k.kind, .int .i64 k.time, .int .i64 k.until_, .int .i64 k.count, .int .i64 k.root, .int .i64 k.prev, .slice kA0 kn0 kc0, .int .i64 k.keys.need, .slice kA1 kn1 kc1, .int .i64 k.heirs.need, .int .i64 k.wait, .slice kA2 kn2 kc2, .int .i64 k.judge.need, .bool k.frozen], k, [.int .i64 k2.zone, .int .i64 k2.epoch, .int .i64 k2.kind, .int .i64 k2.time, .int .i64 k2.until_, .int .i64 k2.count, .int .i64 k2.root, .int .i64 k2.prev, .slice k2A0 k2n0 k2c0, .int .i64 k2.keys.need, .slice k2A1 k2n1 k2c1, .int .i64 k2.heirs.need, .int .i64 k2.wait, .slice k2A2 k2n2 k2c2, .int .i64 k2.judge.need, .bool k2.frozen], k2, rfl, own_up HH_9.out (by omega), own_up HI_9.out (by omega), by omega, by omega, HB_9.out⟩
          exact AllReady.nil
        exact AllReady.nil
      exact AllReady.nil
    refine AllReady.cons rfl (fun K hK => ?_) ?_
    · skip
      go_simp
      go_at_call 38
      refine (l13Any_any _ _ g HC_6.out).mono ?_
      rintro e W4 ⟨cs, k2, rfl, ho, hsm, hc_, hk_⟩
      obtain ⟨k2A0, k2n0, k2c0, k2A1, k2n1, k2c1, k2A2, k2n2, k2c2, rfl⟩ := RHead_shape ho.rd
      have HR_7 := Lib.hid (bxK HR_6.out hk_ neR)
      have HS_7 := Lib.hid (bxK HS_6.out hk_ neS)
      have HB_7 := Lib.hid (HB_6.out.trans (hk_.below gwl HB_6.out.size))
      have HC_7 := Lib.hid (hc_)
      have HH_7 := Lib.hid (HH_6.out.keep (w' := W4) fun i h0 h1 h2 => hk_.block i h0 (Nat.ne_of_gt (Nat.lt_of_lt_of_le glH h1)))
      have HY_7 := Lib.hid (bxK HY_6.out hk_ neY)
      have hsW4 := hk_.size
      have HI_7 := Lib.hid (show OwnI RHead W4 (W3.drew.heap.size) (W4.heap.size) [.int .i64 k2.zone, .int .i64 k2.epoch, .int .i64 k2.kind, .int .i64 k2.time, .int .i64 k2.until_, .int .i64 k2.count, .int .i64 k2.root, .int .i64 k2.prev, .slice k2A0 k2n0 k2c0, .int .i64 k2.keys.need, .slice k2A1 k2n1 k2c1, .int .i64 k2.heirs.need, .int .i64 k2.wait, .slice k2A2 k2n2 k2c2, .int .i64 k2.judge.need, .bool k2.frozen] k2 from ho)
      have glI : g < (W3.drew.heap.size) := by omega
      have djRI : (w.heap.size) < (W3.drew.heap.size) ∨ (W4.heap.size) ≤ (w.heap.size) := by omega
      have djSI : (w.heap.size + 1) < (W3.drew.heap.size) ∨ (W4.heap.size) ≤ (w.heap.size + 1) := by omega
      have djYI : (W2.heap.size) < (W3.drew.heap.size) ∨ (W4.heap.size) ≤ (W2.heap.size) := by omega
      obtain ⟨mk2, uk2, vk2⟩ := hsm
      clear ho hc_ hk_
      go_simp
      refine hK _ _ ?_
      clear hK K
      refine wpAny_ready (rs := [0]) (by kernel_rfl) (by simp) ?_
      refine AllReady.cons rfl (fun K hK => ?_) ?_
      · skip
        refine LD.op_ld LD.big_Head _ rfl rfl HY_7.out rfl ?_
        simp only [Act.put, List.getElem_toArray, List.getElem_cons_zero, List.getElem_cons_succ, List.setIfInBounds_toArray, List.set_cons_succ, List.set_cons_zero]
        refine hK _ _ ?_
        clear hK K
        refine wpAny_ready (rs := [3]) (by kernel_rfl) (by simp) ?_
        refine AllReady.cons rfl (fun K hK => ?_) ?_
        · skip
          obtain ⟨VE, hVE⟩ : ∃ u9, puts W4 (w.heap.size) 0 [.int .i64 k.zone, .int .i64 k.epoch, .int .i64 k.kind, .int .i64 k.time, .int .i64 k.until_, .int .i64 k.count, .int .i64 k.root, .int .i64 k.prev, .slice kA0 kn0 kc0, .int .i64 k.keys.need, .slice kA1 kn1 kc1, .int .i64 k.heirs.need, .int .i64 k.wait, .slice kA2 kn2 kc2, .int .i64 k.judge.need, .bool k.frozen] = u9 := ⟨_, rfl⟩
          have hsVE : VE.heap.size = W4.heap.size := by rw [← hVE]; exact puts_size _ _
          have HR_8 := Lib.hid (show Box VE (w.heap.size) [.int .i64 k.zone, .int .i64 k.epoch, .int .i64 k.kind, .int .i64 k.time, .int .i64 k.until_, .int .i64 k.count, .int .i64 k.root, .int .i64 k.prev, .slice kA0 kn0 kc0, .int .i64 k.keys.need, .slice kA1 kn1 kc1, .int .i64 k.heirs.need, .int .i64 k.wait, .slice kA2 kn2 kc2, .int .i64 k.judge.need, .bool k.frozen] from (show Box VE (w.heap.size) ([] ++ [.int .i64 k.zone, .int .i64 k.epoch, .int .i64 k.kind, .int .i64 k.time, .int .i64 k.until_, .int .i64 k.count, .int .i64 k.root, .int .i64 k.prev, .slice kA0 kn0 kc0, .int .i64 k.keys.need, .slice kA1 kn1 kc1, .int .i64 k.heirs.need, .int .i64 k.wait, .slice kA2 kn2 kc2, .int .i64 k.judge.need, .bool k.frozen] ++ []) from pt_mid hVE (show Box W4 (w.heap.size) ([] ++ [.int .i64 0, .int .i64 0, .int .i64 0, .int .i64 0, .int .i64 0, .int .i64 0, .int .i64 0, .int .i64 0, .slice none 0 0, .int .i64 0, .slice none 0 0, .int .i64 0, .int .i64 0, .slice none 0 0, .int .i64 0, .bool false] ++ []) from HR_7.out) rfl rfl))
          have HS_8 := Lib.hid (pt_box hVE HS_7.out apSR)
          have HB_8 := Lib.hid (pt_bel hVE HB_7.out wlR)
          have HH_8 := Lib.hid (pt_own2 hVE HH_7.out djRH)
          have HY_8 := Lib.hid (pt_box hVE HY_7.out apYR)
          have HI_8 := Lib.hid (pt_own2 hVE HI_7.out djRI)
          have HVE := Lib.hid hVE
          clear hVE
          refine LD.op_stV LD.big_Head _ _ rfl rfl rfl HR_7.out rfl (by decide) rfl HVE.out ?_
          simp only [Act.put, List.getElem_toArray, List.getElem_cons_zero, List.getElem_cons_succ, List.setIfInBounds_toArray, List.set_cons_succ, List.set_cons_zero]
          refine hK _ _ ?_
          clear hK K
          refine wpAny_ready (rs := [4]) (by kernel_rfl) (by simp) ?_
          refine AllReady.cons rfl (fun K hK => ?_) ?_
          · skip
            obtain ⟨VF, hVF⟩ : ∃ u9, puts VE (w.heap.size + 1) 0 [.int .i64 k2.zone, .int .i64 k2.epoch, .int .i64 k2.kind, .int .i64 k2.time, .int .i64 k2.until_, .int .i64 k2.count, .int .i64 k2.root, .int .i64 k2.prev, .slice k2A0 k2n0 k2c0, .int .i64 k2.keys.need, .slice k2A1 k2n1 k2c1, .int .i64 k2.heirs.need, .int .i64 k2.wait, .slice k2A2 k2n2 k2c2, .int .i64 k2.judge.need, .bool k2.frozen] = u9 := ⟨_, rfl⟩
            have hsVF : VF.heap.size = VE.heap.size := by rw [← hVF]; exact puts_size _ _
            have HR_9 := Lib.hid (pt_box hVF HR_8.out apRS)
            have HS_9 := Lib.hid (show Box VF (w.heap.size + 1) [.int .i64 k2.zone, .int .i64 k2.epoch, .int .i64 k2.kind, .int .i64 k2.time, .int .i64 k2.until_, .int .i64 k2.count, .int .i64 k2.root, .int .i64 k2.prev, .slice k2A0 k2n0 k2c0, .int .i64 k2.keys.need, .slice k2A1 k2n1 k2c1, .int .i64 k2.heirs.need, .int .i64 k2.wait, .slice k2A2 k2n2 k2c2, .int .i64 k2.judge.need, .bool k2.frozen] from (show Box VF (w.heap.size + 1) ([] ++ [.int .i64 k2.zone, .int .i64 k2.epoch, .int .i64 k2.kind, .int .i64 k2.time, .int .i64 k2.until_, .int .i64 k2.count, .int .i64 k2.root, .int .i64 k2.prev, .slice k2A0 k2n0 k2c0, .int .i64 k2.keys.need, .slice k2A1 k2n1 k2c1, .int .i64 k2.heirs.need, .int .i64 k2.wait, .slice k2A2 k2n2 k2c2, .int .i64 k2.judge.need, .bool k2.frozen] ++ []) from pt_mid hVF (show Box VE (w.heap.size + 1) ([] ++ [.int .i64 0, .int .i64 0, .int .i64 0, .int .i64 0, .int .i64 0, .int .i64 0, .int .i64 0, .int .i64 0, .slice none 0 0, .int .i64 0, .slice none 0 0, .int .i64 0, .int .i64 0, .slice none 0 0, .int .i64 0, .bool false] ++ []) from HS_8.out) rfl rfl))
            have HB_9 := Lib.hid (pt_bel hVF HB_8.out wlS)
            have HH_9 := Lib.hid (pt_own2 hVF HH_8.out djSH)
            have HY_9 := Lib.hid (pt_box hVF HY_8.out apYS)
            have HI_9 := Lib.hid (pt_own2 hVF HI_8.out djSI)
            have HVF := Lib.hid hVF
            clear hVF
            refine LD.op_stV LD.big_Head _ _ rfl rfl rfl HS_8.out rfl (by decide) rfl HVF.out ?_
            simp only [Act.put, List.getElem_toArray, List.getElem_cons_zero, List.getElem_cons_succ, List.setIfInBounds_toArray, List.set_cons_succ, List.set_cons_zero]
            refine hK _ _ ?_
            clear hK K
            refine wpAny_done (by kernel_rfl) ?_ _
            go_wp2
            refine bodyPost_ret (v := .tuple #[.agg #[.int .i64 k.zone, .int .i64 k.epoch, .int .i64 k.kind, .int .i64 k.time, .int .i64 k.until_, .int .i64 k.count, .int .i64 k.root, .int .i64 k.prev, .slice kA0 kn0 kc0, .int .i64 k.keys.need, .slice kA1 kn1 kc1, .int .i64 k.heirs.need, .int .i64 k.wait, .slice kA2 kn2 kc2, .int .i64 k.judge.need, .bool k.frozen], .agg #[.int .i64 k2.zone, .int .i64 k2.epoch, .int .i64 k2.kind, .int .i64 k2.time, .int .i64 k2.until_, .int .i64 k2.count, .int .i64 k2.root, .int .i64 k2.prev, .slice k2A0 k2n0 k2c0, .int .i64 k2.keys.need, .slice k2A1 k2n1 k2c1, .int .i64 k2.heirs.need, .int .i64 k2.wait, .slice k2A2 k2n2 k2c2, .int .i64 k2.judge.need, .bool k2.frozen]]) (LD.res_cell2 LD.big_Head LD.big_Head Try.results11 rfl rfl HR_9.out rfl HS_9.out rfl) rfl ⟨[.int .i64 k.zone, .int .i64 k.epoch, .int .i64 k.kind, .int .i64 k.time, .int .i64 k.until_, .int .i64 k.count, .int .i64 k.root, .int .i64 k.prev, .slice kA0 kn0 kc0, .int .i64 k.keys.need, .slice kA1 kn1 kc1, .int .i64 k.heirs.need, .int .i64 k.wait, .slice kA2 kn2 kc2, .int .i64 k.judge.need, .bool k.frozen], k, [.int .i64 k2.zone, .int .i64 k2.epoch, .int .i64 k2.kind, .int .i64 k2.time, .int .i64 k2.until_, .int .i64 k2.count, .int .i64 k2.root, .int .i64 k2.prev, .slice k2A0 k2n0 k2c0, .int .i64 k2.keys.need, .slice k2A1 k2n1 k2c1, .int .i64 k2.heirs.need, .int .i64 k2.wait, .slice k2A2 k2n2 k2c2, .int .i64 k2.judge.need, .bool k2.frozen], k2, rfl, own_up HH_9.out (by omega), own_up HI_9.out (by omega), by omega, by omega, HB_9.out⟩
          exact AllReady.nil
        exact AllReady.nil
      exact AllReady.nil
    exact AllReady.nil
  · skip
    go_wp2_with fail
    refine wp_region_any (by kernel_rfl) ?_
    change wpAny _ _ _ _ _ _ _ (World.drew _)
    have hdr : Below W3.heap.size W3 W3.drew := (Below.refl _ _).drew
    have HR_6 := Lib.hid (HR_5.out.below hdr HR_5.out.lt)
    have HS_6 := Lib.hid (HS_5.out.below hdr HS_5.out.lt)
    have HB_6 := Lib.hid (HB_5.out.trans (hdr.mono HB_5.out.size))
    have HC_6 := Lib.hid (HC_5.out.below hdr)
    have HH_6 := Lib.hid (HH_5.out.below hdr (by omega))
    have HY_6 := Lib.hid (HY_5.out.below hdr HY_5.out.lt)
    clear hdr
    have hsd : W3.drew.heap.size = W3.heap.size := rfl
    refine wpAny_ready (rs := [0, 1]) (by kernel_rfl) (by simp) ?_
    refine AllReady.cons rfl (fun K hK => ?_) ?_
    · skip
      refine LD.op_ld LD.big_Head _ rfl rfl HY_6.out rfl ?_
      simp only [Act.put, List.getElem_toArray, List.getElem_cons_zero, List.getElem_cons_succ, List.setIfInBounds_toArray, List.set_cons_succ, List.set_cons_zero]
      refine hK _ _ ?_
      clear hK K
      refine wpAny_ready (rs := [1]) (by kernel_rfl) (by simp) ?_
      refine AllReady.cons rfl (fun K hK => ?_) ?_
      · skip
        refine LD.op_ld LD.big_Head _ rfl rfl HY_6.out rfl ?_
        simp only [Act.put, List.getElem_toArray, List.getElem_cons_zero, List.getElem_cons_succ, List.setIfInBounds_toArray, List.set_cons_succ, List.set_cons_zero]
        refine hK _ _ ?_
        clear hK K
        refine wpAny_ready (rs := [2]) (by kernel_rfl) (by simp) ?_
        refine AllReady.cons rfl (fun K hK => ?_) ?_
        · skip
          go_simp
          go_at_call 40
          refine (l13Copy_any _ k _ (own_up HH_6.out (by omega)) (by omega)).mono ?_
          rintro e W4 ⟨cs, rfl, ho, hb⟩
          obtain ⟨k2A0, k2n0, k2c0, k2A1, k2n1, k2c1, k2A2, k2n2, k2c2, rfl⟩ := RHead_shape ho.rd
          have HR_7 := Lib.hid (HR_6.out.below hb HR_6.out.lt)
          have HS_7 := Lib.hid (HS_6.out.below hb HS_6.out.lt)
          have HB_7 := Lib.hid (HB_6.out.trans (hb.mono HB_6.out.size))
          have HC_7 := Lib.hid (HC_6.out.below hb)
          have HH_7 := Lib.hid (HH_6.out.below hb (by omega))
          have HY_7 := Lib.hid (HY_6.out.below hb HY_6.out.lt)
          have hsW4 := hb.size
          have HI_7 := Lib.hid (show OwnI RHead W4 (W3.drew.heap.size) (W4.heap.size) [.int .i64 k.zone, .int .i64 k.epoch, .int .i64 k.kind, .int .i64 k.time, .int .i64 k.until_, .int .i64 k.count, .int .i64 k.root, .int .i64 k.prev, .slice k2A0 k2n0 k2c0, .int .i64 k.keys.need, .slice k2A1 k2n1 k2c1, .int .i64 k.heirs.need, .int .i64 k.wait, .slice k2A2 k2n2 k2c2, .int .i64 k.judge.need, .bool k.frozen] k from ho)
          have glI : g < (W3.drew.heap.size) := by omega
          have djRI : (w.heap.size) < (W3.drew.heap.size) ∨ (W4.heap.size) ≤ (w.heap.size) := by omega
          have djSI : (w.heap.size + 1) < (W3.drew.heap.size) ∨ (W4.heap.size) ≤ (w.heap.size + 1) := by omega
          have djYI : (W2.heap.size) < (W3.drew.heap.size) ∨ (W4.heap.size) ≤ (W2.heap.size) := by omega
          clear ho hb
          go_simp
          refine hK _ _ ?_
          clear hK K
          refine wpAny_ready (rs := [3]) (by kernel_rfl) (by simp) ?_
          refine AllReady.cons rfl (fun K hK => ?_) ?_
          · skip
            obtain ⟨VE, hVE⟩ : ∃ u9, puts W4 (w.heap.size) 0 [.int .i64 k.zone, .int .i64 k.epoch, .int .i64 k.kind, .int .i64 k.time, .int .i64 k.until_, .int .i64 k.count, .int .i64 k.root, .int .i64 k.prev, .slice kA0 kn0 kc0, .int .i64 k.keys.need, .slice kA1 kn1 kc1, .int .i64 k.heirs.need, .int .i64 k.wait, .slice kA2 kn2 kc2, .int .i64 k.judge.need, .bool k.frozen] = u9 := ⟨_, rfl⟩
            have hsVE : VE.heap.size = W4.heap.size := by rw [← hVE]; exact puts_size _ _
            have HR_8 := Lib.hid (show Box VE (w.heap.size) [.int .i64 k.zone, .int .i64 k.epoch, .int .i64 k.kind, .int .i64 k.time, .int .i64 k.until_, .int .i64 k.count, .int .i64 k.root, .int .i64 k.prev, .slice kA0 kn0 kc0, .int .i64 k.keys.need, .slice kA1 kn1 kc1, .int .i64 k.heirs.need, .int .i64 k.wait, .slice kA2 kn2 kc2, .int .i64 k.judge.need, .bool k.frozen] from (show Box VE (w.heap.size) ([] ++ [.int .i64 k.zone, .int .i64 k.epoch, .int .i64 k.kind, .int .i64 k.time, .int .i64 k.until_, .int .i64 k.count, .int .i64 k.root, .int .i64 k.prev, .slice kA0 kn0 kc0, .int .i64 k.keys.need, .slice kA1 kn1 kc1, .int .i64 k.heirs.need, .int .i64 k.wait, .slice kA2 kn2 kc2, .int .i64 k.judge.need, .bool k.frozen] ++ []) from pt_mid hVE (show Box W4 (w.heap.size) ([] ++ [.int .i64 0, .int .i64 0, .int .i64 0, .int .i64 0, .int .i64 0, .int .i64 0, .int .i64 0, .int .i64 0, .slice none 0 0, .int .i64 0, .slice none 0 0, .int .i64 0, .int .i64 0, .slice none 0 0, .int .i64 0, .bool false] ++ []) from HR_7.out) rfl rfl))
            have HS_8 := Lib.hid (pt_box hVE HS_7.out apSR)
            have HB_8 := Lib.hid (pt_bel hVE HB_7.out wlR)
            have HH_8 := Lib.hid (pt_own2 hVE HH_7.out djRH)
            have HY_8 := Lib.hid (pt_box hVE HY_7.out apYR)
            have HI_8 := Lib.hid (pt_own2 hVE HI_7.out djRI)
            have HVE := Lib.hid hVE
            clear hVE
            refine LD.op_stV LD.big_Head _ _ rfl rfl rfl HR_7.out rfl (by decide) rfl HVE.out ?_
            simp only [Act.put, List.getElem_toArray, List.getElem_cons_zero, List.getElem_cons_succ, List.setIfInBounds_toArray, List.set_cons_succ, List.set_cons_zero]
            refine hK _ _ ?_
            clear hK K
            refine wpAny_ready (rs := [4]) (by kernel_rfl) (by simp) ?_
            refine AllReady.cons rfl (fun K hK => ?_) ?_
            · skip
              obtain ⟨VF, hVF⟩ : ∃ u9, puts VE (w.heap.size + 1) 0 [.int .i64 k.zone, .int .i64 k.epoch, .int .i64 k.kind, .int .i64 k.time, .int .i64 k.until_, .int .i64 k.count, .int .i64 k.root, .int .i64 k.prev, .slice k2A0 k2n0 k2c0, .int .i64 k.keys.need, .slice k2A1 k2n1 k2c1, .int .i64 k.heirs.need, .int .i64 k.wait, .slice k2A2 k2n2 k2c2, .int .i64 k.judge.need, .bool k.frozen] = u9 := ⟨_, rfl⟩
              have hsVF : VF.heap.size = VE.heap.size := by rw [← hVF]; exact puts_size _ _
              have HR_9 := Lib.hid (pt_box hVF HR_8.out apRS)
              have HS_9 := Lib.hid (show Box VF (w.heap.size + 1) [.int .i64 k.zone, .int .i64 k.epoch, .int .i64 k.kind, .int .i64 k.time, .int .i64 k.until_, .int .i64 k.count, .int .i64 k.root, .int .i64 k.prev, .slice k2A0 k2n0 k2c0, .int .i64 k.keys.need, .slice k2A1 k2n1 k2c1, .int .i64 k.heirs.need, .int .i64 k.wait, .slice k2A2 k2n2 k2c2, .int .i64 k.judge.need, .bool k.frozen] from (show Box VF (w.heap.size + 1) ([] ++ [.int .i64 k.zone, .int .i64 k.epoch, .int .i64 k.kind, .int .i64 k.time, .int .i64 k.until_, .int .i64 k.count, .int .i64 k.root, .int .i64 k.prev, .slice k2A0 k2n0 k2c0, .int .i64 k.keys.need, .slice k2A1 k2n1 k2c1, .int .i64 k.heirs.need, .int .i64 k.wait, .slice k2A2 k2n2 k2c2, .int .i64 k.judge.need, .bool k.frozen] ++ []) from pt_mid hVF (show Box VE (w.heap.size + 1) ([] ++ [.int .i64 0, .int .i64 0, .int .i64 0, .int .i64 0, .int .i64 0, .int .i64 0, .int .i64 0, .int .i64 0, .slice none 0 0, .int .i64 0, .slice none 0 0, .int .i64 0, .int .i64 0, .slice none 0 0, .int .i64 0, .bool false] ++ []) from HS_8.out) rfl rfl))
              have HB_9 := Lib.hid (pt_bel hVF HB_8.out wlS)
              have HH_9 := Lib.hid (pt_own2 hVF HH_8.out djSH)
              have HY_9 := Lib.hid (pt_box hVF HY_8.out apYS)
              have HI_9 := Lib.hid (pt_own2 hVF HI_8.out djSI)
              have HVF := Lib.hid hVF
              clear hVF
              refine LD.op_stV LD.big_Head _ _ rfl rfl rfl HS_8.out rfl (by decide) rfl HVF.out ?_
              simp only [Act.put, List.getElem_toArray, List.getElem_cons_zero, List.getElem_cons_succ, List.setIfInBounds_toArray, List.set_cons_succ, List.set_cons_zero]
              refine hK _ _ ?_
              clear hK K
              refine wpAny_done (by kernel_rfl) ?_ _
              go_wp2
              refine bodyPost_ret (v := .tuple #[.agg #[.int .i64 k.zone, .int .i64 k.epoch, .int .i64 k.kind, .int .i64 k.time, .int .i64 k.until_, .int .i64 k.count, .int .i64 k.root, .int .i64 k.prev, .slice kA0 kn0 kc0, .int .i64 k.keys.need, .slice kA1 kn1 kc1, .int .i64 k.heirs.need, .int .i64 k.wait, .slice kA2 kn2 kc2, .int .i64 k.judge.need, .bool k.frozen], .agg #[.int .i64 k.zone, .int .i64 k.epoch, .int .i64 k.kind, .int .i64 k.time, .int .i64 k.until_, .int .i64 k.count, .int .i64 k.root, .int .i64 k.prev, .slice k2A0 k2n0 k2c0, .int .i64 k.keys.need, .slice k2A1 k2n1 k2c1, .int .i64 k.heirs.need, .int .i64 k.wait, .slice k2A2 k2n2 k2c2, .int .i64 k.judge.need, .bool k.frozen]]) (LD.res_cell2 LD.big_Head LD.big_Head Try.results11 rfl rfl HR_9.out rfl HS_9.out rfl) rfl ⟨[.int .i64 k.zone, .int .i64 k.epoch, .int .i64 k.kind, .int .i64 k.time, .int .i64 k.until_, .int .i64 k.count, .int .i64 k.root, .int .i64 k.prev, .slice kA0 kn0 kc0, .int .i64 k.keys.need, .slice kA1 kn1 kc1, .int .i64 k.heirs.need, .int .i64 k.wait, .slice kA2 kn2 kc2, .int .i64 k.judge.need, .bool k.frozen], k, [.int .i64 k.zone, .int .i64 k.epoch, .int .i64 k.kind, .int .i64 k.time, .int .i64 k.until_, .int .i64 k.count, .int .i64 k.root, .int .i64 k.prev, .slice k2A0 k2n0 k2c0, .int .i64 k.keys.need, .slice k2A1 k2n1 k2c1, .int .i64 k.heirs.need, .int .i64 k.wait, .slice k2A2 k2n2 k2c2, .int .i64 k.judge.need, .bool k.frozen], k, rfl, own_up HH_9.out (by omega), own_up HI_9.out (by omega), by omega, by omega, HB_9.out⟩
            exact AllReady.nil
          exact AllReady.nil
        exact AllReady.nil
      exact AllReady.nil
    refine AllReady.cons rfl (fun K hK => ?_) ?_
    · skip
      refine LD.op_ld LD.big_Head _ rfl rfl HY_6.out rfl ?_
      simp only [Act.put, List.getElem_toArray, List.getElem_cons_zero, List.getElem_cons_succ, List.setIfInBounds_toArray, List.set_cons_succ, List.set_cons_zero]
      refine hK _ _ ?_
      clear hK K
      refine wpAny_ready (rs := [0, 2]) (by kernel_rfl) (by simp) ?_
      refine AllReady.cons rfl (fun K hK => ?_) ?_
      · skip
        refine LD.op_ld LD.big_Head _ rfl rfl HY_6.out rfl ?_
        simp only [Act.put, List.getElem_toArray, List.getElem_cons_zero, List.getElem_cons_succ, List.setIfInBounds_toArray, List.set_cons_succ, List.set_cons_zero]
        refine hK _ _ ?_
        clear hK K
        refine wpAny_ready (rs := [2]) (by kernel_rfl) (by simp) ?_
        refine AllReady.cons rfl (fun K hK => ?_) ?_
        · skip
          go_simp
          go_at_call 40
          refine (l13Copy_any _ k _ (own_up HH_6.out (by omega)) (by omega)).mono ?_
          rintro e W4 ⟨cs, rfl, ho, hb⟩
          obtain ⟨k2A0, k2n0, k2c0, k2A1, k2n1, k2c1, k2A2, k2n2, k2c2, rfl⟩ := RHead_shape ho.rd
          have HR_7 := Lib.hid (HR_6.out.below hb HR_6.out.lt)
          have HS_7 := Lib.hid (HS_6.out.below hb HS_6.out.lt)
          have HB_7 := Lib.hid (HB_6.out.trans (hb.mono HB_6.out.size))
          have HC_7 := Lib.hid (HC_6.out.below hb)
          have HH_7 := Lib.hid (HH_6.out.below hb (by omega))
          have HY_7 := Lib.hid (HY_6.out.below hb HY_6.out.lt)
          have hsW4 := hb.size
          have HI_7 := Lib.hid (show OwnI RHead W4 (W3.drew.heap.size) (W4.heap.size) [.int .i64 k.zone, .int .i64 k.epoch, .int .i64 k.kind, .int .i64 k.time, .int .i64 k.until_, .int .i64 k.count, .int .i64 k.root, .int .i64 k.prev, .slice k2A0 k2n0 k2c0, .int .i64 k.keys.need, .slice k2A1 k2n1 k2c1, .int .i64 k.heirs.need, .int .i64 k.wait, .slice k2A2 k2n2 k2c2, .int .i64 k.judge.need, .bool k.frozen] k from ho)
          have glI : g < (W3.drew.heap.size) := by omega
          have djRI : (w.heap.size) < (W3.drew.heap.size) ∨ (W4.heap.size) ≤ (w.heap.size) := by omega
          have djSI : (w.heap.size + 1) < (W3.drew.heap.size) ∨ (W4.heap.size) ≤ (w.heap.size + 1) := by omega
          have djYI : (W2.heap.size) < (W3.drew.heap.size) ∨ (W4.heap.size) ≤ (W2.heap.size) := by omega
          clear ho hb
          go_simp
          refine hK _ _ ?_
          clear hK K
          refine wpAny_ready (rs := [3]) (by kernel_rfl) (by simp) ?_
          refine AllReady.cons rfl (fun K hK => ?_) ?_
          · skip
            obtain ⟨VE, hVE⟩ : ∃ u9, puts W4 (w.heap.size) 0 [.int .i64 k.zone, .int .i64 k.epoch, .int .i64 k.kind, .int .i64 k.time, .int .i64 k.until_, .int .i64 k.count, .int .i64 k.root, .int .i64 k.prev, .slice kA0 kn0 kc0, .int .i64 k.keys.need, .slice kA1 kn1 kc1, .int .i64 k.heirs.need, .int .i64 k.wait, .slice kA2 kn2 kc2, .int .i64 k.judge.need, .bool k.frozen] = u9 := ⟨_, rfl⟩
            have hsVE : VE.heap.size = W4.heap.size := by rw [← hVE]; exact puts_size _ _
            have HR_8 := Lib.hid (show Box VE (w.heap.size) [.int .i64 k.zone, .int .i64 k.epoch, .int .i64 k.kind, .int .i64 k.time, .int .i64 k.until_, .int .i64 k.count, .int .i64 k.root, .int .i64 k.prev, .slice kA0 kn0 kc0, .int .i64 k.keys.need, .slice kA1 kn1 kc1, .int .i64 k.heirs.need, .int .i64 k.wait, .slice kA2 kn2 kc2, .int .i64 k.judge.need, .bool k.frozen] from (show Box VE (w.heap.size) ([] ++ [.int .i64 k.zone, .int .i64 k.epoch, .int .i64 k.kind, .int .i64 k.time, .int .i64 k.until_, .int .i64 k.count, .int .i64 k.root, .int .i64 k.prev, .slice kA0 kn0 kc0, .int .i64 k.keys.need, .slice kA1 kn1 kc1, .int .i64 k.heirs.need, .int .i64 k.wait, .slice kA2 kn2 kc2, .int .i64 k.judge.need, .bool k.frozen] ++ []) from pt_mid hVE (show Box W4 (w.heap.size) ([] ++ [.int .i64 0, .int .i64 0, .int .i64 0, .int .i64 0, .int .i64 0, .int .i64 0, .int .i64 0, .int .i64 0, .slice none 0 0, .int .i64 0, .slice none 0 0, .int .i64 0, .int .i64 0, .slice none 0 0, .int .i64 0, .bool false] ++ []) from HR_7.out) rfl rfl))
            have HS_8 := Lib.hid (pt_box hVE HS_7.out apSR)
            have HB_8 := Lib.hid (pt_bel hVE HB_7.out wlR)
            have HH_8 := Lib.hid (pt_own2 hVE HH_7.out djRH)
            have HY_8 := Lib.hid (pt_box hVE HY_7.out apYR)
            have HI_8 := Lib.hid (pt_own2 hVE HI_7.out djRI)
            have HVE := Lib.hid hVE
            clear hVE
            refine LD.op_stV LD.big_Head _ _ rfl rfl rfl HR_7.out rfl (by decide) rfl HVE.out ?_
            simp only [Act.put, List.getElem_toArray, List.getElem_cons_zero, List.getElem_cons_succ, List.setIfInBounds_toArray, List.set_cons_succ, List.set_cons_zero]
            refine hK _ _ ?_
            clear hK K
            refine wpAny_ready (rs := [4]) (by kernel_rfl) (by simp) ?_
            refine AllReady.cons rfl (fun K hK => ?_) ?_
            · skip
              obtain ⟨VF, hVF⟩ : ∃ u9, puts VE (w.heap.size + 1) 0 [.int .i64 k.zone, .int .i64 k.epoch, .int .i64 k.kind, .int .i64 k.time, .int .i64 k.until_, .int .i64 k.count, .int .i64 k.root, .int .i64 k.prev, .slice k2A0 k2n0 k2c0, .int .i64 k.keys.need, .slice k2A1 k2n1 k2c1, .int .i64 k.heirs.need, .int .i64 k.wait, .slice k2A2 k2n2 k2c2, .int .i64 k.judge.need, .bool k.frozen] = u9 := ⟨_, rfl⟩
              have hsVF : VF.heap.size = VE.heap.size := by rw [← hVF]; exact puts_size _ _
              have HR_9 := Lib.hid (pt_box hVF HR_8.out apRS)
              have HS_9 := Lib.hid (show Box VF (w.heap.size + 1) [.int .i64 k.zone, .int .i64 k.epoch, .int .i64 k.kind, .int .i64 k.time, .int .i64 k.until_, .int .i64 k.count, .int .i64 k.root, .int .i64 k.prev, .slice k2A0 k2n0 k2c0, .int .i64 k.keys.need, .slice k2A1 k2n1 k2c1, .int .i64 k.heirs.need, .int .i64 k.wait, .slice k2A2 k2n2 k2c2, .int .i64 k.judge.need, .bool k.frozen] from (show Box VF (w.heap.size + 1) ([] ++ [.int .i64 k.zone, .int .i64 k.epoch, .int .i64 k.kind, .int .i64 k.time, .int .i64 k.until_, .int .i64 k.count, .int .i64 k.root, .int .i64 k.prev, .slice k2A0 k2n0 k2c0, .int .i64 k.keys.need, .slice k2A1 k2n1 k2c1, .int .i64 k.heirs.need, .int .i64 k.wait, .slice k2A2 k2n2 k2c2, .int .i64 k.judge.need, .bool k.frozen] ++ []) from pt_mid hVF (show Box VE (w.heap.size + 1) ([] ++ [.int .i64 0, .int .i64 0, .int .i64 0, .int .i64 0, .int .i64 0, .int .i64 0, .int .i64 0, .int .i64 0, .slice none 0 0, .int .i64 0, .slice none 0 0, .int .i64 0, .int .i64 0, .slice none 0 0, .int .i64 0, .bool false] ++ []) from HS_8.out) rfl rfl))
              have HB_9 := Lib.hid (pt_bel hVF HB_8.out wlS)
              have HH_9 := Lib.hid (pt_own2 hVF HH_8.out djSH)
              have HY_9 := Lib.hid (pt_box hVF HY_8.out apYS)
              have HI_9 := Lib.hid (pt_own2 hVF HI_8.out djSI)
              have HVF := Lib.hid hVF
              clear hVF
              refine LD.op_stV LD.big_Head _ _ rfl rfl rfl HS_8.out rfl (by decide) rfl HVF.out ?_
              simp only [Act.put, List.getElem_toArray, List.getElem_cons_zero, List.getElem_cons_succ, List.setIfInBounds_toArray, List.set_cons_succ, List.set_cons_zero]
              refine hK _ _ ?_
              clear hK K
              refine wpAny_done (by kernel_rfl) ?_ _
              go_wp2
              refine bodyPost_ret (v := .tuple #[.agg #[.int .i64 k.zone, .int .i64 k.epoch, .int .i64 k.kind, .int .i64 k.time, .int .i64 k.until_, .int .i64 k.count, .int .i64 k.root, .int .i64 k.prev, .slice kA0 kn0 kc0, .int .i64 k.keys.need, .slice kA1 kn1 kc1, .int .i64 k.heirs.need, .int .i64 k.wait, .slice kA2 kn2 kc2, .int .i64 k.judge.need, .bool k.frozen], .agg #[.int .i64 k.zone, .int .i64 k.epoch, .int .i64 k.kind, .int .i64 k.time, .int .i64 k.until_, .int .i64 k.count, .int .i64 k.root, .int .i64 k.prev, .slice k2A0 k2n0 k2c0, .int .i64 k.keys.need, .slice k2A1 k2n1 k2c1, .int .i64 k.heirs.need, .int .i64 k.wait, .slice k2A2 k2n2 k2c2, .int .i64 k.judge.need, .bool k.frozen]]) (LD.res_cell2 LD.big_Head LD.big_Head Try.results11 rfl rfl HR_9.out rfl HS_9.out rfl) rfl ⟨[.int .i64 k.zone, .int .i64 k.epoch, .int .i64 k.kind, .int .i64 k.time, .int .i64 k.until_, .int .i64 k.count, .int .i64 k.root, .int .i64 k.prev, .slice kA0 kn0 kc0, .int .i64 k.keys.need, .slice kA1 kn1 kc1, .int .i64 k.heirs.need, .int .i64 k.wait, .slice kA2 kn2 kc2, .int .i64 k.judge.need, .bool k.frozen], k, [.int .i64 k.zone, .int .i64 k.epoch, .int .i64 k.kind, .int .i64 k.time, .int .i64 k.until_, .int .i64 k.count, .int .i64 k.root, .int .i64 k.prev, .slice k2A0 k2n0 k2c0, .int .i64 k.keys.need, .slice k2A1 k2n1 k2c1, .int .i64 k.heirs.need, .int .i64 k.wait, .slice k2A2 k2n2 k2c2, .int .i64 k.judge.need, .bool k.frozen], k, rfl, own_up HH_9.out (by omega), own_up HI_9.out (by omega), by omega, by omega, HB_9.out⟩
            exact AllReady.nil
          exact AllReady.nil
        exact AllReady.nil
      refine AllReady.cons rfl (fun K hK => ?_) ?_
      · skip
        go_simp
        go_at_call 40
        refine (l13Copy_any _ k _ (own_up HH_6.out (by omega)) (by omega)).mono ?_
        rintro e W4 ⟨cs, rfl, ho, hb⟩
        obtain ⟨k2A0, k2n0, k2c0, k2A1, k2n1, k2c1, k2A2, k2n2, k2c2, rfl⟩ := RHead_shape ho.rd
        have HR_7 := Lib.hid (HR_6.out.below hb HR_6.out.lt)
        have HS_7 := Lib.hid (HS_6.out.below hb HS_6.out.lt)
        have HB_7 := Lib.hid (HB_6.out.trans (hb.mono HB_6.out.size))
        have HC_7 := Lib.hid (HC_6.out.below hb)
        have HH_7 := Lib.hid (HH_6.out.below hb (by omega))
        have HY_7 := Lib.hid (HY_6.out.below hb HY_6.out.lt)
        have hsW4 := hb.size
        have HI_7 := Lib.hid (show OwnI RHead W4 (W3.drew.heap.size) (W4.heap.size) [.int .i64 k.zone, .int .i64 k.epoch, .int .i64 k.kind, .int .i64 k.time, .int .i64 k.until_, .int .i64 k.count, .int .i64 k.root, .int .i64 k.prev, .slice k2A0 k2n0 k2c0, .int .i64 k.keys.need, .slice k2A1 k2n1 k2c1, .int .i64 k.heirs.need, .int .i64 k.wait, .slice k2A2 k2n2 k2c2, .int .i64 k.judge.need, .bool k.frozen] k from ho)
        have glI : g < (W3.drew.heap.size) := by omega
        have djRI : (w.heap.size) < (W3.drew.heap.size) ∨ (W4.heap.size) ≤ (w.heap.size) := by omega
        have djSI : (w.heap.size + 1) < (W3.drew.heap.size) ∨ (W4.heap.size) ≤ (w.heap.size + 1) := by omega
        have djYI : (W2.heap.size) < (W3.drew.heap.size) ∨ (W4.heap.size) ≤ (W2.heap.size) := by omega
        clear ho hb
        go_simp
        refine hK _ _ ?_
        clear hK K
        refine wpAny_ready (rs := [0]) (by kernel_rfl) (by simp) ?_
        refine AllReady.cons rfl (fun K hK => ?_) ?_
        · skip
          refine LD.op_ld LD.big_Head _ rfl rfl HY_7.out rfl ?_
          simp only [Act.put, List.getElem_toArray, List.getElem_cons_zero, List.getElem_cons_succ, List.setIfInBounds_toArray, List.set_cons_succ, List.set_cons_zero]
          refine hK _ _ ?_
          clear hK K
          refine wpAny_ready (rs := [3]) (by kernel_rfl) (by simp) ?_
          refine AllReady.cons rfl (fun K hK => ?_) ?_
          · skip
            obtain ⟨VE, hVE⟩ : ∃ u9, puts W4 (w.heap.size) 0 [.int .i64 k.zone, .int .i64 k.epoch, .int .i64 k.kind, .int .i64 k.time, .int .i64 k.until_, .int .i64 k.count, .int .i64 k.root, .int .i64 k.prev, .slice kA0 kn0 kc0, .int .i64 k.keys.need, .slice kA1 kn1 kc1, .int .i64 k.heirs.need, .int .i64 k.wait, .slice kA2 kn2 kc2, .int .i64 k.judge.need, .bool k.frozen] = u9 := ⟨_, rfl⟩
            have hsVE : VE.heap.size = W4.heap.size := by rw [← hVE]; exact puts_size _ _
            have HR_8 := Lib.hid (show Box VE (w.heap.size) [.int .i64 k.zone, .int .i64 k.epoch, .int .i64 k.kind, .int .i64 k.time, .int .i64 k.until_, .int .i64 k.count, .int .i64 k.root, .int .i64 k.prev, .slice kA0 kn0 kc0, .int .i64 k.keys.need, .slice kA1 kn1 kc1, .int .i64 k.heirs.need, .int .i64 k.wait, .slice kA2 kn2 kc2, .int .i64 k.judge.need, .bool k.frozen] from (show Box VE (w.heap.size) ([] ++ [.int .i64 k.zone, .int .i64 k.epoch, .int .i64 k.kind, .int .i64 k.time, .int .i64 k.until_, .int .i64 k.count, .int .i64 k.root, .int .i64 k.prev, .slice kA0 kn0 kc0, .int .i64 k.keys.need, .slice kA1 kn1 kc1, .int .i64 k.heirs.need, .int .i64 k.wait, .slice kA2 kn2 kc2, .int .i64 k.judge.need, .bool k.frozen] ++ []) from pt_mid hVE (show Box W4 (w.heap.size) ([] ++ [.int .i64 0, .int .i64 0, .int .i64 0, .int .i64 0, .int .i64 0, .int .i64 0, .int .i64 0, .int .i64 0, .slice none 0 0, .int .i64 0, .slice none 0 0, .int .i64 0, .int .i64 0, .slice none 0 0, .int .i64 0, .bool false] ++ []) from HR_7.out) rfl rfl))
            have HS_8 := Lib.hid (pt_box hVE HS_7.out apSR)
            have HB_8 := Lib.hid (pt_bel hVE HB_7.out wlR)
            have HH_8 := Lib.hid (pt_own2 hVE HH_7.out djRH)
            have HY_8 := Lib.hid (pt_box hVE HY_7.out apYR)
            have HI_8 := Lib.hid (pt_own2 hVE HI_7.out djRI)
            have HVE := Lib.hid hVE
            clear hVE
            refine LD.op_stV LD.big_Head _ _ rfl rfl rfl HR_7.out rfl (by decide) rfl HVE.out ?_
            simp only [Act.put, List.getElem_toArray, List.getElem_cons_zero, List.getElem_cons_succ, List.setIfInBounds_toArray, List.set_cons_succ, List.set_cons_zero]
            refine hK _ _ ?_
            clear hK K
            refine wpAny_ready (rs := [4]) (by kernel_rfl) (by simp) ?_
            refine AllReady.cons rfl (fun K hK => ?_) ?_
            · skip
              obtain ⟨VF, hVF⟩ : ∃ u9, puts VE (w.heap.size + 1) 0 [.int .i64 k.zone, .int .i64 k.epoch, .int .i64 k.kind, .int .i64 k.time, .int .i64 k.until_, .int .i64 k.count, .int .i64 k.root, .int .i64 k.prev, .slice k2A0 k2n0 k2c0, .int .i64 k.keys.need, .slice k2A1 k2n1 k2c1, .int .i64 k.heirs.need, .int .i64 k.wait, .slice k2A2 k2n2 k2c2, .int .i64 k.judge.need, .bool k.frozen] = u9 := ⟨_, rfl⟩
              have hsVF : VF.heap.size = VE.heap.size := by rw [← hVF]; exact puts_size _ _
              have HR_9 := Lib.hid (pt_box hVF HR_8.out apRS)
              have HS_9 := Lib.hid (show Box VF (w.heap.size + 1) [.int .i64 k.zone, .int .i64 k.epoch, .int .i64 k.kind, .int .i64 k.time, .int .i64 k.until_, .int .i64 k.count, .int .i64 k.root, .int .i64 k.prev, .slice k2A0 k2n0 k2c0, .int .i64 k.keys.need, .slice k2A1 k2n1 k2c1, .int .i64 k.heirs.need, .int .i64 k.wait, .slice k2A2 k2n2 k2c2, .int .i64 k.judge.need, .bool k.frozen] from (show Box VF (w.heap.size + 1) ([] ++ [.int .i64 k.zone, .int .i64 k.epoch, .int .i64 k.kind, .int .i64 k.time, .int .i64 k.until_, .int .i64 k.count, .int .i64 k.root, .int .i64 k.prev, .slice k2A0 k2n0 k2c0, .int .i64 k.keys.need, .slice k2A1 k2n1 k2c1, .int .i64 k.heirs.need, .int .i64 k.wait, .slice k2A2 k2n2 k2c2, .int .i64 k.judge.need, .bool k.frozen] ++ []) from pt_mid hVF (show Box VE (w.heap.size + 1) ([] ++ [.int .i64 0, .int .i64 0, .int .i64 0, .int .i64 0, .int .i64 0, .int .i64 0, .int .i64 0, .int .i64 0, .slice none 0 0, .int .i64 0, .slice none 0 0, .int .i64 0, .int .i64 0, .slice none 0 0, .int .i64 0, .bool false] ++ []) from HS_8.out) rfl rfl))
              have HB_9 := Lib.hid (pt_bel hVF HB_8.out wlS)
              have HH_9 := Lib.hid (pt_own2 hVF HH_8.out djSH)
              have HY_9 := Lib.hid (pt_box hVF HY_8.out apYS)
              have HI_9 := Lib.hid (pt_own2 hVF HI_8.out djSI)
              have HVF := Lib.hid hVF
              clear hVF
              refine LD.op_stV LD.big_Head _ _ rfl rfl rfl HS_8.out rfl (by decide) rfl HVF.out ?_
              simp only [Act.put, List.getElem_toArray, List.getElem_cons_zero, List.getElem_cons_succ, List.setIfInBounds_toArray, List.set_cons_succ, List.set_cons_zero]
              refine hK _ _ ?_
              clear hK K
              refine wpAny_done (by kernel_rfl) ?_ _
              go_wp2
              refine bodyPost_ret (v := .tuple #[.agg #[.int .i64 k.zone, .int .i64 k.epoch, .int .i64 k.kind, .int .i64 k.time, .int .i64 k.until_, .int .i64 k.count, .int .i64 k.root, .int .i64 k.prev, .slice kA0 kn0 kc0, .int .i64 k.keys.need, .slice kA1 kn1 kc1, .int .i64 k.heirs.need, .int .i64 k.wait, .slice kA2 kn2 kc2, .int .i64 k.judge.need, .bool k.frozen], .agg #[.int .i64 k.zone, .int .i64 k.epoch, .int .i64 k.kind, .int .i64 k.time, .int .i64 k.until_, .int .i64 k.count, .int .i64 k.root, .int .i64 k.prev, .slice k2A0 k2n0 k2c0, .int .i64 k.keys.need, .slice k2A1 k2n1 k2c1, .int .i64 k.heirs.need, .int .i64 k.wait, .slice k2A2 k2n2 k2c2, .int .i64 k.judge.need, .bool k.frozen]]) (LD.res_cell2 LD.big_Head LD.big_Head Try.results11 rfl rfl HR_9.out rfl HS_9.out rfl) rfl ⟨[.int .i64 k.zone, .int .i64 k.epoch, .int .i64 k.kind, .int .i64 k.time, .int .i64 k.until_, .int .i64 k.count, .int .i64 k.root, .int .i64 k.prev, .slice kA0 kn0 kc0, .int .i64 k.keys.need, .slice kA1 kn1 kc1, .int .i64 k.heirs.need, .int .i64 k.wait, .slice kA2 kn2 kc2, .int .i64 k.judge.need, .bool k.frozen], k, [.int .i64 k.zone, .int .i64 k.epoch, .int .i64 k.kind, .int .i64 k.time, .int .i64 k.until_, .int .i64 k.count, .int .i64 k.root, .int .i64 k.prev, .slice k2A0 k2n0 k2c0, .int .i64 k.keys.need, .slice k2A1 k2n1 k2c1, .int .i64 k.heirs.need, .int .i64 k.wait, .slice k2A2 k2n2 k2c2, .int .i64 k.judge.need, .bool k.frozen], k, rfl, own_up HH_9.out (by omega), own_up HI_9.out (by omega), by omega, by omega, HB_9.out⟩
            exact AllReady.nil
          exact AllReady.nil
        exact AllReady.nil
      exact AllReady.nil
    exact AllReady.nil
set_option maxHeartbeats 4000000 in
theorem drawNoKeys_any (w : World) (A : Option Addr) (n c : Nat) (hn : n ≤ maxLen) (hr : BRow w w.heap.size A n) :
    Calls Try.prog 13 #[.slice A n c] w (DrK1 w) := by
  obtain ⟨V, hV⟩ : ∃ V, V = w.alloc (.cells #[.slice none 0 0, .int .i64 0] 26) := ⟨_, rfl⟩
  have hbel : Below w.heap.size w V := by rw [hV]; exact (Below.refl _ _).alloc (by first | (simp; done) | (simp; omega)) _
  have hsV : V.heap.size = w.heap.size + 1 := by rw [hV]; simp
  have HR_1 := Lib.hid (show Box V (w.heap.size) [.slice none 0 0, .int .i64 0] from by
    rw [hV]
    have := (Box.new w #[.slice none 0 0, .int .i64 0] 26)
    simpa using this)
  have HB_1 := Lib.hid hbel
  have HRR := Lib.hid ((hr.below hbel).more hbel.size)
  have HV := Lib.hid hV
  clear hV hbel hr
  go_enter Try.func13, Try.ntmps13
  go_wp2_with fail
  rw [show w.alloc (.cells #[.slice none 0 0, .int .i64 0] 26) = V from HV.out.symm]
  refine (l1New_any _ A n c hn HRR.out).mono ?_
  rintro e W1 ⟨g, rfl, hc1, hb1⟩
  have HR_2 := Lib.hid (HR_1.out.below hb1 HR_1.out.lt)
  have HB_2 := Lib.hid (HB_1.out.trans (hb1.mono HB_1.out.size))
  have hsW1 := hb1.size
  have hgB := hc1.1
  have hgl := hc1.lt
  have gwl : w.heap.size ≤ g := by omega
  have HC_2 := Lib.hid hc1
  clear hc1 hb1
  have neR : (w.heap.size) ≠ g := by omega
  have wlR : w.heap.size ≤ (w.heap.size) := by omega
  go_wp2_with fail
  refine (l1Once_any 2 _ _ g HC_2.out).mono ?_
  rintro e W2 ⟨v, ⟨b1, rfl⟩, rfl, hc_, hk_⟩
  have HR_3 := Lib.hid (bxK HR_2.out hk_ neR)
  have HB_3 := Lib.hid (HB_2.out.trans (hk_.below gwl HB_2.out.size))
  have HC_3 := Lib.hid (hc_)
  have hsW2 := hk_.size
  clear hc_ hk_
  rcases b1 with _ | _
  · skip
    go_wp2_with fail
    refine (l6Any_any _ _ g HC_3.out).mono ?_
    rintro e W3 ⟨A9, n9, c9, l9, d9, rfl, hd, ho, hc_, hk_⟩
    have HR_4 := Lib.hid (bxK HR_3.out hk_ neR)
    have HB_4 := Lib.hid (HB_3.out.trans (hk_.below gwl HB_3.out.size))
    have HC_4 := Lib.hid (hc_)
    have hsW3 := hk_.size
    have hl9 := any_small hd
    have HP9_4 := Lib.hid (show OwnI RKeys W3 (W2.heap.size) (W3.heap.size) [.slice A9 n9 c9, .int .i64 d9] ⟨l9, d9⟩ from (show OwnI RKeys W3 (W2.heap.size + 1) W3.heap.size [.slice A9 n9 c9, .int .i64 d9] ⟨l9, d9⟩ from RKeys_own.2 ⟨A9, n9, c9, rfl, ho, (show In .i64 d9 from inI64 (by omega) (by omega))⟩).wide (Nat.le_succ _) (Nat.le_refl _))
    have glP9 : g < (W2.heap.size) := by omega
    have djRP9 : (w.heap.size) < (W2.heap.size) ∨ (W3.heap.size) ≤ (w.heap.size) := by omega
    clear hd ho hc_ hk_
    have zR0 := HR_4.out.cell (j := 0) rfl
    have fR0 := HR_4.out.warm (j := 0) rfl
    have zR1 := HR_4.out.cell (j := 1) rfl
    have fR1 := HR_4.out.warm (j := 1) rfl
    go_wp2
    clear zR0 fR0 zR1 fR1
    obtain ⟨VF, hVF⟩ : ∃ u9, puts W3 (w.heap.size) 0 [.slice A9 n9 c9, .int .i64 d9] = u9 := ⟨_, rfl⟩
    have hsVF : VF.heap.size = W3.heap.size := by rw [← hVF]; exact puts_size _ _
    have HR_5 := Lib.hid (show Box VF (w.heap.size) [.slice A9 n9 c9, .int .i64 d9] from pt_self hVF HR_4.out (by simp))
    have HB_5 := Lib.hid (pt_bel hVF HB_4.out wlR)
    have HP9_5 := Lib.hid (pt_own2 hVF HP9_4.out djRP9)
    have HVF := Lib.hid hVF
    clear hVF
    rw [show (W3.setCell ⟨w.heap.size, 0, none⟩ (.slice A9 n9 c9)).setCell ⟨w.heap.size, 1, none⟩ (.int .i64 d9) = VF from HVF.out]
    have zR0 := HR_5.out.cell (j := 0) rfl
    have zR1 := HR_5.out.cell (j := 1) rfl
    refine bodyPost_ret (v := .agg #[.slice A9 n9 c9, .int .i64 d9]) (by simp [results, Try.results13, go_sem, zR0, zR1]) rfl ⟨_, _, _, ⟨l9, d9⟩, rfl, RKeys.more HP9_5.out.rd fun i hi => Nat.lt_of_lt_of_le hi (by omega), hl9.1, HB_5.out⟩
  · skip
    go_wp2_with fail
    refine (l1Below_any 2 _ _ g HC_3.out).mono ?_
    rintro e W3 ⟨v, ⟨x, hx, hx9, rfl⟩, rfl, hc_, hk_⟩
    have HR_4 := Lib.hid (bxK HR_3.out hk_ neR)
    have HB_4 := Lib.hid (HB_3.out.trans (hk_.below gwl HB_3.out.size))
    have HC_4 := Lib.hid (hc_)
    have hsW3 := hk_.size
    clear hc_ hk_
    have zR0 := HR_4.out.cell (j := 0) rfl
    have fR0 := HR_4.out.warm (j := 0) rfl
    have zR1 := HR_4.out.cell (j := 1) rfl
    have fR1 := HR_4.out.warm (j := 1) rfl
    go_wp2
    clear zR0 fR0 zR1 fR1
    obtain ⟨VF, hVF⟩ : ∃ u9, puts W3 (w.heap.size) 0 [.slice none 0 0, .int .i64 x] = u9 := ⟨_, rfl⟩
    have hsVF : VF.heap.size = W3.heap.size := by rw [← hVF]; exact puts_size _ _
    have HR_5 := Lib.hid (show Box VF (w.heap.size) [.slice none 0 0, .int .i64 x] from pt_self hVF HR_4.out (by simp))
    have HB_5 := Lib.hid (pt_bel hVF HB_4.out wlR)
    have HVF := Lib.hid hVF
    clear hVF
    rw [show (W3.setCell ⟨w.heap.size, 0, none⟩ (.slice none 0 0)).setCell ⟨w.heap.size, 1, none⟩ (.int .i64 x) = VF from HVF.out]
    have zR0 := HR_5.out.cell (j := 0) rfl
    have zR1 := HR_5.out.cell (j := 1) rfl
    refine bodyPost_ret (v := .agg #[.slice none 0 0, .int .i64 x]) (by simp [results, Try.results13, go_sem, zR0, zR1]) rfl ⟨_, _, _, ⟨[], x⟩, rfl, (RKeys_rd.2 ⟨none, 0, 0, rfl, Nat.le_refl _, by simp [maxLen], Rd.nil _ _ _ _, (show In .i64 x from inI64 (by omega) (by omega))⟩), by simp, HB_5.out⟩
end Go.Proofs.Ytkkkaaboeddkoaa.D13E
