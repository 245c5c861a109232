/- The drawing functions of chapter 13, third part. -/
import Derived.Test.YtkkkaaboeddkoaaD13
namespace Go.Proofs.Ytkkkaaboeddkoaa.D13C
set_option linter.unusedVariables false
set_option linter.unusedSimpArgs false
set_option maxRecDepth 100000
open Go.RowKit Mem MemS M02 C01 C02 C02B D01 D02 SL Rep R06 R13 M06 M13 C06S C13S D06 BX D13
theorem own_up {w : World} {lo hi : Nat} {cs : List Value} {k : Head} (h : OwnI RHead w lo hi cs k) (hh : hi ≤ w.heap.size) : RHead.rd w (Lt w.heap.size) cs k := RHead.more h.rd fun i hi' => Nat.lt_of_lt_of_le hi' hh
def DrHN (w : World) (e : Ending) (w' : World) : Prop := ∃ cs k now, e = .returned (.tuple #[.agg (List.toArray cs), .int .i64 now]) ∧ RHead.rd w' (Lt w'.heap.size) cs k ∧ totHead k ≤ 1000 ∧ In .i64 now ∧ Below w.heap.size w w'
def DrHH (w : World) (e : Ending) (w' : World) : Prop := ∃ cs a cs' b, e = .returned (.tuple #[.agg (List.toArray cs), .agg (List.toArray cs')]) ∧ RHead.rd w' (Lt w'.heap.size) cs a ∧ RHead.rd w' (Lt w'.heap.size) cs' b ∧ totHead a ≤ 1000 ∧ totHead b ≤ 1000 ∧ Below w.heap.size w w'
def DrK1 (w : World) (e : Ending) (w' : World) : Prop := ∃ A n c k, e = .returned (.agg #[.slice A n c, .int .i64 k.need]) ∧ RKeys.rd w' (Lt w'.heap.size) [.slice A n c, .int .i64 k.need] k ∧ k.list.length ≤ 4 ∧ Below w.heap.size w w'
set_option maxHeartbeats 16000000 in
theorem drawIsFresh_any (w : World) (A : Option Addr) (n c : Nat) (hn : n ≤ maxLen) (hr : BRow w w.heap.size A n) :
    Calls Try.prog 12 #[.slice A n c] w (DrHN w) := by
  obtain ⟨V, hV⟩ : ∃ V, V = w.alloc (.cells #[.int .i64 0, .int .i64 0, .int .i64 0, .int .i64 0, .int .i64 0, .int .i64 0, .int .i64 0, .int .i64 0, .slice none 0 0, .int .i64 0, .slice none 0 0, .int .i64 0, .int .i64 0, .slice none 0 0, .int .i64 0, .bool false] 28) := ⟨_, rfl⟩
  have hbel : Below w.heap.size w V := by rw [hV]; exact (Below.refl _ _).alloc (by first | (simp; done) | (simp; omega)) _
  have hsV : V.heap.size = w.heap.size + 1 := by rw [hV]; simp
  have HR_1 := Lib.hid (show Box V (w.heap.size) [.int .i64 0, .int .i64 0, .int .i64 0, .int .i64 0, .int .i64 0, .int .i64 0, .int .i64 0, .int .i64 0, .slice none 0 0, .int .i64 0, .slice none 0 0, .int .i64 0, .int .i64 0, .slice none 0 0, .int .i64 0, .bool false] from by
    rw [hV]
    have := (Box.new w #[.int .i64 0, .int .i64 0, .int .i64 0, .int .i64 0, .int .i64 0, .int .i64 0, .int .i64 0, .int .i64 0, .slice none 0 0, .int .i64 0, .slice none 0 0, .int .i64 0, .int .i64 0, .slice none 0 0, .int .i64 0, .bool false] 28)
    simpa using this)
  have HB_1 := Lib.hid hbel
  have HRR := Lib.hid ((hr.below hbel).more hbel.size)
  have HV := Lib.hid hV
  clear hV hbel hr
  go_enter Try.func12, Try.ntmps12
  go_wp2_with fail
  rw [show w.alloc (.cells #[.int .i64 0, .int .i64 0, .int .i64 0, .int .i64 0, .int .i64 0, .int .i64 0, .int .i64 0, .int .i64 0, .slice none 0 0, .int .i64 0, .slice none 0 0, .int .i64 0, .int .i64 0, .slice none 0 0, .int .i64 0, .bool false] 28) = V from HV.out.symm]
  refine (l1New_any _ A n c hn HRR.out).mono ?_
  rintro e W1 ⟨g, rfl, hc1, hb1⟩
  have HR_2 := Lib.hid (HR_1.out.below hb1 HR_1.out.lt)
  have HB_2 := Lib.hid (HB_1.out.trans (hb1.mono HB_1.out.size))
  have hsW1 := hb1.size
  have hgB := hc1.1
  have hgl := hc1.lt
  have gwl : w.heap.size ≤ g := by omega
  have HC_2 := Lib.hid hc1
  clear hc1 hb1
  have neR : (w.heap.size) ≠ g := by omega
  have wlR : w.heap.size ≤ (w.heap.size) := by omega
  go_wp2_with fail
  refine (l13Any_any _ _ g HC_2.out).mono ?_
  rintro e W2 ⟨cs, k, rfl, ho, hsm, hc_, hk_⟩
  obtain ⟨kA0, kn0, kc0, kA1, kn1, kc1, kA2, kn2, kc2, rfl⟩ := RHead_shape ho.rd
  have HR_3 := Lib.hid (bxK HR_2.out hk_ neR)
  have HB_3 := Lib.hid (HB_2.out.trans (hk_.below gwl HB_2.out.size))
  have HC_3 := Lib.hid (hc_)
  have hsW2 := hk_.size
  have HH_3 := Lib.hid (show OwnI RHead W2 (W1.heap.size) (W2.heap.size) [.int .i64 k.zone, .int .i64 k.epoch, .int .i64 k.kind, .int .i64 k.time, .int .i64 k.until_, .int .i64 k.count, .int .i64 k.root, .int .i64 k.prev, .slice kA0 kn0 kc0, .int .i64 k.keys.need, .slice kA1 kn1 kc1, .int .i64 k.heirs.need, .int .i64 k.wait, .slice kA2 kn2 kc2, .int .i64 k.judge.need, .bool k.frozen] k from ho)
  have glH : g < (W1.heap.size) := by omega
  have djRH : (w.heap.size) < (W1.heap.size) ∨ (W2.heap.size) ≤ (w.heap.size) := by omega
  obtain ⟨mk, uk, vk⟩ := hsm
  clear ho hc_ hk_
  have hal : Below W2.heap.size W2 (W2.alloc (.cells #[.int .i64 k.zone, .int .i64 k.epoch, .int .i64 k.kind, .int .i64 k.time, .int .i64 k.until_, .int .i64 k.count, .int .i64 k.root, .int .i64 k.prev, .slice kA0 kn0 kc0, .int .i64 k.keys.need, .slice kA1 kn1 kc1, .int .i64 k.heirs.need, .int .i64 k.wait, .slice kA2 kn2 kc2, .int .i64 k.judge.need, .bool k.frozen] 28)) := (Below.refl _ _).alloc (Nat.le_refl _) _
  have hnb := Box.new W2 #[.int .i64 k.zone, .int .i64 k.epoch, .int .i64 k.kind, .int .i64 k.time, .int .i64 k.until_, .int .i64 k.count, .int .i64 k.root, .int .i64 k.prev, .slice kA0 kn0 kc0, .int .i64 k.keys.need, .slice kA1 kn1 kc1, .int .i64 k.heirs.need, .int .i64 k.wait, .slice kA2 kn2 kc2, .int .i64 k.judge.need, .bool k.frozen] 28
  generalize hV2 : W2.alloc (.cells #[.int .i64 k.zone, .int .i64 k.epoch, .int .i64 k.kind, .int .i64 k.time, .int .i64 k.until_, .int .i64 k.count, .int .i64 k.root, .int .i64 k.prev, .slice kA0 kn0 kc0, .int .i64 k.keys.need, .slice kA1 kn1 kc1, .int .i64 k.heirs.need, .int .i64 k.wait, .slice kA2 kn2 kc2, .int .i64 k.judge.need, .bool k.frozen] 28) = V2 at hal hnb
  have hsV2 : V2.heap.size = W2.heap.size + 1 := by rw [← hV2]; simp
  have HR_4 := Lib.hid (HR_3.out.below hal HR_3.out.lt)
  have HB_4 := Lib.hid (HB_3.out.trans (hal.mono HB_3.out.size))
  have HC_4 := Lib.hid (HC_3.out.below hal)
  have HH_4 := Lib.hid (HH_3.out.below hal (by omega))
  have HY_4 := Lib.hid (show Box V2 W2.heap.size [.int .i64 k.zone, .int .i64 k.epoch, .int .i64 k.kind, .int .i64 k.time, .int .i64 k.until_, .int .i64 k.count, .int .i64 k.root, .int .i64 k.prev, .slice kA0 kn0 kc0, .int .i64 k.keys.need, .slice kA1 kn1 kc1, .int .i64 k.heirs.need, .int .i64 k.wait, .slice kA2 kn2 kc2, .int .i64 k.judge.need, .bool k.frozen] from hnb)
  have HV2 := Lib.hid hV2
  clear hal hnb hV2
  have neY : (W2.heap.size) ≠ g := by omega
  have wlY : w.heap.size ≤ (W2.heap.size) := by omega
  have gbY : g < (W2.heap.size) := by omega
  have apRY : (w.heap.size) ≠ (W2.heap.size) := by omega
  have apYR : (W2.heap.size) ≠ (w.heap.size) := by omega
  have djYH : (W2.heap.size) < (W1.heap.size) ∨ (W2.heap.size) ≤ (W2.heap.size) := by omega
  go_wp2_with (refine LD.wp_new LD.big_Head rfl _ _ rfl rfl rfl rfl rfl rfl ?_)
  rw [HV2.out]
  refine (l1Once_any 2 _ _ g HC_4.out).mono ?_
  rintro e W3 ⟨v, ⟨b1, rfl⟩, rfl, hc_, hk_⟩
  have HR_5 := Lib.hid (bxK HR_4.out hk_ neR)
  have HB_5 := Lib.hid (HB_4.out.trans (hk_.below gwl HB_4.out.size))
  have HC_5 := Lib.hid (hc_)
  have HH_5 := Lib.hid (HH_4.out.keep (w' := W3) fun i h0 h1 h2 => hk_.block i h0 (Nat.ne_of_gt (Nat.lt_of_lt_of_le glH h1)))
  have HY_5 := Lib.hid (bxK HY_4.out hk_ neY)
  have hsW3 := hk_.size
  clear hc_ hk_
  rcases b1 with _ | _
  · skip
    go_wp2_with fail
    refine wp_region_any (by kernel_rfl) ?_
    change wpAny _ _ _ _ _ _ _ (World.drew _)
    have hdr : Below W3.heap.size W3 W3.drew := (Below.refl _ _).drew
    have HR_6 := Lib.hid (HR_5.out.below hdr HR_5.out.lt)
    have HB_6 := Lib.hid (HB_5.out.trans (hdr.mono HB_5.out.size))
    have HC_6 := Lib.hid (HC_5.out.below hdr)
    have HH_6 := Lib.hid (HH_5.out.below hdr (by omega))
    have HY_6 := Lib.hid (HY_5.out.below hdr HY_5.out.lt)
    clear hdr
    have hsd : W3.drew.heap.size = W3.heap.size := rfl
    refine wpAny_take (i := 1) (v := .pointer (some ⟨g, 0, none⟩)) rfl (by kernel_rfl) (by kernel_rfl) (by kernel_rfl) (fun _ _ _ h => h) (Or.inl ⟨by rfl, fun w => ?_⟩) ?_
    · go_simp
    refine wpAny_ready (rs := [0, 2]) (by kernel_rfl) (by simp) ?_
    refine AllReady.cons rfl (fun K hK => ?_) ?_
    · skip
      refine LD.op_ld LD.big_Head _ rfl rfl HY_6.out rfl ?_
      simp only [Act.put, List.getElem_toArray, List.getElem_cons_zero, List.getElem_cons_succ, List.setIfInBounds_toArray, List.set_cons_succ, List.set_cons_zero]
      refine hK _ _ ?_
      clear hK K
      refine wpAny_ready (rs := [2]) (by kernel_rfl) (by simp) ?_
      refine AllReady.cons rfl (fun K hK => ?_) ?_
      · skip
        go_simp
        go_at_call 41
        refine (l1Below_any 100 _ _ g HC_6.out).mono ?_
        rintro e W4 ⟨v, ⟨x, hx, hx9, rfl⟩, rfl, hc_, hk_⟩
        have HR_7 := Lib.hid (bxK HR_6.out hk_ neR)
        have HB_7 := Lib.hid (HB_6.out.trans (hk_.below gwl HB_6.out.size))
        have HC_7 := Lib.hid (hc_)
        have HH_7 := Lib.hid (HH_6.out.keep (w' := W4) fun i h0 h1 h2 => hk_.block i h0 (Nat.ne_of_gt (Nat.lt_of_lt_of_le glH h1)))
        have HY_7 := Lib.hid (bxK HY_6.out hk_ neY)
        have hsW4 := hk_.size
        clear hc_ hk_
        have hxn : x < 100 := by omega
        have hxs : -9223372036854775808 ≤ k.until_ + x ∧ k.until_ + x ≤ 9223372036854775807 := by omega
        have hw1 : IntKind.i64.wrap (k.until_ + x) = k.until_ + x := by rw [IntKind.wrap_i64]; omega
        have hw2 : IntKind.i64.wrap (k.until_ + x - 1) = k.until_ + x - 1 := by rw [IntKind.wrap_i64]; omega
        clear hx9
        go_simp
        refine hK _ _ ?_
        clear hK K
        refine wpAny_ready (rs := [3]) (by kernel_rfl) (by simp) ?_
        refine AllReady.cons rfl (fun K hK => ?_) ?_
        · skip
          obtain ⟨VF, hVF⟩ : ∃ u9, puts W4 (w.heap.size) 0 [.int .i64 k.zone, .int .i64 k.epoch, .int .i64 k.kind, .int .i64 k.time, .int .i64 k.until_, .int .i64 k.count, .int .i64 k.root, .int .i64 k.prev, .slice kA0 kn0 kc0, .int .i64 k.keys.need, .slice kA1 kn1 kc1, .int .i64 k.heirs.need, .int .i64 k.wait, .slice kA2 kn2 kc2, .int .i64 k.judge.need, .bool k.frozen] = u9 := ⟨_, rfl⟩
          have hsVF : VF.heap.size = W4.heap.size := by rw [← hVF]; exact puts_size _ _
          have HR_8 := Lib.hid (show Box VF (w.heap.size) [.int .i64 k.zone, .int .i64 k.epoch, .int .i64 k.kind, .int .i64 k.time, .int .i64 k.until_, .int .i64 k.count, .int .i64 k.root, .int .i64 k.prev, .slice kA0 kn0 kc0, .int .i64 k.keys.need, .slice kA1 kn1 kc1, .int .i64 k.heirs.need, .int .i64 k.wait, .slice kA2 kn2 kc2, .int .i64 k.judge.need, .bool k.frozen] from (show Box VF (w.heap.size) ([] ++ [.int .i64 k.zone, .int .i64 k.epoch, .int .i64 k.kind, .int .i64 k.time, .int .i64 k.until_, .int .i64 k.count, .int .i64 k.root, .int .i64 k.prev, .slice kA0 kn0 kc0, .int .i64 k.keys.need, .slice kA1 kn1 kc1, .int .i64 k.heirs.need, .int .i64 k.wait, .slice kA2 kn2 kc2, .int .i64 k.judge.need, .bool k.frozen] ++ []) from pt_mid hVF (show Box W4 (w.heap.size) ([] ++ [.int .i64 0, .int .i64 0, .int .i64 0, .int .i64 0, .int .i64 0, .int .i64 0, .int .i64 0, .int .i64 0, .slice none 0 0, .int .i64 0, .slice none 0 0, .int .i64 0, .int .i64 0, .slice none 0 0, .int .i64 0, .bool false] ++ []) from HR_7.out) rfl rfl))
          have HB_8 := Lib.hid (pt_bel hVF HB_7.out wlR)
          have HH_8 := Lib.hid (pt_own2 hVF HH_7.out djRH)
          have HY_8 := Lib.hid (pt_box hVF HY_7.out apYR)
          have HVF := Lib.hid hVF
          clear hVF
          refine LD.op_stV LD.big_Head _ _ rfl rfl rfl HR_7.out rfl (by decide) rfl HVF.out ?_
          refine hK _ _ ?_
          clear hK K
          refine wpAny_ready (rs := [4]) (by kernel_rfl) (by simp) ?_
          refine AllReady.cons rfl (fun K hK => ?_) ?_
          · skip
            go_simp
            refine hK _ _ ?_
            clear hK K
            refine wpAny_done (by kernel_rfl) ?_ _
            go_wp2
            refine bodyPost_ret (v := .tuple #[.agg #[.int .i64 k.zone, .int .i64 k.epoch, .int .i64 k.kind, .int .i64 k.time, .int .i64 k.until_, .int .i64 k.count, .int .i64 k.root, .int .i64 k.prev, .slice kA0 kn0 kc0, .int .i64 k.keys.need, .slice kA1 kn1 kc1, .int .i64 k.heirs.need, .int .i64 k.wait, .slice kA2 kn2 kc2, .int .i64 k.judge.need, .bool k.frozen], .int .i64 (x)]) (LD.res_cell_tmp LD.big_Head Try.results12 rfl rfl HR_8.out rfl) rfl ⟨[.int .i64 k.zone, .int .i64 k.epoch, .int .i64 k.kind, .int .i64 k.time, .int .i64 k.until_, .int .i64 k.count, .int .i64 k.root, .int .i64 k.prev, .slice kA0 kn0 kc0, .int .i64 k.keys.need, .slice kA1 kn1 kc1, .int .i64 k.heirs.need, .int .i64 k.wait, .slice kA2 kn2 kc2, .int .i64 k.judge.need, .bool k.frozen], k, x, rfl, own_up HH_8.out (by omega), by omega, inI64 (by omega) (by omega), HB_8.out⟩
          exact AllReady.nil
        exact AllReady.nil
      exact AllReady.nil
    refine AllReady.cons rfl (fun K hK => ?_) ?_
    · skip
      go_simp
      go_at_call 41
      refine (l1Below_any 100 _ _ g HC_6.out).mono ?_
      rintro e W4 ⟨v, ⟨x, hx, hx9, rfl⟩, rfl, hc_, hk_⟩
      have HR_7 := Lib.hid (bxK HR_6.out hk_ neR)
      have HB_7 := Lib.hid (HB_6.out.trans (hk_.below gwl HB_6.out.size))
      have HC_7 := Lib.hid (hc_)
      have HH_7 := Lib.hid (HH_6.out.keep (w' := W4) fun i h0 h1 h2 => hk_.block i h0 (Nat.ne_of_gt (Nat.lt_of_lt_of_le glH h1)))
      have HY_7 := Lib.hid (bxK HY_6.out hk_ neY)
      have hsW4 := hk_.size
      clear hc_ hk_
      have hxn : x < 100 := by omega
      have hxs : -9223372036854775808 ≤ k.until_ + x ∧ k.until_ + x ≤ 9223372036854775807 := by omega
      have hw1 : IntKind.i64.wrap (k.until_ + x) = k.until_ + x := by rw [IntKind.wrap_i64]; omega
      have hw2 : IntKind.i64.wrap (k.until_ + x - 1) = k.until_ + x - 1 := by rw [IntKind.wrap_i64]; omega
      clear hx9
      go_simp
      refine hK _ _ ?_
      clear hK K
      refine wpAny_ready (rs := [0]) (by kernel_rfl) (by simp) ?_
      refine AllReady.cons rfl (fun K hK => ?_) ?_
      · skip
        refine LD.op_ld LD.big_Head _ rfl rfl HY_7.out rfl ?_
        simp only [Act.put, List.getElem_toArray, List.getElem_cons_zero, List.getElem_cons_succ, List.setIfInBounds_toArray, List.set_cons_succ, List.set_cons_zero]
        refine hK _ _ ?_
        clear hK K
        refine wpAny_ready (rs := [3]) (by kernel_rfl) (by simp) ?_
        refine AllReady.cons rfl (fun K hK => ?_) ?_
        · skip
          obtain ⟨VF, hVF⟩ : ∃ u9, puts W4 (w.heap.size) 0 [.int .i64 k.zone, .int .i64 k.epoch, .int .i64 k.kind, .int .i64 k.time, .int .i64 k.until_, .int .i64 k.count, .int .i64 k.root, .int .i64 k.prev, .slice kA0 kn0 kc0, .int .i64 k.keys.need, .slice kA1 kn1 kc1, .int .i64 k.heirs.need, .int .i64 k.wait, .slice kA2 kn2 kc2, .int .i64 k.judge.need, .bool k.frozen] = u9 := ⟨_, rfl⟩
          have hsVF : VF.heap.size = W4.heap.size := by rw [← hVF]; exact puts_size _ _
          have HR_8 := Lib.hid (show Box VF (w.heap.size) [.int .i64 k.zone, .int .i64 k.epoch, .int .i64 k.kind, .int .i64 k.time, .int .i64 k.until_, .int .i64 k.count, .int .i64 k.root, .int .i64 k.prev, .slice kA0 kn0 kc0, .int .i64 k.keys.need, .slice kA1 kn1 kc1, .int .i64 k.heirs.need, .int .i64 k.wait, .slice kA2 kn2 kc2, .int .i64 k.judge.need, .bool k.frozen] from (show Box VF (w.heap.size) ([] ++ [.int .i64 k.zone, .int .i64 k.epoch, .int .i64 k.kind, .int .i64 k.time, .int .i64 k.until_, .int .i64 k.count, .int .i64 k.root, .int .i64 k.prev, .slice kA0 kn0 kc0, .int .i64 k.keys.need, .slice kA1 kn1 kc1, .int .i64 k.heirs.need, .int .i64 k.wait, .slice kA2 kn2 kc2, .int .i64 k.judge.need, .bool k.frozen] ++ []) from pt_mid hVF (show Box W4 (w.heap.size) ([] ++ [.int .i64 0, .int .i64 0, .int .i64 0, .int .i64 0, .int .i64 0, .int .i64 0, .int .i64 0, .int .i64 0, .slice none 0 0, .int .i64 0, .slice none 0 0, .int .i64 0, .int .i64 0, .slice none 0 0, .int .i64 0, .bool false] ++ []) from HR_7.out) rfl rfl))
          have HB_8 := Lib.hid (pt_bel hVF HB_7.out wlR)
          have HH_8 := Lib.hid (pt_own2 hVF HH_7.out djRH)
          have HY_8 := Lib.hid (pt_box hVF HY_7.out apYR)
          have HVF := Lib.hid hVF
          clear hVF
          refine LD.op_stV LD.big_Head _ _ rfl rfl rfl HR_7.out rfl (by decide) rfl HVF.out ?_
          refine hK _ _ ?_
          clear hK K
          refine wpAny_ready (rs := [4]) (by kernel_rfl) (by simp) ?_
          refine AllReady.cons rfl (fun K hK => ?_) ?_
          · skip
            go_simp
            refine hK _ _ ?_
            clear hK K
            refine wpAny_done (by kernel_rfl) ?_ _
            go_wp2
            refine bodyPost_ret (v := .tuple #[.agg #[.int .i64 k.zone, .int .i64 k.epoch, .int .i64 k.kind, .int .i64 k.time, .int .i64 k.until_, .int .i64 k.count, .int .i64 k.root, .int .i64 k.prev, .slice kA0 kn0 kc0, .int .i64 k.keys.need, .slice kA1 kn1 kc1, .int .i64 k.heirs.need, .int .i64 k.wait, .slice kA2 kn2 kc2, .int .i64 k.judge.need, .bool k.frozen], .int .i64 (x)]) (LD.res_cell_tmp LD.big_Head Try.results12 rfl rfl HR_8.out rfl) rfl ⟨[.int .i64 k.zone, .int .i64 k.epoch, .int .i64 k.kind, .int .i64 k.time, .int .i64 k.until_, .int .i64 k.count, .int .i64 k.root, .int .i64 k.prev, .slice kA0 kn0 kc0, .int .i64 k.keys.need, .slice kA1 kn1 kc1, .int .i64 k.heirs.need, .int .i64 k.wait, .slice kA2 kn2 kc2, .int .i64 k.judge.need, .bool k.frozen], k, x, rfl, own_up HH_8.out (by omega), by omega, inI64 (by omega) (by omega), HB_8.out⟩
          exact AllReady.nil
        exact AllReady.nil
      exact AllReady.nil
    exact AllReady.nil
  · skip
    go_wp2_with fail
    refine wp_region_any (by kernel_rfl) ?_
    change wpAny _ _ _ _ _ _ _ (World.drew _)
    have hdr : Below W3.heap.size W3 W3.drew := (Below.refl _ _).drew
    have HR_6 := Lib.hid (HR_5.out.below hdr HR_5.out.lt)
    have HB_6 := Lib.hid (HB_5.out.trans (hdr.mono HB_5.out.size))
    have HC_6 := Lib.hid (HC_5.out.below hdr)
    have HH_6 := Lib.hid (HH_5.out.below hdr (by omega))
    have HY_6 := Lib.hid (HY_5.out.below hdr HY_5.out.lt)
    clear hdr
    have hsd : W3.drew.heap.size = W3.heap.size := rfl
    refine wpAny_take (i := 1) (v := .pointer (some ⟨W2.heap.size, 4, none⟩)) rfl (by kernel_rfl) (by kernel_rfl) (by kernel_rfl) (fun _ _ _ h => h) (Or.inl ⟨by rfl, fun w => ?_⟩) ?_
    · go_simp
    refine wpAny_take (i := 3) (v := .pointer (some ⟨g, 0, none⟩)) rfl (by kernel_rfl) (by kernel_rfl) (by kernel_rfl) (fun _ _ _ h => h) (Or.inl ⟨by rfl, fun w => ?_⟩) ?_
    · go_simp
    refine wpAny_ready (rs := [0, 2, 4]) (by kernel_rfl) (by simp) ?_
    refine AllReady.cons rfl (fun K hK => ?_) ?_
    · skip
      refine LD.op_ld LD.big_Head _ rfl rfl HY_6.out rfl ?_
      simp only [Act.put, List.getElem_toArray, List.getElem_cons_zero, List.getElem_cons_succ, List.setIfInBounds_toArray, List.set_cons_succ, List.set_cons_zero]
      refine hK _ _ ?_
      clear hK K
      refine wpAny_ready (rs := [2, 4]) (by kernel_rfl) (by simp) ?_
      refine AllReady.cons rfl (fun K hK => ?_) ?_
      · skip
        have zY0 := HY_6.out.cell (j := 0) rfl
        have zY1 := HY_6.out.cell (j := 1) rfl
        have zY2 := HY_6.out.cell (j := 2) rfl
        have zY3 := HY_6.out.cell (j := 3) rfl
        have zY4 := HY_6.out.cell (j := 4) rfl
        have zY5 := HY_6.out.cell (j := 5) rfl
        have zY6 := HY_6.out.cell (j := 6) rfl
        have zY7 := HY_6.out.cell (j := 7) rfl
        have zY8 := HY_6.out.cell (j := 8) rfl
        have zY9 := HY_6.out.cell (j := 9) rfl
        have zY10 := HY_6.out.cell (j := 10) rfl
        have zY11 := HY_6.out.cell (j := 11) rfl
        have zY12 := HY_6.out.cell (j := 12) rfl
        have zY13 := HY_6.out.cell (j := 13) rfl
        have zY14 := HY_6.out.cell (j := 14) rfl
        have zY15 := HY_6.out.cell (j := 15) rfl
        go_simp
        clear zY0 zY1 zY2 zY3 zY4 zY5 zY6 zY7 zY8 zY9 zY10 zY11 zY12 zY13 zY14 zY15
        refine hK _ _ ?_
        clear hK K
        refine wpAny_ready (rs := [4]) (by kernel_rfl) (by simp) ?_
        refine AllReady.cons rfl (fun K hK => ?_) ?_
        · skip
          go_simp
          go_at_call 41
          refine (l1Below_any 3 _ _ g HC_6.out).mono ?_
          rintro e W4 ⟨v, ⟨x, hx, hx9, rfl⟩, rfl, hc_, hk_⟩
          have HR_7 := Lib.hid (bxK HR_6.out hk_ neR)
          have HB_7 := Lib.hid (HB_6.out.trans (hk_.below gwl HB_6.out.size))
          have HC_7 := Lib.hid (hc_)
          have HH_7 := Lib.hid (HH_6.out.keep (w' := W4) fun i h0 h1 h2 => hk_.block i h0 (Nat.ne_of_gt (Nat.lt_of_lt_of_le glH h1)))
          have HY_7 := Lib.hid (bxK HY_6.out hk_ neY)
          have hsW4 := hk_.size
          clear hc_ hk_
          have hxn : x < 3 := by omega
          have hxs : -9223372036854775808 ≤ k.until_ + x ∧ k.until_ + x ≤ 9223372036854775807 := by omega
          have hw1 : IntKind.i64.wrap (k.until_ + x) = k.until_ + x := by rw [IntKind.wrap_i64]; omega
          have hw2 : IntKind.i64.wrap (k.until_ + x - 1) = k.until_ + x - 1 := by rw [IntKind.wrap_i64]; omega
          clear hx9
          go_simp
          refine hK _ _ ?_
          clear hK K
          refine wpAny_ready (rs := [5, 7]) (by kernel_rfl) (by simp) ?_
          refine AllReady.cons rfl (fun K hK => ?_) ?_
          · skip
            go_simp
            refine hK _ _ ?_
            clear hK K
            refine wpAny_ready (rs := [6, 7]) (by kernel_rfl) (by simp) ?_
            refine AllReady.cons rfl (fun K hK => ?_) ?_
            · skip
              go_simp
              refine hK _ _ ?_
              clear hK K
              refine wpAny_ready (rs := [7]) (by kernel_rfl) (by simp) ?_
              refine AllReady.cons rfl (fun K hK => ?_) ?_
              · skip
                obtain ⟨VF, hVF⟩ : ∃ u9, puts W4 (w.heap.size) 0 [.int .i64 k.zone, .int .i64 k.epoch, .int .i64 k.kind, .int .i64 k.time, .int .i64 k.until_, .int .i64 k.count, .int .i64 k.root, .int .i64 k.prev, .slice kA0 kn0 kc0, .int .i64 k.keys.need, .slice kA1 kn1 kc1, .int .i64 k.heirs.need, .int .i64 k.wait, .slice kA2 kn2 kc2, .int .i64 k.judge.need, .bool k.frozen] = u9 := ⟨_, rfl⟩
                have hsVF : VF.heap.size = W4.heap.size := by rw [← hVF]; exact puts_size _ _
                have HR_8 := Lib.hid (show Box VF (w.heap.size) [.int .i64 k.zone, .int .i64 k.epoch, .int .i64 k.kind, .int .i64 k.time, .int .i64 k.until_, .int .i64 k.count, .int .i64 k.root, .int .i64 k.prev, .slice kA0 kn0 kc0, .int .i64 k.keys.need, .slice kA1 kn1 kc1, .int .i64 k.heirs.need, .int .i64 k.wait, .slice kA2 kn2 kc2, .int .i64 k.judge.need, .bool k.frozen] from (show Box VF (w.heap.size) ([] ++ [.int .i64 k.zone, .int .i64 k.epoch, .int .i64 k.kind, .int .i64 k.time, .int .i64 k.until_, .int .i64 k.count, .int .i64 k.root, .int .i64 k.prev, .slice kA0 kn0 kc0, .int .i64 k.keys.need, .slice kA1 kn1 kc1, .int .i64 k.heirs.need, .int .i64 k.wait, .slice kA2 kn2 kc2, .int .i64 k.judge.need, .bool k.frozen] ++ []) from pt_mid hVF (show Box W4 (w.heap.size) ([] ++ [.int .i64 0, .int .i64 0, .int .i64 0, .int .i64 0, .int .i64 0, .int .i64 0, .int .i64 0, .int .i64 0, .slice none 0 0, .int .i64 0, .slice none 0 0, .int .i64 0, .int .i64 0, .slice none 0 0, .int .i64 0, .bool false] ++ []) from HR_7.out) rfl rfl))
                have HB_8 := Lib.hid (pt_bel hVF HB_7.out wlR)
                have HH_8 := Lib.hid (pt_own2 hVF HH_7.out djRH)
                have HY_8 := Lib.hid (pt_box hVF HY_7.out apYR)
                have HVF := Lib.hid hVF
                clear hVF
                refine LD.op_stV LD.big_Head _ _ rfl rfl rfl HR_7.out rfl (by decide) rfl HVF.out ?_
                refine hK _ _ ?_
                clear hK K
                refine wpAny_ready (rs := [8]) (by kernel_rfl) (by simp) ?_
                refine AllReady.cons rfl (fun K hK => ?_) ?_
                · skip
                  go_simp
                  refine hK _ _ ?_
                  clear hK K
                  refine wpAny_done (by kernel_rfl) ?_ _
                  go_wp2
                  refine bodyPost_ret (v := .tuple #[.agg #[.int .i64 k.zone, .int .i64 k.epoch, .int .i64 k.kind, .int .i64 k.time, .int .i64 k.until_, .int .i64 k.count, .int .i64 k.root, .int .i64 k.prev, .slice kA0 kn0 kc0, .int .i64 k.keys.need, .slice kA1 kn1 kc1, .int .i64 k.heirs.need, .int .i64 k.wait, .slice kA2 kn2 kc2, .int .i64 k.judge.need, .bool k.frozen], .int .i64 (k.until_ + x - 1)]) (LD.res_cell_tmp LD.big_Head Try.results12 rfl rfl HR_8.out rfl) rfl ⟨[.int .i64 k.zone, .int .i64 k.epoch, .int .i64 k.kind, .int .i64 k.time, .int .i64 k.until_, .int .i64 k.count, .int .i64 k.root, .int .i64 k.prev, .slice kA0 kn0 kc0, .int .i64 k.keys.need, .slice kA1 kn1 kc1, .int .i64 k.heirs.need, .int .i64 k.wait, .slice kA2 kn2 kc2, .int .i64 k.judge.need, .bool k.frozen], k, k.until_ + x - 1, rfl, own_up HH_8.out (by omega), by omega, inI64 (by omega) (by omega), HB_8.out⟩
                exact AllReady.nil
              exact AllReady.nil
            refine AllReady.cons rfl (fun K hK => ?_) ?_
            · skip
              obtain ⟨VF, hVF⟩ : ∃ u9, puts W4 (w.heap.size) 0 [.int .i64 k.zone, .int .i64 k.epoch, .int .i64 k.kind, .int .i64 k.time, .int .i64 k.until_, .int .i64 k.count, .int .i64 k.root, .int .i64 k.prev, .slice kA0 kn0 kc0, .int .i64 k.keys.need, .slice kA1 kn1 kc1, .int .i64 k.heirs.need, .int .i64 k.wait, .slice kA2 kn2 kc2, .int .i64 k.judge.need, .bool k.frozen] = u9 := ⟨_, rfl⟩
              have hsVF : VF.heap.size = W4.heap.size := by rw [← hVF]; exact puts_size _ _
              have HR_8 := Lib.hid (show Box VF (w.heap.size) [.int .i64 k.zone, .int .i64 k.epoch, .int .i64 k.kind, .int .i64 k.time, .int .i64 k.until_, .int .i64 k.count, .int .i64 k.root, .int .i64 k.prev, .slice kA0 kn0 kc0, .int .i64 k.keys.need, .slice kA1 kn1 kc1, .int .i64 k.heirs.need, .int .i64 k.wait, .slice kA2 kn2 kc2, .int .i64 k.judge.need, .bool k.frozen] from (show Box VF (w.heap.size) ([] ++ [.int .i64 k.zone, .int .i64 k.epoch, .int .i64 k.kind, .int .i64 k.time, .int .i64 k.until_, .int .i64 k.count, .int .i64 k.root, .int .i64 k.prev, .slice kA0 kn0 kc0, .int .i64 k.keys.need, .slice kA1 kn1 kc1, .int .i64 k.heirs.need, .int .i64 k.wait, .slice kA2 kn2 kc2, .int .i64 k.judge.need, .bool k.frozen] ++ []) from pt_mid hVF (show Box W4 (w.heap.size) ([] ++ [.int .i64 0, .int .i64 0, .int .i64 0, .int .i64 0, .int .i64 0, .int .i64 0, .int .i64 0, .int .i64 0, .slice none 0 0, .int .i64 0, .slice none 0 0, .int .i64 0, .int .i64 0, .slice none 0 0, .int .i64 0, .bool false] ++ []) from HR_7.out) rfl rfl))
              have HB_8 := Lib.hid (pt_bel hVF HB_7.out wlR)
              have HH_8 := Lib.hid (pt_own2 hVF HH_7.out djRH)
              have HY_8 := Lib.hid (pt_box hVF HY_7.out apYR)
              have HVF := Lib.hid hVF
              clear hVF
              refine LD.op_stV LD.big_Head _ _ rfl rfl rfl HR_7.out rfl (by decide) rfl HVF.out ?_
              refine hK _ _ ?_
              clear hK K
              refine wpAny_ready (rs := [6]) (by kernel_rfl) (by simp) ?_
              refine AllReady.cons rfl (fun K hK => ?_) ?_
              · skip
                go_simp
                refine hK _ _ ?_
                clear hK K
                refine wpAny_ready (rs := [8]) (by kernel_rfl) (by simp) ?_
                refine AllReady.cons rfl (fun K hK => ?_) ?_
                · skip
                  go_simp
                  refine hK _ _ ?_
                  clear hK K
                  refine wpAny_done (by kernel_rfl) ?_ _
                  go_wp2
                  refine bodyPost_ret (v := .tuple #[.agg #[.int .i64 k.zone, .int .i64 k.epoch, .int .i64 k.kind, .int .i64 k.time, .int .i64 k.until_, .int .i64 k.count, .int .i64 k.root, .int .i64 k.prev, .slice kA0 kn0 kc0, .int .i64 k.keys.need, .slice kA1 kn1 kc1, .int .i64 k.heirs.need, .int .i64 k.wait, .slice kA2 kn2 kc2, .int .i64 k.judge.need, .bool k.frozen], .int .i64 (k.until_ + x - 1)]) (LD.res_cell_tmp LD.big_Head Try.results12 rfl rfl HR_8.out rfl) rfl ⟨[.int .i64 k.zone, .int .i64 k.epoch, .int .i64 k.kind, .int .i64 k.time, .int .i64 k.until_, .int .i64 k.count, .int .i64 k.root, .int .i64 k.prev, .slice kA0 kn0 kc0, .int .i64 k.keys.need, .slice kA1 kn1 kc1, .int .i64 k.heirs.need, .int .i64 k.wait, .slice kA2 kn2 kc2, .int .i64 k.judge.need, .bool k.frozen], k, k.until_ + x - 1, rfl, own_up HH_8.out (by omega), by omega, inI64 (by omega) (by omega), HB_8.out⟩
                exact AllReady.nil
              exact AllReady.nil
            exact AllReady.nil
          refine AllReady.cons rfl (fun K hK => ?_) ?_
          · skip
            obtain ⟨VF, hVF⟩ : ∃ u9, puts W4 (w.heap.size) 0 [.int .i64 k.zone, .int .i64 k.epoch, .int .i64 k.kind, .int .i64 k.time, .int .i64 k.until_, .int .i64 k.count, .int .i64 k.root, .int .i64 k.prev, .slice kA0 kn0 kc0, .int .i64 k.keys.need, .slice kA1 kn1 kc1, .int .i64 k.heirs.need, .int .i64 k.wait, .slice kA2 kn2 kc2, .int .i64 k.judge.need, .bool k.frozen] = u9 := ⟨_, rfl⟩
            have hsVF : VF.heap.size = W4.heap.size := by rw [← hVF]; exact puts_size _ _
            have HR_8 := Lib.hid (show Box VF (w.heap.size) [.int .i64 k.zone, .int .i64 k.epoch, .int .i64 k.kind, .int .i64 k.time, .int .i64 k.until_, .int .i64 k.count, .int .i64 k.root, .int .i64 k.prev, .slice kA0 kn0 kc0, .int .i64 k.keys.need, .slice kA1 kn1 kc1, .int .i64 k.heirs.need, .int .i64 k.wait, .slice kA2 kn2 kc2, .int .i64 k.judge.need, .bool k.frozen] from (show Box VF (w.heap.size) ([] ++ [.int .i64 k.zone, .int .i64 k.epoch, .int .i64 k.kind, .int .i64 k.time, .int .i64 k.until_, .int .i64 k.count, .int .i64 k.root, .int .i64 k.prev, .slice kA0 kn0 kc0, .int .i64 k.keys.need, .slice kA1 kn1 kc1, .int .i64 k.heirs.need, .int .i64 k.wait, .slice kA2 kn2 kc2, .int .i64 k.judge.need, .bool k.frozen] ++ []) from pt_mid hVF (show Box W4 (w.heap.size) ([] ++ [.int .i64 0, .int .i64 0, .int .i64 0, .int .i64 0, .int .i64 0, .int .i64 0, .int .i64 0, .int .i64 0, .slice none 0 0, .int .i64 0, .slice none 0 0, .int .i64 0, .int .i64 0, .slice none 0 0, .int .i64 0, .bool false] ++ []) from HR_7.out) rfl rfl))
            have HB_8 := Lib.hid (pt_bel hVF HB_7.out wlR)
            have HH_8 := Lib.hid (pt_own2 hVF HH_7.out djRH)
            have HY_8 := Lib.hid (pt_box hVF HY_7.out apYR)
            have HVF := Lib.hid hVF
            clear hVF
            refine LD.op_stV LD.big_Head _ _ rfl rfl rfl HR_7.out rfl (by decide) rfl HVF.out ?_
            refine hK _ _ ?_
            clear hK K
            refine wpAny_ready (rs := [5]) (by kernel_rfl) (by simp) ?_
            refine AllReady.cons rfl (fun K hK => ?_) ?_
            · skip
              go_simp
              refine hK _ _ ?_
              clear hK K
              refine wpAny_ready (rs := [6]) (by kernel_rfl) (by simp) ?_
              refine AllReady.cons rfl (fun K hK => ?_) ?_
              · skip
                go_simp
                refine hK _ _ ?_
                clear hK K
                refine wpAny_ready (rs := [8]) (by kernel_rfl) (by simp) ?_
                refine AllReady.cons rfl (fun K hK => ?_) ?_
                · skip
                  go_simp
                  refine hK _ _ ?_
                  clear hK K
                  refine wpAny_done (by kernel_rfl) ?_ _
                  go_wp2
                  refine bodyPost_ret (v := .tuple #[.agg #[.int .i64 k.zone, .int .i64 k.epoch, .int .i64 k.kind, .int .i64 k.time, .int .i64 k.until_, .int .i64 k.count, .int .i64 k.root, .int .i64 k.prev, .slice kA0 kn0 kc0, .int .i64 k.keys.need, .slice kA1 kn1 kc1, .int .i64 k.heirs.need, .int .i64 k.wait, .slice kA2 kn2 kc2, .int .i64 k.judge.need, .bool k.frozen], .int .i64 (k.until_ + x - 1)]) (LD.res_cell_tmp LD.big_Head Try.results12 rfl rfl HR_8.out rfl) rfl ⟨[.int .i64 k.zone, .int .i64 k.epoch, .int .i64 k.kind, .int .i64 k.time, .int .i64 k.until_, .int .i64 k.count, .int .i64 k.root, .int .i64 k.prev, .slice kA0 kn0 kc0, .int .i64 k.keys.need, .slice kA1 kn1 kc1, .int .i64 k.heirs.need, .int .i64 k.wait, .slice kA2 kn2 kc2, .int .i64 k.judge.need, .bool k.frozen], k, k.until_ + x - 1, rfl, own_up HH_8.out (by omega), by omega, inI64 (by omega) (by omega), HB_8.out⟩
                exact AllReady.nil
              exact AllReady.nil
            exact AllReady.nil
          exact AllReady.nil
        exact AllReady.nil
      refine AllReady.cons rfl (fun K hK => ?_) ?_
      · skip
        go_simp
        go_at_call 41
        refine (l1Below_any 3 _ _ g HC_6.out).mono ?_
        rintro e W4 ⟨v, ⟨x, hx, hx9, rfl⟩, rfl, hc_, hk_⟩
        have HR_7 := Lib.hid (bxK HR_6.out hk_ neR)
        have HB_7 := Lib.hid (HB_6.out.trans (hk_.below gwl HB_6.out.size))
        have HC_7 := Lib.hid (hc_)
        have HH_7 := Lib.hid (HH_6.out.keep (w' := W4) fun i h0 h1 h2 => hk_.block i h0 (Nat.ne_of_gt (Nat.lt_of_lt_of_le glH h1)))
        have HY_7 := Lib.hid (bxK HY_6.out hk_ neY)
        have hsW4 := hk_.size
        clear hc_ hk_
        have hxn : x < 3 := by omega
        have hxs : -9223372036854775808 ≤ k.until_ + x ∧ k.until_ + x ≤ 9223372036854775807 := by omega
        have hw1 : IntKind.i64.wrap (k.until_ + x) = k.until_ + x := by rw [IntKind.wrap_i64]; omega
        have hw2 : IntKind.i64.wrap (k.until_ + x - 1) = k.until_ + x - 1 := by rw [IntKind.wrap_i64]; omega
        clear hx9
        go_simp
        refine hK _ _ ?_
        clear hK K
        refine wpAny_ready (rs := [2, 7]) (by kernel_rfl) (by simp) ?_
        refine AllReady.cons rfl (fun K hK => ?_) ?_
        · skip
          have zY0 := HY_7.out.cell (j := 0) rfl
          have zY1 := HY_7.out.cell (j := 1) rfl
          have zY2 := HY_7.out.cell (j := 2) rfl
          have zY3 := HY_7.out.cell (j := 3) rfl
          have zY4 := HY_7.out.cell (j := 4) rfl
          have zY5 := HY_7.out.cell (j := 5) rfl
          have zY6 := HY_7.out.cell (j := 6) rfl
          have zY7 := HY_7.out.cell (j := 7) rfl
          have zY8 := HY_7.out.cell (j := 8) rfl
          have zY9 := HY_7.out.cell (j := 9) rfl
          have zY10 := HY_7.out.cell (j := 10) rfl
          have zY11 := HY_7.out.cell (j := 11) rfl
          have zY12 := HY_7.out.cell (j := 12) rfl
          have zY13 := HY_7.out.cell (j := 13) rfl
          have zY14 := HY_7.out.cell (j := 14) rfl
          have zY15 := HY_7.out.cell (j := 15) rfl
          go_simp
          clear zY0 zY1 zY2 zY3 zY4 zY5 zY6 zY7 zY8 zY9 zY10 zY11 zY12 zY13 zY14 zY15
          refine hK _ _ ?_
          clear hK K
          refine wpAny_ready (rs := [5, 7]) (by kernel_rfl) (by simp) ?_
          refine AllReady.cons rfl (fun K hK => ?_) ?_
          · skip
            go_simp
            refine hK _ _ ?_
            clear hK K
            refine wpAny_ready (rs := [6, 7]) (by kernel_rfl) (by simp) ?_
            refine AllReady.cons rfl (fun K hK => ?_) ?_
            · skip
              go_simp
              refine hK _ _ ?_
              clear hK K
              refine wpAny_ready (rs := [7]) (by kernel_rfl) (by simp) ?_
              refine AllReady.cons rfl (fun K hK => ?_) ?_
              · skip
                obtain ⟨VF, hVF⟩ : ∃ u9, puts W4 (w.heap.size) 0 [.int .i64 k.zone, .int .i64 k.epoch, .int .i64 k.kind, .int .i64 k.time, .int .i64 k.until_, .int .i64 k.count, .int .i64 k.root, .int .i64 k.prev, .slice kA0 kn0 kc0, .int .i64 k.keys.need, .slice kA1 kn1 kc1, .int .i64 k.heirs.need, .int .i64 k.wait, .slice kA2 kn2 kc2, .int .i64 k.judge.need, .bool k.frozen] = u9 := ⟨_, rfl⟩
                have hsVF : VF.heap.size = W4.heap.size := by rw [← hVF]; exact puts_size _ _
                have HR_8 := Lib.hid (show Box VF (w.heap.size) [.int .i64 k.zone, .int .i64 k.epoch, .int .i64 k.kind, .int .i64 k.time, .int .i64 k.until_, .int .i64 k.count, .int .i64 k.root, .int .i64 k.prev, .slice kA0 kn0 kc0, .int .i64 k.keys.need, .slice kA1 kn1 kc1, .int .i64 k.heirs.need, .int .i64 k.wait, .slice kA2 kn2 kc2, .int .i64 k.judge.need, .bool k.frozen] from (show Box VF (w.heap.size) ([] ++ [.int .i64 k.zone, .int .i64 k.epoch, .int .i64 k.kind, .int .i64 k.time, .int .i64 k.until_, .int .i64 k.count, .int .i64 k.root, .int .i64 k.prev, .slice kA0 kn0 kc0, .int .i64 k.keys.need, .slice kA1 kn1 kc1, .int .i64 k.heirs.need, .int .i64 k.wait, .slice kA2 kn2 kc2, .int .i64 k.judge.need, .bool k.frozen] ++ []) from pt_mid hVF (show Box W4 (w.heap.size) ([] ++ [.int .i64 0, .int .i64 0, .int .i64 0, .int .i64 0, .int .i64 0, .int .i64 0, .int .i64 0, .int .i64 0, .slice none 0 0, .int .i64 0, .slice none 0 0, .int .i64 0, .int .i64 0, .slice none 0 0, .int .i64 0, .bool false] ++ []) from HR_7.out) rfl rfl))
                have HB_8 := Lib.hid (pt_bel hVF HB_7.out wlR)
                have HH_8 := Lib.hid (pt_own2 hVF HH_7.out djRH)
                have HY_8 := Lib.hid (pt_box hVF HY_7.out apYR)
                have HVF := Lib.hid hVF
                clear hVF
                refine LD.op_stV LD.big_Head _ _ rfl rfl rfl HR_7.out rfl (by decide) rfl HVF.out ?_
                refine hK _ _ ?_
                clear hK K
                refine wpAny_ready (rs := [8]) (by kernel_rfl) (by simp) ?_
                refine AllReady.cons rfl (fun K hK => ?_) ?_
                · skip
                  go_simp
                  refine hK _ _ ?_
                  clear hK K
                  refine wpAny_done (by kernel_rfl) ?_ _
                  go_wp2
                  refine bodyPost_ret (v := .tuple #[.agg #[.int .i64 k.zone, .int .i64 k.epoch, .int .i64 k.kind, .int .i64 k.time, .int .i64 k.until_, .int .i64 k.count, .int .i64 k.root, .int .i64 k.prev, .slice kA0 kn0 kc0, .int .i64 k.keys.need, .slice kA1 kn1 kc1, .int .i64 k.heirs.need, .int .i64 k.wait, .slice kA2 kn2 kc2, .int .i64 k.judge.need, .bool k.frozen], .int .i64 (k.until_ + x - 1)]) (LD.res_cell_tmp LD.big_Head Try.results12 rfl rfl HR_8.out rfl) rfl ⟨[.int .i64 k.zone, .int .i64 k.epoch, .int .i64 k.kind, .int .i64 k.time, .int .i64 k.until_, .int .i64 k.count, .int .i64 k.root, .int .i64 k.prev, .slice kA0 kn0 kc0, .int .i64 k.keys.need, .slice kA1 kn1 kc1, .int .i64 k.heirs.need, .int .i64 k.wait, .slice kA2 kn2 kc2, .int .i64 k.judge.need, .bool k.frozen], k, k.until_ + x - 1, rfl, own_up HH_8.out (by omega), by omega, inI64 (by omega) (by omega), HB_8.out⟩
                exact AllReady.nil
              exact AllReady.nil
            refine AllReady.cons rfl (fun K hK => ?_) ?_
            · skip
              obtain ⟨VF, hVF⟩ : ∃ u9, puts W4 (w.heap.size) 0 [.int .i64 k.zone, .int .i64 k.epoch, .int .i64 k.kind, .int .i64 k.time, .int .i64 k.until_, .int .i64 k.count, .int .i64 k.root, .int .i64 k.prev, .slice kA0 kn0 kc0, .int .i64 k.keys.need, .slice kA1 kn1 kc1, .int .i64 k.heirs.need, .int .i64 k.wait, .slice kA2 kn2 kc2, .int .i64 k.judge.need, .bool k.frozen] = u9 := ⟨_, rfl⟩
              have hsVF : VF.heap.size = W4.heap.size := by rw [← hVF]; exact puts_size _ _
              have HR_8 := Lib.hid (show Box VF (w.heap.size) [.int .i64 k.zone, .int .i64 k.epoch, .int .i64 k.kind, .int .i64 k.time, .int .i64 k.until_, .int .i64 k.count, .int .i64 k.root, .int .i64 k.prev, .slice kA0 kn0 kc0, .int .i64 k.keys.need, .slice kA1 kn1 kc1, .int .i64 k.heirs.need, .int .i64 k.wait, .slice kA2 kn2 kc2, .int .i64 k.judge.need, .bool k.frozen] from (show Box VF (w.heap.size) ([] ++ [.int .i64 k.zone, .int .i64 k.epoch, .int .i64 k.kind, .int .i64 k.time, .int .i64 k.until_, .int .i64 k.count, .int .i64 k.root, .int .i64 k.prev, .slice kA0 kn0 kc0, .int .i64 k.keys.need, .slice kA1 kn1 kc1, .int .i64 k.heirs.need, .int .i64 k.wait, .slice kA2 kn2 kc2, .int .i64 k.judge.need, .bool k.frozen] ++ []) from pt_mid hVF (show Box W4 (w.heap.size) ([] ++ [.int .i64 0, .int .i64 0, .int .i64 0, .int .i64 0, .int .i64 0, .int .i64 0, .int .i64 0, .int .i64 0, .slice none 0 0, .int .i64 0, .slice none 0 0, .int .i64 0, .int .i64 0, .slice none 0 0, .int .i64 0, .bool false] ++ []) from HR_7.out) rfl rfl))
              have HB_8 := Lib.hid (pt_bel hVF HB_7.out wlR)
              have HH_8 := Lib.hid (pt_own2 hVF HH_7.out djRH)
              have HY_8 := Lib.hid (pt_box hVF HY_7.out apYR)
              have HVF := Lib.hid hVF
              clear hVF
              refine LD.op_stV LD.big_Head _ _ rfl rfl rfl HR_7.out rfl (by decide) rfl HVF.out ?_
              refine hK _ _ ?_
              clear hK K
              refine wpAny_ready (rs := [6]) (by kernel_rfl) (by simp) ?_
              refine AllReady.cons rfl (fun K hK => ?_) ?_
              · skip
                go_simp
                refine hK _ _ ?_
                clear hK K
                refine wpAny_ready (rs := [8]) (by kernel_rfl) (by simp) ?_
                refine AllReady.cons rfl (fun K hK => ?_) ?_
                · skip
                  go_simp
                  refine hK _ _ ?_
                  clear hK K
                  refine wpAny_done (by kernel_rfl) ?_ _
                  go_wp2
                  refine bodyPost_ret (v := .tuple #[.agg #[.int .i64 k.zone, .int .i64 k.epoch, .int .i64 k.kind, .int .i64 k.time, .int .i64 k.until_, .int .i64 k.count, .int .i64 k.root, .int .i64 k.prev, .slice kA0 kn0 kc0, .int .i64 k.keys.need, .slice kA1 kn1 kc1, .int .i64 k.heirs.need, .int .i64 k.wait, .slice kA2 kn2 kc2, .int .i64 k.judge.need, .bool k.frozen], .int .i64 (k.until_ + x - 1)]) (LD.res_cell_tmp LD.big_Head Try.results12 rfl rfl HR_8.out rfl) rfl ⟨[.int .i64 k.zone, .int .i64 k.epoch, .int .i64 k.kind, .int .i64 k.time, .int .i64 k.until_, .int .i64 k.count, .int .i64 k.root, .int .i64 k.prev, .slice kA0 kn0 kc0, .int .i64 k.keys.need, .slice kA1 kn1 kc1, .int .i64 k.heirs.need, .int .i64 k.wait, .slice kA2 kn2 kc2, .int .i64 k.judge.need, .bool k.frozen], k, k.until_ + x - 1, rfl, own_up HH_8.out (by omega), by omega, inI64 (by omega) (by omega), HB_8.out⟩
                exact AllReady.nil
              exact AllReady.nil
            exact AllReady.nil
          refine AllReady.cons rfl (fun K hK => ?_) ?_
          · skip
            obtain ⟨VF, hVF⟩ : ∃ u9, puts W4 (w.heap.size) 0 [.int .i64 k.zone, .int .i64 k.epoch, .int .i64 k.kind, .int .i64 k.time, .int .i64 k.until_, .int .i64 k.count, .int .i64 k.root, .int .i64 k.prev, .slice kA0 kn0 kc0, .int .i64 k.keys.need, .slice kA1 kn1 kc1, .int .i64 k.heirs.need, .int .i64 k.wait, .slice kA2 kn2 kc2, .int .i64 k.judge.need, .bool k.frozen] = u9 := ⟨_, rfl⟩
            have hsVF : VF.heap.size = W4.heap.size := by rw [← hVF]; exact puts_size _ _
            have HR_8 := Lib.hid (show Box VF (w.heap.size) [.int .i64 k.zone, .int .i64 k.epoch, .int .i64 k.kind, .int .i64 k.time, .int .i64 k.until_, .int .i64 k.count, .int .i64 k.root, .int .i64 k.prev, .slice kA0 kn0 kc0, .int .i64 k.keys.need, .slice kA1 kn1 kc1, .int .i64 k.heirs.need, .int .i64 k.wait, .slice kA2 kn2 kc2, .int .i64 k.judge.need, .bool k.frozen] from (show Box VF (w.heap.size) ([] ++ [.int .i64 k.zone, .int .i64 k.epoch, .int .i64 k.kind, .int .i64 k.time, .int .i64 k.until_, .int .i64 k.count, .int .i64 k.root, .int .i64 k.prev, .slice kA0 kn0 kc0, .int .i64 k.keys.need, .slice kA1 kn1 kc1, .int .i64 k.heirs.need, .int .i64 k.wait, .slice kA2 kn2 kc2, .int .i64 k.judge.need, .bool k.frozen] ++ []) from pt_mid hVF (show Box W4 (w.heap.size) ([] ++ [.int .i64 0, .int .i64 0, .int .i64 0, .int .i64 0, .int .i64 0, .int .i64 0, .int .i64 0, .int .i64 0, .slice none 0 0, .int .i64 0, .slice none 0 0, .int .i64 0, .int .i64 0, .slice none 0 0, .int .i64 0, .bool false] ++ []) from HR_7.out) rfl rfl))
            have HB_8 := Lib.hid (pt_bel hVF HB_7.out wlR)
            have HH_8 := Lib.hid (pt_own2 hVF HH_7.out djRH)
            have HY_8 := Lib.hid (pt_box hVF HY_7.out apYR)
            have HVF := Lib.hid hVF
            clear hVF
            refine LD.op_stV LD.big_Head _ _ rfl rfl rfl HR_7.out rfl (by decide) rfl HVF.out ?_
            refine hK _ _ ?_
            clear hK K
            refine wpAny_ready (rs := [5]) (by kernel_rfl) (by simp) ?_
            refine AllReady.cons rfl (fun K hK => ?_) ?_
            · skip
              go_simp
              refine hK _ _ ?_
              clear hK K
              refine wpAny_ready (rs := [6]) (by kernel_rfl) (by simp) ?_
              refine AllReady.cons rfl (fun K hK => ?_) ?_
              · skip
                go_simp
                refine hK _ _ ?_
                clear hK K
                refine wpAny_ready (rs := [8]) (by kernel_rfl) (by simp) ?_
                refine AllReady.cons rfl (fun K hK => ?_) ?_
                · skip
                  go_simp
                  refine hK _ _ ?_
                  clear hK K
                  refine wpAny_done (by kernel_rfl) ?_ _
                  go_wp2
                  refine bodyPost_ret (v := .tuple #[.agg #[.int .i64 k.zone, .int .i64 k.epoch, .int .i64 k.kind, .int .i64 k.time, .int .i64 k.until_, .int .i64 k.count, .int .i64 k.root, .int .i64 k.prev, .slice kA0 kn0 kc0, .int .i64 k.keys.need, .slice kA1 kn1 kc1, .int .i64 k.heirs.need, .int .i64 k.wait, .slice kA2 kn2 kc2, .int .i64 k.judge.need, .bool k.frozen], .int .i64 (k.until_ + x - 1)]) (LD.res_cell_tmp LD.big_Head Try.results12 rfl rfl HR_8.out rfl) rfl ⟨[.int .i64 k.zone, .int .i64 k.epoch, .int .i64 k.kind, .int .i64 k.time, .int .i64 k.until_, .int .i64 k.count, .int .i64 k.root, .int .i64 k.prev, .slice kA0 kn0 kc0, .int .i64 k.keys.need, .slice kA1 kn1 kc1, .int .i64 k.heirs.need, .int .i64 k.wait, .slice kA2 kn2 kc2, .int .i64 k.judge.need, .bool k.frozen], k, k.until_ + x - 1, rfl, own_up HH_8.out (by omega), by omega, inI64 (by omega) (by omega), HB_8.out⟩
                exact AllReady.nil
              exact AllReady.nil
            exact AllReady.nil
          exact AllReady.nil
        refine AllReady.cons rfl (fun K hK => ?_) ?_
        · skip
          obtain ⟨VF, hVF⟩ : ∃ u9, puts W4 (w.heap.size) 0 [.int .i64 k.zone, .int .i64 k.epoch, .int .i64 k.kind, .int .i64 k.time, .int .i64 k.until_, .int .i64 k.count, .int .i64 k.root, .int .i64 k.prev, .slice kA0 kn0 kc0, .int .i64 k.keys.need, .slice kA1 kn1 kc1, .int .i64 k.heirs.need, .int .i64 k.wait, .slice kA2 kn2 kc2, .int .i64 k.judge.need, .bool k.frozen] = u9 := ⟨_, rfl⟩
          have hsVF : VF.heap.size = W4.heap.size := by rw [← hVF]; exact puts_size _ _
          have HR_8 := Lib.hid (show Box VF (w.heap.size) [.int .i64 k.zone, .int .i64 k.epoch, .int .i64 k.kind, .int .i64 k.time, .int .i64 k.until_, .int .i64 k.count, .int .i64 k.root, .int .i64 k.prev, .slice kA0 kn0 kc0, .int .i64 k.keys.need, .slice kA1 kn1 kc1, .int .i64 k.heirs.need, .int .i64 k.wait, .slice kA2 kn2 kc2, .int .i64 k.judge.need, .bool k.frozen] from (show Box VF (w.heap.size) ([] ++ [.int .i64 k.zone, .int .i64 k.epoch, .int .i64 k.kind, .int .i64 k.time, .int .i64 k.until_, .int .i64 k.count, .int .i64 k.root, .int .i64 k.prev, .slice kA0 kn0 kc0, .int .i64 k.keys.need, .slice kA1 kn1 kc1, .int .i64 k.heirs.need, .int .i64 k.wait, .slice kA2 kn2 kc2, .int .i64 k.judge.need, .bool k.frozen] ++ []) from pt_mid hVF (show Box W4 (w.heap.size) ([] ++ [.int .i64 0, .int .i64 0, .int .i64 0, .int .i64 0, .int .i64 0, .int .i64 0, .int .i64 0, .int .i64 0, .slice none 0 0, .int .i64 0, .slice none 0 0, .int .i64 0, .int .i64 0, .slice none 0 0, .int .i64 0, .bool false] ++ []) from HR_7.out) rfl rfl))
          have HB_8 := Lib.hid (pt_bel hVF HB_7.out wlR)
          have HH_8 := Lib.hid (pt_own2 hVF HH_7.out djRH)
          have HY_8 := Lib.hid (pt_box hVF HY_7.out apYR)
          have HVF := Lib.hid hVF
          clear hVF
          refine LD.op_stV LD.big_Head _ _ rfl rfl rfl HR_7.out rfl (by decide) rfl HVF.out ?_
          refine hK _ _ ?_
          clear hK K
          refine wpAny_ready (rs := [2]) (by kernel_rfl) (by simp) ?_
          refine AllReady.cons rfl (fun K hK => ?_) ?_
          · skip
            have zY0 := HY_8.out.cell (j := 0) rfl
            have zY1 := HY_8.out.cell (j := 1) rfl
            have zY2 := HY_8.out.cell (j := 2) rfl
            have zY3 := HY_8.out.cell (j := 3) rfl
            have zY4 := HY_8.out.cell (j := 4) rfl
            have zY5 := HY_8.out.cell (j := 5) rfl
            have zY6 := HY_8.out.cell (j := 6) rfl
            have zY7 := HY_8.out.cell (j := 7) rfl
            have zY8 := HY_8.out.cell (j := 8) rfl
            have zY9 := HY_8.out.cell (j := 9) rfl
            have zY10 := HY_8.out.cell (j := 10) rfl
            have zY11 := HY_8.out.cell (j := 11) rfl
            have zY12 := HY_8.out.cell (j := 12) rfl
            have zY13 := HY_8.out.cell (j := 13) rfl
            have zY14 := HY_8.out.cell (j := 14) rfl
            have zY15 := HY_8.out.cell (j := 15) rfl
            go_simp
            clear zY0 zY1 zY2 zY3 zY4 zY5 zY6 zY7 zY8 zY9 zY10 zY11 zY12 zY13 zY14 zY15
            refine hK _ _ ?_
            clear hK K
            refine wpAny_ready (rs := [5]) (by kernel_rfl) (by simp) ?_
            refine AllReady.cons rfl (fun K hK => ?_) ?_
            · skip
              go_simp
              refine hK _ _ ?_
              clear hK K
              refine wpAny_ready (rs := [6]) (by kernel_rfl) (by simp) ?_
              refine AllReady.cons rfl (fun K hK => ?_) ?_
              · skip
                go_simp
                refine hK _ _ ?_
                clear hK K
                refine wpAny_ready (rs := [8]) (by kernel_rfl) (by simp) ?_
                refine AllReady.cons rfl (fun K hK => ?_) ?_
                · skip
                  go_simp
                  refine hK _ _ ?_
                  clear hK K
                  refine wpAny_done (by kernel_rfl) ?_ _
                  go_wp2
                  refine bodyPost_ret (v := .tuple #[.agg #[.int .i64 k.zone, .int .i64 k.epoch, .int .i64 k.kind, .int .i64 k.time, .int .i64 k.until_, .int .i64 k.count, .int .i64 k.root, .int .i64 k.prev, .slice kA0 kn0 kc0, .int .i64 k.keys.need, .slice kA1 kn1 kc1, .int .i64 k.heirs.need, .int .i64 k.wait, .slice kA2 kn2 kc2, .int .i64 k.judge.need, .bool k.frozen], .int .i64 (k.until_ + x - 1)]) (LD.res_cell_tmp LD.big_Head Try.results12 rfl rfl HR_8.out rfl) rfl ⟨[.int .i64 k.zone, .int .i64 k.epoch, .int .i64 k.kind, .int .i64 k.time, .int .i64 k.until_, .int .i64 k.count, .int .i64 k.root, .int .i64 k.prev, .slice kA0 kn0 kc0, .int .i64 k.keys.need, .slice kA1 kn1 kc1, .int .i64 k.heirs.need, .int .i64 k.wait, .slice kA2 kn2 kc2, .int .i64 k.judge.need, .bool k.frozen], k, k.until_ + x - 1, rfl, own_up HH_8.out (by omega), by omega, inI64 (by omega) (by omega), HB_8.out⟩
                exact AllReady.nil
              exact AllReady.nil
            exact AllReady.nil
          exact AllReady.nil
        exact AllReady.nil
      exact AllReady.nil
    refine AllReady.cons rfl (fun K hK => ?_) ?_
    · skip
      have zY0 := HY_6.out.cell (j := 0) rfl
      have zY1 := HY_6.out.cell (j := 1) rfl
      have zY2 := HY_6.out.cell (j := 2) rfl
      have zY3 := HY_6.out.cell (j := 3) rfl
      have zY4 := HY_6.out.cell (j := 4) rfl
      have zY5 := HY_6.out.cell (j := 5) rfl
      have zY6 := HY_6.out.cell (j := 6) rfl
      have zY7 := HY_6.out.cell (j := 7) rfl
      have zY8 := HY_6.out.cell (j := 8) rfl
      have zY9 := HY_6.out.cell (j := 9) rfl
      have zY10 := HY_6.out.cell (j := 10) rfl
      have zY11 := HY_6.out.cell (j := 11) rfl
      have zY12 := HY_6.out.cell (j := 12) rfl
      have zY13 := HY_6.out.cell (j := 13) rfl
      have zY14 := HY_6.out.cell (j := 14) rfl
      have zY15 := HY_6.out.cell (j := 15) rfl
      go_simp
      clear zY0 zY1 zY2 zY3 zY4 zY5 zY6 zY7 zY8 zY9 zY10 zY11 zY12 zY13 zY14 zY15
      refine hK _ _ ?_
      clear hK K
      refine wpAny_ready (rs := [0, 4]) (by kernel_rfl) (by simp) ?_
      refine AllReady.cons rfl (fun K hK => ?_) ?_
      · skip
        refine LD.op_ld LD.big_Head _ rfl rfl HY_6.out rfl ?_
        simp only [Act.put, List.getElem_toArray, List.getElem_cons_zero, List.getElem_cons_succ, List.setIfInBounds_toArray, List.set_cons_succ, List.set_cons_zero]
        refine hK _ _ ?_
        clear hK K
        refine wpAny_ready (rs := [4]) (by kernel_rfl) (by simp) ?_
        refine AllReady.cons rfl (fun K hK => ?_) ?_
        · skip
          go_simp
          go_at_call 41
          refine (l1Below_any 3 _ _ g HC_6.out).mono ?_
          rintro e W4 ⟨v, ⟨x, hx, hx9, rfl⟩, rfl, hc_, hk_⟩
          have HR_7 := Lib.hid (bxK HR_6.out hk_ neR)
          have HB_7 := Lib.hid (HB_6.out.trans (hk_.below gwl HB_6.out.size))
          have HC_7 := Lib.hid (hc_)
          have HH_7 := Lib.hid (HH_6.out.keep (w' := W4) fun i h0 h1 h2 => hk_.block i h0 (Nat.ne_of_gt (Nat.lt_of_lt_of_le glH h1)))
          have HY_7 := Lib.hid (bxK HY_6.out hk_ neY)
          have hsW4 := hk_.size
          clear hc_ hk_
          have hxn : x < 3 := by omega
          have hxs : -9223372036854775808 ≤ k.until_ + x ∧ k.until_ + x ≤ 9223372036854775807 := by omega
          have hw1 : IntKind.i64.wrap (k.until_ + x) = k.until_ + x := by rw [IntKind.wrap_i64]; omega
          have hw2 : IntKind.i64.wrap (k.until_ + x - 1) = k.until_ + x - 1 := by rw [IntKind.wrap_i64]; omega
          clear hx9
          go_simp
          refine hK _ _ ?_
          clear hK K
          refine wpAny_ready (rs := [5, 7]) (by kernel_rfl) (by simp) ?_
          refine AllReady.cons rfl (fun K hK => ?_) ?_
          · skip
            go_simp
            refine hK _ _ ?_
            clear hK K
            refine wpAny_ready (rs := [6, 7]) (by kernel_rfl) (by simp) ?_
            refine AllReady.cons rfl (fun K hK => ?_) ?_
            · skip
              go_simp
              refine hK _ _ ?_
              clear hK K
              refine wpAny_ready (rs := [7]) (by kernel_rfl) (by simp) ?_
              refine AllReady.cons rfl (fun K hK => ?_) ?_
              · skip
                obtain ⟨VF, hVF⟩ : ∃ u9, puts W4 (w.heap.size) 0 [.int .i64 k.zone, .int .i64 k.epoch, .int .i64 k.kind, .int .i64 k.time, .int .i64 k.until_, .int .i64 k.count, .int .i64 k.root, .int .i64 k.prev, .slice kA0 kn0 kc0, .int .i64 k.keys.need, .slice kA1 kn1 kc1, .int .i64 k.heirs.need, .int .i64 k.wait, .slice kA2 kn2 kc2, .int .i64 k.judge.need, .bool k.frozen] = u9 := ⟨_, rfl⟩
                have hsVF : VF.heap.size = W4.heap.size := by rw [← hVF]; exact puts_size _ _
                have HR_8 := Lib.hid (show Box VF (w.heap.size) [.int .i64 k.zone, .int .i64 k.epoch, .int .i64 k.kind, .int .i64 k.time, .int .i64 k.until_, .int .i64 k.count, .int .i64 k.root, .int .i64 k.prev, .slice kA0 kn0 kc0, .int .i64 k.keys.need, .slice kA1 kn1 kc1, .int .i64 k.heirs.need, .int .i64 k.wait, .slice kA2 kn2 kc2, .int .i64 k.judge.need, .bool k.frozen] from (show Box VF (w.heap.size) ([] ++ [.int .i64 k.zone, .int .i64 k.epoch, .int .i64 k.kind, .int .i64 k.time, .int .i64 k.until_, .int .i64 k.count, .int .i64 k.root, .int .i64 k.prev, .slice kA0 kn0 kc0, .int .i64 k.keys.need, .slice kA1 kn1 kc1, .int .i64 k.heirs.need, .int .i64 k.wait, .slice kA2 kn2 kc2, .int .i64 k.judge.need, .bool k.frozen] ++ []) from pt_mid hVF (show Box W4 (w.heap.size) ([] ++ [.int .i64 0, .int .i64 0, .int .i64 0, .int .i64 0, .int .i64 0, .int .i64 0, .int .i64 0, .int .i64 0, .slice none 0 0, .int .i64 0, .slice none 0 0, .int .i64 0, .int .i64 0, .slice none 0 0, .int .i64 0, .bool false] ++ []) from HR_7.out) rfl rfl))
                have HB_8 := Lib.hid (pt_bel hVF HB_7.out wlR)
                have HH_8 := Lib.hid (pt_own2 hVF HH_7.out djRH)
                have HY_8 := Lib.hid (pt_box hVF HY_7.out apYR)
                have HVF := Lib.hid hVF
                clear hVF
                refine LD.op_stV LD.big_Head _ _ rfl rfl rfl HR_7.out rfl (by decide) rfl HVF.out ?_
                refine hK _ _ ?_
                clear hK K
                refine wpAny_ready (rs := [8]) (by kernel_rfl) (by simp) ?_
                refine AllReady.cons rfl (fun K hK => ?_) ?_
                · skip
                  go_simp
                  refine hK _ _ ?_
                  clear hK K
                  refine wpAny_done (by kernel_rfl) ?_ _
                  go_wp2
                  refine bodyPost_ret (v := .tuple #[.agg #[.int .i64 k.zone, .int .i64 k.epoch, .int .i64 k.kind, .int .i64 k.time, .int .i64 k.until_, .int .i64 k.count, .int .i64 k.root, .int .i64 k.prev, .slice kA0 kn0 kc0, .int .i64 k.keys.need, .slice kA1 kn1 kc1, .int .i64 k.heirs.need, .int .i64 k.wait, .slice kA2 kn2 kc2, .int .i64 k.judge.need, .bool k.frozen], .int .i64 (k.until_ + x - 1)]) (LD.res_cell_tmp LD.big_Head Try.results12 rfl rfl HR_8.out rfl) rfl ⟨[.int .i64 k.zone, .int .i64 k.epoch, .int .i64 k.kind, .int .i64 k.time, .int .i64 k.until_, .int .i64 k.count, .int .i64 k.root, .int .i64 k.prev, .slice kA0 kn0 kc0, .int .i64 k.keys.need, .slice kA1 kn1 kc1, .int .i64 k.heirs.need, .int .i64 k.wait, .slice kA2 kn2 kc2, .int .i64 k.judge.need, .bool k.frozen], k, k.until_ + x - 1, rfl, own_up HH_8.out (by omega), by omega, inI64 (by omega) (by omega), HB_8.out⟩
                exact AllReady.nil
              exact AllReady.nil
            refine AllReady.cons rfl (fun K hK => ?_) ?_
            · skip
              obtain ⟨VF, hVF⟩ : ∃ u9, puts W4 (w.heap.size) 0 [.int .i64 k.zone, .int .i64 k.epoch, .int .i64 k.kind, .int .i64 k.time, .int .i64 k.until_, .int .i64 k.count, .int .i64 k.root, .int .i64 k.prev, .slice kA0 kn0 kc0, .int .i64 k.keys.need, .slice kA1 kn1 kc1, .int .i64 k.heirs.need, .int .i64 k.wait, .slice kA2 kn2 kc2, .int .i64 k.judge.need, .bool k.frozen] = u9 := ⟨_, rfl⟩
              have hsVF : VF.heap.size = W4.heap.size := by rw [← hVF]; exact puts_size _ _
              have HR_8 := Lib.hid (show Box VF (w.heap.size) [.int .i64 k.zone, .int .i64 k.epoch, .int .i64 k.kind, .int .i64 k.time, .int .i64 k.until_, .int .i64 k.count, .int .i64 k.root, .int .i64 k.prev, .slice kA0 kn0 kc0, .int .i64 k.keys.need, .slice kA1 kn1 kc1, .int .i64 k.heirs.need, .int .i64 k.wait, .slice kA2 kn2 kc2, .int .i64 k.judge.need, .bool k.frozen] from (show Box VF (w.heap.size) ([] ++ [.int .i64 k.zone, .int .i64 k.epoch, .int .i64 k.kind, .int .i64 k.time, .int .i64 k.until_, .int .i64 k.count, .int .i64 k.root, .int .i64 k.prev, .slice kA0 kn0 kc0, .int .i64 k.keys.need, .slice kA1 kn1 kc1, .int .i64 k.heirs.need, .int .i64 k.wait, .slice kA2 kn2 kc2, .int .i64 k.judge.need, .bool k.frozen] ++ []) from pt_mid hVF (show Box W4 (w.heap.size) ([] ++ [.int .i64 0, .int .i64 0, .int .i64 0, .int .i64 0, .int .i64 0, .int .i64 0, .int .i64 0, .int .i64 0, .slice none 0 0, .int .i64 0, .slice none 0 0, .int .i64 0, .int .i64 0, .slice none 0 0, .int .i64 0, .bool false] ++ []) from HR_7.out) rfl rfl))
              have HB_8 := Lib.hid (pt_bel hVF HB_7.out wlR)
              have HH_8 := Lib.hid (pt_own2 hVF HH_7.out djRH)
              have HY_8 := Lib.hid (pt_box hVF HY_7.out apYR)
              have HVF := Lib.hid hVF
              clear hVF
              refine LD.op_stV LD.big_Head _ _ rfl rfl rfl HR_7.out rfl (by decide) rfl HVF.out ?_
              refine hK _ _ ?_
              clear hK K
              refine wpAny_ready (rs := [6]) (by kernel_rfl) (by simp) ?_
              refine AllReady.cons rfl (fun K hK => ?_) ?_
              · skip
                go_simp
                refine hK _ _ ?_
                clear hK K
                refine wpAny_ready (rs := [8]) (by kernel_rfl) (by simp) ?_
                refine AllReady.cons rfl (fun K hK => ?_) ?_
                · skip
                  go_simp
                  refine hK _ _ ?_
                  clear hK K
                  refine wpAny_done (by kernel_rfl) ?_ _
                  go_wp2
                  refine bodyPost_ret (v := .tuple #[.agg #[.int .i64 k.zone, .int .i64 k.epoch, .int .i64 k.kind, .int .i64 k.time, .int .i64 k.until_, .int .i64 k.count, .int .i64 k.root, .int .i64 k.prev, .slice kA0 kn0 kc0, .int .i64 k.keys.need, .slice kA1 kn1 kc1, .int .i64 k.heirs.need, .int .i64 k.wait, .slice kA2 kn2 kc2, .int .i64 k.judge.need, .bool k.frozen], .int .i64 (k.until_ + x - 1)]) (LD.res_cell_tmp LD.big_Head Try.results12 rfl rfl HR_8.out rfl) rfl ⟨[.int .i64 k.zone, .int .i64 k.epoch, .int .i64 k.kind, .int .i64 k.time, .int .i64 k.until_, .int .i64 k.count, .int .i64 k.root, .int .i64 k.prev, .slice kA0 kn0 kc0, .int .i64 k.keys.need, .slice kA1 kn1 kc1, .int .i64 k.heirs.need, .int .i64 k.wait, .slice kA2 kn2 kc2, .int .i64 k.judge.need, .bool k.frozen], k, k.until_ + x - 1, rfl, own_up HH_8.out (by omega), by omega, inI64 (by omega) (by omega), HB_8.out⟩
                exact AllReady.nil
              exact AllReady.nil
            exact AllReady.nil
          refine AllReady.cons rfl (fun K hK => ?_) ?_
          · skip
            obtain ⟨VF, hVF⟩ : ∃ u9, puts W4 (w.heap.size) 0 [.int .i64 k.zone, .int .i64 k.epoch, .int .i64 k.kind, .int .i64 k.time, .int .i64 k.until_, .int .i64 k.count, .int .i64 k.root, .int .i64 k.prev, .slice kA0 kn0 kc0, .int .i64 k.keys.need, .slice kA1 kn1 kc1, .int .i64 k.heirs.need, .int .i64 k.wait, .slice kA2 kn2 kc2, .int .i64 k.judge.need, .bool k.frozen] = u9 := ⟨_, rfl⟩
            have hsVF : VF.heap.size = W4.heap.size := by rw [← hVF]; exact puts_size _ _
            have HR_8 := Lib.hid (show Box VF (w.heap.size) [.int .i64 k.zone, .int .i64 k.epoch, .int .i64 k.kind, .int .i64 k.time, .int .i64 k.until_, .int .i64 k.count, .int .i64 k.root, .int .i64 k.prev, .slice kA0 kn0 kc0, .int .i64 k.keys.need, .slice kA1 kn1 kc1, .int .i64 k.heirs.need, .int .i64 k.wait, .slice kA2 kn2 kc2, .int .i64 k.judge.need, .bool k.frozen] from (show Box VF (w.heap.size) ([] ++ [.int .i64 k.zone, .int .i64 k.epoch, .int .i64 k.kind, .int .i64 k.time, .int .i64 k.until_, .int .i64 k.count, .int .i64 k.root, .int .i64 k.prev, .slice kA0 kn0 kc0, .int .i64 k.keys.need, .slice kA1 kn1 kc1, .int .i64 k.heirs.need, .int .i64 k.wait, .slice kA2 kn2 kc2, .int .i64 k.judge.need, .bool k.frozen] ++ []) from pt_mid hVF (show Box W4 (w.heap.size) ([] ++ [.int .i64 0, .int .i64 0, .int .i64 0, .int .i64 0, .int .i64 0, .int .i64 0, .int .i64 0, .int .i64 0, .slice none 0 0, .int .i64 0, .slice none 0 0, .int .i64 0, .int .i64 0, .slice none 0 0, .int .i64 0, .bool false] ++ []) from HR_7.out) rfl rfl))
            have HB_8 := Lib.hid (pt_bel hVF HB_7.out wlR)
            have HH_8 := Lib.hid (pt_own2 hVF HH_7.out djRH)
            have HY_8 := Lib.hid (pt_box hVF HY_7.out apYR)
            have HVF := Lib.hid hVF
            clear hVF
            refine LD.op_stV LD.big_Head _ _ rfl rfl rfl HR_7.out rfl (by decide) rfl HVF.out ?_
            refine hK _ _ ?_
            clear hK K
            refine wpAny_ready (rs := [5]) (by kernel_rfl) (by simp) ?_
            refine AllReady.cons rfl (fun K hK => ?_) ?_
            · skip
              go_simp
              refine hK _ _ ?_
              clear hK K
              refine wpAny_ready (rs := [6]) (by kernel_rfl) (by simp) ?_
              refine AllReady.cons rfl (fun K hK => ?_) ?_
              · skip
                go_simp
                refine hK _ _ ?_
                clear hK K
                refine wpAny_ready (rs := [8]) (by kernel_rfl) (by simp) ?_
                refine AllReady.cons rfl (fun K hK => ?_) ?_
                · skip
                  go_simp
                  refine hK _ _ ?_
                  clear hK K
                  refine wpAny_done (by kernel_rfl) ?_ _
                  go_wp2
                  refine bodyPost_ret (v := .tuple #[.agg #[.int .i64 k.zone, .int .i64 k.epoch, .int .i64 k.kind, .int .i64 k.time, .int .i64 k.until_, .int .i64 k.count, .int .i64 k.root, .int .i64 k.prev, .slice kA0 kn0 kc0, .int .i64 k.keys.need, .slice kA1 kn1 kc1, .int .i64 k.heirs.need, .int .i64 k.wait, .slice kA2 kn2 kc2, .int .i64 k.judge.need, .bool k.frozen], .int .i64 (k.until_ + x - 1)]) (LD.res_cell_tmp LD.big_Head Try.results12 rfl rfl HR_8.out rfl) rfl ⟨[.int .i64 k.zone, .int .i64 k.epoch, .int .i64 k.kind, .int .i64 k.time, .int .i64 k.until_, .int .i64 k.count, .int .i64 k.root, .int .i64 k.prev, .slice kA0 kn0 kc0, .int .i64 k.keys.need, .slice kA1 kn1 kc1, .int .i64 k.heirs.need, .int .i64 k.wait, .slice kA2 kn2 kc2, .int .i64 k.judge.need, .bool k.frozen], k, k.until_ + x - 1, rfl, own_up HH_8.out (by omega), by omega, inI64 (by omega) (by omega), HB_8.out⟩
                exact AllReady.nil
              exact AllReady.nil
            exact AllReady.nil
          exact AllReady.nil
        exact AllReady.nil
      refine AllReady.cons rfl (fun K hK => ?_) ?_
      · skip
        go_simp
        go_at_call 41
        refine (l1Below_any 3 _ _ g HC_6.out).mono ?_
        rintro e W4 ⟨v, ⟨x, hx, hx9, rfl⟩, rfl, hc_, hk_⟩
        have HR_7 := Lib.hid (bxK HR_6.out hk_ neR)
        have HB_7 := Lib.hid (HB_6.out.trans (hk_.below gwl HB_6.out.size))
        have HC_7 := Lib.hid (hc_)
        have HH_7 := Lib.hid (HH_6.out.keep (w' := W4) fun i h0 h1 h2 => hk_.block i h0 (Nat.ne_of_gt (Nat.lt_of_lt_of_le glH h1)))
        have HY_7 := Lib.hid (bxK HY_6.out hk_ neY)
        have hsW4 := hk_.size
        clear hc_ hk_
        have hxn : x < 3 := by omega
        have hxs : -9223372036854775808 ≤ k.until_ + x ∧ k.until_ + x ≤ 9223372036854775807 := by omega
        have hw1 : IntKind.i64.wrap (k.until_ + x) = k.until_ + x := by rw [IntKind.wrap_i64]; omega
        have hw2 : IntKind.i64.wrap (k.until_ + x - 1) = k.until_ + x - 1 := by rw [IntKind.wrap_i64]; omega
        clear hx9
        go_simp
        refine hK _ _ ?_
        clear hK K
        refine wpAny_ready (rs := [0, 5]) (by kernel_rfl) (by simp) ?_
        refine AllReady.cons rfl (fun K hK => ?_) ?_
        · skip
          refine LD.op_ld LD.big_Head _ rfl rfl HY_7.out rfl ?_
          simp only [Act.put, List.getElem_toArray, List.getElem_cons_zero, List.getElem_cons_succ, List.setIfInBounds_toArray, List.set_cons_succ, List.set_cons_zero]
          refine hK _ _ ?_
          clear hK K
          refine wpAny_ready (rs := [5, 7]) (by kernel_rfl) (by simp) ?_
          refine AllReady.cons rfl (fun K hK => ?_) ?_
          · skip
            go_simp
            refine hK _ _ ?_
            clear hK K
            refine wpAny_ready (rs := [6, 7]) (by kernel_rfl) (by simp) ?_
            refine AllReady.cons rfl (fun K hK => ?_) ?_
            · skip
              go_simp
              refine hK _ _ ?_
              clear hK K
              refine wpAny_ready (rs := [7]) (by kernel_rfl) (by simp) ?_
              refine AllReady.cons rfl (fun K hK => ?_) ?_
              · skip
                obtain ⟨VF, hVF⟩ : ∃ u9, puts W4 (w.heap.size) 0 [.int .i64 k.zone, .int .i64 k.epoch, .int .i64 k.kind, .int .i64 k.time, .int .i64 k.until_, .int .i64 k.count, .int .i64 k.root, .int .i64 k.prev, .slice kA0 kn0 kc0, .int .i64 k.keys.need, .slice kA1 kn1 kc1, .int .i64 k.heirs.need, .int .i64 k.wait, .slice kA2 kn2 kc2, .int .i64 k.judge.need, .bool k.frozen] = u9 := ⟨_, rfl⟩
                have hsVF : VF.heap.size = W4.heap.size := by rw [← hVF]; exact puts_size _ _
                have HR_8 := Lib.hid (show Box VF (w.heap.size) [.int .i64 k.zone, .int .i64 k.epoch, .int .i64 k.kind, .int .i64 k.time, .int .i64 k.until_, .int .i64 k.count, .int .i64 k.root, .int .i64 k.prev, .slice kA0 kn0 kc0, .int .i64 k.keys.need, .slice kA1 kn1 kc1, .int .i64 k.heirs.need, .int .i64 k.wait, .slice kA2 kn2 kc2, .int .i64 k.judge.need, .bool k.frozen] from (show Box VF (w.heap.size) ([] ++ [.int .i64 k.zone, .int .i64 k.epoch, .int .i64 k.kind, .int .i64 k.time, .int .i64 k.until_, .int .i64 k.count, .int .i64 k.root, .int .i64 k.prev, .slice kA0 kn0 kc0, .int .i64 k.keys.need, .slice kA1 kn1 kc1, .int .i64 k.heirs.need, .int .i64 k.wait, .slice kA2 kn2 kc2, .int .i64 k.judge.need, .bool k.frozen] ++ []) from pt_mid hVF (show Box W4 (w.heap.size) ([] ++ [.int .i64 0, .int .i64 0, .int .i64 0, .int .i64 0, .int .i64 0, .int .i64 0, .int .i64 0, .int .i64 0, .slice none 0 0, .int .i64 0, .slice none 0 0, .int .i64 0, .int .i64 0, .slice none 0 0, .int .i64 0, .bool false] ++ []) from HR_7.out) rfl rfl))
                have HB_8 := Lib.hid (pt_bel hVF HB_7.out wlR)
                have HH_8 := Lib.hid (pt_own2 hVF HH_7.out djRH)
                have HY_8 := Lib.hid (pt_box hVF HY_7.out apYR)
                have HVF := Lib.hid hVF
                clear hVF
                refine LD.op_stV LD.big_Head _ _ rfl rfl rfl HR_7.out rfl (by decide) rfl HVF.out ?_
                refine hK _ _ ?_
                clear hK K
                refine wpAny_ready (rs := [8]) (by kernel_rfl) (by simp) ?_
                refine AllReady.cons rfl (fun K hK => ?_) ?_
                · skip
                  go_simp
                  refine hK _ _ ?_
                  clear hK K
                  refine wpAny_done (by kernel_rfl) ?_ _
                  go_wp2
                  refine bodyPost_ret (v := .tuple #[.agg #[.int .i64 k.zone, .int .i64 k.epoch, .int .i64 k.kind, .int .i64 k.time, .int .i64 k.until_, .int .i64 k.count, .int .i64 k.root, .int .i64 k.prev, .slice kA0 kn0 kc0, .int .i64 k.keys.need, .slice kA1 kn1 kc1, .int .i64 k.heirs.need, .int .i64 k.wait, .slice kA2 kn2 kc2, .int .i64 k.judge.need, .bool k.frozen], .int .i64 (k.until_ + x - 1)]) (LD.res_cell_tmp LD.big_Head Try.results12 rfl rfl HR_8.out rfl) rfl ⟨[.int .i64 k.zone, .int .i64 k.epoch, .int .i64 k.kind, .int .i64 k.time, .int .i64 k.until_, .int .i64 k.count, .int .i64 k.root, .int .i64 k.prev, .slice kA0 kn0 kc0, .int .i64 k.keys.need, .slice kA1 kn1 kc1, .int .i64 k.heirs.need, .int .i64 k.wait, .slice kA2 kn2 kc2, .int .i64 k.judge.need, .bool k.frozen], k, k.until_ + x - 1, rfl, own_up HH_8.out (by omega), by omega, inI64 (by omega) (by omega), HB_8.out⟩
                exact AllReady.nil
              exact AllReady.nil
            refine AllReady.cons rfl (fun K hK => ?_) ?_
            · skip
              obtain ⟨VF, hVF⟩ : ∃ u9, puts W4 (w.heap.size) 0 [.int .i64 k.zone, .int .i64 k.epoch, .int .i64 k.kind, .int .i64 k.time, .int .i64 k.until_, .int .i64 k.count, .int .i64 k.root, .int .i64 k.prev, .slice kA0 kn0 kc0, .int .i64 k.keys.need, .slice kA1 kn1 kc1, .int .i64 k.heirs.need, .int .i64 k.wait, .slice kA2 kn2 kc2, .int .i64 k.judge.need, .bool k.frozen] = u9 := ⟨_, rfl⟩
              have hsVF : VF.heap.size = W4.heap.size := by rw [← hVF]; exact puts_size _ _
              have HR_8 := Lib.hid (show Box VF (w.heap.size) [.int .i64 k.zone, .int .i64 k.epoch, .int .i64 k.kind, .int .i64 k.time, .int .i64 k.until_, .int .i64 k.count, .int .i64 k.root, .int .i64 k.prev, .slice kA0 kn0 kc0, .int .i64 k.keys.need, .slice kA1 kn1 kc1, .int .i64 k.heirs.need, .int .i64 k.wait, .slice kA2 kn2 kc2, .int .i64 k.judge.need, .bool k.frozen] from (show Box VF (w.heap.size) ([] ++ [.int .i64 k.zone, .int .i64 k.epoch, .int .i64 k.kind, .int .i64 k.time, .int .i64 k.until_, .int .i64 k.count, .int .i64 k.root, .int .i64 k.prev, .slice kA0 kn0 kc0, .int .i64 k.keys.need, .slice kA1 kn1 kc1, .int .i64 k.heirs.need, .int .i64 k.wait, .slice kA2 kn2 kc2, .int .i64 k.judge.need, .bool k.frozen] ++ []) from pt_mid hVF (show Box W4 (w.heap.size) ([] ++ [.int .i64 0, .int .i64 0, .int .i64 0, .int .i64 0, .int .i64 0, .int .i64 0, .int .i64 0, .int .i64 0, .slice none 0 0, .int .i64 0, .slice none 0 0, .int .i64 0, .int .i64 0, .slice none 0 0, .int .i64 0, .bool false] ++ []) from HR_7.out) rfl rfl))
              have HB_8 := Lib.hid (pt_bel hVF HB_7.out wlR)
              have HH_8 := Lib.hid (pt_own2 hVF HH_7.out djRH)
              have HY_8 := Lib.hid (pt_box hVF HY_7.out apYR)
              have HVF := Lib.hid hVF
              clear hVF
              refine LD.op_stV LD.big_Head _ _ rfl rfl rfl HR_7.out rfl (by decide) rfl HVF.out ?_
              refine hK _ _ ?_
              clear hK K
              refine wpAny_ready (rs := [6]) (by kernel_rfl) (by simp) ?_
              refine AllReady.cons rfl (fun K hK => ?_) ?_
              · skip
                go_simp
                refine hK _ _ ?_
                clear hK K
                refine wpAny_ready (rs := [8]) (by kernel_rfl) (by simp) ?_
                refine AllReady.cons rfl (fun K hK => ?_) ?_
                · skip
                  go_simp
                  refine hK _ _ ?_
                  clear hK K
                  refine wpAny_done (by kernel_rfl) ?_ _
                  go_wp2
                  refine bodyPost_ret (v := .tuple #[.agg #[.int .i64 k.zone, .int .i64 k.epoch, .int .i64 k.kind, .int .i64 k.time, .int .i64 k.until_, .int .i64 k.count, .int .i64 k.root, .int .i64 k.prev, .slice kA0 kn0 kc0, .int .i64 k.keys.need, .slice kA1 kn1 kc1, .int .i64 k.heirs.need, .int .i64 k.wait, .slice kA2 kn2 kc2, .int .i64 k.judge.need, .bool k.frozen], .int .i64 (k.until_ + x - 1)]) (LD.res_cell_tmp LD.big_Head Try.results12 rfl rfl HR_8.out rfl) rfl ⟨[.int .i64 k.zone, .int .i64 k.epoch, .int .i64 k.kind, .int .i64 k.time, .int .i64 k.until_, .int .i64 k.count, .int .i64 k.root, .int .i64 k.prev, .slice kA0 kn0 kc0, .int .i64 k.keys.need, .slice kA1 kn1 kc1, .int .i64 k.heirs.need, .int .i64 k.wait, .slice kA2 kn2 kc2, .int .i64 k.judge.need, .bool k.frozen], k, k.until_ + x - 1, rfl, own_up HH_8.out (by omega), by omega, inI64 (by omega) (by omega), HB_8.out⟩
                exact AllReady.nil
              exact AllReady.nil
            exact AllReady.nil
          refine AllReady.cons rfl (fun K hK => ?_) ?_
          · skip
            obtain ⟨VF, hVF⟩ : ∃ u9, puts W4 (w.heap.size) 0 [.int .i64 k.zone, .int .i64 k.epoch, .int .i64 k.kind, .int .i64 k.time, .int .i64 k.until_, .int .i64 k.count, .int .i64 k.root, .int .i64 k.prev, .slice kA0 kn0 kc0, .int .i64 k.keys.need, .slice kA1 kn1 kc1, .int .i64 k.heirs.need, .int .i64 k.wait, .slice kA2 kn2 kc2, .int .i64 k.judge.need, .bool k.frozen] = u9 := ⟨_, rfl⟩
            have hsVF : VF.heap.size = W4.heap.size := by rw [← hVF]; exact puts_size _ _
            have HR_8 := Lib.hid (show Box VF (w.heap.size) [.int .i64 k.zone, .int .i64 k.epoch, .int .i64 k.kind, .int .i64 k.time, .int .i64 k.until_, .int .i64 k.count, .int .i64 k.root, .int .i64 k.prev, .slice kA0 kn0 kc0, .int .i64 k.keys.need, .slice kA1 kn1 kc1, .int .i64 k.heirs.need, .int .i64 k.wait, .slice kA2 kn2 kc2, .int .i64 k.judge.need, .bool k.frozen] from (show Box VF (w.heap.size) ([] ++ [.int .i64 k.zone, .int .i64 k.epoch, .int .i64 k.kind, .int .i64 k.time, .int .i64 k.until_, .int .i64 k.count, .int .i64 k.root, .int .i64 k.prev, .slice kA0 kn0 kc0, .int .i64 k.keys.need, .slice kA1 kn1 kc1, .int .i64 k.heirs.need, .int .i64 k.wait, .slice kA2 kn2 kc2, .int .i64 k.judge.need, .bool k.frozen] ++ []) from pt_mid hVF (show Box W4 (w.heap.size) ([] ++ [.int .i64 0, .int .i64 0, .int .i64 0, .int .i64 0, .int .i64 0, .int .i64 0, .int .i64 0, .int .i64 0, .slice none 0 0, .int .i64 0, .slice none 0 0, .int .i64 0, .int .i64 0, .slice none 0 0, .int .i64 0, .bool false] ++ []) from HR_7.out) rfl rfl))
            have HB_8 := Lib.hid (pt_bel hVF HB_7.out wlR)
            have HH_8 := Lib.hid (pt_own2 hVF HH_7.out djRH)
            have HY_8 := Lib.hid (pt_box hVF HY_7.out apYR)
            have HVF := Lib.hid hVF
            clear hVF
            refine LD.op_stV LD.big_Head _ _ rfl rfl rfl HR_7.out rfl (by decide) rfl HVF.out ?_
            refine hK _ _ ?_
            clear hK K
            refine wpAny_ready (rs := [5]) (by kernel_rfl) (by simp) ?_
            refine AllReady.cons rfl (fun K hK => ?_) ?_
            · skip
              go_simp
              refine hK _ _ ?_
              clear hK K
              refine wpAny_ready (rs := [6]) (by kernel_rfl) (by simp) ?_
              refine AllReady.cons rfl (fun K hK => ?_) ?_
              · skip
                go_simp
                refine hK _ _ ?_
                clear hK K
                refine wpAny_ready (rs := [8]) (by kernel_rfl) (by simp) ?_
                refine AllReady.cons rfl (fun K hK => ?_) ?_
                · skip
                  go_simp
                  refine hK _ _ ?_
                  clear hK K
                  refine wpAny_done (by kernel_rfl) ?_ _
                  go_wp2
                  refine bodyPost_ret (v := .tuple #[.agg #[.int .i64 k.zone, .int .i64 k.epoch, .int .i64 k.kind, .int .i64 k.time, .int .i64 k.until_, .int .i64 k.count, .int .i64 k.root, .int .i64 k.prev, .slice kA0 kn0 kc0, .int .i64 k.keys.need, .slice kA1 kn1 kc1, .int .i64 k.heirs.need, .int .i64 k.wait, .slice kA2 kn2 kc2, .int .i64 k.judge.need, .bool k.frozen], .int .i64 (k.until_ + x - 1)]) (LD.res_cell_tmp LD.big_Head Try.results12 rfl rfl HR_8.out rfl) rfl ⟨[.int .i64 k.zone, .int .i64 k.epoch, .int .i64 k.kind, .int .i64 k.time, .int .i64 k.until_, .int .i64 k.count, .int .i64 k.root, .int .i64 k.prev, .slice kA0 kn0 kc0, .int .i64 k.keys.need, .slice kA1 kn1 kc1, .int .i64 k.heirs.need, .int .i64 k.wait, .slice kA2 kn2 kc2, .int .i64 k.judge.need, .bool k.frozen], k, k.until_ + x - 1, rfl, own_up HH_8.out (by omega), by omega, inI64 (by omega) (by omega), HB_8.out⟩
                exact AllReady.nil
              exact AllReady.nil
            exact AllReady.nil
          exact AllReady.nil
        refine AllReady.cons rfl (fun K hK => ?_) ?_
        · skip
          go_simp
          refine hK _ _ ?_
          clear hK K
          refine wpAny_ready (rs := [0, 6]) (by kernel_rfl) (by simp) ?_
          refine AllReady.cons rfl (fun K hK => ?_) ?_
          · skip
            refine LD.op_ld LD.big_Head _ rfl rfl HY_7.out rfl ?_
            simp only [Act.put, List.getElem_toArray, List.getElem_cons_zero, List.getElem_cons_succ, List.setIfInBounds_toArray, List.set_cons_succ, List.set_cons_zero]
            refine hK _ _ ?_
            clear hK K
            refine wpAny_ready (rs := [6, 7]) (by kernel_rfl) (by simp) ?_
            refine AllReady.cons rfl (fun K hK => ?_) ?_
            · skip
              go_simp
              refine hK _ _ ?_
              clear hK K
              refine wpAny_ready (rs := [7]) (by kernel_rfl) (by simp) ?_
              refine AllReady.cons rfl (fun K hK => ?_) ?_
              · skip
                obtain ⟨VF, hVF⟩ : ∃ u9, puts W4 (w.heap.size) 0 [.int .i64 k.zone, .int .i64 k.epoch, .int .i64 k.kind, .int .i64 k.time, .int .i64 k.until_, .int .i64 k.count, .int .i64 k.root, .int .i64 k.prev, .slice kA0 kn0 kc0, .int .i64 k.keys.need, .slice kA1 kn1 kc1, .int .i64 k.heirs.need, .int .i64 k.wait, .slice kA2 kn2 kc2, .int .i64 k.judge.need, .bool k.frozen] = u9 := ⟨_, rfl⟩
                have hsVF : VF.heap.size = W4.heap.size := by rw [← hVF]; exact puts_size _ _
                have HR_8 := Lib.hid (show Box VF (w.heap.size) [.int .i64 k.zone, .int .i64 k.epoch, .int .i64 k.kind, .int .i64 k.time, .int .i64 k.until_, .int .i64 k.count, .int .i64 k.root, .int .i64 k.prev, .slice kA0 kn0 kc0, .int .i64 k.keys.need, .slice kA1 kn1 kc1, .int .i64 k.heirs.need, .int .i64 k.wait, .slice kA2 kn2 kc2, .int .i64 k.judge.need, .bool k.frozen] from (show Box VF (w.heap.size) ([] ++ [.int .i64 k.zone, .int .i64 k.epoch, .int .i64 k.kind, .int .i64 k.time, .int .i64 k.until_, .int .i64 k.count, .int .i64 k.root, .int .i64 k.prev, .slice kA0 kn0 kc0, .int .i64 k.keys.need, .slice kA1 kn1 kc1, .int .i64 k.heirs.need, .int .i64 k.wait, .slice kA2 kn2 kc2, .int .i64 k.judge.need, .bool k.frozen] ++ []) from pt_mid hVF (show Box W4 (w.heap.size) ([] ++ [.int .i64 0, .int .i64 0, .int .i64 0, .int .i64 0, .int .i64 0, .int .i64 0, .int .i64 0, .int .i64 0, .slice none 0 0, .int .i64 0, .slice none 0 0, .int .i64 0, .int .i64 0, .slice none 0 0, .int .i64 0, .bool false] ++ []) from HR_7.out) rfl rfl))
                have HB_8 := Lib.hid (pt_bel hVF HB_7.out wlR)
                have HH_8 := Lib.hid (pt_own2 hVF HH_7.out djRH)
                have HY_8 := Lib.hid (pt_box hVF HY_7.out apYR)
                have HVF := Lib.hid hVF
                clear hVF
                refine LD.op_stV LD.big_Head _ _ rfl rfl rfl HR_7.out rfl (by decide) rfl HVF.out ?_
                refine hK _ _ ?_
                clear hK K
                refine wpAny_ready (rs := [8]) (by kernel_rfl) (by simp) ?_
                refine AllReady.cons rfl (fun K hK => ?_) ?_
                · skip
                  go_simp
                  refine hK _ _ ?_
                  clear hK K
                  refine wpAny_done (by kernel_rfl) ?_ _
                  go_wp2
                  refine bodyPost_ret (v := .tuple #[.agg #[.int .i64 k.zone, .int .i64 k.epoch, .int .i64 k.kind, .int .i64 k.time, .int .i64 k.until_, .int .i64 k.count, .int .i64 k.root, .int .i64 k.prev, .slice kA0 kn0 kc0, .int .i64 k.keys.need, .slice kA1 kn1 kc1, .int .i64 k.heirs.need, .int .i64 k.wait, .slice kA2 kn2 kc2, .int .i64 k.judge.need, .bool k.frozen], .int .i64 (k.until_ + x - 1)]) (LD.res_cell_tmp LD.big_Head Try.results12 rfl rfl HR_8.out rfl) rfl ⟨[.int .i64 k.zone, .int .i64 k.epoch, .int .i64 k.kind, .int .i64 k.time, .int .i64 k.until_, .int .i64 k.count, .int .i64 k.root, .int .i64 k.prev, .slice kA0 kn0 kc0, .int .i64 k.keys.need, .slice kA1 kn1 kc1, .int .i64 k.heirs.need, .int .i64 k.wait, .slice kA2 kn2 kc2, .int .i64 k.judge.need, .bool k.frozen], k, k.until_ + x - 1, rfl, own_up HH_8.out (by omega), by omega, inI64 (by omega) (by omega), HB_8.out⟩
                exact AllReady.nil
              exact AllReady.nil
            refine AllReady.cons rfl (fun K hK => ?_) ?_
            · skip
              obtain ⟨VF, hVF⟩ : ∃ u9, puts W4 (w.heap.size) 0 [.int .i64 k.zone, .int .i64 k.epoch, .int .i64 k.kind, .int .i64 k.time, .int .i64 k.until_, .int .i64 k.count, .int .i64 k.root, .int .i64 k.prev, .slice kA0 kn0 kc0, .int .i64 k.keys.need, .slice kA1 kn1 kc1, .int .i64 k.heirs.need, .int .i64 k.wait, .slice kA2 kn2 kc2, .int .i64 k.judge.need, .bool k.frozen] = u9 := ⟨_, rfl⟩
              have hsVF : VF.heap.size = W4.heap.size := by rw [← hVF]; exact puts_size _ _
              have HR_8 := Lib.hid (show Box VF (w.heap.size) [.int .i64 k.zone, .int .i64 k.epoch, .int .i64 k.kind, .int .i64 k.time, .int .i64 k.until_, .int .i64 k.count, .int .i64 k.root, .int .i64 k.prev, .slice kA0 kn0 kc0, .int .i64 k.keys.need, .slice kA1 kn1 kc1, .int .i64 k.heirs.need, .int .i64 k.wait, .slice kA2 kn2 kc2, .int .i64 k.judge.need, .bool k.frozen] from (show Box VF (w.heap.size) ([] ++ [.int .i64 k.zone, .int .i64 k.epoch, .int .i64 k.kind, .int .i64 k.time, .int .i64 k.until_, .int .i64 k.count, .int .i64 k.root, .int .i64 k.prev, .slice kA0 kn0 kc0, .int .i64 k.keys.need, .slice kA1 kn1 kc1, .int .i64 k.heirs.need, .int .i64 k.wait, .slice kA2 kn2 kc2, .int .i64 k.judge.need, .bool k.frozen] ++ []) from pt_mid hVF (show Box W4 (w.heap.size) ([] ++ [.int .i64 0, .int .i64 0, .int .i64 0, .int .i64 0, .int .i64 0, .int .i64 0, .int .i64 0, .int .i64 0, .slice none 0 0, .int .i64 0, .slice none 0 0, .int .i64 0, .int .i64 0, .slice none 0 0, .int .i64 0, .bool false] ++ []) from HR_7.out) rfl rfl))
              have HB_8 := Lib.hid (pt_bel hVF HB_7.out wlR)
              have HH_8 := Lib.hid (pt_own2 hVF HH_7.out djRH)
              have HY_8 := Lib.hid (pt_box hVF HY_7.out apYR)
              have HVF := Lib.hid hVF
              clear hVF
              refine LD.op_stV LD.big_Head _ _ rfl rfl rfl HR_7.out rfl (by decide) rfl HVF.out ?_
              refine hK _ _ ?_
              clear hK K
              refine wpAny_ready (rs := [6]) (by kernel_rfl) (by simp) ?_
              refine AllReady.cons rfl (fun K hK => ?_) ?_
              · skip
                go_simp
                refine hK _ _ ?_
                clear hK K
                refine wpAny_ready (rs := [8]) (by kernel_rfl) (by simp) ?_
                refine AllReady.cons rfl (fun K hK => ?_) ?_
                · skip
                  go_simp
                  refine hK _ _ ?_
                  clear hK K
                  refine wpAny_done (by kernel_rfl) ?_ _
                  go_wp2
                  refine bodyPost_ret (v := .tuple #[.agg #[.int .i64 k.zone, .int .i64 k.epoch, .int .i64 k.kind, .int .i64 k.time, .int .i64 k.until_, .int .i64 k.count, .int .i64 k.root, .int .i64 k.prev, .slice kA0 kn0 kc0, .int .i64 k.keys.need, .slice kA1 kn1 kc1, .int .i64 k.heirs.need, .int .i64 k.wait, .slice kA2 kn2 kc2, .int .i64 k.judge.need, .bool k.frozen], .int .i64 (k.until_ + x - 1)]) (LD.res_cell_tmp LD.big_Head Try.results12 rfl rfl HR_8.out rfl) rfl ⟨[.int .i64 k.zone, .int .i64 k.epoch, .int .i64 k.kind, .int .i64 k.time, .int .i64 k.until_, .int .i64 k.count, .int .i64 k.root, .int .i64 k.prev, .slice kA0 kn0 kc0, .int .i64 k.keys.need, .slice kA1 kn1 kc1, .int .i64 k.heirs.need, .int .i64 k.wait, .slice kA2 kn2 kc2, .int .i64 k.judge.need, .bool k.frozen], k, k.until_ + x - 1, rfl, own_up HH_8.out (by omega), by omega, inI64 (by omega) (by omega), HB_8.out⟩
                exact AllReady.nil
              exact AllReady.nil
            exact AllReady.nil
          refine AllReady.cons rfl (fun K hK => ?_) ?_
          · skip
            go_simp
            refine hK _ _ ?_
            clear hK K
            refine wpAny_ready (rs := [0]) (by kernel_rfl) (by simp) ?_
            refine AllReady.cons rfl (fun K hK => ?_) ?_
            · skip
              refine LD.op_ld LD.big_Head _ rfl rfl HY_7.out rfl ?_
              simp only [Act.put, List.getElem_toArray, List.getElem_cons_zero, List.getElem_cons_succ, List.setIfInBounds_toArray, List.set_cons_succ, List.set_cons_zero]
              refine hK _ _ ?_
              clear hK K
              refine wpAny_ready (rs := [7]) (by kernel_rfl) (by simp) ?_
              refine AllReady.cons rfl (fun K hK => ?_) ?_
              · skip
                obtain ⟨VF, hVF⟩ : ∃ u9, puts W4 (w.heap.size) 0 [.int .i64 k.zone, .int .i64 k.epoch, .int .i64 k.kind, .int .i64 k.time, .int .i64 k.until_, .int .i64 k.count, .int .i64 k.root, .int .i64 k.prev, .slice kA0 kn0 kc0, .int .i64 k.keys.need, .slice kA1 kn1 kc1, .int .i64 k.heirs.need, .int .i64 k.wait, .slice kA2 kn2 kc2, .int .i64 k.judge.need, .bool k.frozen] = u9 := ⟨_, rfl⟩
                have hsVF : VF.heap.size = W4.heap.size := by rw [← hVF]; exact puts_size _ _
                have HR_8 := Lib.hid (show Box VF (w.heap.size) [.int .i64 k.zone, .int .i64 k.epoch, .int .i64 k.kind, .int .i64 k.time, .int .i64 k.until_, .int .i64 k.count, .int .i64 k.root, .int .i64 k.prev, .slice kA0 kn0 kc0, .int .i64 k.keys.need, .slice kA1 kn1 kc1, .int .i64 k.heirs.need, .int .i64 k.wait, .slice kA2 kn2 kc2, .int .i64 k.judge.need, .bool k.frozen] from (show Box VF (w.heap.size) ([] ++ [.int .i64 k.zone, .int .i64 k.epoch, .int .i64 k.kind, .int .i64 k.time, .int .i64 k.until_, .int .i64 k.count, .int .i64 k.root, .int .i64 k.prev, .slice kA0 kn0 kc0, .int .i64 k.keys.need, .slice kA1 kn1 kc1, .int .i64 k.heirs.need, .int .i64 k.wait, .slice kA2 kn2 kc2, .int .i64 k.judge.need, .bool k.frozen] ++ []) from pt_mid hVF (show Box W4 (w.heap.size) ([] ++ [.int .i64 0, .int .i64 0, .int .i64 0, .int .i64 0, .int .i64 0, .int .i64 0, .int .i64 0, .int .i64 0, .slice none 0 0, .int .i64 0, .slice none 0 0, .int .i64 0, .int .i64 0, .slice none 0 0, .int .i64 0, .bool false] ++ []) from HR_7.out) rfl rfl))
                have HB_8 := Lib.hid (pt_bel hVF HB_7.out wlR)
                have HH_8 := Lib.hid (pt_own2 hVF HH_7.out djRH)
                have HY_8 := Lib.hid (pt_box hVF HY_7.out apYR)
                have HVF := Lib.hid hVF
                clear hVF
                refine LD.op_stV LD.big_Head _ _ rfl rfl rfl HR_7.out rfl (by decide) rfl HVF.out ?_
                refine hK _ _ ?_
                clear hK K
                refine wpAny_ready (rs := [8]) (by kernel_rfl) (by simp) ?_
                refine AllReady.cons rfl (fun K hK => ?_) ?_
                · skip
                  go_simp
                  refine hK _ _ ?_
                  clear hK K
                  refine wpAny_done (by kernel_rfl) ?_ _
                  go_wp2
                  refine bodyPost_ret (v := .tuple #[.agg #[.int .i64 k.zone, .int .i64 k.epoch, .int .i64 k.kind, .int .i64 k.time, .int .i64 k.until_, .int .i64 k.count, .int .i64 k.root, .int .i64 k.prev, .slice kA0 kn0 kc0, .int .i64 k.keys.need, .slice kA1 kn1 kc1, .int .i64 k.heirs.need, .int .i64 k.wait, .slice kA2 kn2 kc2, .int .i64 k.judge.need, .bool k.frozen], .int .i64 (k.until_ + x - 1)]) (LD.res_cell_tmp LD.big_Head Try.results12 rfl rfl HR_8.out rfl) rfl ⟨[.int .i64 k.zone, .int .i64 k.epoch, .int .i64 k.kind, .int .i64 k.time, .int .i64 k.until_, .int .i64 k.count, .int .i64 k.root, .int .i64 k.prev, .slice kA0 kn0 kc0, .int .i64 k.keys.need, .slice kA1 kn1 kc1, .int .i64 k.heirs.need, .int .i64 k.wait, .slice kA2 kn2 kc2, .int .i64 k.judge.need, .bool k.frozen], k, k.until_ + x - 1, rfl, own_up HH_8.out (by omega), by omega, inI64 (by omega) (by omega), HB_8.out⟩
                exact AllReady.nil
              exact AllReady.nil
            exact AllReady.nil
          exact AllReady.nil
        exact AllReady.nil
      exact AllReady.nil
    refine AllReady.cons rfl (fun K hK => ?_) ?_
    · skip
      go_simp
      go_at_call 41
      refine (l1Below_any 3 _ _ g HC_6.out).mono ?_
      rintro e W4 ⟨v, ⟨x, hx, hx9, rfl⟩, rfl, hc_, hk_⟩
      have HR_7 := Lib.hid (bxK HR_6.out hk_ neR)
      have HB_7 := Lib.hid (HB_6.out.trans (hk_.below gwl HB_6.out.size))
      have HC_7 := Lib.hid (hc_)
      have HH_7 := Lib.hid (HH_6.out.keep (w' := W4) fun i h0 h1 h2 => hk_.block i h0 (Nat.ne_of_gt (Nat.lt_of_lt_of_le glH h1)))
      have HY_7 := Lib.hid (bxK HY_6.out hk_ neY)
      have hsW4 := hk_.size
      clear hc_ hk_
      have hxn : x < 3 := by omega
      have hxs : -9223372036854775808 ≤ k.until_ + x ∧ k.until_ + x ≤ 9223372036854775807 := by omega
      have hw1 : IntKind.i64.wrap (k.until_ + x) = k.until_ + x := by rw [IntKind.wrap_i64]; omega
      have hw2 : IntKind.i64.wrap (k.until_ + x - 1) = k.until_ + x - 1 := by rw [IntKind.wrap_i64]; omega
      clear hx9
      go_simp
      refine hK _ _ ?_
      clear hK K
      refine wpAny_ready (rs := [0, 2]) (by kernel_rfl) (by simp) ?_
      refine AllReady.cons rfl (fun K hK => ?_) ?_
      · skip
        refine LD.op_ld LD.big_Head _ rfl rfl HY_7.out rfl ?_
        simp only [Act.put, List.getElem_toArray, List.getElem_cons_zero, List.getElem_cons_succ, List.setIfInBounds_toArray, List.set_cons_succ, List.set_cons_zero]
        refine hK _ _ ?_
        clear hK K
        refine wpAny_ready (rs := [2, 7]) (by kernel_rfl) (by simp) ?_
        refine AllReady.cons rfl (fun K hK => ?_) ?_
        · skip
          have zY0 := HY_7.out.cell (j := 0) rfl
          have zY1 := HY_7.out.cell (j := 1) rfl
          have zY2 := HY_7.out.cell (j := 2) rfl
          have zY3 := HY_7.out.cell (j := 3) rfl
          have zY4 := HY_7.out.cell (j := 4) rfl
          have zY5 := HY_7.out.cell (j := 5) rfl
          have zY6 := HY_7.out.cell (j := 6) rfl
          have zY7 := HY_7.out.cell (j := 7) rfl
          have zY8 := HY_7.out.cell (j := 8) rfl
          have zY9 := HY_7.out.cell (j := 9) rfl
          have zY10 := HY_7.out.cell (j := 10) rfl
          have zY11 := HY_7.out.cell (j := 11) rfl
          have zY12 := HY_7.out.cell (j := 12) rfl
          have zY13 := HY_7.out.cell (j := 13) rfl
          have zY14 := HY_7.out.cell (j := 14) rfl
          have zY15 := HY_7.out.cell (j := 15) rfl
          go_simp
          clear zY0 zY1 zY2 zY3 zY4 zY5 zY6 zY7 zY8 zY9 zY10 zY11 zY12 zY13 zY14 zY15
          refine hK _ _ ?_
          clear hK K
          refine wpAny_ready (rs := [5, 7]) (by kernel_rfl) (by simp) ?_
          refine AllReady.cons rfl (fun K hK => ?_) ?_
          · skip
            go_simp
            refine hK _ _ ?_
            clear hK K
            refine wpAny_ready (rs := [6, 7]) (by kernel_rfl) (by simp) ?_
            refine AllReady.cons rfl (fun K hK => ?_) ?_
            · skip
              go_simp
              refine hK _ _ ?_
              clear hK K
              refine wpAny_ready (rs := [7]) (by kernel_rfl) (by simp) ?_
              refine AllReady.cons rfl (fun K hK => ?_) ?_
              · skip
                obtain ⟨VF, hVF⟩ : ∃ u9, puts W4 (w.heap.size) 0 [.int .i64 k.zone, .int .i64 k.epoch, .int .i64 k.kind, .int .i64 k.time, .int .i64 k.until_, .int .i64 k.count, .int .i64 k.root, .int .i64 k.prev, .slice kA0 kn0 kc0, .int .i64 k.keys.need, .slice kA1 kn1 kc1, .int .i64 k.heirs.need, .int .i64 k.wait, .slice kA2 kn2 kc2, .int .i64 k.judge.need, .bool k.frozen] = u9 := ⟨_, rfl⟩
                have hsVF : VF.heap.size = W4.heap.size := by rw [← hVF]; exact puts_size _ _
                have HR_8 := Lib.hid (show Box VF (w.heap.size) [.int .i64 k.zone, .int .i64 k.epoch, .int .i64 k.kind, .int .i64 k.time, .int .i64 k.until_, .int .i64 k.count, .int .i64 k.root, .int .i64 k.prev, .slice kA0 kn0 kc0, .int .i64 k.keys.need, .slice kA1 kn1 kc1, .int .i64 k.heirs.need, .int .i64 k.wait, .slice kA2 kn2 kc2, .int .i64 k.judge.need, .bool k.frozen] from (show Box VF (w.heap.size) ([] ++ [.int .i64 k.zone, .int .i64 k.epoch, .int .i64 k.kind, .int .i64 k.time, .int .i64 k.until_, .int .i64 k.count, .int .i64 k.root, .int .i64 k.prev, .slice kA0 kn0 kc0, .int .i64 k.keys.need, .slice kA1 kn1 kc1, .int .i64 k.heirs.need, .int .i64 k.wait, .slice kA2 kn2 kc2, .int .i64 k.judge.need, .bool k.frozen] ++ []) from pt_mid hVF (show Box W4 (w.heap.size) ([] ++ [.int .i64 0, .int .i64 0, .int .i64 0, .int .i64 0, .int .i64 0, .int .i64 0, .int .i64 0, .int .i64 0, .slice none 0 0, .int .i64 0, .slice none 0 0, .int .i64 0, .int .i64 0, .slice none 0 0, .int .i64 0, .bool false] ++ []) from HR_7.out) rfl rfl))
                have HB_8 := Lib.hid (pt_bel hVF HB_7.out wlR)
                have HH_8 := Lib.hid (pt_own2 hVF HH_7.out djRH)
                have HY_8 := Lib.hid (pt_box hVF HY_7.out apYR)
                have HVF := Lib.hid hVF
                clear hVF
                refine LD.op_stV LD.big_Head _ _ rfl rfl rfl HR_7.out rfl (by decide) rfl HVF.out ?_
                refine hK _ _ ?_
                clear hK K
                refine wpAny_ready (rs := [8]) (by kernel_rfl) (by simp) ?_
                refine AllReady.cons rfl (fun K hK => ?_) ?_
                · skip
                  go_simp
                  refine hK _ _ ?_
                  clear hK K
                  refine wpAny_done (by kernel_rfl) ?_ _
                  go_wp2
                  refine bodyPost_ret (v := .tuple #[.agg #[.int .i64 k.zone, .int .i64 k.epoch, .int .i64 k.kind, .int .i64 k.time, .int .i64 k.until_, .int .i64 k.count, .int .i64 k.root, .int .i64 k.prev, .slice kA0 kn0 kc0, .int .i64 k.keys.need, .slice kA1 kn1 kc1, .int .i64 k.heirs.need, .int .i64 k.wait, .slice kA2 kn2 kc2, .int .i64 k.judge.need, .bool k.frozen], .int .i64 (k.until_ + x - 1)]) (LD.res_cell_tmp LD.big_Head Try.results12 rfl rfl HR_8.out rfl) rfl ⟨[.int .i64 k.zone, .int .i64 k.epoch, .int .i64 k.kind, .int .i64 k.time, .int .i64 k.until_, .int .i64 k.count, .int .i64 k.root, .int .i64 k.prev, .slice kA0 kn0 kc0, .int .i64 k.keys.need, .slice kA1 kn1 kc1, .int .i64 k.heirs.need, .int .i64 k.wait, .slice kA2 kn2 kc2, .int .i64 k.judge.need, .bool k.frozen], k, k.until_ + x - 1, rfl, own_up HH_8.out (by omega), by omega, inI64 (by omega) (by omega), HB_8.out⟩
                exact AllReady.nil
              exact AllReady.nil
            refine AllReady.cons rfl (fun K hK => ?_) ?_
            · skip
              obtain ⟨VF, hVF⟩ : ∃ u9, puts W4 (w.heap.size) 0 [.int .i64 k.zone, .int .i64 k.epoch, .int .i64 k.kind, .int .i64 k.time, .int .i64 k.until_, .int .i64 k.count, .int .i64 k.root, .int .i64 k.prev, .slice kA0 kn0 kc0, .int .i64 k.keys.need, .slice kA1 kn1 kc1, .int .i64 k.heirs.need, .int .i64 k.wait, .slice kA2 kn2 kc2, .int .i64 k.judge.need, .bool k.frozen] = u9 := ⟨_, rfl⟩
              have hsVF : VF.heap.size = W4.heap.size := by rw [← hVF]; exact puts_size _ _
              have HR_8 := Lib.hid (show Box VF (w.heap.size) [.int .i64 k.zone, .int .i64 k.epoch, .int .i64 k.kind, .int .i64 k.time, .int .i64 k.until_, .int .i64 k.count, .int .i64 k.root, .int .i64 k.prev, .slice kA0 kn0 kc0, .int .i64 k.keys.need, .slice kA1 kn1 kc1, .int .i64 k.heirs.need, .int .i64 k.wait, .slice kA2 kn2 kc2, .int .i64 k.judge.need, .bool k.frozen] from (show Box VF (w.heap.size) ([] ++ [.int .i64 k.zone, .int .i64 k.epoch, .int .i64 k.kind, .int .i64 k.time, .int .i64 k.until_, .int .i64 k.count, .int .i64 k.root, .int .i64 k.prev, .slice kA0 kn0 kc0, .int .i64 k.keys.need, .slice kA1 kn1 kc1, .int .i64 k.heirs.need, .int .i64 k.wait, .slice kA2 kn2 kc2, .int .i64 k.judge.need, .bool k.frozen] ++ []) from pt_mid hVF (show Box W4 (w.heap.size) ([] ++ [.int .i64 0, .int .i64 0, .int .i64 0, .int .i64 0, .int .i64 0, .int .i64 0, .int .i64 0, .int .i64 0, .slice none 0 0, .int .i64 0, .slice none 0 0, .int .i64 0, .int .i64 0, .slice none 0 0, .int .i64 0, .bool false] ++ []) from HR_7.out) rfl rfl))
              have HB_8 := Lib.hid (pt_bel hVF HB_7.out wlR)
              have HH_8 := Lib.hid (pt_own2 hVF HH_7.out djRH)
              have HY_8 := Lib.hid (pt_box hVF HY_7.out apYR)
              have HVF := Lib.hid hVF
              clear hVF
              refine LD.op_stV LD.big_Head _ _ rfl rfl rfl HR_7.out rfl (by decide) rfl HVF.out ?_
              refine hK _ _ ?_
              clear hK K
              refine wpAny_ready (rs := [6]) (by kernel_rfl) (by simp) ?_
              refine AllReady.cons rfl (fun K hK => ?_) ?_
              · skip
                go_simp
                refine hK _ _ ?_
                clear hK K
                refine wpAny_ready (rs := [8]) (by kernel_rfl) (by simp) ?_
                refine AllReady.cons rfl (fun K hK => ?_) ?_
                · skip
                  go_simp
                  refine hK _ _ ?_
                  clear hK K
                  refine wpAny_done (by kernel_rfl) ?_ _
                  go_wp2
                  refine bodyPost_ret (v := .tuple #[.agg #[.int .i64 k.zone, .int .i64 k.epoch, .int .i64 k.kind, .int .i64 k.time, .int .i64 k.until_, .int .i64 k.count, .int .i64 k.root, .int .i64 k.prev, .slice kA0 kn0 kc0, .int .i64 k.keys.need, .slice kA1 kn1 kc1, .int .i64 k.heirs.need, .int .i64 k.wait, .slice kA2 kn2 kc2, .int .i64 k.judge.need, .bool k.frozen], .int .i64 (k.until_ + x - 1)]) (LD.res_cell_tmp LD.big_Head Try.results12 rfl rfl HR_8.out rfl) rfl ⟨[.int .i64 k.zone, .int .i64 k.epoch, .int .i64 k.kind, .int .i64 k.time, .int .i64 k.until_, .int .i64 k.count, .int .i64 k.root, .int .i64 k.prev, .slice kA0 kn0 kc0, .int .i64 k.keys.need, .slice kA1 kn1 kc1, .int .i64 k.heirs.need, .int .i64 k.wait, .slice kA2 kn2 kc2, .int .i64 k.judge.need, .bool k.frozen], k, k.until_ + x - 1, rfl, own_up HH_8.out (by omega), by omega, inI64 (by omega) (by omega), HB_8.out⟩
                exact AllReady.nil
              exact AllReady.nil
            exact AllReady.nil
          refine AllReady.cons rfl (fun K hK => ?_) ?_
          · skip
            obtain ⟨VF, hVF⟩ : ∃ u9, puts W4 (w.heap.size) 0 [.int .i64 k.zone, .int .i64 k.epoch, .int .i64 k.kind, .int .i64 k.time, .int .i64 k.until_, .int .i64 k.count, .int .i64 k.root, .int .i64 k.prev, .slice kA0 kn0 kc0, .int .i64 k.keys.need, .slice kA1 kn1 kc1, .int .i64 k.heirs.need, .int .i64 k.wait, .slice kA2 kn2 kc2, .int .i64 k.judge.need, .bool k.frozen] = u9 := ⟨_, rfl⟩
            have hsVF : VF.heap.size = W4.heap.size := by rw [← hVF]; exact puts_size _ _
            have HR_8 := Lib.hid (show Box VF (w.heap.size) [.int .i64 k.zone, .int .i64 k.epoch, .int .i64 k.kind, .int .i64 k.time, .int .i64 k.until_, .int .i64 k.count, .int .i64 k.root, .int .i64 k.prev, .slice kA0 kn0 kc0, .int .i64 k.keys.need, .slice kA1 kn1 kc1, .int .i64 k.heirs.need, .int .i64 k.wait, .slice kA2 kn2 kc2, .int .i64 k.judge.need, .bool k.frozen] from (show Box VF (w.heap.size) ([] ++ [.int .i64 k.zone, .int .i64 k.epoch, .int .i64 k.kind, .int .i64 k.time, .int .i64 k.until_, .int .i64 k.count, .int .i64 k.root, .int .i64 k.prev, .slice kA0 kn0 kc0, .int .i64 k.keys.need, .slice kA1 kn1 kc1, .int .i64 k.heirs.need, .int .i64 k.wait, .slice kA2 kn2 kc2, .int .i64 k.judge.need, .bool k.frozen] ++ []) from pt_mid hVF (show Box W4 (w.heap.size) ([] ++ [.int .i64 0, .int .i64 0, .int .i64 0, .int .i64 0, .int .i64 0, .int .i64 0, .int .i64 0, .int .i64 0, .slice none 0 0, .int .i64 0, .slice none 0 0, .int .i64 0, .int .i64 0, .slice none 0 0, .int .i64 0, .bool false] ++ []) from HR_7.out) rfl rfl))
            have HB_8 := Lib.hid (pt_bel hVF HB_7.out wlR)
            have HH_8 := Lib.hid (pt_own2 hVF HH_7.out djRH)
            have HY_8 := Lib.hid (pt_box hVF HY_7.out apYR)
            have HVF := Lib.hid hVF
            clear hVF
            refine LD.op_stV LD.big_Head _ _ rfl rfl rfl HR_7.out rfl (by decide) rfl HVF.out ?_
            refine hK _ _ ?_
            clear hK K
            refine wpAny_ready (rs := [5]) (by kernel_rfl) (by simp) ?_
            refine AllReady.cons rfl (fun K hK => ?_) ?_
            · skip
              go_simp
              refine hK _ _ ?_
              clear hK K
              refine wpAny_ready (rs := [6]) (by kernel_rfl) (by simp) ?_
              refine AllReady.cons rfl (fun K hK => ?_) ?_
              · skip
                go_simp
                refine hK _ _ ?_
                clear hK K
                refine wpAny_ready (rs := [8]) (by kernel_rfl) (by simp) ?_
                refine AllReady.cons rfl (fun K hK => ?_) ?_
                · skip
                  go_simp
                  refine hK _ _ ?_
                  clear hK K
                  refine wpAny_done (by kernel_rfl) ?_ _
                  go_wp2
                  refine bodyPost_ret (v := .tuple #[.agg #[.int .i64 k.zone, .int .i64 k.epoch, .int .i64 k.kind, .int .i64 k.time, .int .i64 k.until_, .int .i64 k.count, .int .i64 k.root, .int .i64 k.prev, .slice kA0 kn0 kc0, .int .i64 k.keys.need, .slice kA1 kn1 kc1, .int .i64 k.heirs.need, .int .i64 k.wait, .slice kA2 kn2 kc2, .int .i64 k.judge.need, .bool k.frozen], .int .i64 (k.until_ + x - 1)]) (LD.res_cell_tmp LD.big_Head Try.results12 rfl rfl HR_8.out rfl) rfl ⟨[.int .i64 k.zone, .int .i64 k.epoch, .int .i64 k.kind, .int .i64 k.time, .int .i64 k.until_, .int .i64 k.count, .int .i64 k.root, .int .i64 k.prev, .slice kA0 kn0 kc0, .int .i64 k.keys.need, .slice kA1 kn1 kc1, .int .i64 k.heirs.need, .int .i64 k.wait, .slice kA2 kn2 kc2, .int .i64 k.judge.need, .bool k.frozen], k, k.until_ + x - 1, rfl, own_up HH_8.out (by omega), by omega, inI64 (by omega) (by omega), HB_8.out⟩
                exact AllReady.nil
              exact AllReady.nil
            exact AllReady.nil
          exact AllReady.nil
        refine AllReady.cons rfl (fun K hK => ?_) ?_
        · skip
          obtain ⟨VF, hVF⟩ : ∃ u9, puts W4 (w.heap.size) 0 [.int .i64 k.zone, .int .i64 k.epoch, .int .i64 k.kind, .int .i64 k.time, .int .i64 k.until_, .int .i64 k.count, .int .i64 k.root, .int .i64 k.prev, .slice kA0 kn0 kc0, .int .i64 k.keys.need, .slice kA1 kn1 kc1, .int .i64 k.heirs.need, .int .i64 k.wait, .slice kA2 kn2 kc2, .int .i64 k.judge.need, .bool k.frozen] = u9 := ⟨_, rfl⟩
          have hsVF : VF.heap.size = W4.heap.size := by rw [← hVF]; exact puts_size _ _
          have HR_8 := Lib.hid (show Box VF (w.heap.size) [.int .i64 k.zone, .int .i64 k.epoch, .int .i64 k.kind, .int .i64 k.time, .int .i64 k.until_, .int .i64 k.count, .int .i64 k.root, .int .i64 k.prev, .slice kA0 kn0 kc0, .int .i64 k.keys.need, .slice kA1 kn1 kc1, .int .i64 k.heirs.need, .int .i64 k.wait, .slice kA2 kn2 kc2, .int .i64 k.judge.need, .bool k.frozen] from (show Box VF (w.heap.size) ([] ++ [.int .i64 k.zone, .int .i64 k.epoch, .int .i64 k.kind, .int .i64 k.time, .int .i64 k.until_, .int .i64 k.count, .int .i64 k.root, .int .i64 k.prev, .slice kA0 kn0 kc0, .int .i64 k.keys.need, .slice kA1 kn1 kc1, .int .i64 k.heirs.need, .int .i64 k.wait, .slice kA2 kn2 kc2, .int .i64 k.judge.need, .bool k.frozen] ++ []) from pt_mid hVF (show Box W4 (w.heap.size) ([] ++ [.int .i64 0, .int .i64 0, .int .i64 0, .int .i64 0, .int .i64 0, .int .i64 0, .int .i64 0, .int .i64 0, .slice none 0 0, .int .i64 0, .slice none 0 0, .int .i64 0, .int .i64 0, .slice none 0 0, .int .i64 0, .bool false] ++ []) from HR_7.out) rfl rfl))
          have HB_8 := Lib.hid (pt_bel hVF HB_7.out wlR)
          have HH_8 := Lib.hid (pt_own2 hVF HH_7.out djRH)
          have HY_8 := Lib.hid (pt_box hVF HY_7.out apYR)
          have HVF := Lib.hid hVF
          clear hVF
          refine LD.op_stV LD.big_Head _ _ rfl rfl rfl HR_7.out rfl (by decide) rfl HVF.out ?_
          refine hK _ _ ?_
          clear hK K
          refine wpAny_ready (rs := [2]) (by kernel_rfl) (by simp) ?_
          refine AllReady.cons rfl (fun K hK => ?_) ?_
          · skip
            have zY0 := HY_8.out.cell (j := 0) rfl
            have zY1 := HY_8.out.cell (j := 1) rfl
            have zY2 := HY_8.out.cell (j := 2) rfl
            have zY3 := HY_8.out.cell (j := 3) rfl
            have zY4 := HY_8.out.cell (j := 4) rfl
            have zY5 := HY_8.out.cell (j := 5) rfl
            have zY6 := HY_8.out.cell (j := 6) rfl
            have zY7 := HY_8.out.cell (j := 7) rfl
            have zY8 := HY_8.out.cell (j := 8) rfl
            have zY9 := HY_8.out.cell (j := 9) rfl
            have zY10 := HY_8.out.cell (j := 10) rfl
            have zY11 := HY_8.out.cell (j := 11) rfl
            have zY12 := HY_8.out.cell (j := 12) rfl
            have zY13 := HY_8.out.cell (j := 13) rfl
            have zY14 := HY_8.out.cell (j := 14) rfl
            have zY15 := HY_8.out.cell (j := 15) rfl
            go_simp
            clear zY0 zY1 zY2 zY3 zY4 zY5 zY6 zY7 zY8 zY9 zY10 zY11 zY12 zY13 zY14 zY15
            refine hK _ _ ?_
            clear hK K
            refine wpAny_ready (rs := [5]) (by kernel_rfl) (by simp) ?_
            refine AllReady.cons rfl (fun K hK => ?_) ?_
            · skip
              go_simp
              refine hK _ _ ?_
              clear hK K
              refine wpAny_ready (rs := [6]) (by kernel_rfl) (by simp) ?_
              refine AllReady.cons rfl (fun K hK => ?_) ?_
              · skip
                go_simp
                refine hK _ _ ?_
                clear hK K
                refine wpAny_ready (rs := [8]) (by kernel_rfl) (by simp) ?_
                refine AllReady.cons rfl (fun K hK => ?_) ?_
                · skip
                  go_simp
                  refine hK _ _ ?_
                  clear hK K
                  refine wpAny_done (by kernel_rfl) ?_ _
                  go_wp2
                  refine bodyPost_ret (v := .tuple #[.agg #[.int .i64 k.zone, .int .i64 k.epoch, .int .i64 k.kind, .int .i64 k.time, .int .i64 k.until_, .int .i64 k.count, .int .i64 k.root, .int .i64 k.prev, .slice kA0 kn0 kc0, .int .i64 k.keys.need, .slice kA1 kn1 kc1, .int .i64 k.heirs.need, .int .i64 k.wait, .slice kA2 kn2 kc2, .int .i64 k.judge.need, .bool k.frozen], .int .i64 (k.until_ + x - 1)]) (LD.res_cell_tmp LD.big_Head Try.results12 rfl rfl HR_8.out rfl) rfl ⟨[.int .i64 k.zone, .int .i64 k.epoch, .int .i64 k.kind, .int .i64 k.time, .int .i64 k.until_, .int .i64 k.count, .int .i64 k.root, .int .i64 k.prev, .slice kA0 kn0 kc0, .int .i64 k.keys.need, .slice kA1 kn1 kc1, .int .i64 k.heirs.need, .int .i64 k.wait, .slice kA2 kn2 kc2, .int .i64 k.judge.need, .bool k.frozen], k, k.until_ + x - 1, rfl, own_up HH_8.out (by omega), by omega, inI64 (by omega) (by omega), HB_8.out⟩
                exact AllReady.nil
              exact AllReady.nil
            exact AllReady.nil
          exact AllReady.nil
        exact AllReady.nil
      refine AllReady.cons rfl (fun K hK => ?_) ?_
      · skip
        have zY0 := HY_7.out.cell (j := 0) rfl
        have zY1 := HY_7.out.cell (j := 1) rfl
        have zY2 := HY_7.out.cell (j := 2) rfl
        have zY3 := HY_7.out.cell (j := 3) rfl
        have zY4 := HY_7.out.cell (j := 4) rfl
        have zY5 := HY_7.out.cell (j := 5) rfl
        have zY6 := HY_7.out.cell (j := 6) rfl
        have zY7 := HY_7.out.cell (j := 7) rfl
        have zY8 := HY_7.out.cell (j := 8) rfl
        have zY9 := HY_7.out.cell (j := 9) rfl
        have zY10 := HY_7.out.cell (j := 10) rfl
        have zY11 := HY_7.out.cell (j := 11) rfl
        have zY12 := HY_7.out.cell (j := 12) rfl
        have zY13 := HY_7.out.cell (j := 13) rfl
        have zY14 := HY_7.out.cell (j := 14) rfl
        have zY15 := HY_7.out.cell (j := 15) rfl
        go_simp
        clear zY0 zY1 zY2 zY3 zY4 zY5 zY6 zY7 zY8 zY9 zY10 zY11 zY12 zY13 zY14 zY15
        refine hK _ _ ?_
        clear hK K
        refine wpAny_ready (rs := [0, 5]) (by kernel_rfl) (by simp) ?_
        refine AllReady.cons rfl (fun K hK => ?_) ?_
        · skip
          refine LD.op_ld LD.big_Head _ rfl rfl HY_7.out rfl ?_
          simp only [Act.put, List.getElem_toArray, List.getElem_cons_zero, List.getElem_cons_succ, List.setIfInBounds_toArray, List.set_cons_succ, List.set_cons_zero]
          refine hK _ _ ?_
          clear hK K
          refine wpAny_ready (rs := [5, 7]) (by kernel_rfl) (by simp) ?_
          refine AllReady.cons rfl (fun K hK => ?_) ?_
          · skip
            go_simp
            refine hK _ _ ?_
            clear hK K
            refine wpAny_ready (rs := [6, 7]) (by kernel_rfl) (by simp) ?_
            refine AllReady.cons rfl (fun K hK => ?_) ?_
            · skip
              go_simp
              refine hK _ _ ?_
              clear hK K
              refine wpAny_ready (rs := [7]) (by kernel_rfl) (by simp) ?_
              refine AllReady.cons rfl (fun K hK => ?_) ?_
              · skip
                obtain ⟨VF, hVF⟩ : ∃ u9, puts W4 (w.heap.size) 0 [.int .i64 k.zone, .int .i64 k.epoch, .int .i64 k.kind, .int .i64 k.time, .int .i64 k.until_, .int .i64 k.count, .int .i64 k.root, .int .i64 k.prev, .slice kA0 kn0 kc0, .int .i64 k.keys.need, .slice kA1 kn1 kc1, .int .i64 k.heirs.need, .int .i64 k.wait, .slice kA2 kn2 kc2, .int .i64 k.judge.need, .bool k.frozen] = u9 := ⟨_, rfl⟩
                have hsVF : VF.heap.size = W4.heap.size := by rw [← hVF]; exact puts_size _ _
                have HR_8 := Lib.hid (show Box VF (w.heap.size) [.int .i64 k.zone, .int .i64 k.epoch, .int .i64 k.kind, .int .i64 k.time, .int .i64 k.until_, .int .i64 k.count, .int .i64 k.root, .int .i64 k.prev, .slice kA0 kn0 kc0, .int .i64 k.keys.need, .slice kA1 kn1 kc1, .int .i64 k.heirs.need, .int .i64 k.wait, .slice kA2 kn2 kc2, .int .i64 k.judge.need, .bool k.frozen] from (show Box VF (w.heap.size) ([] ++ [.int .i64 k.zone, .int .i64 k.epoch, .int .i64 k.kind, .int .i64 k.time, .int .i64 k.until_, .int .i64 k.count, .int .i64 k.root, .int .i64 k.prev, .slice kA0 kn0 kc0, .int .i64 k.keys.need, .slice kA1 kn1 kc1, .int .i64 k.heirs.need, .int .i64 k.wait, .slice kA2 kn2 kc2, .int .i64 k.judge.need, .bool k.frozen] ++ []) from pt_mid hVF (show Box W4 (w.heap.size) ([] ++ [.int .i64 0, .int .i64 0, .int .i64 0, .int .i64 0, .int .i64 0, .int .i64 0, .int .i64 0, .int .i64 0, .slice none 0 0, .int .i64 0, .slice none 0 0, .int .i64 0, .int .i64 0, .slice none 0 0, .int .i64 0, .bool false] ++ []) from HR_7.out) rfl rfl))
                have HB_8 := Lib.hid (pt_bel hVF HB_7.out wlR)
                have HH_8 := Lib.hid (pt_own2 hVF HH_7.out djRH)
                have HY_8 := Lib.hid (pt_box hVF HY_7.out apYR)
                have HVF := Lib.hid hVF
                clear hVF
                refine LD.op_stV LD.big_Head _ _ rfl rfl rfl HR_7.out rfl (by decide) rfl HVF.out ?_
                refine hK _ _ ?_
                clear hK K
                refine wpAny_ready (rs := [8]) (by kernel_rfl) (by simp) ?_
                refine AllReady.cons rfl (fun K hK => ?_) ?_
                · skip
                  go_simp
                  refine hK _ _ ?_
                  clear hK K
                  refine wpAny_done (by kernel_rfl) ?_ _
                  go_wp2
                  refine bodyPost_ret (v := .tuple #[.agg #[.int .i64 k.zone, .int .i64 k.epoch, .int .i64 k.kind, .int .i64 k.time, .int .i64 k.until_, .int .i64 k.count, .int .i64 k.root, .int .i64 k.prev, .slice kA0 kn0 kc0, .int .i64 k.keys.need, .slice kA1 kn1 kc1, .int .i64 k.heirs.need, .int .i64 k.wait, .slice kA2 kn2 kc2, .int .i64 k.judge.need, .bool k.frozen], .int .i64 (k.until_ + x - 1)]) (LD.res_cell_tmp LD.big_Head Try.results12 rfl rfl HR_8.out rfl) rfl ⟨[.int .i64 k.zone, .int .i64 k.epoch, .int .i64 k.kind, .int .i64 k.time, .int .i64 k.until_, .int .i64 k.count, .int .i64 k.root, .int .i64 k.prev, .slice kA0 kn0 kc0, .int .i64 k.keys.need, .slice kA1 kn1 kc1, .int .i64 k.heirs.need, .int .i64 k.wait, .slice kA2 kn2 kc2, .int .i64 k.judge.need, .bool k.frozen], k, k.until_ + x - 1, rfl, own_up HH_8.out (by omega), by omega, inI64 (by omega) (by omega), HB_8.out⟩
                exact AllReady.nil
              exact AllReady.nil
            refine AllReady.cons rfl (fun K hK => ?_) ?_
            · skip
              obtain ⟨VF, hVF⟩ : ∃ u9, puts W4 (w.heap.size) 0 [.int .i64 k.zone, .int .i64 k.epoch, .int .i64 k.kind, .int .i64 k.time, .int .i64 k.until_, .int .i64 k.count, .int .i64 k.root, .int .i64 k.prev, .slice kA0 kn0 kc0, .int .i64 k.keys.need, .slice kA1 kn1 kc1, .int .i64 k.heirs.need, .int .i64 k.wait, .slice kA2 kn2 kc2, .int .i64 k.judge.need, .bool k.frozen] = u9 := ⟨_, rfl⟩
              have hsVF : VF.heap.size = W4.heap.size := by rw [← hVF]; exact puts_size _ _
              have HR_8 := Lib.hid (show Box VF (w.heap.size) [.int .i64 k.zone, .int .i64 k.epoch, .int .i64 k.kind, .int .i64 k.time, .int .i64 k.until_, .int .i64 k.count, .int .i64 k.root, .int .i64 k.prev, .slice kA0 kn0 kc0, .int .i64 k.keys.need, .slice kA1 kn1 kc1, .int .i64 k.heirs.need, .int .i64 k.wait, .slice kA2 kn2 kc2, .int .i64 k.judge.need, .bool k.frozen] from (show Box VF (w.heap.size) ([] ++ [.int .i64 k.zone, .int .i64 k.epoch, .int .i64 k.kind, .int .i64 k.time, .int .i64 k.until_, .int .i64 k.count, .int .i64 k.root, .int .i64 k.prev, .slice kA0 kn0 kc0, .int .i64 k.keys.need, .slice kA1 kn1 kc1, .int .i64 k.heirs.need, .int .i64 k.wait, .slice kA2 kn2 kc2, .int .i64 k.judge.need, .bool k.frozen] ++ []) from pt_mid hVF (show Box W4 (w.heap.size) ([] ++ [.int .i64 0, .int .i64 0, .int .i64 0, .int .i64 0, .int .i64 0, .int .i64 0, .int .i64 0, .int .i64 0, .slice none 0 0, .int .i64 0, .slice none 0 0, .int .i64 0, .int .i64 0, .slice none 0 0, .int .i64 0, .bool false] ++ []) from HR_7.out) rfl rfl))
              have HB_8 := Lib.hid (pt_bel hVF HB_7.out wlR)
              have HH_8 := Lib.hid (pt_own2 hVF HH_7.out djRH)
              have HY_8 := Lib.hid (pt_box hVF HY_7.out apYR)
              have HVF := Lib.hid hVF
              clear hVF
              refine LD.op_stV LD.big_Head _ _ rfl rfl rfl HR_7.out rfl (by decide) rfl HVF.out ?_
              refine hK _ _ ?_
              clear hK K
              refine wpAny_ready (rs := [6]) (by kernel_rfl) (by simp) ?_
              refine AllReady.cons rfl (fun K hK => ?_) ?_
              · skip
                go_simp
                refine hK _ _ ?_
                clear hK K
                refine wpAny_ready (rs := [8]) (by kernel_rfl) (by simp) ?_
                refine AllReady.cons rfl (fun K hK => ?_) ?_
                · skip
                  go_simp
                  refine hK _ _ ?_
                  clear hK K
                  refine wpAny_done (by kernel_rfl) ?_ _
                  go_wp2
                  refine bodyPost_ret (v := .tuple #[.agg #[.int .i64 k.zone, .int .i64 k.epoch, .int .i64 k.kind, .int .i64 k.time, .int .i64 k.until_, .int .i64 k.count, .int .i64 k.root, .int .i64 k.prev, .slice kA0 kn0 kc0, .int .i64 k.keys.need, .slice kA1 kn1 kc1, .int .i64 k.heirs.need, .int .i64 k.wait, .slice kA2 kn2 kc2, .int .i64 k.judge.need, .bool k.frozen], .int .i64 (k.until_ + x - 1)]) (LD.res_cell_tmp LD.big_Head Try.results12 rfl rfl HR_8.out rfl) rfl ⟨[.int .i64 k.zone, .int .i64 k.epoch, .int .i64 k.kind, .int .i64 k.time, .int .i64 k.until_, .int .i64 k.count, .int .i64 k.root, .int .i64 k.prev, .slice kA0 kn0 kc0, .int .i64 k.keys.need, .slice kA1 kn1 kc1, .int .i64 k.heirs.need, .int .i64 k.wait, .slice kA2 kn2 kc2, .int .i64 k.judge.need, .bool k.frozen], k, k.until_ + x - 1, rfl, own_up HH_8.out (by omega), by omega, inI64 (by omega) (by omega), HB_8.out⟩
                exact AllReady.nil
              exact AllReady.nil
            exact AllReady.nil
          refine AllReady.cons rfl (fun K hK => ?_) ?_
          · skip
            obtain ⟨VF, hVF⟩ : ∃ u9, puts W4 (w.heap.size) 0 [.int .i64 k.zone, .int .i64 k.epoch, .int .i64 k.kind, .int .i64 k.time, .int .i64 k.until_, .int .i64 k.count, .int .i64 k.root, .int .i64 k.prev, .slice kA0 kn0 kc0, .int .i64 k.keys.need, .slice kA1 kn1 kc1, .int .i64 k.heirs.need, .int .i64 k.wait, .slice kA2 kn2 kc2, .int .i64 k.judge.need, .bool k.frozen] = u9 := ⟨_, rfl⟩
            have hsVF : VF.heap.size = W4.heap.size := by rw [← hVF]; exact puts_size _ _
            have HR_8 := Lib.hid (show Box VF (w.heap.size) [.int .i64 k.zone, .int .i64 k.epoch, .int .i64 k.kind, .int .i64 k.time, .int .i64 k.until_, .int .i64 k.count, .int .i64 k.root, .int .i64 k.prev, .slice kA0 kn0 kc0, .int .i64 k.keys.need, .slice kA1 kn1 kc1, .int .i64 k.heirs.need, .int .i64 k.wait, .slice kA2 kn2 kc2, .int .i64 k.judge.need, .bool k.frozen] from (show Box VF (w.heap.size) ([] ++ [.int .i64 k.zone, .int .i64 k.epoch, .int .i64 k.kind, .int .i64 k.time, .int .i64 k.until_, .int .i64 k.count, .int .i64 k.root, .int .i64 k.prev, .slice kA0 kn0 kc0, .int .i64 k.keys.need, .slice kA1 kn1 kc1, .int .i64 k.heirs.need, .int .i64 k.wait, .slice kA2 kn2 kc2, .int .i64 k.judge.need, .bool k.frozen] ++ []) from pt_mid hVF (show Box W4 (w.heap.size) ([] ++ [.int .i64 0, .int .i64 0, .int .i64 0, .int .i64 0, .int .i64 0, .int .i64 0, .int .i64 0, .int .i64 0, .slice none 0 0, .int .i64 0, .slice none 0 0, .int .i64 0, .int .i64 0, .slice none 0 0, .int .i64 0, .bool false] ++ []) from HR_7.out) rfl rfl))
            have HB_8 := Lib.hid (pt_bel hVF HB_7.out wlR)
            have HH_8 := Lib.hid (pt_own2 hVF HH_7.out djRH)
            have HY_8 := Lib.hid (pt_box hVF HY_7.out apYR)
            have HVF := Lib.hid hVF
            clear hVF
            refine LD.op_stV LD.big_Head _ _ rfl rfl rfl HR_7.out rfl (by decide) rfl HVF.out ?_
            refine hK _ _ ?_
            clear hK K
            refine wpAny_ready (rs := [5]) (by kernel_rfl) (by simp) ?_
            refine AllReady.cons rfl (fun K hK => ?_) ?_
            · skip
              go_simp
              refine hK _ _ ?_
              clear hK K
              refine wpAny_ready (rs := [6]) (by kernel_rfl) (by simp) ?_
              refine AllReady.cons rfl (fun K hK => ?_) ?_
              · skip
                go_simp
                refine hK _ _ ?_
                clear hK K
                refine wpAny_ready (rs := [8]) (by kernel_rfl) (by simp) ?_
                refine AllReady.cons rfl (fun K hK => ?_) ?_
                · skip
                  go_simp
                  refine hK _ _ ?_
                  clear hK K
                  refine wpAny_done (by kernel_rfl) ?_ _
                  go_wp2
                  refine bodyPost_ret (v := .tuple #[.agg #[.int .i64 k.zone, .int .i64 k.epoch, .int .i64 k.kind, .int .i64 k.time, .int .i64 k.until_, .int .i64 k.count, .int .i64 k.root, .int .i64 k.prev, .slice kA0 kn0 kc0, .int .i64 k.keys.need, .slice kA1 kn1 kc1, .int .i64 k.heirs.need, .int .i64 k.wait, .slice kA2 kn2 kc2, .int .i64 k.judge.need, .bool k.frozen], .int .i64 (k.until_ + x - 1)]) (LD.res_cell_tmp LD.big_Head Try.results12 rfl rfl HR_8.out rfl) rfl ⟨[.int .i64 k.zone, .int .i64 k.epoch, .int .i64 k.kind, .int .i64 k.time, .int .i64 k.until_, .int .i64 k.count, .int .i64 k.root, .int .i64 k.prev, .slice kA0 kn0 kc0, .int .i64 k.keys.need, .slice kA1 kn1 kc1, .int .i64 k.heirs.need, .int .i64 k.wait, .slice kA2 kn2 kc2, .int .i64 k.judge.need, .bool k.frozen], k, k.until_ + x - 1, rfl, own_up HH_8.out (by omega), by omega, inI64 (by omega) (by omega), HB_8.out⟩
                exact AllReady.nil
              exact AllReady.nil
            exact AllReady.nil
          exact AllReady.nil
        refine AllReady.cons rfl (fun K hK => ?_) ?_
        · skip
          go_simp
          refine hK _ _ ?_
          clear hK K
          refine wpAny_ready (rs := [0, 6]) (by kernel_rfl) (by simp) ?_
          refine AllReady.cons rfl (fun K hK => ?_) ?_
          · skip
            refine LD.op_ld LD.big_Head _ rfl rfl HY_7.out rfl ?_
            simp only [Act.put, List.getElem_toArray, List.getElem_cons_zero, List.getElem_cons_succ, List.setIfInBounds_toArray, List.set_cons_succ, List.set_cons_zero]
            refine hK _ _ ?_
            clear hK K
            refine wpAny_ready (rs := [6, 7]) (by kernel_rfl) (by simp) ?_
            refine AllReady.cons rfl (fun K hK => ?_) ?_
            · skip
              go_simp
              refine hK _ _ ?_
              clear hK K
              refine wpAny_ready (rs := [7]) (by kernel_rfl) (by simp) ?_
              refine AllReady.cons rfl (fun K hK => ?_) ?_
              · skip
                obtain ⟨VF, hVF⟩ : ∃ u9, puts W4 (w.heap.size) 0 [.int .i64 k.zone, .int .i64 k.epoch, .int .i64 k.kind, .int .i64 k.time, .int .i64 k.until_, .int .i64 k.count, .int .i64 k.root, .int .i64 k.prev, .slice kA0 kn0 kc0, .int .i64 k.keys.need, .slice kA1 kn1 kc1, .int .i64 k.heirs.need, .int .i64 k.wait, .slice kA2 kn2 kc2, .int .i64 k.judge.need, .bool k.frozen] = u9 := ⟨_, rfl⟩
                have hsVF : VF.heap.size = W4.heap.size := by rw [← hVF]; exact puts_size _ _
                have HR_8 := Lib.hid (show Box VF (w.heap.size) [.int .i64 k.zone, .int .i64 k.epoch, .int .i64 k.kind, .int .i64 k.time, .int .i64 k.until_, .int .i64 k.count, .int .i64 k.root, .int .i64 k.prev, .slice kA0 kn0 kc0, .int .i64 k.keys.need, .slice kA1 kn1 kc1, .int .i64 k.heirs.need, .int .i64 k.wait, .slice kA2 kn2 kc2, .int .i64 k.judge.need, .bool k.frozen] from (show Box VF (w.heap.size) ([] ++ [.int .i64 k.zone, .int .i64 k.epoch, .int .i64 k.kind, .int .i64 k.time, .int .i64 k.until_, .int .i64 k.count, .int .i64 k.root, .int .i64 k.prev, .slice kA0 kn0 kc0, .int .i64 k.keys.need, .slice kA1 kn1 kc1, .int .i64 k.heirs.need, .int .i64 k.wait, .slice kA2 kn2 kc2, .int .i64 k.judge.need, .bool k.frozen] ++ []) from pt_mid hVF (show Box W4 (w.heap.size) ([] ++ [.int .i64 0, .int .i64 0, .int .i64 0, .int .i64 0, .int .i64 0, .int .i64 0, .int .i64 0, .int .i64 0, .slice none 0 0, .int .i64 0, .slice none 0 0, .int .i64 0, .int .i64 0, .slice none 0 0, .int .i64 0, .bool false] ++ []) from HR_7.out) rfl rfl))
                have HB_8 := Lib.hid (pt_bel hVF HB_7.out wlR)
                have HH_8 := Lib.hid (pt_own2 hVF HH_7.out djRH)
                have HY_8 := Lib.hid (pt_box hVF HY_7.out apYR)
                have HVF := Lib.hid hVF
                clear hVF
                refine LD.op_stV LD.big_Head _ _ rfl rfl rfl HR_7.out rfl (by decide) rfl HVF.out ?_
                refine hK _ _ ?_
                clear hK K
                refine wpAny_ready (rs := [8]) (by kernel_rfl) (by simp) ?_
                refine AllReady.cons rfl (fun K hK => ?_) ?_
                · skip
                  go_simp
                  refine hK _ _ ?_
                  clear hK K
                  refine wpAny_done (by kernel_rfl) ?_ _
                  go_wp2
                  refine bodyPost_ret (v := .tuple #[.agg #[.int .i64 k.zone, .int .i64 k.epoch, .int .i64 k.kind, .int .i64 k.time, .int .i64 k.until_, .int .i64 k.count, .int .i64 k.root, .int .i64 k.prev, .slice kA0 kn0 kc0, .int .i64 k.keys.need, .slice kA1 kn1 kc1, .int .i64 k.heirs.need, .int .i64 k.wait, .slice kA2 kn2 kc2, .int .i64 k.judge.need, .bool k.frozen], .int .i64 (k.until_ + x - 1)]) (LD.res_cell_tmp LD.big_Head Try.results12 rfl rfl HR_8.out rfl) rfl ⟨[.int .i64 k.zone, .int .i64 k.epoch, .int .i64 k.kind, .int .i64 k.time, .int .i64 k.until_, .int .i64 k.count, .int .i64 k.root, .int .i64 k.prev, .slice kA0 kn0 kc0, .int .i64 k.keys.need, .slice kA1 kn1 kc1, .int .i64 k.heirs.need, .int .i64 k.wait, .slice kA2 kn2 kc2, .int .i64 k.judge.need, .bool k.frozen], k, k.until_ + x - 1, rfl, own_up HH_8.out (by omega), by omega, inI64 (by omega) (by omega), HB_8.out⟩
                exact AllReady.nil
              exact AllReady.nil
            refine AllReady.cons rfl (fun K hK => ?_) ?_
            · skip
              obtain ⟨VF, hVF⟩ : ∃ u9, puts W4 (w.heap.size) 0 [.int .i64 k.zone, .int .i64 k.epoch, .int .i64 k.kind, .int .i64 k.time, .int .i64 k.until_, .int .i64 k.count, .int .i64 k.root, .int .i64 k.prev, .slice kA0 kn0 kc0, .int .i64 k.keys.need, .slice kA1 kn1 kc1, .int .i64 k.heirs.need, .int .i64 k.wait, .slice kA2 kn2 kc2, .int .i64 k.judge.need, .bool k.frozen] = u9 := ⟨_, rfl⟩
              have hsVF : VF.heap.size = W4.heap.size := by rw [← hVF]; exact puts_size _ _
              have HR_8 := Lib.hid (show Box VF (w.heap.size) [.int .i64 k.zone, .int .i64 k.epoch, .int .i64 k.kind, .int .i64 k.time, .int .i64 k.until_, .int .i64 k.count, .int .i64 k.root, .int .i64 k.prev, .slice kA0 kn0 kc0, .int .i64 k.keys.need, .slice kA1 kn1 kc1, .int .i64 k.heirs.need, .int .i64 k.wait, .slice kA2 kn2 kc2, .int .i64 k.judge.need, .bool k.frozen] from (show Box VF (w.heap.size) ([] ++ [.int .i64 k.zone, .int .i64 k.epoch, .int .i64 k.kind, .int .i64 k.time, .int .i64 k.until_, .int .i64 k.count, .int .i64 k.root, .int .i64 k.prev, .slice kA0 kn0 kc0, .int .i64 k.keys.need, .slice kA1 kn1 kc1, .int .i64 k.heirs.need, .int .i64 k.wait, .slice kA2 kn2 kc2, .int .i64 k.judge.need, .bool k.frozen] ++ []) from pt_mid hVF (show Box W4 (w.heap.size) ([] ++ [.int .i64 0, .int .i64 0, .int .i64 0, .int .i64 0, .int .i64 0, .int .i64 0, .int .i64 0, .int .i64 0, .slice none 0 0, .int .i64 0, .slice none 0 0, .int .i64 0, .int .i64 0, .slice none 0 0, .int .i64 0, .bool false] ++ []) from HR_7.out) rfl rfl))
              have HB_8 := Lib.hid (pt_bel hVF HB_7.out wlR)
              have HH_8 := Lib.hid (pt_own2 hVF HH_7.out djRH)
              have HY_8 := Lib.hid (pt_box hVF HY_7.out apYR)
              have HVF := Lib.hid hVF
              clear hVF
              refine LD.op_stV LD.big_Head _ _ rfl rfl rfl HR_7.out rfl (by decide) rfl HVF.out ?_
              refine hK _ _ ?_
              clear hK K
              refine wpAny_ready (rs := [6]) (by kernel_rfl) (by simp) ?_
              refine AllReady.cons rfl (fun K hK => ?_) ?_
              · skip
                go_simp
                refine hK _ _ ?_
                clear hK K
                refine wpAny_ready (rs := [8]) (by kernel_rfl) (by simp) ?_
                refine AllReady.cons rfl (fun K hK => ?_) ?_
                · skip
                  go_simp
                  refine hK _ _ ?_
                  clear hK K
                  refine wpAny_done (by kernel_rfl) ?_ _
                  go_wp2
                  refine bodyPost_ret (v := .tuple #[.agg #[.int .i64 k.zone, .int .i64 k.epoch, .int .i64 k.kind, .int .i64 k.time, .int .i64 k.until_, .int .i64 k.count, .int .i64 k.root, .int .i64 k.prev, .slice kA0 kn0 kc0, .int .i64 k.keys.need, .slice kA1 kn1 kc1, .int .i64 k.heirs.need, .int .i64 k.wait, .slice kA2 kn2 kc2, .int .i64 k.judge.need, .bool k.frozen], .int .i64 (k.until_ + x - 1)]) (LD.res_cell_tmp LD.big_Head Try.results12 rfl rfl HR_8.out rfl) rfl ⟨[.int .i64 k.zone, .int .i64 k.epoch, .int .i64 k.kind, .int .i64 k.time, .int .i64 k.until_, .int .i64 k.count, .int .i64 k.root, .int .i64 k.prev, .slice kA0 kn0 kc0, .int .i64 k.keys.need, .slice kA1 kn1 kc1, .int .i64 k.heirs.need, .int .i64 k.wait, .slice kA2 kn2 kc2, .int .i64 k.judge.need, .bool k.frozen], k, k.until_ + x - 1, rfl, own_up HH_8.out (by omega), by omega, inI64 (by omega) (by omega), HB_8.out⟩
                exact AllReady.nil
              exact AllReady.nil
            exact AllReady.nil
          refine AllReady.cons rfl (fun K hK => ?_) ?_
          · skip
            go_simp
            refine hK _ _ ?_
            clear hK K
            refine wpAny_ready (rs := [0]) (by kernel_rfl) (by simp) ?_
            refine AllReady.cons rfl (fun K hK => ?_) ?_
            · skip
              refine LD.op_ld LD.big_Head _ rfl rfl HY_7.out rfl ?_
              simp only [Act.put, List.getElem_toArray, List.getElem_cons_zero, List.getElem_cons_succ, List.setIfInBounds_toArray, List.set_cons_succ, List.set_cons_zero]
              refine hK _ _ ?_
              clear hK K
              refine wpAny_ready (rs := [7]) (by kernel_rfl) (by simp) ?_
              refine AllReady.cons rfl (fun K hK => ?_) ?_
              · skip
                obtain ⟨VF, hVF⟩ : ∃ u9, puts W4 (w.heap.size) 0 [.int .i64 k.zone, .int .i64 k.epoch, .int .i64 k.kind, .int .i64 k.time, .int .i64 k.until_, .int .i64 k.count, .int .i64 k.root, .int .i64 k.prev, .slice kA0 kn0 kc0, .int .i64 k.keys.need, .slice kA1 kn1 kc1, .int .i64 k.heirs.need, .int .i64 k.wait, .slice kA2 kn2 kc2, .int .i64 k.judge.need, .bool k.frozen] = u9 := ⟨_, rfl⟩
                have hsVF : VF.heap.size = W4.heap.size := by rw [← hVF]; exact puts_size _ _
                have HR_8 := Lib.hid (show Box VF (w.heap.size) [.int .i64 k.zone, .int .i64 k.epoch, .int .i64 k.kind, .int .i64 k.time, .int .i64 k.until_, .int .i64 k.count, .int .i64 k.root, .int .i64 k.prev, .slice kA0 kn0 kc0, .int .i64 k.keys.need, .slice kA1 kn1 kc1, .int .i64 k.heirs.need, .int .i64 k.wait, .slice kA2 kn2 kc2, .int .i64 k.judge.need, .bool k.frozen] from (show Box VF (w.heap.size) ([] ++ [.int .i64 k.zone, .int .i64 k.epoch, .int .i64 k.kind, .int .i64 k.time, .int .i64 k.until_, .int .i64 k.count, .int .i64 k.root, .int .i64 k.prev, .slice kA0 kn0 kc0, .int .i64 k.keys.need, .slice kA1 kn1 kc1, .int .i64 k.heirs.need, .int .i64 k.wait, .slice kA2 kn2 kc2, .int .i64 k.judge.need, .bool k.frozen] ++ []) from pt_mid hVF (show Box W4 (w.heap.size) ([] ++ [.int .i64 0, .int .i64 0, .int .i64 0, .int .i64 0, .int .i64 0, .int .i64 0, .int .i64 0, .int .i64 0, .slice none 0 0, .int .i64 0, .slice none 0 0, .int .i64 0, .int .i64 0, .slice none 0 0, .int .i64 0, .bool false] ++ []) from HR_7.out) rfl rfl))
                have HB_8 := Lib.hid (pt_bel hVF HB_7.out wlR)
                have HH_8 := Lib.hid (pt_own2 hVF HH_7.out djRH)
                have HY_8 := Lib.hid (pt_box hVF HY_7.out apYR)
                have HVF := Lib.hid hVF
                clear hVF
                refine LD.op_stV LD.big_Head _ _ rfl rfl rfl HR_7.out rfl (by decide) rfl HVF.out ?_
                refine hK _ _ ?_
                clear hK K
                refine wpAny_ready (rs := [8]) (by kernel_rfl) (by simp) ?_
                refine AllReady.cons rfl (fun K hK => ?_) ?_
                · skip
                  go_simp
                  refine hK _ _ ?_
                  clear hK K
                  refine wpAny_done (by kernel_rfl) ?_ _
                  go_wp2
                  refine bodyPost_ret (v := .tuple #[.agg #[.int .i64 k.zone, .int .i64 k.epoch, .int .i64 k.kind, .int .i64 k.time, .int .i64 k.until_, .int .i64 k.count, .int .i64 k.root, .int .i64 k.prev, .slice kA0 kn0 kc0, .int .i64 k.keys.need, .slice kA1 kn1 kc1, .int .i64 k.heirs.need, .int .i64 k.wait, .slice kA2 kn2 kc2, .int .i64 k.judge.need, .bool k.frozen], .int .i64 (k.until_ + x - 1)]) (LD.res_cell_tmp LD.big_Head Try.results12 rfl rfl HR_8.out rfl) rfl ⟨[.int .i64 k.zone, .int .i64 k.epoch, .int .i64 k.kind, .int .i64 k.time, .int .i64 k.until_, .int .i64 k.count, .int .i64 k.root, .int .i64 k.prev, .slice kA0 kn0 kc0, .int .i64 k.keys.need, .slice kA1 kn1 kc1, .int .i64 k.heirs.need, .int .i64 k.wait, .slice kA2 kn2 kc2, .int .i64 k.judge.need, .bool k.frozen], k, k.until_ + x - 1, rfl, own_up HH_8.out (by omega), by omega, inI64 (by omega) (by omega), HB_8.out⟩
                exact AllReady.nil
              exact AllReady.nil
            exact AllReady.nil
          exact AllReady.nil
        exact AllReady.nil
      exact AllReady.nil
    exact AllReady.nil
end Go.Proofs.Ytkkkaaboeddkoaa.D13C
