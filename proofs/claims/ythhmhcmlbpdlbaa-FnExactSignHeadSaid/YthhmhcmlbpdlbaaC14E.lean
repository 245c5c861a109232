/- Chapter 14: EqualSigned, the model's: the signatures one by one, as structs. -/
import Derived.Test.YthhmhcmlbpdlbaaC14S
import Derived.Laws.StructEq
namespace Go.Proofs.Ythhmhcmlbpdlbaa.C14E
open Go.RowKit Mem MemS Rep Flat R06 R07 R13 R14 M03 M06 M07 M13 M14 C01 C03S C03H C03D C06S C07S C13S C14S BX RG RGS
open RKA hiding inI64
set_option linter.unusedVariables false
set_option linter.unusedSimpArgs false
set_option maxRecDepth 100000
theorem take_ne {l l' : List Sig} {j : Nat} (h : j < l.length) (h' : j < l'.length) (hne : l.getD j default ≠ l'.getD j default) : l ≠ l' := fun e => hne (by rw [e])
theorem take_step {l l' : List Sig} {j : Nat} (h : j < l.length) (h' : j < l'.length) (e : l.take j = l'.take j) (he : l.getD j default = l'.getD j default) : l.take (j + 1) = l'.take (j + 1) := by
  rw [List.take_add_one, List.take_add_one, e]
  simp only [List.getD, List.getElem?_eq_getElem h, List.getElem?_eq_getElem h', Option.getD_some] at he
  simp [List.getElem?_eq_getElem h, List.getElem?_eq_getElem h', he]
theorem sig_ne {x y : Sig} (h : x ≠ y) : x.key = y.key → ¬ x.tag = y.tag := by
  rcases x with ⟨a, b⟩
  rcases y with ⟨c, d⟩
  simp only [ne_eq, Sig.mk.injEq, not_and] at h
  exact h
set_option maxHeartbeats 8000000 in
theorem sEqualSigned_any (cs cs' : List Value) (a b : Signed) (w : World) (h : RSigned.rd w (Lt w.heap.size) cs a) (h' : RSigned.rd w (Lt w.heap.size) cs' b) (hn : totSigned a ≤ 1048576) (hm : totSigned b ≤ 1048576) :
    Calls Try.prog 32 #[.agg cs.toArray, .agg cs'.toArray] w fun e w' => e = .returned (.bool (eqSd a b)) ∧ Below w.heap.size w w' := by
  obtain ⟨aA0, an0, ac0, aA1, an1, ac1, aA2, an2, ac2, aA3, an3, ac3, rfl, ha, -, -, hca, hsa⟩ := signed_parts h
  obtain ⟨bA0, bn0, bc0, bA1, bn1, bc1, bA2, bn2, bc2, bA3, bn3, bc3, rfl, hb1, -, -, hcb, hsb⟩ := signed_parts h'
  have hla := hsa.len
  have hlb := hsb.len
  unfold totSigned at hn hm
  have hna : totHead a.head ≤ 1048576 := by omega
  have hnb : totHead b.head ≤ 1048576 := by omega
  have HHA := Lib.hid ha
  have HHB := Lib.hid hb1
  have HSA := Lib.hid hsa
  have HSB := Lib.hid hsb
  have HEH := Lib.hid (fun w1 (hb : Below w.heap.size w w1) => sEqualHeads_any _ _ a.head b.head w1 (upH HHA.out hb) (upH HHB.out hb) hna hnb)
  unfold eqSd
  generalize eqHd a.head b.head = e1 at HEH ⊢
  have HLA := Lib.hid hla
  have HLB := Lib.hid hlb
  have hba : an3 ≤ 1048576 := by omega
  have hbb : bn3 ≤ 1048576 := by omega
  clear h h' ha hb1 hsa hsb hla hlb hn hm
  obtain ⟨V, hV⟩ : ∃ V, V = (w.alloc (.cells #[.int .i64 a.head.zone, .int .i64 a.head.epoch, .int .i64 a.head.kind, .int .i64 a.head.time, .int .i64 a.head.until_, .int .i64 a.head.count, .int .i64 a.head.root, .int .i64 a.head.prev, .slice aA0 an0 ac0, .int .i64 a.head.keys.need, .slice aA1 an1 ac1, .int .i64 a.head.heirs.need, .int .i64 a.head.wait, .slice aA2 an2 ac2, .int .i64 a.head.judge.need, .bool a.head.frozen, .slice aA3 an3 ac3] 38)).alloc (.cells #[.int .i64 b.head.zone, .int .i64 b.head.epoch, .int .i64 b.head.kind, .int .i64 b.head.time, .int .i64 b.head.until_, .int .i64 b.head.count, .int .i64 b.head.root, .int .i64 b.head.prev, .slice bA0 bn0 bc0, .int .i64 b.head.keys.need, .slice bA1 bn1 bc1, .int .i64 b.head.heirs.need, .int .i64 b.head.wait, .slice bA2 bn2 bc2, .int .i64 b.head.judge.need, .bool b.head.frozen, .slice bA3 bn3 bc3] 38) := ⟨_, rfl⟩
  have HB_1 := Lib.hid (show Below w.heap.size w V from by
    rw [hV]
    exact ((Below.refl _ _).alloc (by first | (simp; done) | (simp; omega)) _).alloc (by first | (simp; done) | (simp; omega)) _)
  have HX_1 := Lib.hid (show Box V (w.heap.size) [.int .i64 a.head.zone, .int .i64 a.head.epoch, .int .i64 a.head.kind, .int .i64 a.head.time, .int .i64 a.head.until_, .int .i64 a.head.count, .int .i64 a.head.root, .int .i64 a.head.prev, .slice aA0 an0 ac0, .int .i64 a.head.keys.need, .slice aA1 an1 ac1, .int .i64 a.head.heirs.need, .int .i64 a.head.wait, .slice aA2 an2 ac2, .int .i64 a.head.judge.need, .bool a.head.frozen, .slice aA3 an3 ac3] from by
    rw [hV]
    have := ((Box.new w #[.int .i64 a.head.zone, .int .i64 a.head.epoch, .int .i64 a.head.kind, .int .i64 a.head.time, .int .i64 a.head.until_, .int .i64 a.head.count, .int .i64 a.head.root, .int .i64 a.head.prev, .slice aA0 an0 ac0, .int .i64 a.head.keys.need, .slice aA1 an1 ac1, .int .i64 a.head.heirs.need, .int .i64 a.head.wait, .slice aA2 an2 ac2, .int .i64 a.head.judge.need, .bool a.head.frozen, .slice aA3 an3 ac3] 38).alloc (.cells #[.int .i64 b.head.zone, .int .i64 b.head.epoch, .int .i64 b.head.kind, .int .i64 b.head.time, .int .i64 b.head.until_, .int .i64 b.head.count, .int .i64 b.head.root, .int .i64 b.head.prev, .slice bA0 bn0 bc0, .int .i64 b.head.keys.need, .slice bA1 bn1 bc1, .int .i64 b.head.heirs.need, .int .i64 b.head.wait, .slice bA2 bn2 bc2, .int .i64 b.head.judge.need, .bool b.head.frozen, .slice bA3 bn3 bc3] 38))
    simpa using this)
  have HY_1 := Lib.hid (show Box V (w.heap.size + 1) [.int .i64 b.head.zone, .int .i64 b.head.epoch, .int .i64 b.head.kind, .int .i64 b.head.time, .int .i64 b.head.until_, .int .i64 b.head.count, .int .i64 b.head.root, .int .i64 b.head.prev, .slice bA0 bn0 bc0, .int .i64 b.head.keys.need, .slice bA1 bn1 bc1, .int .i64 b.head.heirs.need, .int .i64 b.head.wait, .slice bA2 bn2 bc2, .int .i64 b.head.judge.need, .bool b.head.frozen, .slice bA3 bn3 bc3] from by
    rw [hV]
    have := (Box.new (w.alloc (.cells #[.int .i64 a.head.zone, .int .i64 a.head.epoch, .int .i64 a.head.kind, .int .i64 a.head.time, .int .i64 a.head.until_, .int .i64 a.head.count, .int .i64 a.head.root, .int .i64 a.head.prev, .slice aA0 an0 ac0, .int .i64 a.head.keys.need, .slice aA1 an1 ac1, .int .i64 a.head.heirs.need, .int .i64 a.head.wait, .slice aA2 an2 ac2, .int .i64 a.head.judge.need, .bool a.head.frozen, .slice aA3 an3 ac3] 38)) #[.int .i64 b.head.zone, .int .i64 b.head.epoch, .int .i64 b.head.kind, .int .i64 b.head.time, .int .i64 b.head.until_, .int .i64 b.head.count, .int .i64 b.head.root, .int .i64 b.head.prev, .slice bA0 bn0 bc0, .int .i64 b.head.keys.need, .slice bA1 bn1 bc1, .int .i64 b.head.heirs.need, .int .i64 b.head.wait, .slice bA2 bn2 bc2, .int .i64 b.head.judge.need, .bool b.head.frozen, .slice bA3 bn3 bc3] 38)
    simpa using this)
  have HV := Lib.hid hV
  clear hV
  go_enter Try.func32, Try.ntmps32
  go_wp2_with (first | (rw [show (w.alloc (.cells #[.int .i64 a.head.zone, .int .i64 a.head.epoch, .int .i64 a.head.kind, .int .i64 a.head.time, .int .i64 a.head.until_, .int .i64 a.head.count, .int .i64 a.head.root, .int .i64 a.head.prev, .slice aA0 an0 ac0, .int .i64 a.head.keys.need, .slice aA1 an1 ac1, .int .i64 a.head.heirs.need, .int .i64 a.head.wait, .slice aA2 an2 ac2, .int .i64 a.head.judge.need, .bool a.head.frozen, .slice aA3 an3 ac3] 38)).alloc (.cells #[.int .i64 b.head.zone, .int .i64 b.head.epoch, .int .i64 b.head.kind, .int .i64 b.head.time, .int .i64 b.head.until_, .int .i64 b.head.count, .int .i64 b.head.root, .int .i64 b.head.prev, .slice bA0 bn0 bc0, .int .i64 b.head.keys.need, .slice bA1 bn1 bc1, .int .i64 b.head.heirs.need, .int .i64 b.head.wait, .slice bA2 bn2 bc2, .int .i64 b.head.judge.need, .bool b.head.frozen, .slice bA3 bn3 bc3] 38) = V from HV.out.symm]; refine LD.wp_ldm LD.big_Head rfl _ rfl rfl [] [.int .i64 a.head.zone, .int .i64 a.head.epoch, .int .i64 a.head.kind, .int .i64 a.head.time, .int .i64 a.head.until_, .int .i64 a.head.count, .int .i64 a.head.root, .int .i64 a.head.prev, .slice aA0 an0 ac0, .int .i64 a.head.keys.need, .slice aA1 an1 ac1, .int .i64 a.head.heirs.need, .int .i64 a.head.wait, .slice aA2 an2 ac2, .int .i64 a.head.judge.need, .bool a.head.frozen] [.slice aA3 an3 ac3] (show Box V (w.heap.size) ([] ++ [.int .i64 a.head.zone, .int .i64 a.head.epoch, .int .i64 a.head.kind, .int .i64 a.head.time, .int .i64 a.head.until_, .int .i64 a.head.count, .int .i64 a.head.root, .int .i64 a.head.prev, .slice aA0 an0 ac0, .int .i64 a.head.keys.need, .slice aA1 an1 ac1, .int .i64 a.head.heirs.need, .int .i64 a.head.wait, .slice aA2 an2 ac2, .int .i64 a.head.judge.need, .bool a.head.frozen] ++ [.slice aA3 an3 ac3]) from HX_1.out) rfl rfl ?_) | (refine LD.wp_ldm LD.big_Head rfl _ rfl rfl [] [.int .i64 b.head.zone, .int .i64 b.head.epoch, .int .i64 b.head.kind, .int .i64 b.head.time, .int .i64 b.head.until_, .int .i64 b.head.count, .int .i64 b.head.root, .int .i64 b.head.prev, .slice bA0 bn0 bc0, .int .i64 b.head.keys.need, .slice bA1 bn1 bc1, .int .i64 b.head.heirs.need, .int .i64 b.head.wait, .slice bA2 bn2 bc2, .int .i64 b.head.judge.need, .bool b.head.frozen] [.slice bA3 bn3 bc3] (show Box V (w.heap.size + 1) ([] ++ [.int .i64 b.head.zone, .int .i64 b.head.epoch, .int .i64 b.head.kind, .int .i64 b.head.time, .int .i64 b.head.until_, .int .i64 b.head.count, .int .i64 b.head.root, .int .i64 b.head.prev, .slice bA0 bn0 bc0, .int .i64 b.head.keys.need, .slice bA1 bn1 bc1, .int .i64 b.head.heirs.need, .int .i64 b.head.wait, .slice bA2 bn2 bc2, .int .i64 b.head.judge.need, .bool b.head.frozen] ++ [.slice bA3 bn3 bc3]) from HY_1.out) rfl rfl ?_))
  refine (HEH.out _ HB_1.out).mono ?_
  rintro e W1 ⟨rfl, hb⟩
  have HB_2 := Lib.hid (HB_1.out.trans (hb.mono HB_1.out.size))
  have HX_2 := Lib.hid (HX_1.out.below hb HX_1.out.lt)
  have HY_2 := Lib.hid (HY_1.out.below hb HY_1.out.lt)
  clear hb
  rcases e1 with _ | _
  · skip
    go_wp2
    go_ret
    exact ⟨rfl, HB_2.out⟩
  · skip
    by_cases hl : an3 = bn3
    · subst hl
      have zX0 := HX_2.out.cell (j := 0) rfl
      have zX1 := HX_2.out.cell (j := 1) rfl
      have zX2 := HX_2.out.cell (j := 2) rfl
      have zX3 := HX_2.out.cell (j := 3) rfl
      have zX4 := HX_2.out.cell (j := 4) rfl
      have zX5 := HX_2.out.cell (j := 5) rfl
      have zX6 := HX_2.out.cell (j := 6) rfl
      have zX7 := HX_2.out.cell (j := 7) rfl
      have zX8 := HX_2.out.cell (j := 8) rfl
      have zX9 := HX_2.out.cell (j := 9) rfl
      have zX10 := HX_2.out.cell (j := 10) rfl
      have zX11 := HX_2.out.cell (j := 11) rfl
      have zX12 := HX_2.out.cell (j := 12) rfl
      have zX13 := HX_2.out.cell (j := 13) rfl
      have zX14 := HX_2.out.cell (j := 14) rfl
      have zX15 := HX_2.out.cell (j := 15) rfl
      have zX16 := HX_2.out.cell (j := 16) rfl
      have zY0 := HY_2.out.cell (j := 0) rfl
      have zY1 := HY_2.out.cell (j := 1) rfl
      have zY2 := HY_2.out.cell (j := 2) rfl
      have zY3 := HY_2.out.cell (j := 3) rfl
      have zY4 := HY_2.out.cell (j := 4) rfl
      have zY5 := HY_2.out.cell (j := 5) rfl
      have zY6 := HY_2.out.cell (j := 6) rfl
      have zY7 := HY_2.out.cell (j := 7) rfl
      have zY8 := HY_2.out.cell (j := 8) rfl
      have zY9 := HY_2.out.cell (j := 9) rfl
      have zY10 := HY_2.out.cell (j := 10) rfl
      have zY11 := HY_2.out.cell (j := 11) rfl
      have zY12 := HY_2.out.cell (j := 12) rfl
      have zY13 := HY_2.out.cell (j := 13) rfl
      have zY14 := HY_2.out.cell (j := 14) rfl
      have zY15 := HY_2.out.cell (j := 15) rfl
      have zY16 := HY_2.out.cell (j := 16) rfl
      go_wp2
      clear zX0 zX1 zX2 zX3 zX4 zX5 zX6 zX7 zX8 zX9 zX10 zX11 zX12 zX13 zX14 zX15 zX16 zY0 zY1 zY2 zY3 zY4 zY5 zY6 zY7 zY8 zY9 zY10 zY11 zY12 zY13 zY14 zY15 zY16
      go_loopw [5] (fun i wr => ∃ j : Nat, j ≤ an3 ∧ i = .int .i64 j ∧ a.sigs.take j = b.sigs.take j ∧ Below W1.heap.size W1 wr) (fun i _ => an3 - (intOf i).toNat)
      case atStart => exact ⟨0, by omega, rfl, rfl, Below.refl _ _⟩
      case round =>
        obtain ⟨j, hj, rfl, htk, hbel⟩ := hrel
        have HTK := Lib.hid htk
        have HBL := Lib.hid hbel
        clear htk
        have HB_3 := Lib.hid (HB_2.out.trans (hbel.mono HB_2.out.size))
        have HX_3 := Lib.hid (HX_2.out.below hbel HX_2.out.lt)
        have HY_3 := Lib.hid (HY_2.out.below hbel HY_2.out.lt)
        clear hbel
        by_cases hjn : j < an3
        · skip
          obtain ⟨b1, o1, rfl, hlt1, hc1⟩ := (upF HSA.out HB_3.out).cell_at hjn
          obtain ⟨b2, o2, rfl, hlt2, hc2⟩ := (upF HSB.out HB_3.out).cell_at hjn
          have hj2 : (j : Int) < an3 := by omega
          have HST := Lib.hid (fun (e : a.sigs.getD j default = b.sigs.getD j default) => take_step (by have := HLA.out; omega) (by have := HLB.out; omega) HTK.out e)
          have HSN := Lib.hid (fun (e : a.sigs.getD j default ≠ b.sigs.getD j default) => take_ne (by have := HLA.out; omega) (by have := HLB.out; omega) e)
          generalize a.sigs.getD j default = x at hc1 HST HSN
          generalize b.sigs.getD j default = y at hc2 HST HSN
          have HC1 := Lib.hid (show wr.cell? ⟨b1, o1 + j * 2, none⟩ = some (.int .i64 x.key) ∧ wr.cell? ⟨b1, o1 + j * 2 + 1, none⟩ = some (.int .i64 x.tag) ∧ b1 < wr.heap.size from ⟨hc1 0 (by decide), hc1 1 (by decide), hlt1⟩)
          have HC2 := Lib.hid (show wr.cell? ⟨b2, o2 + j * 2, none⟩ = some (.int .i64 y.key) ∧ wr.cell? ⟨b2, o2 + j * 2 + 1, none⟩ = some (.int .i64 y.tag) ∧ b2 < wr.heap.size from ⟨hc2 0 (by decide), hc2 1 (by decide), hlt2⟩)
          clear hc1 hc2 hlt1 hlt2
          by_cases hxy : x = y
          · have HST2 := Lib.hid (show a.sigs.take (j + 1) = b.sigs.take (j + 1) from HST.out hxy)
            subst hxy
            have zX0 := HX_3.out.cell (j := 0) rfl
            have zX1 := HX_3.out.cell (j := 1) rfl
            have zX2 := HX_3.out.cell (j := 2) rfl
            have zX3 := HX_3.out.cell (j := 3) rfl
            have zX4 := HX_3.out.cell (j := 4) rfl
            have zX5 := HX_3.out.cell (j := 5) rfl
            have zX6 := HX_3.out.cell (j := 6) rfl
            have zX7 := HX_3.out.cell (j := 7) rfl
            have zX8 := HX_3.out.cell (j := 8) rfl
            have zX9 := HX_3.out.cell (j := 9) rfl
            have zX10 := HX_3.out.cell (j := 10) rfl
            have zX11 := HX_3.out.cell (j := 11) rfl
            have zX12 := HX_3.out.cell (j := 12) rfl
            have zX13 := HX_3.out.cell (j := 13) rfl
            have zX14 := HX_3.out.cell (j := 14) rfl
            have zX15 := HX_3.out.cell (j := 15) rfl
            have zX16 := HX_3.out.cell (j := 16) rfl
            go_wp2
            clear zX0 zX1 zX2 zX3 zX4 zX5 zX6 zX7 zX8 zX9 zX10 zX11 zX12 zX13 zX14 zX15 zX16
            refine RG.region (tabP [sv (.pointer (some ⟨w.heap.size, 16, none⟩)), sv (.slice (some ⟨b1, o1, none⟩) an3 ac3), sv (.int .i64 ((j : Int))), sv (.pointer (some ⟨b1, o1 + j * 2, none⟩)), sv (.agg #[.int .i64 x.key, .int .i64 x.tag]), sv (.pointer (some ⟨w.heap.size + 1, 16, none⟩)), sv (.slice (some ⟨b2, o2, none⟩) an3 bc3), sv (.int .i64 ((j : Int))), sv (.pointer (some ⟨b2, o2 + j * 2, none⟩)), sv (.agg #[.int .i64 x.key, .int .i64 x.tag]), sv (.bool (false))]) (by kernel_rfl) (by kernel_rfl) (tab_keep _) ?_ ?_
            · refine steps_cons ?_ (steps_cons ?_ (steps_cons ?_ (steps_cons ?_ (steps_cons ?_ (steps_cons ?_ (steps_cons ?_ (steps_cons ?_ (steps_cons ?_ (steps_cons ?_ (steps_cons ?_ (steps_nil)))))))))))
              · intro aa ww hA K hK
                refine free rfl ?_
                have e2 : aa.tmps.getD 2 undef = .pointer (some ⟨w.heap.size, 0, none⟩) := hA.old 2 (by kernel_rfl)
                exact gives hK (v := .pointer (some ⟨w.heap.size, 16, none⟩)) (by simp [execOp, Act.eval, e2, go_sem]) rfl
              · intro aa ww hA K hK
                refine free rfl ?_
                have e28 : aa.tmps.getD 28 undef = .pointer (some ⟨w.heap.size, 16, none⟩) := hA.got 0 28 (by kernel_rfl)
                have lx := (hA.bel.cell (p := ⟨w.heap.size, 16, none⟩) HX_3.out.lt).trans (HX_3.out.cell (j := 16) rfl)
                exact gives hK (v := .slice (some ⟨b1, o1, none⟩) an3 ac3) (by simp [execOp, Act.eval, e28, lx, go_sem]) rfl
              · intro aa ww hA K hK
                refine free rfl ?_
                exact gives hK rfl (hA.old 5 (by kernel_rfl))
              · intro aa ww hA K hK
                refine free rfl ?_
                have e29 : aa.tmps.getD 29 undef = .slice (some ⟨b1, o1, none⟩) an3 ac3 := hA.got 1 29 (by kernel_rfl)
                have e30 : aa.tmps.getD 30 undef = .int .i64 ((j : Int)) := hA.got 2 30 (by kernel_rfl)
                exact gives hK (v := .pointer (some ⟨b1, o1 + j * 2, none⟩)) (by simp [execOp, Act.eval, e29, e30, go_sem, hj2]) rfl
              · intro aa ww hA K hK
                refine free rfl ?_
                have e31 : aa.tmps.getD 31 undef = .pointer (some ⟨b1, o1 + j * 2, none⟩) := hA.got 3 31 (by kernel_rfl)
                have p0 := (hA.bel.cell (p := ⟨b1, o1 + j * 2, none⟩) HC1.out.2.2).trans HC1.out.1
                have p1 := (hA.bel.cell (p := ⟨b1, o1 + j * 2 + 1, none⟩) HC1.out.2.2).trans HC1.out.2.1
                exact gives hK (v := .agg #[.int .i64 x.key, .int .i64 x.tag]) (by simp [execOp, Act.eval, e31, p0, p1, go_sem]) rfl
              · intro aa ww hA K hK
                refine free rfl ?_
                have e3 : aa.tmps.getD 3 undef = .pointer (some ⟨w.heap.size + 1, 0, none⟩) := hA.old 3 (by kernel_rfl)
                exact gives hK (v := .pointer (some ⟨w.heap.size + 1, 16, none⟩)) (by simp [execOp, Act.eval, e3, go_sem]) rfl
              · intro aa ww hA K hK
                refine free rfl ?_
                have e33 : aa.tmps.getD 33 undef = .pointer (some ⟨w.heap.size + 1, 16, none⟩) := hA.got 5 33 (by kernel_rfl)
                have ly := (hA.bel.cell (p := ⟨w.heap.size + 1, 16, none⟩) HY_3.out.lt).trans (HY_3.out.cell (j := 16) rfl)
                exact gives hK (v := .slice (some ⟨b2, o2, none⟩) an3 bc3) (by simp [execOp, Act.eval, e33, ly, go_sem]) rfl
              · intro aa ww hA K hK
                refine free rfl ?_
                exact gives hK rfl (hA.old 5 (by kernel_rfl))
              · intro aa ww hA K hK
                refine free rfl ?_
                have e34 : aa.tmps.getD 34 undef = .slice (some ⟨b2, o2, none⟩) an3 bc3 := hA.got 6 34 (by kernel_rfl)
                have e35 : aa.tmps.getD 35 undef = .int .i64 ((j : Int)) := hA.got 7 35 (by kernel_rfl)
                exact gives hK (v := .pointer (some ⟨b2, o2 + j * 2, none⟩)) (by simp [execOp, Act.eval, e34, e35, go_sem, hj2]) rfl
              · intro aa ww hA K hK
                refine free rfl ?_
                have e36 : aa.tmps.getD 36 undef = .pointer (some ⟨b2, o2 + j * 2, none⟩) := hA.got 8 36 (by kernel_rfl)
                have p0 := (hA.bel.cell (p := ⟨b2, o2 + j * 2, none⟩) HC2.out.2.2).trans HC2.out.1
                have p1 := (hA.bel.cell (p := ⟨b2, o2 + j * 2 + 1, none⟩) HC2.out.2.2).trans HC2.out.2.1
                exact gives hK (v := .agg #[.int .i64 x.key, .int .i64 x.tag]) (by simp [execOp, Act.eval, e36, p0, p1, go_sem]) rfl
              · intro aa ww hA K hK
                refine free rfl ?_
                have e32 : aa.tmps.getD 32 undef = .agg #[.int .i64 x.key, .int .i64 x.tag] := hA.got 4 32 (by kernel_rfl)
                have e37 : aa.tmps.getD 37 undef = .agg #[.int .i64 x.key, .int .i64 x.tag] := hA.got 9 37 (by kernel_rfl)
                exact gives hK (v := .bool false) (by simp [execOp, Act.eval, e32, e37, go_sem]) rfl
            · intro a1 W2 hb hd hsz hold hgot
              have g38 : a1.tmps.getD 38 undef = .bool (false) := hgot 10 38 (by kernel_rfl)
              have ea := act_put hd hsz hold [28, 29, 30, 31, 32, 33, 34, 35, 36, 37, 38] rfl
              simp only [List.foldl_cons, List.foldl_nil, g38] at ea
              rename_i K9 hK9
              refine hK9 a1 W2 ?_
              generalize a1.tmps.getD 28 undef = v28 at ea
              generalize a1.tmps.getD 29 undef = v29 at ea
              generalize a1.tmps.getD 30 undef = v30 at ea
              generalize a1.tmps.getD 31 undef = v31 at ea
              generalize a1.tmps.getD 32 undef = v32 at ea
              generalize a1.tmps.getD 33 undef = v33 at ea
              generalize a1.tmps.getD 34 undef = v34 at ea
              generalize a1.tmps.getD 35 undef = v35 at ea
              generalize a1.tmps.getD 36 undef = v36 at ea
              generalize a1.tmps.getD 37 undef = v37 at ea
              clear hgot hold hsz hd g38
              simp only [Act.put, List.setIfInBounds_toArray, List.set_cons_succ, List.set_cons_zero] at ea
              subst ea
              have hb9 := RKA.below_drew hb
              have HB_4 := Lib.hid (HB_3.out.trans (hb9.mono HB_3.out.size))
              have HX_4 := Lib.hid (HX_3.out.below hb9 HX_3.out.lt)
              have HY_4 := Lib.hid (HY_3.out.below hb9 HY_3.out.lt)
              have HB9 := Lib.hid (HBL.out.trans (hb9.mono HBL.out.size))
              clear hb hb9
              go_wp2
              go_roundw
              case rel => exact ⟨j + 1, by omega, by go_num, HST2.out, HB9.out⟩
              case measure => simp [intOf]; omega
          · have HNE := Lib.hid (sig_ne hxy)
            have zX0 := HX_3.out.cell (j := 0) rfl
            have zX1 := HX_3.out.cell (j := 1) rfl
            have zX2 := HX_3.out.cell (j := 2) rfl
            have zX3 := HX_3.out.cell (j := 3) rfl
            have zX4 := HX_3.out.cell (j := 4) rfl
            have zX5 := HX_3.out.cell (j := 5) rfl
            have zX6 := HX_3.out.cell (j := 6) rfl
            have zX7 := HX_3.out.cell (j := 7) rfl
            have zX8 := HX_3.out.cell (j := 8) rfl
            have zX9 := HX_3.out.cell (j := 9) rfl
            have zX10 := HX_3.out.cell (j := 10) rfl
            have zX11 := HX_3.out.cell (j := 11) rfl
            have zX12 := HX_3.out.cell (j := 12) rfl
            have zX13 := HX_3.out.cell (j := 13) rfl
            have zX14 := HX_3.out.cell (j := 14) rfl
            have zX15 := HX_3.out.cell (j := 15) rfl
            have zX16 := HX_3.out.cell (j := 16) rfl
            go_wp2
            clear zX0 zX1 zX2 zX3 zX4 zX5 zX6 zX7 zX8 zX9 zX10 zX11 zX12 zX13 zX14 zX15 zX16
            refine RG.region (tabP [sv (.pointer (some ⟨w.heap.size, 16, none⟩)), sv (.slice (some ⟨b1, o1, none⟩) an3 ac3), sv (.int .i64 ((j : Int))), sv (.pointer (some ⟨b1, o1 + j * 2, none⟩)), sv (.agg #[.int .i64 x.key, .int .i64 x.tag]), sv (.pointer (some ⟨w.heap.size + 1, 16, none⟩)), sv (.slice (some ⟨b2, o2, none⟩) an3 bc3), sv (.int .i64 ((j : Int))), sv (.pointer (some ⟨b2, o2 + j * 2, none⟩)), sv (.agg #[.int .i64 y.key, .int .i64 y.tag]), sv (.bool (true))]) (by kernel_rfl) (by kernel_rfl) (tab_keep _) ?_ ?_
            · refine steps_cons ?_ (steps_cons ?_ (steps_cons ?_ (steps_cons ?_ (steps_cons ?_ (steps_cons ?_ (steps_cons ?_ (steps_cons ?_ (steps_cons ?_ (steps_cons ?_ (steps_cons ?_ (steps_nil)))))))))))
              · intro aa ww hA K hK
                refine free rfl ?_
                have e2 : aa.tmps.getD 2 undef = .pointer (some ⟨w.heap.size, 0, none⟩) := hA.old 2 (by kernel_rfl)
                exact gives hK (v := .pointer (some ⟨w.heap.size, 16, none⟩)) (by simp [execOp, Act.eval, e2, go_sem]) rfl
              · intro aa ww hA K hK
                refine free rfl ?_
                have e28 : aa.tmps.getD 28 undef = .pointer (some ⟨w.heap.size, 16, none⟩) := hA.got 0 28 (by kernel_rfl)
                have lx := (hA.bel.cell (p := ⟨w.heap.size, 16, none⟩) HX_3.out.lt).trans (HX_3.out.cell (j := 16) rfl)
                exact gives hK (v := .slice (some ⟨b1, o1, none⟩) an3 ac3) (by simp [execOp, Act.eval, e28, lx, go_sem]) rfl
              · intro aa ww hA K hK
                refine free rfl ?_
                exact gives hK rfl (hA.old 5 (by kernel_rfl))
              · intro aa ww hA K hK
                refine free rfl ?_
                have e29 : aa.tmps.getD 29 undef = .slice (some ⟨b1, o1, none⟩) an3 ac3 := hA.got 1 29 (by kernel_rfl)
                have e30 : aa.tmps.getD 30 undef = .int .i64 ((j : Int)) := hA.got 2 30 (by kernel_rfl)
                exact gives hK (v := .pointer (some ⟨b1, o1 + j * 2, none⟩)) (by simp [execOp, Act.eval, e29, e30, go_sem, hj2]) rfl
              · intro aa ww hA K hK
                refine free rfl ?_
                have e31 : aa.tmps.getD 31 undef = .pointer (some ⟨b1, o1 + j * 2, none⟩) := hA.got 3 31 (by kernel_rfl)
                have p0 := (hA.bel.cell (p := ⟨b1, o1 + j * 2, none⟩) HC1.out.2.2).trans HC1.out.1
                have p1 := (hA.bel.cell (p := ⟨b1, o1 + j * 2 + 1, none⟩) HC1.out.2.2).trans HC1.out.2.1
                exact gives hK (v := .agg #[.int .i64 x.key, .int .i64 x.tag]) (by simp [execOp, Act.eval, e31, p0, p1, go_sem]) rfl
              · intro aa ww hA K hK
                refine free rfl ?_
                have e3 : aa.tmps.getD 3 undef = .pointer (some ⟨w.heap.size + 1, 0, none⟩) := hA.old 3 (by kernel_rfl)
                exact gives hK (v := .pointer (some ⟨w.heap.size + 1, 16, none⟩)) (by simp [execOp, Act.eval, e3, go_sem]) rfl
              · intro aa ww hA K hK
                refine free rfl ?_
                have e33 : aa.tmps.getD 33 undef = .pointer (some ⟨w.heap.size + 1, 16, none⟩) := hA.got 5 33 (by kernel_rfl)
                have ly := (hA.bel.cell (p := ⟨w.heap.size + 1, 16, none⟩) HY_3.out.lt).trans (HY_3.out.cell (j := 16) rfl)
                exact gives hK (v := .slice (some ⟨b2, o2, none⟩) an3 bc3) (by simp [execOp, Act.eval, e33, ly, go_sem]) rfl
              · intro aa ww hA K hK
                refine free rfl ?_
                exact gives hK rfl (hA.old 5 (by kernel_rfl))
              · intro aa ww hA K hK
                refine free rfl ?_
                have e34 : aa.tmps.getD 34 undef = .slice (some ⟨b2, o2, none⟩) an3 bc3 := hA.got 6 34 (by kernel_rfl)
                have e35 : aa.tmps.getD 35 undef = .int .i64 ((j : Int)) := hA.got 7 35 (by kernel_rfl)
                exact gives hK (v := .pointer (some ⟨b2, o2 + j * 2, none⟩)) (by simp [execOp, Act.eval, e34, e35, go_sem, hj2]) rfl
              · intro aa ww hA K hK
                refine free rfl ?_
                have e36 : aa.tmps.getD 36 undef = .pointer (some ⟨b2, o2 + j * 2, none⟩) := hA.got 8 36 (by kernel_rfl)
                have p0 := (hA.bel.cell (p := ⟨b2, o2 + j * 2, none⟩) HC2.out.2.2).trans HC2.out.1
                have p1 := (hA.bel.cell (p := ⟨b2, o2 + j * 2 + 1, none⟩) HC2.out.2.2).trans HC2.out.2.1
                exact gives hK (v := .agg #[.int .i64 y.key, .int .i64 y.tag]) (by simp [execOp, Act.eval, e36, p0, p1, go_sem]) rfl
              · intro aa ww hA K hK
                refine free rfl ?_
                have e32 : aa.tmps.getD 32 undef = .agg #[.int .i64 x.key, .int .i64 x.tag] := hA.got 4 32 (by kernel_rfl)
                have e37 : aa.tmps.getD 37 undef = .agg #[.int .i64 y.key, .int .i64 y.tag] := hA.got 9 37 (by kernel_rfl)
                exact gives hK (v := .bool true) (by simp [execOp, Act.eval, e32, e37, go_sem]; exact HNE.out) rfl
            · intro a1 W2 hb hd hsz hold hgot
              have g38 : a1.tmps.getD 38 undef = .bool (true) := hgot 10 38 (by kernel_rfl)
              have ea := act_put hd hsz hold [28, 29, 30, 31, 32, 33, 34, 35, 36, 37, 38] rfl
              simp only [List.foldl_cons, List.foldl_nil, g38] at ea
              rename_i K9 hK9
              refine hK9 a1 W2 ?_
              generalize a1.tmps.getD 28 undef = v28 at ea
              generalize a1.tmps.getD 29 undef = v29 at ea
              generalize a1.tmps.getD 30 undef = v30 at ea
              generalize a1.tmps.getD 31 undef = v31 at ea
              generalize a1.tmps.getD 32 undef = v32 at ea
              generalize a1.tmps.getD 33 undef = v33 at ea
              generalize a1.tmps.getD 34 undef = v34 at ea
              generalize a1.tmps.getD 35 undef = v35 at ea
              generalize a1.tmps.getD 36 undef = v36 at ea
              generalize a1.tmps.getD 37 undef = v37 at ea
              clear hgot hold hsz hd g38
              simp only [Act.put, List.setIfInBounds_toArray, List.set_cons_succ, List.set_cons_zero] at ea
              subst ea
              have hb9 := RKA.below_drew hb
              have HB_4 := Lib.hid (HB_3.out.trans (hb9.mono HB_3.out.size))
              have HX_4 := Lib.hid (HX_3.out.below hb9 HX_3.out.lt)
              have HY_4 := Lib.hid (HY_3.out.below hb9 HY_3.out.lt)
              clear hb hb9
              go_wp2
              go_ret
              exact ⟨by rw [decide_eq_false (HSN.out hxy)]; rfl, HB_4.out⟩
        · skip
          have HQ := Lib.hid (show a.sigs = b.sigs by have h9 := HTK.out; rw [List.take_of_length_le (by have := HLA.out; omega), List.take_of_length_le (by have := HLB.out; omega)] at h9; exact h9)
          have zX0 := HX_3.out.cell (j := 0) rfl
          have zX1 := HX_3.out.cell (j := 1) rfl
          have zX2 := HX_3.out.cell (j := 2) rfl
          have zX3 := HX_3.out.cell (j := 3) rfl
          have zX4 := HX_3.out.cell (j := 4) rfl
          have zX5 := HX_3.out.cell (j := 5) rfl
          have zX6 := HX_3.out.cell (j := 6) rfl
          have zX7 := HX_3.out.cell (j := 7) rfl
          have zX8 := HX_3.out.cell (j := 8) rfl
          have zX9 := HX_3.out.cell (j := 9) rfl
          have zX10 := HX_3.out.cell (j := 10) rfl
          have zX11 := HX_3.out.cell (j := 11) rfl
          have zX12 := HX_3.out.cell (j := 12) rfl
          have zX13 := HX_3.out.cell (j := 13) rfl
          have zX14 := HX_3.out.cell (j := 14) rfl
          have zX15 := HX_3.out.cell (j := 15) rfl
          have zX16 := HX_3.out.cell (j := 16) rfl
          go_wp2
          go_ret
          exact ⟨by rw [decide_eq_true HQ.out]; rfl, HB_3.out⟩
    · skip
      have hli : ¬ ((an3 : Int) = (bn3 : Int)) := by omega
      have hlj : ((an3 : Int) == (bn3 : Int)) = false := beq_eq_false_iff_ne.2 hli
      have HQ := Lib.hid (show a.sigs ≠ b.sigs from fun e => hl (by rw [← HLA.out, ← HLB.out, e]))
      have zX0 := HX_2.out.cell (j := 0) rfl
      have zX1 := HX_2.out.cell (j := 1) rfl
      have zX2 := HX_2.out.cell (j := 2) rfl
      have zX3 := HX_2.out.cell (j := 3) rfl
      have zX4 := HX_2.out.cell (j := 4) rfl
      have zX5 := HX_2.out.cell (j := 5) rfl
      have zX6 := HX_2.out.cell (j := 6) rfl
      have zX7 := HX_2.out.cell (j := 7) rfl
      have zX8 := HX_2.out.cell (j := 8) rfl
      have zX9 := HX_2.out.cell (j := 9) rfl
      have zX10 := HX_2.out.cell (j := 10) rfl
      have zX11 := HX_2.out.cell (j := 11) rfl
      have zX12 := HX_2.out.cell (j := 12) rfl
      have zX13 := HX_2.out.cell (j := 13) rfl
      have zX14 := HX_2.out.cell (j := 14) rfl
      have zX15 := HX_2.out.cell (j := 15) rfl
      have zX16 := HX_2.out.cell (j := 16) rfl
      have zY0 := HY_2.out.cell (j := 0) rfl
      have zY1 := HY_2.out.cell (j := 1) rfl
      have zY2 := HY_2.out.cell (j := 2) rfl
      have zY3 := HY_2.out.cell (j := 3) rfl
      have zY4 := HY_2.out.cell (j := 4) rfl
      have zY5 := HY_2.out.cell (j := 5) rfl
      have zY6 := HY_2.out.cell (j := 6) rfl
      have zY7 := HY_2.out.cell (j := 7) rfl
      have zY8 := HY_2.out.cell (j := 8) rfl
      have zY9 := HY_2.out.cell (j := 9) rfl
      have zY10 := HY_2.out.cell (j := 10) rfl
      have zY11 := HY_2.out.cell (j := 11) rfl
      have zY12 := HY_2.out.cell (j := 12) rfl
      have zY13 := HY_2.out.cell (j := 13) rfl
      have zY14 := HY_2.out.cell (j := 14) rfl
      have zY15 := HY_2.out.cell (j := 15) rfl
      have zY16 := HY_2.out.cell (j := 16) rfl
      go_wp2
      go_ret
      exact ⟨by rw [decide_eq_false HQ.out]; rfl, HB_2.out⟩
end Go.Proofs.Ythhmhcmlbpdlbaa.C14E
