/- Chapter 12: gaps: what the model's functions return. -/
import Derived.Test.YtbhhifoofapgiaaGreatM12
import Derived.Test.YtbhhifoofapgiaaGreatC11S
namespace Go.Proofs.YtbhhifoofapgiaaGreat.C12S
open Go.RowKit Mem MemS M02 M03 M04 M05 M08 M09 M10 M10F M11 M12P M12 C01 C02 C03S C03H C03D C04S C04I C05S C08S C09S C09SP C10S C11S Rep RW R08 Q08 R11 R12 RKA
set_option linter.unusedVariables false
set_option linter.unusedSimpArgs false
set_option maxRecDepth 100000
theorem upE {w w' : World} {cs : List Value} {k : Entry} (h : REntry.rd w (Lt w.heap.size) cs k) (hb : Below w.heap.size w w') : REntry.rd w' (Lt w'.heap.size) cs k := REntry.more (REntry.keep h fun i hi => hb.block i hi) fun i hi => Nat.lt_of_lt_of_le hi hb.size
theorem upP {w w' : World} {cs : List Value} {k : Proof} (h : RProof.rd w (Lt w.heap.size) cs k) (hb : Below w.heap.size w w') : RProof.rd w' (Lt w'.heap.size) cs k := RProof.more (RProof.keep h fun i hi => hb.block i hi) fun i hi => Nat.lt_of_lt_of_le hi hb.size
theorem zero_rd (w : World) : REntry.rd w (Lt w.heap.size) [.string ⟨#[]⟩, .int .i64 0, .int .i64 0, .slice none 0 0] zeroE :=
  REntry_rd.2 ⟨none, 0, 0, rfl, Nat.zero_le _, (show In .i64 0 from inI64 (by omega) (by omega)), (show In .i64 0 from inI64 (by omega) (by omega)), Nat.le_refl _, by unfold maxLen; omega, ⟨rfl, by simp [zeroE], fun h => absurd h (by omega)⟩⟩
theorem zero_rdP (w : World) : RProof.rd w (Lt w.heap.size) [.int .i64 0, .slice none 0 0] zeroP :=
  RProof_rd.2 ⟨none, 0, 0, rfl, (show In .i64 0 from inI64 (by omega) (by omega)), Nat.le_refl _, by unfold maxLen; omega, Rd.nil _ _ _ _⟩
theorem hsh_rootE : 0 ≤ rootOf [] ∧ rootOf [] < 2147483647 := hsh_range _
theorem sRankOf_any (A : Option Addr) (n c : Nat) (l : List Entry) (s : ByteArray) (w : World) (h : FRdEntry w w.heap.size A n l) (hn : n ≤ 1099511627776) :
    Calls Tryz.prog 23 #[.slice A n c, .string s] w fun e w' => e = .returned (.int .i64 (rankN l s)) ∧ w = w' := by
  have HL := Lib.hid h.len
  have HR := Lib.hid h
  clear h
  go_enter Tryz.func23, Tryz.ntmps23
  go_wp2
  go_loop [5, 6] (fun r i => ∃ j : Nat, j ≤ n ∧ i = .int .i64 j ∧ r = .int .i64 (rankN (l.take j) s)) (fun _ i => n - (intOf i).toNat)
  case atStart => exact ⟨0, by omega, rfl, rfl⟩
  case round =>
    obtain ⟨j, hj, rfl, rfl⟩ := hrel
    by_cases hjn : j < n
    · obtain ⟨b, off, cs, rfl, hlt, hrd, hcc⟩ := HR.out.at hjn
      obtain ⟨A3, n3, c3, rfl, g0, g1, g2, p3, q3, s3⟩ := REntry_rd.1 hrd
      have d0 : w.cell? ⟨b, off + j * 4, none⟩ = some (.string (at0 l j).label) := hcc 0 (by decide)
      clear hcc hrd g0 g1 g2 p3 q3 s3
      have HS := Lib.hid (rank_succ (s := s) (show j < l.length by rw [HL.out]; exact hjn))
      have hrk := rank_le (l.take j) s
      rw [List.length_take] at hrk
      have HC := Lib.hid (sCompareLabels_any (at0 l j).label s w)
      generalize cmpS (at0 l j).label s = cm at HS HC
      generalize (at0 l j).label = x at d0 HC
      generalize rankN (l.take j) s = r at HS hrk
      by_cases hm : cm < 0
      all_goals
        go_wp2_with fail
        refine HC.out.mono ?_
        rintro e w1 ⟨rfl, rfl⟩
        go_wp2
        go_round
        case rel => exact ⟨j + 1, by omega, by go_num, by rw [HS.out]; first | (rw [if_pos (by omega)]; go_num) | (rw [if_neg (by omega)]; rfl)⟩
        case measure => simp [intOf]; omega
    · have HF := Lib.hid (show l.take j = l from List.take_of_length_le (by have := HL.out; omega))
      go_wp2
      go_ret
      exact ⟨by rw [HF.out]; rfl, rfl⟩
theorem sl12None_any (cs : List Value) (k : Entry) (ds : List Value) (p : Proof) (w : World) (h : REntry.rd w (Lt w.heap.size) cs k) (h' : RProof.rd w (Lt w.heap.size) ds p) (hn : totEntry k ≤ 1048576) (hm : totProof p ≤ 1048576) :
    Calls Tryz.prog 45 #[.agg cs.toArray, .agg ds.toArray] w fun e w' => e = .returned (.bool (noneE k p)) ∧ Below w.heap.size w w' := by
  obtain ⟨A1, n1, c1, hcs, -⟩ := REntry_rd.1 h
  obtain ⟨A2, n2, c2, hds, -⟩ := RProof_rd.1 h'
  have HQE := Lib.hid (fun w1 (hb : Below w.heap.size w w1) => sEqualEntries_any cs _ k zeroE w1 (upE h hb) (zero_rd w1) (by omega) (by unfold totEntry totSS zeroE; simp))
  have HQP := Lib.hid (fun w1 (hb : Below w.heap.size w w1) => sEqualProofs_any ds _ p zeroP w1 (upP h' hb) (zero_rdP w1) hm)
  unfold noneE
  subst hcs hds
  have HB := Lib.hid (show Below w.heap.size w ((w.alloc (.cells #[.string k.label, .int .i64 k.kind, .int .i64 k.value, .slice A1 n1 c1] 29)).alloc (.cells #[.int .i64 p.at_, .slice A2 n2 c2] 32)) from ((Below.refl _ _).alloc (Nat.le_refl _) _).alloc (by simp) _)
  have HX := Lib.hid (show Box ((w.alloc (.cells #[.string k.label, .int .i64 k.kind, .int .i64 k.value, .slice A1 n1 c1] 29)).alloc (.cells #[.int .i64 p.at_, .slice A2 n2 c2] 32)) (w.heap.size + 1) [.int .i64 p.at_, .slice A2 n2 c2] from by
    have := Box.new (w.alloc (.cells #[.string k.label, .int .i64 k.kind, .int .i64 k.value, .slice A1 n1 c1] 29)) #[.int .i64 p.at_, .slice A2 n2 c2] 32
    simpa using this)
  generalize eqEntryB k zeroE = be at HQE
  generalize eqP p zeroP = bp at HQP
  obtain ⟨kl, kk, kv, kp⟩ := k
  obtain ⟨pa, pp⟩ := p
  simp only at HQE HQP HB HX
  clear h h' hn hm
  rcases be with _ | _
  all_goals
    go_enter Tryz.func45, Tryz.ntmps45
    go_wp2_with fail
    refine (HQE.out _ HB.out).mono ?_
    rintro e w1 ⟨rfl, hb⟩
    have HB1 := Lib.hid (HB.out.trans (hb.mono HB.out.size))
    have HX1 := Lib.hid (HX.out.below hb HX.out.lt)
    clear hb
    have x0 := HX1.out.cell (j := 0) rfl
    have x1 := HX1.out.cell (j := 1) rfl
  · go_wp2
    go_ret
    exact ⟨rfl, HB1.out⟩
  · go_wp2_with fail
    refine (HQP.out _ HB1.out).mono ?_
    rintro e w2 ⟨rfl, hb⟩
    have HB2 := Lib.hid (HB1.out.trans (hb.mono HB1.out.size))
    clear hb
    go_wp2
    go_ret
    exact ⟨by first | rfl | simp, HB2.out⟩
set_option maxHeartbeats 4000000 in
theorem sCheckAbsence_c0 (root count : Int) (s : ByteArray) (cs : List Value) (a : Gap) (w : World) (hr0 : In .i64 root) (hc0 : In .i64 count) (hs : s.size ≤ 1099511627776) (h : RGap.rd w (Lt w.heap.size) cs a) (hn : totGap a ≤ 1048576) (hz : count = 0) :
    Calls Tryz.prog 13 #[.int .i64 root, .int .i64 count, .string s, .agg cs.toArray] w fun e w' => e = .returned (.bool (checkG root count s a)) ∧ Below w.heap.size w w' := by
  obtain ⟨aA0, an0, ac0, aA1, an1, ac1, aA2, an2, ac2, aA3, an3, ac3, hacs, ai, ah0, ah1, ah2, ah3⟩ := RGap_rd.1 h
  unfold totGap at hn
  have HN0 := Lib.hid (fun w1 (hb : Below w.heap.size w w1) => sl12None_any _ a.before _ a.left w1 (upE ah0 hb) (upP ah2 hb) (by omega) (by omega))
  have HN1 := Lib.hid (fun w1 (hb : Below w.heap.size w w1) => sl12None_any _ a.after _ a.right w1 (upE ah1 hb) (upP ah3 hb) (by omega) (by omega))
  have HC0 := Lib.hid (fun w1 (hb : Below w.heap.size w w1) => sCheckEntry_any root count _ a.before _ a.left w1 hr0 hc0 (upE ah0 hb) (upP ah2 hb) (by omega) (by omega))
  have HC1 := Lib.hid (fun w1 (hb : Below w.heap.size w w1) => sCheckEntry_any root count _ a.after _ a.right w1 hr0 hc0 (upE ah1 hb) (upP ah3 hb) (by omega) (by omega))
  have HL := Lib.hid (fun w1 => sIsLabel_any s w1 hs)
  have HI := Lib.hid (fun w1 => C01.l1In_any a.at_ 0 count w1)
  have HRT := Lib.hid (fun A w1 => sRootOf_any A 0 0 [] w1 (Rds.nil _ _ _ _) (by simp [totR]))
  have HM0 := Lib.hid (fun w1 => sCompareLabels_any a.before.label s w1)
  have HM1 := Lib.hid (fun w1 => sCompareLabels_any a.after.label s w1)
  unfold checkG checkA
  generalize isLab s = bl at HL
  generalize hbi : inR a.at_ 0 count = bi at HI
  have hrr := hsh_rootE
  generalize rootOf [] = r0 at HRT hrr
  generalize noneE a.before a.left = e0 at HN0
  generalize noneE a.after a.right = e1 at HN1
  generalize checkE root count a.before a.left = k0 at HC0
  generalize checkE root count a.after a.right = k1 at HC1
  generalize hm0 : cmpS a.before.label s = m0 at HM0
  generalize hm1 : cmpS a.after.label s = m1 at HM1
  have hlq : In .i64 a.left.at_ := by obtain ⟨_, _, _, _, g, _⟩ := RProof_rd.1 ah2; exact g
  have hmr0 := cmpS_range a.before.label s
  have hmr1 := cmpS_range a.after.label s
  rw [hm0] at hmr0
  rw [hm1] at hmr1
  subst hacs
  have hai : -9223372036854775808 ≤ a.at_ ∧ a.at_ ≤ 9223372036854775807 := ai
  have hbr : bi = true → 0 ≤ a.at_ ∧ a.at_ ≤ count := fun e => by
    have := hbi.trans e
    unfold inR at this
    simpa using this
  clear h hn ah0 ah1 ah2 ah3 hm0 hm1 hbi
  obtain ⟨aat, ⟨al0, ak0, av0, ap0⟩, ⟨al1, ak1, av1, ap1⟩, ⟨aq2, ap2⟩, ⟨aq3, ap3⟩⟩ := a
  simp only at HN0 HN1 HC0 HC1 HI HM0 HM1 hai hlq hbr ⊢
  obtain ⟨r, hr⟩ : ∃ r : Bool, (if bl && bi && !(decide (count = 0) && decide (root ≠ r0)) then (if aat = 0 then e0 else k0 && decide (aq2 = aat - 1) && decide (m0 = -1)) && (if aat = count then e1 else k1 && decide (aq3 = aat) && decide (m1 = 1)) else false) = r := ⟨_, rfl⟩
  rw [hr]
  have HRR := Lib.hid hr
  clear hr
  subst hz
  obtain ⟨V, hV⟩ : ∃ V, V = w.alloc (.cells #[.int .i64 aat, .string al0, .int .i64 ak0, .int .i64 av0, .slice aA0 an0 ac0, .string al1, .int .i64 ak1, .int .i64 av1, .slice aA1 an1 ac1, .int .i64 aq2, .slice aA2 an2 ac2, .int .i64 aq3, .slice aA3 an3 ac3] 34) := ⟨_, rfl⟩
  have HB_1 := Lib.hid (show Below w.heap.size w V from by rw [hV]; exact (Below.refl _ _).alloc (Nat.le_refl _) _)
  have HX_1 := Lib.hid (show Box V w.heap.size [.int .i64 aat, .string al0, .int .i64 ak0, .int .i64 av0, .slice aA0 an0 ac0, .string al1, .int .i64 ak1, .int .i64 av1, .slice aA1 an1 ac1, .int .i64 aq2, .slice aA2 an2 ac2, .int .i64 aq3, .slice aA3 an3 ac3] from by
    rw [hV]
    exact Box.new w #[.int .i64 aat, .string al0, .int .i64 ak0, .int .i64 av0, .slice aA0 an0 ac0, .string al1, .int .i64 ak1, .int .i64 av1, .slice aA1 an1 ac1, .int .i64 aq2, .slice aA2 an2 ac2, .int .i64 aq3, .slice aA3 an3 ac3] 34)
  have HV := Lib.hid hV
  clear hV
  go_enter Tryz.func13, Tryz.ntmps13
  go_wp2_with fail
  rw [show w.alloc (.cells #[.int .i64 aat, .string al0, .int .i64 ak0, .int .i64 av0, .slice aA0 an0 ac0, .string al1, .int .i64 ak1, .int .i64 av1, .slice aA1 an1 ac1, .int .i64 aq2, .slice aA2 an2 ac2, .int .i64 aq3, .slice aA3 an3 ac3] 34) = V from HV.out.symm]
  refine (HL.out _).mono ?_
  rintro e wq ⟨rfl, rfl⟩
  rcases bl with _ | _
  · skip
    go_wp2
    go_ret
    exact ⟨by rw [← HRR.out]; first | rfl | (simp []; done) | (simp []; rfl), HB_1.out⟩
  · skip
    have zX0 := HX_1.out.cell (j := 0) rfl
    have zX1 := HX_1.out.cell (j := 1) rfl
    have zX2 := HX_1.out.cell (j := 2) rfl
    have zX3 := HX_1.out.cell (j := 3) rfl
    have zX4 := HX_1.out.cell (j := 4) rfl
    have zX5 := HX_1.out.cell (j := 5) rfl
    have zX6 := HX_1.out.cell (j := 6) rfl
    have zX7 := HX_1.out.cell (j := 7) rfl
    have zX8 := HX_1.out.cell (j := 8) rfl
    have zX9 := HX_1.out.cell (j := 9) rfl
    have zX10 := HX_1.out.cell (j := 10) rfl
    have zX11 := HX_1.out.cell (j := 11) rfl
    have zX12 := HX_1.out.cell (j := 12) rfl
    go_wp2_with fail
    clear zX0 zX1 zX2 zX3 zX4 zX5 zX6 zX7 zX8 zX9 zX10 zX11 zX12
    refine (HI.out _).mono ?_
    rintro e wq ⟨rfl, rfl⟩
    rcases bi with _ | _
    · skip
      go_wp2
      go_ret
      exact ⟨by rw [← HRR.out]; first | rfl | (simp []; done) | (simp []; rfl), HB_1.out⟩
    · skip
      have h0 : aat = 0 := by have := hbr rfl; omega
      subst h0
      have hal : Below V.heap.size V (V.alloc (.cells #[] 29)) := (Below.refl _ _).alloc (Nat.le_refl _) _
      have zX0 := HX_1.out.cell (j := 0) rfl
      have zX1 := HX_1.out.cell (j := 1) rfl
      have zX2 := HX_1.out.cell (j := 2) rfl
      have zX3 := HX_1.out.cell (j := 3) rfl
      have zX4 := HX_1.out.cell (j := 4) rfl
      have zX5 := HX_1.out.cell (j := 5) rfl
      have zX6 := HX_1.out.cell (j := 6) rfl
      have zX7 := HX_1.out.cell (j := 7) rfl
      have zX8 := HX_1.out.cell (j := 8) rfl
      have zX9 := HX_1.out.cell (j := 9) rfl
      have zX10 := HX_1.out.cell (j := 10) rfl
      have zX11 := HX_1.out.cell (j := 11) rfl
      have zX12 := HX_1.out.cell (j := 12) rfl
      go_wp2_with fail
      clear zX0 zX1 zX2 zX3 zX4 zX5 zX6 zX7 zX8 zX9 zX10 zX11 zX12
      refine (HRT.out _ _).mono ?_
      rintro e Wr ⟨rfl, hb⟩
      replace hb := hal.trans (hb.mono hal.size)
      have HB_2 := Lib.hid (HB_1.out.trans (hb.mono HB_1.out.size))
      have HX_2 := Lib.hid (HX_1.out.below hb HX_1.out.lt)
      clear hb hal
      by_cases hrr0 : root = r0
      · have bhrr0 : decide (root = r0) = true := decide_eq_true hrr0
        have zX0 := HX_2.out.cell (j := 0) rfl
        have zX1 := HX_2.out.cell (j := 1) rfl
        have zX2 := HX_2.out.cell (j := 2) rfl
        have zX3 := HX_2.out.cell (j := 3) rfl
        have zX4 := HX_2.out.cell (j := 4) rfl
        have zX5 := HX_2.out.cell (j := 5) rfl
        have zX6 := HX_2.out.cell (j := 6) rfl
        have zX7 := HX_2.out.cell (j := 7) rfl
        have zX8 := HX_2.out.cell (j := 8) rfl
        have zX9 := HX_2.out.cell (j := 9) rfl
        have zX10 := HX_2.out.cell (j := 10) rfl
        have zX11 := HX_2.out.cell (j := 11) rfl
        have zX12 := HX_2.out.cell (j := 12) rfl
        go_wp2_with fail
        clear zX0 zX1 zX2 zX3 zX4 zX5 zX6 zX7 zX8 zX9 zX10 zX11 zX12
        refine (HN0.out _ HB_2.out).mono ?_
        rintro e Wa ⟨rfl, hb⟩
        have HB_3 := Lib.hid (HB_2.out.trans (hb.mono HB_2.out.size))
        have HX_3 := Lib.hid (HX_2.out.below hb HX_2.out.lt)
        clear hb
        rcases e0 with _ | _
        · skip
          go_wp2
          go_ret
          exact ⟨by rw [← HRR.out]; first | rfl | (simp [hrr0]; done) | (simp [hrr0]; rfl), HB_3.out⟩
        · skip
          have zX0 := HX_3.out.cell (j := 0) rfl
          have zX1 := HX_3.out.cell (j := 1) rfl
          have zX2 := HX_3.out.cell (j := 2) rfl
          have zX3 := HX_3.out.cell (j := 3) rfl
          have zX4 := HX_3.out.cell (j := 4) rfl
          have zX5 := HX_3.out.cell (j := 5) rfl
          have zX6 := HX_3.out.cell (j := 6) rfl
          have zX7 := HX_3.out.cell (j := 7) rfl
          have zX8 := HX_3.out.cell (j := 8) rfl
          have zX9 := HX_3.out.cell (j := 9) rfl
          have zX10 := HX_3.out.cell (j := 10) rfl
          have zX11 := HX_3.out.cell (j := 11) rfl
          have zX12 := HX_3.out.cell (j := 12) rfl
          go_wp2_with fail
          clear zX0 zX1 zX2 zX3 zX4 zX5 zX6 zX7 zX8 zX9 zX10 zX11 zX12
          refine (HN1.out _ HB_3.out).mono ?_
          rintro e Wy ⟨rfl, hb⟩
          have HB_4 := Lib.hid (HB_3.out.trans (hb.mono HB_3.out.size))
          have HX_4 := Lib.hid (HX_3.out.below hb HX_3.out.lt)
          clear hb
          go_wp2
          go_ret
          exact ⟨by rw [← HRR.out]; first | rfl | (simp [hrr0]; done) | (simp [hrr0]; rfl), HB_4.out⟩
      · have bhrr0 : decide (root = r0) = false := decide_eq_false hrr0
        go_wp2
        go_ret
        exact ⟨by rw [← HRR.out]; first | rfl | (simp [hrr0]; done) | (simp [hrr0]; rfl), HB_2.out⟩
set_option maxHeartbeats 4000000 in
theorem sCheckAbsence_c1 (root count : Int) (s : ByteArray) (cs : List Value) (a : Gap) (w : World) (hr0 : In .i64 root) (hc0 : In .i64 count) (hs : s.size ≤ 1099511627776) (h : RGap.rd w (Lt w.heap.size) cs a) (hn : totGap a ≤ 1048576) (hz : count ≠ 0) (hza : a.at_ = 0) :
    Calls Tryz.prog 13 #[.int .i64 root, .int .i64 count, .string s, .agg cs.toArray] w fun e w' => e = .returned (.bool (checkG root count s a)) ∧ Below w.heap.size w w' := by
  obtain ⟨aA0, an0, ac0, aA1, an1, ac1, aA2, an2, ac2, aA3, an3, ac3, hacs, ai, ah0, ah1, ah2, ah3⟩ := RGap_rd.1 h
  unfold totGap at hn
  have HN0 := Lib.hid (fun w1 (hb : Below w.heap.size w w1) => sl12None_any _ a.before _ a.left w1 (upE ah0 hb) (upP ah2 hb) (by omega) (by omega))
  have HN1 := Lib.hid (fun w1 (hb : Below w.heap.size w w1) => sl12None_any _ a.after _ a.right w1 (upE ah1 hb) (upP ah3 hb) (by omega) (by omega))
  have HC0 := Lib.hid (fun w1 (hb : Below w.heap.size w w1) => sCheckEntry_any root count _ a.before _ a.left w1 hr0 hc0 (upE ah0 hb) (upP ah2 hb) (by omega) (by omega))
  have HC1 := Lib.hid (fun w1 (hb : Below w.heap.size w w1) => sCheckEntry_any root count _ a.after _ a.right w1 hr0 hc0 (upE ah1 hb) (upP ah3 hb) (by omega) (by omega))
  have HL := Lib.hid (fun w1 => sIsLabel_any s w1 hs)
  have HI := Lib.hid (fun w1 => C01.l1In_any a.at_ 0 count w1)
  have HRT := Lib.hid (fun A w1 => sRootOf_any A 0 0 [] w1 (Rds.nil _ _ _ _) (by simp [totR]))
  have HM0 := Lib.hid (fun w1 => sCompareLabels_any a.before.label s w1)
  have HM1 := Lib.hid (fun w1 => sCompareLabels_any a.after.label s w1)
  unfold checkG checkA
  generalize isLab s = bl at HL
  generalize hbi : inR a.at_ 0 count = bi at HI
  have hrr := hsh_rootE
  generalize rootOf [] = r0 at HRT hrr
  generalize noneE a.before a.left = e0 at HN0
  generalize noneE a.after a.right = e1 at HN1
  generalize checkE root count a.before a.left = k0 at HC0
  generalize checkE root count a.after a.right = k1 at HC1
  generalize hm0 : cmpS a.before.label s = m0 at HM0
  generalize hm1 : cmpS a.after.label s = m1 at HM1
  have hlq : In .i64 a.left.at_ := by obtain ⟨_, _, _, _, g, _⟩ := RProof_rd.1 ah2; exact g
  have hmr0 := cmpS_range a.before.label s
  have hmr1 := cmpS_range a.after.label s
  rw [hm0] at hmr0
  rw [hm1] at hmr1
  subst hacs
  have hai : -9223372036854775808 ≤ a.at_ ∧ a.at_ ≤ 9223372036854775807 := ai
  have hbr : bi = true → 0 ≤ a.at_ ∧ a.at_ ≤ count := fun e => by
    have := hbi.trans e
    unfold inR at this
    simpa using this
  clear h hn ah0 ah1 ah2 ah3 hm0 hm1 hbi
  obtain ⟨aat, ⟨al0, ak0, av0, ap0⟩, ⟨al1, ak1, av1, ap1⟩, ⟨aq2, ap2⟩, ⟨aq3, ap3⟩⟩ := a
  simp only at HN0 HN1 HC0 HC1 HI HM0 HM1 hai hlq hbr hza ⊢
  obtain ⟨r, hr⟩ : ∃ r : Bool, (if bl && bi && !(decide (count = 0) && decide (root ≠ r0)) then (if aat = 0 then e0 else k0 && decide (aq2 = aat - 1) && decide (m0 = -1)) && (if aat = count then e1 else k1 && decide (aq3 = aat) && decide (m1 = 1)) else false) = r := ⟨_, rfl⟩
  rw [hr]
  have HRR := Lib.hid hr
  clear hr
  subst hza
  have hcz : ¬ count = 0 := hz
  have bcz : decide (count = 0) = false := decide_eq_false hcz
  obtain ⟨V, hV⟩ : ∃ V, V = w.alloc (.cells #[.int .i64 0, .string al0, .int .i64 ak0, .int .i64 av0, .slice aA0 an0 ac0, .string al1, .int .i64 ak1, .int .i64 av1, .slice aA1 an1 ac1, .int .i64 aq2, .slice aA2 an2 ac2, .int .i64 aq3, .slice aA3 an3 ac3] 34) := ⟨_, rfl⟩
  have HB_1 := Lib.hid (show Below w.heap.size w V from by rw [hV]; exact (Below.refl _ _).alloc (Nat.le_refl _) _)
  have HX_1 := Lib.hid (show Box V w.heap.size [.int .i64 0, .string al0, .int .i64 ak0, .int .i64 av0, .slice aA0 an0 ac0, .string al1, .int .i64 ak1, .int .i64 av1, .slice aA1 an1 ac1, .int .i64 aq2, .slice aA2 an2 ac2, .int .i64 aq3, .slice aA3 an3 ac3] from by
    rw [hV]
    exact Box.new w #[.int .i64 0, .string al0, .int .i64 ak0, .int .i64 av0, .slice aA0 an0 ac0, .string al1, .int .i64 ak1, .int .i64 av1, .slice aA1 an1 ac1, .int .i64 aq2, .slice aA2 an2 ac2, .int .i64 aq3, .slice aA3 an3 ac3] 34)
  have HV := Lib.hid hV
  clear hV
  go_enter Tryz.func13, Tryz.ntmps13
  go_wp2_with fail
  rw [show w.alloc (.cells #[.int .i64 0, .string al0, .int .i64 ak0, .int .i64 av0, .slice aA0 an0 ac0, .string al1, .int .i64 ak1, .int .i64 av1, .slice aA1 an1 ac1, .int .i64 aq2, .slice aA2 an2 ac2, .int .i64 aq3, .slice aA3 an3 ac3] 34) = V from HV.out.symm]
  refine (HL.out _).mono ?_
  rintro e wq ⟨rfl, rfl⟩
  rcases bl with _ | _
  · skip
    go_wp2
    go_ret
    exact ⟨by rw [← HRR.out]; first | rfl | (simp [hcz, hac]; done) | (simp [hcz, hac]; rfl), HB_1.out⟩
  · skip
    have zX0 := HX_1.out.cell (j := 0) rfl
    have zX1 := HX_1.out.cell (j := 1) rfl
    have zX2 := HX_1.out.cell (j := 2) rfl
    have zX3 := HX_1.out.cell (j := 3) rfl
    have zX4 := HX_1.out.cell (j := 4) rfl
    have zX5 := HX_1.out.cell (j := 5) rfl
    have zX6 := HX_1.out.cell (j := 6) rfl
    have zX7 := HX_1.out.cell (j := 7) rfl
    have zX8 := HX_1.out.cell (j := 8) rfl
    have zX9 := HX_1.out.cell (j := 9) rfl
    have zX10 := HX_1.out.cell (j := 10) rfl
    have zX11 := HX_1.out.cell (j := 11) rfl
    have zX12 := HX_1.out.cell (j := 12) rfl
    go_wp2_with fail
    clear zX0 zX1 zX2 zX3 zX4 zX5 zX6 zX7 zX8 zX9 zX10 zX11 zX12
    refine (HI.out _).mono ?_
    rintro e wq ⟨rfl, rfl⟩
    rcases bi with _ | _
    · skip
      go_wp2
      go_ret
      exact ⟨by rw [← HRR.out]; first | rfl | (simp [hcz, hac]; done) | (simp [hcz, hac]; rfl), HB_1.out⟩
    · skip
      have hac : ¬ (0 : Int) = count := by omega
      have bhac : decide ((0 : Int) = count) = false := decide_eq_false hac
      have zX0 := HX_1.out.cell (j := 0) rfl
      have zX1 := HX_1.out.cell (j := 1) rfl
      have zX2 := HX_1.out.cell (j := 2) rfl
      have zX3 := HX_1.out.cell (j := 3) rfl
      have zX4 := HX_1.out.cell (j := 4) rfl
      have zX5 := HX_1.out.cell (j := 5) rfl
      have zX6 := HX_1.out.cell (j := 6) rfl
      have zX7 := HX_1.out.cell (j := 7) rfl
      have zX8 := HX_1.out.cell (j := 8) rfl
      have zX9 := HX_1.out.cell (j := 9) rfl
      have zX10 := HX_1.out.cell (j := 10) rfl
      have zX11 := HX_1.out.cell (j := 11) rfl
      have zX12 := HX_1.out.cell (j := 12) rfl
      go_wp2_with fail
      clear zX0 zX1 zX2 zX3 zX4 zX5 zX6 zX7 zX8 zX9 zX10 zX11 zX12
      refine (HN0.out _ HB_1.out).mono ?_
      rintro e Wa ⟨rfl, hb⟩
      have HB_2 := Lib.hid (HB_1.out.trans (hb.mono HB_1.out.size))
      have HX_2 := Lib.hid (HX_1.out.below hb HX_1.out.lt)
      clear hb
      rcases e0 with _ | _
      · skip
        go_wp2
        go_ret
        exact ⟨by rw [← HRR.out]; first | rfl | (simp [hcz, hac]; done) | (simp [hcz, hac]; rfl), HB_2.out⟩
      · skip
        have zX0 := HX_2.out.cell (j := 0) rfl
        have zX1 := HX_2.out.cell (j := 1) rfl
        have zX2 := HX_2.out.cell (j := 2) rfl
        have zX3 := HX_2.out.cell (j := 3) rfl
        have zX4 := HX_2.out.cell (j := 4) rfl
        have zX5 := HX_2.out.cell (j := 5) rfl
        have zX6 := HX_2.out.cell (j := 6) rfl
        have zX7 := HX_2.out.cell (j := 7) rfl
        have zX8 := HX_2.out.cell (j := 8) rfl
        have zX9 := HX_2.out.cell (j := 9) rfl
        have zX10 := HX_2.out.cell (j := 10) rfl
        have zX11 := HX_2.out.cell (j := 11) rfl
        have zX12 := HX_2.out.cell (j := 12) rfl
        go_wp2_with fail
        clear zX0 zX1 zX2 zX3 zX4 zX5 zX6 zX7 zX8 zX9 zX10 zX11 zX12
        refine (HC1.out _ HB_2.out).mono ?_
        rintro e Wn ⟨rfl, hb⟩
        have HB_3 := Lib.hid (HB_2.out.trans (hb.mono HB_2.out.size))
        have HX_3 := Lib.hid (HX_2.out.below hb HX_2.out.lt)
        clear hb
        rcases k1 with _ | _
        · skip
          go_wp2
          go_ret
          exact ⟨by rw [← HRR.out]; first | rfl | (simp [hcz, hac]; done) | (simp [hcz, hac]; rfl), HB_3.out⟩
        · skip
          by_cases hq3 : aq3 = 0
          · have bhq3 : decide (aq3 = 0) = true := decide_eq_true hq3
            have zX0 := HX_3.out.cell (j := 0) rfl
            have zX1 := HX_3.out.cell (j := 1) rfl
            have zX2 := HX_3.out.cell (j := 2) rfl
            have zX3 := HX_3.out.cell (j := 3) rfl
            have zX4 := HX_3.out.cell (j := 4) rfl
            have zX5 := HX_3.out.cell (j := 5) rfl
            have zX6 := HX_3.out.cell (j := 6) rfl
            have zX7 := HX_3.out.cell (j := 7) rfl
            have zX8 := HX_3.out.cell (j := 8) rfl
            have zX9 := HX_3.out.cell (j := 9) rfl
            have zX10 := HX_3.out.cell (j := 10) rfl
            have zX11 := HX_3.out.cell (j := 11) rfl
            have zX12 := HX_3.out.cell (j := 12) rfl
            go_wp2_with fail
            clear zX0 zX1 zX2 zX3 zX4 zX5 zX6 zX7 zX8 zX9 zX10 zX11 zX12
            refine (HM1.out _).mono ?_
            rintro e wq ⟨rfl, rfl⟩
            go_wp2
            go_ret
            exact ⟨by rw [← HRR.out]; first | rfl | (simp [hcz, hac, hq3]; done) | (simp [hcz, hac, hq3]; rfl), HB_3.out⟩
          · have bhq3 : decide (aq3 = 0) = false := decide_eq_false hq3
            have zX0 := HX_3.out.cell (j := 0) rfl
            have zX1 := HX_3.out.cell (j := 1) rfl
            have zX2 := HX_3.out.cell (j := 2) rfl
            have zX3 := HX_3.out.cell (j := 3) rfl
            have zX4 := HX_3.out.cell (j := 4) rfl
            have zX5 := HX_3.out.cell (j := 5) rfl
            have zX6 := HX_3.out.cell (j := 6) rfl
            have zX7 := HX_3.out.cell (j := 7) rfl
            have zX8 := HX_3.out.cell (j := 8) rfl
            have zX9 := HX_3.out.cell (j := 9) rfl
            have zX10 := HX_3.out.cell (j := 10) rfl
            have zX11 := HX_3.out.cell (j := 11) rfl
            have zX12 := HX_3.out.cell (j := 12) rfl
            go_wp2
            go_ret
            exact ⟨by rw [← HRR.out]; first | rfl | (simp [hcz, hac, hq3]; done) | (simp [hcz, hac, hq3]; rfl), HB_3.out⟩
set_option maxHeartbeats 4000000 in
theorem sCheckAbsence_c2 (root count : Int) (s : ByteArray) (cs : List Value) (a : Gap) (w : World) (hr0 : In .i64 root) (hc0 : In .i64 count) (hs : s.size ≤ 1099511627776) (h : RGap.rd w (Lt w.heap.size) cs a) (hn : totGap a ≤ 1048576) (hz : count ≠ 0) (hza : a.at_ ≠ 0) :
    Calls Tryz.prog 13 #[.int .i64 root, .int .i64 count, .string s, .agg cs.toArray] w fun e w' => e = .returned (.bool (checkG root count s a)) ∧ Below w.heap.size w w' := by
  obtain ⟨aA0, an0, ac0, aA1, an1, ac1, aA2, an2, ac2, aA3, an3, ac3, hacs, ai, ah0, ah1, ah2, ah3⟩ := RGap_rd.1 h
  unfold totGap at hn
  have HN0 := Lib.hid (fun w1 (hb : Below w.heap.size w w1) => sl12None_any _ a.before _ a.left w1 (upE ah0 hb) (upP ah2 hb) (by omega) (by omega))
  have HN1 := Lib.hid (fun w1 (hb : Below w.heap.size w w1) => sl12None_any _ a.after _ a.right w1 (upE ah1 hb) (upP ah3 hb) (by omega) (by omega))
  have HC0 := Lib.hid (fun w1 (hb : Below w.heap.size w w1) => sCheckEntry_any root count _ a.before _ a.left w1 hr0 hc0 (upE ah0 hb) (upP ah2 hb) (by omega) (by omega))
  have HC1 := Lib.hid (fun w1 (hb : Below w.heap.size w w1) => sCheckEntry_any root count _ a.after _ a.right w1 hr0 hc0 (upE ah1 hb) (upP ah3 hb) (by omega) (by omega))
  have HL := Lib.hid (fun w1 => sIsLabel_any s w1 hs)
  have HI := Lib.hid (fun w1 => C01.l1In_any a.at_ 0 count w1)
  have HRT := Lib.hid (fun A w1 => sRootOf_any A 0 0 [] w1 (Rds.nil _ _ _ _) (by simp [totR]))
  have HM0 := Lib.hid (fun w1 => sCompareLabels_any a.before.label s w1)
  have HM1 := Lib.hid (fun w1 => sCompareLabels_any a.after.label s w1)
  unfold checkG checkA
  generalize isLab s = bl at HL
  generalize hbi : inR a.at_ 0 count = bi at HI
  have hrr := hsh_rootE
  generalize rootOf [] = r0 at HRT hrr
  generalize noneE a.before a.left = e0 at HN0
  generalize noneE a.after a.right = e1 at HN1
  generalize checkE root count a.before a.left = k0 at HC0
  generalize checkE root count a.after a.right = k1 at HC1
  generalize hm0 : cmpS a.before.label s = m0 at HM0
  generalize hm1 : cmpS a.after.label s = m1 at HM1
  have hlq : In .i64 a.left.at_ := by obtain ⟨_, _, _, _, g, _⟩ := RProof_rd.1 ah2; exact g
  have hmr0 := cmpS_range a.before.label s
  have hmr1 := cmpS_range a.after.label s
  rw [hm0] at hmr0
  rw [hm1] at hmr1
  subst hacs
  have hai : -9223372036854775808 ≤ a.at_ ∧ a.at_ ≤ 9223372036854775807 := ai
  have hbr : bi = true → 0 ≤ a.at_ ∧ a.at_ ≤ count := fun e => by
    have := hbi.trans e
    unfold inR at this
    simpa using this
  clear h hn ah0 ah1 ah2 ah3 hm0 hm1 hbi
  obtain ⟨aat, ⟨al0, ak0, av0, ap0⟩, ⟨al1, ak1, av1, ap1⟩, ⟨aq2, ap2⟩, ⟨aq3, ap3⟩⟩ := a
  simp only at HN0 HN1 HC0 HC1 HI HM0 HM1 hai hlq hbr hza ⊢
  obtain ⟨r, hr⟩ : ∃ r : Bool, (if bl && bi && !(decide (count = 0) && decide (root ≠ r0)) then (if aat = 0 then e0 else k0 && decide (aq2 = aat - 1) && decide (m0 = -1)) && (if aat = count then e1 else k1 && decide (aq3 = aat) && decide (m1 = 1)) else false) = r := ⟨_, rfl⟩
  rw [hr]
  have HRR := Lib.hid hr
  clear hr
  have hcz : ¬ count = 0 := hz
  have bcz : decide (count = 0) = false := decide_eq_false hcz
  have ha0 : ¬ aat = 0 := hza
  have bha0 : decide (aat = 0) = false := decide_eq_false ha0
  obtain ⟨V, hV⟩ : ∃ V, V = w.alloc (.cells #[.int .i64 aat, .string al0, .int .i64 ak0, .int .i64 av0, .slice aA0 an0 ac0, .string al1, .int .i64 ak1, .int .i64 av1, .slice aA1 an1 ac1, .int .i64 aq2, .slice aA2 an2 ac2, .int .i64 aq3, .slice aA3 an3 ac3] 34) := ⟨_, rfl⟩
  have HB_1 := Lib.hid (show Below w.heap.size w V from by rw [hV]; exact (Below.refl _ _).alloc (Nat.le_refl _) _)
  have HX_1 := Lib.hid (show Box V w.heap.size [.int .i64 aat, .string al0, .int .i64 ak0, .int .i64 av0, .slice aA0 an0 ac0, .string al1, .int .i64 ak1, .int .i64 av1, .slice aA1 an1 ac1, .int .i64 aq2, .slice aA2 an2 ac2, .int .i64 aq3, .slice aA3 an3 ac3] from by
    rw [hV]
    exact Box.new w #[.int .i64 aat, .string al0, .int .i64 ak0, .int .i64 av0, .slice aA0 an0 ac0, .string al1, .int .i64 ak1, .int .i64 av1, .slice aA1 an1 ac1, .int .i64 aq2, .slice aA2 an2 ac2, .int .i64 aq3, .slice aA3 an3 ac3] 34)
  have HV := Lib.hid hV
  clear hV
  go_enter Tryz.func13, Tryz.ntmps13
  go_wp2_with fail
  rw [show w.alloc (.cells #[.int .i64 aat, .string al0, .int .i64 ak0, .int .i64 av0, .slice aA0 an0 ac0, .string al1, .int .i64 ak1, .int .i64 av1, .slice aA1 an1 ac1, .int .i64 aq2, .slice aA2 an2 ac2, .int .i64 aq3, .slice aA3 an3 ac3] 34) = V from HV.out.symm]
  refine (HL.out _).mono ?_
  rintro e wq ⟨rfl, rfl⟩
  rcases bl with _ | _
  · skip
    go_wp2
    go_ret
    exact ⟨by rw [← HRR.out]; first | rfl | (simp [hcz, ha0]; done) | (simp [hcz, ha0]; rfl), HB_1.out⟩
  · skip
    have zX0 := HX_1.out.cell (j := 0) rfl
    have zX1 := HX_1.out.cell (j := 1) rfl
    have zX2 := HX_1.out.cell (j := 2) rfl
    have zX3 := HX_1.out.cell (j := 3) rfl
    have zX4 := HX_1.out.cell (j := 4) rfl
    have zX5 := HX_1.out.cell (j := 5) rfl
    have zX6 := HX_1.out.cell (j := 6) rfl
    have zX7 := HX_1.out.cell (j := 7) rfl
    have zX8 := HX_1.out.cell (j := 8) rfl
    have zX9 := HX_1.out.cell (j := 9) rfl
    have zX10 := HX_1.out.cell (j := 10) rfl
    have zX11 := HX_1.out.cell (j := 11) rfl
    have zX12 := HX_1.out.cell (j := 12) rfl
    go_wp2_with fail
    clear zX0 zX1 zX2 zX3 zX4 zX5 zX6 zX7 zX8 zX9 zX10 zX11 zX12
    refine (HI.out _).mono ?_
    rintro e wq ⟨rfl, rfl⟩
    rcases bi with _ | _
    · skip
      go_wp2
      go_ret
      exact ⟨by rw [← HRR.out]; first | rfl | (simp [hcz, ha0]; done) | (simp [hcz, ha0]; rfl), HB_1.out⟩
    · skip
      have ha1 : 1 ≤ aat := by have := hbr rfl; omega
      have ha2 : aat ≤ count := by have := hbr rfl; omega
      have zX0 := HX_1.out.cell (j := 0) rfl
      have zX1 := HX_1.out.cell (j := 1) rfl
      have zX2 := HX_1.out.cell (j := 2) rfl
      have zX3 := HX_1.out.cell (j := 3) rfl
      have zX4 := HX_1.out.cell (j := 4) rfl
      have zX5 := HX_1.out.cell (j := 5) rfl
      have zX6 := HX_1.out.cell (j := 6) rfl
      have zX7 := HX_1.out.cell (j := 7) rfl
      have zX8 := HX_1.out.cell (j := 8) rfl
      have zX9 := HX_1.out.cell (j := 9) rfl
      have zX10 := HX_1.out.cell (j := 10) rfl
      have zX11 := HX_1.out.cell (j := 11) rfl
      have zX12 := HX_1.out.cell (j := 12) rfl
      go_wp2_with fail
      clear zX0 zX1 zX2 zX3 zX4 zX5 zX6 zX7 zX8 zX9 zX10 zX11 zX12
      refine (HC0.out _ HB_1.out).mono ?_
      rintro e Wb ⟨rfl, hb⟩
      have HB_2 := Lib.hid (HB_1.out.trans (hb.mono HB_1.out.size))
      have HX_2 := Lib.hid (HX_1.out.below hb HX_1.out.lt)
      clear hb
      rcases k0 with _ | _
      · skip
        go_wp2
        go_ret
        exact ⟨by rw [← HRR.out]; first | rfl | (simp [hcz, ha0]; done) | (simp [hcz, ha0]; rfl), HB_2.out⟩
      · skip
        by_cases hq2 : aq2 = aat - 1
        · have bhq2 : decide (aq2 = aat - 1) = true := decide_eq_true hq2
          have zX0 := HX_2.out.cell (j := 0) rfl
          have zX1 := HX_2.out.cell (j := 1) rfl
          have zX2 := HX_2.out.cell (j := 2) rfl
          have zX3 := HX_2.out.cell (j := 3) rfl
          have zX4 := HX_2.out.cell (j := 4) rfl
          have zX5 := HX_2.out.cell (j := 5) rfl
          have zX6 := HX_2.out.cell (j := 6) rfl
          have zX7 := HX_2.out.cell (j := 7) rfl
          have zX8 := HX_2.out.cell (j := 8) rfl
          have zX9 := HX_2.out.cell (j := 9) rfl
          have zX10 := HX_2.out.cell (j := 10) rfl
          have zX11 := HX_2.out.cell (j := 11) rfl
          have zX12 := HX_2.out.cell (j := 12) rfl
          go_wp2_with fail
          clear zX0 zX1 zX2 zX3 zX4 zX5 zX6 zX7 zX8 zX9 zX10 zX11 zX12
          refine (HM0.out _).mono ?_
          rintro e wq ⟨rfl, rfl⟩
          by_cases hq0 : m0 = -1
          · have bhq0 : decide (m0 = -1) = true := decide_eq_true hq0
            by_cases hac : aat = count
            · have bhac : decide (aat = count) = true := decide_eq_true hac
              have zX0 := HX_2.out.cell (j := 0) rfl
              have zX1 := HX_2.out.cell (j := 1) rfl
              have zX2 := HX_2.out.cell (j := 2) rfl
              have zX3 := HX_2.out.cell (j := 3) rfl
              have zX4 := HX_2.out.cell (j := 4) rfl
              have zX5 := HX_2.out.cell (j := 5) rfl
              have zX6 := HX_2.out.cell (j := 6) rfl
              have zX7 := HX_2.out.cell (j := 7) rfl
              have zX8 := HX_2.out.cell (j := 8) rfl
              have zX9 := HX_2.out.cell (j := 9) rfl
              have zX10 := HX_2.out.cell (j := 10) rfl
              have zX11 := HX_2.out.cell (j := 11) rfl
              have zX12 := HX_2.out.cell (j := 12) rfl
              go_wp2_with fail
              clear zX0 zX1 zX2 zX3 zX4 zX5 zX6 zX7 zX8 zX9 zX10 zX11 zX12
              refine (HN1.out _ HB_2.out).mono ?_
              rintro e Wy ⟨rfl, hb⟩
              have HB_3 := Lib.hid (HB_2.out.trans (hb.mono HB_2.out.size))
              have HX_3 := Lib.hid (HX_2.out.below hb HX_2.out.lt)
              clear hb
              go_wp2
              go_ret
              exact ⟨by rw [← HRR.out]; first | rfl | (simp [hcz, ha0, hq2, hq0, hac]; done) | (simp [hcz, ha0, hq2, hq0, hac]; rfl), HB_3.out⟩
            · have bhac : decide (aat = count) = false := decide_eq_false hac
              have zX0 := HX_2.out.cell (j := 0) rfl
              have zX1 := HX_2.out.cell (j := 1) rfl
              have zX2 := HX_2.out.cell (j := 2) rfl
              have zX3 := HX_2.out.cell (j := 3) rfl
              have zX4 := HX_2.out.cell (j := 4) rfl
              have zX5 := HX_2.out.cell (j := 5) rfl
              have zX6 := HX_2.out.cell (j := 6) rfl
              have zX7 := HX_2.out.cell (j := 7) rfl
              have zX8 := HX_2.out.cell (j := 8) rfl
              have zX9 := HX_2.out.cell (j := 9) rfl
              have zX10 := HX_2.out.cell (j := 10) rfl
              have zX11 := HX_2.out.cell (j := 11) rfl
              have zX12 := HX_2.out.cell (j := 12) rfl
              go_wp2_with fail
              clear zX0 zX1 zX2 zX3 zX4 zX5 zX6 zX7 zX8 zX9 zX10 zX11 zX12
              refine (HC1.out _ HB_2.out).mono ?_
              rintro e Wn ⟨rfl, hb⟩
              have HB_3 := Lib.hid (HB_2.out.trans (hb.mono HB_2.out.size))
              have HX_3 := Lib.hid (HX_2.out.below hb HX_2.out.lt)
              clear hb
              rcases k1 with _ | _
              · skip
                go_wp2
                go_ret
                exact ⟨by rw [← HRR.out]; first | rfl | (simp [hcz, ha0, hq2, hq0, hac]; done) | (simp [hcz, ha0, hq2, hq0, hac]; rfl), HB_3.out⟩
              · skip
                by_cases hq3 : aq3 = aat
                · have bhq3 : decide (aq3 = aat) = true := decide_eq_true hq3
                  have zX0 := HX_3.out.cell (j := 0) rfl
                  have zX1 := HX_3.out.cell (j := 1) rfl
                  have zX2 := HX_3.out.cell (j := 2) rfl
                  have zX3 := HX_3.out.cell (j := 3) rfl
                  have zX4 := HX_3.out.cell (j := 4) rfl
                  have zX5 := HX_3.out.cell (j := 5) rfl
                  have zX6 := HX_3.out.cell (j := 6) rfl
                  have zX7 := HX_3.out.cell (j := 7) rfl
                  have zX8 := HX_3.out.cell (j := 8) rfl
                  have zX9 := HX_3.out.cell (j := 9) rfl
                  have zX10 := HX_3.out.cell (j := 10) rfl
                  have zX11 := HX_3.out.cell (j := 11) rfl
                  have zX12 := HX_3.out.cell (j := 12) rfl
                  go_wp2_with fail
                  clear zX0 zX1 zX2 zX3 zX4 zX5 zX6 zX7 zX8 zX9 zX10 zX11 zX12
                  refine (HM1.out _).mono ?_
                  rintro e wq ⟨rfl, rfl⟩
                  go_wp2
                  go_ret
                  exact ⟨by rw [← HRR.out]; first | rfl | (simp [hcz, ha0, hq2, hq0, hac, hq3]; done) | (simp [hcz, ha0, hq2, hq0, hac, hq3]; rfl), HB_3.out⟩
                · have bhq3 : decide (aq3 = aat) = false := decide_eq_false hq3
                  have zX0 := HX_3.out.cell (j := 0) rfl
                  have zX1 := HX_3.out.cell (j := 1) rfl
                  have zX2 := HX_3.out.cell (j := 2) rfl
                  have zX3 := HX_3.out.cell (j := 3) rfl
                  have zX4 := HX_3.out.cell (j := 4) rfl
                  have zX5 := HX_3.out.cell (j := 5) rfl
                  have zX6 := HX_3.out.cell (j := 6) rfl
                  have zX7 := HX_3.out.cell (j := 7) rfl
                  have zX8 := HX_3.out.cell (j := 8) rfl
                  have zX9 := HX_3.out.cell (j := 9) rfl
                  have zX10 := HX_3.out.cell (j := 10) rfl
                  have zX11 := HX_3.out.cell (j := 11) rfl
                  have zX12 := HX_3.out.cell (j := 12) rfl
                  go_wp2
                  go_ret
                  exact ⟨by rw [← HRR.out]; first | rfl | (simp [hcz, ha0, hq2, hq0, hac, hq3]; done) | (simp [hcz, ha0, hq2, hq0, hac, hq3]; rfl), HB_3.out⟩
          · have bhq0 : decide (m0 = -1) = false := decide_eq_false hq0
            go_wp2
            go_ret
            exact ⟨by rw [← HRR.out]; first | rfl | (simp [hcz, ha0, hq2, hq0]; done) | (simp [hcz, ha0, hq2, hq0]; rfl), HB_2.out⟩
        · have bhq2 : decide (aq2 = aat - 1) = false := decide_eq_false hq2
          have zX0 := HX_2.out.cell (j := 0) rfl
          have zX1 := HX_2.out.cell (j := 1) rfl
          have zX2 := HX_2.out.cell (j := 2) rfl
          have zX3 := HX_2.out.cell (j := 3) rfl
          have zX4 := HX_2.out.cell (j := 4) rfl
          have zX5 := HX_2.out.cell (j := 5) rfl
          have zX6 := HX_2.out.cell (j := 6) rfl
          have zX7 := HX_2.out.cell (j := 7) rfl
          have zX8 := HX_2.out.cell (j := 8) rfl
          have zX9 := HX_2.out.cell (j := 9) rfl
          have zX10 := HX_2.out.cell (j := 10) rfl
          have zX11 := HX_2.out.cell (j := 11) rfl
          have zX12 := HX_2.out.cell (j := 12) rfl
          go_wp2
          go_ret
          exact ⟨by rw [← HRR.out]; first | rfl | (simp [hcz, ha0, hq2]; done) | (simp [hcz, ha0, hq2]; rfl), HB_2.out⟩
theorem sCheckAbsence_any (root count : Int) (s : ByteArray) (cs : List Value) (a : Gap) (w : World) (hr0 : In .i64 root) (hc0 : In .i64 count) (hs : s.size ≤ 1099511627776) (h : RGap.rd w (Lt w.heap.size) cs a) (hn : totGap a ≤ 1048576) :
    Calls Tryz.prog 13 #[.int .i64 root, .int .i64 count, .string s, .agg cs.toArray] w fun e w' => e = .returned (.bool (checkG root count s a)) ∧ Below w.heap.size w w' := by
  by_cases hz : count = 0
  · exact sCheckAbsence_c0 root count s cs a w hr0 hc0 hs h hn hz
  · by_cases hza : a.at_ = 0
    · exact sCheckAbsence_c1 root count s cs a w hr0 hc0 hs h hn hz hza
    · exact sCheckAbsence_c2 root count s cs a w hr0 hc0 hs h hn hz hza
end Go.Proofs.YtbhhifoofapgiaaGreat.C12S
