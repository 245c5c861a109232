/- Chapter 12: what the program's ProveAbsence returns. -/
import Derived.Test.YtbhhifoofapgiaaGreatC12I
import Derived.Test.YtbhhifoofapgiaaGreatC12SP
namespace Go.Proofs.YtbhhifoofapgiaaGreat.C12IP
open Go.RowKit Mem MemS M02 M03 M04 M05 M08 M09 M10 M10F M11 M12P M12 C01 C02 C03S C03H C03D C04I C05S C08I C09I C10I C11I C12I Rep RW R08 Q08 R11 R12 RKA BX
open C12SP (elem zero_ownE zero_ownP zero_ownG)
set_option linter.unusedVariables false
set_option linter.unusedSimpArgs false
set_option maxRecDepth 100000
set_option maxHeartbeats 4000000 in
theorem ineighbourAt_any (A : Option Addr) (n c : Nat) (l : List Entry) (i : Int) (z : Entry) (p : Proof) (w : World) (h : FRdEntry w w.heap.size A n l) (hn : totR totEntry l ≤ 1048576)
    (hz : (inR i 0 ((n : Int) - 1) = false ∧ z = zeroE ∧ p = zeroP) ∨ (∃ K : Nat, i = K ∧ K < n ∧ z = at0 l K ∧ p = (proveE l (at0 l K).label).1)) :
    Calls Tryz.prog 19 #[.slice A n c, .int .i64 i] w fun e w' => ∃ (X : Option Addr) (m q : Nat) (Y : Option Addr) (d r mid : Nat), e = .returned (.agg #[.string z.label, .int .i64 z.kind, .int .i64 z.value, .slice X m q, .int .i64 p.at_, .slice Y d r]) ∧ OwnI REntry w' mid w'.heap.size [.string z.label, .int .i64 z.kind, .int .i64 z.value, .slice X m q] z ∧ OwnI RProof w' w.heap.size mid [.int .i64 p.at_, .slice Y d r] p ∧ w.heap.size ≤ mid ∧ mid ≤ w'.heap.size ∧ Below w.heap.size w w' := by
  have hl := h.len
  have hn2 : n ≤ 1048576 := by have := totR_len totEntry l; omega
  have HI := Lib.hid (fun w1 => inRange_any i 0 ((n : Int) - 1) w1)
  rcases hz with ⟨hi, rfl, rfl⟩ | ⟨K, rfl, hKn, hzz, hpp⟩
  · rw [hi] at HI
    clear h hn hl hi
    go_enter Tryz.func19, Tryz.ntmps19
    go_wp2_with fail
    refine (HI.out _).mono ?_
    rintro e w1 ⟨rfl, rfl⟩
    go_wp2
    refine bodyPost_ret (v := .agg #[.string ⟨#[]⟩, .int .i64 0, .int .i64 0, .slice none 0 0, .int .i64 0, .slice none 0 0]) (by simp [results, Tryz.results19, go_sem]) rfl ⟨none, 0, 0, none, 0, 0, w.heap.size, rfl, ?_, zero_ownP _ _, Nat.le_refl _, ?_, ?_⟩
    · exact (zero_ownE _ w.heap.size).wide (Nat.le_refl _) (by simp)
    · simp
    · repeat' refine Below.setCell ?_ ?_ _
      all_goals first | exact (Below.refl _ _).alloc (by simp) _ | (simp; done) | (simp; omega)
  · have hin : inR (K : Int) 0 ((n : Int) - 1) = true := by unfold inR; simp; omega
    rw [hin] at HI
    obtain ⟨b, off, A5, n5, c5, rfl, hlt, d0, d1, d2, d3, hrd, htz⟩ := elem h hn hKn
    rw [← hzz] at d0 d1 d2 hrd htz hpp
    have HP := Lib.hid (fun w1 (hb : Below w.heap.size w w1) => iProveEntry_any (some ⟨b, off, none⟩) n c l z.label w1 (fup h hb) hn)
    have HC := Lib.hid (fun w1 (hb : Below w.heap.size w w1) => icopyEntry_any _ z w1 (upE hrd hb) (by omega))
    generalize proveE l z.label = pr at HP hpp
    obtain ⟨p0, ok⟩ := pr
    simp only at HP hpp
    subst hpp
    have HD0 := Lib.hid d0
    have HD1 := Lib.hid d1
    have HD2 := Lib.hid d2
    have HD3 := Lib.hid d3
    have hKI : (K : Int) < n := by omega
    clear h hn hl d0 d1 d2 d3 hrd htz hzz hin
    obtain ⟨V, hV⟩ : ∃ V, V = w.alloc (.cells #[.string ⟨#[]⟩, .int .i64 0, .int .i64 0, .slice none 0 0, .int .i64 0, .slice none 0 0] 47) := ⟨_, rfl⟩
    have HB_1 := Lib.hid (show Below w.heap.size w V from by
      rw [hV]
      exact (Below.refl _ _).alloc (by first | (simp; done) | (simp; omega)) _)
    have HR_1 := Lib.hid (show Box V (w.heap.size) [.string ⟨#[]⟩, .int .i64 0, .int .i64 0, .slice none 0 0, .int .i64 0, .slice none 0 0] from by
      rw [hV]
      have := (Box.new w #[.string ⟨#[]⟩, .int .i64 0, .int .i64 0, .slice none 0 0, .int .i64 0, .slice none 0 0] 47)
      simpa using this)
    have HV := Lib.hid hV
    clear hV
    go_enter Tryz.func19, Tryz.ntmps19
    go_wp2_with fail
    rw [show w.alloc (.cells #[.string ⟨#[]⟩, .int .i64 0, .int .i64 0, .slice none 0 0, .int .i64 0, .slice none 0 0] 47) = V from HV.out.symm]
    refine (HI.out _).mono ?_
    rintro e w1 ⟨rfl, rfl⟩
    have c0 : V.cell? ⟨b, off + K * 4, none⟩ = some (.string z.label) := (HB_1.out.cell (p := ⟨b, off + K * 4, none⟩) hlt).trans HD0.out
    go_wp2_with fail
    clear c0
    refine (HP.out _ HB_1.out).mono ?_
    rintro e W1 ⟨cs1, rfl, ho, hb⟩
    obtain ⟨Y, d, r, rfl⟩ := RProof_shape ho.rd
    have HB_2 := Lib.hid (HB_1.out.trans (hb.mono HB_1.out.size))
    have HR_2 := Lib.hid (HR_1.out.below hb HR_1.out.lt)
    have HS1 := Lib.hid (show V.heap.size ≤ W1.heap.size from hb.size)
    have HSV := Lib.hid (show w.heap.size ≤ V.heap.size from HB_1.out.size)
    have hwV : w.heap.size < V.heap.size := HR_1.out.lt
    have HE1_2 := Lib.hid (show OwnI RProof W1 (V.heap.size) (W1.heap.size) [.int .i64 p.at_, .slice Y d r] p ∧ (W1.heap.size) ≤ W1.heap.size ∧ (w.heap.size + 1) ≤ (V.heap.size) from ⟨ho, Nat.le_refl _, hwV⟩)
    clear hb ho
    have hal : Below W1.heap.size W1 (W1.alloc (.cells #[.int .i64 p.at_, .slice Y d r] 32)) := (Below.refl _ _).alloc (Nat.le_refl _) _
    have HB_3 := Lib.hid (HB_2.out.trans (hal.mono HB_2.out.size))
    have HR_3 := Lib.hid (HR_2.out.below hal HR_2.out.lt)
    have HE1_3 := Lib.hid (show OwnI RProof (W1.alloc (.cells #[.int .i64 p.at_, .slice Y d r] 32)) (V.heap.size) (W1.heap.size) [.int .i64 p.at_, .slice Y d r] p ∧ (W1.heap.size) ≤ (W1.alloc (.cells #[.int .i64 p.at_, .slice Y d r] 32)).heap.size ∧ (w.heap.size + 1) ≤ (V.heap.size) from ⟨HE1_2.out.1.below hal HE1_2.out.2.1, Nat.le_trans HE1_2.out.2.1 hal.size, HE1_2.out.2.2⟩)
    have HP_3 := Lib.hid (show Box (W1.alloc (.cells #[.int .i64 p.at_, .slice Y d r] 32)) (W1.heap.size) [.int .i64 p.at_, .slice Y d r] from Box.new W1 #[.int .i64 p.at_, .slice Y d r] 32)
    obtain ⟨V2, hV2⟩ : ∃ V, W1.alloc (.cells #[.int .i64 p.at_, .slice Y d r] 32) = V := ⟨_, rfl⟩
    rw [hV2] at HB_3 HR_3 HE1_3 HP_3
    have HV2 := Lib.hid hV2
    clear hal
    have HS2 := Lib.hid (show W1.heap.size ≤ V2.heap.size from Nat.le_of_lt HP_3.out.lt)
    clear hV2
    have hwW : w.heap.size < W1.heap.size := Nat.lt_of_lt_of_le hwV HS1.out
    have hbW : b < W1.heap.size := by omega
    have n1 : b ≠ w.heap.size := by omega
    have n2 : w.heap.size ≠ b := by omega
    have n3 : W1.heap.size ≠ w.heap.size := by omega
    have n4 : w.heap.size ≠ W1.heap.size := by omega
    have n5_ : b ≠ W1.heap.size := by omega
    have n6 : W1.heap.size ≠ b := by omega
    go_wp2_with fail
    rw [HV2.out]
    have hdr : Below V2.heap.size V2 V2.drew := (Below.refl _ _).drew
    have HB_4 := Lib.hid (HB_3.out.trans (hdr.mono HB_3.out.size))
    have HR_4 := Lib.hid (HR_3.out.below hdr HR_3.out.lt)
    have HE1_4 := Lib.hid (show OwnI RProof V2.drew (V.heap.size) (W1.heap.size) [.int .i64 p.at_, .slice Y d r] p ∧ (W1.heap.size) ≤ V2.drew.heap.size ∧ (w.heap.size + 1) ≤ (V.heap.size) from ⟨HE1_3.out.1.below hdr HE1_3.out.2.1, Nat.le_trans HE1_3.out.2.1 hdr.size, HE1_3.out.2.2⟩)
    have HP_4 := Lib.hid (HP_3.out.below hdr HP_3.out.lt)
    clear hdr
    have zR0 := HR_4.out.cell (j := 0) rfl
    have fR0 := HR_4.out.warm (j := 0) rfl
    have zR1 := HR_4.out.cell (j := 1) rfl
    have fR1 := HR_4.out.warm (j := 1) rfl
    have zR2 := HR_4.out.cell (j := 2) rfl
    have fR2 := HR_4.out.warm (j := 2) rfl
    have zR3 := HR_4.out.cell (j := 3) rfl
    have fR3 := HR_4.out.warm (j := 3) rfl
    have zR4 := HR_4.out.cell (j := 4) rfl
    have fR4 := HR_4.out.warm (j := 4) rfl
    have zR5 := HR_4.out.cell (j := 5) rfl
    have fR5 := HR_4.out.warm (j := 5) rfl
    have zP0 := HP_4.out.cell (j := 0) rfl
    have zP1 := HP_4.out.cell (j := 1) rfl
    have c0 : V2.drew.cell? ⟨b, off + K * 4, none⟩ = some (.string z.label) := (HB_4.out.cell (p := ⟨b, off + K * 4, none⟩) hlt).trans HD0.out
    have c1 : V2.drew.cell? ⟨b, off + K * 4 + 1, none⟩ = some (.int .i64 z.kind) := (HB_4.out.cell (p := ⟨b, off + K * 4 + 1, none⟩) hlt).trans HD1.out
    have c2 : V2.drew.cell? ⟨b, off + K * 4 + 2, none⟩ = some (.int .i64 z.value) := (HB_4.out.cell (p := ⟨b, off + K * 4 + 2, none⟩) hlt).trans HD2.out
    have c3 : V2.drew.cell? ⟨b, off + K * 4 + 3, none⟩ = some (.slice A5 n5 c5) := (HB_4.out.cell (p := ⟨b, off + K * 4 + 3, none⟩) hlt).trans HD3.out
    go_region_held3 (fun w' => w'.cell? ⟨b, off + K * 4, none⟩ = some (.string z.label) ∧ w'.cell? ⟨b, off + K * 4 + 1, none⟩ = some (.int .i64 z.kind) ∧ w'.cell? ⟨b, off + K * 4 + 2, none⟩ = some (.int .i64 z.value) ∧ w'.cell? ⟨b, off + K * 4 + 3, none⟩ = some (.slice A5 n5 c5) ∧ w'.cell? ⟨W1.heap.size, 0, none⟩ = some (.int .i64 p.at_) ∧ w'.cell? ⟨W1.heap.size, 1, none⟩ = some (.slice Y d r)) (go_keep) ((first
      | (go_at_call 55; refine (HC.out _ HB_4.out).mono ?_; rintro e W3 ⟨cs3, rfl, ho, hb⟩; obtain ⟨X, m, q, rfl⟩ := REntry_shape ho.rd; have HB_5 := Lib.hid (HB_4.out.trans (hb.mono HB_4.out.size)); have HR_5 := Lib.hid (HR_4.out.below hb HR_4.out.lt); have HE1_5 := Lib.hid (show OwnI RProof W3 (V.heap.size) (W1.heap.size) [.int .i64 p.at_, .slice Y d r] p ∧ (W1.heap.size) ≤ W3.heap.size ∧ (w.heap.size + 1) ≤ (V.heap.size) from ⟨HE1_4.out.1.below hb HE1_4.out.2.1, Nat.le_trans HE1_4.out.2.1 hb.size, HE1_4.out.2.2⟩); have HP_5 := Lib.hid (HP_4.out.below hb HP_4.out.lt); have HO3 := Lib.hid ho; have HS3 := Lib.hid (show V2.heap.size ≤ W3.heap.size from hb.size); have yR0 := HR_5.out.cell (j := 0) rfl; have gR0 := HR_5.out.warm (j := 0) rfl; have yR1 := HR_5.out.cell (j := 1) rfl; have gR1 := HR_5.out.warm (j := 1) rfl; have yR2 := HR_5.out.cell (j := 2) rfl; have gR2 := HR_5.out.warm (j := 2) rfl; have yR3 := HR_5.out.cell (j := 3) rfl; have gR3 := HR_5.out.warm (j := 3) rfl; have yR4 := HR_5.out.cell (j := 4) rfl; have gR4 := HR_5.out.warm (j := 4) rfl; have yR5 := HR_5.out.cell (j := 5) rfl; have gR5 := HR_5.out.warm (j := 5) rfl; have yP0 := HP_5.out.cell (j := 0) rfl; have yP1 := HP_5.out.cell (j := 1) rfl; have e0 : W3.cell? ⟨b, off + K * 4, none⟩ = some (.string z.label) := (HB_5.out.cell (p := ⟨b, off + K * 4, none⟩) hlt).trans HD0.out; have e1 : W3.cell? ⟨b, off + K * 4 + 1, none⟩ = some (.int .i64 z.kind) := (HB_5.out.cell (p := ⟨b, off + K * 4 + 1, none⟩) hlt).trans HD1.out; have e2 : W3.cell? ⟨b, off + K * 4 + 2, none⟩ = some (.int .i64 z.value) := (HB_5.out.cell (p := ⟨b, off + K * 4 + 2, none⟩) hlt).trans HD2.out; have e3 : W3.cell? ⟨b, off + K * 4 + 3, none⟩ = some (.slice A5 n5 c5) := (HB_5.out.cell (p := ⟨b, off + K * 4 + 3, none⟩) hlt).trans HD3.out; clear hb ho)))
    go_wp2
    have HE2_5 := Lib.hid (show OwnI REntry W3 (W1.heap.size) (W3.heap.size) [.string z.label, .int .i64 z.kind, .int .i64 z.value, .slice X m q] z ∧ (W3.heap.size) ≤ W3.heap.size ∧ (w.heap.size + 1) ≤ (W1.heap.size) from ⟨HO3.out.wide (show W1.heap.size ≤ V2.heap.size from HS2.out) (Nat.le_refl _), Nat.le_refl _, by omega⟩)
    obtain ⟨VF, hVF⟩ : ∃ V, puts W3 (w.heap.size) 0 [.string z.label, .int .i64 z.kind, .int .i64 z.value, .slice X m q, .int .i64 p.at_, .slice Y d r] = V := ⟨_, rfl⟩
    have HB_6 := Lib.hid (pt_bel hVF HB_5.out (show w.heap.size ≤ (w.heap.size) by omega))
    have HR_6 := Lib.hid (show Box VF (w.heap.size) [.string z.label, .int .i64 z.kind, .int .i64 z.value, .slice X m q, .int .i64 p.at_, .slice Y d r] from pt_self hVF HR_5.out (by simp))
    have HE1_6 := Lib.hid (pt_own hVF HE1_5.out (show (w.heap.size) < (w.heap.size + 1) by omega))
    have HP_6 := Lib.hid (pt_box hVF HP_5.out (show (W1.heap.size) ≠ (w.heap.size) by omega))
    have HE2_6 := Lib.hid (pt_own hVF HE2_5.out (show (w.heap.size) < (w.heap.size + 1) by omega))
    have HVF := Lib.hid hVF
    clear hVF
    rw [show (((((W3.setCell ⟨w.heap.size, 0, none⟩ (.string z.label)).setCell ⟨w.heap.size, 1, none⟩ (.int .i64 z.kind)).setCell ⟨w.heap.size, 2, none⟩ (.int .i64 z.value)).setCell ⟨w.heap.size, 3, none⟩ (.slice X m q)).setCell ⟨w.heap.size, 4, none⟩ (.int .i64 p.at_)).setCell ⟨w.heap.size, 5, none⟩ (.slice Y d r) = VF from HVF.out]
    have lVF : W3.heap.size ≤ VF.heap.size := HE2_6.out.2.1
    have l1 := HSV.out
    have l2 := HS1.out
    have l3 := HS2.out
    have l4 : V2.heap.size ≤ W3.heap.size := HS3.out
    have zR0 := HR_6.out.cell (j := 0) rfl
    have zR1 := HR_6.out.cell (j := 1) rfl
    have zR2 := HR_6.out.cell (j := 2) rfl
    have zR3 := HR_6.out.cell (j := 3) rfl
    have zR4 := HR_6.out.cell (j := 4) rfl
    have zR5 := HR_6.out.cell (j := 5) rfl
    refine bodyPost_ret (v := .agg #[.string z.label, .int .i64 z.kind, .int .i64 z.value, .slice X m q, .int .i64 p.at_, .slice Y d r]) (by simp [results, Tryz.results19, go_sem, zR0, zR1, zR2, zR3, zR4, zR5]) rfl ⟨X, m, q, Y, d, r, W1.heap.size, rfl, HE2_6.out.1.wide (Nat.le_refl _) lVF, HE1_6.out.1.wide l1 (Nat.le_refl _), by omega, by omega, HB_6.out⟩
set_option maxHeartbeats 1000000 in
theorem igapBetween_any (aat aq2 aq3 ak0 av0 ak1 av1 : Int) (al0 al1 : ByteArray) (aA0 : Option Addr) (an0 ac0 : Nat) (aA1 : Option Addr) (an1 ac1 : Nat) (aA2 : Option Addr) (an2 ac2 : Nat) (aA3 : Option Addr) (an3 ac3 : Nat) (w : World) :
    Calls Tryz.prog 18 #[.int .i64 aat, .agg #[.string al0, .int .i64 ak0, .int .i64 av0, .slice aA0 an0 ac0, .int .i64 aq2, .slice aA2 an2 ac2, .string al1, .int .i64 ak1, .int .i64 av1, .slice aA1 an1 ac1, .int .i64 aq3, .slice aA3 an3 ac3]] w fun e w' => e = .returned (.agg #[.int .i64 aat, .string al0, .int .i64 ak0, .int .i64 av0, .slice aA0 an0 ac0, .string al1, .int .i64 ak1, .int .i64 av1, .slice aA1 an1 ac1, .int .i64 aq2, .slice aA2 an2 ac2, .int .i64 aq3, .slice aA3 an3 ac3]) ∧ Below w.heap.size w w' := by
  go_enter Tryz.func18, Tryz.ntmps18
  go_wp2
  refine bodyPost_ret (v := .agg #[.int .i64 aat, .string al0, .int .i64 ak0, .int .i64 av0, .slice aA0 an0 ac0, .string al1, .int .i64 ak1, .int .i64 av1, .slice aA1 an1 ac1, .int .i64 aq2, .slice aA2 an2 ac2, .int .i64 aq3, .slice aA3 an3 ac3]) (by simp [results, Tryz.results18, go_sem]) rfl ⟨rfl, ?_⟩
  repeat' refine Below.setCell ?_ ?_ _
  all_goals first | exact (Below.refl _ _).alloc (by simp) _ | exact ((Below.refl _ _).alloc (by simp) _).alloc (by simp) _ | (simp; done) | (simp; omega)
set_option maxHeartbeats 8000000 in
theorem iProveAbsence_any (A : Option Addr) (n c : Nat) (l : List Entry) (s : ByteArray) (w : World) (h : FRdEntry w w.heap.size A n l) (hn : totR totEntry l ≤ 1048576) (hs : s.size ≤ 1099511627776) :
    Calls Tryz.prog 6 #[.slice A n c, .string s] w fun e w' => ∃ cs, e = .returned (.tuple #[.agg (List.toArray cs), .bool (proveA l s).2]) ∧ OwnI RGap w' w.heap.size w'.heap.size cs (proveA l s).1 ∧ Below w.heap.size w w' := by
  have hl := h.len
  have hn2 : n ≤ 1048576 := by have := totR_len totEntry l; omega
  have HAE := Lib.hid (fun w1 (hb : Below w.heap.size w w1) => iAreEntries_any A n c l w1 (fup h hb) (by omega))
  have HIL := Lib.hid (fun w1 => iIsLabel_any s w1 hs)
  have HFE := Lib.hid (fun w1 (hb : Below w.heap.size w w1) => iFindEntry_any A n c l s w1 (fup h hb) (by omega))
  have HRK := Lib.hid (fun w1 (hb : Below w.heap.size w w1) => iRankOf_any A n c l s w1 (fup h hb) (by omega))
  have hrl := rank_le l s
  rw [hl] at hrl
  have HNA := Lib.hid (fun i z p w1 (hb : Below w.heap.size w w1) hz => ineighbourAt_any A n c l i z p w1 (fup h hb) hn hz)
  have hN0 : ∃ z p, ((inR ((rankN l s : Int) - 1) 0 ((n : Int) - 1) = false ∧ z = zeroE ∧ p = zeroP) ∨ (∃ K : Nat, (rankN l s : Int) - 1 = K ∧ K < n ∧ z = at0 l K ∧ p = (proveE l (at0 l K).label).1)) ∧ befE l (rankN l s) = z ∧ lefP l (rankN l s) = p := by
    rcases Nat.eq_zero_or_pos (rankN l s) with hk | hk
    · exact ⟨_, _, .inl ⟨by rw [hk]; unfold inR; simp, rfl, rfl⟩, by unfold befE; rw [if_neg (by omega)], by unfold lefP; rw [if_neg (by omega)]⟩
    · exact ⟨_, _, .inr ⟨rankN l s - 1, by omega, by omega, rfl, rfl⟩, by unfold befE; rw [if_pos hk], by unfold lefP; rw [if_pos hk]⟩
  have hN1 : ∃ z p, ((inR (rankN l s : Int) 0 ((n : Int) - 1) = false ∧ z = zeroE ∧ p = zeroP) ∨ (∃ K : Nat, (rankN l s : Int) = K ∧ K < n ∧ z = at0 l K ∧ p = (proveE l (at0 l K).label).1)) ∧ aftE l (rankN l s) = z ∧ rigP l (rankN l s) = p := by
    rcases Nat.lt_or_ge (rankN l s) n with hk | hk
    · exact ⟨_, _, .inr ⟨rankN l s, rfl, hk, rfl, rfl⟩, by unfold aftE; rw [if_pos (by omega)], by unfold rigP; rw [if_pos (by omega)]⟩
    · exact ⟨_, _, .inl ⟨by unfold inR; simp; omega, rfl, rfl⟩, by unfold aftE; rw [if_neg (by omega)], by unfold rigP; rw [if_neg (by omega)]⟩
  clear h hn
  obtain ⟨V, hV⟩ : ∃ V, V = w.alloc (.cells #[.int .i64 0, .string ⟨#[]⟩, .int .i64 0, .int .i64 0, .slice none 0 0, .string ⟨#[]⟩, .int .i64 0, .int .i64 0, .slice none 0 0, .int .i64 0, .slice none 0 0, .int .i64 0, .slice none 0 0] 34) := ⟨_, rfl⟩
  have HB_1 := Lib.hid (show Below w.heap.size w V from by
    rw [hV]
    exact (Below.refl _ _).alloc (by first | (simp; done) | (simp; omega)) _)
  have HR_1 := Lib.hid (show Box V (w.heap.size) [.int .i64 0, .string ⟨#[]⟩, .int .i64 0, .int .i64 0, .slice none 0 0, .string ⟨#[]⟩, .int .i64 0, .int .i64 0, .slice none 0 0, .int .i64 0, .slice none 0 0, .int .i64 0, .slice none 0 0] from by
    rw [hV]
    have := (Box.new w #[.int .i64 0, .string ⟨#[]⟩, .int .i64 0, .int .i64 0, .slice none 0 0, .string ⟨#[]⟩, .int .i64 0, .int .i64 0, .slice none 0 0, .int .i64 0, .slice none 0 0, .int .i64 0, .slice none 0 0] 34)
    simpa using this)
  have HV := Lib.hid hV
  clear hV
  rcases hae : areE l with _ | _
  · rw [proveA_no (.inl hae)]
    rw [hae] at HAE
    go_enter Tryz.func6, Tryz.ntmps6
    go_wp2_with fail
    rw [show w.alloc (.cells #[.int .i64 0, .string ⟨#[]⟩, .int .i64 0, .int .i64 0, .slice none 0 0, .string ⟨#[]⟩, .int .i64 0, .int .i64 0, .slice none 0 0, .int .i64 0, .slice none 0 0, .int .i64 0, .slice none 0 0] 34) = V from HV.out.symm]
    refine (HAE.out _ HB_1.out).mono ?_
    rintro e W1 ⟨rfl, hb⟩
    have HB_2 := Lib.hid (HB_1.out.trans (hb.mono HB_1.out.size))
    have HR_2 := Lib.hid (HR_1.out.below hb HR_1.out.lt)
    clear hb
    have zR0 := HR_2.out.cell (j := 0) rfl
    have fR0 := HR_2.out.warm (j := 0) rfl
    have zR1 := HR_2.out.cell (j := 1) rfl
    have fR1 := HR_2.out.warm (j := 1) rfl
    have zR2 := HR_2.out.cell (j := 2) rfl
    have fR2 := HR_2.out.warm (j := 2) rfl
    have zR3 := HR_2.out.cell (j := 3) rfl
    have fR3 := HR_2.out.warm (j := 3) rfl
    have zR4 := HR_2.out.cell (j := 4) rfl
    have fR4 := HR_2.out.warm (j := 4) rfl
    have zR5 := HR_2.out.cell (j := 5) rfl
    have fR5 := HR_2.out.warm (j := 5) rfl
    have zR6 := HR_2.out.cell (j := 6) rfl
    have fR6 := HR_2.out.warm (j := 6) rfl
    have zR7 := HR_2.out.cell (j := 7) rfl
    have fR7 := HR_2.out.warm (j := 7) rfl
    have zR8 := HR_2.out.cell (j := 8) rfl
    have fR8 := HR_2.out.warm (j := 8) rfl
    have zR9 := HR_2.out.cell (j := 9) rfl
    have fR9 := HR_2.out.warm (j := 9) rfl
    have zR10 := HR_2.out.cell (j := 10) rfl
    have fR10 := HR_2.out.warm (j := 10) rfl
    have zR11 := HR_2.out.cell (j := 11) rfl
    have fR11 := HR_2.out.warm (j := 11) rfl
    have zR12 := HR_2.out.cell (j := 12) rfl
    have fR12 := HR_2.out.warm (j := 12) rfl
    go_wp2
    clear zR0 fR0 zR1 fR1 zR2 fR2 zR3 fR3 zR4 fR4 zR5 fR5 zR6 fR6 zR7 fR7 zR8 fR8 zR9 fR9 zR10 fR10 zR11 fR11 zR12 fR12
    obtain ⟨VF, hVF⟩ : ∃ V, puts W1 (w.heap.size) 0 [.int .i64 0, .string ⟨#[]⟩, .int .i64 0, .int .i64 0, .slice none 0 0, .string ⟨#[]⟩, .int .i64 0, .int .i64 0, .slice none 0 0, .int .i64 0, .slice none 0 0, .int .i64 0, .slice none 0 0] = V := ⟨_, rfl⟩
    have HB_3 := Lib.hid (pt_bel hVF HB_2.out (show w.heap.size ≤ (w.heap.size) by omega))
    have HR_3 := Lib.hid (show Box VF (w.heap.size) [.int .i64 0, .string ⟨#[]⟩, .int .i64 0, .int .i64 0, .slice none 0 0, .string ⟨#[]⟩, .int .i64 0, .int .i64 0, .slice none 0 0, .int .i64 0, .slice none 0 0, .int .i64 0, .slice none 0 0] from pt_self hVF HR_2.out (by simp))
    have HVF := Lib.hid hVF
    clear hVF
    rw [show ((((((((((((W1.setCell ⟨w.heap.size, 0, none⟩ (.int .i64 0)).setCell ⟨w.heap.size, 1, none⟩ (.string ⟨#[]⟩)).setCell ⟨w.heap.size, 2, none⟩ (.int .i64 0)).setCell ⟨w.heap.size, 3, none⟩ (.int .i64 0)).setCell ⟨w.heap.size, 4, none⟩ (.slice none 0 0)).setCell ⟨w.heap.size, 5, none⟩ (.string ⟨#[]⟩)).setCell ⟨w.heap.size, 6, none⟩ (.int .i64 0)).setCell ⟨w.heap.size, 7, none⟩ (.int .i64 0)).setCell ⟨w.heap.size, 8, none⟩ (.slice none 0 0)).setCell ⟨w.heap.size, 9, none⟩ (.int .i64 0)).setCell ⟨w.heap.size, 10, none⟩ (.slice none 0 0)).setCell ⟨w.heap.size, 11, none⟩ (.int .i64 0)).setCell ⟨w.heap.size, 12, none⟩ (.slice none 0 0) = VF from HVF.out]
    have zR0 := HR_3.out.cell (j := 0) rfl
    have zR1 := HR_3.out.cell (j := 1) rfl
    have zR2 := HR_3.out.cell (j := 2) rfl
    have zR3 := HR_3.out.cell (j := 3) rfl
    have zR4 := HR_3.out.cell (j := 4) rfl
    have zR5 := HR_3.out.cell (j := 5) rfl
    have zR6 := HR_3.out.cell (j := 6) rfl
    have zR7 := HR_3.out.cell (j := 7) rfl
    have zR8 := HR_3.out.cell (j := 8) rfl
    have zR9 := HR_3.out.cell (j := 9) rfl
    have zR10 := HR_3.out.cell (j := 10) rfl
    have zR11 := HR_3.out.cell (j := 11) rfl
    have zR12 := HR_3.out.cell (j := 12) rfl
    refine bodyPost_ret (v := .tuple #[.agg #[.int .i64 0, .string ⟨#[]⟩, .int .i64 0, .int .i64 0, .slice none 0 0, .string ⟨#[]⟩, .int .i64 0, .int .i64 0, .slice none 0 0, .int .i64 0, .slice none 0 0, .int .i64 0, .slice none 0 0], .bool false]) (by simp [results, Tryz.results6, go_sem, zR0, zR1, zR2, zR3, zR4, zR5, zR6, zR7, zR8, zR9, zR10, zR11, zR12]) rfl ⟨[.int .i64 0, .string ⟨#[]⟩, .int .i64 0, .int .i64 0, .slice none 0 0, .string ⟨#[]⟩, .int .i64 0, .int .i64 0, .slice none 0 0, .int .i64 0, .slice none 0 0, .int .i64 0, .slice none 0 0], rfl, ?_, HB_3.out⟩
    exact zero_ownG _ _ _ (by have := HB_3.out.size; omega)
  · rw [hae] at HAE
    rcases hil : isLab s with _ | _
    · rw [proveA_no (.inr (.inl hil))]
      rw [hil] at HIL
      go_enter Tryz.func6, Tryz.ntmps6
      go_wp2_with fail
      rw [show w.alloc (.cells #[.int .i64 0, .string ⟨#[]⟩, .int .i64 0, .int .i64 0, .slice none 0 0, .string ⟨#[]⟩, .int .i64 0, .int .i64 0, .slice none 0 0, .int .i64 0, .slice none 0 0, .int .i64 0, .slice none 0 0] 34) = V from HV.out.symm]
      refine (HAE.out _ HB_1.out).mono ?_
      rintro e W1 ⟨rfl, hb⟩
      have HB_2 := Lib.hid (HB_1.out.trans (hb.mono HB_1.out.size))
      have HR_2 := Lib.hid (HR_1.out.below hb HR_1.out.lt)
      clear hb
      have zR0 := HR_2.out.cell (j := 0) rfl
      have zR1 := HR_2.out.cell (j := 1) rfl
      have zR2 := HR_2.out.cell (j := 2) rfl
      have zR3 := HR_2.out.cell (j := 3) rfl
      have zR4 := HR_2.out.cell (j := 4) rfl
      have zR5 := HR_2.out.cell (j := 5) rfl
      have zR6 := HR_2.out.cell (j := 6) rfl
      have zR7 := HR_2.out.cell (j := 7) rfl
      have zR8 := HR_2.out.cell (j := 8) rfl
      have zR9 := HR_2.out.cell (j := 9) rfl
      have zR10 := HR_2.out.cell (j := 10) rfl
      have zR11 := HR_2.out.cell (j := 11) rfl
      have zR12 := HR_2.out.cell (j := 12) rfl
      go_wp2_with fail
      clear zR0 zR1 zR2 zR3 zR4 zR5 zR6 zR7 zR8 zR9 zR10 zR11 zR12
      refine (HIL.out _).mono ?_
      rintro e W2 ⟨rfl, hb⟩
      have HB_3 := Lib.hid (HB_2.out.trans (hb.mono HB_2.out.size))
      have HR_3 := Lib.hid (HR_2.out.below hb HR_2.out.lt)
      clear hb
      have zR0 := HR_3.out.cell (j := 0) rfl
      have fR0 := HR_3.out.warm (j := 0) rfl
      have zR1 := HR_3.out.cell (j := 1) rfl
      have fR1 := HR_3.out.warm (j := 1) rfl
      have zR2 := HR_3.out.cell (j := 2) rfl
      have fR2 := HR_3.out.warm (j := 2) rfl
      have zR3 := HR_3.out.cell (j := 3) rfl
      have fR3 := HR_3.out.warm (j := 3) rfl
      have zR4 := HR_3.out.cell (j := 4) rfl
      have fR4 := HR_3.out.warm (j := 4) rfl
      have zR5 := HR_3.out.cell (j := 5) rfl
      have fR5 := HR_3.out.warm (j := 5) rfl
      have zR6 := HR_3.out.cell (j := 6) rfl
      have fR6 := HR_3.out.warm (j := 6) rfl
      have zR7 := HR_3.out.cell (j := 7) rfl
      have fR7 := HR_3.out.warm (j := 7) rfl
      have zR8 := HR_3.out.cell (j := 8) rfl
      have fR8 := HR_3.out.warm (j := 8) rfl
      have zR9 := HR_3.out.cell (j := 9) rfl
      have fR9 := HR_3.out.warm (j := 9) rfl
      have zR10 := HR_3.out.cell (j := 10) rfl
      have fR10 := HR_3.out.warm (j := 10) rfl
      have zR11 := HR_3.out.cell (j := 11) rfl
      have fR11 := HR_3.out.warm (j := 11) rfl
      have zR12 := HR_3.out.cell (j := 12) rfl
      have fR12 := HR_3.out.warm (j := 12) rfl
      go_wp2
      clear zR0 fR0 zR1 fR1 zR2 fR2 zR3 fR3 zR4 fR4 zR5 fR5 zR6 fR6 zR7 fR7 zR8 fR8 zR9 fR9 zR10 fR10 zR11 fR11 zR12 fR12
      obtain ⟨VF, hVF⟩ : ∃ V, puts W2 (w.heap.size) 0 [.int .i64 0, .string ⟨#[]⟩, .int .i64 0, .int .i64 0, .slice none 0 0, .string ⟨#[]⟩, .int .i64 0, .int .i64 0, .slice none 0 0, .int .i64 0, .slice none 0 0, .int .i64 0, .slice none 0 0] = V := ⟨_, rfl⟩
      have HB_4 := Lib.hid (pt_bel hVF HB_3.out (show w.heap.size ≤ (w.heap.size) by omega))
      have HR_4 := Lib.hid (show Box VF (w.heap.size) [.int .i64 0, .string ⟨#[]⟩, .int .i64 0, .int .i64 0, .slice none 0 0, .string ⟨#[]⟩, .int .i64 0, .int .i64 0, .slice none 0 0, .int .i64 0, .slice none 0 0, .int .i64 0, .slice none 0 0] from pt_self hVF HR_3.out (by simp))
      have HVF := Lib.hid hVF
      clear hVF
      rw [show ((((((((((((W2.setCell ⟨w.heap.size, 0, none⟩ (.int .i64 0)).setCell ⟨w.heap.size, 1, none⟩ (.string ⟨#[]⟩)).setCell ⟨w.heap.size, 2, none⟩ (.int .i64 0)).setCell ⟨w.heap.size, 3, none⟩ (.int .i64 0)).setCell ⟨w.heap.size, 4, none⟩ (.slice none 0 0)).setCell ⟨w.heap.size, 5, none⟩ (.string ⟨#[]⟩)).setCell ⟨w.heap.size, 6, none⟩ (.int .i64 0)).setCell ⟨w.heap.size, 7, none⟩ (.int .i64 0)).setCell ⟨w.heap.size, 8, none⟩ (.slice none 0 0)).setCell ⟨w.heap.size, 9, none⟩ (.int .i64 0)).setCell ⟨w.heap.size, 10, none⟩ (.slice none 0 0)).setCell ⟨w.heap.size, 11, none⟩ (.int .i64 0)).setCell ⟨w.heap.size, 12, none⟩ (.slice none 0 0) = VF from HVF.out]
      have zR0 := HR_4.out.cell (j := 0) rfl
      have zR1 := HR_4.out.cell (j := 1) rfl
      have zR2 := HR_4.out.cell (j := 2) rfl
      have zR3 := HR_4.out.cell (j := 3) rfl
      have zR4 := HR_4.out.cell (j := 4) rfl
      have zR5 := HR_4.out.cell (j := 5) rfl
      have zR6 := HR_4.out.cell (j := 6) rfl
      have zR7 := HR_4.out.cell (j := 7) rfl
      have zR8 := HR_4.out.cell (j := 8) rfl
      have zR9 := HR_4.out.cell (j := 9) rfl
      have zR10 := HR_4.out.cell (j := 10) rfl
      have zR11 := HR_4.out.cell (j := 11) rfl
      have zR12 := HR_4.out.cell (j := 12) rfl
      refine bodyPost_ret (v := .tuple #[.agg #[.int .i64 0, .string ⟨#[]⟩, .int .i64 0, .int .i64 0, .slice none 0 0, .string ⟨#[]⟩, .int .i64 0, .int .i64 0, .slice none 0 0, .int .i64 0, .slice none 0 0, .int .i64 0, .slice none 0 0], .bool false]) (by simp [results, Tryz.results6, go_sem, zR0, zR1, zR2, zR3, zR4, zR5, zR6, zR7, zR8, zR9, zR10, zR11, zR12]) rfl ⟨[.int .i64 0, .string ⟨#[]⟩, .int .i64 0, .int .i64 0, .slice none 0 0, .string ⟨#[]⟩, .int .i64 0, .int .i64 0, .slice none 0 0, .int .i64 0, .slice none 0 0, .int .i64 0, .slice none 0 0], rfl, ?_, HB_4.out⟩
      exact zero_ownG _ _ _ (by have := HB_4.out.size; omega)
    · rw [hil] at HIL
      by_cases hfe : fndE l s < 0
      · rw [proveA_yes hae hil hfe]
        have hge : ¬ (0 : Int) ≤ fndE l s := by omega
        generalize fndE l s = fe at *
        obtain ⟨z0, p0, hz0, hb0, hl0⟩ := hN0
        obtain ⟨z1, p1, hz1, hb1, hl1⟩ := hN1
        have HGA := Lib.hid (show gapAt l (rankN l s) = ⟨(rankN l s : Int), z0, z1, p0, p1⟩ from by unfold gapAt; rw [hb0, hb1, hl0, hl1])
        rw [HGA.out]
        have HN0 := Lib.hid (fun w1 hb => HNA.out _ z0 p0 w1 hb hz0)
        have HN1 := Lib.hid (fun w1 hb => HNA.out _ z1 p1 w1 hb hz1)
        clear hb0 hb1 hl0 hl1 hz0 hz1 HNA HGA hae hil
        generalize rankN l s = k at *
        have hKi := Lib.hid (show In .i64 (k : Int) from inI64 (by omega) (by omega))
        go_enter Tryz.func6, Tryz.ntmps6
        go_wp2_with fail
        rw [show w.alloc (.cells #[.int .i64 0, .string ⟨#[]⟩, .int .i64 0, .int .i64 0, .slice none 0 0, .string ⟨#[]⟩, .int .i64 0, .int .i64 0, .slice none 0 0, .int .i64 0, .slice none 0 0, .int .i64 0, .slice none 0 0] 34) = V from HV.out.symm]
        refine (HAE.out _ HB_1.out).mono ?_
        rintro e W1 ⟨rfl, hb⟩
        have HB_2 := Lib.hid (HB_1.out.trans (hb.mono HB_1.out.size))
        have HR_2 := Lib.hid (HR_1.out.below hb HR_1.out.lt)
        clear hb
        have zR0 := HR_2.out.cell (j := 0) rfl
        have zR1 := HR_2.out.cell (j := 1) rfl
        have zR2 := HR_2.out.cell (j := 2) rfl
        have zR3 := HR_2.out.cell (j := 3) rfl
        have zR4 := HR_2.out.cell (j := 4) rfl
        have zR5 := HR_2.out.cell (j := 5) rfl
        have zR6 := HR_2.out.cell (j := 6) rfl
        have zR7 := HR_2.out.cell (j := 7) rfl
        have zR8 := HR_2.out.cell (j := 8) rfl
        have zR9 := HR_2.out.cell (j := 9) rfl
        have zR10 := HR_2.out.cell (j := 10) rfl
        have zR11 := HR_2.out.cell (j := 11) rfl
        have zR12 := HR_2.out.cell (j := 12) rfl
        go_wp2_with fail
        clear zR0 zR1 zR2 zR3 zR4 zR5 zR6 zR7 zR8 zR9 zR10 zR11 zR12
        refine (HIL.out _).mono ?_
        rintro e W2 ⟨rfl, hb⟩
        have HB_3 := Lib.hid (HB_2.out.trans (hb.mono HB_2.out.size))
        have HR_3 := Lib.hid (HR_2.out.below hb HR_2.out.lt)
        clear hb
        have zR0 := HR_3.out.cell (j := 0) rfl
        have zR1 := HR_3.out.cell (j := 1) rfl
        have zR2 := HR_3.out.cell (j := 2) rfl
        have zR3 := HR_3.out.cell (j := 3) rfl
        have zR4 := HR_3.out.cell (j := 4) rfl
        have zR5 := HR_3.out.cell (j := 5) rfl
        have zR6 := HR_3.out.cell (j := 6) rfl
        have zR7 := HR_3.out.cell (j := 7) rfl
        have zR8 := HR_3.out.cell (j := 8) rfl
        have zR9 := HR_3.out.cell (j := 9) rfl
        have zR10 := HR_3.out.cell (j := 10) rfl
        have zR11 := HR_3.out.cell (j := 11) rfl
        have zR12 := HR_3.out.cell (j := 12) rfl
        go_wp2_with fail
        clear zR0 zR1 zR2 zR3 zR4 zR5 zR6 zR7 zR8 zR9 zR10 zR11 zR12
        refine (HFE.out _ HB_3.out).mono ?_
        rintro e W3 ⟨rfl, hb⟩
        have HB_4 := Lib.hid (HB_3.out.trans (hb.mono HB_3.out.size))
        have HR_4 := Lib.hid (HR_3.out.below hb HR_3.out.lt)
        clear hb
        have zR0 := HR_4.out.cell (j := 0) rfl
        have zR1 := HR_4.out.cell (j := 1) rfl
        have zR2 := HR_4.out.cell (j := 2) rfl
        have zR3 := HR_4.out.cell (j := 3) rfl
        have zR4 := HR_4.out.cell (j := 4) rfl
        have zR5 := HR_4.out.cell (j := 5) rfl
        have zR6 := HR_4.out.cell (j := 6) rfl
        have zR7 := HR_4.out.cell (j := 7) rfl
        have zR8 := HR_4.out.cell (j := 8) rfl
        have zR9 := HR_4.out.cell (j := 9) rfl
        have zR10 := HR_4.out.cell (j := 10) rfl
        have zR11 := HR_4.out.cell (j := 11) rfl
        have zR12 := HR_4.out.cell (j := 12) rfl
        go_wp2_with fail
        clear zR0 zR1 zR2 zR3 zR4 zR5 zR6 zR7 zR8 zR9 zR10 zR11 zR12
        refine (HRK.out _ HB_4.out).mono ?_
        rintro e W4 ⟨rfl, hb⟩
        have HB_5 := Lib.hid (HB_4.out.trans (hb.mono HB_4.out.size))
        have HR_5 := Lib.hid (HR_4.out.below hb HR_4.out.lt)
        clear hb
        have hW4 : w.heap.size < W4.heap.size := HR_5.out.lt
        have zR0 := HR_5.out.cell (j := 0) rfl
        have zR1 := HR_5.out.cell (j := 1) rfl
        have zR2 := HR_5.out.cell (j := 2) rfl
        have zR3 := HR_5.out.cell (j := 3) rfl
        have zR4 := HR_5.out.cell (j := 4) rfl
        have zR5 := HR_5.out.cell (j := 5) rfl
        have zR6 := HR_5.out.cell (j := 6) rfl
        have zR7 := HR_5.out.cell (j := 7) rfl
        have zR8 := HR_5.out.cell (j := 8) rfl
        have zR9 := HR_5.out.cell (j := 9) rfl
        have zR10 := HR_5.out.cell (j := 10) rfl
        have zR11 := HR_5.out.cell (j := 11) rfl
        have zR12 := HR_5.out.cell (j := 12) rfl
        go_wp2_with fail
        clear zR0 zR1 zR2 zR3 zR4 zR5 zR6 zR7 zR8 zR9 zR10 zR11 zR12
        refine (HN0.out _ HB_5.out).mono ?_
        rintro e W5 ⟨X0, m0, q0, Y0, d0, r0, mid0, rfl, ho, ho2, hm1, hm2, hb⟩
        have HB_6 := Lib.hid (HB_5.out.trans (hb.mono HB_5.out.size))
        have HR_6 := Lib.hid (HR_5.out.below hb HR_5.out.lt)
        have hW5 : w.heap.size < W5.heap.size := HR_6.out.lt
        have HM0 := Lib.hid (show W4.heap.size ≤ mid0 ∧ mid0 ≤ W5.heap.size from ⟨hm1, hm2⟩)
        have HE0_6 := Lib.hid (show OwnI REntry W5 (mid0) (W5.heap.size) [.string z0.label, .int .i64 z0.kind, .int .i64 z0.value, .slice X0 m0 q0] z0 ∧ (W5.heap.size) ≤ W5.heap.size ∧ (w.heap.size + 1) ≤ (mid0) from ⟨ho, Nat.le_refl _, by omega⟩)
        have HQ0_6 := Lib.hid (show OwnI RProof W5 (W4.heap.size) (mid0) [.int .i64 p0.at_, .slice Y0 d0 r0] p0 ∧ (mid0) ≤ W5.heap.size ∧ (w.heap.size + 1) ≤ (W4.heap.size) from ⟨ho2, hm2, by omega⟩)
        clear hb ho ho2 hm1 hm2
        have zR0 := HR_6.out.cell (j := 0) rfl
        have zR1 := HR_6.out.cell (j := 1) rfl
        have zR2 := HR_6.out.cell (j := 2) rfl
        have zR3 := HR_6.out.cell (j := 3) rfl
        have zR4 := HR_6.out.cell (j := 4) rfl
        have zR5 := HR_6.out.cell (j := 5) rfl
        have zR6 := HR_6.out.cell (j := 6) rfl
        have zR7 := HR_6.out.cell (j := 7) rfl
        have zR8 := HR_6.out.cell (j := 8) rfl
        have zR9 := HR_6.out.cell (j := 9) rfl
        have zR10 := HR_6.out.cell (j := 10) rfl
        have zR11 := HR_6.out.cell (j := 11) rfl
        have zR12 := HR_6.out.cell (j := 12) rfl
        go_wp2_with fail
        clear zR0 zR1 zR2 zR3 zR4 zR5 zR6 zR7 zR8 zR9 zR10 zR11 zR12
        refine (HN1.out _ HB_6.out).mono ?_
        rintro e W6 ⟨X1, m1, q1, Y1, d1, r1, mid1, rfl, ho, ho2, hm1, hm2, hb⟩
        have HB_7 := Lib.hid (HB_6.out.trans (hb.mono HB_6.out.size))
        have HR_7 := Lib.hid (HR_6.out.below hb HR_6.out.lt)
        have HE0_7 := Lib.hid (show OwnI REntry W6 (mid0) (W5.heap.size) [.string z0.label, .int .i64 z0.kind, .int .i64 z0.value, .slice X0 m0 q0] z0 ∧ (W5.heap.size) ≤ W6.heap.size ∧ (w.heap.size + 1) ≤ (mid0) from ⟨HE0_6.out.1.below hb HE0_6.out.2.1, Nat.le_trans HE0_6.out.2.1 hb.size, HE0_6.out.2.2⟩)
        have HQ0_7 := Lib.hid (show OwnI RProof W6 (W4.heap.size) (mid0) [.int .i64 p0.at_, .slice Y0 d0 r0] p0 ∧ (mid0) ≤ W6.heap.size ∧ (w.heap.size + 1) ≤ (W4.heap.size) from ⟨HQ0_6.out.1.below hb HQ0_6.out.2.1, Nat.le_trans HQ0_6.out.2.1 hb.size, HQ0_6.out.2.2⟩)
        have hW6 : w.heap.size < W6.heap.size := HR_7.out.lt
        have HM1 := Lib.hid (show W5.heap.size ≤ mid1 ∧ mid1 ≤ W6.heap.size from ⟨hm1, hm2⟩)
        have HE1_7 := Lib.hid (show OwnI REntry W6 (mid1) (W6.heap.size) [.string z1.label, .int .i64 z1.kind, .int .i64 z1.value, .slice X1 m1 q1] z1 ∧ (W6.heap.size) ≤ W6.heap.size ∧ (w.heap.size + 1) ≤ (mid1) from ⟨ho, Nat.le_refl _, by omega⟩)
        have HQ1_7 := Lib.hid (show OwnI RProof W6 (W5.heap.size) (mid1) [.int .i64 p1.at_, .slice Y1 d1 r1] p1 ∧ (mid1) ≤ W6.heap.size ∧ (w.heap.size + 1) ≤ (W5.heap.size) from ⟨ho2, hm2, by omega⟩)
        clear hb ho ho2 hm1 hm2
        have zR0 := HR_7.out.cell (j := 0) rfl
        have zR1 := HR_7.out.cell (j := 1) rfl
        have zR2 := HR_7.out.cell (j := 2) rfl
        have zR3 := HR_7.out.cell (j := 3) rfl
        have zR4 := HR_7.out.cell (j := 4) rfl
        have zR5 := HR_7.out.cell (j := 5) rfl
        have zR6 := HR_7.out.cell (j := 6) rfl
        have zR7 := HR_7.out.cell (j := 7) rfl
        have zR8 := HR_7.out.cell (j := 8) rfl
        have zR9 := HR_7.out.cell (j := 9) rfl
        have zR10 := HR_7.out.cell (j := 10) rfl
        have zR11 := HR_7.out.cell (j := 11) rfl
        have zR12 := HR_7.out.cell (j := 12) rfl
        go_wp2_with fail
        clear zR0 zR1 zR2 zR3 zR4 zR5 zR6 zR7 zR8 zR9 zR10 zR11 zR12
        refine (igapBetween_any (k : Int) p0.at_ p1.at_ z0.kind z0.value z1.kind z1.value z0.label z1.label X0 m0 q0 X1 m1 q1 Y0 d0 r0 Y1 d1 r1 W6).mono ?_
        rintro e W7 ⟨rfl, hb⟩
        have HB_8 := Lib.hid (HB_7.out.trans (hb.mono HB_7.out.size))
        have HR_8 := Lib.hid (HR_7.out.below hb HR_7.out.lt)
        have HE0_8 := Lib.hid (show OwnI REntry W7 (mid0) (W5.heap.size) [.string z0.label, .int .i64 z0.kind, .int .i64 z0.value, .slice X0 m0 q0] z0 ∧ (W5.heap.size) ≤ W7.heap.size ∧ (w.heap.size + 1) ≤ (mid0) from ⟨HE0_7.out.1.below hb HE0_7.out.2.1, Nat.le_trans HE0_7.out.2.1 hb.size, HE0_7.out.2.2⟩)
        have HQ0_8 := Lib.hid (show OwnI RProof W7 (W4.heap.size) (mid0) [.int .i64 p0.at_, .slice Y0 d0 r0] p0 ∧ (mid0) ≤ W7.heap.size ∧ (w.heap.size + 1) ≤ (W4.heap.size) from ⟨HQ0_7.out.1.below hb HQ0_7.out.2.1, Nat.le_trans HQ0_7.out.2.1 hb.size, HQ0_7.out.2.2⟩)
        have HE1_8 := Lib.hid (show OwnI REntry W7 (mid1) (W6.heap.size) [.string z1.label, .int .i64 z1.kind, .int .i64 z1.value, .slice X1 m1 q1] z1 ∧ (W6.heap.size) ≤ W7.heap.size ∧ (w.heap.size + 1) ≤ (mid1) from ⟨HE1_7.out.1.below hb HE1_7.out.2.1, Nat.le_trans HE1_7.out.2.1 hb.size, HE1_7.out.2.2⟩)
        have HQ1_8 := Lib.hid (show OwnI RProof W7 (W5.heap.size) (mid1) [.int .i64 p1.at_, .slice Y1 d1 r1] p1 ∧ (mid1) ≤ W7.heap.size ∧ (w.heap.size + 1) ≤ (W5.heap.size) from ⟨HQ1_7.out.1.below hb HQ1_7.out.2.1, Nat.le_trans HQ1_7.out.2.1 hb.size, HQ1_7.out.2.2⟩)
        clear hb
        have zR0 := HR_8.out.cell (j := 0) rfl
        have fR0 := HR_8.out.warm (j := 0) rfl
        have zR1 := HR_8.out.cell (j := 1) rfl
        have fR1 := HR_8.out.warm (j := 1) rfl
        have zR2 := HR_8.out.cell (j := 2) rfl
        have fR2 := HR_8.out.warm (j := 2) rfl
        have zR3 := HR_8.out.cell (j := 3) rfl
        have fR3 := HR_8.out.warm (j := 3) rfl
        have zR4 := HR_8.out.cell (j := 4) rfl
        have fR4 := HR_8.out.warm (j := 4) rfl
        have zR5 := HR_8.out.cell (j := 5) rfl
        have fR5 := HR_8.out.warm (j := 5) rfl
        have zR6 := HR_8.out.cell (j := 6) rfl
        have fR6 := HR_8.out.warm (j := 6) rfl
        have zR7 := HR_8.out.cell (j := 7) rfl
        have fR7 := HR_8.out.warm (j := 7) rfl
        have zR8 := HR_8.out.cell (j := 8) rfl
        have fR8 := HR_8.out.warm (j := 8) rfl
        have zR9 := HR_8.out.cell (j := 9) rfl
        have fR9 := HR_8.out.warm (j := 9) rfl
        have zR10 := HR_8.out.cell (j := 10) rfl
        have fR10 := HR_8.out.warm (j := 10) rfl
        have zR11 := HR_8.out.cell (j := 11) rfl
        have fR11 := HR_8.out.warm (j := 11) rfl
        have zR12 := HR_8.out.cell (j := 12) rfl
        have fR12 := HR_8.out.warm (j := 12) rfl
        have HSL := Lib.hid (show W6.heap.size ≤ W7.heap.size from by have := HE1_8.out.2.1; exact this)
        go_wp2
        clear zR0 fR0 zR1 fR1 zR2 fR2 zR3 fR3 zR4 fR4 zR5 fR5 zR6 fR6 zR7 fR7 zR8 fR8 zR9 fR9 zR10 fR10 zR11 fR11 zR12 fR12
        obtain ⟨VF, hVF⟩ : ∃ V, puts W7 (w.heap.size) 0 [.int .i64 (k : Int), .string z0.label, .int .i64 z0.kind, .int .i64 z0.value, .slice X0 m0 q0, .string z1.label, .int .i64 z1.kind, .int .i64 z1.value, .slice X1 m1 q1, .int .i64 p0.at_, .slice Y0 d0 r0, .int .i64 p1.at_, .slice Y1 d1 r1] = V := ⟨_, rfl⟩
        have HB_9 := Lib.hid (pt_bel hVF HB_8.out (show w.heap.size ≤ (w.heap.size) by omega))
        have HR_9 := Lib.hid (show Box VF (w.heap.size) [.int .i64 (k : Int), .string z0.label, .int .i64 z0.kind, .int .i64 z0.value, .slice X0 m0 q0, .string z1.label, .int .i64 z1.kind, .int .i64 z1.value, .slice X1 m1 q1, .int .i64 p0.at_, .slice Y0 d0 r0, .int .i64 p1.at_, .slice Y1 d1 r1] from pt_self hVF HR_8.out (by simp))
        have HE0_9 := Lib.hid (pt_own hVF HE0_8.out (show (w.heap.size) < (w.heap.size + 1) by omega))
        have HQ0_9 := Lib.hid (pt_own hVF HQ0_8.out (show (w.heap.size) < (w.heap.size + 1) by omega))
        have HE1_9 := Lib.hid (pt_own hVF HE1_8.out (show (w.heap.size) < (w.heap.size + 1) by omega))
        have HQ1_9 := Lib.hid (pt_own hVF HQ1_8.out (show (w.heap.size) < (w.heap.size + 1) by omega))
        have HVF := Lib.hid hVF
        clear hVF
        rw [show ((((((((((((W7.setCell ⟨w.heap.size, 0, none⟩ (.int .i64 (k : Int))).setCell ⟨w.heap.size, 1, none⟩ (.string z0.label)).setCell ⟨w.heap.size, 2, none⟩ (.int .i64 z0.kind)).setCell ⟨w.heap.size, 3, none⟩ (.int .i64 z0.value)).setCell ⟨w.heap.size, 4, none⟩ (.slice X0 m0 q0)).setCell ⟨w.heap.size, 5, none⟩ (.string z1.label)).setCell ⟨w.heap.size, 6, none⟩ (.int .i64 z1.kind)).setCell ⟨w.heap.size, 7, none⟩ (.int .i64 z1.value)).setCell ⟨w.heap.size, 8, none⟩ (.slice X1 m1 q1)).setCell ⟨w.heap.size, 9, none⟩ (.int .i64 p0.at_)).setCell ⟨w.heap.size, 10, none⟩ (.slice Y0 d0 r0)).setCell ⟨w.heap.size, 11, none⟩ (.int .i64 p1.at_)).setCell ⟨w.heap.size, 12, none⟩ (.slice Y1 d1 r1) = VF from HVF.out]
        have lVF : W6.heap.size ≤ VF.heap.size := HE1_9.out.2.1
        have lS := HSL.out
        have lM0 := HM0.out
        have lM1 := HM1.out
        have zR0 := HR_9.out.cell (j := 0) rfl
        have zR1 := HR_9.out.cell (j := 1) rfl
        have zR2 := HR_9.out.cell (j := 2) rfl
        have zR3 := HR_9.out.cell (j := 3) rfl
        have zR4 := HR_9.out.cell (j := 4) rfl
        have zR5 := HR_9.out.cell (j := 5) rfl
        have zR6 := HR_9.out.cell (j := 6) rfl
        have zR7 := HR_9.out.cell (j := 7) rfl
        have zR8 := HR_9.out.cell (j := 8) rfl
        have zR9 := HR_9.out.cell (j := 9) rfl
        have zR10 := HR_9.out.cell (j := 10) rfl
        have zR11 := HR_9.out.cell (j := 11) rfl
        have zR12 := HR_9.out.cell (j := 12) rfl
        refine bodyPost_ret (v := .tuple #[.agg #[.int .i64 (k : Int), .string z0.label, .int .i64 z0.kind, .int .i64 z0.value, .slice X0 m0 q0, .string z1.label, .int .i64 z1.kind, .int .i64 z1.value, .slice X1 m1 q1, .int .i64 p0.at_, .slice Y0 d0 r0, .int .i64 p1.at_, .slice Y1 d1 r1], .bool true]) (by simp [results, Tryz.results6, go_sem, zR0, zR1, zR2, zR3, zR4, zR5, zR6, zR7, zR8, zR9, zR10, zR11, zR12]) rfl ⟨[.int .i64 (k : Int), .string z0.label, .int .i64 z0.kind, .int .i64 z0.value, .slice X0 m0 q0, .string z1.label, .int .i64 z1.kind, .int .i64 z1.value, .slice X1 m1 q1, .int .i64 p0.at_, .slice Y0 d0 r0, .int .i64 p1.at_, .slice Y1 d1 r1], rfl, ?_, HB_9.out⟩
        obtain ⟨F1, a1, u1, e1⟩ := HE0_9.out.1
        obtain ⟨F2, a2, u2, e2⟩ := HE1_9.out.1
        obtain ⟨F3, a3, u3, e3⟩ := HQ0_9.out.1
        obtain ⟨F4, a4, u4, e4⟩ := HQ1_9.out.1
        refine own_parts4 (RGap_set.2 ⟨X0, m0, q0, X1, m1, q1, Y0, d0, r0, Y1, d1, r1, F1, F2, F3, F4, rfl, rfl, hKi.out, a1, a2, a3, a4⟩) u1 u2 u3 u4 e1 e2 e3 e4 ?_ ?_ ?_ ?_ ?_ ?_ ?_ ?_ <;> omega
      · rw [proveA_no (.inr (.inr hfe))]
        have hge : (0 : Int) ≤ fndE l s := by omega
        clear hae hil hN0 hN1 HNA
        generalize fndE l s = fe at *
        go_enter Tryz.func6, Tryz.ntmps6
        go_wp2_with fail
        rw [show w.alloc (.cells #[.int .i64 0, .string ⟨#[]⟩, .int .i64 0, .int .i64 0, .slice none 0 0, .string ⟨#[]⟩, .int .i64 0, .int .i64 0, .slice none 0 0, .int .i64 0, .slice none 0 0, .int .i64 0, .slice none 0 0] 34) = V from HV.out.symm]
        refine (HAE.out _ HB_1.out).mono ?_
        rintro e W1 ⟨rfl, hb⟩
        have HB_2 := Lib.hid (HB_1.out.trans (hb.mono HB_1.out.size))
        have HR_2 := Lib.hid (HR_1.out.below hb HR_1.out.lt)
        clear hb
        have zR0 := HR_2.out.cell (j := 0) rfl
        have zR1 := HR_2.out.cell (j := 1) rfl
        have zR2 := HR_2.out.cell (j := 2) rfl
        have zR3 := HR_2.out.cell (j := 3) rfl
        have zR4 := HR_2.out.cell (j := 4) rfl
        have zR5 := HR_2.out.cell (j := 5) rfl
        have zR6 := HR_2.out.cell (j := 6) rfl
        have zR7 := HR_2.out.cell (j := 7) rfl
        have zR8 := HR_2.out.cell (j := 8) rfl
        have zR9 := HR_2.out.cell (j := 9) rfl
        have zR10 := HR_2.out.cell (j := 10) rfl
        have zR11 := HR_2.out.cell (j := 11) rfl
        have zR12 := HR_2.out.cell (j := 12) rfl
        go_wp2_with fail
        clear zR0 zR1 zR2 zR3 zR4 zR5 zR6 zR7 zR8 zR9 zR10 zR11 zR12
        refine (HIL.out _).mono ?_
        rintro e W2 ⟨rfl, hb⟩
        have HB_3 := Lib.hid (HB_2.out.trans (hb.mono HB_2.out.size))
        have HR_3 := Lib.hid (HR_2.out.below hb HR_2.out.lt)
        clear hb
        have zR0 := HR_3.out.cell (j := 0) rfl
        have zR1 := HR_3.out.cell (j := 1) rfl
        have zR2 := HR_3.out.cell (j := 2) rfl
        have zR3 := HR_3.out.cell (j := 3) rfl
        have zR4 := HR_3.out.cell (j := 4) rfl
        have zR5 := HR_3.out.cell (j := 5) rfl
        have zR6 := HR_3.out.cell (j := 6) rfl
        have zR7 := HR_3.out.cell (j := 7) rfl
        have zR8 := HR_3.out.cell (j := 8) rfl
        have zR9 := HR_3.out.cell (j := 9) rfl
        have zR10 := HR_3.out.cell (j := 10) rfl
        have zR11 := HR_3.out.cell (j := 11) rfl
        have zR12 := HR_3.out.cell (j := 12) rfl
        go_wp2_with fail
        clear zR0 zR1 zR2 zR3 zR4 zR5 zR6 zR7 zR8 zR9 zR10 zR11 zR12
        refine (HFE.out _ HB_3.out).mono ?_
        rintro e W3 ⟨rfl, hb⟩
        have HB_4 := Lib.hid (HB_3.out.trans (hb.mono HB_3.out.size))
        have HR_4 := Lib.hid (HR_3.out.below hb HR_3.out.lt)
        clear hb
        have zR0 := HR_4.out.cell (j := 0) rfl
        have fR0 := HR_4.out.warm (j := 0) rfl
        have zR1 := HR_4.out.cell (j := 1) rfl
        have fR1 := HR_4.out.warm (j := 1) rfl
        have zR2 := HR_4.out.cell (j := 2) rfl
        have fR2 := HR_4.out.warm (j := 2) rfl
        have zR3 := HR_4.out.cell (j := 3) rfl
        have fR3 := HR_4.out.warm (j := 3) rfl
        have zR4 := HR_4.out.cell (j := 4) rfl
        have fR4 := HR_4.out.warm (j := 4) rfl
        have zR5 := HR_4.out.cell (j := 5) rfl
        have fR5 := HR_4.out.warm (j := 5) rfl
        have zR6 := HR_4.out.cell (j := 6) rfl
        have fR6 := HR_4.out.warm (j := 6) rfl
        have zR7 := HR_4.out.cell (j := 7) rfl
        have fR7 := HR_4.out.warm (j := 7) rfl
        have zR8 := HR_4.out.cell (j := 8) rfl
        have fR8 := HR_4.out.warm (j := 8) rfl
        have zR9 := HR_4.out.cell (j := 9) rfl
        have fR9 := HR_4.out.warm (j := 9) rfl
        have zR10 := HR_4.out.cell (j := 10) rfl
        have fR10 := HR_4.out.warm (j := 10) rfl
        have zR11 := HR_4.out.cell (j := 11) rfl
        have fR11 := HR_4.out.warm (j := 11) rfl
        have zR12 := HR_4.out.cell (j := 12) rfl
        have fR12 := HR_4.out.warm (j := 12) rfl
        go_wp2
        clear zR0 fR0 zR1 fR1 zR2 fR2 zR3 fR3 zR4 fR4 zR5 fR5 zR6 fR6 zR7 fR7 zR8 fR8 zR9 fR9 zR10 fR10 zR11 fR11 zR12 fR12
        obtain ⟨VF, hVF⟩ : ∃ V, puts W3 (w.heap.size) 0 [.int .i64 0, .string ⟨#[]⟩, .int .i64 0, .int .i64 0, .slice none 0 0, .string ⟨#[]⟩, .int .i64 0, .int .i64 0, .slice none 0 0, .int .i64 0, .slice none 0 0, .int .i64 0, .slice none 0 0] = V := ⟨_, rfl⟩
        have HB_5 := Lib.hid (pt_bel hVF HB_4.out (show w.heap.size ≤ (w.heap.size) by omega))
        have HR_5 := Lib.hid (show Box VF (w.heap.size) [.int .i64 0, .string ⟨#[]⟩, .int .i64 0, .int .i64 0, .slice none 0 0, .string ⟨#[]⟩, .int .i64 0, .int .i64 0, .slice none 0 0, .int .i64 0, .slice none 0 0, .int .i64 0, .slice none 0 0] from pt_self hVF HR_4.out (by simp))
        have HVF := Lib.hid hVF
        clear hVF
        rw [show ((((((((((((W3.setCell ⟨w.heap.size, 0, none⟩ (.int .i64 0)).setCell ⟨w.heap.size, 1, none⟩ (.string ⟨#[]⟩)).setCell ⟨w.heap.size, 2, none⟩ (.int .i64 0)).setCell ⟨w.heap.size, 3, none⟩ (.int .i64 0)).setCell ⟨w.heap.size, 4, none⟩ (.slice none 0 0)).setCell ⟨w.heap.size, 5, none⟩ (.string ⟨#[]⟩)).setCell ⟨w.heap.size, 6, none⟩ (.int .i64 0)).setCell ⟨w.heap.size, 7, none⟩ (.int .i64 0)).setCell ⟨w.heap.size, 8, none⟩ (.slice none 0 0)).setCell ⟨w.heap.size, 9, none⟩ (.int .i64 0)).setCell ⟨w.heap.size, 10, none⟩ (.slice none 0 0)).setCell ⟨w.heap.size, 11, none⟩ (.int .i64 0)).setCell ⟨w.heap.size, 12, none⟩ (.slice none 0 0) = VF from HVF.out]
        have zR0 := HR_5.out.cell (j := 0) rfl
        have zR1 := HR_5.out.cell (j := 1) rfl
        have zR2 := HR_5.out.cell (j := 2) rfl
        have zR3 := HR_5.out.cell (j := 3) rfl
        have zR4 := HR_5.out.cell (j := 4) rfl
        have zR5 := HR_5.out.cell (j := 5) rfl
        have zR6 := HR_5.out.cell (j := 6) rfl
        have zR7 := HR_5.out.cell (j := 7) rfl
        have zR8 := HR_5.out.cell (j := 8) rfl
        have zR9 := HR_5.out.cell (j := 9) rfl
        have zR10 := HR_5.out.cell (j := 10) rfl
        have zR11 := HR_5.out.cell (j := 11) rfl
        have zR12 := HR_5.out.cell (j := 12) rfl
        refine bodyPost_ret (v := .tuple #[.agg #[.int .i64 0, .string ⟨#[]⟩, .int .i64 0, .int .i64 0, .slice none 0 0, .string ⟨#[]⟩, .int .i64 0, .int .i64 0, .slice none 0 0, .int .i64 0, .slice none 0 0, .int .i64 0, .slice none 0 0], .bool false]) (by simp [results, Tryz.results6, go_sem, zR0, zR1, zR2, zR3, zR4, zR5, zR6, zR7, zR8, zR9, zR10, zR11, zR12]) rfl ⟨[.int .i64 0, .string ⟨#[]⟩, .int .i64 0, .int .i64 0, .slice none 0 0, .string ⟨#[]⟩, .int .i64 0, .int .i64 0, .slice none 0 0, .int .i64 0, .slice none 0 0, .int .i64 0, .slice none 0 0], rfl, ?_, HB_5.out⟩
        exact zero_ownG _ _ _ (by have := HB_5.out.size; omega)
end Go.Proofs.YtbhhifoofapgiaaGreat.C12IP
