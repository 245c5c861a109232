/- Chapter 12: what the model's ProveAbsence returns. -/
import Derived.Test.YtbhhifoofapgiaaGreatC12S
import Derived.Test.YtbhhifoofapgiaaGreatBX
namespace Go.Proofs.YtbhhifoofapgiaaGreat.C12SP
open Go.RowKit Mem MemS M02 M03 M04 M05 M08 M09 M10 M10F M11 M12P M12 C01 C02 C03S C03H C03D C04S C04I C05S C08S C09S C09SP C10S C11S C12S Rep RW R08 Q08 R11 R12 RKA BX
set_option linter.unusedVariables false
set_option linter.unusedSimpArgs false
set_option maxRecDepth 100000
theorem elem {w : World} {A : Option Addr} {n j : Nat} {l : List Entry} (h : FRdEntry w w.heap.size A n l) (hn : totR totEntry l ≤ 1048576) (hj : j < n) : ∃ b off A3 n3 c3, A = some ⟨b, off, none⟩ ∧ b < w.heap.size ∧ w.cell? ⟨b, off + j * 4, none⟩ = some (.string (at0 l j).label) ∧ w.cell? ⟨b, off + j * 4 + 1, none⟩ = some (.int .i64 (at0 l j).kind) ∧ w.cell? ⟨b, off + j * 4 + 2, none⟩ = some (.int .i64 (at0 l j).value) ∧ w.cell? ⟨b, off + j * 4 + 3, none⟩ = some (.slice A3 n3 c3) ∧
    REntry.rd w (Lt w.heap.size) [.string (at0 l j).label, .int .i64 (at0 l j).kind, .int .i64 (at0 l j).value, .slice A3 n3 c3] (at0 l j) ∧ totEntry (at0 l j) ≤ 1048576 := by
  have hl := h.len
  have ht : totEntry (at0 l j) ≤ totR totEntry l := totR_mem totEntry (by omega)
  obtain ⟨b, off, cs, rfl, hlt, hrd, hcc⟩ := h.at hj
  have hrd2 : REntry.rd w (Lt w.heap.size) cs (at0 l j) := hrd
  obtain ⟨A3, n3, c3, rfl⟩ := REntry_shape hrd2
  exact ⟨b, off, A3, n3, c3, rfl, hlt, hcc 0 (by decide), hcc 1 (by decide), hcc 2 (by decide), hcc 3 (by decide), hrd2, by omega⟩
theorem zero_ownE (w : World) (q : Nat) : OwnI REntry w q q [.string ⟨#[]⟩, .int .i64 0, .int .i64 0, .slice none 0 0] zeroE :=
  REntry_own.2 ⟨none, 0, 0, rfl, Nat.zero_le _, (show In .i64 0 from inI64 (by omega) (by omega)), (show In .i64 0 from inI64 (by omega) (by omega)), OwnS.nil _ _ _⟩
theorem zero_ownP (w : World) (q : Nat) : OwnI RProof w q q [.int .i64 0, .slice none 0 0] zeroP := RProof_own.2 ⟨none, 0, 0, rfl, (show In .i64 0 from inI64 (by omega) (by omega)), Mem.Own.nil _ _ _ _⟩
theorem zero_ownG (w : World) (lo hi : Nat) (h : lo ≤ hi) : OwnI RGap w lo hi [.int .i64 0, .string ⟨#[]⟩, .int .i64 0, .int .i64 0, .slice none 0 0, .string ⟨#[]⟩, .int .i64 0, .int .i64 0, .slice none 0 0, .int .i64 0, .slice none 0 0, .int .i64 0, .slice none 0 0] zeroG := by
  obtain ⟨F1, a1, u1, e1⟩ := zero_ownE w lo
  obtain ⟨F3, a3, u3, e3⟩ := zero_ownP w lo
  exact own_parts4 (RGap_set.2 ⟨none, 0, 0, none, 0, 0, none, 0, 0, none, 0, 0, F1, F1, F3, F3, rfl, rfl, (show In .i64 0 from inI64 (by omega) (by omega)), a1, a1, a3, a3⟩) u1 u1 u3 u3 e1 e1 e3 e3 ⟨Nat.le_refl _, Nat.le_refl _, Nat.le_refl _, Nat.le_refl _⟩ ⟨h, h, h, h⟩ (.inl (Nat.le_refl _)) (.inl (Nat.le_refl _)) (.inl (Nat.le_refl _)) (.inl (Nat.le_refl _)) (.inl (Nat.le_refl _)) (.inl (Nat.le_refl _))
set_option maxHeartbeats 8000000 in
theorem sProveAbsence_any (A : Option Addr) (n c : Nat) (l : List Entry) (s : ByteArray) (w : World) (h : FRdEntry w w.heap.size A n l) (hn : totR totEntry l ≤ 1048576) (hs : s.size ≤ 1099511627776) :
    Calls Tryz.prog 7 #[.slice A n c, .string s] w fun e w' => ∃ cs, e = .returned (.tuple #[.agg (List.toArray cs), .bool (proveA l s).2]) ∧ OwnI RGap w' w.heap.size w'.heap.size cs (proveA l s).1 ∧ Below w.heap.size w w' := by
  have hl := h.len
  have hn2 : n ≤ 1048576 := by have := totR_len totEntry l; omega
  have HAE := Lib.hid (fun w1 (hb : Below w.heap.size w w1) => sAreEntries_any A n c l w1 (fup h hb) (by omega))
  have HIL := Lib.hid (fun w1 => sIsLabel_any s w1 hs)
  have HFE := Lib.hid (fun w1 (hb : Below w.heap.size w w1) => sFindEntry_any A n c l s w1 (fup h hb) (by omega))
  have HRK := Lib.hid (fun w1 (hb : Below w.heap.size w w1) => sRankOf_any A n c l s w1 (fup h hb) (by omega))
  have HPE := Lib.hid (fun t w1 (hb : Below w.heap.size w w1) => sProveEntry_any A n c l t w1 (fup h hb) hn)
  have HEL := Lib.hid (fun (j : Nat) (hj : j < n) => elem h hn hj)
  have hrl := rank_le l s
  rw [hl] at hrl
  have hfr : -1 ≤ fndE l s ∧ fndE l s ≤ 1048576 := by have := fnd_range l s; omega
  clear h hn
  obtain ⟨V, hV⟩ : ∃ V, V = w.alloc (.cells #[.int .i64 0, .string ⟨#[]⟩, .int .i64 0, .int .i64 0, .slice none 0 0, .string ⟨#[]⟩, .int .i64 0, .int .i64 0, .slice none 0 0, .int .i64 0, .slice none 0 0, .int .i64 0, .slice none 0 0] 34) := ⟨_, rfl⟩
  have HB_1 := Lib.hid (show Below w.heap.size w V from by
    rw [hV]
    exact (Below.refl _ _).alloc (by first | (simp; done) | (simp; omega)) _)
  have HR_1 := Lib.hid (show Box V (w.heap.size) [.int .i64 0, .string ⟨#[]⟩, .int .i64 0, .int .i64 0, .slice none 0 0, .string ⟨#[]⟩, .int .i64 0, .int .i64 0, .slice none 0 0, .int .i64 0, .slice none 0 0, .int .i64 0, .slice none 0 0] from by
    rw [hV]
    have := (Box.new w #[.int .i64 0, .string ⟨#[]⟩, .int .i64 0, .int .i64 0, .slice none 0 0, .string ⟨#[]⟩, .int .i64 0, .int .i64 0, .slice none 0 0, .int .i64 0, .slice none 0 0, .int .i64 0, .slice none 0 0] 34)
    simpa using this)
  have HV := Lib.hid hV
  clear hV
  rcases hae : areE l with _ | _
  · rw [proveA_no (.inl hae)]
    rw [hae] at HAE
    go_enter Tryz.func7, Tryz.ntmps7
    go_wp2_with fail
    rw [show w.alloc (.cells #[.int .i64 0, .string ⟨#[]⟩, .int .i64 0, .int .i64 0, .slice none 0 0, .string ⟨#[]⟩, .int .i64 0, .int .i64 0, .slice none 0 0, .int .i64 0, .slice none 0 0, .int .i64 0, .slice none 0 0] 34) = V from HV.out.symm]
    refine (HAE.out _ HB_1.out).mono ?_
    rintro e W1 ⟨rfl, hb⟩
    have HB_2 := Lib.hid (HB_1.out.trans (hb.mono HB_1.out.size))
    have HR_2 := Lib.hid (HR_1.out.below hb HR_1.out.lt)
    clear hb
    have zR0 := HR_2.out.cell (j := 0) rfl
    have fR0 := HR_2.out.warm (j := 0) rfl
    have zR1 := HR_2.out.cell (j := 1) rfl
    have fR1 := HR_2.out.warm (j := 1) rfl
    have zR2 := HR_2.out.cell (j := 2) rfl
    have fR2 := HR_2.out.warm (j := 2) rfl
    have zR3 := HR_2.out.cell (j := 3) rfl
    have fR3 := HR_2.out.warm (j := 3) rfl
    have zR4 := HR_2.out.cell (j := 4) rfl
    have fR4 := HR_2.out.warm (j := 4) rfl
    have zR5 := HR_2.out.cell (j := 5) rfl
    have fR5 := HR_2.out.warm (j := 5) rfl
    have zR6 := HR_2.out.cell (j := 6) rfl
    have fR6 := HR_2.out.warm (j := 6) rfl
    have zR7 := HR_2.out.cell (j := 7) rfl
    have fR7 := HR_2.out.warm (j := 7) rfl
    have zR8 := HR_2.out.cell (j := 8) rfl
    have fR8 := HR_2.out.warm (j := 8) rfl
    have zR9 := HR_2.out.cell (j := 9) rfl
    have fR9 := HR_2.out.warm (j := 9) rfl
    have zR10 := HR_2.out.cell (j := 10) rfl
    have fR10 := HR_2.out.warm (j := 10) rfl
    have zR11 := HR_2.out.cell (j := 11) rfl
    have fR11 := HR_2.out.warm (j := 11) rfl
    have zR12 := HR_2.out.cell (j := 12) rfl
    have fR12 := HR_2.out.warm (j := 12) rfl
    go_wp2
    clear zR0 fR0 zR1 fR1 zR2 fR2 zR3 fR3 zR4 fR4 zR5 fR5 zR6 fR6 zR7 fR7 zR8 fR8 zR9 fR9 zR10 fR10 zR11 fR11 zR12 fR12
    obtain ⟨VF, hVF⟩ : ∃ V, puts W1 (w.heap.size) 0 [.int .i64 0, .string ⟨#[]⟩, .int .i64 0, .int .i64 0, .slice none 0 0, .string ⟨#[]⟩, .int .i64 0, .int .i64 0, .slice none 0 0, .int .i64 0, .slice none 0 0, .int .i64 0, .slice none 0 0] = V := ⟨_, rfl⟩
    have HB_3 := Lib.hid (pt_bel hVF HB_2.out (show w.heap.size ≤ (w.heap.size) by omega))
    have HR_3 := Lib.hid (show Box VF (w.heap.size) [.int .i64 0, .string ⟨#[]⟩, .int .i64 0, .int .i64 0, .slice none 0 0, .string ⟨#[]⟩, .int .i64 0, .int .i64 0, .slice none 0 0, .int .i64 0, .slice none 0 0, .int .i64 0, .slice none 0 0] from pt_self hVF HR_2.out (by simp))
    have HVF := Lib.hid hVF
    clear hVF
    rw [show ((((((((((((W1.setCell ⟨w.heap.size, 0, none⟩ (.int .i64 0)).setCell ⟨w.heap.size, 1, none⟩ (.string ⟨#[]⟩)).setCell ⟨w.heap.size, 2, none⟩ (.int .i64 0)).setCell ⟨w.heap.size, 3, none⟩ (.int .i64 0)).setCell ⟨w.heap.size, 4, none⟩ (.slice none 0 0)).setCell ⟨w.heap.size, 5, none⟩ (.string ⟨#[]⟩)).setCell ⟨w.heap.size, 6, none⟩ (.int .i64 0)).setCell ⟨w.heap.size, 7, none⟩ (.int .i64 0)).setCell ⟨w.heap.size, 8, none⟩ (.slice none 0 0)).setCell ⟨w.heap.size, 9, none⟩ (.int .i64 0)).setCell ⟨w.heap.size, 10, none⟩ (.slice none 0 0)).setCell ⟨w.heap.size, 11, none⟩ (.int .i64 0)).setCell ⟨w.heap.size, 12, none⟩ (.slice none 0 0) = VF from HVF.out]
    have zR0 := HR_3.out.cell (j := 0) rfl
    have zR1 := HR_3.out.cell (j := 1) rfl
    have zR2 := HR_3.out.cell (j := 2) rfl
    have zR3 := HR_3.out.cell (j := 3) rfl
    have zR4 := HR_3.out.cell (j := 4) rfl
    have zR5 := HR_3.out.cell (j := 5) rfl
    have zR6 := HR_3.out.cell (j := 6) rfl
    have zR7 := HR_3.out.cell (j := 7) rfl
    have zR8 := HR_3.out.cell (j := 8) rfl
    have zR9 := HR_3.out.cell (j := 9) rfl
    have zR10 := HR_3.out.cell (j := 10) rfl
    have zR11 := HR_3.out.cell (j := 11) rfl
    have zR12 := HR_3.out.cell (j := 12) rfl
    refine bodyPost_ret (v := .tuple #[.agg #[.int .i64 0, .string ⟨#[]⟩, .int .i64 0, .int .i64 0, .slice none 0 0, .string ⟨#[]⟩, .int .i64 0, .int .i64 0, .slice none 0 0, .int .i64 0, .slice none 0 0, .int .i64 0, .slice none 0 0], .bool false]) (by simp [results, Tryz.results7, go_sem, zR0, zR1, zR2, zR3, zR4, zR5, zR6, zR7, zR8, zR9, zR10, zR11, zR12]) rfl ⟨[.int .i64 0, .string ⟨#[]⟩, .int .i64 0, .int .i64 0, .slice none 0 0, .string ⟨#[]⟩, .int .i64 0, .int .i64 0, .slice none 0 0, .int .i64 0, .slice none 0 0, .int .i64 0, .slice none 0 0], rfl, ?_, HB_3.out⟩
    exact zero_ownG _ _ _ (by have := HB_3.out.size; omega)
  · rw [hae] at HAE
    rcases hil : isLab s with _ | _
    · rw [proveA_no (.inr (.inl hil))]
      rw [hil] at HIL
      go_enter Tryz.func7, Tryz.ntmps7
      go_wp2_with fail
      rw [show w.alloc (.cells #[.int .i64 0, .string ⟨#[]⟩, .int .i64 0, .int .i64 0, .slice none 0 0, .string ⟨#[]⟩, .int .i64 0, .int .i64 0, .slice none 0 0, .int .i64 0, .slice none 0 0, .int .i64 0, .slice none 0 0] 34) = V from HV.out.symm]
      refine (HAE.out _ HB_1.out).mono ?_
      rintro e W1 ⟨rfl, hb⟩
      have HB_2 := Lib.hid (HB_1.out.trans (hb.mono HB_1.out.size))
      have HR_2 := Lib.hid (HR_1.out.below hb HR_1.out.lt)
      clear hb
      have zR0 := HR_2.out.cell (j := 0) rfl
      have zR1 := HR_2.out.cell (j := 1) rfl
      have zR2 := HR_2.out.cell (j := 2) rfl
      have zR3 := HR_2.out.cell (j := 3) rfl
      have zR4 := HR_2.out.cell (j := 4) rfl
      have zR5 := HR_2.out.cell (j := 5) rfl
      have zR6 := HR_2.out.cell (j := 6) rfl
      have zR7 := HR_2.out.cell (j := 7) rfl
      have zR8 := HR_2.out.cell (j := 8) rfl
      have zR9 := HR_2.out.cell (j := 9) rfl
      have zR10 := HR_2.out.cell (j := 10) rfl
      have zR11 := HR_2.out.cell (j := 11) rfl
      have zR12 := HR_2.out.cell (j := 12) rfl
      go_wp2_with fail
      clear zR0 zR1 zR2 zR3 zR4 zR5 zR6 zR7 zR8 zR9 zR10 zR11 zR12
      refine (HIL.out _).mono ?_
      rintro e w2 ⟨rfl, rfl⟩
      have zR0 := HR_2.out.cell (j := 0) rfl
      have fR0 := HR_2.out.warm (j := 0) rfl
      have zR1 := HR_2.out.cell (j := 1) rfl
      have fR1 := HR_2.out.warm (j := 1) rfl
      have zR2 := HR_2.out.cell (j := 2) rfl
      have fR2 := HR_2.out.warm (j := 2) rfl
      have zR3 := HR_2.out.cell (j := 3) rfl
      have fR3 := HR_2.out.warm (j := 3) rfl
      have zR4 := HR_2.out.cell (j := 4) rfl
      have fR4 := HR_2.out.warm (j := 4) rfl
      have zR5 := HR_2.out.cell (j := 5) rfl
      have fR5 := HR_2.out.warm (j := 5) rfl
      have zR6 := HR_2.out.cell (j := 6) rfl
      have fR6 := HR_2.out.warm (j := 6) rfl
      have zR7 := HR_2.out.cell (j := 7) rfl
      have fR7 := HR_2.out.warm (j := 7) rfl
      have zR8 := HR_2.out.cell (j := 8) rfl
      have fR8 := HR_2.out.warm (j := 8) rfl
      have zR9 := HR_2.out.cell (j := 9) rfl
      have fR9 := HR_2.out.warm (j := 9) rfl
      have zR10 := HR_2.out.cell (j := 10) rfl
      have fR10 := HR_2.out.warm (j := 10) rfl
      have zR11 := HR_2.out.cell (j := 11) rfl
      have fR11 := HR_2.out.warm (j := 11) rfl
      have zR12 := HR_2.out.cell (j := 12) rfl
      have fR12 := HR_2.out.warm (j := 12) rfl
      go_wp2
      clear zR0 fR0 zR1 fR1 zR2 fR2 zR3 fR3 zR4 fR4 zR5 fR5 zR6 fR6 zR7 fR7 zR8 fR8 zR9 fR9 zR10 fR10 zR11 fR11 zR12 fR12
      obtain ⟨VF, hVF⟩ : ∃ V, puts W1 (w.heap.size) 0 [.int .i64 0, .string ⟨#[]⟩, .int .i64 0, .int .i64 0, .slice none 0 0, .string ⟨#[]⟩, .int .i64 0, .int .i64 0, .slice none 0 0, .int .i64 0, .slice none 0 0, .int .i64 0, .slice none 0 0] = V := ⟨_, rfl⟩
      have HB_3 := Lib.hid (pt_bel hVF HB_2.out (show w.heap.size ≤ (w.heap.size) by omega))
      have HR_3 := Lib.hid (show Box VF (w.heap.size) [.int .i64 0, .string ⟨#[]⟩, .int .i64 0, .int .i64 0, .slice none 0 0, .string ⟨#[]⟩, .int .i64 0, .int .i64 0, .slice none 0 0, .int .i64 0, .slice none 0 0, .int .i64 0, .slice none 0 0] from pt_self hVF HR_2.out (by simp))
      have HVF := Lib.hid hVF
      clear hVF
      rw [show ((((((((((((W1.setCell ⟨w.heap.size, 0, none⟩ (.int .i64 0)).setCell ⟨w.heap.size, 1, none⟩ (.string ⟨#[]⟩)).setCell ⟨w.heap.size, 2, none⟩ (.int .i64 0)).setCell ⟨w.heap.size, 3, none⟩ (.int .i64 0)).setCell ⟨w.heap.size, 4, none⟩ (.slice none 0 0)).setCell ⟨w.heap.size, 5, none⟩ (.string ⟨#[]⟩)).setCell ⟨w.heap.size, 6, none⟩ (.int .i64 0)).setCell ⟨w.heap.size, 7, none⟩ (.int .i64 0)).setCell ⟨w.heap.size, 8, none⟩ (.slice none 0 0)).setCell ⟨w.heap.size, 9, none⟩ (.int .i64 0)).setCell ⟨w.heap.size, 10, none⟩ (.slice none 0 0)).setCell ⟨w.heap.size, 11, none⟩ (.int .i64 0)).setCell ⟨w.heap.size, 12, none⟩ (.slice none 0 0) = VF from HVF.out]
      have zR0 := HR_3.out.cell (j := 0) rfl
      have zR1 := HR_3.out.cell (j := 1) rfl
      have zR2 := HR_3.out.cell (j := 2) rfl
      have zR3 := HR_3.out.cell (j := 3) rfl
      have zR4 := HR_3.out.cell (j := 4) rfl
      have zR5 := HR_3.out.cell (j := 5) rfl
      have zR6 := HR_3.out.cell (j := 6) rfl
      have zR7 := HR_3.out.cell (j := 7) rfl
      have zR8 := HR_3.out.cell (j := 8) rfl
      have zR9 := HR_3.out.cell (j := 9) rfl
      have zR10 := HR_3.out.cell (j := 10) rfl
      have zR11 := HR_3.out.cell (j := 11) rfl
      have zR12 := HR_3.out.cell (j := 12) rfl
      refine bodyPost_ret (v := .tuple #[.agg #[.int .i64 0, .string ⟨#[]⟩, .int .i64 0, .int .i64 0, .slice none 0 0, .string ⟨#[]⟩, .int .i64 0, .int .i64 0, .slice none 0 0, .int .i64 0, .slice none 0 0, .int .i64 0, .slice none 0 0], .bool false]) (by simp [results, Tryz.results7, go_sem, zR0, zR1, zR2, zR3, zR4, zR5, zR6, zR7, zR8, zR9, zR10, zR11, zR12]) rfl ⟨[.int .i64 0, .string ⟨#[]⟩, .int .i64 0, .int .i64 0, .slice none 0 0, .string ⟨#[]⟩, .int .i64 0, .int .i64 0, .slice none 0 0, .int .i64 0, .slice none 0 0, .int .i64 0, .slice none 0 0], rfl, ?_, HB_3.out⟩
      exact zero_ownG _ _ _ (by have := HB_3.out.size; omega)
    · rw [hil] at HIL
      by_cases hfe : fndE l s < 0
      · rw [proveA_yes hae hil hfe]
        have hge : ¬ (0 : Int) ≤ fndE l s := by omega
        generalize fndE l s = fe at *
        obtain ⟨k, hk⟩ : ∃ k, k = rankN l s := ⟨_, rfl⟩
        rw [← hk] at HRK hrl ⊢
        clear hae hil hk
        rcases Nat.eq_zero_or_pos k with hk0 | hk0
        · subst hk0
          rcases Nat.lt_or_ge 0 n with hkn | hkn
          · have hki : (0 : Int) < n := by omega
            obtain ⟨b_, off_, A6, n6, c6, hA, hltb, d4, d5, d6, d7, hrd, htz⟩ := HEL.out 0 hkn
            subst hA
            have haf : aftE l 0 = at0 l 0 := by unfold aftE; rw [if_pos (by omega)]
            have hri : rigP l 0 = (proveE l (at0 l 0).label).1 := by unfold rigP; rw [if_pos (by omega)]
            simp only [Nat.zero_mul, Nat.add_zero] at d4 d5 d6 d7
            generalize at0 l 0 = z1 at d4 d5 d6 hrd htz haf hri
            have HP1 := Lib.hid (fun w1 hb => HPE.out z1.label w1 hb)
            generalize proveE l z1.label = pr1 at HP1 hri
            obtain ⟨p1, ok1⟩ := pr1
            simp only at HP1 hri
            have HC1 := Lib.hid (fun w1 (hb : Below w.heap.size w w1) => l8Copy_any _ z1 w1 (upE hrd hb) (by omega))
            have HD4 := Lib.hid d4
            have HD5 := Lib.hid d5
            have HD6 := Lib.hid d6
            have HD7 := Lib.hid d7
            clear d4 d5 d6 d7 hrd htz
            have hbe : befE l 0 = zeroE := by unfold befE; rw [if_neg (by omega)]
            have hle : lefP l 0 = zeroP := by unfold lefP; rw [if_neg (by omega)]
            have HGA := Lib.hid (show gapAt l 0 = ⟨(0 : Int), zeroE, z1, zeroP, p1⟩ from by unfold gapAt; rw [hbe, haf, hle, hri]; try rfl)
            rw [HGA.out]
            have hKi := Lib.hid (show In .i64 (0 : Int) from inI64 (by omega) (by omega))
            clear hbe haf hle hri HPE HEL
            go_enter Tryz.func7, Tryz.ntmps7
            go_wp2_with fail
            rw [show w.alloc (.cells #[.int .i64 0, .string ⟨#[]⟩, .int .i64 0, .int .i64 0, .slice none 0 0, .string ⟨#[]⟩, .int .i64 0, .int .i64 0, .slice none 0 0, .int .i64 0, .slice none 0 0, .int .i64 0, .slice none 0 0] 34) = V from HV.out.symm]
            refine (HAE.out _ HB_1.out).mono ?_
            rintro e W1 ⟨rfl, hb⟩
            have HB_2 := Lib.hid (HB_1.out.trans (hb.mono HB_1.out.size))
            have HR_2 := Lib.hid (HR_1.out.below hb HR_1.out.lt)
            clear hb
            have zR0 := HR_2.out.cell (j := 0) rfl
            have zR1 := HR_2.out.cell (j := 1) rfl
            have zR2 := HR_2.out.cell (j := 2) rfl
            have zR3 := HR_2.out.cell (j := 3) rfl
            have zR4 := HR_2.out.cell (j := 4) rfl
            have zR5 := HR_2.out.cell (j := 5) rfl
            have zR6 := HR_2.out.cell (j := 6) rfl
            have zR7 := HR_2.out.cell (j := 7) rfl
            have zR8 := HR_2.out.cell (j := 8) rfl
            have zR9 := HR_2.out.cell (j := 9) rfl
            have zR10 := HR_2.out.cell (j := 10) rfl
            have zR11 := HR_2.out.cell (j := 11) rfl
            have zR12 := HR_2.out.cell (j := 12) rfl
            go_wp2_with fail
            clear zR0 zR1 zR2 zR3 zR4 zR5 zR6 zR7 zR8 zR9 zR10 zR11 zR12
            refine (HIL.out _).mono ?_
            rintro e w2 ⟨rfl, rfl⟩
            have zR0 := HR_2.out.cell (j := 0) rfl
            have zR1 := HR_2.out.cell (j := 1) rfl
            have zR2 := HR_2.out.cell (j := 2) rfl
            have zR3 := HR_2.out.cell (j := 3) rfl
            have zR4 := HR_2.out.cell (j := 4) rfl
            have zR5 := HR_2.out.cell (j := 5) rfl
            have zR6 := HR_2.out.cell (j := 6) rfl
            have zR7 := HR_2.out.cell (j := 7) rfl
            have zR8 := HR_2.out.cell (j := 8) rfl
            have zR9 := HR_2.out.cell (j := 9) rfl
            have zR10 := HR_2.out.cell (j := 10) rfl
            have zR11 := HR_2.out.cell (j := 11) rfl
            have zR12 := HR_2.out.cell (j := 12) rfl
            go_wp2_with fail
            clear zR0 zR1 zR2 zR3 zR4 zR5 zR6 zR7 zR8 zR9 zR10 zR11 zR12
            refine (HFE.out _ HB_2.out).mono ?_
            rintro e w2 ⟨rfl, rfl⟩
            have zR0 := HR_2.out.cell (j := 0) rfl
            have zR1 := HR_2.out.cell (j := 1) rfl
            have zR2 := HR_2.out.cell (j := 2) rfl
            have zR3 := HR_2.out.cell (j := 3) rfl
            have zR4 := HR_2.out.cell (j := 4) rfl
            have zR5 := HR_2.out.cell (j := 5) rfl
            have zR6 := HR_2.out.cell (j := 6) rfl
            have zR7 := HR_2.out.cell (j := 7) rfl
            have zR8 := HR_2.out.cell (j := 8) rfl
            have zR9 := HR_2.out.cell (j := 9) rfl
            have zR10 := HR_2.out.cell (j := 10) rfl
            have zR11 := HR_2.out.cell (j := 11) rfl
            have zR12 := HR_2.out.cell (j := 12) rfl
            go_wp2_with fail
            clear zR0 zR1 zR2 zR3 zR4 zR5 zR6 zR7 zR8 zR9 zR10 zR11 zR12
            refine (HRK.out _ HB_2.out).mono ?_
            rintro e w2 ⟨rfl, rfl⟩
            have hW1 : w.heap.size < W1.heap.size := HR_2.out.lt
            have hal : Below W1.heap.size W1 (W1.alloc (.cells #[.int .i64 0, .string ⟨#[]⟩, .int .i64 0, .int .i64 0, .slice none 0 0, .string ⟨#[]⟩, .int .i64 0, .int .i64 0, .slice none 0 0, .int .i64 0, .slice none 0 0, .int .i64 0, .slice none 0 0] 34)) := (Below.refl _ _).alloc (Nat.le_refl _) _
            have HB_3 := Lib.hid (HB_2.out.trans (hal.mono HB_2.out.size))
            have HR_3 := Lib.hid (HR_2.out.below hal HR_2.out.lt)
            have HY_3 := Lib.hid (show Box (W1.alloc (.cells #[.int .i64 0, .string ⟨#[]⟩, .int .i64 0, .int .i64 0, .slice none 0 0, .string ⟨#[]⟩, .int .i64 0, .int .i64 0, .slice none 0 0, .int .i64 0, .slice none 0 0, .int .i64 0, .slice none 0 0] 34)) (W1.heap.size) [.int .i64 0, .string ⟨#[]⟩, .int .i64 0, .int .i64 0, .slice none 0 0, .string ⟨#[]⟩, .int .i64 0, .int .i64 0, .slice none 0 0, .int .i64 0, .slice none 0 0, .int .i64 0, .slice none 0 0] from Box.new W1 #[.int .i64 0, .string ⟨#[]⟩, .int .i64 0, .int .i64 0, .slice none 0 0, .string ⟨#[]⟩, .int .i64 0, .int .i64 0, .slice none 0 0, .int .i64 0, .slice none 0 0, .int .i64 0, .slice none 0 0] 34)
            obtain ⟨V2, hV2⟩ : ∃ V, W1.alloc (.cells #[.int .i64 0, .string ⟨#[]⟩, .int .i64 0, .int .i64 0, .slice none 0 0, .string ⟨#[]⟩, .int .i64 0, .int .i64 0, .slice none 0 0, .int .i64 0, .slice none 0 0, .int .i64 0, .slice none 0 0] 34) = V := ⟨_, rfl⟩
            rw [hV2] at HB_3 HR_3 HY_3
            have HV2 := Lib.hid hV2
            clear hal
            have HS := Lib.hid (show W1.heap.size + 1 ≤ V2.heap.size from HY_3.out.lt)
            clear hV2
            have c0 : V2.cell? ⟨b_, off_, none⟩ = some (.string z1.label) := (HB_3.out.cell (p := ⟨b_, off_, none⟩) hltb).trans HD4.out
            have c1 : V2.cell? ⟨b_, off_ + 1, none⟩ = some (.int .i64 z1.kind) := (HB_3.out.cell (p := ⟨b_, off_ + 1, none⟩) hltb).trans HD5.out
            have c2 : V2.cell? ⟨b_, off_ + 2, none⟩ = some (.int .i64 z1.value) := (HB_3.out.cell (p := ⟨b_, off_ + 2, none⟩) hltb).trans HD6.out
            have c3 : V2.cell? ⟨b_, off_ + 3, none⟩ = some (.slice A6 n6 c6) := (HB_3.out.cell (p := ⟨b_, off_ + 3, none⟩) hltb).trans HD7.out
            have eV : V2 = W1.alloc (.cells #[.int .i64 0, .string ⟨#[]⟩, .int .i64 0, .int .i64 0, .slice none 0 0, .string ⟨#[]⟩, .int .i64 0, .int .i64 0, .slice none 0 0, .int .i64 0, .slice none 0 0, .int .i64 0, .slice none 0 0] 34) := (HV2.out).symm
            rw [eV] at c0 c1 c2 c3
            clear eV
            go_wp2_with fail
            clear c0 c1 c2 c3
            rw [HV2.out]
            refine (HC1.out _ HB_3.out).mono ?_
            rintro e W5 ⟨cs5, rfl, ho, hb⟩
            obtain ⟨X5, m5, q5, rfl⟩ := REntry_shape ho.rd
            have HB_4 := Lib.hid (HB_3.out.trans (hb.mono HB_3.out.size))
            have HR_4 := Lib.hid (HR_3.out.below hb HR_3.out.lt)
            have HY_4 := Lib.hid (HY_3.out.below hb HY_3.out.lt)
            have HS5 := Lib.hid (show V2.heap.size ≤ W5.heap.size from hb.size)
            have HE5_4 := Lib.hid (show OwnI REntry W5 (V2.heap.size) (W5.heap.size) [.string z1.label, .int .i64 z1.kind, .int .i64 z1.value, .slice X5 m5 q5] z1 ∧ (W5.heap.size) ≤ W5.heap.size ∧ (W1.heap.size + 1) ≤ (V2.heap.size) from ⟨ho, Nat.le_refl _, by have := HS.out;  omega⟩)
            clear hb ho
            have zY0 := HY_4.out.cell (j := 0) rfl
            have fY0 := HY_4.out.warm (j := 0) rfl
            have zY1 := HY_4.out.cell (j := 1) rfl
            have fY1 := HY_4.out.warm (j := 1) rfl
            have zY2 := HY_4.out.cell (j := 2) rfl
            have fY2 := HY_4.out.warm (j := 2) rfl
            have zY3 := HY_4.out.cell (j := 3) rfl
            have fY3 := HY_4.out.warm (j := 3) rfl
            have zY4 := HY_4.out.cell (j := 4) rfl
            have fY4 := HY_4.out.warm (j := 4) rfl
            have zY5 := HY_4.out.cell (j := 5) rfl
            have fY5 := HY_4.out.warm (j := 5) rfl
            have zY6 := HY_4.out.cell (j := 6) rfl
            have fY6 := HY_4.out.warm (j := 6) rfl
            have zY7 := HY_4.out.cell (j := 7) rfl
            have fY7 := HY_4.out.warm (j := 7) rfl
            have zY8 := HY_4.out.cell (j := 8) rfl
            have fY8 := HY_4.out.warm (j := 8) rfl
            have zY9 := HY_4.out.cell (j := 9) rfl
            have fY9 := HY_4.out.warm (j := 9) rfl
            have zY10 := HY_4.out.cell (j := 10) rfl
            have fY10 := HY_4.out.warm (j := 10) rfl
            have zY11 := HY_4.out.cell (j := 11) rfl
            have fY11 := HY_4.out.warm (j := 11) rfl
            have zY12 := HY_4.out.cell (j := 12) rfl
            have fY12 := HY_4.out.warm (j := 12) rfl
            obtain ⟨V5, hV5⟩ : ∃ V, puts W5 (W1.heap.size) 5 [.string z1.label, .int .i64 z1.kind, .int .i64 z1.value, .slice X5 m5 q5] = V := ⟨_, rfl⟩
            have HB_5 := Lib.hid (pt_bel hV5 HB_4.out (show w.heap.size ≤ (W1.heap.size) by omega))
            have HR_5 := Lib.hid (pt_box hV5 HR_4.out (show (w.heap.size) ≠ (W1.heap.size) by omega))
            have HY_5 := Lib.hid (show Box V5 (W1.heap.size) [.int .i64 0, .string ⟨#[]⟩, .int .i64 0, .int .i64 0, .slice none 0 0, .string z1.label, .int .i64 z1.kind, .int .i64 z1.value, .slice X5 m5 q5, .int .i64 0, .slice none 0 0, .int .i64 0, .slice none 0 0] from pt_self hV5 HY_4.out (by simp))
            have HE5_5 := Lib.hid (pt_own hV5 HE5_4.out (show (W1.heap.size) < (W1.heap.size + 1) by omega))
            have HV5 := Lib.hid hV5
            clear hV5
            have HZ5 := Lib.hid (show W5.heap.size ≤ V5.heap.size from HE5_5.out.2.1)
            have c0 : V5.cell? ⟨b_, off_, none⟩ = some (.string z1.label) := (HB_5.out.cell (p := ⟨b_, off_, none⟩) hltb).trans HD4.out
            have c1 : V5.cell? ⟨b_, off_ + 1, none⟩ = some (.int .i64 z1.kind) := (HB_5.out.cell (p := ⟨b_, off_ + 1, none⟩) hltb).trans HD5.out
            have c2 : V5.cell? ⟨b_, off_ + 2, none⟩ = some (.int .i64 z1.value) := (HB_5.out.cell (p := ⟨b_, off_ + 2, none⟩) hltb).trans HD6.out
            have c3 : V5.cell? ⟨b_, off_ + 3, none⟩ = some (.slice A6 n6 c6) := (HB_5.out.cell (p := ⟨b_, off_ + 3, none⟩) hltb).trans HD7.out
            have eV : V5 = (((W5.setCell ⟨W1.heap.size, 5, none⟩ (.string z1.label)).setCell ⟨W1.heap.size, 6, none⟩ (.int .i64 z1.kind)).setCell ⟨W1.heap.size, 7, none⟩ (.int .i64 z1.value)).setCell ⟨W1.heap.size, 8, none⟩ (.slice X5 m5 q5) := (HV5.out).symm
            rw [eV] at c0 c1 c2 c3
            clear eV
            go_wp2_with fail
            clear zY0 fY0 zY1 fY1 zY2 fY2 zY3 fY3 zY4 fY4 zY5 fY5 zY6 fY6 zY7 fY7 zY8 fY8 zY9 fY9 zY10 fY10 zY11 fY11 zY12 fY12 c0 c1 c2 c3
            rw [show (((W5.setCell ⟨W1.heap.size, 5, none⟩ (.string z1.label)).setCell ⟨W1.heap.size, 6, none⟩ (.int .i64 z1.kind)).setCell ⟨W1.heap.size, 7, none⟩ (.int .i64 z1.value)).setCell ⟨W1.heap.size, 8, none⟩ (.slice X5 m5 q5) = V5 from HV5.out]
            refine (HP1.out _ HB_5.out).mono ?_
            rintro e W6 ⟨cs6, rfl, ho, hb⟩
            obtain ⟨X6, m6, q6, rfl⟩ := RProof_shape ho.rd
            have HB_6 := Lib.hid (HB_5.out.trans (hb.mono HB_5.out.size))
            have HR_6 := Lib.hid (HR_5.out.below hb HR_5.out.lt)
            have HY_6 := Lib.hid (HY_5.out.below hb HY_5.out.lt)
            have HE5_6 := Lib.hid (show OwnI REntry W6 (V2.heap.size) (W5.heap.size) [.string z1.label, .int .i64 z1.kind, .int .i64 z1.value, .slice X5 m5 q5] z1 ∧ (W5.heap.size) ≤ W6.heap.size ∧ (W1.heap.size + 1) ≤ (V2.heap.size) from ⟨HE5_5.out.1.below hb HE5_5.out.2.1, Nat.le_trans HE5_5.out.2.1 hb.size, HE5_5.out.2.2⟩)
            have HS6 := Lib.hid (show V5.heap.size ≤ W6.heap.size from hb.size)
            have HE6_6 := Lib.hid (show OwnI RProof W6 (V5.heap.size) (W6.heap.size) [.int .i64 p1.at_, .slice X6 m6 q6] p1 ∧ (W6.heap.size) ≤ W6.heap.size ∧ (W1.heap.size + 1) ≤ (V5.heap.size) from ⟨ho, Nat.le_refl _, by have := HS.out; have := HS5.out; have := HZ5.out; omega⟩)
            clear hb ho
            have zR0 := HR_6.out.cell (j := 0) rfl
            have fR0 := HR_6.out.warm (j := 0) rfl
            have zR1 := HR_6.out.cell (j := 1) rfl
            have fR1 := HR_6.out.warm (j := 1) rfl
            have zR2 := HR_6.out.cell (j := 2) rfl
            have fR2 := HR_6.out.warm (j := 2) rfl
            have zR3 := HR_6.out.cell (j := 3) rfl
            have fR3 := HR_6.out.warm (j := 3) rfl
            have zR4 := HR_6.out.cell (j := 4) rfl
            have fR4 := HR_6.out.warm (j := 4) rfl
            have zR5 := HR_6.out.cell (j := 5) rfl
            have fR5 := HR_6.out.warm (j := 5) rfl
            have zR6 := HR_6.out.cell (j := 6) rfl
            have fR6 := HR_6.out.warm (j := 6) rfl
            have zR7 := HR_6.out.cell (j := 7) rfl
            have fR7 := HR_6.out.warm (j := 7) rfl
            have zR8 := HR_6.out.cell (j := 8) rfl
            have fR8 := HR_6.out.warm (j := 8) rfl
            have zR9 := HR_6.out.cell (j := 9) rfl
            have fR9 := HR_6.out.warm (j := 9) rfl
            have zR10 := HR_6.out.cell (j := 10) rfl
            have fR10 := HR_6.out.warm (j := 10) rfl
            have zR11 := HR_6.out.cell (j := 11) rfl
            have fR11 := HR_6.out.warm (j := 11) rfl
            have zR12 := HR_6.out.cell (j := 12) rfl
            have fR12 := HR_6.out.warm (j := 12) rfl
            have zY0 := HY_6.out.cell (j := 0) rfl
            have fY0 := HY_6.out.warm (j := 0) rfl
            have zY1 := HY_6.out.cell (j := 1) rfl
            have fY1 := HY_6.out.warm (j := 1) rfl
            have zY2 := HY_6.out.cell (j := 2) rfl
            have fY2 := HY_6.out.warm (j := 2) rfl
            have zY3 := HY_6.out.cell (j := 3) rfl
            have fY3 := HY_6.out.warm (j := 3) rfl
            have zY4 := HY_6.out.cell (j := 4) rfl
            have fY4 := HY_6.out.warm (j := 4) rfl
            have zY5 := HY_6.out.cell (j := 5) rfl
            have fY5 := HY_6.out.warm (j := 5) rfl
            have zY6 := HY_6.out.cell (j := 6) rfl
            have fY6 := HY_6.out.warm (j := 6) rfl
            have zY7 := HY_6.out.cell (j := 7) rfl
            have fY7 := HY_6.out.warm (j := 7) rfl
            have zY8 := HY_6.out.cell (j := 8) rfl
            have fY8 := HY_6.out.warm (j := 8) rfl
            have zY9 := HY_6.out.cell (j := 9) rfl
            have fY9 := HY_6.out.warm (j := 9) rfl
            have zY10 := HY_6.out.cell (j := 10) rfl
            have fY10 := HY_6.out.warm (j := 10) rfl
            have zY11 := HY_6.out.cell (j := 11) rfl
            have fY11 := HY_6.out.warm (j := 11) rfl
            have zY12 := HY_6.out.cell (j := 12) rfl
            have fY12 := HY_6.out.warm (j := 12) rfl
            obtain ⟨V6, hV6⟩ : ∃ V, puts W6 (W1.heap.size) 11 [.int .i64 p1.at_, .slice X6 m6 q6] = V := ⟨_, rfl⟩
            have HB_7 := Lib.hid (pt_bel hV6 HB_6.out (show w.heap.size ≤ (W1.heap.size) by omega))
            have HR_7 := Lib.hid (pt_box hV6 HR_6.out (show (w.heap.size) ≠ (W1.heap.size) by omega))
            have HY_7 := Lib.hid (show Box V6 (W1.heap.size) [.int .i64 0, .string ⟨#[]⟩, .int .i64 0, .int .i64 0, .slice none 0 0, .string z1.label, .int .i64 z1.kind, .int .i64 z1.value, .slice X5 m5 q5, .int .i64 0, .slice none 0 0, .int .i64 p1.at_, .slice X6 m6 q6] from pt_self hV6 HY_6.out (by simp))
            have HE5_7 := Lib.hid (pt_own hV6 HE5_6.out (show (W1.heap.size) < (W1.heap.size + 1) by omega))
            have HE6_7 := Lib.hid (pt_own hV6 HE6_6.out (show (W1.heap.size) < (W1.heap.size + 1) by omega))
            have HV6 := Lib.hid hV6
            clear hV6
            have HZ6 := Lib.hid (show W6.heap.size ≤ V6.heap.size from HE6_7.out.2.1)
            go_wp2
            clear zR0 fR0 zR1 fR1 zR2 fR2 zR3 fR3 zR4 fR4 zR5 fR5 zR6 fR6 zR7 fR7 zR8 fR8 zR9 fR9 zR10 fR10 zR11 fR11 zR12 fR12 zY0 fY0 zY1 fY1 zY2 fY2 zY3 fY3 zY4 fY4 zY5 fY5 zY6 fY6 zY7 fY7 zY8 fY8 zY9 fY9 zY10 fY10 zY11 fY11 zY12 fY12
            rw [show (W6.setCell ⟨W1.heap.size, 11, none⟩ (.int .i64 p1.at_)).setCell ⟨W1.heap.size, 12, none⟩ (.slice X6 m6 q6) = V6 from HV6.out]
            obtain ⟨VF, hVF⟩ : ∃ V, puts V6 (w.heap.size) 0 [.int .i64 0, .string ⟨#[]⟩, .int .i64 0, .int .i64 0, .slice none 0 0, .string z1.label, .int .i64 z1.kind, .int .i64 z1.value, .slice X5 m5 q5, .int .i64 0, .slice none 0 0, .int .i64 p1.at_, .slice X6 m6 q6] = V := ⟨_, rfl⟩
            have HB_8 := Lib.hid (pt_bel hVF HB_7.out (show w.heap.size ≤ (w.heap.size) by omega))
            have HR_8 := Lib.hid (show Box VF (w.heap.size) [.int .i64 0, .string ⟨#[]⟩, .int .i64 0, .int .i64 0, .slice none 0 0, .string z1.label, .int .i64 z1.kind, .int .i64 z1.value, .slice X5 m5 q5, .int .i64 0, .slice none 0 0, .int .i64 p1.at_, .slice X6 m6 q6] from pt_self hVF HR_7.out (by simp))
            have HY_8 := Lib.hid (pt_box hVF HY_7.out (show (W1.heap.size) ≠ (w.heap.size) by omega))
            have HE5_8 := Lib.hid (pt_own hVF HE5_7.out (show (w.heap.size) < (W1.heap.size + 1) by omega))
            have HE6_8 := Lib.hid (pt_own hVF HE6_7.out (show (w.heap.size) < (W1.heap.size + 1) by omega))
            have HVF := Lib.hid hVF
            clear hVF
            rw [show ((((((((((((V6.setCell ⟨w.heap.size, 0, none⟩ (.int .i64 0)).setCell ⟨w.heap.size, 1, none⟩ (.string ⟨#[]⟩)).setCell ⟨w.heap.size, 2, none⟩ (.int .i64 0)).setCell ⟨w.heap.size, 3, none⟩ (.int .i64 0)).setCell ⟨w.heap.size, 4, none⟩ (.slice none 0 0)).setCell ⟨w.heap.size, 5, none⟩ (.string z1.label)).setCell ⟨w.heap.size, 6, none⟩ (.int .i64 z1.kind)).setCell ⟨w.heap.size, 7, none⟩ (.int .i64 z1.value)).setCell ⟨w.heap.size, 8, none⟩ (.slice X5 m5 q5)).setCell ⟨w.heap.size, 9, none⟩ (.int .i64 0)).setCell ⟨w.heap.size, 10, none⟩ (.slice none 0 0)).setCell ⟨w.heap.size, 11, none⟩ (.int .i64 p1.at_)).setCell ⟨w.heap.size, 12, none⟩ (.slice X6 m6 q6) = VF from HVF.out]
            have lVF : W6.heap.size ≤ VF.heap.size := HE6_8.out.2.1
            have zR0 := HR_8.out.cell (j := 0) rfl
            have zR1 := HR_8.out.cell (j := 1) rfl
            have zR2 := HR_8.out.cell (j := 2) rfl
            have zR3 := HR_8.out.cell (j := 3) rfl
            have zR4 := HR_8.out.cell (j := 4) rfl
            have zR5 := HR_8.out.cell (j := 5) rfl
            have zR6 := HR_8.out.cell (j := 6) rfl
            have zR7 := HR_8.out.cell (j := 7) rfl
            have zR8 := HR_8.out.cell (j := 8) rfl
            have zR9 := HR_8.out.cell (j := 9) rfl
            have zR10 := HR_8.out.cell (j := 10) rfl
            have zR11 := HR_8.out.cell (j := 11) rfl
            have zR12 := HR_8.out.cell (j := 12) rfl
            refine bodyPost_ret (v := .tuple #[.agg #[.int .i64 0, .string ⟨#[]⟩, .int .i64 0, .int .i64 0, .slice none 0 0, .string z1.label, .int .i64 z1.kind, .int .i64 z1.value, .slice X5 m5 q5, .int .i64 0, .slice none 0 0, .int .i64 p1.at_, .slice X6 m6 q6], .bool true]) (by simp [results, Tryz.results7, go_sem, zR0, zR1, zR2, zR3, zR4, zR5, zR6, zR7, zR8, zR9, zR10, zR11, zR12]) rfl ⟨[.int .i64 0, .string ⟨#[]⟩, .int .i64 0, .int .i64 0, .slice none 0 0, .string z1.label, .int .i64 z1.kind, .int .i64 z1.value, .slice X5 m5 q5, .int .i64 0, .slice none 0 0, .int .i64 p1.at_, .slice X6 m6 q6], rfl, ?_, HB_8.out⟩
            obtain ⟨F1, a1, u1, e1⟩ := zero_ownE VF (W1.heap.size + 1)
            obtain ⟨F3, a3, u3, e3⟩ := zero_ownP VF (W1.heap.size + 1)
            obtain ⟨F2, a2, u2, e2⟩ := HE5_8.out.1
            obtain ⟨F4, a4, u4, e4⟩ := HE6_8.out.1
            have lHS := HS.out
            have lHS5 := HS5.out
            have lHZ5 := HZ5.out
            have lHS6 := HS6.out
            have lHZ6 := HZ6.out
            have lB := HY_8.out.lt
            refine own_parts4 (RGap_set.2 ⟨none, 0, 0, X5, m5, q5, none, 0, 0, X6, m6, q6, F1, F2, F3, F4, rfl, rfl, hKi.out, a1, a2, a3, a4⟩) u1 u2 u3 u4 e1 e2 e3 e4 ?_ ?_ ?_ ?_ ?_ ?_ ?_ ?_ <;> omega
          · have hki : ¬ (0 : Int) < n := by omega
            have haf : aftE l 0 = zeroE := by unfold aftE; rw [if_neg (by omega)]
            have hri : rigP l 0 = zeroP := by unfold rigP; rw [if_neg (by omega)]
            have hbe : befE l 0 = zeroE := by unfold befE; rw [if_neg (by omega)]
            have hle : lefP l 0 = zeroP := by unfold lefP; rw [if_neg (by omega)]
            have HGA := Lib.hid (show gapAt l 0 = ⟨(0 : Int), zeroE, zeroE, zeroP, zeroP⟩ from by unfold gapAt; rw [hbe, haf, hle, hri]; try rfl)
            rw [HGA.out]
            have hKi := Lib.hid (show In .i64 (0 : Int) from inI64 (by omega) (by omega))
            clear hbe haf hle hri HPE HEL
            go_enter Tryz.func7, Tryz.ntmps7
            go_wp2_with fail
            rw [show w.alloc (.cells #[.int .i64 0, .string ⟨#[]⟩, .int .i64 0, .int .i64 0, .slice none 0 0, .string ⟨#[]⟩, .int .i64 0, .int .i64 0, .slice none 0 0, .int .i64 0, .slice none 0 0, .int .i64 0, .slice none 0 0] 34) = V from HV.out.symm]
            refine (HAE.out _ HB_1.out).mono ?_
            rintro e W1 ⟨rfl, hb⟩
            have HB_2 := Lib.hid (HB_1.out.trans (hb.mono HB_1.out.size))
            have HR_2 := Lib.hid (HR_1.out.below hb HR_1.out.lt)
            clear hb
            have zR0 := HR_2.out.cell (j := 0) rfl
            have zR1 := HR_2.out.cell (j := 1) rfl
            have zR2 := HR_2.out.cell (j := 2) rfl
            have zR3 := HR_2.out.cell (j := 3) rfl
            have zR4 := HR_2.out.cell (j := 4) rfl
            have zR5 := HR_2.out.cell (j := 5) rfl
            have zR6 := HR_2.out.cell (j := 6) rfl
            have zR7 := HR_2.out.cell (j := 7) rfl
            have zR8 := HR_2.out.cell (j := 8) rfl
            have zR9 := HR_2.out.cell (j := 9) rfl
            have zR10 := HR_2.out.cell (j := 10) rfl
            have zR11 := HR_2.out.cell (j := 11) rfl
            have zR12 := HR_2.out.cell (j := 12) rfl
            go_wp2_with fail
            clear zR0 zR1 zR2 zR3 zR4 zR5 zR6 zR7 zR8 zR9 zR10 zR11 zR12
            refine (HIL.out _).mono ?_
            rintro e w2 ⟨rfl, rfl⟩
            have zR0 := HR_2.out.cell (j := 0) rfl
            have zR1 := HR_2.out.cell (j := 1) rfl
            have zR2 := HR_2.out.cell (j := 2) rfl
            have zR3 := HR_2.out.cell (j := 3) rfl
            have zR4 := HR_2.out.cell (j := 4) rfl
            have zR5 := HR_2.out.cell (j := 5) rfl
            have zR6 := HR_2.out.cell (j := 6) rfl
            have zR7 := HR_2.out.cell (j := 7) rfl
            have zR8 := HR_2.out.cell (j := 8) rfl
            have zR9 := HR_2.out.cell (j := 9) rfl
            have zR10 := HR_2.out.cell (j := 10) rfl
            have zR11 := HR_2.out.cell (j := 11) rfl
            have zR12 := HR_2.out.cell (j := 12) rfl
            go_wp2_with fail
            clear zR0 zR1 zR2 zR3 zR4 zR5 zR6 zR7 zR8 zR9 zR10 zR11 zR12
            refine (HFE.out _ HB_2.out).mono ?_
            rintro e w2 ⟨rfl, rfl⟩
            have zR0 := HR_2.out.cell (j := 0) rfl
            have zR1 := HR_2.out.cell (j := 1) rfl
            have zR2 := HR_2.out.cell (j := 2) rfl
            have zR3 := HR_2.out.cell (j := 3) rfl
            have zR4 := HR_2.out.cell (j := 4) rfl
            have zR5 := HR_2.out.cell (j := 5) rfl
            have zR6 := HR_2.out.cell (j := 6) rfl
            have zR7 := HR_2.out.cell (j := 7) rfl
            have zR8 := HR_2.out.cell (j := 8) rfl
            have zR9 := HR_2.out.cell (j := 9) rfl
            have zR10 := HR_2.out.cell (j := 10) rfl
            have zR11 := HR_2.out.cell (j := 11) rfl
            have zR12 := HR_2.out.cell (j := 12) rfl
            go_wp2_with fail
            clear zR0 zR1 zR2 zR3 zR4 zR5 zR6 zR7 zR8 zR9 zR10 zR11 zR12
            refine (HRK.out _ HB_2.out).mono ?_
            rintro e w2 ⟨rfl, rfl⟩
            have hW1 : w.heap.size < W1.heap.size := HR_2.out.lt
            have hW2 : w.heap.size ≠ W1.heap.size := by omega
            have zR0 := HR_2.out.cell (j := 0) rfl
            have fR0 := HR_2.out.warm (j := 0) rfl
            have zR1 := HR_2.out.cell (j := 1) rfl
            have fR1 := HR_2.out.warm (j := 1) rfl
            have zR2 := HR_2.out.cell (j := 2) rfl
            have fR2 := HR_2.out.warm (j := 2) rfl
            have zR3 := HR_2.out.cell (j := 3) rfl
            have fR3 := HR_2.out.warm (j := 3) rfl
            have zR4 := HR_2.out.cell (j := 4) rfl
            have fR4 := HR_2.out.warm (j := 4) rfl
            have zR5 := HR_2.out.cell (j := 5) rfl
            have fR5 := HR_2.out.warm (j := 5) rfl
            have zR6 := HR_2.out.cell (j := 6) rfl
            have fR6 := HR_2.out.warm (j := 6) rfl
            have zR7 := HR_2.out.cell (j := 7) rfl
            have fR7 := HR_2.out.warm (j := 7) rfl
            have zR8 := HR_2.out.cell (j := 8) rfl
            have fR8 := HR_2.out.warm (j := 8) rfl
            have zR9 := HR_2.out.cell (j := 9) rfl
            have fR9 := HR_2.out.warm (j := 9) rfl
            have zR10 := HR_2.out.cell (j := 10) rfl
            have fR10 := HR_2.out.warm (j := 10) rfl
            have zR11 := HR_2.out.cell (j := 11) rfl
            have fR11 := HR_2.out.warm (j := 11) rfl
            have zR12 := HR_2.out.cell (j := 12) rfl
            have fR12 := HR_2.out.warm (j := 12) rfl
            go_wp2
            clear zR0 fR0 zR1 fR1 zR2 fR2 zR3 fR3 zR4 fR4 zR5 fR5 zR6 fR6 zR7 fR7 zR8 fR8 zR9 fR9 zR10 fR10 zR11 fR11 zR12 fR12
            obtain ⟨VS, hVS⟩ : ∃ V, puts W1 (w.heap.size) 0 [.int .i64 0, .string ⟨#[]⟩, .int .i64 0, .int .i64 0, .slice none 0 0, .string ⟨#[]⟩, .int .i64 0, .int .i64 0, .slice none 0 0, .int .i64 0, .slice none 0 0, .int .i64 0, .slice none 0 0] = V := ⟨_, rfl⟩
            have HB_3 := Lib.hid (pt_bel hVS HB_2.out (show w.heap.size ≤ (w.heap.size) by omega))
            have HR_3 := Lib.hid (show Box VS (w.heap.size) [.int .i64 0, .string ⟨#[]⟩, .int .i64 0, .int .i64 0, .slice none 0 0, .string ⟨#[]⟩, .int .i64 0, .int .i64 0, .slice none 0 0, .int .i64 0, .slice none 0 0, .int .i64 0, .slice none 0 0] from pt_self hVS HR_2.out (by simp))
            have HVS := Lib.hid hVS
            clear hVS
            rw [show ((((((((((((W1.setCell ⟨w.heap.size, 0, none⟩ (.int .i64 0)).setCell ⟨w.heap.size, 1, none⟩ (.string ⟨#[]⟩)).setCell ⟨w.heap.size, 2, none⟩ (.int .i64 0)).setCell ⟨w.heap.size, 3, none⟩ (.int .i64 0)).setCell ⟨w.heap.size, 4, none⟩ (.slice none 0 0)).setCell ⟨w.heap.size, 5, none⟩ (.string ⟨#[]⟩)).setCell ⟨w.heap.size, 6, none⟩ (.int .i64 0)).setCell ⟨w.heap.size, 7, none⟩ (.int .i64 0)).setCell ⟨w.heap.size, 8, none⟩ (.slice none 0 0)).setCell ⟨w.heap.size, 9, none⟩ (.int .i64 0)).setCell ⟨w.heap.size, 10, none⟩ (.slice none 0 0)).setCell ⟨w.heap.size, 11, none⟩ (.int .i64 0)).setCell ⟨w.heap.size, 12, none⟩ (.slice none 0 0) = VS from HVS.out]
            have hal : Below VS.heap.size VS (VS.alloc (.cells #[.int .i64 0, .string ⟨#[]⟩, .int .i64 0, .int .i64 0, .slice none 0 0, .string ⟨#[]⟩, .int .i64 0, .int .i64 0, .slice none 0 0, .int .i64 0, .slice none 0 0, .int .i64 0, .slice none 0 0] 34)) := (Below.refl _ _).alloc (Nat.le_refl _) _
            have HB_4 := Lib.hid (HB_3.out.trans (hal.mono HB_3.out.size))
            have HR_4 := Lib.hid (HR_3.out.below hal HR_3.out.lt)
            have HY_4 := Lib.hid (show Box (VS.alloc (.cells #[.int .i64 0, .string ⟨#[]⟩, .int .i64 0, .int .i64 0, .slice none 0 0, .string ⟨#[]⟩, .int .i64 0, .int .i64 0, .slice none 0 0, .int .i64 0, .slice none 0 0, .int .i64 0, .slice none 0 0] 34)) (VS.heap.size) [.int .i64 0, .string ⟨#[]⟩, .int .i64 0, .int .i64 0, .slice none 0 0, .string ⟨#[]⟩, .int .i64 0, .int .i64 0, .slice none 0 0, .int .i64 0, .slice none 0 0, .int .i64 0, .slice none 0 0] from Box.new VS #[.int .i64 0, .string ⟨#[]⟩, .int .i64 0, .int .i64 0, .slice none 0 0, .string ⟨#[]⟩, .int .i64 0, .int .i64 0, .slice none 0 0, .int .i64 0, .slice none 0 0, .int .i64 0, .slice none 0 0] 34)
            obtain ⟨VF, hVF⟩ : ∃ V, VS.alloc (.cells #[.int .i64 0, .string ⟨#[]⟩, .int .i64 0, .int .i64 0, .slice none 0 0, .string ⟨#[]⟩, .int .i64 0, .int .i64 0, .slice none 0 0, .int .i64 0, .slice none 0 0, .int .i64 0, .slice none 0 0] 34) = V := ⟨_, rfl⟩
            rw [hVF] at HB_4 HR_4 HY_4
            have HVF := Lib.hid hVF
            clear hal
            clear hVF
            rw [HVF.out]
            have lB := HB_4.out.size
            have zR0 := HR_4.out.cell (j := 0) rfl
            have zR1 := HR_4.out.cell (j := 1) rfl
            have zR2 := HR_4.out.cell (j := 2) rfl
            have zR3 := HR_4.out.cell (j := 3) rfl
            have zR4 := HR_4.out.cell (j := 4) rfl
            have zR5 := HR_4.out.cell (j := 5) rfl
            have zR6 := HR_4.out.cell (j := 6) rfl
            have zR7 := HR_4.out.cell (j := 7) rfl
            have zR8 := HR_4.out.cell (j := 8) rfl
            have zR9 := HR_4.out.cell (j := 9) rfl
            have zR10 := HR_4.out.cell (j := 10) rfl
            have zR11 := HR_4.out.cell (j := 11) rfl
            have zR12 := HR_4.out.cell (j := 12) rfl
            refine bodyPost_ret (v := .tuple #[.agg #[.int .i64 0, .string ⟨#[]⟩, .int .i64 0, .int .i64 0, .slice none 0 0, .string ⟨#[]⟩, .int .i64 0, .int .i64 0, .slice none 0 0, .int .i64 0, .slice none 0 0, .int .i64 0, .slice none 0 0], .bool true]) (by simp [results, Tryz.results7, go_sem, zR0, zR1, zR2, zR3, zR4, zR5, zR6, zR7, zR8, zR9, zR10, zR11, zR12]) rfl ⟨[.int .i64 0, .string ⟨#[]⟩, .int .i64 0, .int .i64 0, .slice none 0 0, .string ⟨#[]⟩, .int .i64 0, .int .i64 0, .slice none 0 0, .int .i64 0, .slice none 0 0, .int .i64 0, .slice none 0 0], rfl, ?_, HB_4.out⟩
            obtain ⟨F1, a1, u1, e1⟩ := zero_ownE VF w.heap.size
            obtain ⟨F3, a3, u3, e3⟩ := zero_ownP VF w.heap.size
            refine own_parts4 (RGap_set.2 ⟨none, 0, 0, none, 0, 0, none, 0, 0, none, 0, 0, F1, F1, F3, F3, rfl, rfl, hKi.out, a1, a1, a3, a3⟩) u1 u1 u3 u3 e1 e1 e3 e3 ?_ ?_ ?_ ?_ ?_ ?_ ?_ ?_ <;> omega
        · obtain ⟨K, hK⟩ : ∃ K, K + 1 = k := ⟨k - 1, by omega⟩
          have hge0 : (0 : Int) < k := by omega
          have hkk : (k : Int) - 1 = (K : Int) := by omega
          have hKn : K < n := by omega
          have hKI : (K : Int) < n := by omega
          obtain ⟨b, off, A5, n5, c5, rfl, hlt, d0, d1, d2, d3, hrd, htz⟩ := HEL.out K hKn
          have hbe : befE l k = at0 l K := by unfold befE; rw [if_pos (by omega), show k - 1 = K by omega]
          have hle : lefP l k = (proveE l (at0 l K).label).1 := by unfold lefP; rw [if_pos (by omega), show k - 1 = K by omega]
          generalize at0 l K = z0 at d0 d1 d2 hrd htz hbe hle
          have HP0 := Lib.hid (fun w1 hb => HPE.out z0.label w1 hb)
          generalize proveE l z0.label = pr0 at HP0 hle
          obtain ⟨p0, ok0⟩ := pr0
          simp only at HP0 hle
          have HC0 := Lib.hid (fun w1 (hb : Below w.heap.size w w1) => l8Copy_any _ z0 w1 (upE hrd hb) (by omega))
          have HD0 := Lib.hid d0
          have HD1 := Lib.hid d1
          have HD2 := Lib.hid d2
          have HD3 := Lib.hid d3
          clear d0 d1 d2 d3 hrd htz
          rcases Nat.lt_or_ge k n with hkn | hkn
          · have hki : (k : Int) < n := by omega
            obtain ⟨b_, off_, A6, n6, c6, hA, hltb, d4, d5, d6, d7, hrd, htz⟩ := HEL.out k hkn
            injection hA with hA
            injection hA with hA1 hA2 hA3
            subst hA1 hA2
            have haf : aftE l k = at0 l k := by unfold aftE; rw [if_pos (by omega)]
            have hri : rigP l k = (proveE l (at0 l k).label).1 := by unfold rigP; rw [if_pos (by omega)]
            generalize at0 l k = z1 at d4 d5 d6 hrd htz haf hri
            have HP1 := Lib.hid (fun w1 hb => HPE.out z1.label w1 hb)
            generalize proveE l z1.label = pr1 at HP1 hri
            obtain ⟨p1, ok1⟩ := pr1
            simp only at HP1 hri
            have HC1 := Lib.hid (fun w1 (hb : Below w.heap.size w w1) => l8Copy_any _ z1 w1 (upE hrd hb) (by omega))
            have HD4 := Lib.hid d4
            have HD5 := Lib.hid d5
            have HD6 := Lib.hid d6
            have HD7 := Lib.hid d7
            clear d4 d5 d6 d7 hrd htz
            have HGA := Lib.hid (show gapAt l k = ⟨(k : Int), z0, z1, p0, p1⟩ from by unfold gapAt; rw [hbe, haf, hle, hri]; try rfl)
            rw [HGA.out]
            have hKi := Lib.hid (show In .i64 (k : Int) from inI64 (by omega) (by omega))
            clear hbe haf hle hri HPE HEL
            go_enter Tryz.func7, Tryz.ntmps7
            go_wp2_with fail
            rw [show w.alloc (.cells #[.int .i64 0, .string ⟨#[]⟩, .int .i64 0, .int .i64 0, .slice none 0 0, .string ⟨#[]⟩, .int .i64 0, .int .i64 0, .slice none 0 0, .int .i64 0, .slice none 0 0, .int .i64 0, .slice none 0 0] 34) = V from HV.out.symm]
            refine (HAE.out _ HB_1.out).mono ?_
            rintro e W1 ⟨rfl, hb⟩
            have HB_2 := Lib.hid (HB_1.out.trans (hb.mono HB_1.out.size))
            have HR_2 := Lib.hid (HR_1.out.below hb HR_1.out.lt)
            clear hb
            have zR0 := HR_2.out.cell (j := 0) rfl
            have zR1 := HR_2.out.cell (j := 1) rfl
            have zR2 := HR_2.out.cell (j := 2) rfl
            have zR3 := HR_2.out.cell (j := 3) rfl
            have zR4 := HR_2.out.cell (j := 4) rfl
            have zR5 := HR_2.out.cell (j := 5) rfl
            have zR6 := HR_2.out.cell (j := 6) rfl
            have zR7 := HR_2.out.cell (j := 7) rfl
            have zR8 := HR_2.out.cell (j := 8) rfl
            have zR9 := HR_2.out.cell (j := 9) rfl
            have zR10 := HR_2.out.cell (j := 10) rfl
            have zR11 := HR_2.out.cell (j := 11) rfl
            have zR12 := HR_2.out.cell (j := 12) rfl
            go_wp2_with fail
            clear zR0 zR1 zR2 zR3 zR4 zR5 zR6 zR7 zR8 zR9 zR10 zR11 zR12
            refine (HIL.out _).mono ?_
            rintro e w2 ⟨rfl, rfl⟩
            have zR0 := HR_2.out.cell (j := 0) rfl
            have zR1 := HR_2.out.cell (j := 1) rfl
            have zR2 := HR_2.out.cell (j := 2) rfl
            have zR3 := HR_2.out.cell (j := 3) rfl
            have zR4 := HR_2.out.cell (j := 4) rfl
            have zR5 := HR_2.out.cell (j := 5) rfl
            have zR6 := HR_2.out.cell (j := 6) rfl
            have zR7 := HR_2.out.cell (j := 7) rfl
            have zR8 := HR_2.out.cell (j := 8) rfl
            have zR9 := HR_2.out.cell (j := 9) rfl
            have zR10 := HR_2.out.cell (j := 10) rfl
            have zR11 := HR_2.out.cell (j := 11) rfl
            have zR12 := HR_2.out.cell (j := 12) rfl
            go_wp2_with fail
            clear zR0 zR1 zR2 zR3 zR4 zR5 zR6 zR7 zR8 zR9 zR10 zR11 zR12
            refine (HFE.out _ HB_2.out).mono ?_
            rintro e w2 ⟨rfl, rfl⟩
            have zR0 := HR_2.out.cell (j := 0) rfl
            have zR1 := HR_2.out.cell (j := 1) rfl
            have zR2 := HR_2.out.cell (j := 2) rfl
            have zR3 := HR_2.out.cell (j := 3) rfl
            have zR4 := HR_2.out.cell (j := 4) rfl
            have zR5 := HR_2.out.cell (j := 5) rfl
            have zR6 := HR_2.out.cell (j := 6) rfl
            have zR7 := HR_2.out.cell (j := 7) rfl
            have zR8 := HR_2.out.cell (j := 8) rfl
            have zR9 := HR_2.out.cell (j := 9) rfl
            have zR10 := HR_2.out.cell (j := 10) rfl
            have zR11 := HR_2.out.cell (j := 11) rfl
            have zR12 := HR_2.out.cell (j := 12) rfl
            go_wp2_with fail
            clear zR0 zR1 zR2 zR3 zR4 zR5 zR6 zR7 zR8 zR9 zR10 zR11 zR12
            refine (HRK.out _ HB_2.out).mono ?_
            rintro e w2 ⟨rfl, rfl⟩
            have hW1 : w.heap.size < W1.heap.size := HR_2.out.lt
            have hal : Below W1.heap.size W1 (W1.alloc (.cells #[.int .i64 (k : Int), .string ⟨#[]⟩, .int .i64 0, .int .i64 0, .slice none 0 0, .string ⟨#[]⟩, .int .i64 0, .int .i64 0, .slice none 0 0, .int .i64 0, .slice none 0 0, .int .i64 0, .slice none 0 0] 34)) := (Below.refl _ _).alloc (Nat.le_refl _) _
            have HB_3 := Lib.hid (HB_2.out.trans (hal.mono HB_2.out.size))
            have HR_3 := Lib.hid (HR_2.out.below hal HR_2.out.lt)
            have HY_3 := Lib.hid (show Box (W1.alloc (.cells #[.int .i64 (k : Int), .string ⟨#[]⟩, .int .i64 0, .int .i64 0, .slice none 0 0, .string ⟨#[]⟩, .int .i64 0, .int .i64 0, .slice none 0 0, .int .i64 0, .slice none 0 0, .int .i64 0, .slice none 0 0] 34)) (W1.heap.size) [.int .i64 (k : Int), .string ⟨#[]⟩, .int .i64 0, .int .i64 0, .slice none 0 0, .string ⟨#[]⟩, .int .i64 0, .int .i64 0, .slice none 0 0, .int .i64 0, .slice none 0 0, .int .i64 0, .slice none 0 0] from Box.new W1 #[.int .i64 (k : Int), .string ⟨#[]⟩, .int .i64 0, .int .i64 0, .slice none 0 0, .string ⟨#[]⟩, .int .i64 0, .int .i64 0, .slice none 0 0, .int .i64 0, .slice none 0 0, .int .i64 0, .slice none 0 0] 34)
            obtain ⟨V2, hV2⟩ : ∃ V, W1.alloc (.cells #[.int .i64 (k : Int), .string ⟨#[]⟩, .int .i64 0, .int .i64 0, .slice none 0 0, .string ⟨#[]⟩, .int .i64 0, .int .i64 0, .slice none 0 0, .int .i64 0, .slice none 0 0, .int .i64 0, .slice none 0 0] 34) = V := ⟨_, rfl⟩
            rw [hV2] at HB_3 HR_3 HY_3
            have HV2 := Lib.hid hV2
            clear hal
            have HS := Lib.hid (show W1.heap.size + 1 ≤ V2.heap.size from HY_3.out.lt)
            clear hV2
            have c0 : V2.cell? ⟨b, off + K * 4, none⟩ = some (.string z0.label) := (HB_3.out.cell (p := ⟨b, off + K * 4, none⟩) hlt).trans HD0.out
            have c1 : V2.cell? ⟨b, off + K * 4 + 1, none⟩ = some (.int .i64 z0.kind) := (HB_3.out.cell (p := ⟨b, off + K * 4 + 1, none⟩) hlt).trans HD1.out
            have c2 : V2.cell? ⟨b, off + K * 4 + 2, none⟩ = some (.int .i64 z0.value) := (HB_3.out.cell (p := ⟨b, off + K * 4 + 2, none⟩) hlt).trans HD2.out
            have c3 : V2.cell? ⟨b, off + K * 4 + 3, none⟩ = some (.slice A5 n5 c5) := (HB_3.out.cell (p := ⟨b, off + K * 4 + 3, none⟩) hlt).trans HD3.out
            have eV : V2 = W1.alloc (.cells #[.int .i64 (k : Int), .string ⟨#[]⟩, .int .i64 0, .int .i64 0, .slice none 0 0, .string ⟨#[]⟩, .int .i64 0, .int .i64 0, .slice none 0 0, .int .i64 0, .slice none 0 0, .int .i64 0, .slice none 0 0] 34) := (HV2.out).symm
            rw [eV] at c0 c1 c2 c3
            clear eV
            go_wp2_with fail
            clear c0 c1 c2 c3
            rw [HV2.out]
            refine (HC0.out _ HB_3.out).mono ?_
            rintro e W3 ⟨cs3, rfl, ho, hb⟩
            obtain ⟨X3, m3, q3, rfl⟩ := REntry_shape ho.rd
            have HB_4 := Lib.hid (HB_3.out.trans (hb.mono HB_3.out.size))
            have HR_4 := Lib.hid (HR_3.out.below hb HR_3.out.lt)
            have HY_4 := Lib.hid (HY_3.out.below hb HY_3.out.lt)
            have HS3 := Lib.hid (show V2.heap.size ≤ W3.heap.size from hb.size)
            have HE3_4 := Lib.hid (show OwnI REntry W3 (V2.heap.size) (W3.heap.size) [.string z0.label, .int .i64 z0.kind, .int .i64 z0.value, .slice X3 m3 q3] z0 ∧ (W3.heap.size) ≤ W3.heap.size ∧ (W1.heap.size + 1) ≤ (V2.heap.size) from ⟨ho, Nat.le_refl _, by have := HS.out;  omega⟩)
            clear hb ho
            have zY0 := HY_4.out.cell (j := 0) rfl
            have fY0 := HY_4.out.warm (j := 0) rfl
            have zY1 := HY_4.out.cell (j := 1) rfl
            have fY1 := HY_4.out.warm (j := 1) rfl
            have zY2 := HY_4.out.cell (j := 2) rfl
            have fY2 := HY_4.out.warm (j := 2) rfl
            have zY3 := HY_4.out.cell (j := 3) rfl
            have fY3 := HY_4.out.warm (j := 3) rfl
            have zY4 := HY_4.out.cell (j := 4) rfl
            have fY4 := HY_4.out.warm (j := 4) rfl
            have zY5 := HY_4.out.cell (j := 5) rfl
            have fY5 := HY_4.out.warm (j := 5) rfl
            have zY6 := HY_4.out.cell (j := 6) rfl
            have fY6 := HY_4.out.warm (j := 6) rfl
            have zY7 := HY_4.out.cell (j := 7) rfl
            have fY7 := HY_4.out.warm (j := 7) rfl
            have zY8 := HY_4.out.cell (j := 8) rfl
            have fY8 := HY_4.out.warm (j := 8) rfl
            have zY9 := HY_4.out.cell (j := 9) rfl
            have fY9 := HY_4.out.warm (j := 9) rfl
            have zY10 := HY_4.out.cell (j := 10) rfl
            have fY10 := HY_4.out.warm (j := 10) rfl
            have zY11 := HY_4.out.cell (j := 11) rfl
            have fY11 := HY_4.out.warm (j := 11) rfl
            have zY12 := HY_4.out.cell (j := 12) rfl
            have fY12 := HY_4.out.warm (j := 12) rfl
            obtain ⟨V3, hV3⟩ : ∃ V, puts W3 (W1.heap.size) 1 [.string z0.label, .int .i64 z0.kind, .int .i64 z0.value, .slice X3 m3 q3] = V := ⟨_, rfl⟩
            have HB_5 := Lib.hid (pt_bel hV3 HB_4.out (show w.heap.size ≤ (W1.heap.size) by omega))
            have HR_5 := Lib.hid (pt_box hV3 HR_4.out (show (w.heap.size) ≠ (W1.heap.size) by omega))
            have HY_5 := Lib.hid (show Box V3 (W1.heap.size) [.int .i64 (k : Int), .string z0.label, .int .i64 z0.kind, .int .i64 z0.value, .slice X3 m3 q3, .string ⟨#[]⟩, .int .i64 0, .int .i64 0, .slice none 0 0, .int .i64 0, .slice none 0 0, .int .i64 0, .slice none 0 0] from pt_self hV3 HY_4.out (by simp))
            have HE3_5 := Lib.hid (pt_own hV3 HE3_4.out (show (W1.heap.size) < (W1.heap.size + 1) by omega))
            have HV3 := Lib.hid hV3
            clear hV3
            have HZ3 := Lib.hid (show W3.heap.size ≤ V3.heap.size from HE3_5.out.2.1)
            have c0 : V3.cell? ⟨b, off + K * 4, none⟩ = some (.string z0.label) := (HB_5.out.cell (p := ⟨b, off + K * 4, none⟩) hlt).trans HD0.out
            have c1 : V3.cell? ⟨b, off + K * 4 + 1, none⟩ = some (.int .i64 z0.kind) := (HB_5.out.cell (p := ⟨b, off + K * 4 + 1, none⟩) hlt).trans HD1.out
            have c2 : V3.cell? ⟨b, off + K * 4 + 2, none⟩ = some (.int .i64 z0.value) := (HB_5.out.cell (p := ⟨b, off + K * 4 + 2, none⟩) hlt).trans HD2.out
            have c3 : V3.cell? ⟨b, off + K * 4 + 3, none⟩ = some (.slice A5 n5 c5) := (HB_5.out.cell (p := ⟨b, off + K * 4 + 3, none⟩) hlt).trans HD3.out
            have eV : V3 = (((W3.setCell ⟨W1.heap.size, 1, none⟩ (.string z0.label)).setCell ⟨W1.heap.size, 2, none⟩ (.int .i64 z0.kind)).setCell ⟨W1.heap.size, 3, none⟩ (.int .i64 z0.value)).setCell ⟨W1.heap.size, 4, none⟩ (.slice X3 m3 q3) := (HV3.out).symm
            rw [eV] at c0 c1 c2 c3
            clear eV
            go_wp2_with fail
            clear zY0 fY0 zY1 fY1 zY2 fY2 zY3 fY3 zY4 fY4 zY5 fY5 zY6 fY6 zY7 fY7 zY8 fY8 zY9 fY9 zY10 fY10 zY11 fY11 zY12 fY12 c0 c1 c2 c3
            rw [show (((W3.setCell ⟨W1.heap.size, 1, none⟩ (.string z0.label)).setCell ⟨W1.heap.size, 2, none⟩ (.int .i64 z0.kind)).setCell ⟨W1.heap.size, 3, none⟩ (.int .i64 z0.value)).setCell ⟨W1.heap.size, 4, none⟩ (.slice X3 m3 q3) = V3 from HV3.out]
            refine (HP0.out _ HB_5.out).mono ?_
            rintro e W4 ⟨cs4, rfl, ho, hb⟩
            obtain ⟨X4, m4, q4, rfl⟩ := RProof_shape ho.rd
            have HB_6 := Lib.hid (HB_5.out.trans (hb.mono HB_5.out.size))
            have HR_6 := Lib.hid (HR_5.out.below hb HR_5.out.lt)
            have HY_6 := Lib.hid (HY_5.out.below hb HY_5.out.lt)
            have HE3_6 := Lib.hid (show OwnI REntry W4 (V2.heap.size) (W3.heap.size) [.string z0.label, .int .i64 z0.kind, .int .i64 z0.value, .slice X3 m3 q3] z0 ∧ (W3.heap.size) ≤ W4.heap.size ∧ (W1.heap.size + 1) ≤ (V2.heap.size) from ⟨HE3_5.out.1.below hb HE3_5.out.2.1, Nat.le_trans HE3_5.out.2.1 hb.size, HE3_5.out.2.2⟩)
            have HS4 := Lib.hid (show V3.heap.size ≤ W4.heap.size from hb.size)
            have HE4_6 := Lib.hid (show OwnI RProof W4 (V3.heap.size) (W4.heap.size) [.int .i64 p0.at_, .slice X4 m4 q4] p0 ∧ (W4.heap.size) ≤ W4.heap.size ∧ (W1.heap.size + 1) ≤ (V3.heap.size) from ⟨ho, Nat.le_refl _, by have := HS.out; have := HS3.out; have := HZ3.out; omega⟩)
            clear hb ho
            have zR0 := HR_6.out.cell (j := 0) rfl
            have fR0 := HR_6.out.warm (j := 0) rfl
            have zR1 := HR_6.out.cell (j := 1) rfl
            have fR1 := HR_6.out.warm (j := 1) rfl
            have zR2 := HR_6.out.cell (j := 2) rfl
            have fR2 := HR_6.out.warm (j := 2) rfl
            have zR3 := HR_6.out.cell (j := 3) rfl
            have fR3 := HR_6.out.warm (j := 3) rfl
            have zR4 := HR_6.out.cell (j := 4) rfl
            have fR4 := HR_6.out.warm (j := 4) rfl
            have zR5 := HR_6.out.cell (j := 5) rfl
            have fR5 := HR_6.out.warm (j := 5) rfl
            have zR6 := HR_6.out.cell (j := 6) rfl
            have fR6 := HR_6.out.warm (j := 6) rfl
            have zR7 := HR_6.out.cell (j := 7) rfl
            have fR7 := HR_6.out.warm (j := 7) rfl
            have zR8 := HR_6.out.cell (j := 8) rfl
            have fR8 := HR_6.out.warm (j := 8) rfl
            have zR9 := HR_6.out.cell (j := 9) rfl
            have fR9 := HR_6.out.warm (j := 9) rfl
            have zR10 := HR_6.out.cell (j := 10) rfl
            have fR10 := HR_6.out.warm (j := 10) rfl
            have zR11 := HR_6.out.cell (j := 11) rfl
            have fR11 := HR_6.out.warm (j := 11) rfl
            have zR12 := HR_6.out.cell (j := 12) rfl
            have fR12 := HR_6.out.warm (j := 12) rfl
            have zY0 := HY_6.out.cell (j := 0) rfl
            have fY0 := HY_6.out.warm (j := 0) rfl
            have zY1 := HY_6.out.cell (j := 1) rfl
            have fY1 := HY_6.out.warm (j := 1) rfl
            have zY2 := HY_6.out.cell (j := 2) rfl
            have fY2 := HY_6.out.warm (j := 2) rfl
            have zY3 := HY_6.out.cell (j := 3) rfl
            have fY3 := HY_6.out.warm (j := 3) rfl
            have zY4 := HY_6.out.cell (j := 4) rfl
            have fY4 := HY_6.out.warm (j := 4) rfl
            have zY5 := HY_6.out.cell (j := 5) rfl
            have fY5 := HY_6.out.warm (j := 5) rfl
            have zY6 := HY_6.out.cell (j := 6) rfl
            have fY6 := HY_6.out.warm (j := 6) rfl
            have zY7 := HY_6.out.cell (j := 7) rfl
            have fY7 := HY_6.out.warm (j := 7) rfl
            have zY8 := HY_6.out.cell (j := 8) rfl
            have fY8 := HY_6.out.warm (j := 8) rfl
            have zY9 := HY_6.out.cell (j := 9) rfl
            have fY9 := HY_6.out.warm (j := 9) rfl
            have zY10 := HY_6.out.cell (j := 10) rfl
            have fY10 := HY_6.out.warm (j := 10) rfl
            have zY11 := HY_6.out.cell (j := 11) rfl
            have fY11 := HY_6.out.warm (j := 11) rfl
            have zY12 := HY_6.out.cell (j := 12) rfl
            have fY12 := HY_6.out.warm (j := 12) rfl
            obtain ⟨V4, hV4⟩ : ∃ V, puts W4 (W1.heap.size) 9 [.int .i64 p0.at_, .slice X4 m4 q4] = V := ⟨_, rfl⟩
            have HB_7 := Lib.hid (pt_bel hV4 HB_6.out (show w.heap.size ≤ (W1.heap.size) by omega))
            have HR_7 := Lib.hid (pt_box hV4 HR_6.out (show (w.heap.size) ≠ (W1.heap.size) by omega))
            have HY_7 := Lib.hid (show Box V4 (W1.heap.size) [.int .i64 (k : Int), .string z0.label, .int .i64 z0.kind, .int .i64 z0.value, .slice X3 m3 q3, .string ⟨#[]⟩, .int .i64 0, .int .i64 0, .slice none 0 0, .int .i64 p0.at_, .slice X4 m4 q4, .int .i64 0, .slice none 0 0] from pt_self hV4 HY_6.out (by simp))
            have HE3_7 := Lib.hid (pt_own hV4 HE3_6.out (show (W1.heap.size) < (W1.heap.size + 1) by omega))
            have HE4_7 := Lib.hid (pt_own hV4 HE4_6.out (show (W1.heap.size) < (W1.heap.size + 1) by omega))
            have HV4 := Lib.hid hV4
            clear hV4
            have HZ4 := Lib.hid (show W4.heap.size ≤ V4.heap.size from HE4_7.out.2.1)
            have c0 : V4.cell? ⟨b, off + k * 4, none⟩ = some (.string z1.label) := (HB_7.out.cell (p := ⟨b, off + k * 4, none⟩) hlt).trans HD4.out
            have c1 : V4.cell? ⟨b, off + k * 4 + 1, none⟩ = some (.int .i64 z1.kind) := (HB_7.out.cell (p := ⟨b, off + k * 4 + 1, none⟩) hlt).trans HD5.out
            have c2 : V4.cell? ⟨b, off + k * 4 + 2, none⟩ = some (.int .i64 z1.value) := (HB_7.out.cell (p := ⟨b, off + k * 4 + 2, none⟩) hlt).trans HD6.out
            have c3 : V4.cell? ⟨b, off + k * 4 + 3, none⟩ = some (.slice A6 n6 c6) := (HB_7.out.cell (p := ⟨b, off + k * 4 + 3, none⟩) hlt).trans HD7.out
            have eV : V4 = (W4.setCell ⟨W1.heap.size, 9, none⟩ (.int .i64 p0.at_)).setCell ⟨W1.heap.size, 10, none⟩ (.slice X4 m4 q4) := (HV4.out).symm
            rw [eV] at c0 c1 c2 c3
            clear eV
            go_wp2_with fail
            clear c0 c1 c2 c3 zR0 fR0 zR1 fR1 zR2 fR2 zR3 fR3 zR4 fR4 zR5 fR5 zR6 fR6 zR7 fR7 zR8 fR8 zR9 fR9 zR10 fR10 zR11 fR11 zR12 fR12 zY0 fY0 zY1 fY1 zY2 fY2 zY3 fY3 zY4 fY4 zY5 fY5 zY6 fY6 zY7 fY7 zY8 fY8 zY9 fY9 zY10 fY10 zY11 fY11 zY12 fY12
            rw [show (W4.setCell ⟨W1.heap.size, 9, none⟩ (.int .i64 p0.at_)).setCell ⟨W1.heap.size, 10, none⟩ (.slice X4 m4 q4) = V4 from HV4.out]
            refine (HC1.out _ HB_7.out).mono ?_
            rintro e W5 ⟨cs5, rfl, ho, hb⟩
            obtain ⟨X5, m5, q5, rfl⟩ := REntry_shape ho.rd
            have HB_8 := Lib.hid (HB_7.out.trans (hb.mono HB_7.out.size))
            have HR_8 := Lib.hid (HR_7.out.below hb HR_7.out.lt)
            have HY_8 := Lib.hid (HY_7.out.below hb HY_7.out.lt)
            have HE3_8 := Lib.hid (show OwnI REntry W5 (V2.heap.size) (W3.heap.size) [.string z0.label, .int .i64 z0.kind, .int .i64 z0.value, .slice X3 m3 q3] z0 ∧ (W3.heap.size) ≤ W5.heap.size ∧ (W1.heap.size + 1) ≤ (V2.heap.size) from ⟨HE3_7.out.1.below hb HE3_7.out.2.1, Nat.le_trans HE3_7.out.2.1 hb.size, HE3_7.out.2.2⟩)
            have HE4_8 := Lib.hid (show OwnI RProof W5 (V3.heap.size) (W4.heap.size) [.int .i64 p0.at_, .slice X4 m4 q4] p0 ∧ (W4.heap.size) ≤ W5.heap.size ∧ (W1.heap.size + 1) ≤ (V3.heap.size) from ⟨HE4_7.out.1.below hb HE4_7.out.2.1, Nat.le_trans HE4_7.out.2.1 hb.size, HE4_7.out.2.2⟩)
            have HS5 := Lib.hid (show V4.heap.size ≤ W5.heap.size from hb.size)
            have HE5_8 := Lib.hid (show OwnI REntry W5 (V4.heap.size) (W5.heap.size) [.string z1.label, .int .i64 z1.kind, .int .i64 z1.value, .slice X5 m5 q5] z1 ∧ (W5.heap.size) ≤ W5.heap.size ∧ (W1.heap.size + 1) ≤ (V4.heap.size) from ⟨ho, Nat.le_refl _, by have := HS.out; have := HS3.out; have := HZ3.out; have := HS4.out; have := HZ4.out; omega⟩)
            clear hb ho
            have zY0 := HY_8.out.cell (j := 0) rfl
            have fY0 := HY_8.out.warm (j := 0) rfl
            have zY1 := HY_8.out.cell (j := 1) rfl
            have fY1 := HY_8.out.warm (j := 1) rfl
            have zY2 := HY_8.out.cell (j := 2) rfl
            have fY2 := HY_8.out.warm (j := 2) rfl
            have zY3 := HY_8.out.cell (j := 3) rfl
            have fY3 := HY_8.out.warm (j := 3) rfl
            have zY4 := HY_8.out.cell (j := 4) rfl
            have fY4 := HY_8.out.warm (j := 4) rfl
            have zY5 := HY_8.out.cell (j := 5) rfl
            have fY5 := HY_8.out.warm (j := 5) rfl
            have zY6 := HY_8.out.cell (j := 6) rfl
            have fY6 := HY_8.out.warm (j := 6) rfl
            have zY7 := HY_8.out.cell (j := 7) rfl
            have fY7 := HY_8.out.warm (j := 7) rfl
            have zY8 := HY_8.out.cell (j := 8) rfl
            have fY8 := HY_8.out.warm (j := 8) rfl
            have zY9 := HY_8.out.cell (j := 9) rfl
            have fY9 := HY_8.out.warm (j := 9) rfl
            have zY10 := HY_8.out.cell (j := 10) rfl
            have fY10 := HY_8.out.warm (j := 10) rfl
            have zY11 := HY_8.out.cell (j := 11) rfl
            have fY11 := HY_8.out.warm (j := 11) rfl
            have zY12 := HY_8.out.cell (j := 12) rfl
            have fY12 := HY_8.out.warm (j := 12) rfl
            obtain ⟨V5, hV5⟩ : ∃ V, puts W5 (W1.heap.size) 5 [.string z1.label, .int .i64 z1.kind, .int .i64 z1.value, .slice X5 m5 q5] = V := ⟨_, rfl⟩
            have HB_9 := Lib.hid (pt_bel hV5 HB_8.out (show w.heap.size ≤ (W1.heap.size) by omega))
            have HR_9 := Lib.hid (pt_box hV5 HR_8.out (show (w.heap.size) ≠ (W1.heap.size) by omega))
            have HY_9 := Lib.hid (show Box V5 (W1.heap.size) [.int .i64 (k : Int), .string z0.label, .int .i64 z0.kind, .int .i64 z0.value, .slice X3 m3 q3, .string z1.label, .int .i64 z1.kind, .int .i64 z1.value, .slice X5 m5 q5, .int .i64 p0.at_, .slice X4 m4 q4, .int .i64 0, .slice none 0 0] from pt_self hV5 HY_8.out (by simp))
            have HE3_9 := Lib.hid (pt_own hV5 HE3_8.out (show (W1.heap.size) < (W1.heap.size + 1) by omega))
            have HE4_9 := Lib.hid (pt_own hV5 HE4_8.out (show (W1.heap.size) < (W1.heap.size + 1) by omega))
            have HE5_9 := Lib.hid (pt_own hV5 HE5_8.out (show (W1.heap.size) < (W1.heap.size + 1) by omega))
            have HV5 := Lib.hid hV5
            clear hV5
            have HZ5 := Lib.hid (show W5.heap.size ≤ V5.heap.size from HE5_9.out.2.1)
            have c0 : V5.cell? ⟨b, off + k * 4, none⟩ = some (.string z1.label) := (HB_9.out.cell (p := ⟨b, off + k * 4, none⟩) hlt).trans HD4.out
            have c1 : V5.cell? ⟨b, off + k * 4 + 1, none⟩ = some (.int .i64 z1.kind) := (HB_9.out.cell (p := ⟨b, off + k * 4 + 1, none⟩) hlt).trans HD5.out
            have c2 : V5.cell? ⟨b, off + k * 4 + 2, none⟩ = some (.int .i64 z1.value) := (HB_9.out.cell (p := ⟨b, off + k * 4 + 2, none⟩) hlt).trans HD6.out
            have c3 : V5.cell? ⟨b, off + k * 4 + 3, none⟩ = some (.slice A6 n6 c6) := (HB_9.out.cell (p := ⟨b, off + k * 4 + 3, none⟩) hlt).trans HD7.out
            have eV : V5 = (((W5.setCell ⟨W1.heap.size, 5, none⟩ (.string z1.label)).setCell ⟨W1.heap.size, 6, none⟩ (.int .i64 z1.kind)).setCell ⟨W1.heap.size, 7, none⟩ (.int .i64 z1.value)).setCell ⟨W1.heap.size, 8, none⟩ (.slice X5 m5 q5) := (HV5.out).symm
            rw [eV] at c0 c1 c2 c3
            clear eV
            go_wp2_with fail
            clear zY0 fY0 zY1 fY1 zY2 fY2 zY3 fY3 zY4 fY4 zY5 fY5 zY6 fY6 zY7 fY7 zY8 fY8 zY9 fY9 zY10 fY10 zY11 fY11 zY12 fY12 c0 c1 c2 c3
            rw [show (((W5.setCell ⟨W1.heap.size, 5, none⟩ (.string z1.label)).setCell ⟨W1.heap.size, 6, none⟩ (.int .i64 z1.kind)).setCell ⟨W1.heap.size, 7, none⟩ (.int .i64 z1.value)).setCell ⟨W1.heap.size, 8, none⟩ (.slice X5 m5 q5) = V5 from HV5.out]
            refine (HP1.out _ HB_9.out).mono ?_
            rintro e W6 ⟨cs6, rfl, ho, hb⟩
            obtain ⟨X6, m6, q6, rfl⟩ := RProof_shape ho.rd
            have HB_10 := Lib.hid (HB_9.out.trans (hb.mono HB_9.out.size))
            have HR_10 := Lib.hid (HR_9.out.below hb HR_9.out.lt)
            have HY_10 := Lib.hid (HY_9.out.below hb HY_9.out.lt)
            have HE3_10 := Lib.hid (show OwnI REntry W6 (V2.heap.size) (W3.heap.size) [.string z0.label, .int .i64 z0.kind, .int .i64 z0.value, .slice X3 m3 q3] z0 ∧ (W3.heap.size) ≤ W6.heap.size ∧ (W1.heap.size + 1) ≤ (V2.heap.size) from ⟨HE3_9.out.1.below hb HE3_9.out.2.1, Nat.le_trans HE3_9.out.2.1 hb.size, HE3_9.out.2.2⟩)
            have HE4_10 := Lib.hid (show OwnI RProof W6 (V3.heap.size) (W4.heap.size) [.int .i64 p0.at_, .slice X4 m4 q4] p0 ∧ (W4.heap.size) ≤ W6.heap.size ∧ (W1.heap.size + 1) ≤ (V3.heap.size) from ⟨HE4_9.out.1.below hb HE4_9.out.2.1, Nat.le_trans HE4_9.out.2.1 hb.size, HE4_9.out.2.2⟩)
            have HE5_10 := Lib.hid (show OwnI REntry W6 (V4.heap.size) (W5.heap.size) [.string z1.label, .int .i64 z1.kind, .int .i64 z1.value, .slice X5 m5 q5] z1 ∧ (W5.heap.size) ≤ W6.heap.size ∧ (W1.heap.size + 1) ≤ (V4.heap.size) from ⟨HE5_9.out.1.below hb HE5_9.out.2.1, Nat.le_trans HE5_9.out.2.1 hb.size, HE5_9.out.2.2⟩)
            have HS6 := Lib.hid (show V5.heap.size ≤ W6.heap.size from hb.size)
            have HE6_10 := Lib.hid (show OwnI RProof W6 (V5.heap.size) (W6.heap.size) [.int .i64 p1.at_, .slice X6 m6 q6] p1 ∧ (W6.heap.size) ≤ W6.heap.size ∧ (W1.heap.size + 1) ≤ (V5.heap.size) from ⟨ho, Nat.le_refl _, by have := HS.out; have := HS3.out; have := HZ3.out; have := HS4.out; have := HZ4.out; have := HS5.out; have := HZ5.out; omega⟩)
            clear hb ho
            have zR0 := HR_10.out.cell (j := 0) rfl
            have fR0 := HR_10.out.warm (j := 0) rfl
            have zR1 := HR_10.out.cell (j := 1) rfl
            have fR1 := HR_10.out.warm (j := 1) rfl
            have zR2 := HR_10.out.cell (j := 2) rfl
            have fR2 := HR_10.out.warm (j := 2) rfl
            have zR3 := HR_10.out.cell (j := 3) rfl
            have fR3 := HR_10.out.warm (j := 3) rfl
            have zR4 := HR_10.out.cell (j := 4) rfl
            have fR4 := HR_10.out.warm (j := 4) rfl
            have zR5 := HR_10.out.cell (j := 5) rfl
            have fR5 := HR_10.out.warm (j := 5) rfl
            have zR6 := HR_10.out.cell (j := 6) rfl
            have fR6 := HR_10.out.warm (j := 6) rfl
            have zR7 := HR_10.out.cell (j := 7) rfl
            have fR7 := HR_10.out.warm (j := 7) rfl
            have zR8 := HR_10.out.cell (j := 8) rfl
            have fR8 := HR_10.out.warm (j := 8) rfl
            have zR9 := HR_10.out.cell (j := 9) rfl
            have fR9 := HR_10.out.warm (j := 9) rfl
            have zR10 := HR_10.out.cell (j := 10) rfl
            have fR10 := HR_10.out.warm (j := 10) rfl
            have zR11 := HR_10.out.cell (j := 11) rfl
            have fR11 := HR_10.out.warm (j := 11) rfl
            have zR12 := HR_10.out.cell (j := 12) rfl
            have fR12 := HR_10.out.warm (j := 12) rfl
            have zY0 := HY_10.out.cell (j := 0) rfl
            have fY0 := HY_10.out.warm (j := 0) rfl
            have zY1 := HY_10.out.cell (j := 1) rfl
            have fY1 := HY_10.out.warm (j := 1) rfl
            have zY2 := HY_10.out.cell (j := 2) rfl
            have fY2 := HY_10.out.warm (j := 2) rfl
            have zY3 := HY_10.out.cell (j := 3) rfl
            have fY3 := HY_10.out.warm (j := 3) rfl
            have zY4 := HY_10.out.cell (j := 4) rfl
            have fY4 := HY_10.out.warm (j := 4) rfl
            have zY5 := HY_10.out.cell (j := 5) rfl
            have fY5 := HY_10.out.warm (j := 5) rfl
            have zY6 := HY_10.out.cell (j := 6) rfl
            have fY6 := HY_10.out.warm (j := 6) rfl
            have zY7 := HY_10.out.cell (j := 7) rfl
            have fY7 := HY_10.out.warm (j := 7) rfl
            have zY8 := HY_10.out.cell (j := 8) rfl
            have fY8 := HY_10.out.warm (j := 8) rfl
            have zY9 := HY_10.out.cell (j := 9) rfl
            have fY9 := HY_10.out.warm (j := 9) rfl
            have zY10 := HY_10.out.cell (j := 10) rfl
            have fY10 := HY_10.out.warm (j := 10) rfl
            have zY11 := HY_10.out.cell (j := 11) rfl
            have fY11 := HY_10.out.warm (j := 11) rfl
            have zY12 := HY_10.out.cell (j := 12) rfl
            have fY12 := HY_10.out.warm (j := 12) rfl
            obtain ⟨V6, hV6⟩ : ∃ V, puts W6 (W1.heap.size) 11 [.int .i64 p1.at_, .slice X6 m6 q6] = V := ⟨_, rfl⟩
            have HB_11 := Lib.hid (pt_bel hV6 HB_10.out (show w.heap.size ≤ (W1.heap.size) by omega))
            have HR_11 := Lib.hid (pt_box hV6 HR_10.out (show (w.heap.size) ≠ (W1.heap.size) by omega))
            have HY_11 := Lib.hid (show Box V6 (W1.heap.size) [.int .i64 (k : Int), .string z0.label, .int .i64 z0.kind, .int .i64 z0.value, .slice X3 m3 q3, .string z1.label, .int .i64 z1.kind, .int .i64 z1.value, .slice X5 m5 q5, .int .i64 p0.at_, .slice X4 m4 q4, .int .i64 p1.at_, .slice X6 m6 q6] from pt_self hV6 HY_10.out (by simp))
            have HE3_11 := Lib.hid (pt_own hV6 HE3_10.out (show (W1.heap.size) < (W1.heap.size + 1) by omega))
            have HE4_11 := Lib.hid (pt_own hV6 HE4_10.out (show (W1.heap.size) < (W1.heap.size + 1) by omega))
            have HE5_11 := Lib.hid (pt_own hV6 HE5_10.out (show (W1.heap.size) < (W1.heap.size + 1) by omega))
            have HE6_11 := Lib.hid (pt_own hV6 HE6_10.out (show (W1.heap.size) < (W1.heap.size + 1) by omega))
            have HV6 := Lib.hid hV6
            clear hV6
            have HZ6 := Lib.hid (show W6.heap.size ≤ V6.heap.size from HE6_11.out.2.1)
            go_wp2
            clear zR0 fR0 zR1 fR1 zR2 fR2 zR3 fR3 zR4 fR4 zR5 fR5 zR6 fR6 zR7 fR7 zR8 fR8 zR9 fR9 zR10 fR10 zR11 fR11 zR12 fR12 zY0 fY0 zY1 fY1 zY2 fY2 zY3 fY3 zY4 fY4 zY5 fY5 zY6 fY6 zY7 fY7 zY8 fY8 zY9 fY9 zY10 fY10 zY11 fY11 zY12 fY12
            rw [show (W6.setCell ⟨W1.heap.size, 11, none⟩ (.int .i64 p1.at_)).setCell ⟨W1.heap.size, 12, none⟩ (.slice X6 m6 q6) = V6 from HV6.out]
            obtain ⟨VF, hVF⟩ : ∃ V, puts V6 (w.heap.size) 0 [.int .i64 (k : Int), .string z0.label, .int .i64 z0.kind, .int .i64 z0.value, .slice X3 m3 q3, .string z1.label, .int .i64 z1.kind, .int .i64 z1.value, .slice X5 m5 q5, .int .i64 p0.at_, .slice X4 m4 q4, .int .i64 p1.at_, .slice X6 m6 q6] = V := ⟨_, rfl⟩
            have HB_12 := Lib.hid (pt_bel hVF HB_11.out (show w.heap.size ≤ (w.heap.size) by omega))
            have HR_12 := Lib.hid (show Box VF (w.heap.size) [.int .i64 (k : Int), .string z0.label, .int .i64 z0.kind, .int .i64 z0.value, .slice X3 m3 q3, .string z1.label, .int .i64 z1.kind, .int .i64 z1.value, .slice X5 m5 q5, .int .i64 p0.at_, .slice X4 m4 q4, .int .i64 p1.at_, .slice X6 m6 q6] from pt_self hVF HR_11.out (by simp))
            have HY_12 := Lib.hid (pt_box hVF HY_11.out (show (W1.heap.size) ≠ (w.heap.size) by omega))
            have HE3_12 := Lib.hid (pt_own hVF HE3_11.out (show (w.heap.size) < (W1.heap.size + 1) by omega))
            have HE4_12 := Lib.hid (pt_own hVF HE4_11.out (show (w.heap.size) < (W1.heap.size + 1) by omega))
            have HE5_12 := Lib.hid (pt_own hVF HE5_11.out (show (w.heap.size) < (W1.heap.size + 1) by omega))
            have HE6_12 := Lib.hid (pt_own hVF HE6_11.out (show (w.heap.size) < (W1.heap.size + 1) by omega))
            have HVF := Lib.hid hVF
            clear hVF
            rw [show ((((((((((((V6.setCell ⟨w.heap.size, 0, none⟩ (.int .i64 (k : Int))).setCell ⟨w.heap.size, 1, none⟩ (.string z0.label)).setCell ⟨w.heap.size, 2, none⟩ (.int .i64 z0.kind)).setCell ⟨w.heap.size, 3, none⟩ (.int .i64 z0.value)).setCell ⟨w.heap.size, 4, none⟩ (.slice X3 m3 q3)).setCell ⟨w.heap.size, 5, none⟩ (.string z1.label)).setCell ⟨w.heap.size, 6, none⟩ (.int .i64 z1.kind)).setCell ⟨w.heap.size, 7, none⟩ (.int .i64 z1.value)).setCell ⟨w.heap.size, 8, none⟩ (.slice X5 m5 q5)).setCell ⟨w.heap.size, 9, none⟩ (.int .i64 p0.at_)).setCell ⟨w.heap.size, 10, none⟩ (.slice X4 m4 q4)).setCell ⟨w.heap.size, 11, none⟩ (.int .i64 p1.at_)).setCell ⟨w.heap.size, 12, none⟩ (.slice X6 m6 q6) = VF from HVF.out]
            have lVF : W6.heap.size ≤ VF.heap.size := HE6_12.out.2.1
            have zR0 := HR_12.out.cell (j := 0) rfl
            have zR1 := HR_12.out.cell (j := 1) rfl
            have zR2 := HR_12.out.cell (j := 2) rfl
            have zR3 := HR_12.out.cell (j := 3) rfl
            have zR4 := HR_12.out.cell (j := 4) rfl
            have zR5 := HR_12.out.cell (j := 5) rfl
            have zR6 := HR_12.out.cell (j := 6) rfl
            have zR7 := HR_12.out.cell (j := 7) rfl
            have zR8 := HR_12.out.cell (j := 8) rfl
            have zR9 := HR_12.out.cell (j := 9) rfl
            have zR10 := HR_12.out.cell (j := 10) rfl
            have zR11 := HR_12.out.cell (j := 11) rfl
            have zR12 := HR_12.out.cell (j := 12) rfl
            refine bodyPost_ret (v := .tuple #[.agg #[.int .i64 (k : Int), .string z0.label, .int .i64 z0.kind, .int .i64 z0.value, .slice X3 m3 q3, .string z1.label, .int .i64 z1.kind, .int .i64 z1.value, .slice X5 m5 q5, .int .i64 p0.at_, .slice X4 m4 q4, .int .i64 p1.at_, .slice X6 m6 q6], .bool true]) (by simp [results, Tryz.results7, go_sem, zR0, zR1, zR2, zR3, zR4, zR5, zR6, zR7, zR8, zR9, zR10, zR11, zR12]) rfl ⟨[.int .i64 (k : Int), .string z0.label, .int .i64 z0.kind, .int .i64 z0.value, .slice X3 m3 q3, .string z1.label, .int .i64 z1.kind, .int .i64 z1.value, .slice X5 m5 q5, .int .i64 p0.at_, .slice X4 m4 q4, .int .i64 p1.at_, .slice X6 m6 q6], rfl, ?_, HB_12.out⟩
            obtain ⟨F1, a1, u1, e1⟩ := HE3_12.out.1
            obtain ⟨F3, a3, u3, e3⟩ := HE4_12.out.1
            obtain ⟨F2, a2, u2, e2⟩ := HE5_12.out.1
            obtain ⟨F4, a4, u4, e4⟩ := HE6_12.out.1
            have lHS := HS.out
            have lHS3 := HS3.out
            have lHZ3 := HZ3.out
            have lHS4 := HS4.out
            have lHZ4 := HZ4.out
            have lHS5 := HS5.out
            have lHZ5 := HZ5.out
            have lHS6 := HS6.out
            have lHZ6 := HZ6.out
            have lB := HY_12.out.lt
            refine own_parts4 (RGap_set.2 ⟨X3, m3, q3, X5, m5, q5, X4, m4, q4, X6, m6, q6, F1, F2, F3, F4, rfl, rfl, hKi.out, a1, a2, a3, a4⟩) u1 u2 u3 u4 e1 e2 e3 e4 ?_ ?_ ?_ ?_ ?_ ?_ ?_ ?_ <;> omega
          · have hki : ¬ (k : Int) < n := by omega
            have haf : aftE l k = zeroE := by unfold aftE; rw [if_neg (by omega)]
            have hri : rigP l k = zeroP := by unfold rigP; rw [if_neg (by omega)]
            have HGA := Lib.hid (show gapAt l k = ⟨(k : Int), z0, zeroE, p0, zeroP⟩ from by unfold gapAt; rw [hbe, haf, hle, hri]; try rfl)
            rw [HGA.out]
            have hKi := Lib.hid (show In .i64 (k : Int) from inI64 (by omega) (by omega))
            clear hbe haf hle hri HPE HEL
            go_enter Tryz.func7, Tryz.ntmps7
            go_wp2_with fail
            rw [show w.alloc (.cells #[.int .i64 0, .string ⟨#[]⟩, .int .i64 0, .int .i64 0, .slice none 0 0, .string ⟨#[]⟩, .int .i64 0, .int .i64 0, .slice none 0 0, .int .i64 0, .slice none 0 0, .int .i64 0, .slice none 0 0] 34) = V from HV.out.symm]
            refine (HAE.out _ HB_1.out).mono ?_
            rintro e W1 ⟨rfl, hb⟩
            have HB_2 := Lib.hid (HB_1.out.trans (hb.mono HB_1.out.size))
            have HR_2 := Lib.hid (HR_1.out.below hb HR_1.out.lt)
            clear hb
            have zR0 := HR_2.out.cell (j := 0) rfl
            have zR1 := HR_2.out.cell (j := 1) rfl
            have zR2 := HR_2.out.cell (j := 2) rfl
            have zR3 := HR_2.out.cell (j := 3) rfl
            have zR4 := HR_2.out.cell (j := 4) rfl
            have zR5 := HR_2.out.cell (j := 5) rfl
            have zR6 := HR_2.out.cell (j := 6) rfl
            have zR7 := HR_2.out.cell (j := 7) rfl
            have zR8 := HR_2.out.cell (j := 8) rfl
            have zR9 := HR_2.out.cell (j := 9) rfl
            have zR10 := HR_2.out.cell (j := 10) rfl
            have zR11 := HR_2.out.cell (j := 11) rfl
            have zR12 := HR_2.out.cell (j := 12) rfl
            go_wp2_with fail
            clear zR0 zR1 zR2 zR3 zR4 zR5 zR6 zR7 zR8 zR9 zR10 zR11 zR12
            refine (HIL.out _).mono ?_
            rintro e w2 ⟨rfl, rfl⟩
            have zR0 := HR_2.out.cell (j := 0) rfl
            have zR1 := HR_2.out.cell (j := 1) rfl
            have zR2 := HR_2.out.cell (j := 2) rfl
            have zR3 := HR_2.out.cell (j := 3) rfl
            have zR4 := HR_2.out.cell (j := 4) rfl
            have zR5 := HR_2.out.cell (j := 5) rfl
            have zR6 := HR_2.out.cell (j := 6) rfl
            have zR7 := HR_2.out.cell (j := 7) rfl
            have zR8 := HR_2.out.cell (j := 8) rfl
            have zR9 := HR_2.out.cell (j := 9) rfl
            have zR10 := HR_2.out.cell (j := 10) rfl
            have zR11 := HR_2.out.cell (j := 11) rfl
            have zR12 := HR_2.out.cell (j := 12) rfl
            go_wp2_with fail
            clear zR0 zR1 zR2 zR3 zR4 zR5 zR6 zR7 zR8 zR9 zR10 zR11 zR12
            refine (HFE.out _ HB_2.out).mono ?_
            rintro e w2 ⟨rfl, rfl⟩
            have zR0 := HR_2.out.cell (j := 0) rfl
            have zR1 := HR_2.out.cell (j := 1) rfl
            have zR2 := HR_2.out.cell (j := 2) rfl
            have zR3 := HR_2.out.cell (j := 3) rfl
            have zR4 := HR_2.out.cell (j := 4) rfl
            have zR5 := HR_2.out.cell (j := 5) rfl
            have zR6 := HR_2.out.cell (j := 6) rfl
            have zR7 := HR_2.out.cell (j := 7) rfl
            have zR8 := HR_2.out.cell (j := 8) rfl
            have zR9 := HR_2.out.cell (j := 9) rfl
            have zR10 := HR_2.out.cell (j := 10) rfl
            have zR11 := HR_2.out.cell (j := 11) rfl
            have zR12 := HR_2.out.cell (j := 12) rfl
            go_wp2_with fail
            clear zR0 zR1 zR2 zR3 zR4 zR5 zR6 zR7 zR8 zR9 zR10 zR11 zR12
            refine (HRK.out _ HB_2.out).mono ?_
            rintro e w2 ⟨rfl, rfl⟩
            have hW1 : w.heap.size < W1.heap.size := HR_2.out.lt
            have hal : Below W1.heap.size W1 (W1.alloc (.cells #[.int .i64 (k : Int), .string ⟨#[]⟩, .int .i64 0, .int .i64 0, .slice none 0 0, .string ⟨#[]⟩, .int .i64 0, .int .i64 0, .slice none 0 0, .int .i64 0, .slice none 0 0, .int .i64 0, .slice none 0 0] 34)) := (Below.refl _ _).alloc (Nat.le_refl _) _
            have HB_3 := Lib.hid (HB_2.out.trans (hal.mono HB_2.out.size))
            have HR_3 := Lib.hid (HR_2.out.below hal HR_2.out.lt)
            have HY_3 := Lib.hid (show Box (W1.alloc (.cells #[.int .i64 (k : Int), .string ⟨#[]⟩, .int .i64 0, .int .i64 0, .slice none 0 0, .string ⟨#[]⟩, .int .i64 0, .int .i64 0, .slice none 0 0, .int .i64 0, .slice none 0 0, .int .i64 0, .slice none 0 0] 34)) (W1.heap.size) [.int .i64 (k : Int), .string ⟨#[]⟩, .int .i64 0, .int .i64 0, .slice none 0 0, .string ⟨#[]⟩, .int .i64 0, .int .i64 0, .slice none 0 0, .int .i64 0, .slice none 0 0, .int .i64 0, .slice none 0 0] from Box.new W1 #[.int .i64 (k : Int), .string ⟨#[]⟩, .int .i64 0, .int .i64 0, .slice none 0 0, .string ⟨#[]⟩, .int .i64 0, .int .i64 0, .slice none 0 0, .int .i64 0, .slice none 0 0, .int .i64 0, .slice none 0 0] 34)
            obtain ⟨V2, hV2⟩ : ∃ V, W1.alloc (.cells #[.int .i64 (k : Int), .string ⟨#[]⟩, .int .i64 0, .int .i64 0, .slice none 0 0, .string ⟨#[]⟩, .int .i64 0, .int .i64 0, .slice none 0 0, .int .i64 0, .slice none 0 0, .int .i64 0, .slice none 0 0] 34) = V := ⟨_, rfl⟩
            rw [hV2] at HB_3 HR_3 HY_3
            have HV2 := Lib.hid hV2
            clear hal
            have HS := Lib.hid (show W1.heap.size + 1 ≤ V2.heap.size from HY_3.out.lt)
            clear hV2
            have c0 : V2.cell? ⟨b, off + K * 4, none⟩ = some (.string z0.label) := (HB_3.out.cell (p := ⟨b, off + K * 4, none⟩) hlt).trans HD0.out
            have c1 : V2.cell? ⟨b, off + K * 4 + 1, none⟩ = some (.int .i64 z0.kind) := (HB_3.out.cell (p := ⟨b, off + K * 4 + 1, none⟩) hlt).trans HD1.out
            have c2 : V2.cell? ⟨b, off + K * 4 + 2, none⟩ = some (.int .i64 z0.value) := (HB_3.out.cell (p := ⟨b, off + K * 4 + 2, none⟩) hlt).trans HD2.out
            have c3 : V2.cell? ⟨b, off + K * 4 + 3, none⟩ = some (.slice A5 n5 c5) := (HB_3.out.cell (p := ⟨b, off + K * 4 + 3, none⟩) hlt).trans HD3.out
            have eV : V2 = W1.alloc (.cells #[.int .i64 (k : Int), .string ⟨#[]⟩, .int .i64 0, .int .i64 0, .slice none 0 0, .string ⟨#[]⟩, .int .i64 0, .int .i64 0, .slice none 0 0, .int .i64 0, .slice none 0 0, .int .i64 0, .slice none 0 0] 34) := (HV2.out).symm
            rw [eV] at c0 c1 c2 c3
            clear eV
            go_wp2_with fail
            clear c0 c1 c2 c3
            rw [HV2.out]
            refine (HC0.out _ HB_3.out).mono ?_
            rintro e W3 ⟨cs3, rfl, ho, hb⟩
            obtain ⟨X3, m3, q3, rfl⟩ := REntry_shape ho.rd
            have HB_4 := Lib.hid (HB_3.out.trans (hb.mono HB_3.out.size))
            have HR_4 := Lib.hid (HR_3.out.below hb HR_3.out.lt)
            have HY_4 := Lib.hid (HY_3.out.below hb HY_3.out.lt)
            have HS3 := Lib.hid (show V2.heap.size ≤ W3.heap.size from hb.size)
            have HE3_4 := Lib.hid (show OwnI REntry W3 (V2.heap.size) (W3.heap.size) [.string z0.label, .int .i64 z0.kind, .int .i64 z0.value, .slice X3 m3 q3] z0 ∧ (W3.heap.size) ≤ W3.heap.size ∧ (W1.heap.size + 1) ≤ (V2.heap.size) from ⟨ho, Nat.le_refl _, by have := HS.out;  omega⟩)
            clear hb ho
            have zY0 := HY_4.out.cell (j := 0) rfl
            have fY0 := HY_4.out.warm (j := 0) rfl
            have zY1 := HY_4.out.cell (j := 1) rfl
            have fY1 := HY_4.out.warm (j := 1) rfl
            have zY2 := HY_4.out.cell (j := 2) rfl
            have fY2 := HY_4.out.warm (j := 2) rfl
            have zY3 := HY_4.out.cell (j := 3) rfl
            have fY3 := HY_4.out.warm (j := 3) rfl
            have zY4 := HY_4.out.cell (j := 4) rfl
            have fY4 := HY_4.out.warm (j := 4) rfl
            have zY5 := HY_4.out.cell (j := 5) rfl
            have fY5 := HY_4.out.warm (j := 5) rfl
            have zY6 := HY_4.out.cell (j := 6) rfl
            have fY6 := HY_4.out.warm (j := 6) rfl
            have zY7 := HY_4.out.cell (j := 7) rfl
            have fY7 := HY_4.out.warm (j := 7) rfl
            have zY8 := HY_4.out.cell (j := 8) rfl
            have fY8 := HY_4.out.warm (j := 8) rfl
            have zY9 := HY_4.out.cell (j := 9) rfl
            have fY9 := HY_4.out.warm (j := 9) rfl
            have zY10 := HY_4.out.cell (j := 10) rfl
            have fY10 := HY_4.out.warm (j := 10) rfl
            have zY11 := HY_4.out.cell (j := 11) rfl
            have fY11 := HY_4.out.warm (j := 11) rfl
            have zY12 := HY_4.out.cell (j := 12) rfl
            have fY12 := HY_4.out.warm (j := 12) rfl
            obtain ⟨V3, hV3⟩ : ∃ V, puts W3 (W1.heap.size) 1 [.string z0.label, .int .i64 z0.kind, .int .i64 z0.value, .slice X3 m3 q3] = V := ⟨_, rfl⟩
            have HB_5 := Lib.hid (pt_bel hV3 HB_4.out (show w.heap.size ≤ (W1.heap.size) by omega))
            have HR_5 := Lib.hid (pt_box hV3 HR_4.out (show (w.heap.size) ≠ (W1.heap.size) by omega))
            have HY_5 := Lib.hid (show Box V3 (W1.heap.size) [.int .i64 (k : Int), .string z0.label, .int .i64 z0.kind, .int .i64 z0.value, .slice X3 m3 q3, .string ⟨#[]⟩, .int .i64 0, .int .i64 0, .slice none 0 0, .int .i64 0, .slice none 0 0, .int .i64 0, .slice none 0 0] from pt_self hV3 HY_4.out (by simp))
            have HE3_5 := Lib.hid (pt_own hV3 HE3_4.out (show (W1.heap.size) < (W1.heap.size + 1) by omega))
            have HV3 := Lib.hid hV3
            clear hV3
            have HZ3 := Lib.hid (show W3.heap.size ≤ V3.heap.size from HE3_5.out.2.1)
            have c0 : V3.cell? ⟨b, off + K * 4, none⟩ = some (.string z0.label) := (HB_5.out.cell (p := ⟨b, off + K * 4, none⟩) hlt).trans HD0.out
            have c1 : V3.cell? ⟨b, off + K * 4 + 1, none⟩ = some (.int .i64 z0.kind) := (HB_5.out.cell (p := ⟨b, off + K * 4 + 1, none⟩) hlt).trans HD1.out
            have c2 : V3.cell? ⟨b, off + K * 4 + 2, none⟩ = some (.int .i64 z0.value) := (HB_5.out.cell (p := ⟨b, off + K * 4 + 2, none⟩) hlt).trans HD2.out
            have c3 : V3.cell? ⟨b, off + K * 4 + 3, none⟩ = some (.slice A5 n5 c5) := (HB_5.out.cell (p := ⟨b, off + K * 4 + 3, none⟩) hlt).trans HD3.out
            have eV : V3 = (((W3.setCell ⟨W1.heap.size, 1, none⟩ (.string z0.label)).setCell ⟨W1.heap.size, 2, none⟩ (.int .i64 z0.kind)).setCell ⟨W1.heap.size, 3, none⟩ (.int .i64 z0.value)).setCell ⟨W1.heap.size, 4, none⟩ (.slice X3 m3 q3) := (HV3.out).symm
            rw [eV] at c0 c1 c2 c3
            clear eV
            go_wp2_with fail
            clear zY0 fY0 zY1 fY1 zY2 fY2 zY3 fY3 zY4 fY4 zY5 fY5 zY6 fY6 zY7 fY7 zY8 fY8 zY9 fY9 zY10 fY10 zY11 fY11 zY12 fY12 c0 c1 c2 c3
            rw [show (((W3.setCell ⟨W1.heap.size, 1, none⟩ (.string z0.label)).setCell ⟨W1.heap.size, 2, none⟩ (.int .i64 z0.kind)).setCell ⟨W1.heap.size, 3, none⟩ (.int .i64 z0.value)).setCell ⟨W1.heap.size, 4, none⟩ (.slice X3 m3 q3) = V3 from HV3.out]
            refine (HP0.out _ HB_5.out).mono ?_
            rintro e W4 ⟨cs4, rfl, ho, hb⟩
            obtain ⟨X4, m4, q4, rfl⟩ := RProof_shape ho.rd
            have HB_6 := Lib.hid (HB_5.out.trans (hb.mono HB_5.out.size))
            have HR_6 := Lib.hid (HR_5.out.below hb HR_5.out.lt)
            have HY_6 := Lib.hid (HY_5.out.below hb HY_5.out.lt)
            have HE3_6 := Lib.hid (show OwnI REntry W4 (V2.heap.size) (W3.heap.size) [.string z0.label, .int .i64 z0.kind, .int .i64 z0.value, .slice X3 m3 q3] z0 ∧ (W3.heap.size) ≤ W4.heap.size ∧ (W1.heap.size + 1) ≤ (V2.heap.size) from ⟨HE3_5.out.1.below hb HE3_5.out.2.1, Nat.le_trans HE3_5.out.2.1 hb.size, HE3_5.out.2.2⟩)
            have HS4 := Lib.hid (show V3.heap.size ≤ W4.heap.size from hb.size)
            have HE4_6 := Lib.hid (show OwnI RProof W4 (V3.heap.size) (W4.heap.size) [.int .i64 p0.at_, .slice X4 m4 q4] p0 ∧ (W4.heap.size) ≤ W4.heap.size ∧ (W1.heap.size + 1) ≤ (V3.heap.size) from ⟨ho, Nat.le_refl _, by have := HS.out; have := HS3.out; have := HZ3.out; omega⟩)
            clear hb ho
            have zR0 := HR_6.out.cell (j := 0) rfl
            have fR0 := HR_6.out.warm (j := 0) rfl
            have zR1 := HR_6.out.cell (j := 1) rfl
            have fR1 := HR_6.out.warm (j := 1) rfl
            have zR2 := HR_6.out.cell (j := 2) rfl
            have fR2 := HR_6.out.warm (j := 2) rfl
            have zR3 := HR_6.out.cell (j := 3) rfl
            have fR3 := HR_6.out.warm (j := 3) rfl
            have zR4 := HR_6.out.cell (j := 4) rfl
            have fR4 := HR_6.out.warm (j := 4) rfl
            have zR5 := HR_6.out.cell (j := 5) rfl
            have fR5 := HR_6.out.warm (j := 5) rfl
            have zR6 := HR_6.out.cell (j := 6) rfl
            have fR6 := HR_6.out.warm (j := 6) rfl
            have zR7 := HR_6.out.cell (j := 7) rfl
            have fR7 := HR_6.out.warm (j := 7) rfl
            have zR8 := HR_6.out.cell (j := 8) rfl
            have fR8 := HR_6.out.warm (j := 8) rfl
            have zR9 := HR_6.out.cell (j := 9) rfl
            have fR9 := HR_6.out.warm (j := 9) rfl
            have zR10 := HR_6.out.cell (j := 10) rfl
            have fR10 := HR_6.out.warm (j := 10) rfl
            have zR11 := HR_6.out.cell (j := 11) rfl
            have fR11 := HR_6.out.warm (j := 11) rfl
            have zR12 := HR_6.out.cell (j := 12) rfl
            have fR12 := HR_6.out.warm (j := 12) rfl
            have zY0 := HY_6.out.cell (j := 0) rfl
            have fY0 := HY_6.out.warm (j := 0) rfl
            have zY1 := HY_6.out.cell (j := 1) rfl
            have fY1 := HY_6.out.warm (j := 1) rfl
            have zY2 := HY_6.out.cell (j := 2) rfl
            have fY2 := HY_6.out.warm (j := 2) rfl
            have zY3 := HY_6.out.cell (j := 3) rfl
            have fY3 := HY_6.out.warm (j := 3) rfl
            have zY4 := HY_6.out.cell (j := 4) rfl
            have fY4 := HY_6.out.warm (j := 4) rfl
            have zY5 := HY_6.out.cell (j := 5) rfl
            have fY5 := HY_6.out.warm (j := 5) rfl
            have zY6 := HY_6.out.cell (j := 6) rfl
            have fY6 := HY_6.out.warm (j := 6) rfl
            have zY7 := HY_6.out.cell (j := 7) rfl
            have fY7 := HY_6.out.warm (j := 7) rfl
            have zY8 := HY_6.out.cell (j := 8) rfl
            have fY8 := HY_6.out.warm (j := 8) rfl
            have zY9 := HY_6.out.cell (j := 9) rfl
            have fY9 := HY_6.out.warm (j := 9) rfl
            have zY10 := HY_6.out.cell (j := 10) rfl
            have fY10 := HY_6.out.warm (j := 10) rfl
            have zY11 := HY_6.out.cell (j := 11) rfl
            have fY11 := HY_6.out.warm (j := 11) rfl
            have zY12 := HY_6.out.cell (j := 12) rfl
            have fY12 := HY_6.out.warm (j := 12) rfl
            obtain ⟨V4, hV4⟩ : ∃ V, puts W4 (W1.heap.size) 9 [.int .i64 p0.at_, .slice X4 m4 q4] = V := ⟨_, rfl⟩
            have HB_7 := Lib.hid (pt_bel hV4 HB_6.out (show w.heap.size ≤ (W1.heap.size) by omega))
            have HR_7 := Lib.hid (pt_box hV4 HR_6.out (show (w.heap.size) ≠ (W1.heap.size) by omega))
            have HY_7 := Lib.hid (show Box V4 (W1.heap.size) [.int .i64 (k : Int), .string z0.label, .int .i64 z0.kind, .int .i64 z0.value, .slice X3 m3 q3, .string ⟨#[]⟩, .int .i64 0, .int .i64 0, .slice none 0 0, .int .i64 p0.at_, .slice X4 m4 q4, .int .i64 0, .slice none 0 0] from pt_self hV4 HY_6.out (by simp))
            have HE3_7 := Lib.hid (pt_own hV4 HE3_6.out (show (W1.heap.size) < (W1.heap.size + 1) by omega))
            have HE4_7 := Lib.hid (pt_own hV4 HE4_6.out (show (W1.heap.size) < (W1.heap.size + 1) by omega))
            have HV4 := Lib.hid hV4
            clear hV4
            have HZ4 := Lib.hid (show W4.heap.size ≤ V4.heap.size from HE4_7.out.2.1)
            go_wp2
            clear zR0 fR0 zR1 fR1 zR2 fR2 zR3 fR3 zR4 fR4 zR5 fR5 zR6 fR6 zR7 fR7 zR8 fR8 zR9 fR9 zR10 fR10 zR11 fR11 zR12 fR12 zY0 fY0 zY1 fY1 zY2 fY2 zY3 fY3 zY4 fY4 zY5 fY5 zY6 fY6 zY7 fY7 zY8 fY8 zY9 fY9 zY10 fY10 zY11 fY11 zY12 fY12
            rw [show (W4.setCell ⟨W1.heap.size, 9, none⟩ (.int .i64 p0.at_)).setCell ⟨W1.heap.size, 10, none⟩ (.slice X4 m4 q4) = V4 from HV4.out]
            obtain ⟨VF, hVF⟩ : ∃ V, puts V4 (w.heap.size) 0 [.int .i64 (k : Int), .string z0.label, .int .i64 z0.kind, .int .i64 z0.value, .slice X3 m3 q3, .string ⟨#[]⟩, .int .i64 0, .int .i64 0, .slice none 0 0, .int .i64 p0.at_, .slice X4 m4 q4, .int .i64 0, .slice none 0 0] = V := ⟨_, rfl⟩
            have HB_8 := Lib.hid (pt_bel hVF HB_7.out (show w.heap.size ≤ (w.heap.size) by omega))
            have HR_8 := Lib.hid (show Box VF (w.heap.size) [.int .i64 (k : Int), .string z0.label, .int .i64 z0.kind, .int .i64 z0.value, .slice X3 m3 q3, .string ⟨#[]⟩, .int .i64 0, .int .i64 0, .slice none 0 0, .int .i64 p0.at_, .slice X4 m4 q4, .int .i64 0, .slice none 0 0] from pt_self hVF HR_7.out (by simp))
            have HY_8 := Lib.hid (pt_box hVF HY_7.out (show (W1.heap.size) ≠ (w.heap.size) by omega))
            have HE3_8 := Lib.hid (pt_own hVF HE3_7.out (show (w.heap.size) < (W1.heap.size + 1) by omega))
            have HE4_8 := Lib.hid (pt_own hVF HE4_7.out (show (w.heap.size) < (W1.heap.size + 1) by omega))
            have HVF := Lib.hid hVF
            clear hVF
            rw [show ((((((((((((V4.setCell ⟨w.heap.size, 0, none⟩ (.int .i64 (k : Int))).setCell ⟨w.heap.size, 1, none⟩ (.string z0.label)).setCell ⟨w.heap.size, 2, none⟩ (.int .i64 z0.kind)).setCell ⟨w.heap.size, 3, none⟩ (.int .i64 z0.value)).setCell ⟨w.heap.size, 4, none⟩ (.slice X3 m3 q3)).setCell ⟨w.heap.size, 5, none⟩ (.string ⟨#[]⟩)).setCell ⟨w.heap.size, 6, none⟩ (.int .i64 0)).setCell ⟨w.heap.size, 7, none⟩ (.int .i64 0)).setCell ⟨w.heap.size, 8, none⟩ (.slice none 0 0)).setCell ⟨w.heap.size, 9, none⟩ (.int .i64 p0.at_)).setCell ⟨w.heap.size, 10, none⟩ (.slice X4 m4 q4)).setCell ⟨w.heap.size, 11, none⟩ (.int .i64 0)).setCell ⟨w.heap.size, 12, none⟩ (.slice none 0 0) = VF from HVF.out]
            have lVF : W4.heap.size ≤ VF.heap.size := HE4_8.out.2.1
            have zR0 := HR_8.out.cell (j := 0) rfl
            have zR1 := HR_8.out.cell (j := 1) rfl
            have zR2 := HR_8.out.cell (j := 2) rfl
            have zR3 := HR_8.out.cell (j := 3) rfl
            have zR4 := HR_8.out.cell (j := 4) rfl
            have zR5 := HR_8.out.cell (j := 5) rfl
            have zR6 := HR_8.out.cell (j := 6) rfl
            have zR7 := HR_8.out.cell (j := 7) rfl
            have zR8 := HR_8.out.cell (j := 8) rfl
            have zR9 := HR_8.out.cell (j := 9) rfl
            have zR10 := HR_8.out.cell (j := 10) rfl
            have zR11 := HR_8.out.cell (j := 11) rfl
            have zR12 := HR_8.out.cell (j := 12) rfl
            refine bodyPost_ret (v := .tuple #[.agg #[.int .i64 (k : Int), .string z0.label, .int .i64 z0.kind, .int .i64 z0.value, .slice X3 m3 q3, .string ⟨#[]⟩, .int .i64 0, .int .i64 0, .slice none 0 0, .int .i64 p0.at_, .slice X4 m4 q4, .int .i64 0, .slice none 0 0], .bool true]) (by simp [results, Tryz.results7, go_sem, zR0, zR1, zR2, zR3, zR4, zR5, zR6, zR7, zR8, zR9, zR10, zR11, zR12]) rfl ⟨[.int .i64 (k : Int), .string z0.label, .int .i64 z0.kind, .int .i64 z0.value, .slice X3 m3 q3, .string ⟨#[]⟩, .int .i64 0, .int .i64 0, .slice none 0 0, .int .i64 p0.at_, .slice X4 m4 q4, .int .i64 0, .slice none 0 0], rfl, ?_, HB_8.out⟩
            obtain ⟨F1, a1, u1, e1⟩ := HE3_8.out.1
            obtain ⟨F3, a3, u3, e3⟩ := HE4_8.out.1
            obtain ⟨F2, a2, u2, e2⟩ := zero_ownE VF (W1.heap.size + 1)
            obtain ⟨F4, a4, u4, e4⟩ := zero_ownP VF (W1.heap.size + 1)
            have lHS := HS.out
            have lHS3 := HS3.out
            have lHZ3 := HZ3.out
            have lHS4 := HS4.out
            have lHZ4 := HZ4.out
            have lB := HY_8.out.lt
            refine own_parts4 (RGap_set.2 ⟨X3, m3, q3, none, 0, 0, X4, m4, q4, none, 0, 0, F1, F2, F3, F4, rfl, rfl, hKi.out, a1, a2, a3, a4⟩) u1 u2 u3 u4 e1 e2 e3 e4 ?_ ?_ ?_ ?_ ?_ ?_ ?_ ?_ <;> omega
      · rw [proveA_no (.inr (.inr hfe))]
        have hge : (0 : Int) ≤ fndE l s := by omega
        clear hae hil
        generalize fndE l s = fe at *
        go_enter Tryz.func7, Tryz.ntmps7
        go_wp2_with fail
        rw [show w.alloc (.cells #[.int .i64 0, .string ⟨#[]⟩, .int .i64 0, .int .i64 0, .slice none 0 0, .string ⟨#[]⟩, .int .i64 0, .int .i64 0, .slice none 0 0, .int .i64 0, .slice none 0 0, .int .i64 0, .slice none 0 0] 34) = V from HV.out.symm]
        refine (HAE.out _ HB_1.out).mono ?_
        rintro e W1 ⟨rfl, hb⟩
        have HB_2 := Lib.hid (HB_1.out.trans (hb.mono HB_1.out.size))
        have HR_2 := Lib.hid (HR_1.out.below hb HR_1.out.lt)
        clear hb
        have zR0 := HR_2.out.cell (j := 0) rfl
        have zR1 := HR_2.out.cell (j := 1) rfl
        have zR2 := HR_2.out.cell (j := 2) rfl
        have zR3 := HR_2.out.cell (j := 3) rfl
        have zR4 := HR_2.out.cell (j := 4) rfl
        have zR5 := HR_2.out.cell (j := 5) rfl
        have zR6 := HR_2.out.cell (j := 6) rfl
        have zR7 := HR_2.out.cell (j := 7) rfl
        have zR8 := HR_2.out.cell (j := 8) rfl
        have zR9 := HR_2.out.cell (j := 9) rfl
        have zR10 := HR_2.out.cell (j := 10) rfl
        have zR11 := HR_2.out.cell (j := 11) rfl
        have zR12 := HR_2.out.cell (j := 12) rfl
        go_wp2_with fail
        clear zR0 zR1 zR2 zR3 zR4 zR5 zR6 zR7 zR8 zR9 zR10 zR11 zR12
        refine (HIL.out _).mono ?_
        rintro e w2 ⟨rfl, rfl⟩
        have zR0 := HR_2.out.cell (j := 0) rfl
        have zR1 := HR_2.out.cell (j := 1) rfl
        have zR2 := HR_2.out.cell (j := 2) rfl
        have zR3 := HR_2.out.cell (j := 3) rfl
        have zR4 := HR_2.out.cell (j := 4) rfl
        have zR5 := HR_2.out.cell (j := 5) rfl
        have zR6 := HR_2.out.cell (j := 6) rfl
        have zR7 := HR_2.out.cell (j := 7) rfl
        have zR8 := HR_2.out.cell (j := 8) rfl
        have zR9 := HR_2.out.cell (j := 9) rfl
        have zR10 := HR_2.out.cell (j := 10) rfl
        have zR11 := HR_2.out.cell (j := 11) rfl
        have zR12 := HR_2.out.cell (j := 12) rfl
        go_wp2_with fail
        clear zR0 zR1 zR2 zR3 zR4 zR5 zR6 zR7 zR8 zR9 zR10 zR11 zR12
        refine (HFE.out _ HB_2.out).mono ?_
        rintro e w2 ⟨rfl, rfl⟩
        have zR0 := HR_2.out.cell (j := 0) rfl
        have fR0 := HR_2.out.warm (j := 0) rfl
        have zR1 := HR_2.out.cell (j := 1) rfl
        have fR1 := HR_2.out.warm (j := 1) rfl
        have zR2 := HR_2.out.cell (j := 2) rfl
        have fR2 := HR_2.out.warm (j := 2) rfl
        have zR3 := HR_2.out.cell (j := 3) rfl
        have fR3 := HR_2.out.warm (j := 3) rfl
        have zR4 := HR_2.out.cell (j := 4) rfl
        have fR4 := HR_2.out.warm (j := 4) rfl
        have zR5 := HR_2.out.cell (j := 5) rfl
        have fR5 := HR_2.out.warm (j := 5) rfl
        have zR6 := HR_2.out.cell (j := 6) rfl
        have fR6 := HR_2.out.warm (j := 6) rfl
        have zR7 := HR_2.out.cell (j := 7) rfl
        have fR7 := HR_2.out.warm (j := 7) rfl
        have zR8 := HR_2.out.cell (j := 8) rfl
        have fR8 := HR_2.out.warm (j := 8) rfl
        have zR9 := HR_2.out.cell (j := 9) rfl
        have fR9 := HR_2.out.warm (j := 9) rfl
        have zR10 := HR_2.out.cell (j := 10) rfl
        have fR10 := HR_2.out.warm (j := 10) rfl
        have zR11 := HR_2.out.cell (j := 11) rfl
        have fR11 := HR_2.out.warm (j := 11) rfl
        have zR12 := HR_2.out.cell (j := 12) rfl
        have fR12 := HR_2.out.warm (j := 12) rfl
        go_wp2
        clear zR0 fR0 zR1 fR1 zR2 fR2 zR3 fR3 zR4 fR4 zR5 fR5 zR6 fR6 zR7 fR7 zR8 fR8 zR9 fR9 zR10 fR10 zR11 fR11 zR12 fR12
        obtain ⟨VF, hVF⟩ : ∃ V, puts W1 (w.heap.size) 0 [.int .i64 0, .string ⟨#[]⟩, .int .i64 0, .int .i64 0, .slice none 0 0, .string ⟨#[]⟩, .int .i64 0, .int .i64 0, .slice none 0 0, .int .i64 0, .slice none 0 0, .int .i64 0, .slice none 0 0] = V := ⟨_, rfl⟩
        have HB_3 := Lib.hid (pt_bel hVF HB_2.out (show w.heap.size ≤ (w.heap.size) by omega))
        have HR_3 := Lib.hid (show Box VF (w.heap.size) [.int .i64 0, .string ⟨#[]⟩, .int .i64 0, .int .i64 0, .slice none 0 0, .string ⟨#[]⟩, .int .i64 0, .int .i64 0, .slice none 0 0, .int .i64 0, .slice none 0 0, .int .i64 0, .slice none 0 0] from pt_self hVF HR_2.out (by simp))
        have HVF := Lib.hid hVF
        clear hVF
        rw [show ((((((((((((W1.setCell ⟨w.heap.size, 0, none⟩ (.int .i64 0)).setCell ⟨w.heap.size, 1, none⟩ (.string ⟨#[]⟩)).setCell ⟨w.heap.size, 2, none⟩ (.int .i64 0)).setCell ⟨w.heap.size, 3, none⟩ (.int .i64 0)).setCell ⟨w.heap.size, 4, none⟩ (.slice none 0 0)).setCell ⟨w.heap.size, 5, none⟩ (.string ⟨#[]⟩)).setCell ⟨w.heap.size, 6, none⟩ (.int .i64 0)).setCell ⟨w.heap.size, 7, none⟩ (.int .i64 0)).setCell ⟨w.heap.size, 8, none⟩ (.slice none 0 0)).setCell ⟨w.heap.size, 9, none⟩ (.int .i64 0)).setCell ⟨w.heap.size, 10, none⟩ (.slice none 0 0)).setCell ⟨w.heap.size, 11, none⟩ (.int .i64 0)).setCell ⟨w.heap.size, 12, none⟩ (.slice none 0 0) = VF from HVF.out]
        have zR0 := HR_3.out.cell (j := 0) rfl
        have zR1 := HR_3.out.cell (j := 1) rfl
        have zR2 := HR_3.out.cell (j := 2) rfl
        have zR3 := HR_3.out.cell (j := 3) rfl
        have zR4 := HR_3.out.cell (j := 4) rfl
        have zR5 := HR_3.out.cell (j := 5) rfl
        have zR6 := HR_3.out.cell (j := 6) rfl
        have zR7 := HR_3.out.cell (j := 7) rfl
        have zR8 := HR_3.out.cell (j := 8) rfl
        have zR9 := HR_3.out.cell (j := 9) rfl
        have zR10 := HR_3.out.cell (j := 10) rfl
        have zR11 := HR_3.out.cell (j := 11) rfl
        have zR12 := HR_3.out.cell (j := 12) rfl
        refine bodyPost_ret (v := .tuple #[.agg #[.int .i64 0, .string ⟨#[]⟩, .int .i64 0, .int .i64 0, .slice none 0 0, .string ⟨#[]⟩, .int .i64 0, .int .i64 0, .slice none 0 0, .int .i64 0, .slice none 0 0, .int .i64 0, .slice none 0 0], .bool false]) (by simp [results, Tryz.results7, go_sem, zR0, zR1, zR2, zR3, zR4, zR5, zR6, zR7, zR8, zR9, zR10, zR11, zR12]) rfl ⟨[.int .i64 0, .string ⟨#[]⟩, .int .i64 0, .int .i64 0, .slice none 0 0, .string ⟨#[]⟩, .int .i64 0, .int .i64 0, .slice none 0 0, .int .i64 0, .slice none 0 0, .int .i64 0, .slice none 0 0], rfl, ?_, HB_3.out⟩
        exact zero_ownG _ _ _ (by have := HB_3.out.size; omega)
end Go.Proofs.YtbhhifoofapgiaaGreat.C12SP
