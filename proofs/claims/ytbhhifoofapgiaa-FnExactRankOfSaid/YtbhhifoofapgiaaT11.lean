/- The laws' own helpers on a struct: Proof. -/
import Derived.Test.YtbhhifoofapgiaaR11
import Derived.Test.YtbhhifoofapgiaaTW
namespace Go.Proofs.Ytbhhifoofapgiaa.T11
open Go.RowKit Mem MemS Rep RepA T01 T04 T05 R08 R11 TW
set_option linter.unusedVariables false
set_option maxRecDepth 100000
theorem RProof_flds {w : World} {P : Nat → Prop} {cs : List Value} {k : Proof} (h : RProof.rd w P cs k) : ∃ A0 n0 c0, cs = [.int .i64 k.at_, .slice A0 n0 c0] ∧ In .i64 k.at_ ∧ RLI.rd w P [.slice A0 n0 c0] k.path := by
  obtain ⟨d0, e0, rfl, ⟨rfl, h0⟩, ⟨A0, n0, c0, rfl, x1, y1, h1⟩⟩ := h
  exact ⟨A0, n0, c0, rfl, h0, ⟨A0, n0, c0, rfl, x1, y1, h1⟩⟩
set_option maxHeartbeats 2000000 in
theorem szProof_any (cs : List Value) (k : Proof) (q : Int) (w : World) (h : RProof.rd w (Lt w.heap.size) cs k) (hq0 : 0 ≤ q) (hq1 : q ≤ 1048576) :
    Calls Try.prog 44 #[.agg cs.toArray, .int .i64 q] w fun e w' => e = .returned (.int .i64 (if q < (totProof k : Int) then -1 else q - (totProof k : Int))) ∧ Below w.heap.size w w' := by
  obtain ⟨A0, n0, c0, rfl, h0, h1⟩ := RProof_flds h
  have S1 := Lib.hid (fun (q1 : Int) (w1 : World) (hb : Below w.heap.size w w1) (g0 : 0 ≤ q1) (g1 : q1 ≤ 1048576) => u_szI A0 n0 c0 (k.path) q1 w1 (rd_up h1 hb) g0 g1)
  obtain ⟨t1, ht1⟩ : ∃ t : Nat, t = k.path.length := ⟨_, rfl⟩
  have hT : totProof k = t1 := by unfold totProof; omega
  rw [hT]
  rw [← ht1] at S1
  clear hT h h0 h1
  clear ht1
  by_cases hx0 : q < (t1 : Int)
  · skip
    have z0 : q - (t1 : Int) < 0 := by omega
    have V1 := Lib.hid (fun w1 hb => S1.out (q) w1 hb (by omega) (by omega))
    simp only [if_pos (show  q < (t1 : Int) by omega)] at V1
    rw [if_pos (by omega)]
    clear S1
    have HBB := Lib.hid (Below.refl w.heap.size w)
    go_enter Try.func44, Try.ntmps44
    go_wp2_with fail
    refine (V1.out _ ?_).mono ?_
    · repeat' (first | exact HBB.out | exact Below.refl _ _ | refine Below.setCell ?_ ?_ _ | refine Below.alloc ?_ ?_ _)
      all_goals first | (simp; done) | (simp; omega) | omega
    rintro e w0_ ⟨rfl, hb⟩
    have hb2 : Below w.heap.size w w0_ := by
      refine Below.trans ?_ (Below.mono hb ?_)
      repeat' (first | exact HBB.out | exact Below.refl _ _ | refine Below.setCell ?_ ?_ _ | refine Below.alloc ?_ ?_ _)
      all_goals first | (simp; done) | (simp; omega) | omega
    replace HBB := Lib.hid hb2
    obtain ⟨hc0, hf0⟩ := bcell hb
    clear hb hb2
    go_wp2
    go_ret
    refine ⟨rfl, ?_⟩
    repeat' (first | exact HBB.out | exact Below.refl _ _ | refine Below.setCell ?_ ?_ _ | refine Below.alloc ?_ ?_ _)
    all_goals first | (simp; done) | (simp; omega) | omega
  · skip
    have z0 : ¬ q - (t1 : Int) < 0 := by omega
    have V1 := Lib.hid (fun w1 hb => S1.out (q) w1 hb (by omega) (by omega))
    simp only [if_neg (show ¬ q < (t1 : Int) by omega)] at V1
    rw [if_neg (by omega)]
    rw [show q - ((t1 : Nat) : Int) = q - (t1 : Int) by omega]
    clear S1
    have HBB := Lib.hid (Below.refl w.heap.size w)
    go_enter Try.func44, Try.ntmps44
    go_wp2_with fail
    refine (V1.out _ ?_).mono ?_
    · repeat' (first | exact HBB.out | exact Below.refl _ _ | refine Below.setCell ?_ ?_ _ | refine Below.alloc ?_ ?_ _)
      all_goals first | (simp; done) | (simp; omega) | omega
    rintro e w0_ ⟨rfl, hb⟩
    have hb2 : Below w.heap.size w w0_ := by
      refine Below.trans ?_ (Below.mono hb ?_)
      repeat' (first | exact HBB.out | exact Below.refl _ _ | refine Below.setCell ?_ ?_ _ | refine Below.alloc ?_ ?_ _)
      all_goals first | (simp; done) | (simp; omega) | omega
    replace HBB := Lib.hid hb2
    obtain ⟨hc0, hf0⟩ := bcell hb
    clear hb hb2
    go_wp2
    go_ret
    refine ⟨rfl, ?_⟩
    repeat' (first | exact HBB.out | exact Below.refl _ _ | refine Below.setCell ?_ ?_ _ | refine Below.alloc ?_ ?_ _)
    all_goals first | (simp; done) | (simp; omega) | omega
set_option maxHeartbeats 2000000 in
theorem toProof_any (cs : List Value) (k : Proof) (w : World) (h : RProof.rd w (Lt w.heap.size) cs k) (hn : totProof k ≤ 1048576) :
    Calls Try.prog 50 #[.agg cs.toArray] w fun e w' => ∃ cs', e = .returned (.agg (List.toArray cs')) ∧ OwnI RProof w' w.heap.size w'.heap.size cs' k ∧ Below w.heap.size w w' := by
  obtain ⟨A0, n0, c0, rfl, h0, h1⟩ := RProof_flds h
  unfold totProof at hn
  have D0 := Lib.hid h0
  have D1 := Lib.hid h1
  have N1 := Lib.hid (show k.path.length ≤ 1048576 by omega)
  clear h hn h0 h1
  have HBB := Lib.hid (Below.refl w.heap.size w)
  go_enter Try.func50, Try.ntmps50
  go_wp2_with fail
  refine (u_toI A0 n0 c0 (k.path) _ (rd_up D1.out ?_) N1.out).mono ?_
  · repeat' (first | exact HBB.out | exact Below.refl _ _ | refine Below.setCell ?_ ?_ _ | refine Below.alloc ?_ ?_ _)
    all_goals first | (simp; done) | (simp; omega) | omega
  rintro e w0_ ⟨X0, m0, b0, rfl, ho, hb⟩
  have hb2 : Below w.heap.size w w0_ := by
    refine Below.trans ?_ (Below.mono hb ?_)
    repeat' (first | exact HBB.out | exact Below.refl _ _ | refine Below.setCell ?_ ?_ _ | refine Below.alloc ?_ ?_ _)
    all_goals first | (simp; done) | (simp; omega) | omega
  have O1 := Lib.hid (ho.wide (show w.heap.size + 3 ≤ _ by simp) (Nat.le_refl _))
  have HS0 := Lib.hid (show w.heap.size + 3 ≤ w0_.heap.size by have := hb.size; simp at this; omega)
  replace HBB := Lib.hid hb2
  obtain ⟨hc0, hf0⟩ := bcell hb
  have hsz0 : w.heap.size + 3 ≤ w0_.heap.size := HS0.out
  clear hb hb2 ho
  go_wp2
  refine bodyPost_ret (v := .agg #[.int .i64 k.at_, .slice X0 m0 b0]) (by simp [results, Try.results50, go_sem, hc0]) rfl ⟨[.int .i64 k.at_, .slice X0 m0 b0], rfl, ?_, ?_⟩
  · have fin : ∀ Y : World, OwnI RLI Y (w.heap.size + 3) w0_.heap.size [.slice X0 m0 b0] k.path → OwnI RProof Y w.heap.size w0_.heap.size [.int .i64 k.at_, .slice X0 m0 b0] k := fun Y g1 => by
      obtain ⟨F1, a1, b1, e1⟩ := g1
      have := HS0.out
      refine ⟨_, RProof_set.2 ⟨X0, m0, b0, F1, rfl, rfl, D0.out, by obtain ⟨A_, n_, c_, e_, h_⟩ := a1; injection e_ with e_; injection e_ with e1 e2 e3; subst e1 e2 e3; exact h_⟩, ?_, ?_⟩
      · exact b1
      · intro i hi
        try simp only [List.mem_append] at hi
        have := e1 i hi
        omega
    refine OwnI.top (fin _ ?_)
    · repeat refine OwnI.store ?_ _ (.inl (by first | (simp; done) | (simp; omega)))
      exact O1.out
  · repeat' (first | exact HBB.out | exact Below.refl _ _ | refine Below.setCell ?_ ?_ _ | refine Below.alloc ?_ ?_ _)
    all_goals first | (simp; done) | (simp; omega) | omega
set_option maxHeartbeats 2000000 in
theorem eqProof_same (B B' : Nat) (cs cs' : List Value) (k : Proof) (w : World) (h : RProof.rd w (Lt B) cs k) (h' : RProof.rd w (Lt B') cs' k) (hB : B ≤ w.heap.size) (hB' : B' ≤ w.heap.size) (hn : totProof k ≤ 1099511627776) :
    Calls Try.prog 37 #[.agg cs.toArray, .agg cs'.toArray] w fun e w' => e = .returned (.bool true) ∧ Below w.heap.size w w' := by
  obtain ⟨A0, n0, c0, rfl, h0, h1⟩ := RProof_flds (RProof.more h fun i hi => Nat.lt_of_lt_of_le hi hB)
  obtain ⟨A0', n0', c0', rfl, h0', h1'⟩ := RProof_flds (RProof.more h' fun i hi => Nat.lt_of_lt_of_le hi hB')
  unfold totProof at hn
  have D1 := Lib.hid h1
  have E1 := Lib.hid h1'
  have N1 := Lib.hid (show k.path.length ≤ 1099511627776 by omega)
  clear h h' hn hB hB' h0 h0' h1 h1'
  have HBB := Lib.hid (Below.refl w.heap.size w)
  go_enter Try.func37, Try.ntmps37
  go_wp2_with fail
  refine (u_eqI A0 A0' n0 c0 n0' c0' (k.path) _ (rd_up D1.out ?_) (rd_up E1.out ?_) (by have := N1.out; omega)).mono ?_
  · repeat' (first | exact HBB.out | exact Below.refl _ _ | refine Below.setCell ?_ ?_ _ | refine Below.alloc ?_ ?_ _)
    all_goals first | (simp; done) | (simp; omega) | omega
  · repeat' (first | exact HBB.out | exact Below.refl _ _ | refine Below.setCell ?_ ?_ _ | refine Below.alloc ?_ ?_ _)
    all_goals first | (simp; done) | (simp; omega) | omega
  rintro e w0_ ⟨rfl, hb⟩
  have hb2 : Below w.heap.size w w0_ := by
    refine Below.trans ?_ (Below.mono hb ?_)
    repeat' (first | exact HBB.out | exact Below.refl _ _ | refine Below.setCell ?_ ?_ _ | refine Below.alloc ?_ ?_ _)
    all_goals first | (simp; done) | (simp; omega) | omega
  replace HBB := Lib.hid hb2
  obtain ⟨hc0, hf0⟩ := bcell hb
  clear hb hb2
  go_wp2
  go_ret
  refine ⟨rfl, ?_⟩
  repeat' (first | exact HBB.out | exact Below.refl _ _ | refine Below.setCell ?_ ?_ _ | refine Below.alloc ?_ ?_ _)
  all_goals first | (simp; done) | (simp; omega) | omega
def mkProof (k : Proof) (q : Int) : Proof := ⟨k.at_, marks .i64 (q) k.path.length⟩
set_option maxHeartbeats 2000000 in
theorem markProof_f (F : List Nat) (cs : List Value) (k : Proof) (q : Int) (w : World) (h : RProof.own w F cs k) (hnd : F.Nodup) (hn : cntProof k ≤ 1099511627776) (hq0 : 0 ≤ q) (hq1 : q ≤ 1152921504606846976) :
    Calls Try.prog 41 #[.agg cs.toArray, .int .i64 q] w fun e w' => e = .returned (.int .i64 (q + (cntProof k : Int))) ∧ RProof.own w' F cs (mkProof k q) ∧ FrF F w w' := by
  obtain ⟨A0, n0, c0, F1, rfl, hFF, h0, h1⟩ := RProof_set.1 h
  unfold cntProof at hn
  have O1 := Lib.hid (show RLI.own w F1 [.slice A0 n0 c0] k.path from ⟨A0, n0, c0, rfl, h1⟩)
  have D0 := Lib.hid h0
  have N1 := Lib.hid (show k.path.length ≤ 1099511627776 by omega)
  have Z1 := Lib.hid (show F1.Nodup by rw [hFF] at hnd; exact hnd)
  have HFF := Lib.hid hFF
  clear h hnd hn hFF h0 h1
  obtain ⟨r1, hr1⟩ : ∃ r : Nat, r = k.path.length := ⟨_, rfl⟩
  rw [show q + ((cntProof k : Nat) : Int) = q + (r1 : Int) by unfold cntProof; omega]
  have NR1 : r1 ≤ 1099511627776 := by have := N1.out; omega
  have M1 := Lib.hid (fun w1 h1 => u_markI F1 A0 n0 c0 (k.path) (q) w1 h1 N1.out (by omega) (by omega))
  simp only [← hr1] at M1
  have HR1 := Lib.hid hr1
  clear hr1
  have HFR := Lib.hid (FrF.refl F w)
  go_enter Try.func41, Try.ntmps41
  go_wp2_with fail
  refine (M1.out _ (RLI.okeep O1.out fun i _ hi => Below.heap_alloc w _ i hi)).mono ?_
  rintro e w0_ ⟨rfl, ho, hfr⟩
  replace O1 := Lib.hid ho
  replace HFR := Lib.hid ((FrF.of_below ((Below.refl w.heap.size w).alloc (Nat.le_refl _) _) F).trans (hfr.more (fun i hi => by rw [HFF.out]; simp [hi])))
  clear ho hfr
  go_wp2
  go_ret
  refine ⟨rfl, RProof_set.2 ⟨A0, n0, c0, F1, rfl, HFF.out, D0.out, ?_⟩, HFR.out⟩
  · have := O1.out
    obtain ⟨A_, n_, c_, e_, h_⟩ := this
    injection e_ with e_
    injection e_ with e1 e2 e3
    subst e1 e2 e3
    unfold mkProof
    simp only
    rw [← HR1.out]
    exact h_
theorem markProof_any (lo hi : Nat) (cs : List Value) (k : Proof) (q : Int) (w : World) (h : OwnI RProof w lo hi cs k) (hh : hi ≤ w.heap.size) (hn : cntProof k ≤ 1099511627776) (hq0 : 0 ≤ q) (hq1 : q ≤ 1152921504606846976) :
    Calls Try.prog 41 #[.agg cs.toArray, .int .i64 q] w fun e w' => e = .returned (.int .i64 (q + (cntProof k : Int))) ∧ OwnI RProof w' lo hi cs (mkProof k q) ∧ Fr lo hi w w' :=
  mark_int (fun F h1 h2 => markProof_f F cs k q w h1 h2 hn hq0 hq1) h
set_option maxHeartbeats 2000000 in
theorem heldProof_marks (B : Nat) (cs : List Value) (k : Proof) (q : Int) (w : World) (h : RProof.rd w (Lt B) cs (mkProof k q)) (hB : B ≤ w.heap.size) (hn : cntProof k ≤ 1099511627776) (hq0 : 0 ≤ q) (hq1 : q ≤ 1152921504606846976) :
    Calls Try.prog 43 #[.agg cs.toArray, .int .i64 q] w fun e w' => e = .returned (.int .i64 (q + (cntProof k : Int))) ∧ Below w.heap.size w w' := by
  obtain ⟨A0, n0, c0, rfl, h0, h1⟩ := RProof_flds (RProof.more h fun i hi => Nat.lt_of_lt_of_le hi hB)
  unfold cntProof at hn
  obtain ⟨r1, hr1⟩ : ∃ r : Nat, r = k.path.length := ⟨_, rfl⟩
  rw [show q + ((cntProof k : Nat) : Int) = q + (r1 : Int) by unfold cntProof; omega]
  have D1 := Lib.hid (show RLI.rd w (Lt w.heap.size) [.slice A0 n0 c0] (marks .i64 (q) k.path.length) from by
    have h_ := h1
    unfold mkProof at h_
    try unfold mkProof
    try simp only at h_ ⊢
    exact h_)
  have V1 := Lib.hid (fun w1 (hb : Below w.heap.size w w1) => u_heldI A0 n0 c0 (k.path) (q) w1 (rd_up D1.out hb) (by omega) (by omega) (by omega))
  simp only [← hr1] at V1
  have NR : r1 ≤ 1099511627776 := by omega
  clear h hn hB h0 h1 hr1
  have z0 : ¬ q + (r1 : Int) < 0 := by omega
  generalize mkProof k q = kk at *
  have HBB := Lib.hid (Below.refl w.heap.size w)
  go_enter Try.func43, Try.ntmps43
  go_wp2_with fail
  refine (V1.out _ ?_).mono ?_
  · repeat' (first | exact HBB.out | exact Below.refl _ _ | refine Below.setCell ?_ ?_ _ | refine Below.alloc ?_ ?_ _)
    all_goals first | (simp; done) | (simp; omega) | omega
  rintro e w0_ ⟨rfl, hb⟩
  have hb2 : Below w.heap.size w w0_ := by
    refine Below.trans ?_ (Below.mono hb ?_)
    repeat' (first | exact HBB.out | exact Below.refl _ _ | refine Below.setCell ?_ ?_ _ | refine Below.alloc ?_ ?_ _)
    all_goals first | (simp; done) | (simp; omega) | omega
  replace HBB := Lib.hid hb2
  obtain ⟨hc0, hf0⟩ := bcell hb
  clear hb hb2
  go_wp2
  go_ret
  refine ⟨rfl, ?_⟩
  repeat' (first | exact HBB.out | exact Below.refl _ _ | refine Below.setCell ?_ ?_ _ | refine Below.alloc ?_ ?_ _)
  all_goals first | (simp; done) | (simp; omega) | omega
end Go.Proofs.Ytbhhifoofapgiaa.T11
