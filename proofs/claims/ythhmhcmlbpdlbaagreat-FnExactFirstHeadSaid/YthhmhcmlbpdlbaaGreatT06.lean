/- The laws' own helpers on sets of keys. Sets of keys, by the blocks that they own: marks. -/
import Derived.Test.YthhmhcmlbpdlbaaGreatR06
import Derived.Test.YthhmhcmlbpdlbaaGreatT01
import Derived.Test.YthhmhcmlbpdlbaaGreatTW
namespace Go.Proofs.YthhmhcmlbpdlbaaGreat.T06
open Go.RowKit Mem MemS Rep R06 T01
set_option linter.unusedVariables false
set_option maxRecDepth 100000
theorem szIntS_any (A : Option Addr) (n c : Nat) (q : Int) (w : World) (hq0 : 0 ≤ q) (hq1 : q ≤ 1048576) (hn : n ≤ maxLen) :
    Calls Tryz.prog 58 #[.slice A n c, .int .i64 q] w fun e w' => e = .returned (.int .i64 (if q < n then -1 else q - n)) ∧ w = w' := by
  unfold maxLen at hn
  by_cases h : q < n
  · rw [if_pos h]
    have h1 : q - n < 0 := by omega
    go_enter Tryz.func58, Tryz.ntmps58
    go_wp2
    go_ret
    exact ⟨rfl, rfl⟩
  · rw [if_neg h]
    have h1 : ¬ q - n < 0 := by omega
    go_enter Tryz.func58, Tryz.ntmps58
    go_wp2
    go_ret
    exact ⟨rfl, rfl⟩
theorem szKeys_any (cs : List Value) (k : Keys) (q : Int) (w : World) (h : RKeys.rd w (Lt w.heap.size) cs k) (hq0 : 0 ≤ q) (hq1 : q ≤ 1048576) :
    Calls Tryz.prog 19 #[.agg cs.toArray, .int .i64 q] w fun e w' => e = .returned (.int .i64 (if q < (totKeys k : Int) then -1 else q - (totKeys k : Int))) ∧ Below w.heap.size w w' := by
  obtain ⟨A, n, c, rfl, h1, h2, h3, h4⟩ := RKeys_rd.1 h
  have hl := h3.len
  unfold totKeys
  rw [hl]
  generalize k.need = kn
  have hS := fun w => szIntS_any A n c q w hq0 hq1 (Nat.le_trans h1 h2)
  by_cases hx : q < n
  · simp only [if_pos hx] at hS ⊢
    have HS := Lib.hid hS
    clear hS h3 h4 hl h hx
    go_enter Tryz.func19, Tryz.ntmps19
    go_wp2_with fail
    refine (HS.out _).mono ?_
    rintro e w1 ⟨rfl, rfl⟩
    go_wp2
    go_ret
    exact ⟨rfl, (Below.refl _ _).alloc (Nat.le_refl _) _⟩
  · simp only [if_neg hx] at hS ⊢
    have h5 : ¬ q - n < 0 := by omega
    have HS := Lib.hid hS
    clear hS h3 h4 hl h hx
    go_enter Tryz.func19, Tryz.ntmps19
    go_wp2_with fail
    refine (HS.out _).mono ?_
    rintro e w1 ⟨rfl, rfl⟩
    go_wp2
    go_ret
    exact ⟨rfl, (Below.refl _ _).alloc (Nat.le_refl _) _⟩
theorem toKeys_any (cs : List Value) (k : Keys) (w : World) (h : RKeys.rd w (Lt w.heap.size) cs k) (hn : totKeys k ≤ 1048576) :
    Calls Tryz.prog 21 #[.agg cs.toArray] w fun e w' => ∃ cs', e = .returned (.agg (List.toArray cs')) ∧ OwnI RKeys w' w.heap.size w'.heap.size cs' k ∧ Below w.heap.size w w' := by
  obtain ⟨A, n, c, rfl, h1, h2, h3, h4⟩ := RKeys_rd.1 h
  have hl := h3.len
  unfold totKeys at hn
  rw [hl] at hn
  have H3 := Lib.hid h3
  have H4 := Lib.hid h4
  clear h h3 h4 hl
  generalize hkn : k.need = kn
  have HKN := Lib.hid hkn
  clear hkn
  go_enter Tryz.func21, Tryz.ntmps21
  go_wp2_with fail
  refine (toIntS_any A n c k.list _ ((((H3.out.alloc (Nat.le_refl _) _).alloc (by simp) _).alloc (by simp; omega) _).more (by simp; omega)) (by omega)).mono ?_
  rintro e w2 ⟨A', c', rfl, hown, hb⟩
  have HB := Lib.hid ((((Below.refl w.heap.size w).alloc (Nat.le_refl _) _).alloc (by simp) _).alloc (by simp; omega) _ |>.trans (hb.mono (by simp; omega)))
  have HO := Lib.hid (hown.base (show w.heap.size + 3 ≤ _ by simp))
  obtain ⟨hc, hf⟩ := bcell hb
  clear hb hown
  go_wp2
  refine bodyPost_ret (v := .agg #[.slice A' n c', .int .i64 kn]) (by simp [results, Tryz.results21, go_sem, hc]) rfl ⟨[.slice A' n c', .int .i64 kn], rfl, ?_, ?_⟩
  · refine RKeys_own.2 ⟨A', n, c', by rw [HKN.out], ?_, H4.out⟩
    refine Own.base (lo := w.heap.size + 3) (Own.top (hi := w2.heap.size) ?_) (by omega)
    repeat refine Own.store ?_ _ (.inl (by simp))
    exact HO.out
  · repeat' refine Below.setCell ?_ ?_ _
    all_goals first | exact HB.out | (simp; done) | (simp; omega)
theorem eqKeys_same (B B' : Nat) (cs cs' : List Value) (k : Keys) (w : World) (h : RKeys.rd w (Lt B) cs k) (h' : RKeys.rd w (Lt B') cs' k) (hB : B ≤ w.heap.size) (hB' : B' ≤ w.heap.size) (hn : totKeys k ≤ 1099511627776) :
    Calls Tryz.prog 24 #[.agg cs.toArray, .agg cs'.toArray] w fun e w' => e = .returned (.bool true) ∧ Below w.heap.size w w' := by
  obtain ⟨A, n, c, rfl, h1, h2, h3, h4⟩ := RKeys_rd.1 (RKeys.more h fun i hi => Nat.lt_of_lt_of_le hi hB)
  obtain ⟨A', n', c', rfl, h1', h2', h3', h4'⟩ := RKeys_rd.1 (RKeys.more h' fun i hi => Nat.lt_of_lt_of_le hi hB')
  have hl := h3.len
  have hl' := h3'.len
  have hnn : n' = n := by omega
  subst hnn
  unfold totKeys at hn
  rw [hl] at hn
  have H3 := Lib.hid h3
  have H3' := Lib.hid h3'
  generalize k.need = kn
  clear h h' h3 h3' hl hl' h4 h4'
  go_enter Tryz.func24, Tryz.ntmps24
  go_wp2_with fail
  refine (eqIntS_same _ _ A A' _ c c' k.list _ ((H3.out.alloc (Nat.le_refl _) _).alloc (by simp) _) ((H3'.out.alloc (Nat.le_refl _) _).alloc (by simp) _) (by omega)).mono ?_
  rintro e w2 ⟨rfl, hs⟩
  have HB := Lib.hid (((Below.refl w.heap.size w).alloc (Nat.le_refl _) _).alloc (by simp) _ |>.trans (hs.below _))
  obtain ⟨hc, hf⟩ := bcell (hs.below _)
  clear hs
  go_wp2
  go_ret
  exact ⟨rfl, HB.out⟩
def mkKeys (k : Keys) (q : Int) : Keys := ⟨marks .i64 q k.list.length, k.need⟩
theorem markKeys_any (lo hi : Nat) (cs : List Value) (k : Keys) (q : Int) (w : World) (h : OwnI RKeys w lo hi cs k) (hh : hi ≤ w.heap.size) (hn : cntKeys k ≤ 1099511627776) (hq0 : 0 ≤ q) (hq1 : q ≤ 1152921504606846976) :
    Calls Tryz.prog 26 #[.agg cs.toArray, .int .i64 q] w fun e w' => e = .returned (.int .i64 (q + (cntKeys k : Int))) ∧ OwnI RKeys w' lo hi cs (mkKeys k q) ∧ Fr lo hi w w' := by
  unfold cntKeys at *
  unfold mkKeys
  obtain ⟨A, n, c, rfl, h3, h4⟩ := RKeys_own.1 h
  have hl := h3.len
  rw [hl] at hn ⊢
  have H3 := Lib.hid h3
  have H4 := Lib.hid h4
  generalize hkn : k.need = kn at H4
  clear h h3 hl hkn h4
  go_enter Tryz.func26, Tryz.ntmps26
  go_wp2_with fail
  refine (markIntS_any lo hi A n c k.list q _ (H3.out.alloc _) hn hq0 hq1).mono ?_
  rintro e w2 ⟨rfl, hown, hfr⟩
  have HO := Lib.hid hown
  have HF := Lib.hid ((Fr.of_new ((Below.refl w.heap.size w).alloc (Nat.le_refl _) _) lo hi).trans hfr)
  clear hown hfr
  go_wp2
  go_ret
  exact ⟨rfl, RKeys_own.2 ⟨A, n, c, rfl, HO.out, H4.out⟩, HF.out⟩
theorem heldKeys_marks (B : Nat) (cs : List Value) (k : Keys) (q : Int) (w : World) (h : RKeys.rd w (Lt B) cs (mkKeys k q)) (hB : B ≤ w.heap.size) (hn : cntKeys k ≤ 1099511627776) (hq0 : 0 ≤ q) (hq1 : q ≤ 1152921504606846976) :
    Calls Tryz.prog 67 #[.agg cs.toArray, .int .i64 q] w fun e w' => e = .returned (.int .i64 (q + (cntKeys k : Int))) ∧ Below w.heap.size w w' := by
  unfold cntKeys at *
  unfold mkKeys at h
  obtain ⟨kl, kn⟩ := k
  simp only at h hn ⊢
  generalize kl.length = n at *
  obtain ⟨A, n', c, rfl, h1, h2, h3, h4⟩ := RKeys_rd.1 h
  have hl := h3.len
  rw [marks_len] at hl
  subst hl
  have H3 := Lib.hid h3
  clear h h3 h4
  have hq : ¬ q + (n : Int) < 0 := by omega
  go_enter Tryz.func67, Tryz.ntmps67
  go_wp2_with fail
  refine (heldIntS_marks B A n c q _ (H3.out.alloc hB _) hn hq0 hq1).mono ?_
  rintro e w2 ⟨rfl, rfl⟩
  go_wp2
  go_ret
  exact ⟨rfl, (Below.refl _ _).alloc (Nat.le_refl _) _⟩
end Go.Proofs.YthhmhcmlbpdlbaaGreat.T06
namespace Go.Proofs.YthhmhcmlbpdlbaaGreat.T06F
open Go.RowKit Mem MemS Rep RepA T01 R06 T06
open TW hiding RLI
set_option linter.unusedVariables false
set_option maxRecDepth 100000
theorem RKeys_set {w : World} {F : List Nat} {cs : List Value} {k : Keys} : RKeys.own w F cs k ↔ ∃ A0 n0 c0 F0, cs = [.slice A0 n0 c0, .int .i64 k.need] ∧ F = F0 ∧ OwnF RI w F0 A0 n0 c0 k.list ∧ In .i64 k.need := by
  constructor
  · rintro ⟨F0, G0, d0, e0, rfl, rfl, ⟨A0, n0, c0, rfl, h0⟩, ⟨rfl, rfl, h1⟩⟩
    exact ⟨A0, n0, c0, _, rfl, by simp, h0, h1⟩
  · rintro ⟨A0, n0, c0, F0, rfl, rfl, h0, h1⟩
    refine ⟨F, [], _, _, ?_, rfl, ⟨A0, n0, c0, rfl, h0⟩, ⟨rfl, rfl, h1⟩⟩ <;> simp
set_option maxHeartbeats 2000000 in
theorem markKeys_f (F : List Nat) (cs : List Value) (k : Keys) (q : Int) (w : World) (h : RKeys.own w F cs k) (hnd : F.Nodup) (hn : cntKeys k ≤ 1099511627776) (hq0 : 0 ≤ q) (hq1 : q ≤ 1152921504606846976) :
    Calls Tryz.prog 26 #[.agg cs.toArray, .int .i64 q] w fun e w' => e = .returned (.int .i64 (q + (cntKeys k : Int))) ∧ RKeys.own w' F cs (mkKeys k q) ∧ FrF F w w' := by
  obtain ⟨A0, n0, c0, F0, rfl, hFF, h0, h1⟩ := RKeys_set.1 h
  unfold cntKeys at hn
  have O0 := Lib.hid (show RLI.own w F0 [.slice A0 n0 c0] k.list from ⟨A0, n0, c0, rfl, h0⟩)
  have D1 := Lib.hid h1
  have N0 := Lib.hid (show k.list.length ≤ 1099511627776 by omega)
  have Z0 := Lib.hid (show F0.Nodup by rw [hFF] at hnd; exact hnd)
  have HFF := Lib.hid hFF
  clear h hnd hn hFF h0 h1
  obtain ⟨r0, hr0⟩ : ∃ r : Nat, r = k.list.length := ⟨_, rfl⟩
  rw [show q + ((cntKeys k : Nat) : Int) = q + (r0 : Int) by unfold cntKeys; omega]
  have NR0 : r0 ≤ 1099511627776 := by have := N0.out; omega
  have M0 := Lib.hid (fun w1 h1 => u_markI F0 A0 n0 c0 (k.list) (q) w1 h1 N0.out (by omega) (by omega))
  simp only [← hr0] at M0
  have HR0 := Lib.hid hr0
  clear hr0
  have HFR := Lib.hid (FrF.refl F w)
  go_enter Tryz.func26, Tryz.ntmps26
  go_wp2_with fail
  refine (M0.out _ (RLI.okeep O0.out fun i _ hi => Below.heap_alloc w _ i hi)).mono ?_
  rintro e w0_ ⟨rfl, ho, hfr⟩
  replace O0 := Lib.hid ho
  replace HFR := Lib.hid ((FrF.of_below ((Below.refl w.heap.size w).alloc (Nat.le_refl _) _) F).trans (hfr.more (fun i hi => by rw [HFF.out]; simp [hi])))
  clear ho hfr
  go_wp2
  go_ret
  refine ⟨rfl, RKeys_set.2 ⟨A0, n0, c0, F0, rfl, HFF.out, ?_, D1.out⟩, HFR.out⟩
  · have := O0.out
    obtain ⟨A_, n_, c_, e_, h_⟩ := this
    injection e_ with e_
    injection e_ with e1 e2 e3
    subst e1 e2 e3
    unfold mkKeys
    simp only
    rw [← HR0.out]
    exact h_
end Go.Proofs.YthhmhcmlbpdlbaaGreat.T06F
