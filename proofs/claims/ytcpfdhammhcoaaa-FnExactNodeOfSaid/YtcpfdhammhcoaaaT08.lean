/- The laws' own helpers on entries. -/
import Derived.Test.YtcpfdhammhcoaaaR08
import Derived.Test.YtcpfdhammhcoaaaT05
import Derived.Test.YtcpfdhammhcoaaaT04
import Derived.Test.YtcpfdhammhcoaaaM04
namespace Go.Proofs.Ytcpfdhammhcoaaa.T08
open Go.RowKit Mem MemS Rep R08 T04 T05 M04
set_option linter.unusedVariables false
set_option maxRecDepth 100000
theorem szGo_tot : ∀ (ss : List ByteArray) (q : Int), 0 ≤ q → szGo q ss = if q < ((ss.map ByteArray.size).sum : Int) then -1 else q - ((ss.map ByteArray.size).sum : Int)
  | [], q, h => by
    unfold szGo
    rw [if_neg (by simp; omega)]
    simp
  | s :: r, q, h => by
    unfold szGo
    have e : (((s :: r).map ByteArray.size).sum : Int) = (s.size : Int) + ((r.map ByteArray.size).sum : Int) := by simp
    rw [e]
    have h0 : (0 : Int) ≤ ((r.map ByteArray.size).sum : Int) := Int.natCast_nonneg _
    by_cases h1 : q - s.size < 0
    · rw [if_pos h1, if_pos (by omega)]
    · rw [if_neg h1, szGo_tot r _ (by omega)]
      by_cases h2 : q - s.size < ((r.map ByteArray.size).sum : Int)
      · rw [if_pos h2, if_pos (by omega)]
      · rw [if_neg h2, if_neg (by omega)]
        omega
theorem szS_tot {ss : List ByteArray} {q : Int} (h : 0 ≤ q) : szS q ss = if q < (totSS ss : Int) then -1 else q - (totSS ss : Int) := by
  unfold szS totSS
  have h0 : (0 : Int) ≤ ((ss.map ByteArray.size).sum : Int) := Int.natCast_nonneg _
  have e : ((ss.length + (ss.map ByteArray.size).sum : Nat) : Int) = (ss.length : Int) + ((ss.map ByteArray.size).sum : Int) := by simp
  rw [e]
  by_cases h1 : q - ss.length < 0
  · rw [if_pos h1, if_pos (by omega)]
  · rw [if_neg h1, szGo_tot ss _ (by omega)]
    by_cases h2 : q - ss.length < ((ss.map ByteArray.size).sum : Int)
    · rw [if_pos h2, if_pos (by omega)]
    · rw [if_neg h2, if_neg (by omega)]
      omega
theorem szStrS_any (B : Nat) (A : Option Addr) (n c : Nat) (ss : List ByteArray) (q : Int) (w : World) (h : RdS w B A n ss) (hq0 : 0 ≤ q) (hq1 : q ≤ 1048576) (hn : n ≤ maxLen) :
    Calls Try.prog 63 #[.slice A n c, .int .i64 q] w fun e w' => e = .returned (.int .i64 (if q < (totSS ss : Int) then -1 else q - (totSS ss : Int))) ∧ w = w' := by
  rw [← szS_tot hq0]
  exact szStringS_any B A n c ss q w h hq0 hq1 hn
theorem szEntry_any (cs : List Value) (k : Entry) (q : Int) (w : World) (h : REntry.rd w (Lt w.heap.size) cs k) (hq0 : 0 ≤ q) (hq1 : q ≤ 1048576) :
    Calls Try.prog 51 #[.agg cs.toArray, .int .i64 q] w fun e w' => e = .returned (.int .i64 (if q < (totEntry k : Int) then -1 else q - (totEntry k : Int))) ∧ Below w.heap.size w w' := by
  obtain ⟨A, n, c, rfl, h0, h1, h2, h3, h4, h5⟩ := REntry_rd.1 h
  obtain ⟨kl, kk, kv, kp⟩ := k
  simp only at h0 h1 h2 h5
  have hkb : kl.size ≤ maxLen := h0
  unfold maxLen at hkb
  unfold totEntry
  simp only
  by_cases hx : q < kl.size
  · rw [if_pos (by omega)]
    have hx1 : q - kl.size < 0 := by omega
    clear h h3 h4 h5
    go_enter Try.func51, Try.ntmps51
    go_wp2
    go_ret
    exact ⟨rfl, (Below.refl _ _).alloc (Nat.le_refl _) _⟩
  · have hx1 : ¬ q - kl.size < 0 := by omega
    have hS := fun w1 (hr : RdS w1 w.heap.size A n kp) => szStringS_any w.heap.size A n c kp (q - kl.size) w1 hr (by omega) (by omega) (Nat.le_trans h3 h4)
    rw [szS_tot (by omega)] at hS
    have H5 := Lib.hid (h5.alloc (Nat.le_refl _) (.cells #[.string kl, .int .i64 kk, .int .i64 kv, .slice A n c] 68))
    by_cases hy : q - kl.size < (totSS kp : Int)
    · rw [if_pos (by omega)]
      simp only [if_pos hy] at hS
      have HS := Lib.hid hS
      clear hS h h5
      go_enter Try.func51, Try.ntmps51
      go_wp2_with fail
      refine (HS.out _ H5.out).mono ?_
      rintro e w1 ⟨rfl, rfl⟩
      go_wp2
      go_ret
      exact ⟨rfl, (Below.refl _ _).alloc (Nat.le_refl _) _⟩
    · rw [if_neg (by omega)]
      simp only [if_neg hy] at hS
      have e9 : q - ((kl.size + totSS kp : Nat) : Int) = q - kl.size - (totSS kp : Int) := by omega
      rw [e9]
      have h9 : ¬ q - kl.size - (totSS kp : Int) < 0 := by omega
      have HS := Lib.hid hS
      clear hS h h5 e9
      go_enter Try.func51, Try.ntmps51
      go_wp2_with fail
      refine (HS.out _ H5.out).mono ?_
      rintro e w1 ⟨rfl, rfl⟩
      go_wp2
      go_ret
      exact ⟨rfl, (Below.refl _ _).alloc (Nat.le_refl _) _⟩
theorem toEntry_any (cs : List Value) (k : Entry) (w : World) (h : REntry.rd w (Lt w.heap.size) cs k) (hn : totEntry k ≤ 1048576) :
    Calls Try.prog 52 #[.agg cs.toArray] w fun e w' => ∃ cs', e = .returned (.agg (List.toArray cs')) ∧ OwnI REntry w' w.heap.size w'.heap.size cs' k ∧ Below w.heap.size w w' := by
  obtain ⟨A, n, c, rfl, h0, h1, h2, h3, h4, h5⟩ := REntry_rd.1 h
  obtain ⟨kl, kk, kv, kp⟩ := k
  simp only at h0 h1 h2 h5
  have hl := h5.len
  have hn' : n ≤ 1048576 := by
    have := totSS_len kp
    unfold totEntry at hn
    simp only at hn
    omega
  have H0 := Lib.hid h0
  have H1 := Lib.hid h1
  have H2 := Lib.hid h2
  have H5 := Lib.hid h5
  clear h h3 h4 h5 hl hn h0 h1 h2
  go_enter Try.func52, Try.ntmps52
  go_wp2_with fail
  refine (toStringS_any A n c kp _ ((((H5.out.alloc (Nat.le_refl _) _).alloc (by simp) _).alloc (by simp; omega) _).more (by simp; omega)) (by omega)).mono ?_
  rintro e w2 ⟨A', c', rfl, hown, hb⟩
  have HB := Lib.hid ((((Below.refl w.heap.size w).alloc (Nat.le_refl _) _).alloc (by simp) _).alloc (by simp; omega) _ |>.trans (hb.mono (by simp; omega)))
  have HO := Lib.hid (hown.base (show w.heap.size + 3 ≤ _ by simp))
  obtain ⟨hc, hf⟩ := bcell hb
  clear hb hown
  go_wp2
  refine bodyPost_ret (v := .agg #[.string kl, .int .i64 kk, .int .i64 kv, .slice A' n c']) (by simp [results, Try.results52, go_sem, hc]) rfl ⟨[.string kl, .int .i64 kk, .int .i64 kv, .slice A' n c'], rfl, ?_, ?_⟩
  · refine REntry_own.2 ⟨A', n, c', rfl, H0.out, H1.out, H2.out, ?_⟩
    refine OwnS.base (lo := w.heap.size + 3) (OwnS.top (hi := w2.heap.size) ?_) (by omega)
    repeat refine OwnS.store ?_ _ (.inl (by simp))
    exact HO.out
  · repeat' refine Below.setCell ?_ ?_ _
    all_goals first | exact HB.out | (simp; done) | (simp; omega)
theorem eqEntry_same (B B' : Nat) (cs cs' : List Value) (k : Entry) (w : World) (h : REntry.rd w (Lt B) cs k) (h' : REntry.rd w (Lt B') cs' k) (hB : B ≤ w.heap.size) (hB' : B' ≤ w.heap.size) (hn : totEntry k ≤ 1099511627776) :
    Calls Try.prog 53 #[.agg cs.toArray, .agg cs'.toArray] w fun e w' => e = .returned (.bool true) ∧ Below w.heap.size w w' := by
  obtain ⟨A, n, c, rfl, h0, h1, h2, h3, h4, h5⟩ := REntry_rd.1 (REntry.more h fun i hi => Nat.lt_of_lt_of_le hi hB)
  obtain ⟨A', n', c', rfl, h0', h1', h2', h3', h4', h5'⟩ := REntry_rd.1 (REntry.more h' fun i hi => Nat.lt_of_lt_of_le hi hB')
  obtain ⟨kl, kk, kv, kp⟩ := k
  simp only at h5 h5' hn
  have hl := h5.len
  have hl' := h5'.len
  have hnn : n' = n := by omega
  subst hnn
  have hn2 : n' ≤ 1099511627776 := by
    have := totSS_len kp
    unfold totEntry at hn
    simp only at hn
    omega
  have H5 := Lib.hid h5
  have H5' := Lib.hid h5'
  clear h h' h5 h5' hl hl' hn h0 h1 h2 h0' h1' h2' h3 h4 h3' h4'
  go_enter Try.func53, Try.ntmps53
  go_wp2_with fail
  refine (eqStringS_same _ _ A A' _ c c' kp _ ((H5.out.alloc (Nat.le_refl _) _).alloc (by simp) _) ((H5'.out.alloc (Nat.le_refl _) _).alloc (by simp) _) hn2).mono ?_
  rintro e w2 ⟨rfl, hs⟩
  have HB := Lib.hid (((Below.refl w.heap.size w).alloc (Nat.le_refl _) _).alloc (by simp) _ |>.trans (hs.below _))
  obtain ⟨hc, hf⟩ := bcell (hs.below _)
  clear hs
  go_wp2
  go_ret
  exact ⟨rfl, HB.out⟩
def mkEntry (k : Entry) (q : Int) : Entry := ⟨k.label, k.kind, k.value, marksS q k.path.length⟩
end Go.Proofs.Ytcpfdhammhcoaaa.T08
