/- The laws' own helpers on a struct: Head. -/
import Derived.Test.YthhmhcmlbpdlbaaR13
import Derived.Test.YthhmhcmlbpdlbaaTW
import Derived.Test.YthhmhcmlbpdlbaaT06F
namespace Go.Proofs.Ythhmhcmlbpdlbaa.T13S
open Go.RowKit Mem MemS Rep RepA T01 T06 R13 TW R06 T06F
set_option linter.unusedVariables false
set_option maxRecDepth 100000
theorem RHead_flds {w : World} {P : Nat → Prop} {cs : List Value} {k : Head} (h : RHead.rd w P cs k) : ∃ A0 n0 c0 A1 n1 c1 A2 n2 c2, cs = [.int .i64 k.zone, .int .i64 k.epoch, .int .i64 k.kind, .int .i64 k.time, .int .i64 k.until_, .int .i64 k.count, .int .i64 k.root, .int .i64 k.prev, .slice A0 n0 c0, .int .i64 k.keys.need, .slice A1 n1 c1, .int .i64 k.heirs.need, .int .i64 k.wait, .slice A2 n2 c2, .int .i64 k.judge.need, .bool k.frozen] ∧ In .i64 k.zone ∧ In .i64 k.epoch ∧ In .i64 k.kind ∧ In .i64 k.time ∧ In .i64 k.until_ ∧ In .i64 k.count ∧ In .i64 k.root ∧ In .i64 k.prev ∧ RKeys.rd w P [.slice A0 n0 c0, .int .i64 k.keys.need] k.keys ∧ RKeys.rd w P [.slice A1 n1 c1, .int .i64 k.heirs.need] k.heirs ∧ In .i64 k.wait ∧ RKeys.rd w P [.slice A2 n2 c2, .int .i64 k.judge.need] k.judge := by
  obtain ⟨d0, e0, rfl, ⟨rfl, h0⟩, ⟨d1, e1, rfl, ⟨rfl, h1⟩, ⟨d2, e2, rfl, ⟨rfl, h2⟩, ⟨d3, e3, rfl, ⟨rfl, h3⟩, ⟨d4, e4, rfl, ⟨rfl, h4⟩, ⟨d5, e5, rfl, ⟨rfl, h5⟩, ⟨d6, e6, rfl, ⟨rfl, h6⟩, ⟨d7, e7, rfl, ⟨rfl, h7⟩, ⟨d8, e8, rfl, h8, ⟨d9, e9, rfl, h9, ⟨d10, e10, rfl, ⟨rfl, h10⟩, ⟨d11, e11, rfl, h11, ⟨rfl, h12⟩⟩⟩⟩⟩⟩⟩⟩⟩⟩⟩⟩⟩ := h
  obtain ⟨A0, n0, c0, rfl⟩ := RKeys_shape h8
  obtain ⟨A1, n1, c1, rfl⟩ := RKeys_shape h9
  obtain ⟨A2, n2, c2, rfl⟩ := RKeys_shape h11
  exact ⟨A0, n0, c0, A1, n1, c1, A2, n2, c2, rfl, h0, h1, h2, h3, h4, h5, h6, h7, h8, h9, h10, h11⟩
set_option maxHeartbeats 2000000 in
theorem szHead_any (cs : List Value) (k : Head) (q : Int) (w : World) (h : RHead.rd w (Lt w.heap.size) cs k) (hq0 : 0 ≤ q) (hq1 : q ≤ 1048576) :
    Calls Try.prog 13 #[.agg cs.toArray, .int .i64 q] w fun e w' => e = .returned (.int .i64 (if q < (totHead k : Int) then -1 else q - (totHead k : Int))) ∧ Below w.heap.size w w' := by
  obtain ⟨A0, n0, c0, A1, n1, c1, A2, n2, c2, rfl, h0, h1, h2, h3, h4, h5, h6, h7, h8, h9, h10, h11⟩ := RHead_flds h
  have S8 := Lib.hid (fun (q1 : Int) (w1 : World) (hb : Below w.heap.size w w1) (g0 : 0 ≤ q1) (g1 : q1 ≤ 1048576) => szKeys_any [.slice A0 n0 c0, .int .i64 k.keys.need] (k.keys) q1 w1 (rd_up h8 hb) g0 g1)
  have S9 := Lib.hid (fun (q1 : Int) (w1 : World) (hb : Below w.heap.size w w1) (g0 : 0 ≤ q1) (g1 : q1 ≤ 1048576) => szKeys_any [.slice A1 n1 c1, .int .i64 k.heirs.need] (k.heirs) q1 w1 (rd_up h9 hb) g0 g1)
  have S11 := Lib.hid (fun (q1 : Int) (w1 : World) (hb : Below w.heap.size w w1) (g0 : 0 ≤ q1) (g1 : q1 ≤ 1048576) => szKeys_any [.slice A2 n2 c2, .int .i64 k.judge.need] (k.judge) q1 w1 (rd_up h11 hb) g0 g1)
  obtain ⟨t8, ht8⟩ : ∃ t : Nat, t = totKeys k.keys := ⟨_, rfl⟩
  obtain ⟨t9, ht9⟩ : ∃ t : Nat, t = totKeys k.heirs := ⟨_, rfl⟩
  obtain ⟨t11, ht11⟩ : ∃ t : Nat, t = totKeys k.judge := ⟨_, rfl⟩
  have hT : totHead k = t8 + t9 + t11 := by unfold totHead; omega
  rw [hT]
  rw [← ht8] at S8
  rw [← ht9] at S9
  rw [← ht11] at S11
  clear hT h h0 h1 h2 h3 h4 h5 h6 h7 h8 h9 h10 h11
  clear ht8
  clear ht9
  clear ht11
  by_cases hx0 : q < (t8 : Int)
  · skip
    have z0 : q - (t8 : Int) < 0 := by omega
    have V8 := Lib.hid (fun w1 hb => S8.out (q) w1 hb (by omega) (by omega))
    simp only [if_pos (show  q < (t8 : Int) by omega)] at V8
    rw [if_pos (by omega)]
    clear S8 S9 S11
    have HBB := Lib.hid (Below.refl w.heap.size w)
    go_enter Try.func13, Try.ntmps13
    go_wp2_with fail
    refine (V8.out _ ?_).mono ?_
    · repeat' (first | exact HBB.out | exact Below.refl _ _ | refine Below.setCell ?_ ?_ _ | refine Below.alloc ?_ ?_ _)
      all_goals first | (simp; done) | (simp; omega) | omega
    rintro e w0_ ⟨rfl, hb⟩
    have hb2 : Below w.heap.size w w0_ := by
      refine Below.trans ?_ (Below.mono hb ?_)
      repeat' (first | exact HBB.out | exact Below.refl _ _ | refine Below.setCell ?_ ?_ _ | refine Below.alloc ?_ ?_ _)
      all_goals first | (simp; done) | (simp; omega) | omega
    replace HBB := Lib.hid hb2
    obtain ⟨hc0, hf0⟩ := bcell hb
    have hlt0 : w.heap.size < w0_.heap.size := by have := hb.size; (try simp at this); omega
    clear hb hb2
    go_wp2
    go_ret
    refine ⟨rfl, ?_⟩
    repeat' (first | exact HBB.out | exact Below.refl _ _ | refine Below.setCell ?_ ?_ _ | refine Below.alloc ?_ ?_ _)
    all_goals first | (simp; done) | (simp; omega) | omega
  · skip
    by_cases hx1 : q - (t8 : Int) < (t9 : Int)
    · skip
      have z0 : ¬ q - (t8 : Int) < 0 := by omega
      have z1 : q - (t8 : Int) - (t9 : Int) < 0 := by omega
      have V8 := Lib.hid (fun w1 hb => S8.out (q) w1 hb (by omega) (by omega))
      simp only [if_neg (show ¬ q < (t8 : Int) by omega)] at V8
      have V9 := Lib.hid (fun w1 hb => S9.out (q - (t8 : Int)) w1 hb (by omega) (by omega))
      simp only [if_pos (show  q - (t8 : Int) < (t9 : Int) by omega)] at V9
      rw [if_pos (by omega)]
      clear S8 S9 S11
      have HBB := Lib.hid (Below.refl w.heap.size w)
      go_enter Try.func13, Try.ntmps13
      go_wp2_with fail
      refine (V8.out _ ?_).mono ?_
      · repeat' (first | exact HBB.out | exact Below.refl _ _ | refine Below.setCell ?_ ?_ _ | refine Below.alloc ?_ ?_ _)
        all_goals first | (simp; done) | (simp; omega) | omega
      rintro e w0_ ⟨rfl, hb⟩
      have hb2 : Below w.heap.size w w0_ := by
        refine Below.trans ?_ (Below.mono hb ?_)
        repeat' (first | exact HBB.out | exact Below.refl _ _ | refine Below.setCell ?_ ?_ _ | refine Below.alloc ?_ ?_ _)
        all_goals first | (simp; done) | (simp; omega) | omega
      replace HBB := Lib.hid hb2
      obtain ⟨hc0, hf0⟩ := bcell hb
      have hlt0 : w.heap.size < w0_.heap.size := by have := hb.size; (try simp at this); omega
      clear hb hb2
      go_wp2_with fail
      refine (V9.out _ ?_).mono ?_
      · repeat' (first | exact HBB.out | exact Below.refl _ _ | refine Below.setCell ?_ ?_ _ | refine Below.alloc ?_ ?_ _)
        all_goals first | (simp; done) | (simp; omega) | omega
      rintro e w1_ ⟨rfl, hb⟩
      have hb2 : Below w.heap.size w w1_ := by
        refine Below.trans ?_ (Below.mono hb ?_)
        repeat' (first | exact HBB.out | exact Below.refl _ _ | refine Below.setCell ?_ ?_ _ | refine Below.alloc ?_ ?_ _)
        all_goals first | (simp; done) | (simp; omega) | omega
      replace HBB := Lib.hid hb2
      obtain ⟨hc1, hf1⟩ := bcell hb
      have hlt1 : w.heap.size < w1_.heap.size := by have := hb.size; (try simp at this); omega
      clear hb hb2
      go_wp2
      go_ret
      refine ⟨rfl, ?_⟩
      repeat' (first | exact HBB.out | exact Below.refl _ _ | refine Below.setCell ?_ ?_ _ | refine Below.alloc ?_ ?_ _)
      all_goals first | (simp; done) | (simp; omega) | omega
    · skip
      by_cases hx2 : q - (t8 : Int) - (t9 : Int) < (t11 : Int)
      · skip
        have z0 : ¬ q - (t8 : Int) < 0 := by omega
        have z1 : ¬ q - (t8 : Int) - (t9 : Int) < 0 := by omega
        have z2 : q - (t8 : Int) - (t9 : Int) - (t11 : Int) < 0 := by omega
        have V8 := Lib.hid (fun w1 hb => S8.out (q) w1 hb (by omega) (by omega))
        simp only [if_neg (show ¬ q < (t8 : Int) by omega)] at V8
        have V9 := Lib.hid (fun w1 hb => S9.out (q - (t8 : Int)) w1 hb (by omega) (by omega))
        simp only [if_neg (show ¬ q - (t8 : Int) < (t9 : Int) by omega)] at V9
        have V11 := Lib.hid (fun w1 hb => S11.out (q - (t8 : Int) - (t9 : Int)) w1 hb (by omega) (by omega))
        simp only [if_pos (show  q - (t8 : Int) - (t9 : Int) < (t11 : Int) by omega)] at V11
        rw [if_pos (by omega)]
        clear S8 S9 S11
        have HBB := Lib.hid (Below.refl w.heap.size w)
        go_enter Try.func13, Try.ntmps13
        go_wp2_with fail
        refine (V8.out _ ?_).mono ?_
        · repeat' (first | exact HBB.out | exact Below.refl _ _ | refine Below.setCell ?_ ?_ _ | refine Below.alloc ?_ ?_ _)
          all_goals first | (simp; done) | (simp; omega) | omega
        rintro e w0_ ⟨rfl, hb⟩
        have hb2 : Below w.heap.size w w0_ := by
          refine Below.trans ?_ (Below.mono hb ?_)
          repeat' (first | exact HBB.out | exact Below.refl _ _ | refine Below.setCell ?_ ?_ _ | refine Below.alloc ?_ ?_ _)
          all_goals first | (simp; done) | (simp; omega) | omega
        replace HBB := Lib.hid hb2
        obtain ⟨hc0, hf0⟩ := bcell hb
        have hlt0 : w.heap.size < w0_.heap.size := by have := hb.size; (try simp at this); omega
        clear hb hb2
        go_wp2_with fail
        refine (V9.out _ ?_).mono ?_
        · repeat' (first | exact HBB.out | exact Below.refl _ _ | refine Below.setCell ?_ ?_ _ | refine Below.alloc ?_ ?_ _)
          all_goals first | (simp; done) | (simp; omega) | omega
        rintro e w1_ ⟨rfl, hb⟩
        have hb2 : Below w.heap.size w w1_ := by
          refine Below.trans ?_ (Below.mono hb ?_)
          repeat' (first | exact HBB.out | exact Below.refl _ _ | refine Below.setCell ?_ ?_ _ | refine Below.alloc ?_ ?_ _)
          all_goals first | (simp; done) | (simp; omega) | omega
        replace HBB := Lib.hid hb2
        obtain ⟨hc1, hf1⟩ := bcell hb
        have hlt1 : w.heap.size < w1_.heap.size := by have := hb.size; (try simp at this); omega
        clear hb hb2
        go_wp2_with fail
        refine (V11.out _ ?_).mono ?_
        · repeat' (first | exact HBB.out | exact Below.refl _ _ | refine Below.setCell ?_ ?_ _ | refine Below.alloc ?_ ?_ _)
          all_goals first | (simp; done) | (simp; omega) | omega
        rintro e w2_ ⟨rfl, hb⟩
        have hb2 : Below w.heap.size w w2_ := by
          refine Below.trans ?_ (Below.mono hb ?_)
          repeat' (first | exact HBB.out | exact Below.refl _ _ | refine Below.setCell ?_ ?_ _ | refine Below.alloc ?_ ?_ _)
          all_goals first | (simp; done) | (simp; omega) | omega
        replace HBB := Lib.hid hb2
        obtain ⟨hc2, hf2⟩ := bcell hb
        have hlt2 : w.heap.size < w2_.heap.size := by have := hb.size; (try simp at this); omega
        clear hb hb2
        go_wp2
        go_ret
        refine ⟨rfl, ?_⟩
        repeat' (first | exact HBB.out | exact Below.refl _ _ | refine Below.setCell ?_ ?_ _ | refine Below.alloc ?_ ?_ _)
        all_goals first | (simp; done) | (simp; omega) | omega
      · skip
        have z0 : ¬ q - (t8 : Int) < 0 := by omega
        have z1 : ¬ q - (t8 : Int) - (t9 : Int) < 0 := by omega
        have z2 : ¬ q - (t8 : Int) - (t9 : Int) - (t11 : Int) < 0 := by omega
        have V8 := Lib.hid (fun w1 hb => S8.out (q) w1 hb (by omega) (by omega))
        simp only [if_neg (show ¬ q < (t8 : Int) by omega)] at V8
        have V9 := Lib.hid (fun w1 hb => S9.out (q - (t8 : Int)) w1 hb (by omega) (by omega))
        simp only [if_neg (show ¬ q - (t8 : Int) < (t9 : Int) by omega)] at V9
        have V11 := Lib.hid (fun w1 hb => S11.out (q - (t8 : Int) - (t9 : Int)) w1 hb (by omega) (by omega))
        simp only [if_neg (show ¬ q - (t8 : Int) - (t9 : Int) < (t11 : Int) by omega)] at V11
        rw [if_neg (by omega)]
        rw [show q - ((t8 + t9 + t11 : Nat) : Int) = q - (t8 : Int) - (t9 : Int) - (t11 : Int) by omega]
        clear S8 S9 S11
        have HBB := Lib.hid (Below.refl w.heap.size w)
        go_enter Try.func13, Try.ntmps13
        go_wp2_with fail
        refine (V8.out _ ?_).mono ?_
        · repeat' (first | exact HBB.out | exact Below.refl _ _ | refine Below.setCell ?_ ?_ _ | refine Below.alloc ?_ ?_ _)
          all_goals first | (simp; done) | (simp; omega) | omega
        rintro e w0_ ⟨rfl, hb⟩
        have hb2 : Below w.heap.size w w0_ := by
          refine Below.trans ?_ (Below.mono hb ?_)
          repeat' (first | exact HBB.out | exact Below.refl _ _ | refine Below.setCell ?_ ?_ _ | refine Below.alloc ?_ ?_ _)
          all_goals first | (simp; done) | (simp; omega) | omega
        replace HBB := Lib.hid hb2
        obtain ⟨hc0, hf0⟩ := bcell hb
        have hlt0 : w.heap.size < w0_.heap.size := by have := hb.size; (try simp at this); omega
        clear hb hb2
        go_wp2_with fail
        refine (V9.out _ ?_).mono ?_
        · repeat' (first | exact HBB.out | exact Below.refl _ _ | refine Below.setCell ?_ ?_ _ | refine Below.alloc ?_ ?_ _)
          all_goals first | (simp; done) | (simp; omega) | omega
        rintro e w1_ ⟨rfl, hb⟩
        have hb2 : Below w.heap.size w w1_ := by
          refine Below.trans ?_ (Below.mono hb ?_)
          repeat' (first | exact HBB.out | exact Below.refl _ _ | refine Below.setCell ?_ ?_ _ | refine Below.alloc ?_ ?_ _)
          all_goals first | (simp; done) | (simp; omega) | omega
        replace HBB := Lib.hid hb2
        obtain ⟨hc1, hf1⟩ := bcell hb
        have hlt1 : w.heap.size < w1_.heap.size := by have := hb.size; (try simp at this); omega
        clear hb hb2
        go_wp2_with fail
        refine (V11.out _ ?_).mono ?_
        · repeat' (first | exact HBB.out | exact Below.refl _ _ | refine Below.setCell ?_ ?_ _ | refine Below.alloc ?_ ?_ _)
          all_goals first | (simp; done) | (simp; omega) | omega
        rintro e w2_ ⟨rfl, hb⟩
        have hb2 : Below w.heap.size w w2_ := by
          refine Below.trans ?_ (Below.mono hb ?_)
          repeat' (first | exact HBB.out | exact Below.refl _ _ | refine Below.setCell ?_ ?_ _ | refine Below.alloc ?_ ?_ _)
          all_goals first | (simp; done) | (simp; omega) | omega
        replace HBB := Lib.hid hb2
        obtain ⟨hc2, hf2⟩ := bcell hb
        have hlt2 : w.heap.size < w2_.heap.size := by have := hb.size; (try simp at this); omega
        clear hb hb2
        go_wp2
        go_ret
        refine ⟨rfl, ?_⟩
        repeat' (first | exact HBB.out | exact Below.refl _ _ | refine Below.setCell ?_ ?_ _ | refine Below.alloc ?_ ?_ _)
        all_goals first | (simp; done) | (simp; omega) | omega
set_option maxHeartbeats 2000000 in
theorem eqHead_same (B B' : Nat) (cs cs' : List Value) (k : Head) (w : World) (h : RHead.rd w (Lt B) cs k) (h' : RHead.rd w (Lt B') cs' k) (hB : B ≤ w.heap.size) (hB' : B' ≤ w.heap.size) (hn : totHead k ≤ 1099511627776) :
    Calls Try.prog 20 #[.agg cs.toArray, .agg cs'.toArray] w fun e w' => e = .returned (.bool true) ∧ Below w.heap.size w w' := by
  obtain ⟨A0, n0, c0, A1, n1, c1, A2, n2, c2, rfl, h0, h1, h2, h3, h4, h5, h6, h7, h8, h9, h10, h11⟩ := RHead_flds (RHead.more h fun i hi => Nat.lt_of_lt_of_le hi hB)
  obtain ⟨A0', n0', c0', A1', n1', c1', A2', n2', c2', rfl, h0', h1', h2', h3', h4', h5', h6', h7', h8', h9', h10', h11'⟩ := RHead_flds (RHead.more h' fun i hi => Nat.lt_of_lt_of_le hi hB')
  unfold totHead at hn
  have D8 := Lib.hid h8
  have E8 := Lib.hid h8'
  have N8 := Lib.hid (show totKeys k.keys ≤ 1099511627776 by omega)
  have D9 := Lib.hid h9
  have E9 := Lib.hid h9'
  have N9 := Lib.hid (show totKeys k.heirs ≤ 1099511627776 by omega)
  have D11 := Lib.hid h11
  have E11 := Lib.hid h11'
  have N11 := Lib.hid (show totKeys k.judge ≤ 1099511627776 by omega)
  clear h h' hn hB hB' h0 h0' h1 h1' h2 h2' h3 h3' h4 h4' h5 h5' h6 h6' h7 h7' h8 h8' h9 h9' h10 h10' h11 h11'
  have HBB := Lib.hid (Below.refl w.heap.size w)
  go_enter Try.func20, Try.ntmps20
  go_wp2_with fail
  refine (eqKeys_same _ _ [.slice A0 n0 c0, .int .i64 k.keys.need] [.slice A0' n0' c0', .int .i64 k.keys.need] (k.keys) _ (rd_up D8.out ?_) (rd_up E8.out ?_) (Nat.le_refl _) (Nat.le_refl _) N8.out).mono ?_
  · repeat' (first | exact HBB.out | exact Below.refl _ _ | refine Below.setCell ?_ ?_ _ | refine Below.alloc ?_ ?_ _)
    all_goals first | (simp; done) | (simp; omega) | omega
  · repeat' (first | exact HBB.out | exact Below.refl _ _ | refine Below.setCell ?_ ?_ _ | refine Below.alloc ?_ ?_ _)
    all_goals first | (simp; done) | (simp; omega) | omega
  rintro e w0_ ⟨rfl, hb⟩
  have hb2 : Below w.heap.size w w0_ := by
    refine Below.trans ?_ (Below.mono hb ?_)
    repeat' (first | exact HBB.out | exact Below.refl _ _ | refine Below.setCell ?_ ?_ _ | refine Below.alloc ?_ ?_ _)
    all_goals first | (simp; done) | (simp; omega) | omega
  replace HBB := Lib.hid hb2
  obtain ⟨hc0, hf0⟩ := bcell hb
  have hltb0 : w.heap.size + 1 < w0_.heap.size := by have := hb.size; (try simp at this); omega
  have hlt0 : w.heap.size < w0_.heap.size := by omega
  clear hb hb2
  go_wp2_with fail
  refine (eqKeys_same _ _ [.slice A1 n1 c1, .int .i64 k.heirs.need] [.slice A1' n1' c1', .int .i64 k.heirs.need] (k.heirs) _ (rd_up D9.out ?_) (rd_up E9.out ?_) (Nat.le_refl _) (Nat.le_refl _) N9.out).mono ?_
  · repeat' (first | exact HBB.out | exact Below.refl _ _ | refine Below.setCell ?_ ?_ _ | refine Below.alloc ?_ ?_ _)
    all_goals first | (simp; done) | (simp; omega) | omega
  · repeat' (first | exact HBB.out | exact Below.refl _ _ | refine Below.setCell ?_ ?_ _ | refine Below.alloc ?_ ?_ _)
    all_goals first | (simp; done) | (simp; omega) | omega
  rintro e w1_ ⟨rfl, hb⟩
  have hb2 : Below w.heap.size w w1_ := by
    refine Below.trans ?_ (Below.mono hb ?_)
    repeat' (first | exact HBB.out | exact Below.refl _ _ | refine Below.setCell ?_ ?_ _ | refine Below.alloc ?_ ?_ _)
    all_goals first | (simp; done) | (simp; omega) | omega
  replace HBB := Lib.hid hb2
  obtain ⟨hc1, hf1⟩ := bcell hb
  have hltb1 : w.heap.size + 1 < w1_.heap.size := by have := hb.size; (try simp at this); omega
  have hlt1 : w.heap.size < w1_.heap.size := by omega
  clear hb hb2
  go_wp2_with fail
  refine (eqKeys_same _ _ [.slice A2 n2 c2, .int .i64 k.judge.need] [.slice A2' n2' c2', .int .i64 k.judge.need] (k.judge) _ (rd_up D11.out ?_) (rd_up E11.out ?_) (Nat.le_refl _) (Nat.le_refl _) N11.out).mono ?_
  · repeat' (first | exact HBB.out | exact Below.refl _ _ | refine Below.setCell ?_ ?_ _ | refine Below.alloc ?_ ?_ _)
    all_goals first | (simp; done) | (simp; omega) | omega
  · repeat' (first | exact HBB.out | exact Below.refl _ _ | refine Below.setCell ?_ ?_ _ | refine Below.alloc ?_ ?_ _)
    all_goals first | (simp; done) | (simp; omega) | omega
  rintro e w2_ ⟨rfl, hb⟩
  have hb2 : Below w.heap.size w w2_ := by
    refine Below.trans ?_ (Below.mono hb ?_)
    repeat' (first | exact HBB.out | exact Below.refl _ _ | refine Below.setCell ?_ ?_ _ | refine Below.alloc ?_ ?_ _)
    all_goals first | (simp; done) | (simp; omega) | omega
  replace HBB := Lib.hid hb2
  obtain ⟨hc2, hf2⟩ := bcell hb
  have hltb2 : w.heap.size + 1 < w2_.heap.size := by have := hb.size; (try simp at this); omega
  have hlt2 : w.heap.size < w2_.heap.size := by omega
  clear hb hb2
  go_wp2
  go_ret
  refine ⟨rfl, ?_⟩
  repeat' (first | exact HBB.out | exact Below.refl _ _ | refine Below.setCell ?_ ?_ _ | refine Below.alloc ?_ ?_ _)
  all_goals first | (simp; done) | (simp; omega) | omega
end Go.Proofs.Ythhmhcmlbpdlbaa.T13S
