/- The laws' own helpers on a struct: Gap: sizes, comparison, marks. -/
import Derived.Test.YtbhhifoofapgiaaR12
import Derived.Test.YtbhhifoofapgiaaTW
import Derived.Test.YtbhhifoofapgiaaT08
import Derived.Test.YtbhhifoofapgiaaT11
import Derived.Test.YtbhhifoofapgiaaBX
namespace Go.Proofs.Ytbhhifoofapgiaa.T12S
open Go.RowKit Mem MemS Rep RepA T01 T04 T05 R08 R12 TW R11 T08 T11 BX
set_option linter.unusedVariables false
set_option maxRecDepth 100000
theorem RGap_flds {w : World} {P : Nat → Prop} {cs : List Value} {k : Gap} (h : RGap.rd w P cs k) : ∃ A0 n0 c0 A1 n1 c1 A2 n2 c2 A3 n3 c3, cs = [.int .i64 k.at_, .string k.before.label, .int .i64 k.before.kind, .int .i64 k.before.value, .slice A0 n0 c0, .string k.after.label, .int .i64 k.after.kind, .int .i64 k.after.value, .slice A1 n1 c1, .int .i64 k.left.at_, .slice A2 n2 c2, .int .i64 k.right.at_, .slice A3 n3 c3] ∧ In .i64 k.at_ ∧ REntry.rd w P [.string k.before.label, .int .i64 k.before.kind, .int .i64 k.before.value, .slice A0 n0 c0] k.before ∧ REntry.rd w P [.string k.after.label, .int .i64 k.after.kind, .int .i64 k.after.value, .slice A1 n1 c1] k.after ∧ RProof.rd w P [.int .i64 k.left.at_, .slice A2 n2 c2] k.left ∧ RProof.rd w P [.int .i64 k.right.at_, .slice A3 n3 c3] k.right := by
  obtain ⟨d0, e0, rfl, ⟨rfl, h0⟩, ⟨d1, e1, rfl, h1, ⟨d2, e2, rfl, h2, ⟨d3, e3, rfl, h3, h4⟩⟩⟩⟩ := h
  obtain ⟨A0, n0, c0, rfl⟩ := REntry_shape h1
  obtain ⟨A1, n1, c1, rfl⟩ := REntry_shape h2
  obtain ⟨A2, n2, c2, rfl⟩ := RProof_shape h3
  obtain ⟨A3, n3, c3, rfl⟩ := RProof_shape h4
  exact ⟨A0, n0, c0, A1, n1, c1, A2, n2, c2, A3, n3, c3, rfl, h0, h1, h2, h3, h4⟩
set_option maxHeartbeats 2000000 in
theorem szGap_any (cs : List Value) (k : Gap) (q : Int) (w : World) (h : RGap.rd w (Lt w.heap.size) cs k) (hq0 : 0 ≤ q) (hq1 : q ≤ 1048576) :
    Calls Try.prog 16 #[.agg cs.toArray, .int .i64 q] w fun e w' => e = .returned (.int .i64 (if q < (totGap k : Int) then -1 else q - (totGap k : Int))) ∧ Below w.heap.size w w' := by
  obtain ⟨A0, n0, c0, A1, n1, c1, A2, n2, c2, A3, n3, c3, rfl, h0, h1, h2, h3, h4⟩ := RGap_flds h
  have S1 := Lib.hid (fun (q1 : Int) (w1 : World) (hb : Below w.heap.size w w1) (g0 : 0 ≤ q1) (g1 : q1 ≤ 1048576) => szEntry_any [.string k.before.label, .int .i64 k.before.kind, .int .i64 k.before.value, .slice A0 n0 c0] (k.before) q1 w1 (rd_up h1 hb) g0 g1)
  have S2 := Lib.hid (fun (q1 : Int) (w1 : World) (hb : Below w.heap.size w w1) (g0 : 0 ≤ q1) (g1 : q1 ≤ 1048576) => szEntry_any [.string k.after.label, .int .i64 k.after.kind, .int .i64 k.after.value, .slice A1 n1 c1] (k.after) q1 w1 (rd_up h2 hb) g0 g1)
  have S3 := Lib.hid (fun (q1 : Int) (w1 : World) (hb : Below w.heap.size w w1) (g0 : 0 ≤ q1) (g1 : q1 ≤ 1048576) => szProof_any [.int .i64 k.left.at_, .slice A2 n2 c2] (k.left) q1 w1 (rd_up h3 hb) g0 g1)
  have S4 := Lib.hid (fun (q1 : Int) (w1 : World) (hb : Below w.heap.size w w1) (g0 : 0 ≤ q1) (g1 : q1 ≤ 1048576) => szProof_any [.int .i64 k.right.at_, .slice A3 n3 c3] (k.right) q1 w1 (rd_up h4 hb) g0 g1)
  obtain ⟨t1, ht1⟩ : ∃ t : Nat, t = totEntry k.before := ⟨_, rfl⟩
  obtain ⟨t2, ht2⟩ : ∃ t : Nat, t = totEntry k.after := ⟨_, rfl⟩
  obtain ⟨t3, ht3⟩ : ∃ t : Nat, t = totProof k.left := ⟨_, rfl⟩
  obtain ⟨t4, ht4⟩ : ∃ t : Nat, t = totProof k.right := ⟨_, rfl⟩
  have hT : totGap k = t1 + t2 + t3 + t4 := by unfold totGap; omega
  rw [hT]
  rw [← ht1] at S1
  rw [← ht2] at S2
  rw [← ht3] at S3
  rw [← ht4] at S4
  clear hT h h0 h1 h2 h3 h4
  clear ht1
  clear ht2
  clear ht3
  clear ht4
  by_cases hx0 : q < (t1 : Int)
  · skip
    have z0 : q - (t1 : Int) < 0 := by omega
    have V1 := Lib.hid (fun w1 hb => S1.out (q) w1 hb (by omega) (by omega))
    simp only [if_pos (show  q < (t1 : Int) by omega)] at V1
    rw [if_pos (by omega)]
    clear S1 S2 S3 S4
    have HBB := Lib.hid (Below.refl w.heap.size w)
    go_enter Try.func16, Try.ntmps16
    go_wp2_with fail
    refine (V1.out _ ?_).mono ?_
    · repeat' (first | exact HBB.out | exact Below.refl _ _ | refine Below.setCell ?_ ?_ _ | refine Below.alloc ?_ ?_ _)
      all_goals first | (simp; done) | (simp; omega) | omega
    rintro e w0_ ⟨rfl, hb⟩
    have hb2 : Below w.heap.size w w0_ := by
      refine Below.trans ?_ (Below.mono hb ?_)
      repeat' (first | exact HBB.out | exact Below.refl _ _ | refine Below.setCell ?_ ?_ _ | refine Below.alloc ?_ ?_ _)
      all_goals first | (simp; done) | (simp; omega) | omega
    replace HBB := Lib.hid hb2
    obtain ⟨hc0, hf0⟩ := bcell hb
    have hlt0 : w.heap.size < w0_.heap.size := by have := hb.size; (try simp at this); omega
    clear hb hb2
    go_wp2
    go_ret
    refine ⟨rfl, ?_⟩
    repeat' (first | exact HBB.out | exact Below.refl _ _ | refine Below.setCell ?_ ?_ _ | refine Below.alloc ?_ ?_ _)
    all_goals first | (simp; done) | (simp; omega) | omega
  · skip
    by_cases hx1 : q - (t1 : Int) < (t2 : Int)
    · skip
      have z0 : ¬ q - (t1 : Int) < 0 := by omega
      have z1 : q - (t1 : Int) - (t2 : Int) < 0 := by omega
      have V1 := Lib.hid (fun w1 hb => S1.out (q) w1 hb (by omega) (by omega))
      simp only [if_neg (show ¬ q < (t1 : Int) by omega)] at V1
      have V2 := Lib.hid (fun w1 hb => S2.out (q - (t1 : Int)) w1 hb (by omega) (by omega))
      simp only [if_pos (show  q - (t1 : Int) < (t2 : Int) by omega)] at V2
      rw [if_pos (by omega)]
      clear S1 S2 S3 S4
      have HBB := Lib.hid (Below.refl w.heap.size w)
      go_enter Try.func16, Try.ntmps16
      go_wp2_with fail
      refine (V1.out _ ?_).mono ?_
      · repeat' (first | exact HBB.out | exact Below.refl _ _ | refine Below.setCell ?_ ?_ _ | refine Below.alloc ?_ ?_ _)
        all_goals first | (simp; done) | (simp; omega) | omega
      rintro e w0_ ⟨rfl, hb⟩
      have hb2 : Below w.heap.size w w0_ := by
        refine Below.trans ?_ (Below.mono hb ?_)
        repeat' (first | exact HBB.out | exact Below.refl _ _ | refine Below.setCell ?_ ?_ _ | refine Below.alloc ?_ ?_ _)
        all_goals first | (simp; done) | (simp; omega) | omega
      replace HBB := Lib.hid hb2
      obtain ⟨hc0, hf0⟩ := bcell hb
      have hlt0 : w.heap.size < w0_.heap.size := by have := hb.size; (try simp at this); omega
      clear hb hb2
      go_wp2_with fail
      refine (V2.out _ ?_).mono ?_
      · repeat' (first | exact HBB.out | exact Below.refl _ _ | refine Below.setCell ?_ ?_ _ | refine Below.alloc ?_ ?_ _)
        all_goals first | (simp; done) | (simp; omega) | omega
      rintro e w1_ ⟨rfl, hb⟩
      have hb2 : Below w.heap.size w w1_ := by
        refine Below.trans ?_ (Below.mono hb ?_)
        repeat' (first | exact HBB.out | exact Below.refl _ _ | refine Below.setCell ?_ ?_ _ | refine Below.alloc ?_ ?_ _)
        all_goals first | (simp; done) | (simp; omega) | omega
      replace HBB := Lib.hid hb2
      obtain ⟨hc1, hf1⟩ := bcell hb
      have hlt1 : w.heap.size < w1_.heap.size := by have := hb.size; (try simp at this); omega
      clear hb hb2
      go_wp2
      go_ret
      refine ⟨rfl, ?_⟩
      repeat' (first | exact HBB.out | exact Below.refl _ _ | refine Below.setCell ?_ ?_ _ | refine Below.alloc ?_ ?_ _)
      all_goals first | (simp; done) | (simp; omega) | omega
    · skip
      by_cases hx2 : q - (t1 : Int) - (t2 : Int) < (t3 : Int)
      · skip
        have z0 : ¬ q - (t1 : Int) < 0 := by omega
        have z1 : ¬ q - (t1 : Int) - (t2 : Int) < 0 := by omega
        have z2 : q - (t1 : Int) - (t2 : Int) - (t3 : Int) < 0 := by omega
        have V1 := Lib.hid (fun w1 hb => S1.out (q) w1 hb (by omega) (by omega))
        simp only [if_neg (show ¬ q < (t1 : Int) by omega)] at V1
        have V2 := Lib.hid (fun w1 hb => S2.out (q - (t1 : Int)) w1 hb (by omega) (by omega))
        simp only [if_neg (show ¬ q - (t1 : Int) < (t2 : Int) by omega)] at V2
        have V3 := Lib.hid (fun w1 hb => S3.out (q - (t1 : Int) - (t2 : Int)) w1 hb (by omega) (by omega))
        simp only [if_pos (show  q - (t1 : Int) - (t2 : Int) < (t3 : Int) by omega)] at V3
        rw [if_pos (by omega)]
        clear S1 S2 S3 S4
        have HBB := Lib.hid (Below.refl w.heap.size w)
        go_enter Try.func16, Try.ntmps16
        go_wp2_with fail
        refine (V1.out _ ?_).mono ?_
        · repeat' (first | exact HBB.out | exact Below.refl _ _ | refine Below.setCell ?_ ?_ _ | refine Below.alloc ?_ ?_ _)
          all_goals first | (simp; done) | (simp; omega) | omega
        rintro e w0_ ⟨rfl, hb⟩
        have hb2 : Below w.heap.size w w0_ := by
          refine Below.trans ?_ (Below.mono hb ?_)
          repeat' (first | exact HBB.out | exact Below.refl _ _ | refine Below.setCell ?_ ?_ _ | refine Below.alloc ?_ ?_ _)
          all_goals first | (simp; done) | (simp; omega) | omega
        replace HBB := Lib.hid hb2
        obtain ⟨hc0, hf0⟩ := bcell hb
        have hlt0 : w.heap.size < w0_.heap.size := by have := hb.size; (try simp at this); omega
        clear hb hb2
        go_wp2_with fail
        refine (V2.out _ ?_).mono ?_
        · repeat' (first | exact HBB.out | exact Below.refl _ _ | refine Below.setCell ?_ ?_ _ | refine Below.alloc ?_ ?_ _)
          all_goals first | (simp; done) | (simp; omega) | omega
        rintro e w1_ ⟨rfl, hb⟩
        have hb2 : Below w.heap.size w w1_ := by
          refine Below.trans ?_ (Below.mono hb ?_)
          repeat' (first | exact HBB.out | exact Below.refl _ _ | refine Below.setCell ?_ ?_ _ | refine Below.alloc ?_ ?_ _)
          all_goals first | (simp; done) | (simp; omega) | omega
        replace HBB := Lib.hid hb2
        obtain ⟨hc1, hf1⟩ := bcell hb
        have hlt1 : w.heap.size < w1_.heap.size := by have := hb.size; (try simp at this); omega
        clear hb hb2
        go_wp2_with fail
        refine (V3.out _ ?_).mono ?_
        · repeat' (first | exact HBB.out | exact Below.refl _ _ | refine Below.setCell ?_ ?_ _ | refine Below.alloc ?_ ?_ _)
          all_goals first | (simp; done) | (simp; omega) | omega
        rintro e w2_ ⟨rfl, hb⟩
        have hb2 : Below w.heap.size w w2_ := by
          refine Below.trans ?_ (Below.mono hb ?_)
          repeat' (first | exact HBB.out | exact Below.refl _ _ | refine Below.setCell ?_ ?_ _ | refine Below.alloc ?_ ?_ _)
          all_goals first | (simp; done) | (simp; omega) | omega
        replace HBB := Lib.hid hb2
        obtain ⟨hc2, hf2⟩ := bcell hb
        have hlt2 : w.heap.size < w2_.heap.size := by have := hb.size; (try simp at this); omega
        clear hb hb2
        go_wp2
        go_ret
        refine ⟨rfl, ?_⟩
        repeat' (first | exact HBB.out | exact Below.refl _ _ | refine Below.setCell ?_ ?_ _ | refine Below.alloc ?_ ?_ _)
        all_goals first | (simp; done) | (simp; omega) | omega
      · skip
        by_cases hx3 : q - (t1 : Int) - (t2 : Int) - (t3 : Int) < (t4 : Int)
        · skip
          have z0 : ¬ q - (t1 : Int) < 0 := by omega
          have z1 : ¬ q - (t1 : Int) - (t2 : Int) < 0 := by omega
          have z2 : ¬ q - (t1 : Int) - (t2 : Int) - (t3 : Int) < 0 := by omega
          have z3 : q - (t1 : Int) - (t2 : Int) - (t3 : Int) - (t4 : Int) < 0 := by omega
          have V1 := Lib.hid (fun w1 hb => S1.out (q) w1 hb (by omega) (by omega))
          simp only [if_neg (show ¬ q < (t1 : Int) by omega)] at V1
          have V2 := Lib.hid (fun w1 hb => S2.out (q - (t1 : Int)) w1 hb (by omega) (by omega))
          simp only [if_neg (show ¬ q - (t1 : Int) < (t2 : Int) by omega)] at V2
          have V3 := Lib.hid (fun w1 hb => S3.out (q - (t1 : Int) - (t2 : Int)) w1 hb (by omega) (by omega))
          simp only [if_neg (show ¬ q - (t1 : Int) - (t2 : Int) < (t3 : Int) by omega)] at V3
          have V4 := Lib.hid (fun w1 hb => S4.out (q - (t1 : Int) - (t2 : Int) - (t3 : Int)) w1 hb (by omega) (by omega))
          simp only [if_pos (show  q - (t1 : Int) - (t2 : Int) - (t3 : Int) < (t4 : Int) by omega)] at V4
          rw [if_pos (by omega)]
          clear S1 S2 S3 S4
          have HBB := Lib.hid (Below.refl w.heap.size w)
          go_enter Try.func16, Try.ntmps16
          go_wp2_with fail
          refine (V1.out _ ?_).mono ?_
          · repeat' (first | exact HBB.out | exact Below.refl _ _ | refine Below.setCell ?_ ?_ _ | refine Below.alloc ?_ ?_ _)
            all_goals first | (simp; done) | (simp; omega) | omega
          rintro e w0_ ⟨rfl, hb⟩
          have hb2 : Below w.heap.size w w0_ := by
            refine Below.trans ?_ (Below.mono hb ?_)
            repeat' (first | exact HBB.out | exact Below.refl _ _ | refine Below.setCell ?_ ?_ _ | refine Below.alloc ?_ ?_ _)
            all_goals first | (simp; done) | (simp; omega) | omega
          replace HBB := Lib.hid hb2
          obtain ⟨hc0, hf0⟩ := bcell hb
          have hlt0 : w.heap.size < w0_.heap.size := by have := hb.size; (try simp at this); omega
          clear hb hb2
          go_wp2_with fail
          refine (V2.out _ ?_).mono ?_
          · repeat' (first | exact HBB.out | exact Below.refl _ _ | refine Below.setCell ?_ ?_ _ | refine Below.alloc ?_ ?_ _)
            all_goals first | (simp; done) | (simp; omega) | omega
          rintro e w1_ ⟨rfl, hb⟩
          have hb2 : Below w.heap.size w w1_ := by
            refine Below.trans ?_ (Below.mono hb ?_)
            repeat' (first | exact HBB.out | exact Below.refl _ _ | refine Below.setCell ?_ ?_ _ | refine Below.alloc ?_ ?_ _)
            all_goals first | (simp; done) | (simp; omega) | omega
          replace HBB := Lib.hid hb2
          obtain ⟨hc1, hf1⟩ := bcell hb
          have hlt1 : w.heap.size < w1_.heap.size := by have := hb.size; (try simp at this); omega
          clear hb hb2
          go_wp2_with fail
          refine (V3.out _ ?_).mono ?_
          · repeat' (first | exact HBB.out | exact Below.refl _ _ | refine Below.setCell ?_ ?_ _ | refine Below.alloc ?_ ?_ _)
            all_goals first | (simp; done) | (simp; omega) | omega
          rintro e w2_ ⟨rfl, hb⟩
          have hb2 : Below w.heap.size w w2_ := by
            refine Below.trans ?_ (Below.mono hb ?_)
            repeat' (first | exact HBB.out | exact Below.refl _ _ | refine Below.setCell ?_ ?_ _ | refine Below.alloc ?_ ?_ _)
            all_goals first | (simp; done) | (simp; omega) | omega
          replace HBB := Lib.hid hb2
          obtain ⟨hc2, hf2⟩ := bcell hb
          have hlt2 : w.heap.size < w2_.heap.size := by have := hb.size; (try simp at this); omega
          clear hb hb2
          go_wp2_with fail
          refine (V4.out _ ?_).mono ?_
          · repeat' (first | exact HBB.out | exact Below.refl _ _ | refine Below.setCell ?_ ?_ _ | refine Below.alloc ?_ ?_ _)
            all_goals first | (simp; done) | (simp; omega) | omega
          rintro e w3_ ⟨rfl, hb⟩
          have hb2 : Below w.heap.size w w3_ := by
            refine Below.trans ?_ (Below.mono hb ?_)
            repeat' (first | exact HBB.out | exact Below.refl _ _ | refine Below.setCell ?_ ?_ _ | refine Below.alloc ?_ ?_ _)
            all_goals first | (simp; done) | (simp; omega) | omega
          replace HBB := Lib.hid hb2
          obtain ⟨hc3, hf3⟩ := bcell hb
          have hlt3 : w.heap.size < w3_.heap.size := by have := hb.size; (try simp at this); omega
          clear hb hb2
          go_wp2
          go_ret
          refine ⟨rfl, ?_⟩
          repeat' (first | exact HBB.out | exact Below.refl _ _ | refine Below.setCell ?_ ?_ _ | refine Below.alloc ?_ ?_ _)
          all_goals first | (simp; done) | (simp; omega) | omega
        · skip
          have z0 : ¬ q - (t1 : Int) < 0 := by omega
          have z1 : ¬ q - (t1 : Int) - (t2 : Int) < 0 := by omega
          have z2 : ¬ q - (t1 : Int) - (t2 : Int) - (t3 : Int) < 0 := by omega
          have z3 : ¬ q - (t1 : Int) - (t2 : Int) - (t3 : Int) - (t4 : Int) < 0 := by omega
          have V1 := Lib.hid (fun w1 hb => S1.out (q) w1 hb (by omega) (by omega))
          simp only [if_neg (show ¬ q < (t1 : Int) by omega)] at V1
          have V2 := Lib.hid (fun w1 hb => S2.out (q - (t1 : Int)) w1 hb (by omega) (by omega))
          simp only [if_neg (show ¬ q - (t1 : Int) < (t2 : Int) by omega)] at V2
          have V3 := Lib.hid (fun w1 hb => S3.out (q - (t1 : Int) - (t2 : Int)) w1 hb (by omega) (by omega))
          simp only [if_neg (show ¬ q - (t1 : Int) - (t2 : Int) < (t3 : Int) by omega)] at V3
          have V4 := Lib.hid (fun w1 hb => S4.out (q - (t1 : Int) - (t2 : Int) - (t3 : Int)) w1 hb (by omega) (by omega))
          simp only [if_neg (show ¬ q - (t1 : Int) - (t2 : Int) - (t3 : Int) < (t4 : Int) by omega)] at V4
          rw [if_neg (by omega)]
          rw [show q - ((t1 + t2 + t3 + t4 : Nat) : Int) = q - (t1 : Int) - (t2 : Int) - (t3 : Int) - (t4 : Int) by omega]
          clear S1 S2 S3 S4
          have HBB := Lib.hid (Below.refl w.heap.size w)
          go_enter Try.func16, Try.ntmps16
          go_wp2_with fail
          refine (V1.out _ ?_).mono ?_
          · repeat' (first | exact HBB.out | exact Below.refl _ _ | refine Below.setCell ?_ ?_ _ | refine Below.alloc ?_ ?_ _)
            all_goals first | (simp; done) | (simp; omega) | omega
          rintro e w0_ ⟨rfl, hb⟩
          have hb2 : Below w.heap.size w w0_ := by
            refine Below.trans ?_ (Below.mono hb ?_)
            repeat' (first | exact HBB.out | exact Below.refl _ _ | refine Below.setCell ?_ ?_ _ | refine Below.alloc ?_ ?_ _)
            all_goals first | (simp; done) | (simp; omega) | omega
          replace HBB := Lib.hid hb2
          obtain ⟨hc0, hf0⟩ := bcell hb
          have hlt0 : w.heap.size < w0_.heap.size := by have := hb.size; (try simp at this); omega
          clear hb hb2
          go_wp2_with fail
          refine (V2.out _ ?_).mono ?_
          · repeat' (first | exact HBB.out | exact Below.refl _ _ | refine Below.setCell ?_ ?_ _ | refine Below.alloc ?_ ?_ _)
            all_goals first | (simp; done) | (simp; omega) | omega
          rintro e w1_ ⟨rfl, hb⟩
          have hb2 : Below w.heap.size w w1_ := by
            refine Below.trans ?_ (Below.mono hb ?_)
            repeat' (first | exact HBB.out | exact Below.refl _ _ | refine Below.setCell ?_ ?_ _ | refine Below.alloc ?_ ?_ _)
            all_goals first | (simp; done) | (simp; omega) | omega
          replace HBB := Lib.hid hb2
          obtain ⟨hc1, hf1⟩ := bcell hb
          have hlt1 : w.heap.size < w1_.heap.size := by have := hb.size; (try simp at this); omega
          clear hb hb2
          go_wp2_with fail
          refine (V3.out _ ?_).mono ?_
          · repeat' (first | exact HBB.out | exact Below.refl _ _ | refine Below.setCell ?_ ?_ _ | refine Below.alloc ?_ ?_ _)
            all_goals first | (simp; done) | (simp; omega) | omega
          rintro e w2_ ⟨rfl, hb⟩
          have hb2 : Below w.heap.size w w2_ := by
            refine Below.trans ?_ (Below.mono hb ?_)
            repeat' (first | exact HBB.out | exact Below.refl _ _ | refine Below.setCell ?_ ?_ _ | refine Below.alloc ?_ ?_ _)
            all_goals first | (simp; done) | (simp; omega) | omega
          replace HBB := Lib.hid hb2
          obtain ⟨hc2, hf2⟩ := bcell hb
          have hlt2 : w.heap.size < w2_.heap.size := by have := hb.size; (try simp at this); omega
          clear hb hb2
          go_wp2_with fail
          refine (V4.out _ ?_).mono ?_
          · repeat' (first | exact HBB.out | exact Below.refl _ _ | refine Below.setCell ?_ ?_ _ | refine Below.alloc ?_ ?_ _)
            all_goals first | (simp; done) | (simp; omega) | omega
          rintro e w3_ ⟨rfl, hb⟩
          have hb2 : Below w.heap.size w w3_ := by
            refine Below.trans ?_ (Below.mono hb ?_)
            repeat' (first | exact HBB.out | exact Below.refl _ _ | refine Below.setCell ?_ ?_ _ | refine Below.alloc ?_ ?_ _)
            all_goals first | (simp; done) | (simp; omega) | omega
          replace HBB := Lib.hid hb2
          obtain ⟨hc3, hf3⟩ := bcell hb
          have hlt3 : w.heap.size < w3_.heap.size := by have := hb.size; (try simp at this); omega
          clear hb hb2
          go_wp2
          go_ret
          refine ⟨rfl, ?_⟩
          repeat' (first | exact HBB.out | exact Below.refl _ _ | refine Below.setCell ?_ ?_ _ | refine Below.alloc ?_ ?_ _)
          all_goals first | (simp; done) | (simp; omega) | omega
set_option maxHeartbeats 2000000 in
theorem eqGap_same (B B' : Nat) (cs cs' : List Value) (k : Gap) (w : World) (h : RGap.rd w (Lt B) cs k) (h' : RGap.rd w (Lt B') cs' k) (hB : B ≤ w.heap.size) (hB' : B' ≤ w.heap.size) (hn : totGap k ≤ 1099511627776) :
    Calls Try.prog 11 #[.agg cs.toArray, .agg cs'.toArray] w fun e w' => e = .returned (.bool true) ∧ Below w.heap.size w w' := by
  obtain ⟨A0, n0, c0, A1, n1, c1, A2, n2, c2, A3, n3, c3, rfl, h0, h1, h2, h3, h4⟩ := RGap_flds (RGap.more h fun i hi => Nat.lt_of_lt_of_le hi hB)
  obtain ⟨A0', n0', c0', A1', n1', c1', A2', n2', c2', A3', n3', c3', rfl, h0', h1', h2', h3', h4'⟩ := RGap_flds (RGap.more h' fun i hi => Nat.lt_of_lt_of_le hi hB')
  unfold totGap at hn
  have D1 := Lib.hid h1
  have E1 := Lib.hid h1'
  have N1 := Lib.hid (show totEntry k.before ≤ 1099511627776 by omega)
  have D2 := Lib.hid h2
  have E2 := Lib.hid h2'
  have N2 := Lib.hid (show totEntry k.after ≤ 1099511627776 by omega)
  have D3 := Lib.hid h3
  have E3 := Lib.hid h3'
  have N3 := Lib.hid (show totProof k.left ≤ 1099511627776 by omega)
  have D4 := Lib.hid h4
  have E4 := Lib.hid h4'
  have N4 := Lib.hid (show totProof k.right ≤ 1099511627776 by omega)
  clear h h' hn hB hB' h0 h0' h1 h1' h2 h2' h3 h3' h4 h4'
  have HBB := Lib.hid (Below.refl w.heap.size w)
  go_enter Try.func11, Try.ntmps11
  go_wp2_with fail
  refine (eqEntry_same _ _ [.string k.before.label, .int .i64 k.before.kind, .int .i64 k.before.value, .slice A0 n0 c0] [.string k.before.label, .int .i64 k.before.kind, .int .i64 k.before.value, .slice A0' n0' c0'] (k.before) _ (rd_up D1.out ?_) (rd_up E1.out ?_) (Nat.le_refl _) (Nat.le_refl _) N1.out).mono ?_
  · repeat' (first | exact HBB.out | exact Below.refl _ _ | refine Below.setCell ?_ ?_ _ | refine Below.alloc ?_ ?_ _)
    all_goals first | (simp; done) | (simp; omega) | omega
  · repeat' (first | exact HBB.out | exact Below.refl _ _ | refine Below.setCell ?_ ?_ _ | refine Below.alloc ?_ ?_ _)
    all_goals first | (simp; done) | (simp; omega) | omega
  rintro e w0_ ⟨rfl, hb⟩
  have hb2 : Below w.heap.size w w0_ := by
    refine Below.trans ?_ (Below.mono hb ?_)
    repeat' (first | exact HBB.out | exact Below.refl _ _ | refine Below.setCell ?_ ?_ _ | refine Below.alloc ?_ ?_ _)
    all_goals first | (simp; done) | (simp; omega) | omega
  replace HBB := Lib.hid hb2
  obtain ⟨hc0, hf0⟩ := bcell hb
  have hltb0 : w.heap.size + 1 < w0_.heap.size := by have := hb.size; (try simp at this); omega
  have hlt0 : w.heap.size < w0_.heap.size := by omega
  clear hb hb2
  go_wp2_with fail
  refine (eqEntry_same _ _ [.string k.after.label, .int .i64 k.after.kind, .int .i64 k.after.value, .slice A1 n1 c1] [.string k.after.label, .int .i64 k.after.kind, .int .i64 k.after.value, .slice A1' n1' c1'] (k.after) _ (rd_up D2.out ?_) (rd_up E2.out ?_) (Nat.le_refl _) (Nat.le_refl _) N2.out).mono ?_
  · repeat' (first | exact HBB.out | exact Below.refl _ _ | refine Below.setCell ?_ ?_ _ | refine Below.alloc ?_ ?_ _)
    all_goals first | (simp; done) | (simp; omega) | omega
  · repeat' (first | exact HBB.out | exact Below.refl _ _ | refine Below.setCell ?_ ?_ _ | refine Below.alloc ?_ ?_ _)
    all_goals first | (simp; done) | (simp; omega) | omega
  rintro e w1_ ⟨rfl, hb⟩
  have hb2 : Below w.heap.size w w1_ := by
    refine Below.trans ?_ (Below.mono hb ?_)
    repeat' (first | exact HBB.out | exact Below.refl _ _ | refine Below.setCell ?_ ?_ _ | refine Below.alloc ?_ ?_ _)
    all_goals first | (simp; done) | (simp; omega) | omega
  replace HBB := Lib.hid hb2
  obtain ⟨hc1, hf1⟩ := bcell hb
  have hltb1 : w.heap.size + 1 < w1_.heap.size := by have := hb.size; (try simp at this); omega
  have hlt1 : w.heap.size < w1_.heap.size := by omega
  clear hb hb2
  go_wp2_with fail
  refine (eqProof_same _ _ [.int .i64 k.left.at_, .slice A2 n2 c2] [.int .i64 k.left.at_, .slice A2' n2' c2'] (k.left) _ (rd_up D3.out ?_) (rd_up E3.out ?_) (Nat.le_refl _) (Nat.le_refl _) N3.out).mono ?_
  · repeat' (first | exact HBB.out | exact Below.refl _ _ | refine Below.setCell ?_ ?_ _ | refine Below.alloc ?_ ?_ _)
    all_goals first | (simp; done) | (simp; omega) | omega
  · repeat' (first | exact HBB.out | exact Below.refl _ _ | refine Below.setCell ?_ ?_ _ | refine Below.alloc ?_ ?_ _)
    all_goals first | (simp; done) | (simp; omega) | omega
  rintro e w2_ ⟨rfl, hb⟩
  have hb2 : Below w.heap.size w w2_ := by
    refine Below.trans ?_ (Below.mono hb ?_)
    repeat' (first | exact HBB.out | exact Below.refl _ _ | refine Below.setCell ?_ ?_ _ | refine Below.alloc ?_ ?_ _)
    all_goals first | (simp; done) | (simp; omega) | omega
  replace HBB := Lib.hid hb2
  obtain ⟨hc2, hf2⟩ := bcell hb
  have hltb2 : w.heap.size + 1 < w2_.heap.size := by have := hb.size; (try simp at this); omega
  have hlt2 : w.heap.size < w2_.heap.size := by omega
  clear hb hb2
  go_wp2_with fail
  refine (eqProof_same _ _ [.int .i64 k.right.at_, .slice A3 n3 c3] [.int .i64 k.right.at_, .slice A3' n3' c3'] (k.right) _ (rd_up D4.out ?_) (rd_up E4.out ?_) (Nat.le_refl _) (Nat.le_refl _) N4.out).mono ?_
  · repeat' (first | exact HBB.out | exact Below.refl _ _ | refine Below.setCell ?_ ?_ _ | refine Below.alloc ?_ ?_ _)
    all_goals first | (simp; done) | (simp; omega) | omega
  · repeat' (first | exact HBB.out | exact Below.refl _ _ | refine Below.setCell ?_ ?_ _ | refine Below.alloc ?_ ?_ _)
    all_goals first | (simp; done) | (simp; omega) | omega
  rintro e w3_ ⟨rfl, hb⟩
  have hb2 : Below w.heap.size w w3_ := by
    refine Below.trans ?_ (Below.mono hb ?_)
    repeat' (first | exact HBB.out | exact Below.refl _ _ | refine Below.setCell ?_ ?_ _ | refine Below.alloc ?_ ?_ _)
    all_goals first | (simp; done) | (simp; omega) | omega
  replace HBB := Lib.hid hb2
  obtain ⟨hc3, hf3⟩ := bcell hb
  have hltb3 : w.heap.size + 1 < w3_.heap.size := by have := hb.size; (try simp at this); omega
  have hlt3 : w.heap.size < w3_.heap.size := by omega
  clear hb hb2
  go_wp2
  go_ret
  refine ⟨rfl, ?_⟩
  repeat' (first | exact HBB.out | exact Below.refl _ _ | refine Below.setCell ?_ ?_ _ | refine Below.alloc ?_ ?_ _)
  all_goals first | (simp; done) | (simp; omega) | omega
end Go.Proofs.Ytbhhifoofapgiaa.T12S
