/- The laws' own helpers on a struct: Head. The laws' own helpers on a struct: Head. -/
import Derived.Test.YthhmhcmlbpdlbaaGreatR13
import Derived.Test.YthhmhcmlbpdlbaaGreatTW
import Derived.Test.YthhmhcmlbpdlbaaGreatT06
import Derived.Test.YthhmhcmlbpdlbaaGreatLD
namespace Go.Proofs.YthhmhcmlbpdlbaaGreat.T13S
open Go.RowKit Mem MemS Rep RepA T01 T06 R13 TW R06 T06F
set_option linter.unusedVariables false
set_option maxRecDepth 100000
theorem RHead_flds {w : World} {P : Nat → Prop} {cs : List Value} {k : Head} (h : RHead.rd w P cs k) : ∃ A0 n0 c0 A1 n1 c1 A2 n2 c2, cs = [.int .i64 k.zone, .int .i64 k.epoch, .int .i64 k.kind, .int .i64 k.time, .int .i64 k.until_, .int .i64 k.count, .int .i64 k.root, .int .i64 k.prev, .slice A0 n0 c0, .int .i64 k.keys.need, .slice A1 n1 c1, .int .i64 k.heirs.need, .int .i64 k.wait, .slice A2 n2 c2, .int .i64 k.judge.need, .bool k.frozen] ∧ In .i64 k.zone ∧ In .i64 k.epoch ∧ In .i64 k.kind ∧ In .i64 k.time ∧ In .i64 k.until_ ∧ In .i64 k.count ∧ In .i64 k.root ∧ In .i64 k.prev ∧ RKeys.rd w P [.slice A0 n0 c0, .int .i64 k.keys.need] k.keys ∧ RKeys.rd w P [.slice A1 n1 c1, .int .i64 k.heirs.need] k.heirs ∧ In .i64 k.wait ∧ RKeys.rd w P [.slice A2 n2 c2, .int .i64 k.judge.need] k.judge := by
  obtain ⟨d0, e0, rfl, ⟨rfl, h0⟩, ⟨d1, e1, rfl, ⟨rfl, h1⟩, ⟨d2, e2, rfl, ⟨rfl, h2⟩, ⟨d3, e3, rfl, ⟨rfl, h3⟩, ⟨d4, e4, rfl, ⟨rfl, h4⟩, ⟨d5, e5, rfl, ⟨rfl, h5⟩, ⟨d6, e6, rfl, ⟨rfl, h6⟩, ⟨d7, e7, rfl, ⟨rfl, h7⟩, ⟨d8, e8, rfl, h8, ⟨d9, e9, rfl, h9, ⟨d10, e10, rfl, ⟨rfl, h10⟩, ⟨d11, e11, rfl, h11, ⟨rfl, h12⟩⟩⟩⟩⟩⟩⟩⟩⟩⟩⟩⟩⟩ := h
  obtain ⟨A0, n0, c0, rfl⟩ := RKeys_shape h8
  obtain ⟨A1, n1, c1, rfl⟩ := RKeys_shape h9
  obtain ⟨A2, n2, c2, rfl⟩ := RKeys_shape h11
  exact ⟨A0, n0, c0, A1, n1, c1, A2, n2, c2, rfl, h0, h1, h2, h3, h4, h5, h6, h7, h8, h9, h10, h11⟩
set_option maxHeartbeats 2000000 in
theorem eqHead_same (B B' : Nat) (cs cs' : List Value) (k : Head) (w : World) (h : RHead.rd w (Lt B) cs k) (h' : RHead.rd w (Lt B') cs' k) (hB : B ≤ w.heap.size) (hB' : B' ≤ w.heap.size) (hn : totHead k ≤ 1099511627776) :
    Calls Tryz.prog 23 #[.agg cs.toArray, .agg cs'.toArray] w fun e w' => e = .returned (.bool true) ∧ Below w.heap.size w w' := by
  obtain ⟨A0, n0, c0, A1, n1, c1, A2, n2, c2, rfl, h0, h1, h2, h3, h4, h5, h6, h7, h8, h9, h10, h11⟩ := RHead_flds (RHead.more h fun i hi => Nat.lt_of_lt_of_le hi hB)
  obtain ⟨A0', n0', c0', A1', n1', c1', A2', n2', c2', rfl, h0', h1', h2', h3', h4', h5', h6', h7', h8', h9', h10', h11'⟩ := RHead_flds (RHead.more h' fun i hi => Nat.lt_of_lt_of_le hi hB')
  unfold totHead at hn
  have D8 := Lib.hid h8
  have E8 := Lib.hid h8'
  have N8 := Lib.hid (show totKeys k.keys ≤ 1099511627776 by omega)
  have D9 := Lib.hid h9
  have E9 := Lib.hid h9'
  have N9 := Lib.hid (show totKeys k.heirs ≤ 1099511627776 by omega)
  have D11 := Lib.hid h11
  have E11 := Lib.hid h11'
  have N11 := Lib.hid (show totKeys k.judge ≤ 1099511627776 by omega)
  clear h h' hn hB hB' h0 h0' h1 h1' h2 h2' h3 h3' h4 h4' h5 h5' h6 h6' h7 h7' h8 h8' h9 h9' h10 h10' h11 h11'
  have HBB := Lib.hid (Below.refl w.heap.size w)
  go_enter Tryz.func23, Tryz.ntmps23
  go_wp2_with fail
  refine (eqKeys_same _ _ [.slice A0 n0 c0, .int .i64 k.keys.need] [.slice A0' n0' c0', .int .i64 k.keys.need] (k.keys) _ (rd_up D8.out ?_) (rd_up E8.out ?_) (Nat.le_refl _) (Nat.le_refl _) N8.out).mono ?_
  · repeat' (first | exact HBB.out | exact Below.refl _ _ | refine Below.setCell ?_ ?_ _ | refine Below.alloc ?_ ?_ _)
    all_goals first | (simp; done) | (simp; omega) | omega
  · repeat' (first | exact HBB.out | exact Below.refl _ _ | refine Below.setCell ?_ ?_ _ | refine Below.alloc ?_ ?_ _)
    all_goals first | (simp; done) | (simp; omega) | omega
  rintro e w0_ ⟨rfl, hb⟩
  have hb2 : Below w.heap.size w w0_ := by
    refine Below.trans ?_ (Below.mono hb ?_)
    repeat' (first | exact HBB.out | exact Below.refl _ _ | refine Below.setCell ?_ ?_ _ | refine Below.alloc ?_ ?_ _)
    all_goals first | (simp; done) | (simp; omega) | omega
  replace HBB := Lib.hid hb2
  obtain ⟨hc0, hf0⟩ := bcell hb
  have hltb0 : w.heap.size + 1 < w0_.heap.size := by have := hb.size; (try simp at this); omega
  have hlt0 : w.heap.size < w0_.heap.size := by omega
  clear hb hb2
  go_wp2_with fail
  refine (eqKeys_same _ _ [.slice A1 n1 c1, .int .i64 k.heirs.need] [.slice A1' n1' c1', .int .i64 k.heirs.need] (k.heirs) _ (rd_up D9.out ?_) (rd_up E9.out ?_) (Nat.le_refl _) (Nat.le_refl _) N9.out).mono ?_
  · repeat' (first | exact HBB.out | exact Below.refl _ _ | refine Below.setCell ?_ ?_ _ | refine Below.alloc ?_ ?_ _)
    all_goals first | (simp; done) | (simp; omega) | omega
  · repeat' (first | exact HBB.out | exact Below.refl _ _ | refine Below.setCell ?_ ?_ _ | refine Below.alloc ?_ ?_ _)
    all_goals first | (simp; done) | (simp; omega) | omega
  rintro e w1_ ⟨rfl, hb⟩
  have hb2 : Below w.heap.size w w1_ := by
    refine Below.trans ?_ (Below.mono hb ?_)
    repeat' (first | exact HBB.out | exact Below.refl _ _ | refine Below.setCell ?_ ?_ _ | refine Below.alloc ?_ ?_ _)
    all_goals first | (simp; done) | (simp; omega) | omega
  replace HBB := Lib.hid hb2
  obtain ⟨hc1, hf1⟩ := bcell hb
  have hltb1 : w.heap.size + 1 < w1_.heap.size := by have := hb.size; (try simp at this); omega
  have hlt1 : w.heap.size < w1_.heap.size := by omega
  clear hb hb2
  go_wp2_with fail
  refine (eqKeys_same _ _ [.slice A2 n2 c2, .int .i64 k.judge.need] [.slice A2' n2' c2', .int .i64 k.judge.need] (k.judge) _ (rd_up D11.out ?_) (rd_up E11.out ?_) (Nat.le_refl _) (Nat.le_refl _) N11.out).mono ?_
  · repeat' (first | exact HBB.out | exact Below.refl _ _ | refine Below.setCell ?_ ?_ _ | refine Below.alloc ?_ ?_ _)
    all_goals first | (simp; done) | (simp; omega) | omega
  · repeat' (first | exact HBB.out | exact Below.refl _ _ | refine Below.setCell ?_ ?_ _ | refine Below.alloc ?_ ?_ _)
    all_goals first | (simp; done) | (simp; omega) | omega
  rintro e w2_ ⟨rfl, hb⟩
  have hb2 : Below w.heap.size w w2_ := by
    refine Below.trans ?_ (Below.mono hb ?_)
    repeat' (first | exact HBB.out | exact Below.refl _ _ | refine Below.setCell ?_ ?_ _ | refine Below.alloc ?_ ?_ _)
    all_goals first | (simp; done) | (simp; omega) | omega
  replace HBB := Lib.hid hb2
  obtain ⟨hc2, hf2⟩ := bcell hb
  have hltb2 : w.heap.size + 1 < w2_.heap.size := by have := hb.size; (try simp at this); omega
  have hlt2 : w.heap.size < w2_.heap.size := by omega
  clear hb hb2
  go_wp2
  go_ret
  refine ⟨rfl, ?_⟩
  repeat' (first | exact HBB.out | exact Below.refl _ _ | refine Below.setCell ?_ ?_ _ | refine Below.alloc ?_ ?_ _)
  all_goals first | (simp; done) | (simp; omega) | omega
end Go.Proofs.YthhmhcmlbpdlbaaGreat.T13S
namespace Go.Proofs.YthhmhcmlbpdlbaaGreat.T13
open T13S BX Go.RowKit Mem MemS Rep RepA T01 T06 R13 TW R06 T06F
set_option linter.unusedVariables false
set_option maxRecDepth 100000
def mkHead (k : Head) (q : Int) : Head := ⟨k.zone, k.epoch, k.kind, k.time, k.until_, k.count, k.root, k.prev, mkKeys k.keys (q), mkKeys k.heirs (q + ((cntKeys k.keys : Nat) : Int)), k.wait, mkKeys k.judge (q + ((cntKeys k.keys : Nat) : Int) + ((cntKeys k.heirs : Nat) : Int)), k.frozen⟩
set_option maxHeartbeats 2000000 in
theorem markHead_f (F : List Nat) (cs : List Value) (k : Head) (q : Int) (w : World) (h : RHead.own w F cs k) (hnd : F.Nodup) (hn : cntHead k ≤ 1099511627776) (hq0 : 0 ≤ q) (hq1 : q ≤ 576460752303423488) :
    Calls Tryz.prog 28 #[.agg cs.toArray, .int .i64 q] w fun e w' => e = .returned (.int .i64 (q + (cntHead k : Int))) ∧ RHead.own w' F cs (mkHead k q) ∧ FrF F w w' := by
  obtain ⟨A0, n0, c0, A1, n1, c1, A2, n2, c2, F8, F9, F11, rfl, hFF, h0, h1, h2, h3, h4, h5, h6, h7, h8, h9, h10, h11⟩ := RHead_set.1 h
  unfold cntHead at hn
  have O8 := Lib.hid (show RKeys.own w F8 [.slice A0 n0 c0, .int .i64 k.keys.need] k.keys from h8)
  have O9 := Lib.hid (show RKeys.own w F9 [.slice A1 n1 c1, .int .i64 k.heirs.need] k.heirs from h9)
  have O11 := Lib.hid (show RKeys.own w F11 [.slice A2 n2 c2, .int .i64 k.judge.need] k.judge from h11)
  have D0 := Lib.hid h0
  have D1 := Lib.hid h1
  have D2 := Lib.hid h2
  have D3 := Lib.hid h3
  have D4 := Lib.hid h4
  have D5 := Lib.hid h5
  have D6 := Lib.hid h6
  have D7 := Lib.hid h7
  have D10 := Lib.hid h10
  have N8 := Lib.hid (show cntKeys k.keys ≤ 1099511627776 by omega)
  have N9 := Lib.hid (show cntKeys k.heirs ≤ 1099511627776 by omega)
  have N11 := Lib.hid (show cntKeys k.judge ≤ 1099511627776 by omega)
  have P8_9 := Lib.hid (show ∀ i, i ∈ F8 → i ∉ F9 from fun i g1 g2 => by
    rw [hFF] at hnd
    simp only [List.nodup_append, List.mem_append] at hnd
    grind)
  have P8_11 := Lib.hid (show ∀ i, i ∈ F8 → i ∉ F11 from fun i g1 g2 => by
    rw [hFF] at hnd
    simp only [List.nodup_append, List.mem_append] at hnd
    grind)
  have P9_8 := Lib.hid (show ∀ i, i ∈ F9 → i ∉ F8 from fun i g1 g2 => by
    rw [hFF] at hnd
    simp only [List.nodup_append, List.mem_append] at hnd
    grind)
  have P9_11 := Lib.hid (show ∀ i, i ∈ F9 → i ∉ F11 from fun i g1 g2 => by
    rw [hFF] at hnd
    simp only [List.nodup_append, List.mem_append] at hnd
    grind)
  have P11_8 := Lib.hid (show ∀ i, i ∈ F11 → i ∉ F8 from fun i g1 g2 => by
    rw [hFF] at hnd
    simp only [List.nodup_append, List.mem_append] at hnd
    grind)
  have P11_9 := Lib.hid (show ∀ i, i ∈ F11 → i ∉ F9 from fun i g1 g2 => by
    rw [hFF] at hnd
    simp only [List.nodup_append, List.mem_append] at hnd
    grind)
  have Z8 := Lib.hid (show F8.Nodup by rw [hFF] at hnd; simp only [List.nodup_append] at hnd; grind)
  have Z9 := Lib.hid (show F9.Nodup by rw [hFF] at hnd; simp only [List.nodup_append] at hnd; grind)
  have Z11 := Lib.hid (show F11.Nodup by rw [hFF] at hnd; simp only [List.nodup_append] at hnd; grind)
  have HFF := Lib.hid hFF
  clear h hnd hn hFF h0 h1 h2 h3 h4 h5 h6 h7 h8 h9 h10 h11
  obtain ⟨r8, hr8⟩ : ∃ r : Nat, r = cntKeys k.keys := ⟨_, rfl⟩
  obtain ⟨r9, hr9⟩ : ∃ r : Nat, r = cntKeys k.heirs := ⟨_, rfl⟩
  obtain ⟨r11, hr11⟩ : ∃ r : Nat, r = cntKeys k.judge := ⟨_, rfl⟩
  rw [show q + ((cntHead k : Nat) : Int) = q + (r8 : Int) + (r9 : Int) + (r11 : Int) by unfold cntHead; omega]
  have NR8 : r8 ≤ 1099511627776 := by have := N8.out; omega
  have NR9 : r9 ≤ 1099511627776 := by have := N9.out; omega
  have NR11 : r11 ≤ 1099511627776 := by have := N11.out; omega
  have M8 := Lib.hid (fun w1 h1 => markKeys_f F8 [.slice A0 n0 c0, .int .i64 k.keys.need] (k.keys) (q) w1 h1 Z8.out N8.out (by omega) (by omega))
  rw [← hr8] at M8
  have M9 := Lib.hid (fun w1 h1 => markKeys_f F9 [.slice A1 n1 c1, .int .i64 k.heirs.need] (k.heirs) (q + (r8 : Int)) w1 h1 Z9.out N9.out (by omega) (by omega))
  rw [← hr9] at M9
  have M11 := Lib.hid (fun w1 h1 => markKeys_f F11 [.slice A2 n2 c2, .int .i64 k.judge.need] (k.judge) (q + (r8 : Int) + (r9 : Int)) w1 h1 Z11.out N11.out (by omega) (by omega))
  rw [← hr11] at M11
  have HR8 := Lib.hid hr8
  clear hr8
  have HR9 := Lib.hid hr9
  clear hr9
  have HR11 := Lib.hid hr11
  clear hr11
  have HFR := Lib.hid (FrF.refl F w)
  have OO8 := O8
  have OO9 := O9
  go_enter Tryz.func28, Tryz.ntmps28
  go_wp2_with fail
  refine (M8.out _ (RKeys.okeep O8.out fun i _ hi => Below.heap_alloc w _ i hi)).mono ?_
  rintro e w0_ ⟨rfl, ho, hfr⟩
  replace O9 := Lib.hid (own_frf (RKeys.okeep O9.out fun i _ hi => Below.heap_alloc w _ i hi) hfr P9_8.out)
  replace O11 := Lib.hid (own_frf (RKeys.okeep O11.out fun i _ hi => Below.heap_alloc w _ i hi) hfr P11_8.out)
  replace O8 := Lib.hid ho
  replace HFR := Lib.hid ((FrF.of_below ((Below.refl w.heap.size w).alloc (Nat.le_refl _) _) F).trans (hfr.more (fun i hi => by rw [HFF.out]; simp [hi])))
  have hcc0 : ∀ o, w0_.cell? ⟨w.heap.size, o, none⟩ = (w.alloc _).cell? ⟨w.heap.size, o, none⟩ := fun o => World.cell?_of_block (a := ⟨w.heap.size, o, none⟩) (hfr.block w.heap.size (by first | (simp; done) | exact HSZ.out) (fun hi => by have := RKeys.olt OO8.out w.heap.size hi; omega))
  have HSZ := Lib.hid (show w.heap.size < w0_.heap.size from Nat.lt_of_lt_of_le (by first | (simp; done) | exact HSZ.out) hfr.size)
  clear ho hfr
  go_wp2_with fail
  refine (M9.out _ O9.out).mono ?_
  rintro e w1_ ⟨rfl, ho, hfr⟩
  replace O8 := Lib.hid (own_frf O8.out hfr P8_9.out)
  replace O11 := Lib.hid (own_frf O11.out hfr P11_9.out)
  replace O9 := Lib.hid ho
  replace HFR := Lib.hid (HFR.out.trans (hfr.more (fun i hi => by rw [HFF.out]; simp [hi])))
  have hcc1 : ∀ o, w1_.cell? ⟨w.heap.size, o, none⟩ = w0_.cell? ⟨w.heap.size, o, none⟩ := fun o => World.cell?_of_block (a := ⟨w.heap.size, o, none⟩) (hfr.block w.heap.size (by first | (simp; done) | exact HSZ.out) (fun hi => by have := RKeys.olt OO9.out w.heap.size hi; omega))
  have HSZ := Lib.hid (show w.heap.size < w1_.heap.size from Nat.lt_of_lt_of_le (by first | (simp; done) | exact HSZ.out) hfr.size)
  clear ho hfr
  go_wp2_with fail
  refine (M11.out _ O11.out).mono ?_
  rintro e w2_ ⟨rfl, ho, hfr⟩
  replace O8 := Lib.hid (own_frf O8.out hfr P8_11.out)
  replace O9 := Lib.hid (own_frf O9.out hfr P9_11.out)
  replace O11 := Lib.hid ho
  replace HFR := Lib.hid (HFR.out.trans (hfr.more (fun i hi => by rw [HFF.out]; simp [hi])))
  clear ho hfr
  go_wp2
  go_ret
  refine ⟨rfl, RHead_set.2 ⟨A0, n0, c0, A1, n1, c1, A2, n2, c2, F8, F9, F11, rfl, HFF.out, D0.out, D1.out, D2.out, D3.out, D4.out, D5.out, D6.out, D7.out, ?_, ?_, D10.out, ?_⟩, HFR.out⟩
  · have := O8.out
    unfold mkHead
    simp only
    exact this
  · have := O9.out
    unfold mkHead
    simp only
    rw [← HR8.out]
    exact this
  · have := O11.out
    unfold mkHead
    simp only
    rw [← HR8.out]
    rw [← HR9.out]
    exact this
theorem markHead_any (lo hi : Nat) (cs : List Value) (k : Head) (q : Int) (w : World) (h : OwnI RHead w lo hi cs k) (hh : hi ≤ w.heap.size) (hn : cntHead k ≤ 1099511627776) (hq0 : 0 ≤ q) (hq1 : q ≤ 576460752303423488) :
    Calls Tryz.prog 28 #[.agg cs.toArray, .int .i64 q] w fun e w' => e = .returned (.int .i64 (q + (cntHead k : Int))) ∧ OwnI RHead w' lo hi cs (mkHead k q) ∧ Fr lo hi w w' :=
  mark_int (fun F h1 h2 => markHead_f F cs k q w h1 h2 hn hq0 hq1) h
set_option maxHeartbeats 2000000 in
theorem heldHead_marks (B : Nat) (cs : List Value) (k : Head) (q : Int) (w : World) (h : RHead.rd w (Lt B) cs (mkHead k q)) (hB : B ≤ w.heap.size) (hn : cntHead k ≤ 1099511627776) (hq0 : 0 ≤ q) (hq1 : q ≤ 576460752303423488) :
    Calls Tryz.prog 29 #[.agg cs.toArray, .int .i64 q] w fun e w' => e = .returned (.int .i64 (q + (cntHead k : Int))) ∧ Below w.heap.size w w' := by
  obtain ⟨A0, n0, c0, A1, n1, c1, A2, n2, c2, rfl, h0, h1, h2, h3, h4, h5, h6, h7, h8, h9, h10, h11⟩ := RHead_flds (RHead.more h fun i hi => Nat.lt_of_lt_of_le hi hB)
  unfold cntHead at hn
  obtain ⟨r8, hr8⟩ : ∃ r : Nat, r = cntKeys k.keys := ⟨_, rfl⟩
  obtain ⟨r9, hr9⟩ : ∃ r : Nat, r = cntKeys k.heirs := ⟨_, rfl⟩
  obtain ⟨r11, hr11⟩ : ∃ r : Nat, r = cntKeys k.judge := ⟨_, rfl⟩
  rw [show q + ((cntHead k : Nat) : Int) = q + (r8 : Int) + (r9 : Int) + (r11 : Int) by unfold cntHead; omega]
  have D8 := Lib.hid (show RKeys.rd w (Lt w.heap.size) [.slice A0 n0 c0, .int .i64 (mkHead k q).keys.need] (mkKeys k.keys (q)) from by
    have h_ := h8
    unfold mkHead at h_
    try unfold mkHead
    try simp only at h_ ⊢
    exact h_)
  have V8 := Lib.hid (fun w1 (hb : Below w.heap.size w w1) => heldKeys_marks _ [.slice A0 n0 c0, .int .i64 (mkHead k q).keys.need] (k.keys) (q) w1 (rd_up D8.out hb) (Nat.le_refl _) (by omega) (by omega) (by omega))
  simp only [← hr8] at V8
  have D9 := Lib.hid (show RKeys.rd w (Lt w.heap.size) [.slice A1 n1 c1, .int .i64 (mkHead k q).heirs.need] (mkKeys k.heirs (q + (r8 : Int))) from by
    have h_ := h9
    unfold mkHead at h_
    try unfold mkHead
    try simp only at h_ ⊢
    rw [hr8]
    exact h_)
  have V9 := Lib.hid (fun w1 (hb : Below w.heap.size w w1) => heldKeys_marks _ [.slice A1 n1 c1, .int .i64 (mkHead k q).heirs.need] (k.heirs) (q + (r8 : Int)) w1 (rd_up D9.out hb) (Nat.le_refl _) (by omega) (by omega) (by omega))
  simp only [← hr9] at V9
  have D11 := Lib.hid (show RKeys.rd w (Lt w.heap.size) [.slice A2 n2 c2, .int .i64 (mkHead k q).judge.need] (mkKeys k.judge (q + (r8 : Int) + (r9 : Int))) from by
    have h_ := h11
    unfold mkHead at h_
    try unfold mkHead
    try simp only at h_ ⊢
    rw [hr8]
    rw [hr9]
    exact h_)
  have V11 := Lib.hid (fun w1 (hb : Below w.heap.size w w1) => heldKeys_marks _ [.slice A2 n2 c2, .int .i64 (mkHead k q).judge.need] (k.judge) (q + (r8 : Int) + (r9 : Int)) w1 (rd_up D11.out hb) (Nat.le_refl _) (by omega) (by omega) (by omega))
  simp only [← hr11] at V11
  have NR : r8 ≤ 1099511627776 ∧ r9 ≤ 1099511627776 ∧ r11 ≤ 1099511627776 := by omega
  clear h hn hB h0 h1 h2 h3 h4 h5 h6 h7 h8 h9 h10 h11 hr8 hr9 hr11
  have z0 : ¬ q + (r8 : Int) < 0 := by omega
  have z1 : ¬ q + (r8 : Int) + (r9 : Int) < 0 := by omega
  have z2 : ¬ q + (r8 : Int) + (r9 : Int) + (r11 : Int) < 0 := by omega
  generalize mkHead k q = kk at *
  have HBB := Lib.hid (Below.refl w.heap.size w)
  go_enter Tryz.func29, Tryz.ntmps29
  go_wp2_with fail
  refine (V8.out _ ?_).mono ?_
  · repeat' (first | exact HBB.out | exact Below.refl _ _ | refine Below.setCell ?_ ?_ _ | refine Below.alloc ?_ ?_ _)
    all_goals first | (simp; done) | (simp; omega) | omega
  rintro e w0_ ⟨rfl, hb⟩
  have hb2 : Below w.heap.size w w0_ := by
    refine Below.trans ?_ (Below.mono hb ?_)
    repeat' (first | exact HBB.out | exact Below.refl _ _ | refine Below.setCell ?_ ?_ _ | refine Below.alloc ?_ ?_ _)
    all_goals first | (simp; done) | (simp; omega) | omega
  replace HBB := Lib.hid hb2
  obtain ⟨hc0, hf0⟩ := bcell hb
  have hlt0 : w.heap.size < w0_.heap.size := by have := hb.size; (try simp at this); omega
  clear hb hb2
  go_wp2_with fail
  refine (V9.out _ ?_).mono ?_
  · repeat' (first | exact HBB.out | exact Below.refl _ _ | refine Below.setCell ?_ ?_ _ | refine Below.alloc ?_ ?_ _)
    all_goals first | (simp; done) | (simp; omega) | omega
  rintro e w1_ ⟨rfl, hb⟩
  have hb2 : Below w.heap.size w w1_ := by
    refine Below.trans ?_ (Below.mono hb ?_)
    repeat' (first | exact HBB.out | exact Below.refl _ _ | refine Below.setCell ?_ ?_ _ | refine Below.alloc ?_ ?_ _)
    all_goals first | (simp; done) | (simp; omega) | omega
  replace HBB := Lib.hid hb2
  obtain ⟨hc1, hf1⟩ := bcell hb
  have hlt1 : w.heap.size < w1_.heap.size := by have := hb.size; (try simp at this); omega
  clear hb hb2
  go_wp2_with fail
  refine (V11.out _ ?_).mono ?_
  · repeat' (first | exact HBB.out | exact Below.refl _ _ | refine Below.setCell ?_ ?_ _ | refine Below.alloc ?_ ?_ _)
    all_goals first | (simp; done) | (simp; omega) | omega
  rintro e w2_ ⟨rfl, hb⟩
  have hb2 : Below w.heap.size w w2_ := by
    refine Below.trans ?_ (Below.mono hb ?_)
    repeat' (first | exact HBB.out | exact Below.refl _ _ | refine Below.setCell ?_ ?_ _ | refine Below.alloc ?_ ?_ _)
    all_goals first | (simp; done) | (simp; omega) | omega
  replace HBB := Lib.hid hb2
  obtain ⟨hc2, hf2⟩ := bcell hb
  have hlt2 : w.heap.size < w2_.heap.size := by have := hb.size; (try simp at this); omega
  clear hb hb2
  go_wp2
  go_ret
  refine ⟨rfl, ?_⟩
  repeat' (first | exact HBB.out | exact Below.refl _ _ | refine Below.setCell ?_ ?_ _ | refine Below.alloc ?_ ?_ _)
  all_goals first | (simp; done) | (simp; omega) | omega
end Go.Proofs.YthhmhcmlbpdlbaaGreat.T13
