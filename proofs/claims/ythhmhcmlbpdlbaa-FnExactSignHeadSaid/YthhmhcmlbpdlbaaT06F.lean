/- Sets of keys, by the blocks that they own: marks. -/
import Derived.Test.YthhmhcmlbpdlbaaT06
import Derived.Test.YthhmhcmlbpdlbaaTW
namespace Go.Proofs.Ythhmhcmlbpdlbaa.T06F
open Go.RowKit Mem MemS Rep RepA T01 R06 T06
open TW hiding RLI
set_option linter.unusedVariables false
set_option maxRecDepth 100000
theorem RKeys_set {w : World} {F : List Nat} {cs : List Value} {k : Keys} : RKeys.own w F cs k ↔ ∃ A0 n0 c0 F0, cs = [.slice A0 n0 c0, .int .i64 k.need] ∧ F = F0 ∧ OwnF RI w F0 A0 n0 c0 k.list ∧ In .i64 k.need := by
  constructor
  · rintro ⟨F0, G0, d0, e0, rfl, rfl, ⟨A0, n0, c0, rfl, h0⟩, ⟨rfl, rfl, h1⟩⟩
    exact ⟨A0, n0, c0, _, rfl, by simp, h0, h1⟩
  · rintro ⟨A0, n0, c0, F0, rfl, rfl, h0, h1⟩
    refine ⟨F, [], _, _, ?_, rfl, ⟨A0, n0, c0, rfl, h0⟩, ⟨rfl, rfl, h1⟩⟩ <;> simp
set_option maxHeartbeats 2000000 in
theorem markKeys_f (F : List Nat) (cs : List Value) (k : Keys) (q : Int) (w : World) (h : RKeys.own w F cs k) (hnd : F.Nodup) (hn : cntKeys k ≤ 1099511627776) (hq0 : 0 ≤ q) (hq1 : q ≤ 1152921504606846976) :
    Calls Try.prog 22 #[.agg cs.toArray, .int .i64 q] w fun e w' => e = .returned (.int .i64 (q + (cntKeys k : Int))) ∧ RKeys.own w' F cs (mkKeys k q) ∧ FrF F w w' := by
  obtain ⟨A0, n0, c0, F0, rfl, hFF, h0, h1⟩ := RKeys_set.1 h
  unfold cntKeys at hn
  have O0 := Lib.hid (show RLI.own w F0 [.slice A0 n0 c0] k.list from ⟨A0, n0, c0, rfl, h0⟩)
  have D1 := Lib.hid h1
  have N0 := Lib.hid (show k.list.length ≤ 1099511627776 by omega)
  have Z0 := Lib.hid (show F0.Nodup by rw [hFF] at hnd; exact hnd)
  have HFF := Lib.hid hFF
  clear h hnd hn hFF h0 h1
  obtain ⟨r0, hr0⟩ : ∃ r : Nat, r = k.list.length := ⟨_, rfl⟩
  rw [show q + ((cntKeys k : Nat) : Int) = q + (r0 : Int) by unfold cntKeys; omega]
  have NR0 : r0 ≤ 1099511627776 := by have := N0.out; omega
  have M0 := Lib.hid (fun w1 h1 => u_markI F0 A0 n0 c0 (k.list) (q) w1 h1 N0.out (by omega) (by omega))
  simp only [← hr0] at M0
  have HR0 := Lib.hid hr0
  clear hr0
  have HFR := Lib.hid (FrF.refl F w)
  go_enter Try.func22, Try.ntmps22
  go_wp2_with fail
  refine (M0.out _ (RLI.okeep O0.out fun i _ hi => Below.heap_alloc w _ i hi)).mono ?_
  rintro e w0_ ⟨rfl, ho, hfr⟩
  replace O0 := Lib.hid ho
  replace HFR := Lib.hid ((FrF.of_below ((Below.refl w.heap.size w).alloc (Nat.le_refl _) _) F).trans (hfr.more (fun i hi => by rw [HFF.out]; simp [hi])))
  clear ho hfr
  go_wp2
  go_ret
  refine ⟨rfl, RKeys_set.2 ⟨A0, n0, c0, F0, rfl, HFF.out, ?_, D1.out⟩, HFR.out⟩
  · have := O0.out
    obtain ⟨A_, n_, c_, e_, h_⟩ := this
    injection e_ with e_
    injection e_ with e1 e2 e3
    subst e1 e2 e3
    unfold mkKeys
    simp only
    rw [← HR0.out]
    exact h_
end Go.Proofs.Ythhmhcmlbpdlbaa.T06F
