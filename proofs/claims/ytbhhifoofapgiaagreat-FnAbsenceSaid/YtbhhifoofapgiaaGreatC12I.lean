/- Chapter 12: proofs of absence: what the program's functions return. -/
import Derived.Test.YtbhhifoofapgiaaGreatM12
import Derived.Test.YtbhhifoofapgiaaGreatC11I
import Derived.Test.YtbhhifoofapgiaaGreatC09I
import Derived.Test.YtbhhifoofapgiaaGreatC08I
import Derived.Test.YtbhhifoofapgiaaGreatR12
import Derived.Deep.RegionHeld3
namespace Go.Proofs.YtbhhifoofapgiaaGreat.C12I
open Go.RowKit Mem MemS M02 M03 M04 M05 M08 M09 M10 M10F M11 M12P M12 C01 C02 C03S C03H C03D C04I C05S C08I C09I C10I C11I Rep RW RG RGS R08 Q08 R11 R12 RKA
set_option linter.unusedVariables false
set_option maxRecDepth 100000
theorem upE {w w' : World} {cs : List Value} {k : Entry} (h : REntry.rd w (Lt w.heap.size) cs k) (hb : Below w.heap.size w w') : REntry.rd w' (Lt w'.heap.size) cs k := REntry.more (REntry.keep h fun i hi => hb.block i hi) fun i hi => Nat.lt_of_lt_of_le hi hb.size
theorem upP {w w' : World} {cs : List Value} {k : Proof} (h : RProof.rd w (Lt w.heap.size) cs k) (hb : Below w.heap.size w w') : RProof.rd w' (Lt w'.heap.size) cs k := RProof.more (RProof.keep h fun i hi => hb.block i hi) fun i hi => Nat.lt_of_lt_of_le hi hb.size
theorem zero_rd (w : World) : REntry.rd w (Lt w.heap.size) [.string ⟨#[]⟩, .int .i64 0, .int .i64 0, .slice none 0 0] ⟨⟨#[]⟩, 0, 0, []⟩ :=
  REntry_rd.2 ⟨none, 0, 0, rfl, Nat.zero_le _, (show In .i64 0 from inI64 (by omega) (by omega)), (show In .i64 0 from inI64 (by omega) (by omega)), Nat.le_refl _, by unfold maxLen; omega, ⟨rfl, by simp, fun h => absurd h (by omega)⟩⟩
theorem zero_rdP (w : World) : RProof.rd w (Lt w.heap.size) [.int .i64 0, .slice none 0 0] ⟨0, []⟩ :=
  RProof_rd.2 ⟨none, 0, 0, rfl, (show In .i64 0 from inI64 (by omega) (by omega)), Nat.le_refl _, by unfold maxLen; omega, Rd.nil _ _ _ _⟩
theorem cap_up {w w' : World} {b : Nat} {x : Value} (h : w.cell? ⟨b, 0, none⟩ = some x ∧ b < w.heap.size) (hb : Below w.heap.size w w') : w'.cell? ⟨b, 0, none⟩ = some x ∧ b < w'.heap.size := ⟨(hb.cell (p := ⟨b, 0, none⟩) h.2).trans h.1, Nat.lt_of_lt_of_le h.2 hb.size⟩
theorem iRankOf_any (A : Option Addr) (n c : Nat) (l : List Entry) (s : ByteArray) (w : World) (h : FRdEntry w w.heap.size A n l) (hn : n ≤ 1099511627776) :
    Calls Tryz.prog 11 #[.slice A n c, .string s] w fun e w' => e = .returned (.int .i64 (rankN l s)) ∧ Below w.heap.size w w' := by
  have HL := Lib.hid h.len
  have HR := Lib.hid h
  clear h
  go_enter Tryz.func11, Tryz.ntmps11
  go_wp2
  go_loopw [5, 10] (fun r i wr => ∃ j : Nat, j ≤ n ∧ i = .int .i64 j ∧ r = .int .i64 (rankN (l.take j) s) ∧ Below w.heap.size w wr) (fun _ i _ => n - (intOf i).toNat)
  case atStart => exact ⟨0, by omega, rfl, rfl, Below.refl _ _⟩
  case round =>
    obtain ⟨j, hj, rfl, rfl, hbel⟩ := hrel
    have HX := Lib.hid hbel
    clear hbel
    by_cases hjn : j < n
    · obtain ⟨b, off, cs, rfl, hlt, hrd, hcc⟩ := (HR.out.below HX.out (Nat.le_refl _)).at hjn
      obtain ⟨z, hz⟩ : ∃ z, z = at0 l j := ⟨_, rfl⟩
      have hst := rank_succ (s := s) (show j < l.length by rw [HL.out]; exact hjn)
      rw [← hz] at hst
      rw [show l.getD j default = z from hz.symm] at hrd
      obtain ⟨A3, n3, c3, rfl, g0, g1, g2, p3, q3, s3⟩ := REntry_rd.1 hrd
      have d0 : wr.cell? ⟨b, off + j * 4, none⟩ = some (.string z.label) := hcc 0 (by decide)
      have d1 : wr.cell? ⟨b, off + j * 4 + 1, none⟩ = some (.int .i64 z.kind) := hcc 1 (by decide)
      have d2 : wr.cell? ⟨b, off + j * 4 + 2, none⟩ = some (.int .i64 z.value) := hcc 2 (by decide)
      have d3 : wr.cell? ⟨b, off + j * 4 + 3, none⟩ = some (.slice A3 n3 c3) := hcc 3 (by decide)
      have hrk := rank_le (l.take j) s
      rw [List.length_take] at hrk
      have HC := Lib.hid (fun w1 => iCompareLabels_any z.label s w1)
      have HXA := Lib.hid (HX.out.alloc HX.out.size (.cells #[.string z.label, .int .i64 z.kind, .int .i64 z.value, .slice A3 n3 c3] 29))
      generalize cmpS z.label s = cm at hst HC
      have HS := Lib.hid hst
      clear hcc hrd g0 g1 g2 p3 q3 s3 hz hlt hst
      obtain ⟨z0, z1, z2, z3⟩ := z
      simp only at d0 d1 d2 HC HXA
      generalize rankN (l.take j) s = r at HS hrk
      by_cases hm : cm < 0
      all_goals
        go_wp2_with fail
        refine (HC.out _).mono ?_
        rintro e w1 ⟨rfl, rfl⟩
        go_wp2
        go_roundw
        case rel => exact ⟨j + 1, by omega, by go_num, by rw [HS.out]; first | (rw [if_pos (by omega)]; go_num) | (rw [if_neg (by omega)]; rfl), HXA.out⟩
        case measure => simp [intOf]; omega
    · have HF := Lib.hid (show l.take j = l from List.take_of_length_le (by have := HL.out; omega))
      go_wp2
      go_ret
      exact ⟨by rw [HF.out]; rfl, HX.out⟩
set_option maxHeartbeats 1000000 in
theorem iequals_any (al0 : ByteArray) (ak0 av0 : Int) (aA0 : Option Addr) (an0 ac0 : Nat) (ap0 : List ByteArray) (aq2 : Int) (aA2 : Option Addr) (an2 ac2 : Nat) (ap2 : List Int) (bl0 : ByteArray) (bk0 bv0 : Int) (bA0 : Option Addr) (bn0 bc0 : Nat) (bp0 : List ByteArray) (bq2 : Int) (bA2 : Option Addr) (bn2 bc2 : Nat) (bp2 : List Int) (w : World) (ha0 : REntry.rd w (Lt w.heap.size) [.string al0, .int .i64 ak0, .int .i64 av0, .slice aA0 an0 ac0] ⟨al0, ak0, av0, ap0⟩) (ha2 : RProof.rd w (Lt w.heap.size) [.int .i64 aq2, .slice aA2 an2 ac2] ⟨aq2, ap2⟩) (hb0 : REntry.rd w (Lt w.heap.size) [.string bl0, .int .i64 bk0, .int .i64 bv0, .slice bA0 bn0 bc0] ⟨bl0, bk0, bv0, bp0⟩) (hb2 : RProof.rd w (Lt w.heap.size) [.int .i64 bq2, .slice bA2 bn2 bc2] ⟨bq2, bp2⟩) (n0 : totEntry ⟨al0, ak0, av0, ap0⟩ ≤ 1048576) (m0 : totEntry ⟨bl0, bk0, bv0, bp0⟩ ≤ 1048576) (n2 : totProof ⟨aq2, ap2⟩ ≤ 1048576) :
    Calls Tryz.prog 28 #[.agg #[.string al0, .int .i64 ak0, .int .i64 av0, .slice aA0 an0 ac0, .int .i64 aq2, .slice aA2 an2 ac2], .agg #[.string bl0, .int .i64 bk0, .int .i64 bv0, .slice bA0 bn0 bc0, .int .i64 bq2, .slice bA2 bn2 bc2]] w fun e w' => e = .returned (.bool (eqEntryB ⟨al0, ak0, av0, ap0⟩ ⟨bl0, bk0, bv0, bp0⟩ && eqP ⟨aq2, ap2⟩ ⟨bq2, bp2⟩)) ∧ Below w.heap.size w w' := by
  have HQE := Lib.hid (fun w1 (hb : Below w.heap.size w w1) => iEqualEntries_any _ _ _ _ w1 (upE ha0 hb) (upE hb0 hb) (by omega) (by omega))
  have HQP := Lib.hid (fun w1 (hb : Below w.heap.size w w1) => iEqualProofs_any _ _ _ _ w1 (upP ha2 hb) (upP hb2 hb) n2)
  generalize eqEntryB ⟨al0, ak0, av0, ap0⟩ ⟨bl0, bk0, bv0, bp0⟩ = be at HQE ⊢
  generalize eqP ⟨aq2, ap2⟩ ⟨bq2, bp2⟩ = bp at HQP ⊢
  clear ha0 ha2 hb0 hb2 n0 m0 n2
  obtain ⟨V, hV⟩ : ∃ V, V = (w.alloc (.cells #[.string al0, .int .i64 ak0, .int .i64 av0, .slice aA0 an0 ac0, .int .i64 aq2, .slice aA2 an2 ac2] 47)).alloc (.cells #[.string bl0, .int .i64 bk0, .int .i64 bv0, .slice bA0 bn0 bc0, .int .i64 bq2, .slice bA2 bn2 bc2] 47) := ⟨_, rfl⟩
  have HB_1 := Lib.hid (show Below w.heap.size w V from by
    rw [hV]
    exact ((Below.refl _ _).alloc (by simp) _).alloc (by simp) _)
  have HX_1 := Lib.hid (show Box V w.heap.size [.string al0, .int .i64 ak0, .int .i64 av0, .slice aA0 an0 ac0, .int .i64 aq2, .slice aA2 an2 ac2] from by
    rw [hV]
    have := ((Box.new w #[.string al0, .int .i64 ak0, .int .i64 av0, .slice aA0 an0 ac0, .int .i64 aq2, .slice aA2 an2 ac2] 47).alloc (.cells #[.string bl0, .int .i64 bk0, .int .i64 bv0, .slice bA0 bn0 bc0, .int .i64 bq2, .slice bA2 bn2 bc2] 47))
    simpa using this)
  have HY_1 := Lib.hid (show Box V (w.heap.size + 1) [.string bl0, .int .i64 bk0, .int .i64 bv0, .slice bA0 bn0 bc0, .int .i64 bq2, .slice bA2 bn2 bc2] from by
    rw [hV]
    have := (Box.new (w.alloc (.cells #[.string al0, .int .i64 ak0, .int .i64 av0, .slice aA0 an0 ac0, .int .i64 aq2, .slice aA2 an2 ac2] 47)) #[.string bl0, .int .i64 bk0, .int .i64 bv0, .slice bA0 bn0 bc0, .int .i64 bq2, .slice bA2 bn2 bc2] 47)
    simpa using this)
  have HV := Lib.hid hV
  clear hV
  go_enter Tryz.func28, Tryz.ntmps28
  go_wp2_with fail
  rw [show (w.alloc (.cells #[.string al0, .int .i64 ak0, .int .i64 av0, .slice aA0 an0 ac0, .int .i64 aq2, .slice aA2 an2 ac2] 47)).alloc (.cells #[.string bl0, .int .i64 bk0, .int .i64 bv0, .slice bA0 bn0 bc0, .int .i64 bq2, .slice bA2 bn2 bc2] 47) = V from HV.out.symm]
  refine (HQE.out _ HB_1.out).mono ?_
  rintro e w1 ⟨rfl, hb⟩
  have HB_2 := Lib.hid (HB_1.out.trans (hb.mono HB_1.out.size))
  have HX_2 := Lib.hid (HX_1.out.below hb HX_1.out.lt)
  have HY_2 := Lib.hid (HY_1.out.below hb HY_1.out.lt)
  clear hb
  rcases be with _ | _
  · skip
    go_wp2
    go_ret
    exact ⟨by first | rfl | (simp; done) | (simp [*]; done), HB_2.out⟩
  · skip
    have zX0 := HX_2.out.cell (j := 0) rfl
    have zX1 := HX_2.out.cell (j := 1) rfl
    have zX2 := HX_2.out.cell (j := 2) rfl
    have zX3 := HX_2.out.cell (j := 3) rfl
    have zX4 := HX_2.out.cell (j := 4) rfl
    have zX5 := HX_2.out.cell (j := 5) rfl
    have zY0 := HY_2.out.cell (j := 0) rfl
    have zY1 := HY_2.out.cell (j := 1) rfl
    have zY2 := HY_2.out.cell (j := 2) rfl
    have zY3 := HY_2.out.cell (j := 3) rfl
    have zY4 := HY_2.out.cell (j := 4) rfl
    have zY5 := HY_2.out.cell (j := 5) rfl
    go_wp2_with fail
    clear zX0 zX1 zX2 zX3 zX4 zX5 zY0 zY1 zY2 zY3 zY4 zY5
    refine (HQP.out _ HB_2.out).mono ?_
    rintro e w2 ⟨rfl, hb⟩
    have HB_3 := Lib.hid (HB_2.out.trans (hb.mono HB_2.out.size))
    have HX_3 := Lib.hid (HX_2.out.below hb HX_2.out.lt)
    have HY_3 := Lib.hid (HY_2.out.below hb HY_2.out.lt)
    clear hb
    go_wp2
    go_ret
    exact ⟨by first | rfl | (simp; done) | (simp [*]; done), HB_3.out⟩
set_option maxHeartbeats 1000000 in
theorem isidesOf_any (aat aq2 aq3 ak0 av0 ak1 av1 : Int) (al0 al1 : ByteArray) (aA0 : Option Addr) (an0 ac0 : Nat) (aA1 : Option Addr) (an1 ac1 : Nat) (aA2 : Option Addr) (an2 ac2 : Nat) (aA3 : Option Addr) (an3 ac3 : Nat) (w : World) :
    Calls Tryz.prog 27 #[.agg #[.int .i64 aat, .string al0, .int .i64 ak0, .int .i64 av0, .slice aA0 an0 ac0, .string al1, .int .i64 ak1, .int .i64 av1, .slice aA1 an1 ac1, .int .i64 aq2, .slice aA2 an2 ac2, .int .i64 aq3, .slice aA3 an3 ac3]] w fun e w' => e = .returned (.agg #[.string al0, .int .i64 ak0, .int .i64 av0, .slice aA0 an0 ac0, .int .i64 aq2, .slice aA2 an2 ac2, .string al1, .int .i64 ak1, .int .i64 av1, .slice aA1 an1 ac1, .int .i64 aq3, .slice aA3 an3 ac3]) ∧ Below w.heap.size w w' := by
  go_enter Tryz.func27, Tryz.ntmps27
  go_wp2
  refine bodyPost_ret (v := .agg #[.string al0, .int .i64 ak0, .int .i64 av0, .slice aA0 an0 ac0, .int .i64 aq2, .slice aA2 an2 ac2, .string al1, .int .i64 ak1, .int .i64 av1, .slice aA1 an1 ac1, .int .i64 aq3, .slice aA3 an3 ac3]) (by simp [results, Tryz.results27, go_sem]) rfl ⟨rfl, ?_⟩
  repeat' refine Below.setCell ?_ ?_ _
  all_goals first | exact (Below.refl _ _).alloc (by simp) _ | exact ((Below.refl _ _).alloc (by simp) _).alloc (by simp) _ | (simp; done) | (simp; omega)
set_option maxHeartbeats 2000000 in
theorem ibothN_any (aq2 aq3 ak0 av0 ak1 av1 : Int) (al0 al1 : ByteArray) (aA0 : Option Addr) (an0 ac0 : Nat) (aA1 : Option Addr) (an1 ac1 : Nat) (aA2 : Option Addr) (an2 ac2 : Nat) (aA3 : Option Addr) (an3 ac3 : Nat) (bq2 bq3 bk0 bv0 bk1 bv1 : Int) (bl0 bl1 : ByteArray) (bA0 : Option Addr) (bn0 bc0 : Nat) (bA1 : Option Addr) (bn1 bc1 : Nat) (bA2 : Option Addr) (bn2 bc2 : Nat) (bA3 : Option Addr) (bn3 bc3 : Nat) (b0 b1 : Bool) (w : World) (H0 : ∀ w1, Below w.heap.size w w1 → Calls Tryz.prog 28 #[.agg #[.string al0, .int .i64 ak0, .int .i64 av0, .slice aA0 an0 ac0, .int .i64 aq2, .slice aA2 an2 ac2], .agg #[.string bl0, .int .i64 bk0, .int .i64 bv0, .slice bA0 bn0 bc0, .int .i64 bq2, .slice bA2 bn2 bc2]] w1 fun e w2 => e = .returned (.bool b0) ∧ Below w1.heap.size w1 w2) (H1 : ∀ w1, Below w.heap.size w w1 → Calls Tryz.prog 28 #[.agg #[.string al1, .int .i64 ak1, .int .i64 av1, .slice aA1 an1 ac1, .int .i64 aq3, .slice aA3 an3 ac3], .agg #[.string bl1, .int .i64 bk1, .int .i64 bv1, .slice bA1 bn1 bc1, .int .i64 bq3, .slice bA3 bn3 bc3]] w1 fun e w2 => e = .returned (.bool b1) ∧ Below w1.heap.size w1 w2) :
    Calls Tryz.prog 26 #[.agg #[.string al0, .int .i64 ak0, .int .i64 av0, .slice aA0 an0 ac0, .int .i64 aq2, .slice aA2 an2 ac2, .string al1, .int .i64 ak1, .int .i64 av1, .slice aA1 an1 ac1, .int .i64 aq3, .slice aA3 an3 ac3], .agg #[.string bl0, .int .i64 bk0, .int .i64 bv0, .slice bA0 bn0 bc0, .int .i64 bq2, .slice bA2 bn2 bc2, .string bl1, .int .i64 bk1, .int .i64 bv1, .slice bA1 bn1 bc1, .int .i64 bq3, .slice bA3 bn3 bc3], .func (.func 28) #[] #[]] w fun e w' => e = .returned (.bool (b0 && b1)) ∧ Below w.heap.size w w' := by
  have HA := Lib.hid H0
  have HC := Lib.hid H1
  clear H0 H1
  obtain ⟨V, hV⟩ : ∃ V, V = (w.alloc (.cells #[.string al0, .int .i64 ak0, .int .i64 av0, .slice aA0 an0 ac0, .int .i64 aq2, .slice aA2 an2 ac2, .string al1, .int .i64 ak1, .int .i64 av1, .slice aA1 an1 ac1, .int .i64 aq3, .slice aA3 an3 ac3] 50)).alloc (.cells #[.string bl0, .int .i64 bk0, .int .i64 bv0, .slice bA0 bn0 bc0, .int .i64 bq2, .slice bA2 bn2 bc2, .string bl1, .int .i64 bk1, .int .i64 bv1, .slice bA1 bn1 bc1, .int .i64 bq3, .slice bA3 bn3 bc3] 50) := ⟨_, rfl⟩
  have HB_1 := Lib.hid (show Below w.heap.size w V from by
    rw [hV]
    exact ((Below.refl _ _).alloc (by simp) _).alloc (by simp) _)
  have HX_1 := Lib.hid (show Box V w.heap.size [.string al0, .int .i64 ak0, .int .i64 av0, .slice aA0 an0 ac0, .int .i64 aq2, .slice aA2 an2 ac2, .string al1, .int .i64 ak1, .int .i64 av1, .slice aA1 an1 ac1, .int .i64 aq3, .slice aA3 an3 ac3] from by
    rw [hV]
    have := ((Box.new w #[.string al0, .int .i64 ak0, .int .i64 av0, .slice aA0 an0 ac0, .int .i64 aq2, .slice aA2 an2 ac2, .string al1, .int .i64 ak1, .int .i64 av1, .slice aA1 an1 ac1, .int .i64 aq3, .slice aA3 an3 ac3] 50).alloc (.cells #[.string bl0, .int .i64 bk0, .int .i64 bv0, .slice bA0 bn0 bc0, .int .i64 bq2, .slice bA2 bn2 bc2, .string bl1, .int .i64 bk1, .int .i64 bv1, .slice bA1 bn1 bc1, .int .i64 bq3, .slice bA3 bn3 bc3] 50))
    simpa using this)
  have HY_1 := Lib.hid (show Box V (w.heap.size + 1) [.string bl0, .int .i64 bk0, .int .i64 bv0, .slice bA0 bn0 bc0, .int .i64 bq2, .slice bA2 bn2 bc2, .string bl1, .int .i64 bk1, .int .i64 bv1, .slice bA1 bn1 bc1, .int .i64 bq3, .slice bA3 bn3 bc3] from by
    rw [hV]
    have := (Box.new (w.alloc (.cells #[.string al0, .int .i64 ak0, .int .i64 av0, .slice aA0 an0 ac0, .int .i64 aq2, .slice aA2 an2 ac2, .string al1, .int .i64 ak1, .int .i64 av1, .slice aA1 an1 ac1, .int .i64 aq3, .slice aA3 an3 ac3] 50)) #[.string bl0, .int .i64 bk0, .int .i64 bv0, .slice bA0 bn0 bc0, .int .i64 bq2, .slice bA2 bn2 bc2, .string bl1, .int .i64 bk1, .int .i64 bv1, .slice bA1 bn1 bc1, .int .i64 bq3, .slice bA3 bn3 bc3] 50)
    simpa using this)
  have HV := Lib.hid hV
  clear hV
  go_enter Tryz.func26, Tryz.ntmps26
  go_wp2_with fail
  rw [show (w.alloc (.cells #[.string al0, .int .i64 ak0, .int .i64 av0, .slice aA0 an0 ac0, .int .i64 aq2, .slice aA2 an2 ac2, .string al1, .int .i64 ak1, .int .i64 av1, .slice aA1 an1 ac1, .int .i64 aq3, .slice aA3 an3 ac3] 50)).alloc (.cells #[.string bl0, .int .i64 bk0, .int .i64 bv0, .slice bA0 bn0 bc0, .int .i64 bq2, .slice bA2 bn2 bc2, .string bl1, .int .i64 bk1, .int .i64 bv1, .slice bA1 bn1 bc1, .int .i64 bq3, .slice bA3 bn3 bc3] 50) = V from HV.out.symm]
  refine (HA.out _ HB_1.out).mono ?_
  rintro e w1 ⟨rfl, hb⟩
  have HB_2 := Lib.hid (HB_1.out.trans (hb.mono HB_1.out.size))
  have HX_2 := Lib.hid (HX_1.out.below hb HX_1.out.lt)
  have HY_2 := Lib.hid (HY_1.out.below hb HY_1.out.lt)
  clear hb
  rcases b0 with _ | _
  · skip
    go_wp2
    go_ret
    exact ⟨by first | rfl | (simp; done) | (simp [*]; done), HB_2.out⟩
  · skip
    have zX0 := HX_2.out.cell (j := 0) rfl
    have zX1 := HX_2.out.cell (j := 1) rfl
    have zX2 := HX_2.out.cell (j := 2) rfl
    have zX3 := HX_2.out.cell (j := 3) rfl
    have zX4 := HX_2.out.cell (j := 4) rfl
    have zX5 := HX_2.out.cell (j := 5) rfl
    have zX6 := HX_2.out.cell (j := 6) rfl
    have zX7 := HX_2.out.cell (j := 7) rfl
    have zX8 := HX_2.out.cell (j := 8) rfl
    have zX9 := HX_2.out.cell (j := 9) rfl
    have zX10 := HX_2.out.cell (j := 10) rfl
    have zX11 := HX_2.out.cell (j := 11) rfl
    have zY0 := HY_2.out.cell (j := 0) rfl
    have zY1 := HY_2.out.cell (j := 1) rfl
    have zY2 := HY_2.out.cell (j := 2) rfl
    have zY3 := HY_2.out.cell (j := 3) rfl
    have zY4 := HY_2.out.cell (j := 4) rfl
    have zY5 := HY_2.out.cell (j := 5) rfl
    have zY6 := HY_2.out.cell (j := 6) rfl
    have zY7 := HY_2.out.cell (j := 7) rfl
    have zY8 := HY_2.out.cell (j := 8) rfl
    have zY9 := HY_2.out.cell (j := 9) rfl
    have zY10 := HY_2.out.cell (j := 10) rfl
    have zY11 := HY_2.out.cell (j := 11) rfl
    go_wp2_with fail
    clear zX0 zX1 zX2 zX3 zX4 zX5 zX6 zX7 zX8 zX9 zX10 zX11 zY0 zY1 zY2 zY3 zY4 zY5 zY6 zY7 zY8 zY9 zY10 zY11
    refine (HC.out _ HB_2.out).mono ?_
    rintro e w2 ⟨rfl, hb⟩
    have HB_3 := Lib.hid (HB_2.out.trans (hb.mono HB_2.out.size))
    have HX_3 := Lib.hid (HX_2.out.below hb HX_2.out.lt)
    have HY_3 := Lib.hid (HY_2.out.below hb HY_2.out.lt)
    clear hb
    go_wp2
    go_ret
    exact ⟨by first | rfl | (simp; done) | (simp [*]; done), HB_3.out⟩
set_option maxHeartbeats 8000000 in
theorem iEqualGaps_any (cs cs' : List Value) (a b : Gap) (w : World) (h : RGap.rd w (Lt w.heap.size) cs a) (h' : RGap.rd w (Lt w.heap.size) cs' b) (hn : totGap a ≤ 1048576) (hm : totGap b ≤ 1048576) :
    Calls Tryz.prog 8 #[.agg cs.toArray, .agg cs'.toArray] w fun e w' => e = .returned (.bool (eqG a b)) ∧ Below w.heap.size w w' := by
  obtain ⟨aA0, an0, ac0, aA1, an1, ac1, aA2, an2, ac2, aA3, an3, ac3, hacs, ai, ah0, ah1, ah2, ah3⟩ := RGap_rd.1 h
  obtain ⟨bA0, bn0, bc0, bA1, bn1, bc1, bA2, bn2, bc2, bA3, bn3, bc3, hbcs, bi, bh0, bh1, bh2, bh3⟩ := RGap_rd.1 h'
  unfold totGap at hn hm
  unfold eqG
  subst hacs hbcs
  clear h h' ai bi
  obtain ⟨aat, ⟨al0, ak0, av0, ap0⟩, ⟨al1, ak1, av1, ap1⟩, ⟨aq2, ap2⟩, ⟨aq3, ap3⟩⟩ := a
  obtain ⟨bat, ⟨bl0, bk0, bv0, bp0⟩, ⟨bl1, bk1, bv1, bp1⟩, ⟨bq2, bp2⟩, ⟨bq3, bp3⟩⟩ := b
  simp only at ah0 ah1 ah2 ah3 bh0 bh1 bh2 bh3 hn hm ⊢
  have HQ0 := Lib.hid (fun w1 (hb : Below w.heap.size w w1) => iequals_any al0 ak0 av0 aA0 an0 ac0 ap0 aq2 aA2 an2 ac2 ap2 bl0 bk0 bv0 bA0 bn0 bc0 bp0 bq2 bA2 bn2 bc2 bp2 w1 (upE ah0 hb) (upP ah2 hb) (upE bh0 hb) (upP bh2 hb) (by omega) (by omega) (by omega))
  have HQ1 := Lib.hid (fun w1 (hb : Below w.heap.size w w1) => iequals_any al1 ak1 av1 aA1 an1 ac1 ap1 aq3 aA3 an3 ac3 ap3 bl1 bk1 bv1 bA1 bn1 bc1 bp1 bq3 bA3 bn3 bc3 bp3 w1 (upE ah1 hb) (upP ah3 hb) (upE bh1 hb) (upP bh3 hb) (by omega) (by omega) (by omega))
  generalize eqEntryB ⟨al0, ak0, av0, ap0⟩ ⟨bl0, bk0, bv0, bp0⟩ = b0 at HQ0 ⊢
  generalize eqEntryB ⟨al1, ak1, av1, ap1⟩ ⟨bl1, bk1, bv1, bp1⟩ = b1 at HQ1 ⊢
  generalize eqP ⟨aq2, ap2⟩ ⟨bq2, bp2⟩ = b2 at HQ0 ⊢
  generalize eqP ⟨aq3, ap3⟩ ⟨bq3, bp3⟩ = b3 at HQ1 ⊢
  have HBN := Lib.hid (fun w1 (hb : Below w.heap.size w w1) => ibothN_any _ _ _ _ _ _ _ _ _ _ _ _ _ _ _ _ _ _ _ _ _ _ _ _ _ _ _ _ _ _ _ _ _ _ _ _ _ _ _ _ (b0 && b2) (b1 && b3) w1 (fun w2 hb2 => HQ0.out w2 (hb.trans (hb2.mono hb.size))) (fun w2 hb2 => HQ1.out w2 (hb.trans (hb2.mono hb.size))))
  clear HQ0 HQ1 ah0 ah1 ah2 ah3 bh0 bh1 bh2 bh3 hn hm
  obtain ⟨V, hV⟩ : ∃ V, V = (w.alloc (.cells #[.int .i64 aat, .string al0, .int .i64 ak0, .int .i64 av0, .slice aA0 an0 ac0, .string al1, .int .i64 ak1, .int .i64 av1, .slice aA1 an1 ac1, .int .i64 aq2, .slice aA2 an2 ac2, .int .i64 aq3, .slice aA3 an3 ac3] 34)).alloc (.cells #[.int .i64 bat, .string bl0, .int .i64 bk0, .int .i64 bv0, .slice bA0 bn0 bc0, .string bl1, .int .i64 bk1, .int .i64 bv1, .slice bA1 bn1 bc1, .int .i64 bq2, .slice bA2 bn2 bc2, .int .i64 bq3, .slice bA3 bn3 bc3] 34) := ⟨_, rfl⟩
  have HB_1 := Lib.hid (show Below w.heap.size w V from by
    rw [hV]
    exact ((Below.refl _ _).alloc (by simp) _).alloc (by simp) _)
  have HX_1 := Lib.hid (show Box V w.heap.size [.int .i64 aat, .string al0, .int .i64 ak0, .int .i64 av0, .slice aA0 an0 ac0, .string al1, .int .i64 ak1, .int .i64 av1, .slice aA1 an1 ac1, .int .i64 aq2, .slice aA2 an2 ac2, .int .i64 aq3, .slice aA3 an3 ac3] from by
    rw [hV]
    have := ((Box.new w #[.int .i64 aat, .string al0, .int .i64 ak0, .int .i64 av0, .slice aA0 an0 ac0, .string al1, .int .i64 ak1, .int .i64 av1, .slice aA1 an1 ac1, .int .i64 aq2, .slice aA2 an2 ac2, .int .i64 aq3, .slice aA3 an3 ac3] 34).alloc (.cells #[.int .i64 bat, .string bl0, .int .i64 bk0, .int .i64 bv0, .slice bA0 bn0 bc0, .string bl1, .int .i64 bk1, .int .i64 bv1, .slice bA1 bn1 bc1, .int .i64 bq2, .slice bA2 bn2 bc2, .int .i64 bq3, .slice bA3 bn3 bc3] 34))
    simpa using this)
  have HY_1 := Lib.hid (show Box V (w.heap.size + 1) [.int .i64 bat, .string bl0, .int .i64 bk0, .int .i64 bv0, .slice bA0 bn0 bc0, .string bl1, .int .i64 bk1, .int .i64 bv1, .slice bA1 bn1 bc1, .int .i64 bq2, .slice bA2 bn2 bc2, .int .i64 bq3, .slice bA3 bn3 bc3] from by
    rw [hV]
    have := (Box.new (w.alloc (.cells #[.int .i64 aat, .string al0, .int .i64 ak0, .int .i64 av0, .slice aA0 an0 ac0, .string al1, .int .i64 ak1, .int .i64 av1, .slice aA1 an1 ac1, .int .i64 aq2, .slice aA2 an2 ac2, .int .i64 aq3, .slice aA3 an3 ac3] 34)) #[.int .i64 bat, .string bl0, .int .i64 bk0, .int .i64 bv0, .slice bA0 bn0 bc0, .string bl1, .int .i64 bk1, .int .i64 bv1, .slice bA1 bn1 bc1, .int .i64 bq2, .slice bA2 bn2 bc2, .int .i64 bq3, .slice bA3 bn3 bc3] 34)
    simpa using this)
  have HV := Lib.hid hV
  clear hV
  go_enter Tryz.func8, Tryz.ntmps8
  go_wp2_with fail
  rw [show (w.alloc (.cells #[.int .i64 aat, .string al0, .int .i64 ak0, .int .i64 av0, .slice aA0 an0 ac0, .string al1, .int .i64 ak1, .int .i64 av1, .slice aA1 an1 ac1, .int .i64 aq2, .slice aA2 an2 ac2, .int .i64 aq3, .slice aA3 an3 ac3] 34)).alloc (.cells #[.int .i64 bat, .string bl0, .int .i64 bk0, .int .i64 bv0, .slice bA0 bn0 bc0, .string bl1, .int .i64 bk1, .int .i64 bv1, .slice bA1 bn1 bc1, .int .i64 bq2, .slice bA2 bn2 bc2, .int .i64 bq3, .slice bA3 bn3 bc3] 34) = V from HV.out.symm]
  obtain ⟨z5, hz5⟩ : ∃ zz : Bool, zz = ((aat : Int) == (bat : Int)) := ⟨_, rfl⟩
  have Hz5 := Lib.hid hz5
  clear hz5
  refine RG.region (tabP [sv (.pointer (some ⟨w.heap.size, 0, none⟩)), sv (.int .i64 (aat)), sv (.pointer (some ⟨w.heap.size + 1, 0, none⟩)), sv (.int .i64 (bat)), sv (.bool ((aat : Int) == (bat : Int))), sv (.bool (z5)), swhen (z5 == true) (sv (.agg #[.int .i64 aat, .string al0, .int .i64 ak0, .int .i64 av0, .slice aA0 an0 ac0, .string al1, .int .i64 ak1, .int .i64 av1, .slice aA1 an1 ac1, .int .i64 aq2, .slice aA2 an2 ac2, .int .i64 aq3, .slice aA3 an3 ac3])), swhen (z5 == true) (sv (.agg #[.string al0, .int .i64 ak0, .int .i64 av0, .slice aA0 an0 ac0, .int .i64 aq2, .slice aA2 an2 ac2, .string al1, .int .i64 ak1, .int .i64 av1, .slice aA1 an1 ac1, .int .i64 aq3, .slice aA3 an3 ac3])), swhen (z5 == true) (sv (.agg #[.int .i64 bat, .string bl0, .int .i64 bk0, .int .i64 bv0, .slice bA0 bn0 bc0, .string bl1, .int .i64 bk1, .int .i64 bv1, .slice bA1 bn1 bc1, .int .i64 bq2, .slice bA2 bn2 bc2, .int .i64 bq3, .slice bA3 bn3 bc3])), swhen (z5 == true) (sv (.agg #[.string bl0, .int .i64 bk0, .int .i64 bv0, .slice bA0 bn0 bc0, .int .i64 bq2, .slice bA2 bn2 bc2, .string bl1, .int .i64 bk1, .int .i64 bv1, .slice bA1 bn1 bc1, .int .i64 bq3, .slice bA3 bn3 bc3])), swhen (z5 == true) (sv (.bool ((b0 && b2) && (b1 && b3)))), sv (.bool ((z5) && ((b0 && b2) && (b1 && b3)))), sv (.bool ((z5) && ((b0 && b2) && (b1 && b3))))]) (by kernel_rfl) (by kernel_rfl) (tab_keep _) ?_ ?_
  · refine steps_cons ?_ (steps_cons ?_ (steps_cons ?_ (steps_cons ?_ (steps_cons ?_ (steps_cons ?_ (steps_cons ?_ (steps_cons ?_ (steps_cons ?_ (steps_cons ?_ (steps_cons ?_ (steps_cons ?_ (steps_cons ?_ (steps_nil)))))))))))))
    · intro aa ww hA K hK
      refine free rfl ?_
      have e2 : aa.tmps.getD 2 undef = .pointer (some ⟨w.heap.size, 0, none⟩) := hA.old 2 (by kernel_rfl)
      exact gives hK (v := .pointer (some ⟨w.heap.size, 0, none⟩)) (by simp [execOp, Act.eval, e2, go_sem]) rfl
    · intro aa ww hA K hK
      refine free rfl ?_
      have e5 : aa.tmps.getD 5 undef = .pointer (some ⟨w.heap.size, 0, none⟩) := hA.got 0 5 (by kernel_rfl)
      have cX0 := (hA.bel.cell (p := ⟨w.heap.size, 0, none⟩) HX_1.out.lt).trans (HX_1.out.cell (j := 0) rfl)
      exact gives hK (v := .int .i64 aat) (by simp [execOp, Act.eval, e5, cX0, go_sem]) rfl
    · intro aa ww hA K hK
      refine free rfl ?_
      have e3 : aa.tmps.getD 3 undef = .pointer (some ⟨w.heap.size + 1, 0, none⟩) := hA.old 3 (by kernel_rfl)
      exact gives hK (v := .pointer (some ⟨w.heap.size + 1, 0, none⟩)) (by simp [execOp, Act.eval, e3, go_sem]) rfl
    · intro aa ww hA K hK
      refine free rfl ?_
      have e7 : aa.tmps.getD 7 undef = .pointer (some ⟨w.heap.size + 1, 0, none⟩) := hA.got 2 7 (by kernel_rfl)
      have cY0 := (hA.bel.cell (p := ⟨w.heap.size + 1, 0, none⟩) HY_1.out.lt).trans (HY_1.out.cell (j := 0) rfl)
      exact gives hK (v := .int .i64 bat) (by simp [execOp, Act.eval, e7, cY0, go_sem]) rfl
    · intro aa ww hA K hK
      refine free rfl ?_
      have e6 : aa.tmps.getD 6 undef = .int .i64 (aat) := hA.got 1 6 (by kernel_rfl)
      have e8 : aa.tmps.getD 8 undef = .int .i64 (bat) := hA.got 3 8 (by kernel_rfl)
      exact gives hK (v := .bool ((aat : Int) == (bat : Int))) (by simp [execOp, Act.eval, e6, e8, binOp, eqGuard, go_sem]) rfl
    · intro aa ww hA K hK
      refine free rfl ?_
      have e9 : aa.tmps.getD 9 undef = .bool ((aat : Int) == (bat : Int)) := hA.got 4 9 (by kernel_rfl)
      exact gives hK rfl (show aa.tmps.getD 9 undef = .bool z5 from by rw [e9, Hz5.out])
    · intro aa ww hA K hK
      refine guarded (s := sv (.agg #[.int .i64 aat, .string al0, .int .i64 ak0, .int .i64 av0, .slice aA0 an0 ac0, .string al1, .int .i64 ak1, .int .i64 av1, .slice aA1 an1 ac1, .int .i64 aq2, .slice aA2 an2 ac2, .int .i64 aq3, .slice aA3 an3 ac3])) rfl rfl (hA.got 5 10 (by kernel_rfl)) hK fun hB hK => ?_
      have e2 : aa.tmps.getD 2 undef = .pointer (some ⟨w.heap.size, 0, none⟩) := hA.old 2 (by kernel_rfl)
      have cX0 := (hA.bel.cell (p := ⟨w.heap.size, 0, none⟩) HX_1.out.lt).trans (HX_1.out.cell (j := 0) rfl)
      have cX1 := (hA.bel.cell (p := ⟨w.heap.size, 1, none⟩) HX_1.out.lt).trans (HX_1.out.cell (j := 1) rfl)
      have cX2 := (hA.bel.cell (p := ⟨w.heap.size, 2, none⟩) HX_1.out.lt).trans (HX_1.out.cell (j := 2) rfl)
      have cX3 := (hA.bel.cell (p := ⟨w.heap.size, 3, none⟩) HX_1.out.lt).trans (HX_1.out.cell (j := 3) rfl)
      have cX4 := (hA.bel.cell (p := ⟨w.heap.size, 4, none⟩) HX_1.out.lt).trans (HX_1.out.cell (j := 4) rfl)
      have cX5 := (hA.bel.cell (p := ⟨w.heap.size, 5, none⟩) HX_1.out.lt).trans (HX_1.out.cell (j := 5) rfl)
      have cX6 := (hA.bel.cell (p := ⟨w.heap.size, 6, none⟩) HX_1.out.lt).trans (HX_1.out.cell (j := 6) rfl)
      have cX7 := (hA.bel.cell (p := ⟨w.heap.size, 7, none⟩) HX_1.out.lt).trans (HX_1.out.cell (j := 7) rfl)
      have cX8 := (hA.bel.cell (p := ⟨w.heap.size, 8, none⟩) HX_1.out.lt).trans (HX_1.out.cell (j := 8) rfl)
      have cX9 := (hA.bel.cell (p := ⟨w.heap.size, 9, none⟩) HX_1.out.lt).trans (HX_1.out.cell (j := 9) rfl)
      have cX10 := (hA.bel.cell (p := ⟨w.heap.size, 10, none⟩) HX_1.out.lt).trans (HX_1.out.cell (j := 10) rfl)
      have cX11 := (hA.bel.cell (p := ⟨w.heap.size, 11, none⟩) HX_1.out.lt).trans (HX_1.out.cell (j := 11) rfl)
      have cX12 := (hA.bel.cell (p := ⟨w.heap.size, 12, none⟩) HX_1.out.lt).trans (HX_1.out.cell (j := 12) rfl)
      exact gives hK (v := .agg #[.int .i64 aat, .string al0, .int .i64 ak0, .int .i64 av0, .slice aA0 an0 ac0, .string al1, .int .i64 ak1, .int .i64 av1, .slice aA1 an1 ac1, .int .i64 aq2, .slice aA2 an2 ac2, .int .i64 aq3, .slice aA3 an3 ac3]) (by simp [execOp, Act.eval, e2, cX0, cX1, cX2, cX3, cX4, cX5, cX6, cX7, cX8, cX9, cX10, cX11, cX12, go_sem]) rfl
    · intro aa ww hA K hK
      refine guarded (s := sv (.agg #[.string al0, .int .i64 ak0, .int .i64 av0, .slice aA0 an0 ac0, .int .i64 aq2, .slice aA2 an2 ac2, .string al1, .int .i64 ak1, .int .i64 av1, .slice aA1 an1 ac1, .int .i64 aq3, .slice aA3 an3 ac3])) rfl rfl (hA.got 5 10 (by kernel_rfl)) hK fun hB hK => ?_
      have e11 : aa.tmps.getD 11 undef = .agg #[.int .i64 aat, .string al0, .int .i64 ak0, .int .i64 av0, .slice aA0 an0 ac0, .string al1, .int .i64 ak1, .int .i64 av1, .slice aA1 an1 ac1, .int .i64 aq2, .slice aA2 an2 ac2, .int .i64 aq3, .slice aA3 an3 ac3] := (hA.got 6 11 (by kernel_rfl)).1 hB
      refine calls hK (by simp [Act.eval, e11, go_sem]) (isidesOf_any aat aq2 aq3 ak0 av0 ak1 av1 al0 al1 aA0 an0 ac0 aA1 an1 ac1 aA2 an2 ac2 aA3 an3 ac3 ww) ?_
      rintro e w1 ⟨rfl, hb⟩
      exact ⟨_, rfl, hb, rfl⟩
    · intro aa ww hA K hK
      refine guarded (s := sv (.agg #[.int .i64 bat, .string bl0, .int .i64 bk0, .int .i64 bv0, .slice bA0 bn0 bc0, .string bl1, .int .i64 bk1, .int .i64 bv1, .slice bA1 bn1 bc1, .int .i64 bq2, .slice bA2 bn2 bc2, .int .i64 bq3, .slice bA3 bn3 bc3])) rfl rfl (hA.got 5 10 (by kernel_rfl)) hK fun hB hK => ?_
      have e3 : aa.tmps.getD 3 undef = .pointer (some ⟨w.heap.size + 1, 0, none⟩) := hA.old 3 (by kernel_rfl)
      have cY0 := (hA.bel.cell (p := ⟨w.heap.size + 1, 0, none⟩) HY_1.out.lt).trans (HY_1.out.cell (j := 0) rfl)
      have cY1 := (hA.bel.cell (p := ⟨w.heap.size + 1, 1, none⟩) HY_1.out.lt).trans (HY_1.out.cell (j := 1) rfl)
      have cY2 := (hA.bel.cell (p := ⟨w.heap.size + 1, 2, none⟩) HY_1.out.lt).trans (HY_1.out.cell (j := 2) rfl)
      have cY3 := (hA.bel.cell (p := ⟨w.heap.size + 1, 3, none⟩) HY_1.out.lt).trans (HY_1.out.cell (j := 3) rfl)
      have cY4 := (hA.bel.cell (p := ⟨w.heap.size + 1, 4, none⟩) HY_1.out.lt).trans (HY_1.out.cell (j := 4) rfl)
      have cY5 := (hA.bel.cell (p := ⟨w.heap.size + 1, 5, none⟩) HY_1.out.lt).trans (HY_1.out.cell (j := 5) rfl)
      have cY6 := (hA.bel.cell (p := ⟨w.heap.size + 1, 6, none⟩) HY_1.out.lt).trans (HY_1.out.cell (j := 6) rfl)
      have cY7 := (hA.bel.cell (p := ⟨w.heap.size + 1, 7, none⟩) HY_1.out.lt).trans (HY_1.out.cell (j := 7) rfl)
      have cY8 := (hA.bel.cell (p := ⟨w.heap.size + 1, 8, none⟩) HY_1.out.lt).trans (HY_1.out.cell (j := 8) rfl)
      have cY9 := (hA.bel.cell (p := ⟨w.heap.size + 1, 9, none⟩) HY_1.out.lt).trans (HY_1.out.cell (j := 9) rfl)
      have cY10 := (hA.bel.cell (p := ⟨w.heap.size + 1, 10, none⟩) HY_1.out.lt).trans (HY_1.out.cell (j := 10) rfl)
      have cY11 := (hA.bel.cell (p := ⟨w.heap.size + 1, 11, none⟩) HY_1.out.lt).trans (HY_1.out.cell (j := 11) rfl)
      have cY12 := (hA.bel.cell (p := ⟨w.heap.size + 1, 12, none⟩) HY_1.out.lt).trans (HY_1.out.cell (j := 12) rfl)
      exact gives hK (v := .agg #[.int .i64 bat, .string bl0, .int .i64 bk0, .int .i64 bv0, .slice bA0 bn0 bc0, .string bl1, .int .i64 bk1, .int .i64 bv1, .slice bA1 bn1 bc1, .int .i64 bq2, .slice bA2 bn2 bc2, .int .i64 bq3, .slice bA3 bn3 bc3]) (by simp [execOp, Act.eval, e3, cY0, cY1, cY2, cY3, cY4, cY5, cY6, cY7, cY8, cY9, cY10, cY11, cY12, go_sem]) rfl
    · intro aa ww hA K hK
      refine guarded (s := sv (.agg #[.string bl0, .int .i64 bk0, .int .i64 bv0, .slice bA0 bn0 bc0, .int .i64 bq2, .slice bA2 bn2 bc2, .string bl1, .int .i64 bk1, .int .i64 bv1, .slice bA1 bn1 bc1, .int .i64 bq3, .slice bA3 bn3 bc3])) rfl rfl (hA.got 5 10 (by kernel_rfl)) hK fun hB hK => ?_
      have e13 : aa.tmps.getD 13 undef = .agg #[.int .i64 bat, .string bl0, .int .i64 bk0, .int .i64 bv0, .slice bA0 bn0 bc0, .string bl1, .int .i64 bk1, .int .i64 bv1, .slice bA1 bn1 bc1, .int .i64 bq2, .slice bA2 bn2 bc2, .int .i64 bq3, .slice bA3 bn3 bc3] := (hA.got 8 13 (by kernel_rfl)).1 hB
      refine calls hK (by simp [Act.eval, e13, go_sem]) (isidesOf_any bat bq2 bq3 bk0 bv0 bk1 bv1 bl0 bl1 bA0 bn0 bc0 bA1 bn1 bc1 bA2 bn2 bc2 bA3 bn3 bc3 ww) ?_
      rintro e w1 ⟨rfl, hb⟩
      exact ⟨_, rfl, hb, rfl⟩
    · intro aa ww hA K hK
      refine guarded (s := sv (.bool ((b0 && b2) && (b1 && b3)))) rfl rfl (hA.got 5 10 (by kernel_rfl)) hK fun hB hK => ?_
      have e12 : aa.tmps.getD 12 undef = .agg #[.string al0, .int .i64 ak0, .int .i64 av0, .slice aA0 an0 ac0, .int .i64 aq2, .slice aA2 an2 ac2, .string al1, .int .i64 ak1, .int .i64 av1, .slice aA1 an1 ac1, .int .i64 aq3, .slice aA3 an3 ac3] := (hA.got 7 12 (by kernel_rfl)).1 hB
      have e14 : aa.tmps.getD 14 undef = .agg #[.string bl0, .int .i64 bk0, .int .i64 bv0, .slice bA0 bn0 bc0, .int .i64 bq2, .slice bA2 bn2 bc2, .string bl1, .int .i64 bk1, .int .i64 bv1, .slice bA1 bn1 bc1, .int .i64 bq3, .slice bA3 bn3 bc3] := (hA.got 9 14 (by kernel_rfl)).1 hB
      refine calls hK (by simp [Act.eval, e12, e14, go_sem]) (HBN.out ww (HB_1.out.trans ((RKA.below_drew hA.bel).mono HB_1.out.size))) ?_
      rintro e w1 ⟨rfl, hb⟩
      exact ⟨_, rfl, hb, rfl⟩
    · intro aa ww hA K hK
      refine free rfl ?_
      have e10 : aa.tmps.getD 10 undef = .bool (z5) := hA.got 5 10 (by kernel_rfl)
      rcases hq : (z5) with _ | _
      · rw [hq] at e10
        exact gives hK (v := .bool false) (by simp [execOp, Act.eval, e10, asBool, go_sem]) (show Value.bool _ = .bool _ by rw [hq]; simp)
      · have ex : aa.tmps.getD 15 undef = .bool ((b0 && b2) && (b1 && b3)) := (hA.got 10 15 (by kernel_rfl)).1 (by rw [hq]; rfl)
        rw [hq] at e10
        exact gives hK (v := .bool ((b0 && b2) && (b1 && b3))) (by simp [execOp, Act.eval, e10, ex, asBool, go_sem]) (show Value.bool _ = .bool _ by rw [hq]; simp)
    · intro aa ww hA K hK
      refine free rfl ?_
      exact gives hK rfl (hA.got 11 16 (by kernel_rfl))
  · intro a1 w1 hb hd hsz hold hgot
    have e4 : a1.tmps.getD 4 undef = .bool ((z5) && ((b0 && b2) && (b1 && b3))) := hgot 12 4 (by kernel_rfl)
    rename_i K9 hK9
    refine hK9 a1 w1 (wp_ret ?_)
    exact bodyPost_ret (v := .bool ((z5) && ((b0 && b2) && (b1 && b3)))) (by simp [results, Tryz.results8, go_sem]; rw [← Array.getD_eq_getD_getElem?]; exact e4) (hd.trans rfl) ⟨by rw [Hz5.out, show ((aat : Int) == bat) = decide (aat = bat) from rfl]; generalize decide (aat = bat) = b4; cases b4 <;> cases b0 <;> cases b1 <;> cases b2 <;> cases b3 <;> rfl, HB_1.out.trans ((RKA.below_drew hb).mono HB_1.out.size)⟩
def sideB (root count : Int) (s : ByteArray) (e : Entry) (p : Proof) (ix od : Int) : Bool := if inR ix 0 (count - 1) = true then decide (p.at_ = ix) && decide (cmpS e.label s = od) && checkE root count e p else noneE e p
theorem side_before {root count a : Int} {s : ByteArray} {e : Entry} {p : Proof} (h0 : 0 ≤ a) (h1 : a ≤ count) : sideB root count s e p (a - 1) (-1) = (if a = 0 then noneE e p else checkE root count e p && decide (p.at_ = a - 1) && decide (cmpS e.label s = -1)) := by
  unfold sideB
  by_cases h : a = 0
  · rw [if_neg (by unfold inR; simp; omega), if_pos h]
  · rw [if_pos (by unfold inR; simp; omega), if_neg h]
    cases checkE root count e p <;> cases decide (p.at_ = a - 1) <;> cases decide (cmpS e.label s = -1) <;> rfl
theorem side_after {root count a : Int} {s : ByteArray} {e : Entry} {p : Proof} (h0 : 0 ≤ a) (h1 : a ≤ count) : sideB root count s e p a 1 = (if a = count then noneE e p else checkE root count e p && decide (p.at_ = a) && decide (cmpS e.label s = 1)) := by
  unfold sideB
  by_cases h : a = count
  · rw [if_neg (by unfold inR; simp; omega), if_pos h]
  · rw [if_pos (by unfold inR; simp; omega), if_neg h]
    cases checkE root count e p <;> cases decide (p.at_ = a) <;> cases decide (cmpS e.label s = 1) <;> rfl
set_option maxHeartbeats 4000000 in
theorem icheckN_any (count root ix od : Int) (s : ByteArray) (bc bs br : Nat) (al0 : ByteArray) (ak0 av0 : Int) (aA0 : Option Addr) (an0 ac0 : Nat) (ap0 : List ByteArray) (aq2 : Int) (aA2 : Option Addr) (an2 ac2 : Nat) (ap2 : List Int) (w : World) (hc : w.cell? ⟨bc, 0, none⟩ = some (.int .i64 count) ∧ bc < w.heap.size) (hs : w.cell? ⟨bs, 0, none⟩ = some (.string s) ∧ bs < w.heap.size) (hr : w.cell? ⟨br, 0, none⟩ = some (.int .i64 root) ∧ br < w.heap.size)
    (ha0 : REntry.rd w (Lt w.heap.size) [.string al0, .int .i64 ak0, .int .i64 av0, .slice aA0 an0 ac0] ⟨al0, ak0, av0, ap0⟩) (ha2 : RProof.rd w (Lt w.heap.size) [.int .i64 aq2, .slice aA2 an2 ac2] ⟨aq2, ap2⟩) (n0 : totEntry ⟨al0, ak0, av0, ap0⟩ ≤ 1048576) (n2 : totProof ⟨aq2, ap2⟩ ≤ 1048576) (hc0 : 0 ≤ count) (hci : In .i64 count) (hri : In .i64 root) :
    Calls Tryz.prog 35 #[.agg #[.string al0, .int .i64 ak0, .int .i64 av0, .slice aA0 an0 ac0, .int .i64 aq2, .slice aA2 an2 ac2], .agg #[.int .i64 ix, .int .i64 od], .pointer (some ⟨bc, 0, none⟩), .pointer (some ⟨bs, 0, none⟩), .pointer (some ⟨br, 0, none⟩)] w fun e w' => e = .returned (.bool (sideB root count s ⟨al0, ak0, av0, ap0⟩ ⟨aq2, ap2⟩ ix od)) ∧ Below w.heap.size w w' := by
  have HI := Lib.hid (fun w1 => inRange_any ix 0 (count - 1) w1)
  have HQ := Lib.hid (fun w1 (hb : Below w.heap.size w w1) => iequals_any al0 ak0 av0 aA0 an0 ac0 ap0 aq2 aA2 an2 ac2 ap2 ⟨#[]⟩ 0 0 none 0 0 [] 0 none 0 0 [] w1 (upE ha0 hb) (upP ha2 hb) (zero_rd w1) (zero_rdP w1) n0 (by unfold totEntry totSS; simp; exact Nat.zero_le _) n2)
  have HM := Lib.hid (fun w1 => iCompareLabels_any al0 s w1)
  have HK := Lib.hid (fun w1 (hb : Below w.heap.size w w1) => iCheckEntry_any root count _ _ _ _ w1 hri hci (upE ha0 hb) (upP ha2 hb) n0 n2)
  unfold sideB noneE zeroE zeroP
  simp only
  rw [show (ByteArray.empty : ByteArray) = ⟨#[]⟩ from rfl]
  generalize (eqEntryB ⟨al0, ak0, av0, ap0⟩ ⟨⟨#[]⟩, 0, 0, []⟩ && eqP ⟨aq2, ap2⟩ ⟨0, []⟩) = nb at HQ ⊢
  generalize checkE root count ⟨al0, ak0, av0, ap0⟩ ⟨aq2, ap2⟩ = kb at HK ⊢
  generalize cmpS al0 s = cm at HM ⊢
  generalize inR ix 0 (count - 1) = bi at HI ⊢
  have HC_0 := Lib.hid hc
  have HS_0 := Lib.hid hs
  have HT_0 := Lib.hid hr
  have hcr : -9223372036854775808 ≤ count ∧ count ≤ 9223372036854775807 := hci
  clear hc hs hr ha0 ha2 n0 n2 hci hri
  obtain ⟨V, hV⟩ : ∃ V, V = (w.alloc (.cells #[.string al0, .int .i64 ak0, .int .i64 av0, .slice aA0 an0 ac0, .int .i64 aq2, .slice aA2 an2 ac2] 47)).alloc (.cells #[.int .i64 ix, .int .i64 od] 63) := ⟨_, rfl⟩
  have HB_1 := Lib.hid (show Below w.heap.size w V from by
    rw [hV]
    exact ((Below.refl _ _).alloc (by first | (simp; done) | (simp; omega)) _).alloc (by first | (simp; done) | (simp; omega)) _)
  have HX_1 := Lib.hid (show Box V (w.heap.size) [.string al0, .int .i64 ak0, .int .i64 av0, .slice aA0 an0 ac0, .int .i64 aq2, .slice aA2 an2 ac2] from by
    rw [hV]
    have := ((Box.new w #[.string al0, .int .i64 ak0, .int .i64 av0, .slice aA0 an0 ac0, .int .i64 aq2, .slice aA2 an2 ac2] 47).alloc (.cells #[.int .i64 ix, .int .i64 od] 63))
    simpa using this)
  have HY_1 := Lib.hid (show Box V (w.heap.size + 1) [.int .i64 ix, .int .i64 od] from by
    rw [hV]
    have := (Box.new (w.alloc (.cells #[.string al0, .int .i64 ak0, .int .i64 av0, .slice aA0 an0 ac0, .int .i64 aq2, .slice aA2 an2 ac2] 47)) #[.int .i64 ix, .int .i64 od] 63)
    simpa using this)
  have HC_1 := Lib.hid (show V.cell? ⟨bc, 0, none⟩ = some (.int .i64 count) ∧ bc < V.heap.size from ⟨(HB_1.out.cell (p := ⟨bc, 0, none⟩) HC_0.out.2).trans HC_0.out.1, Nat.lt_of_lt_of_le HC_0.out.2 HB_1.out.size⟩)
  have HS_1 := Lib.hid (show V.cell? ⟨bs, 0, none⟩ = some (.string s) ∧ bs < V.heap.size from ⟨(HB_1.out.cell (p := ⟨bs, 0, none⟩) HS_0.out.2).trans HS_0.out.1, Nat.lt_of_lt_of_le HS_0.out.2 HB_1.out.size⟩)
  have HT_1 := Lib.hid (show V.cell? ⟨br, 0, none⟩ = some (.int .i64 root) ∧ br < V.heap.size from ⟨(HB_1.out.cell (p := ⟨br, 0, none⟩) HT_0.out.2).trans HT_0.out.1, Nat.lt_of_lt_of_le HT_0.out.2 HB_1.out.size⟩)
  have HV := Lib.hid hV
  clear hV
  have rC : ((w.alloc (.cells #[.string al0, .int .i64 ak0, .int .i64 av0, .slice aA0 an0 ac0, .int .i64 aq2, .slice aA2 an2 ac2] 47)).alloc (.cells #[.int .i64 ix, .int .i64 od] 63)).cell? ⟨bc, 0, none⟩ = some (.int .i64 count) := by rw [HV.out.symm]; exact HC_1.out.1
  have rS : ((w.alloc (.cells #[.string al0, .int .i64 ak0, .int .i64 av0, .slice aA0 an0 ac0, .int .i64 aq2, .slice aA2 an2 ac2] 47)).alloc (.cells #[.int .i64 ix, .int .i64 od] 63)).cell? ⟨bs, 0, none⟩ = some (.string s) := by rw [HV.out.symm]; exact HS_1.out.1
  have rT : ((w.alloc (.cells #[.string al0, .int .i64 ak0, .int .i64 av0, .slice aA0 an0 ac0, .int .i64 aq2, .slice aA2 an2 ac2] 47)).alloc (.cells #[.int .i64 ix, .int .i64 od] 63)).cell? ⟨br, 0, none⟩ = some (.int .i64 root) := by rw [HV.out.symm]; exact HT_1.out.1
  rcases bi with _ | _
  · rw [if_neg (by decide)]
    go_enter Tryz.func35, Tryz.ntmps35
    go_wp2_with fail
    clear rC rS rT
    rw [show (w.alloc (.cells #[.string al0, .int .i64 ak0, .int .i64 av0, .slice aA0 an0 ac0, .int .i64 aq2, .slice aA2 an2 ac2] 47)).alloc (.cells #[.int .i64 ix, .int .i64 od] 63) = V from HV.out.symm]
    refine (HI.out _).mono ?_
    rintro e w1 ⟨rfl, rfl⟩
    have zC := HC_1.out.1
    have zS := HS_1.out.1
    have zT := HT_1.out.1
    have zX0 := HX_1.out.cell (j := 0) rfl
    have zX1 := HX_1.out.cell (j := 1) rfl
    have zX2 := HX_1.out.cell (j := 2) rfl
    have zX3 := HX_1.out.cell (j := 3) rfl
    have zX4 := HX_1.out.cell (j := 4) rfl
    have zX5 := HX_1.out.cell (j := 5) rfl
    have zY0 := HY_1.out.cell (j := 0) rfl
    have zY1 := HY_1.out.cell (j := 1) rfl
    go_wp2_with fail
    clear zC zS zT zX0 zX1 zX2 zX3 zX4 zX5 zY0 zY1
    refine (HQ.out _ HB_1.out).mono ?_
    rintro e w2 ⟨rfl, hb⟩
    have HC_2 := Lib.hid (show w2.cell? ⟨bc, 0, none⟩ = some (.int .i64 count) ∧ bc < w2.heap.size from ⟨(Below.cell hb (p := ⟨bc, 0, none⟩) HC_1.out.2).trans HC_1.out.1, Nat.lt_of_lt_of_le HC_1.out.2 hb.size⟩)
    have HS_2 := Lib.hid (show w2.cell? ⟨bs, 0, none⟩ = some (.string s) ∧ bs < w2.heap.size from ⟨(Below.cell hb (p := ⟨bs, 0, none⟩) HS_1.out.2).trans HS_1.out.1, Nat.lt_of_lt_of_le HS_1.out.2 hb.size⟩)
    have HT_2 := Lib.hid (show w2.cell? ⟨br, 0, none⟩ = some (.int .i64 root) ∧ br < w2.heap.size from ⟨(Below.cell hb (p := ⟨br, 0, none⟩) HT_1.out.2).trans HT_1.out.1, Nat.lt_of_lt_of_le HT_1.out.2 hb.size⟩)
    have HB_2 := Lib.hid (HB_1.out.trans (hb.mono HB_1.out.size))
    have HX_2 := Lib.hid (HX_1.out.below hb HX_1.out.lt)
    have HY_2 := Lib.hid (HY_1.out.below hb HY_1.out.lt)
    clear hb
    go_wp2
    go_ret
    exact ⟨rfl, HB_2.out⟩
  · rw [if_pos rfl]
    go_enter Tryz.func35, Tryz.ntmps35
    go_wp2_with fail
    clear rC rS rT
    rw [show (w.alloc (.cells #[.string al0, .int .i64 ak0, .int .i64 av0, .slice aA0 an0 ac0, .int .i64 aq2, .slice aA2 an2 ac2] 47)).alloc (.cells #[.int .i64 ix, .int .i64 od] 63) = V from HV.out.symm]
    refine (HI.out _).mono ?_
    rintro e w1 ⟨rfl, rfl⟩
    go_wp2_with fail
    obtain ⟨z6, hz6⟩ : ∃ zz : Bool, zz = ((aq2 : Int) == (ix : Int)) := ⟨_, rfl⟩
    have Hz6 := Lib.hid hz6
    clear hz6
    obtain ⟨z16, hz16⟩ : ∃ zz : Bool, zz = ((z6) && ((cm : Int) == (od : Int))) := ⟨_, rfl⟩
    have Hz16 := Lib.hid hz16
    clear hz16
    refine RG.region (tabP [sv (.pointer (some ⟨w.heap.size, 4, none⟩)), sv (.pointer (some ⟨w.heap.size, 4, none⟩)), sv (.int .i64 (aq2)), sv (.pointer (some ⟨w.heap.size + 1, 0, none⟩)), sv (.int .i64 (ix)), sv (.bool ((aq2 : Int) == (ix : Int))), sv (.bool (z6)), swhen (z6 == true) (sv (.pointer (some ⟨w.heap.size, 0, none⟩))), swhen (z6 == true) (sv (.pointer (some ⟨w.heap.size, 0, none⟩))), swhen (z6 == true) (sv (.string (al0))), swhen (z6 == true) (sv (.string (s))), swhen (z6 == true) (sv (.int .i64 (cm))), swhen (z6 == true) (sv (.pointer (some ⟨w.heap.size + 1, 1, none⟩))), swhen (z6 == true) (sv (.int .i64 (od))), swhen (z6 == true) (sv (.bool ((cm : Int) == (od : Int)))), sv (.bool ((z6) && ((cm : Int) == (od : Int)))), sv (.bool (z16)), swhen (z16 == true) (sv (.int .i64 (root))), swhen (z16 == true) (sv (.int .i64 (count))), swhen (z16 == true) (sv (.pointer (some ⟨w.heap.size, 0, none⟩))), swhen (z16 == true) (sv (.agg #[.string al0, .int .i64 ak0, .int .i64 av0, .slice aA0 an0 ac0])), swhen (z16 == true) (sv (.pointer (some ⟨w.heap.size, 4, none⟩))), swhen (z16 == true) (sv (.agg #[.int .i64 aq2, .slice aA2 an2 ac2])), swhen (z16 == true) (sv (.bool (kb))), sv (.bool ((z16) && (kb))), sv (.bool ((z16) && (kb)))]) (by kernel_rfl) (by kernel_rfl) (tab_keep _) ?_ ?_
    · refine steps_cons ?_ (steps_cons ?_ (steps_cons ?_ (steps_cons ?_ (steps_cons ?_ (steps_cons ?_ (steps_cons ?_ (steps_cons ?_ (steps_cons ?_ (steps_cons ?_ (steps_cons ?_ (steps_cons ?_ (steps_cons ?_ (steps_cons ?_ (steps_cons ?_ (steps_cons ?_ (steps_cons ?_ (steps_cons ?_ (steps_cons ?_ (steps_cons ?_ (steps_cons ?_ (steps_cons ?_ (steps_cons ?_ (steps_cons ?_ (steps_cons ?_ (steps_cons ?_ (steps_nil))))))))))))))))))))))))))
      · intro aa ww hA K hK
        refine free rfl ?_
        have e5 : aa.tmps.getD 5 undef = .pointer (some ⟨w.heap.size, 0, none⟩) := hA.old 5 (by kernel_rfl)
        exact gives hK (v := .pointer (some ⟨w.heap.size, 4, none⟩)) (by simp [execOp, Act.eval, e5, go_sem]) rfl
      · intro aa ww hA K hK
        refine free rfl ?_
        have e17 : aa.tmps.getD 17 undef = .pointer (some ⟨w.heap.size, 4, none⟩) := hA.got 0 17 (by kernel_rfl)
        exact gives hK (v := .pointer (some ⟨w.heap.size, 4, none⟩)) (by simp [execOp, Act.eval, e17, go_sem]) rfl
      · intro aa ww hA K hK
        refine free rfl ?_
        have e18 : aa.tmps.getD 18 undef = .pointer (some ⟨w.heap.size, 4, none⟩) := hA.got 1 18 (by kernel_rfl)
        have cX4 := (hA.bel.cell (p := ⟨w.heap.size, 4, none⟩) HX_1.out.lt).trans (HX_1.out.cell (j := 4) rfl)
        exact gives hK (v := .int .i64 aq2) (by simp [execOp, Act.eval, e18, cX4, go_sem]) rfl
      · intro aa ww hA K hK
        refine free rfl ?_
        have e6 : aa.tmps.getD 6 undef = .pointer (some ⟨w.heap.size + 1, 0, none⟩) := hA.old 6 (by kernel_rfl)
        exact gives hK (v := .pointer (some ⟨w.heap.size + 1, 0, none⟩)) (by simp [execOp, Act.eval, e6, go_sem]) rfl
      · intro aa ww hA K hK
        refine free rfl ?_
        have e20 : aa.tmps.getD 20 undef = .pointer (some ⟨w.heap.size + 1, 0, none⟩) := hA.got 3 20 (by kernel_rfl)
        have cY0 := (hA.bel.cell (p := ⟨w.heap.size + 1, 0, none⟩) HY_1.out.lt).trans (HY_1.out.cell (j := 0) rfl)
        exact gives hK (v := .int .i64 ix) (by simp [execOp, Act.eval, e20, cY0, go_sem]) rfl
      · intro aa ww hA K hK
        refine free rfl ?_
        have e19 : aa.tmps.getD 19 undef = .int .i64 (aq2) := hA.got 2 19 (by kernel_rfl)
        have e21 : aa.tmps.getD 21 undef = .int .i64 (ix) := hA.got 4 21 (by kernel_rfl)
        exact gives hK (v := .bool ((aq2 : Int) == (ix : Int))) (by simp [execOp, Act.eval, e19, e21, binOp, eqGuard, go_sem]) rfl
      · intro aa ww hA K hK
        refine free rfl ?_
        have e22 : aa.tmps.getD 22 undef = .bool ((aq2 : Int) == (ix : Int)) := hA.got 5 22 (by kernel_rfl)
        exact gives hK rfl (show aa.tmps.getD 22 undef = .bool z6 from by rw [e22, Hz6.out])
      · intro aa ww hA K hK
        refine guarded (s := sv (.pointer (some ⟨w.heap.size, 0, none⟩))) rfl rfl (hA.got 6 23 (by kernel_rfl)) hK fun hB hK => ?_
        have e5 : aa.tmps.getD 5 undef = .pointer (some ⟨w.heap.size, 0, none⟩) := hA.old 5 (by kernel_rfl)
        exact gives hK (v := .pointer (some ⟨w.heap.size, 0, none⟩)) (by simp [execOp, Act.eval, e5, go_sem]) rfl
      · intro aa ww hA K hK
        refine guarded (s := sv (.pointer (some ⟨w.heap.size, 0, none⟩))) rfl rfl (hA.got 6 23 (by kernel_rfl)) hK fun hB hK => ?_
        have e24 : aa.tmps.getD 24 undef = .pointer (some ⟨w.heap.size, 0, none⟩) := (hA.got 7 24 (by kernel_rfl)).1 hB
        exact gives hK (v := .pointer (some ⟨w.heap.size, 0, none⟩)) (by simp [execOp, Act.eval, e24, go_sem]) rfl
      · intro aa ww hA K hK
        refine guarded (s := sv (.string (al0))) rfl rfl (hA.got 6 23 (by kernel_rfl)) hK fun hB hK => ?_
        have e25 : aa.tmps.getD 25 undef = .pointer (some ⟨w.heap.size, 0, none⟩) := (hA.got 8 25 (by kernel_rfl)).1 hB
        have cX0 := (hA.bel.cell (p := ⟨w.heap.size, 0, none⟩) HX_1.out.lt).trans (HX_1.out.cell (j := 0) rfl)
        exact gives hK (v := .string al0) (by simp [execOp, Act.eval, e25, cX0, go_sem]) rfl
      · intro aa ww hA K hK
        refine guarded (s := sv (.string (s))) rfl rfl (hA.got 6 23 (by kernel_rfl)) hK fun hB hK => ?_
        have e3 : aa.tmps.getD 3 undef = .pointer (some ⟨bs, 0, none⟩) := hA.old 3 (by kernel_rfl)
        have kS := (hA.bel.cell (p := ⟨bs, 0, none⟩) HS_1.out.2).trans HS_1.out.1
        exact gives hK (v := .string s) (by simp [execOp, Act.eval, e3, kS, go_sem]) rfl
      · intro aa ww hA K hK
        refine guarded (s := sv (.int .i64 (cm))) rfl rfl (hA.got 6 23 (by kernel_rfl)) hK fun hB hK => ?_
        have e26 : aa.tmps.getD 26 undef = .string (al0) := (hA.got 9 26 (by kernel_rfl)).1 hB
        have e27 : aa.tmps.getD 27 undef = .string (s) := (hA.got 10 27 (by kernel_rfl)).1 hB
        refine calls hK (by simp [Act.eval, e26, e27, go_sem]) (HM.out ww) ?_
        rintro e w1 ⟨rfl, rfl⟩
        exact ⟨_, rfl, (Below.refl _ _), rfl⟩
      · intro aa ww hA K hK
        refine guarded (s := sv (.pointer (some ⟨w.heap.size + 1, 1, none⟩))) rfl rfl (hA.got 6 23 (by kernel_rfl)) hK fun hB hK => ?_
        have e6 : aa.tmps.getD 6 undef = .pointer (some ⟨w.heap.size + 1, 0, none⟩) := hA.old 6 (by kernel_rfl)
        exact gives hK (v := .pointer (some ⟨w.heap.size + 1, 1, none⟩)) (by simp [execOp, Act.eval, e6, go_sem]) rfl
      · intro aa ww hA K hK
        refine guarded (s := sv (.int .i64 (od))) rfl rfl (hA.got 6 23 (by kernel_rfl)) hK fun hB hK => ?_
        have e29 : aa.tmps.getD 29 undef = .pointer (some ⟨w.heap.size + 1, 1, none⟩) := (hA.got 12 29 (by kernel_rfl)).1 hB
        have cY1 := (hA.bel.cell (p := ⟨w.heap.size + 1, 1, none⟩) HY_1.out.lt).trans (HY_1.out.cell (j := 1) rfl)
        exact gives hK (v := .int .i64 od) (by simp [execOp, Act.eval, e29, cY1, go_sem]) rfl
      · intro aa ww hA K hK
        refine guarded (s := sv (.bool ((cm : Int) == (od : Int)))) rfl rfl (hA.got 6 23 (by kernel_rfl)) hK fun hB hK => ?_
        have e28 : aa.tmps.getD 28 undef = .int .i64 (cm) := (hA.got 11 28 (by kernel_rfl)).1 hB
        have e30 : aa.tmps.getD 30 undef = .int .i64 (od) := (hA.got 13 30 (by kernel_rfl)).1 hB
        exact gives hK (v := .bool ((cm : Int) == (od : Int))) (by simp [execOp, Act.eval, e28, e30, binOp, eqGuard, go_sem]) rfl
      · intro aa ww hA K hK
        refine free rfl ?_
        have e23 : aa.tmps.getD 23 undef = .bool (z6) := hA.got 6 23 (by kernel_rfl)
        rcases hq : (z6) with _ | _
        · rw [hq] at e23
          exact gives hK (v := .bool false) (by simp [execOp, Act.eval, e23, asBool, go_sem]) (show Value.bool _ = .bool _ by rw [hq]; simp)
        · have ex : aa.tmps.getD 31 undef = .bool ((cm : Int) == (od : Int)) := (hA.got 14 31 (by kernel_rfl)).1 (by rw [hq]; rfl)
          rw [hq] at e23
          exact gives hK (v := .bool ((cm : Int) == (od : Int))) (by simp [execOp, Act.eval, e23, ex, asBool, go_sem]) (show Value.bool _ = .bool _ by rw [hq]; simp)
      · intro aa ww hA K hK
        refine free rfl ?_
        have e32 : aa.tmps.getD 32 undef = .bool ((z6) && ((cm : Int) == (od : Int))) := hA.got 15 32 (by kernel_rfl)
        exact gives hK rfl (show aa.tmps.getD 32 undef = .bool z16 from by rw [e32, Hz16.out])
      · intro aa ww hA K hK
        refine guarded (s := sv (.int .i64 (root))) rfl rfl (hA.got 16 33 (by kernel_rfl)) hK fun hB hK => ?_
        have e4 : aa.tmps.getD 4 undef = .pointer (some ⟨br, 0, none⟩) := hA.old 4 (by kernel_rfl)
        have kT := (hA.bel.cell (p := ⟨br, 0, none⟩) HT_1.out.2).trans HT_1.out.1
        exact gives hK (v := .int .i64 root) (by simp [execOp, Act.eval, e4, kT, go_sem]) rfl
      · intro aa ww hA K hK
        refine guarded (s := sv (.int .i64 (count))) rfl rfl (hA.got 16 33 (by kernel_rfl)) hK fun hB hK => ?_
        have e2 : aa.tmps.getD 2 undef = .pointer (some ⟨bc, 0, none⟩) := hA.old 2 (by kernel_rfl)
        have kC := (hA.bel.cell (p := ⟨bc, 0, none⟩) HC_1.out.2).trans HC_1.out.1
        exact gives hK (v := .int .i64 count) (by simp [execOp, Act.eval, e2, kC, go_sem]) rfl
      · intro aa ww hA K hK
        refine guarded (s := sv (.pointer (some ⟨w.heap.size, 0, none⟩))) rfl rfl (hA.got 16 33 (by kernel_rfl)) hK fun hB hK => ?_
        have e5 : aa.tmps.getD 5 undef = .pointer (some ⟨w.heap.size, 0, none⟩) := hA.old 5 (by kernel_rfl)
        exact gives hK (v := .pointer (some ⟨w.heap.size, 0, none⟩)) (by simp [execOp, Act.eval, e5, go_sem]) rfl
      · intro aa ww hA K hK
        refine guarded (s := sv (.agg #[.string al0, .int .i64 ak0, .int .i64 av0, .slice aA0 an0 ac0])) rfl rfl (hA.got 16 33 (by kernel_rfl)) hK fun hB hK => ?_
        have e36 : aa.tmps.getD 36 undef = .pointer (some ⟨w.heap.size, 0, none⟩) := (hA.got 19 36 (by kernel_rfl)).1 hB
        have cX0 := (hA.bel.cell (p := ⟨w.heap.size, 0, none⟩) HX_1.out.lt).trans (HX_1.out.cell (j := 0) rfl)
        have cX1 := (hA.bel.cell (p := ⟨w.heap.size, 1, none⟩) HX_1.out.lt).trans (HX_1.out.cell (j := 1) rfl)
        have cX2 := (hA.bel.cell (p := ⟨w.heap.size, 2, none⟩) HX_1.out.lt).trans (HX_1.out.cell (j := 2) rfl)
        have cX3 := (hA.bel.cell (p := ⟨w.heap.size, 3, none⟩) HX_1.out.lt).trans (HX_1.out.cell (j := 3) rfl)
        exact gives hK (v := .agg #[.string al0, .int .i64 ak0, .int .i64 av0, .slice aA0 an0 ac0]) (by simp [execOp, Act.eval, e36, cX0, cX1, cX2, cX3, go_sem]) rfl
      · intro aa ww hA K hK
        refine guarded (s := sv (.pointer (some ⟨w.heap.size, 4, none⟩))) rfl rfl (hA.got 16 33 (by kernel_rfl)) hK fun hB hK => ?_
        have e5 : aa.tmps.getD 5 undef = .pointer (some ⟨w.heap.size, 0, none⟩) := hA.old 5 (by kernel_rfl)
        exact gives hK (v := .pointer (some ⟨w.heap.size, 4, none⟩)) (by simp [execOp, Act.eval, e5, go_sem]) rfl
      · intro aa ww hA K hK
        refine guarded (s := sv (.agg #[.int .i64 aq2, .slice aA2 an2 ac2])) rfl rfl (hA.got 16 33 (by kernel_rfl)) hK fun hB hK => ?_
        have e38 : aa.tmps.getD 38 undef = .pointer (some ⟨w.heap.size, 4, none⟩) := (hA.got 21 38 (by kernel_rfl)).1 hB
        have cX4 := (hA.bel.cell (p := ⟨w.heap.size, 4, none⟩) HX_1.out.lt).trans (HX_1.out.cell (j := 4) rfl)
        have cX5 := (hA.bel.cell (p := ⟨w.heap.size, 5, none⟩) HX_1.out.lt).trans (HX_1.out.cell (j := 5) rfl)
        exact gives hK (v := .agg #[.int .i64 aq2, .slice aA2 an2 ac2]) (by simp [execOp, Act.eval, e38, cX4, cX5, go_sem]) rfl
      · intro aa ww hA K hK
        refine guarded (s := sv (.bool (kb))) rfl rfl (hA.got 16 33 (by kernel_rfl)) hK fun hB hK => ?_
        have e34 : aa.tmps.getD 34 undef = .int .i64 (root) := (hA.got 17 34 (by kernel_rfl)).1 hB
        have e35 : aa.tmps.getD 35 undef = .int .i64 (count) := (hA.got 18 35 (by kernel_rfl)).1 hB
        have e37 : aa.tmps.getD 37 undef = .agg #[.string al0, .int .i64 ak0, .int .i64 av0, .slice aA0 an0 ac0] := (hA.got 20 37 (by kernel_rfl)).1 hB
        have e39 : aa.tmps.getD 39 undef = .agg #[.int .i64 aq2, .slice aA2 an2 ac2] := (hA.got 22 39 (by kernel_rfl)).1 hB
        refine calls hK (by simp [Act.eval, e34, e35, e37, e39, go_sem]) (HK.out ww (HB_1.out.trans ((RKA.below_drew hA.bel).mono HB_1.out.size))) ?_
        rintro e w1 ⟨rfl, hb⟩
        exact ⟨_, rfl, hb, rfl⟩
      · intro aa ww hA K hK
        refine free rfl ?_
        have e33 : aa.tmps.getD 33 undef = .bool (z16) := hA.got 16 33 (by kernel_rfl)
        rcases hq : (z16) with _ | _
        · rw [hq] at e33
          exact gives hK (v := .bool false) (by simp [execOp, Act.eval, e33, asBool, go_sem]) (show Value.bool _ = .bool _ by rw [hq]; simp)
        · have ex : aa.tmps.getD 40 undef = .bool (kb) := (hA.got 23 40 (by kernel_rfl)).1 (by rw [hq]; rfl)
          rw [hq] at e33
          exact gives hK (v := .bool (kb)) (by simp [execOp, Act.eval, e33, ex, asBool, go_sem]) (show Value.bool _ = .bool _ by rw [hq]; simp)
      · intro aa ww hA K hK
        refine free rfl ?_
        exact gives hK rfl (hA.got 24 41 (by kernel_rfl))
    · intro a1 w1 hb hd hsz hold hgot
      have e7 : a1.tmps.getD 7 undef = .bool ((z16) && (kb)) := hgot 25 7 (by kernel_rfl)
      rename_i K9 hK9
      refine hK9 a1 w1 (wp_ret ?_)
      exact bodyPost_ret (v := .bool ((z16) && (kb))) (by simp [results, Tryz.results35, go_sem]; rw [← Array.getD_eq_getD_getElem?]; exact e7) (hd.trans rfl) ⟨by rw [Hz16.out, Hz6.out]; first | rfl | simp, HB_1.out.trans ((RKA.below_drew hb).mono HB_1.out.size)⟩
set_option maxHeartbeats 2000000 in
theorem ibothP_any (aq2 aq3 ak0 av0 ak1 av1 : Int) (al0 al1 : ByteArray) (aA0 : Option Addr) (an0 ac0 : Nat) (aA1 : Option Addr) (an1 ac1 : Nat) (aA2 : Option Addr) (an2 ac2 : Nat) (aA3 : Option Addr) (an3 ac3 : Nat) (i0 o0 i1 o1 : Int) (bc bs br : Nat) (b0 b1 : Bool) (w : World) (H0 : ∀ w1, Below w.heap.size w w1 → Calls Tryz.prog 35 #[.agg #[.string al0, .int .i64 ak0, .int .i64 av0, .slice aA0 an0 ac0, .int .i64 aq2, .slice aA2 an2 ac2], .agg #[.int .i64 i0, .int .i64 o0], .pointer (some ⟨bc, 0, none⟩), .pointer (some ⟨bs, 0, none⟩), .pointer (some ⟨br, 0, none⟩)] w1 fun e w2 => e = .returned (.bool b0) ∧ Below w1.heap.size w1 w2) (H1 : ∀ w1, Below w.heap.size w w1 → Calls Tryz.prog 35 #[.agg #[.string al1, .int .i64 ak1, .int .i64 av1, .slice aA1 an1 ac1, .int .i64 aq3, .slice aA3 an3 ac3], .agg #[.int .i64 i1, .int .i64 o1], .pointer (some ⟨bc, 0, none⟩), .pointer (some ⟨bs, 0, none⟩), .pointer (some ⟨br, 0, none⟩)] w1 fun e w2 => e = .returned (.bool b1) ∧ Below w1.heap.size w1 w2) :
    Calls Tryz.prog 33 #[.agg #[.string al0, .int .i64 ak0, .int .i64 av0, .slice aA0 an0 ac0, .int .i64 aq2, .slice aA2 an2 ac2, .string al1, .int .i64 ak1, .int .i64 av1, .slice aA1 an1 ac1, .int .i64 aq3, .slice aA3 an3 ac3], .agg #[.int .i64 i0, .int .i64 o0, .int .i64 i1, .int .i64 o1], .func (.func 35) #[] #[.pointer (some ⟨bc, 0, none⟩), .pointer (some ⟨bs, 0, none⟩), .pointer (some ⟨br, 0, none⟩)]] w fun e w' => e = .returned (.bool (b0 && b1)) ∧ Below w.heap.size w w' := by
  have HA := Lib.hid H0
  have HC := Lib.hid H1
  clear H0 H1
  obtain ⟨V, hV⟩ : ∃ V, V = (w.alloc (.cells #[.string al0, .int .i64 ak0, .int .i64 av0, .slice aA0 an0 ac0, .int .i64 aq2, .slice aA2 an2 ac2, .string al1, .int .i64 ak1, .int .i64 av1, .slice aA1 an1 ac1, .int .i64 aq3, .slice aA3 an3 ac3] 50)).alloc (.cells #[.int .i64 i0, .int .i64 o0, .int .i64 i1, .int .i64 o1] 65) := ⟨_, rfl⟩
  have HB_1 := Lib.hid (show Below w.heap.size w V from by
    rw [hV]
    exact ((Below.refl _ _).alloc (by first | (simp; done) | (simp; omega)) _).alloc (by first | (simp; done) | (simp; omega)) _)
  have HX_1 := Lib.hid (show Box V (w.heap.size) [.string al0, .int .i64 ak0, .int .i64 av0, .slice aA0 an0 ac0, .int .i64 aq2, .slice aA2 an2 ac2, .string al1, .int .i64 ak1, .int .i64 av1, .slice aA1 an1 ac1, .int .i64 aq3, .slice aA3 an3 ac3] from by
    rw [hV]
    have := ((Box.new w #[.string al0, .int .i64 ak0, .int .i64 av0, .slice aA0 an0 ac0, .int .i64 aq2, .slice aA2 an2 ac2, .string al1, .int .i64 ak1, .int .i64 av1, .slice aA1 an1 ac1, .int .i64 aq3, .slice aA3 an3 ac3] 50).alloc (.cells #[.int .i64 i0, .int .i64 o0, .int .i64 i1, .int .i64 o1] 65))
    simpa using this)
  have HY_1 := Lib.hid (show Box V (w.heap.size + 1) [.int .i64 i0, .int .i64 o0, .int .i64 i1, .int .i64 o1] from by
    rw [hV]
    have := (Box.new (w.alloc (.cells #[.string al0, .int .i64 ak0, .int .i64 av0, .slice aA0 an0 ac0, .int .i64 aq2, .slice aA2 an2 ac2, .string al1, .int .i64 ak1, .int .i64 av1, .slice aA1 an1 ac1, .int .i64 aq3, .slice aA3 an3 ac3] 50)) #[.int .i64 i0, .int .i64 o0, .int .i64 i1, .int .i64 o1] 65)
    simpa using this)
  have HV := Lib.hid hV
  clear hV
  go_enter Tryz.func33, Tryz.ntmps33
  go_wp2_with fail
  rw [show (w.alloc (.cells #[.string al0, .int .i64 ak0, .int .i64 av0, .slice aA0 an0 ac0, .int .i64 aq2, .slice aA2 an2 ac2, .string al1, .int .i64 ak1, .int .i64 av1, .slice aA1 an1 ac1, .int .i64 aq3, .slice aA3 an3 ac3] 50)).alloc (.cells #[.int .i64 i0, .int .i64 o0, .int .i64 i1, .int .i64 o1] 65) = V from HV.out.symm]
  refine (HA.out _ HB_1.out).mono ?_
  rintro e w1 ⟨rfl, hb⟩
  have HB_2 := Lib.hid (HB_1.out.trans (hb.mono HB_1.out.size))
  have HX_2 := Lib.hid (HX_1.out.below hb HX_1.out.lt)
  have HY_2 := Lib.hid (HY_1.out.below hb HY_1.out.lt)
  clear hb
  rcases b0 with _ | _
  · skip
    go_wp2
    go_ret
    exact ⟨by simp, HB_2.out⟩
  · skip
    have zX0 := HX_2.out.cell (j := 0) rfl
    have zX1 := HX_2.out.cell (j := 1) rfl
    have zX2 := HX_2.out.cell (j := 2) rfl
    have zX3 := HX_2.out.cell (j := 3) rfl
    have zX4 := HX_2.out.cell (j := 4) rfl
    have zX5 := HX_2.out.cell (j := 5) rfl
    have zX6 := HX_2.out.cell (j := 6) rfl
    have zX7 := HX_2.out.cell (j := 7) rfl
    have zX8 := HX_2.out.cell (j := 8) rfl
    have zX9 := HX_2.out.cell (j := 9) rfl
    have zX10 := HX_2.out.cell (j := 10) rfl
    have zX11 := HX_2.out.cell (j := 11) rfl
    have zY0 := HY_2.out.cell (j := 0) rfl
    have zY1 := HY_2.out.cell (j := 1) rfl
    have zY2 := HY_2.out.cell (j := 2) rfl
    have zY3 := HY_2.out.cell (j := 3) rfl
    go_wp2_with fail
    clear zX0 zX1 zX2 zX3 zX4 zX5 zX6 zX7 zX8 zX9 zX10 zX11 zY0 zY1 zY2 zY3
    refine (HC.out _ HB_2.out).mono ?_
    rintro e w2 ⟨rfl, hb⟩
    have HB_3 := Lib.hid (HB_2.out.trans (hb.mono HB_2.out.size))
    have HX_3 := Lib.hid (HX_2.out.below hb HX_2.out.lt)
    have HY_3 := Lib.hid (HY_2.out.below hb HY_2.out.lt)
    clear hb
    go_wp2
    go_ret
    exact ⟨by simp, HB_3.out⟩
theorem iplaces_any (a : Int) (w : World) (h0 : 0 ≤ a) (h1 : a ≤ 9223372036854775807) :
    Calls Tryz.prog 34 #[.int .i64 a] w fun e w' => e = .returned (.agg #[.int .i64 (a - 1), .int .i64 (-1), .int .i64 a, .int .i64 1]) ∧ Below w.heap.size w w' := by
  go_enter Tryz.func34, Tryz.ntmps34
  go_wp2
  refine bodyPost_ret (v := .agg #[.int .i64 (a - 1), .int .i64 (-1), .int .i64 a, .int .i64 1]) (by simp [results, Tryz.results34, go_sem]) rfl ⟨rfl, ?_⟩
  repeat' refine Below.setCell ?_ ?_ _
  all_goals first | exact (Below.refl _ _).alloc (by simp) _ | (simp; done) | (simp; omega)
set_option maxHeartbeats 4000000 in
theorem iCheckAbsence_any (root count : Int) (s : ByteArray) (cs : List Value) (a : Gap) (w : World) (hr0 : In .i64 root) (hc0 : In .i64 count) (hs : s.size ≤ 1099511627776) (h : RGap.rd w (Lt w.heap.size) cs a) (hn : totGap a ≤ 1048576) :
    Calls Tryz.prog 10 #[.int .i64 root, .int .i64 count, .string s, .agg cs.toArray] w fun e w' => e = .returned (.bool (checkG root count s a)) ∧ Below w.heap.size w w' := by
  obtain ⟨aA0, an0, ac0, aA1, an1, ac1, aA2, an2, ac2, aA3, an3, ac3, hacs, ai, ah0, ah1, ah2, ah3⟩ := RGap_rd.1 h
  unfold totGap at hn
  have HL := Lib.hid (fun w1 => iIsLabel_any s w1 hs)
  have HI := Lib.hid (fun w1 => inRange_any a.at_ 0 count w1)
  have HRT := Lib.hid (fun w1 => iRootOf_any none 0 0 [] w1 (Rds.nil _ _ _ _) (by simp [totR]))
  unfold checkG checkA
  generalize isLab s = bl at HL ⊢
  subst hacs
  have hai : -9223372036854775808 ≤ a.at_ ∧ a.at_ ≤ 9223372036854775807 := ai
  have hcr : -9223372036854775808 ≤ count ∧ count ≤ 9223372036854775807 := hc0
  generalize hbi : inR a.at_ 0 count = bi at HI ⊢
  have hbr : bi = true → 0 ≤ a.at_ ∧ a.at_ ≤ count := fun e => by
    have := hbi.trans e
    unfold inR at this
    simpa using this
  clear h hbi ai
  obtain ⟨aat, ⟨al0, ak0, av0, ap0⟩, ⟨al1, ak1, av1, ap1⟩, ⟨aq2, ap2⟩, ⟨aq3, ap3⟩⟩ := a
  simp only at HI hai hbr ah0 ah1 ah2 ah3 hn ⊢
  have HBP := Lib.hid (fun (w1 : World) (hb : Below w.heap.size w w1) (hcnt : 0 ≤ count) (k0 : w1.cell? ⟨w.heap.size + 1, 0, none⟩ = some (.int .i64 count) ∧ w.heap.size + 1 < w1.heap.size) (k1 : w1.cell? ⟨w.heap.size + 1 + 1, 0, none⟩ = some (.string s) ∧ w.heap.size + 1 + 1 < w1.heap.size) (k2 : w1.cell? ⟨w.heap.size, 0, none⟩ = some (.int .i64 root) ∧ w.heap.size < w1.heap.size) =>
    ibothP_any aq2 aq3 ak0 av0 ak1 av1 al0 al1 aA0 an0 ac0 aA1 an1 ac1 aA2 an2 ac2 aA3 an3 ac3 (aat - 1) (-1) aat 1 (w.heap.size + 1) (w.heap.size + 1 + 1) w.heap.size _ _ w1
      (fun w2 hb2 => icheckN_any count root (aat - 1) (-1) s (w.heap.size + 1) (w.heap.size + 1 + 1) w.heap.size al0 ak0 av0 aA0 an0 ac0 ap0 aq2 aA2 an2 ac2 ap2 w2 (cap_up k0 hb2) (cap_up k1 hb2) (cap_up k2 hb2) (upE ah0 (hb.trans (hb2.mono hb.size))) (upP ah2 (hb.trans (hb2.mono hb.size))) (by omega) (by omega) hcnt hc0 hr0)
      (fun w2 hb2 => icheckN_any count root aat 1 s (w.heap.size + 1) (w.heap.size + 1 + 1) w.heap.size al1 ak1 av1 aA1 an1 ac1 ap1 aq3 aA3 an3 ac3 ap3 w2 (cap_up k0 hb2) (cap_up k1 hb2) (cap_up k2 hb2) (upE ah1 (hb.trans (hb2.mono hb.size))) (upP ah3 (hb.trans (hb2.mono hb.size))) (by omega) (by omega) hcnt hc0 hr0))
  have hsb := fun (h0 : 0 ≤ aat) (h1 : aat ≤ count) => side_before (root := root) (s := s) (e := ⟨al0, ak0, av0, ap0⟩) (p := ⟨aq2, ap2⟩) h0 h1
  have hsa := fun (h0 : 0 ≤ aat) (h1 : aat ≤ count) => side_after (root := root) (s := s) (e := ⟨al1, ak1, av1, ap1⟩) (p := ⟨aq3, ap3⟩) h0 h1
  simp only at hsb hsa
  generalize sideB root count s ⟨al0, ak0, av0, ap0⟩ ⟨aq2, ap2⟩ (aat - 1) (-1) = b0 at HBP hsb
  generalize sideB root count s ⟨al1, ak1, av1, ap1⟩ ⟨aq3, ap3⟩ aat 1 = b1 at HBP hsa
  generalize (if aat = 0 then noneE ⟨al0, ak0, av0, ap0⟩ ⟨aq2, ap2⟩ else checkE root count ⟨al0, ak0, av0, ap0⟩ ⟨aq2, ap2⟩ && decide (aq2 = aat - 1) && decide (cmpS al0 s = -1)) = x0 at hsb ⊢
  generalize (if aat = count then noneE ⟨al1, ak1, av1, ap1⟩ ⟨aq3, ap3⟩ else checkE root count ⟨al1, ak1, av1, ap1⟩ ⟨aq3, ap3⟩ && decide (aq3 = aat) && decide (cmpS al1 s = 1)) = x1 at hsa ⊢
  generalize rootOf [] = r0 at HRT ⊢
  clear ah0 ah1 ah2 ah3 hn
  obtain ⟨V, hV⟩ : ∃ V, V = (((w.alloc (.cells #[.int .i64 root] 3)).alloc (.cells #[.int .i64 count] 3)).alloc (.cells #[.string s] 9)).alloc (.cells #[.int .i64 aat, .string al0, .int .i64 ak0, .int .i64 av0, .slice aA0 an0 ac0, .string al1, .int .i64 ak1, .int .i64 av1, .slice aA1 an1 ac1, .int .i64 aq2, .slice aA2 an2 ac2, .int .i64 aq3, .slice aA3 an3 ac3] 34) := ⟨_, rfl⟩
  have HB_1 := Lib.hid (show Below w.heap.size w V from by
    rw [hV]
    exact ((((Below.refl _ _).alloc (by first | (simp; done) | (simp; omega)) _).alloc (by first | (simp; done) | (simp; omega)) _).alloc (by first | (simp; done) | (simp; omega)) _).alloc (by first | (simp; done) | (simp; omega)) _)
  have HR_1 := Lib.hid (show Box V (w.heap.size) [.int .i64 root] from by
    rw [hV]
    have := ((((Box.new w #[.int .i64 root] 3).alloc (.cells #[.int .i64 count] 3)).alloc (.cells #[.string s] 9)).alloc (.cells #[.int .i64 aat, .string al0, .int .i64 ak0, .int .i64 av0, .slice aA0 an0 ac0, .string al1, .int .i64 ak1, .int .i64 av1, .slice aA1 an1 ac1, .int .i64 aq2, .slice aA2 an2 ac2, .int .i64 aq3, .slice aA3 an3 ac3] 34))
    simpa using this)
  have HC_1 := Lib.hid (show Box V (w.heap.size + 1) [.int .i64 count] from by
    rw [hV]
    have := (((Box.new (w.alloc (.cells #[.int .i64 root] 3)) #[.int .i64 count] 3).alloc (.cells #[.string s] 9)).alloc (.cells #[.int .i64 aat, .string al0, .int .i64 ak0, .int .i64 av0, .slice aA0 an0 ac0, .string al1, .int .i64 ak1, .int .i64 av1, .slice aA1 an1 ac1, .int .i64 aq2, .slice aA2 an2 ac2, .int .i64 aq3, .slice aA3 an3 ac3] 34))
    simpa using this)
  have HL_1 := Lib.hid (show Box V (w.heap.size + 1 + 1) [.string s] from by
    rw [hV]
    have := ((Box.new ((w.alloc (.cells #[.int .i64 root] 3)).alloc (.cells #[.int .i64 count] 3)) #[.string s] 9).alloc (.cells #[.int .i64 aat, .string al0, .int .i64 ak0, .int .i64 av0, .slice aA0 an0 ac0, .string al1, .int .i64 ak1, .int .i64 av1, .slice aA1 an1 ac1, .int .i64 aq2, .slice aA2 an2 ac2, .int .i64 aq3, .slice aA3 an3 ac3] 34))
    simpa using this)
  have HX_1 := Lib.hid (show Box V (w.heap.size + 1 + 1 + 1) [.int .i64 aat, .string al0, .int .i64 ak0, .int .i64 av0, .slice aA0 an0 ac0, .string al1, .int .i64 ak1, .int .i64 av1, .slice aA1 an1 ac1, .int .i64 aq2, .slice aA2 an2 ac2, .int .i64 aq3, .slice aA3 an3 ac3] from by
    rw [hV]
    have := (Box.new (((w.alloc (.cells #[.int .i64 root] 3)).alloc (.cells #[.int .i64 count] 3)).alloc (.cells #[.string s] 9)) #[.int .i64 aat, .string al0, .int .i64 ak0, .int .i64 av0, .slice aA0 an0 ac0, .string al1, .int .i64 ak1, .int .i64 av1, .slice aA1 an1 ac1, .int .i64 aq2, .slice aA2 an2 ac2, .int .i64 aq3, .slice aA3 an3 ac3] 34)
    simpa using this)
  have HV := Lib.hid hV
  clear hV
  obtain ⟨zb, hzb⟩ : ∃ zb : Bool, zb = (decide (count = 0) && decide (root ≠ r0)) := ⟨_, rfl⟩
  rw [← hzb]
  have HZB := Lib.hid hzb
  clear hzb
  rcases bl with _ | _
  · skip
    go_enter Tryz.func10, Tryz.ntmps10
    go_wp2_with fail
    rw [show (((w.alloc (.cells #[.int .i64 root] 3)).alloc (.cells #[.int .i64 count] 3)).alloc (.cells #[.string s] 9)).alloc (.cells #[.int .i64 aat, .string al0, .int .i64 ak0, .int .i64 av0, .slice aA0 an0 ac0, .string al1, .int .i64 ak1, .int .i64 av1, .slice aA1 an1 ac1, .int .i64 aq2, .slice aA2 an2 ac2, .int .i64 aq3, .slice aA3 an3 ac3] 34) = V from HV.out.symm]
    refine (HL.out _).mono ?_
    rintro e w1 ⟨rfl, hb⟩
    have HB_2 := Lib.hid (HB_1.out.trans (hb.mono HB_1.out.size))
    have HR_2 := Lib.hid (HR_1.out.below hb HR_1.out.lt)
    have HC_2 := Lib.hid (HC_1.out.below hb HC_1.out.lt)
    have HL_2 := Lib.hid (HL_1.out.below hb HL_1.out.lt)
    have HX_2 := Lib.hid (HX_1.out.below hb HX_1.out.lt)
    clear hb
    go_wp2
    go_ret
    exact ⟨by first | rfl | (simp; done), HB_2.out⟩
  · rcases bi with _ | _
    · skip
      go_enter Tryz.func10, Tryz.ntmps10
      go_wp2_with fail
      rw [show (((w.alloc (.cells #[.int .i64 root] 3)).alloc (.cells #[.int .i64 count] 3)).alloc (.cells #[.string s] 9)).alloc (.cells #[.int .i64 aat, .string al0, .int .i64 ak0, .int .i64 av0, .slice aA0 an0 ac0, .string al1, .int .i64 ak1, .int .i64 av1, .slice aA1 an1 ac1, .int .i64 aq2, .slice aA2 an2 ac2, .int .i64 aq3, .slice aA3 an3 ac3] 34) = V from HV.out.symm]
      refine (HL.out _).mono ?_
      rintro e w1 ⟨rfl, hb⟩
      have HB_2 := Lib.hid (HB_1.out.trans (hb.mono HB_1.out.size))
      have HR_2 := Lib.hid (HR_1.out.below hb HR_1.out.lt)
      have HC_2 := Lib.hid (HC_1.out.below hb HC_1.out.lt)
      have HL_2 := Lib.hid (HL_1.out.below hb HL_1.out.lt)
      have HX_2 := Lib.hid (HX_1.out.below hb HX_1.out.lt)
      clear hb
      have zR0 := HR_2.out.cell (j := 0) rfl
      have zC0 := HC_2.out.cell (j := 0) rfl
      have zL0 := HL_2.out.cell (j := 0) rfl
      have zX0 := HX_2.out.cell (j := 0) rfl
      have zX1 := HX_2.out.cell (j := 1) rfl
      have zX2 := HX_2.out.cell (j := 2) rfl
      have zX3 := HX_2.out.cell (j := 3) rfl
      have zX4 := HX_2.out.cell (j := 4) rfl
      have zX5 := HX_2.out.cell (j := 5) rfl
      have zX6 := HX_2.out.cell (j := 6) rfl
      have zX7 := HX_2.out.cell (j := 7) rfl
      have zX8 := HX_2.out.cell (j := 8) rfl
      have zX9 := HX_2.out.cell (j := 9) rfl
      have zX10 := HX_2.out.cell (j := 10) rfl
      have zX11 := HX_2.out.cell (j := 11) rfl
      have zX12 := HX_2.out.cell (j := 12) rfl
      go_wp2_with fail
      clear zR0 zC0 zL0 zX0 zX1 zX2 zX3 zX4 zX5 zX6 zX7 zX8 zX9 zX10 zX11 zX12
      refine (HI.out _).mono ?_
      rintro e w2 ⟨rfl, rfl⟩
      go_wp2
      go_ret
      exact ⟨by first | rfl | (simp; done), HB_2.out⟩
    · skip
      obtain ⟨ha0, ha1⟩ := hbr rfl
      rw [← hsb ha0 ha1, ← hsa ha0 ha1]
      clear hsb hsa hbr x0 x1
      go_enter Tryz.func10, Tryz.ntmps10
      go_wp2_with fail
      rw [show (((w.alloc (.cells #[.int .i64 root] 3)).alloc (.cells #[.int .i64 count] 3)).alloc (.cells #[.string s] 9)).alloc (.cells #[.int .i64 aat, .string al0, .int .i64 ak0, .int .i64 av0, .slice aA0 an0 ac0, .string al1, .int .i64 ak1, .int .i64 av1, .slice aA1 an1 ac1, .int .i64 aq2, .slice aA2 an2 ac2, .int .i64 aq3, .slice aA3 an3 ac3] 34) = V from HV.out.symm]
      refine (HL.out _).mono ?_
      rintro e W1 ⟨rfl, hb⟩
      have HB_2 := Lib.hid (HB_1.out.trans (hb.mono HB_1.out.size))
      have HR_2 := Lib.hid (HR_1.out.below hb HR_1.out.lt)
      have HC_2 := Lib.hid (HC_1.out.below hb HC_1.out.lt)
      have HL_2 := Lib.hid (HL_1.out.below hb HL_1.out.lt)
      have HX_2 := Lib.hid (HX_1.out.below hb HX_1.out.lt)
      clear hb
      have zR0 := HR_2.out.cell (j := 0) rfl
      have zC0 := HC_2.out.cell (j := 0) rfl
      have zL0 := HL_2.out.cell (j := 0) rfl
      have zX0 := HX_2.out.cell (j := 0) rfl
      have zX1 := HX_2.out.cell (j := 1) rfl
      have zX2 := HX_2.out.cell (j := 2) rfl
      have zX3 := HX_2.out.cell (j := 3) rfl
      have zX4 := HX_2.out.cell (j := 4) rfl
      have zX5 := HX_2.out.cell (j := 5) rfl
      have zX6 := HX_2.out.cell (j := 6) rfl
      have zX7 := HX_2.out.cell (j := 7) rfl
      have zX8 := HX_2.out.cell (j := 8) rfl
      have zX9 := HX_2.out.cell (j := 9) rfl
      have zX10 := HX_2.out.cell (j := 10) rfl
      have zX11 := HX_2.out.cell (j := 11) rfl
      have zX12 := HX_2.out.cell (j := 12) rfl
      go_wp2_with fail
      clear zR0 zC0 zL0 zX0 zX1 zX2 zX3 zX4 zX5 zX6 zX7 zX8 zX9 zX10 zX11 zX12
      refine (HI.out _).mono ?_
      rintro e w2 ⟨rfl, rfl⟩
      go_wp2_with fail
      obtain ⟨z2, hz2⟩ : ∃ zz : Bool, zz = ((count : Int) == (0 : Int)) := ⟨_, rfl⟩
      have Hz2 := Lib.hid hz2
      clear hz2
      refine RG.region (tabP [sv (.int .i64 (count)), sv (.bool ((count : Int) == (0 : Int))), sv (.bool (z2)), swhen (z2 == true) (sv (.int .i64 (root))), swhen (z2 == true) (sv (.int .i64 (r0))), swhen (z2 == true) (sv (.bool ((root : Int) != (r0 : Int)))), sv (.bool ((z2) && ((root : Int) != (r0 : Int))))]) (by kernel_rfl) (by kernel_rfl) (tab_keep _) ?_ ?_
      · refine steps_cons ?_ (steps_cons ?_ (steps_cons ?_ (steps_cons ?_ (steps_cons ?_ (steps_cons ?_ (steps_cons ?_ (steps_nil)))))))
        · intro aa ww hA K hK
          refine free rfl ?_
          have e5 : aa.tmps.getD 5 undef = .pointer (some ⟨w.heap.size + 1, 0, none⟩) := hA.old 5 (by kernel_rfl)
          have cC0 := (hA.bel.cell (p := ⟨w.heap.size + 1, 0, none⟩) HC_2.out.lt).trans (HC_2.out.cell (j := 0) rfl)
          exact gives hK (v := .int .i64 count) (by simp [execOp, Act.eval, e5, cC0, go_sem]) rfl
        · intro aa ww hA K hK
          refine free rfl ?_
          have e19 : aa.tmps.getD 19 undef = .int .i64 (count) := hA.got 0 19 (by kernel_rfl)
          exact gives hK (v := .bool ((count : Int) == (0 : Int))) (by simp [execOp, Act.eval, e19, binOp, eqGuard, go_sem]) rfl
        · intro aa ww hA K hK
          refine free rfl ?_
          have e20 : aa.tmps.getD 20 undef = .bool ((count : Int) == (0 : Int)) := hA.got 1 20 (by kernel_rfl)
          exact gives hK rfl (show aa.tmps.getD 20 undef = .bool z2 from by rw [e20, Hz2.out])
        · intro aa ww hA K hK
          refine guarded (s := sv (.int .i64 (root))) rfl rfl (hA.got 2 21 (by kernel_rfl)) hK fun hB hK => ?_
          have e4 : aa.tmps.getD 4 undef = .pointer (some ⟨w.heap.size, 0, none⟩) := hA.old 4 (by kernel_rfl)
          have cR0 := (hA.bel.cell (p := ⟨w.heap.size, 0, none⟩) HR_2.out.lt).trans (HR_2.out.cell (j := 0) rfl)
          exact gives hK (v := .int .i64 root) (by simp [execOp, Act.eval, e4, cR0, go_sem]) rfl
        · intro aa ww hA K hK
          refine guarded (s := sv (.int .i64 (r0))) rfl rfl (hA.got 2 21 (by kernel_rfl)) hK fun hB hK => ?_
          refine calls hK (by simp [Act.eval, go_sem]) (HRT.out ww) ?_
          rintro e w1 ⟨rfl, hb⟩
          exact ⟨_, rfl, hb, rfl⟩
        · intro aa ww hA K hK
          refine guarded (s := sv (.bool ((root : Int) != (r0 : Int)))) rfl rfl (hA.got 2 21 (by kernel_rfl)) hK fun hB hK => ?_
          have e22 : aa.tmps.getD 22 undef = .int .i64 (root) := (hA.got 3 22 (by kernel_rfl)).1 hB
          have e23 : aa.tmps.getD 23 undef = .int .i64 (r0) := (hA.got 4 23 (by kernel_rfl)).1 hB
          exact gives hK (v := .bool ((root : Int) != (r0 : Int))) (by simp [execOp, Act.eval, e22, e23, binOp, eqGuard, go_sem]) rfl
        · intro aa ww hA K hK
          refine free rfl ?_
          have e21 : aa.tmps.getD 21 undef = .bool (z2) := hA.got 2 21 (by kernel_rfl)
          rcases hq : (z2) with _ | _
          · rw [hq] at e21
            exact gives hK (v := .bool false) (by simp [execOp, Act.eval, e21, asBool, go_sem]) (show Value.bool _ = .bool _ by rw [hq]; simp)
          · have ex : aa.tmps.getD 24 undef = .bool ((root : Int) != (r0 : Int)) := (hA.got 5 24 (by kernel_rfl)).1 (by rw [hq]; rfl)
            rw [hq] at e21
            exact gives hK (v := .bool ((root : Int) != (r0 : Int))) (by simp [execOp, Act.eval, e21, ex, asBool, go_sem]) (show Value.bool _ = .bool _ by rw [hq]; simp)
      · intro a1 w1 hb hd hsz hold hgot
        have g25 : a1.tmps.getD 25 undef = .bool zb := (hgot 6 25 (by kernel_rfl)).trans (congrArg Value.bool (by rw [Hz2.out, HZB.out]; by_cases g1 : count = 0 <;> by_cases g2 : root = r0 <;> simp [g1, g2]))
        have ea := act_put hd hsz hold [19, 20, 21, 22, 23, 24, 25] rfl
        simp only [List.foldl_cons, List.foldl_nil, g25] at ea
        rename_i K9 hK9
        refine hK9 a1 w1 ?_
        generalize a1.tmps.getD 19 undef = v19 at ea
        generalize a1.tmps.getD 20 undef = v20 at ea
        generalize a1.tmps.getD 21 undef = v21 at ea
        generalize a1.tmps.getD 22 undef = v22 at ea
        generalize a1.tmps.getD 23 undef = v23 at ea
        generalize a1.tmps.getD 24 undef = v24 at ea
        clear hgot hold hsz hd g25
        simp only [Act.put, List.setIfInBounds_toArray, List.set_cons_succ, List.set_cons_zero] at ea
        subst ea
        have hb9 := RKA.below_drew hb
        have HB_3 := Lib.hid (HB_2.out.trans (hb9.mono HB_2.out.size))
        have HR_3 := Lib.hid (HR_2.out.below hb9 HR_2.out.lt)
        have HC_3 := Lib.hid (HC_2.out.below hb9 HC_2.out.lt)
        have HL_3 := Lib.hid (HL_2.out.below hb9 HL_2.out.lt)
        have HX_3 := Lib.hid (HX_2.out.below hb9 HX_2.out.lt)
        clear hb hb9
        rcases zb with _ | _
        · skip
          go_wp2_with fail
          refine RG.region (tabP [sv (.agg #[.int .i64 aat, .string al0, .int .i64 ak0, .int .i64 av0, .slice aA0 an0 ac0, .string al1, .int .i64 ak1, .int .i64 av1, .slice aA1 an1 ac1, .int .i64 aq2, .slice aA2 an2 ac2, .int .i64 aq3, .slice aA3 an3 ac3]), sv (.agg #[.string al0, .int .i64 ak0, .int .i64 av0, .slice aA0 an0 ac0, .int .i64 aq2, .slice aA2 an2 ac2, .string al1, .int .i64 ak1, .int .i64 av1, .slice aA1 an1 ac1, .int .i64 aq3, .slice aA3 an3 ac3]), sv (.pointer (some ⟨w.heap.size + 1 + 1 + 1, 0, none⟩)), sv (.int .i64 (aat)), sv (.agg #[.int .i64 (aat - 1), .int .i64 (-1), .int .i64 aat, .int .i64 1]), sv (.func (.func 35) #[] #[.pointer (some ⟨w.heap.size + 1, 0, none⟩), .pointer (some ⟨w.heap.size + 1 + 1, 0, none⟩), .pointer (some ⟨w.heap.size, 0, none⟩)]), sv (.bool (b0 && b1)), sv (.bool (b0 && b1))]) (by kernel_rfl) (by kernel_rfl) (tab_keep _) ?_ ?_
          · refine steps_cons ?_ (steps_cons ?_ (steps_cons ?_ (steps_cons ?_ (steps_cons ?_ (steps_cons ?_ (steps_cons ?_ (steps_cons ?_ (steps_nil))))))))
            · intro aa ww hA K hK
              refine free rfl ?_
              have e7 : aa.tmps.getD 7 undef = .pointer (some ⟨w.heap.size + 1 + 1 + 1, 0, none⟩) := hA.old 7 (by kernel_rfl)
              have cX0 := (hA.bel.cell (p := ⟨w.heap.size + 1 + 1 + 1, 0, none⟩) HX_3.out.lt).trans (HX_3.out.cell (j := 0) rfl)
              have cX1 := (hA.bel.cell (p := ⟨w.heap.size + 1 + 1 + 1, 1, none⟩) HX_3.out.lt).trans (HX_3.out.cell (j := 1) rfl)
              have cX2 := (hA.bel.cell (p := ⟨w.heap.size + 1 + 1 + 1, 2, none⟩) HX_3.out.lt).trans (HX_3.out.cell (j := 2) rfl)
              have cX3 := (hA.bel.cell (p := ⟨w.heap.size + 1 + 1 + 1, 3, none⟩) HX_3.out.lt).trans (HX_3.out.cell (j := 3) rfl)
              have cX4 := (hA.bel.cell (p := ⟨w.heap.size + 1 + 1 + 1, 4, none⟩) HX_3.out.lt).trans (HX_3.out.cell (j := 4) rfl)
              have cX5 := (hA.bel.cell (p := ⟨w.heap.size + 1 + 1 + 1, 5, none⟩) HX_3.out.lt).trans (HX_3.out.cell (j := 5) rfl)
              have cX6 := (hA.bel.cell (p := ⟨w.heap.size + 1 + 1 + 1, 6, none⟩) HX_3.out.lt).trans (HX_3.out.cell (j := 6) rfl)
              have cX7 := (hA.bel.cell (p := ⟨w.heap.size + 1 + 1 + 1, 7, none⟩) HX_3.out.lt).trans (HX_3.out.cell (j := 7) rfl)
              have cX8 := (hA.bel.cell (p := ⟨w.heap.size + 1 + 1 + 1, 8, none⟩) HX_3.out.lt).trans (HX_3.out.cell (j := 8) rfl)
              have cX9 := (hA.bel.cell (p := ⟨w.heap.size + 1 + 1 + 1, 9, none⟩) HX_3.out.lt).trans (HX_3.out.cell (j := 9) rfl)
              have cX10 := (hA.bel.cell (p := ⟨w.heap.size + 1 + 1 + 1, 10, none⟩) HX_3.out.lt).trans (HX_3.out.cell (j := 10) rfl)
              have cX11 := (hA.bel.cell (p := ⟨w.heap.size + 1 + 1 + 1, 11, none⟩) HX_3.out.lt).trans (HX_3.out.cell (j := 11) rfl)
              have cX12 := (hA.bel.cell (p := ⟨w.heap.size + 1 + 1 + 1, 12, none⟩) HX_3.out.lt).trans (HX_3.out.cell (j := 12) rfl)
              exact gives hK (v := .agg #[.int .i64 aat, .string al0, .int .i64 ak0, .int .i64 av0, .slice aA0 an0 ac0, .string al1, .int .i64 ak1, .int .i64 av1, .slice aA1 an1 ac1, .int .i64 aq2, .slice aA2 an2 ac2, .int .i64 aq3, .slice aA3 an3 ac3]) (by simp [execOp, Act.eval, e7, cX0, cX1, cX2, cX3, cX4, cX5, cX6, cX7, cX8, cX9, cX10, cX11, cX12, go_sem]) rfl
            · intro aa ww hA K hK
              refine free rfl ?_
              have e26 : aa.tmps.getD 26 undef = .agg #[.int .i64 aat, .string al0, .int .i64 ak0, .int .i64 av0, .slice aA0 an0 ac0, .string al1, .int .i64 ak1, .int .i64 av1, .slice aA1 an1 ac1, .int .i64 aq2, .slice aA2 an2 ac2, .int .i64 aq3, .slice aA3 an3 ac3] := hA.got 0 26 (by kernel_rfl)
              refine calls hK (by simp [Act.eval, e26, go_sem]) (isidesOf_any aat aq2 aq3 ak0 av0 ak1 av1 al0 al1 aA0 an0 ac0 aA1 an1 ac1 aA2 an2 ac2 aA3 an3 ac3 ww) ?_
              rintro e w1 ⟨rfl, hb⟩
              exact ⟨_, rfl, hb, rfl⟩
            · intro aa ww hA K hK
              refine free rfl ?_
              have e7 : aa.tmps.getD 7 undef = .pointer (some ⟨w.heap.size + 1 + 1 + 1, 0, none⟩) := hA.old 7 (by kernel_rfl)
              exact gives hK (v := .pointer (some ⟨w.heap.size + 1 + 1 + 1, 0, none⟩)) (by simp [execOp, Act.eval, e7, go_sem]) rfl
            · intro aa ww hA K hK
              refine free rfl ?_
              have e28 : aa.tmps.getD 28 undef = .pointer (some ⟨w.heap.size + 1 + 1 + 1, 0, none⟩) := hA.got 2 28 (by kernel_rfl)
              have cX0 := (hA.bel.cell (p := ⟨w.heap.size + 1 + 1 + 1, 0, none⟩) HX_3.out.lt).trans (HX_3.out.cell (j := 0) rfl)
              exact gives hK (v := .int .i64 aat) (by simp [execOp, Act.eval, e28, cX0, go_sem]) rfl
            · intro aa ww hA K hK
              refine free rfl ?_
              have e29 : aa.tmps.getD 29 undef = .int .i64 (aat) := hA.got 3 29 (by kernel_rfl)
              refine calls hK (by simp [Act.eval, e29, go_sem]) (iplaces_any aat ww ha0 (by omega)) ?_
              rintro e w1 ⟨rfl, hb⟩
              exact ⟨_, rfl, hb, rfl⟩
            · intro aa ww hA K hK
              refine free rfl ?_
              have e5 : aa.tmps.getD 5 undef = .pointer (some ⟨w.heap.size + 1, 0, none⟩) := hA.old 5 (by kernel_rfl)
              have e6 : aa.tmps.getD 6 undef = .pointer (some ⟨w.heap.size + 1 + 1, 0, none⟩) := hA.old 6 (by kernel_rfl)
              have e4 : aa.tmps.getD 4 undef = .pointer (some ⟨w.heap.size, 0, none⟩) := hA.old 4 (by kernel_rfl)
              exact gives hK (v := .func (.func 35) #[] #[.pointer (some ⟨w.heap.size + 1, 0, none⟩), .pointer (some ⟨w.heap.size + 1 + 1, 0, none⟩), .pointer (some ⟨w.heap.size, 0, none⟩)]) (by simp only [execOp, List.map_toArray, List.map_cons, List.map_nil, Act.eval, e5, e6, e4]; first | rfl | (simp [go_sem]; done) | (simp [go_sem]; rfl)) rfl
            · intro aa ww hA K hK
              refine free rfl ?_
              have e27 : aa.tmps.getD 27 undef = .agg #[.string al0, .int .i64 ak0, .int .i64 av0, .slice aA0 an0 ac0, .int .i64 aq2, .slice aA2 an2 ac2, .string al1, .int .i64 ak1, .int .i64 av1, .slice aA1 an1 ac1, .int .i64 aq3, .slice aA3 an3 ac3] := hA.got 1 27 (by kernel_rfl)
              have e30 : aa.tmps.getD 30 undef = .agg #[.int .i64 (aat - 1), .int .i64 (-1), .int .i64 aat, .int .i64 1] := hA.got 4 30 (by kernel_rfl)
              have e31 : aa.tmps.getD 31 undef = .func (.func 35) #[] #[.pointer (some ⟨w.heap.size + 1, 0, none⟩), .pointer (some ⟨w.heap.size + 1 + 1, 0, none⟩), .pointer (some ⟨w.heap.size, 0, none⟩)] := hA.got 5 31 (by kernel_rfl)
              refine calls hK (by simp [Act.eval, e27, e30, e31, go_sem]) (HBP.out ww (HB_3.out.trans ((RKA.below_drew hA.bel).mono HB_3.out.size)) (by omega) (⟨(hA.bel.cell (p := ⟨w.heap.size + 1, 0, none⟩) HC_3.out.lt).trans (HC_3.out.cell (j := 0) rfl), Nat.lt_of_lt_of_le HC_3.out.lt hA.bel.size⟩ : _ ∧ _) (⟨(hA.bel.cell (p := ⟨w.heap.size + 1 + 1, 0, none⟩) HL_3.out.lt).trans (HL_3.out.cell (j := 0) rfl), Nat.lt_of_lt_of_le HL_3.out.lt hA.bel.size⟩ : _ ∧ _) (⟨(hA.bel.cell (p := ⟨w.heap.size, 0, none⟩) HR_3.out.lt).trans (HR_3.out.cell (j := 0) rfl), Nat.lt_of_lt_of_le HR_3.out.lt hA.bel.size⟩ : _ ∧ _)) ?_
              rintro e w1 ⟨rfl, hb⟩
              exact ⟨_, rfl, hb, rfl⟩
            · intro aa ww hA K hK
              refine free rfl ?_
              exact gives hK rfl (hA.got 6 32 (by kernel_rfl))
          · intro a1 w1 hb hd hsz hold hgot
            have e8 : a1.tmps.getD 8 undef = .bool (b0 && b1) := hgot 7 8 (by kernel_rfl)
            rename_i K9 hK9
            refine hK9 a1 w1 (wp_ret ?_)
            exact bodyPost_ret (v := .bool (b0 && b1)) (by simp [results, Tryz.results10, go_sem]; rw [← Array.getD_eq_getD_getElem?]; exact e8) (hd.trans rfl) ⟨by first | rfl | (simp; done), HB_3.out.trans ((RKA.below_drew hb).mono HB_3.out.size)⟩
        · skip
          go_wp2
          go_ret
          exact ⟨by first | rfl | (simp; done), HB_3.out⟩
end Go.Proofs.YtbhhifoofapgiaaGreat.C12I
