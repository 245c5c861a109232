/- The walk of the statement 'FnEntries': the law returns true, and writes into nothing that was there. -/
import Derived.Test.YtobapahakcdibaaC08I
import Derived.Test.YtobapahakcdibaaC08S
import Derived.Test.YtobapahakcdibaaD08
import Derived.Test.YtobapahakcdibaaTB
import Derived.RegionTactic
namespace Go.Proofs.Ytobapahakcdibaa.W08F
set_option linter.unusedVariables false
set_option maxRecDepth 100000
open Go.RowKit Mem MemS M02 C01 C02 Rep R08 M04 M05 M08 C04I C05I C08S C08I D01 D08 SL TB RG RGS
theorem up_ent {B : Nat} {w w' : World} {cs : List Value} {k : Entry} (h : REntry.rd w (Lt B) cs k) (hb : Below B w w') (hB : B ≤ w'.heap.size) : REntry.rd w' (Lt w'.heap.size) cs k :=
  REntry.more (REntry.keep h fun i hi => hb.block i hi) fun i hi => Nat.lt_of_lt_of_le hi hB
theorem up_s {B n : Nat} {w w' : World} {A : Option Addr} {p : List ByteArray} (h : RdS w B A n p) (hb : Below B w w') (hB : B ≤ w'.heap.size) : RdS w' w'.heap.size A n p := (h.below hb (Nat.le_refl _)).more hB
set_option maxHeartbeats 8000000 in
theorem FnEntries_walk (W0 : World) (A : Option Addr) (n c : Nat) (hn : n ≤ maxLen) (hr : BRow W0 W0.heap.size A n) :
    Calls Try.prog 3 #[.slice A n c] W0 fun e w' => e = .returned (.bool true) ∧ Below W0.heap.size W0 w' := by
  by_cases hbig : 1048576 < n
  · go_enter Try.func3, Try.ntmps3
    go_wp2_with fail
    refine (big_yes _ _ _ _ hbig).mono ?_
    rintro e w1 ⟨rfl, rfl⟩
    go_wp2
    go_ret
    exact ⟨rfl, Below.refl _ _⟩
  have HR := Lib.hid hr
  clear hr
  go_enter Try.func3, Try.ntmps3
  go_wp2_with fail
  refine (big_no _ _ _ _ (by omega)).mono ?_
  rintro e w1 ⟨rfl, rfl⟩
  go_wp2_with fail
  refine (drawEqualEntries_any W0 A n c hn HR.out).mono ?_
  rintro e W1 ⟨Aa, na, ca, kla, kka, kva, kpa, Ab, nb, cb, klb, kkb, kvb, kpb, rfl, hka, hkb, hoa, hob, hb1⟩
  have HTa := Lib.hid (sm_tot hka)
  have HTb := Lib.hid (sm_tot hkb)
  have HB1 := Lib.hid (hb1.alloc hb1.size (.cells #[.string kla, .int .i64 kka, .int .i64 kva, .slice Aa na ca] 26) |>.alloc (by have := hb1.size; simp; omega) (.cells #[.string klb, .int .i64 kkb, .int .i64 kvb, .slice Ab nb cb] 26))
  have HN1 := Lib.hid ((Below.refl W1.heap.size W1).alloc (Nat.le_refl _) (.cells #[.string kla, .int .i64 kka, .int .i64 kva, .slice Aa na ca] 26) |>.alloc (by simp) (.cells #[.string klb, .int .i64 kkb, .int .i64 kvb, .slice Ab nb cb] 26))
  have HXa := Lib.hid ((Box.new W1 #[.string kla, .int .i64 kka, .int .i64 kva, .slice Aa na ca] 26).alloc (.cells #[.string klb, .int .i64 kkb, .int .i64 kvb, .slice Ab nb cb] 26))
  have HXb := Lib.hid (show Box ((W1.alloc (.cells #[.string kla, .int .i64 kka, .int .i64 kva, .slice Aa na ca] 26)).alloc (.cells #[.string klb, .int .i64 kkb, .int .i64 kvb, .slice Ab nb cb] 26)) (W1.heap.size + 1) [.string klb, .int .i64 kkb, .int .i64 kvb, .slice Ab nb cb] by have h := Box.new (W1.alloc (.cells #[.string kla, .int .i64 kka, .int .i64 kva, .slice Aa na ca] 26)) #[.string klb, .int .i64 kkb, .int .i64 kvb, .slice Ab nb cb] 26; simpa using h)
  have HEa := Lib.hid (up_ent (sm_rd (k := Entry.mk kla kka kva kpa) hoa hka) HN1.out HN1.out.size)
  have HEb := Lib.hid (up_ent (sm_rd (k := Entry.mk klb kkb kvb kpb) hob hkb) HN1.out HN1.out.size)
  generalize hV1 : (W1.alloc (.cells #[.string kla, .int .i64 kka, .int .i64 kva, .slice Aa na ca] 26)).alloc (.cells #[.string klb, .int .i64 kkb, .int .i64 kvb, .slice Ab nb cb] 26) = V1 at HB1 HN1 HXa HXb HEa HEb
  have HV1 := Lib.hid hV1
  clear hka hkb hoa hob hb1 HN1 hV1
  go_wp2_with fail
  rw [HV1.out]
  refine (drawMovedEntry_any V1 A n c hn ((HR.out.below HB1.out).more HB1.out.size)).mono ?_
  rintro e W2 ⟨s, x, Ap, np, cp, p, rfl, hs, hx0, hx1, hnp, hsp, hop, hb2⟩
  have hpl := hop.len
  have HIs := Lib.hid (show InS s by unfold InS maxLen; omega)
  have HIx := Lib.hid (show In .i64 x from RKA.inI64 (by omega) (by omega))
  have HP := Lib.hid hop.rd
  have HQ := Lib.hid (show np ≤ 1099511627776 ∧ ∀ s ∈ p, s.size ≤ 1099511627776 from ⟨by omega, fun s h => Nat.le_trans (hsp s h) (by decide)⟩)
  have HTm := Lib.hid (sm_tot (k := Entry.mk s 3 x p) ⟨hs, RKA.inI64 (by simp) (by simp), RKA.inI64 (by simp only; omega) (by simp only; omega), by simp only; omega, hsp⟩)
  have HTv := Lib.hid (sm_tot (k := Entry.mk s 1 x []) ⟨hs, RKA.inI64 (by simp) (by simp), RKA.inI64 (by simp only; omega) (by simp only; omega), by simp, by simp⟩)
  have HTz := Lib.hid (sm_tot (k := Entry.mk s 2 x []) ⟨hs, RKA.inI64 (by simp) (by simp), RKA.inI64 (by simp only; omega) (by simp only; omega), by simp, by simp⟩)
  have HSZ := Lib.hid (show s.size ≤ 1099511627776 from Nat.le_trans hs (by decide))
  have HB2 := Lib.hid (HB1.out.trans (hb2.mono HB1.out.size))
  have HM2 := Lib.hid hb2
  clear hop hb2 hsp hpl
  go_wp2_with fail
  refine (iValueEntry_any s x W2 HIs.out HIx.out).mono ?_
  rintro e W3 ⟨cs, rfl, hown, hb⟩
  obtain ⟨Av, nv, cv, rfl, _, _, _, _⟩ := REntry_own.1 hown
  simp only at hown
  have HN3 := Lib.hid (hb.alloc hb.size (.cells #[.string s, .int .i64 1, .int .i64 x, .slice Av nv cv] 26))
  have HXv := Lib.hid (Box.new W3 #[.string s, .int .i64 1, .int .i64 x, .slice Av nv cv] 26)
  have HEv := Lib.hid (up_ent hown.rd ((Below.refl W3.heap.size W3).alloc (Nat.le_refl _) (.cells #[.string s, .int .i64 1, .int .i64 x, .slice Av nv cv] 26)) (by simp))
  generalize hV : W3.alloc (.cells #[.string s, .int .i64 1, .int .i64 x, .slice Av nv cv] 26) = V3 at HN3 HXv HEv
  have HV3 := Lib.hid hV
  have HL3 := Lib.hid (show W3.heap.size < V3.heap.size by rw [← hV]; simp)
  have HN23 := Lib.hid (HN3.out)
  clear hown hb hV
  go_wp2_with fail
  rw [HV3.out]
  refine (iZoneEntry_any s x V3 HIs.out HIx.out).mono ?_
  rintro e W4 ⟨cs, rfl, hown, hb⟩
  obtain ⟨Az, nz, cz, rfl, _, _, _, _⟩ := REntry_own.1 hown
  simp only at hown
  have HN4 := Lib.hid (hb.alloc hb.size (.cells #[.string s, .int .i64 2, .int .i64 x, .slice Az nz cz] 26))
  have HXz := Lib.hid (Box.new W4 #[.string s, .int .i64 2, .int .i64 x, .slice Az nz cz] 26)
  have HEz := Lib.hid (up_ent hown.rd ((Below.refl W4.heap.size W4).alloc (Nat.le_refl _) (.cells #[.string s, .int .i64 2, .int .i64 x, .slice Az nz cz] 26)) (by simp))
  generalize hV : W4.alloc (.cells #[.string s, .int .i64 2, .int .i64 x, .slice Az nz cz] 26) = V4 at HN4 HXz HEz
  have HV4 := Lib.hid hV
  have HL4 := Lib.hid (show W4.heap.size < V4.heap.size by rw [← hV]; simp)
  have HN24 := Lib.hid (HN23.out.trans (HN4.out.mono HN23.out.size))
  clear hown hb hV
  go_wp2_with fail
  rw [HV4.out]
  refine (iMovedEntry_any s x Ap np cp p V4 HIs.out HIx.out (up_s HP.out HN24.out HN24.out.size) HQ.out.1).mono ?_
  rintro e W5 ⟨cs, rfl, hown, hb⟩
  obtain ⟨Am, nm, cm, rfl, _, _, _, _⟩ := REntry_own.1 hown
  simp only at hown
  have HN5 := Lib.hid (hb.alloc hb.size (.cells #[.string s, .int .i64 3, .int .i64 x, .slice Am nm cm] 26))
  have HXm := Lib.hid (Box.new W5 #[.string s, .int .i64 3, .int .i64 x, .slice Am nm cm] 26)
  have HEm := Lib.hid (up_ent hown.rd ((Below.refl W5.heap.size W5).alloc (Nat.le_refl _) (.cells #[.string s, .int .i64 3, .int .i64 x, .slice Am nm cm] 26)) (by simp))
  generalize hV : W5.alloc (.cells #[.string s, .int .i64 3, .int .i64 x, .slice Am nm cm] 26) = V5 at HN5 HXm HEm
  have HV5 := Lib.hid hV
  have HL5 := Lib.hid (show W5.heap.size < V5.heap.size by rw [← hV]; simp)
  have HN25 := Lib.hid (HN24.out.trans (HN5.out.mono HN24.out.size))
  clear hown hb hV
  go_wp2_with fail
  rw [HV5.out]
  have HM5 := Lib.hid (show Below V1.heap.size V1 V5.drew from (HM2.out.trans (HN25.out.mono HM2.out.size)).drew)
  have HM35 := Lib.hid (show Below V3.heap.size V3 V5.drew from (HN4.out.trans (HN5.out.mono HN4.out.size)).drew)
  have HM45 := Lib.hid (show Below V4.heap.size V4 V5.drew from HN5.out.drew)
  have HM25 := Lib.hid (show Below W2.heap.size W2 V5.drew from HN25.out.drew)
  have hxa := HXa.out.below HM5.out HXa.out.lt
  have HZa0 := Lib.hid (show W1.heap.size < V5.drew.heap.size ∧ V5.drew.cell? ⟨W1.heap.size, 0, none⟩ = some (.string kla) from ⟨hxa.lt, hxa.cell (j := 0) rfl⟩)
  have HZa1 := Lib.hid (show W1.heap.size < V5.drew.heap.size ∧ V5.drew.cell? ⟨W1.heap.size, 1, none⟩ = some (.int .i64 kka) from ⟨hxa.lt, hxa.cell (j := 1) rfl⟩)
  have HZa2 := Lib.hid (show W1.heap.size < V5.drew.heap.size ∧ V5.drew.cell? ⟨W1.heap.size, 2, none⟩ = some (.int .i64 kva) from ⟨hxa.lt, hxa.cell (j := 2) rfl⟩)
  have HZa3 := Lib.hid (show W1.heap.size < V5.drew.heap.size ∧ V5.drew.cell? ⟨W1.heap.size, 3, none⟩ = some (.slice Aa na ca) from ⟨hxa.lt, hxa.cell (j := 3) rfl⟩)
  have HFa := Lib.hid (show REntry.rd V5.drew (Lt V5.drew.heap.size) [.string kla, .int .i64 kka, .int .i64 kva, .slice Aa na ca] (Entry.mk kla kka kva kpa) from up_ent HEa.out HM5.out HM5.out.size)
  have hxb := HXb.out.below HM5.out HXb.out.lt
  have HZb0 := Lib.hid (show W1.heap.size + 1 < V5.drew.heap.size ∧ V5.drew.cell? ⟨W1.heap.size + 1, 0, none⟩ = some (.string klb) from ⟨hxb.lt, hxb.cell (j := 0) rfl⟩)
  have HZb1 := Lib.hid (show W1.heap.size + 1 < V5.drew.heap.size ∧ V5.drew.cell? ⟨W1.heap.size + 1, 1, none⟩ = some (.int .i64 kkb) from ⟨hxb.lt, hxb.cell (j := 1) rfl⟩)
  have HZb2 := Lib.hid (show W1.heap.size + 1 < V5.drew.heap.size ∧ V5.drew.cell? ⟨W1.heap.size + 1, 2, none⟩ = some (.int .i64 kvb) from ⟨hxb.lt, hxb.cell (j := 2) rfl⟩)
  have HZb3 := Lib.hid (show W1.heap.size + 1 < V5.drew.heap.size ∧ V5.drew.cell? ⟨W1.heap.size + 1, 3, none⟩ = some (.slice Ab nb cb) from ⟨hxb.lt, hxb.cell (j := 3) rfl⟩)
  have HFb := Lib.hid (show REntry.rd V5.drew (Lt V5.drew.heap.size) [.string klb, .int .i64 kkb, .int .i64 kvb, .slice Ab nb cb] (Entry.mk klb kkb kvb kpb) from up_ent HEb.out HM5.out HM5.out.size)
  have hxv := HXv.out.below HM35.out HXv.out.lt
  have HZv0 := Lib.hid (show W3.heap.size < V5.drew.heap.size ∧ V5.drew.cell? ⟨W3.heap.size, 0, none⟩ = some (.string s) from ⟨hxv.lt, hxv.cell (j := 0) rfl⟩)
  have HZv1 := Lib.hid (show W3.heap.size < V5.drew.heap.size ∧ V5.drew.cell? ⟨W3.heap.size, 1, none⟩ = some (.int .i64 1) from ⟨hxv.lt, hxv.cell (j := 1) rfl⟩)
  have HZv2 := Lib.hid (show W3.heap.size < V5.drew.heap.size ∧ V5.drew.cell? ⟨W3.heap.size, 2, none⟩ = some (.int .i64 x) from ⟨hxv.lt, hxv.cell (j := 2) rfl⟩)
  have HZv3 := Lib.hid (show W3.heap.size < V5.drew.heap.size ∧ V5.drew.cell? ⟨W3.heap.size, 3, none⟩ = some (.slice Av nv cv) from ⟨hxv.lt, hxv.cell (j := 3) rfl⟩)
  have HFv := Lib.hid (show REntry.rd V5.drew (Lt V5.drew.heap.size) [.string s, .int .i64 1, .int .i64 x, .slice Av nv cv] (Entry.mk s 1 x []) from up_ent HEv.out HM35.out HM35.out.size)
  have hxz := HXz.out.below HM45.out HXz.out.lt
  have HZz0 := Lib.hid (show W4.heap.size < V5.drew.heap.size ∧ V5.drew.cell? ⟨W4.heap.size, 0, none⟩ = some (.string s) from ⟨hxz.lt, hxz.cell (j := 0) rfl⟩)
  have HZz1 := Lib.hid (show W4.heap.size < V5.drew.heap.size ∧ V5.drew.cell? ⟨W4.heap.size, 1, none⟩ = some (.int .i64 2) from ⟨hxz.lt, hxz.cell (j := 1) rfl⟩)
  have HZz2 := Lib.hid (show W4.heap.size < V5.drew.heap.size ∧ V5.drew.cell? ⟨W4.heap.size, 2, none⟩ = some (.int .i64 x) from ⟨hxz.lt, hxz.cell (j := 2) rfl⟩)
  have HZz3 := Lib.hid (show W4.heap.size < V5.drew.heap.size ∧ V5.drew.cell? ⟨W4.heap.size, 3, none⟩ = some (.slice Az nz cz) from ⟨hxz.lt, hxz.cell (j := 3) rfl⟩)
  have HFz := Lib.hid (show REntry.rd V5.drew (Lt V5.drew.heap.size) [.string s, .int .i64 2, .int .i64 x, .slice Az nz cz] (Entry.mk s 2 x []) from up_ent HEz.out HM45.out HM45.out.size)
  have hxm := HXm.out.below (Lib.hid ((Below.refl V5.heap.size V5).drew)).out HXm.out.lt
  have HZm0 := Lib.hid (show W5.heap.size < V5.drew.heap.size ∧ V5.drew.cell? ⟨W5.heap.size, 0, none⟩ = some (.string s) from ⟨hxm.lt, hxm.cell (j := 0) rfl⟩)
  have HZm1 := Lib.hid (show W5.heap.size < V5.drew.heap.size ∧ V5.drew.cell? ⟨W5.heap.size, 1, none⟩ = some (.int .i64 3) from ⟨hxm.lt, hxm.cell (j := 1) rfl⟩)
  have HZm2 := Lib.hid (show W5.heap.size < V5.drew.heap.size ∧ V5.drew.cell? ⟨W5.heap.size, 2, none⟩ = some (.int .i64 x) from ⟨hxm.lt, hxm.cell (j := 2) rfl⟩)
  have HZm3 := Lib.hid (show W5.heap.size < V5.drew.heap.size ∧ V5.drew.cell? ⟨W5.heap.size, 3, none⟩ = some (.slice Am nm cm) from ⟨hxm.lt, hxm.cell (j := 3) rfl⟩)
  have HFm := Lib.hid (show REntry.rd V5.drew (Lt V5.drew.heap.size) [.string s, .int .i64 3, .int .i64 x, .slice Am nm cm] (Entry.mk s 3 x p) from up_ent HEm.out (Lib.hid ((Below.refl V5.heap.size V5).drew)).out (Lib.hid ((Below.refl V5.heap.size V5).drew)).out.size)
  have HPp := Lib.hid (show RdS V5.drew V5.drew.heap.size Ap np p from up_s HP.out HM25.out HM25.out.size)
  have HB5 := Lib.hid (HB2.out.trans (HN25.out.mono HB2.out.size))
  have HXX := Lib.hid (show 0 ≤ x ∧ x ≤ 99 from ⟨hx0, hx1⟩)
  clear hxa hxb hxv hxz hxm hx0 hx1 hs hnp
  obtain ⟨z5, hz5⟩ : ∃ zz : Bool, zz = ((isEntry (Entry.mk kla kka kva kpa)) == (isEntry (Entry.mk kla kka kva kpa))) := ⟨_, rfl⟩
  have Hz5 := Lib.hid hz5
  clear hz5
  obtain ⟨z14, hz14⟩ : ∃ zz : Bool, zz = ((z5) && ((eqEntryB (Entry.mk kla kka kva kpa) (Entry.mk klb kkb kvb kpb)) == (eqEntryB (Entry.mk kla kka kva kpa) (Entry.mk klb kkb kvb kpb)))) := ⟨_, rfl⟩
  have Hz14 := Lib.hid hz14
  clear hz14
  obtain ⟨z19, hz19⟩ : ∃ zz : Bool, zz = (!(eqEntryB (Entry.mk kla kka kva kpa) (Entry.mk klb kkb kvb kpb))) := ⟨_, rfl⟩
  have Hz19 := Lib.hid hz19
  clear hz19
  obtain ⟨z27, hz27⟩ : ∃ zz : Bool, zz = ((z14) && ((z19) || ((leafOf (Entry.mk kla kka kva kpa) : Int) == (leafOf (Entry.mk klb kkb kvb kpb) : Int)))) := ⟨_, rfl⟩
  have Hz27 := Lib.hid hz27
  clear hz27
  obtain ⟨z33, hz33⟩ : ∃ zz : Bool, zz = ((leafOf (Entry.mk kla kka kva kpa) : Int) == (leafOf (Entry.mk klb kkb kvb kpb) : Int)) := ⟨_, rfl⟩
  have Hz33 := Lib.hid hz33
  clear hz33
  obtain ⟨z41, hz41⟩ : ∃ zz : Bool, zz = ((z27) && ((z33) || ((leafOf (Entry.mk kla kka kva kpa) : Int) != (leafOf (Entry.mk klb kkb kvb kpb) : Int)))) := ⟨_, rfl⟩
  have Hz41 := Lib.hid hz41
  clear hz41
  obtain ⟨z48, hz48⟩ : ∃ zz : Bool, zz = ((z41) && (eqEntryB (Entry.mk s 1 x []) (Entry.mk s 1 x []))) := ⟨_, rfl⟩
  have Hz48 := Lib.hid hz48
  clear hz48
  obtain ⟨z55, hz55⟩ : ∃ zz : Bool, zz = ((z48) && (eqEntryB (Entry.mk s 2 x []) (Entry.mk s 2 x []))) := ⟨_, rfl⟩
  have Hz55 := Lib.hid hz55
  clear hz55
  obtain ⟨z63, hz63⟩ : ∃ zz : Bool, zz = ((z55) && (eqEntryB (Entry.mk s 3 x p) (Entry.mk s 3 x p))) := ⟨_, rfl⟩
  have Hz63 := Lib.hid hz63
  clear hz63
  obtain ⟨z70, hz70⟩ : ∃ zz : Bool, zz = ((z63) && ((isEntry (Entry.mk s 1 x [])) == (isLab s))) := ⟨_, rfl⟩
  have Hz70 := Lib.hid hz70
  clear hz70
  obtain ⟨z75, hz75⟩ : ∃ zz : Bool, zz = (isLab s) := ⟨_, rfl⟩
  have Hz75 := Lib.hid hz75
  clear hz75
  refine RG.region (tabP [sv (.agg #[.string kla, .int .i64 kka, .int .i64 kva, .slice Aa na ca]), sv (.bool (isEntry (Entry.mk kla kka kva kpa))), sv (.agg #[.string kla, .int .i64 kka, .int .i64 kva, .slice Aa na ca]), sv (.bool (isEntry (Entry.mk kla kka kva kpa))), sv (.bool ((isEntry (Entry.mk kla kka kva kpa)) == (isEntry (Entry.mk kla kka kva kpa)))), sv (.bool (z5)), swhen (z5 == true) (sv (.agg #[.string kla, .int .i64 kka, .int .i64 kva, .slice Aa na ca])), swhen (z5 == true) (sv (.agg #[.string klb, .int .i64 kkb, .int .i64 kvb, .slice Ab nb cb])), swhen (z5 == true) (sv (.bool (eqEntryB (Entry.mk kla kka kva kpa) (Entry.mk klb kkb kvb kpb)))), swhen (z5 == true) (sv (.agg #[.string kla, .int .i64 kka, .int .i64 kva, .slice Aa na ca])), swhen (z5 == true) (sv (.agg #[.string klb, .int .i64 kkb, .int .i64 kvb, .slice Ab nb cb])), swhen (z5 == true) (sv (.bool (eqEntryB (Entry.mk kla kka kva kpa) (Entry.mk klb kkb kvb kpb)))), swhen (z5 == true) (sv (.bool ((eqEntryB (Entry.mk kla kka kva kpa) (Entry.mk klb kkb kvb kpb)) == (eqEntryB (Entry.mk kla kka kva kpa) (Entry.mk klb kkb kvb kpb))))), sv (.bool ((z5) && ((eqEntryB (Entry.mk kla kka kva kpa) (Entry.mk klb kkb kvb kpb)) == (eqEntryB (Entry.mk kla kka kva kpa) (Entry.mk klb kkb kvb kpb))))), sv (.bool (z14)), swhen (z14 == true) (sv (.agg #[.string kla, .int .i64 kka, .int .i64 kva, .slice Aa na ca])), swhen (z14 == true) (sv (.agg #[.string klb, .int .i64 kkb, .int .i64 kvb, .slice Ab nb cb])), swhen (z14 == true) (sv (.bool (eqEntryB (Entry.mk kla kka kva kpa) (Entry.mk klb kkb kvb kpb)))), swhen (z14 == true) (sv (.bool (!(eqEntryB (Entry.mk kla kka kva kpa) (Entry.mk klb kkb kvb kpb))))), swhen (z14 == true) (sv (.bool (z19))), swhen ((z14 == true) && (z19 == false)) (sv (.agg #[.string kla, .int .i64 kka, .int .i64 kva, .slice Aa na ca])), swhen ((z14 == true) && (z19 == false)) (sv (.int .i64 (leafOf (Entry.mk kla kka kva kpa)))), swhen ((z14 == true) && (z19 == false)) (sv (.agg #[.string klb, .int .i64 kkb, .int .i64 kvb, .slice Ab nb cb])), swhen ((z14 == true) && (z19 == false)) (sv (.int .i64 (leafOf (Entry.mk klb kkb kvb kpb)))), swhen ((z14 == true) && (z19 == false)) (sv (.bool ((leafOf (Entry.mk kla kka kva kpa) : Int) == (leafOf (Entry.mk klb kkb kvb kpb) : Int)))), swhen (z14 == true) (sv (.bool ((z19) || ((leafOf (Entry.mk kla kka kva kpa) : Int) == (leafOf (Entry.mk klb kkb kvb kpb) : Int))))), sv (.bool ((z14) && ((z19) || ((leafOf (Entry.mk kla kka kva kpa) : Int) == (leafOf (Entry.mk klb kkb kvb kpb) : Int))))), sv (.bool (z27)), swhen (z27 == true) (sv (.agg #[.string kla, .int .i64 kka, .int .i64 kva, .slice Aa na ca])), swhen (z27 == true) (sv (.int .i64 (leafOf (Entry.mk kla kka kva kpa)))), swhen (z27 == true) (sv (.agg #[.string klb, .int .i64 kkb, .int .i64 kvb, .slice Ab nb cb])), swhen (z27 == true) (sv (.int .i64 (leafOf (Entry.mk klb kkb kvb kpb)))), swhen (z27 == true) (sv (.bool ((leafOf (Entry.mk kla kka kva kpa) : Int) == (leafOf (Entry.mk klb kkb kvb kpb) : Int)))), swhen (z27 == true) (sv (.bool (z33))), swhen ((z27 == true) && (z33 == false)) (sv (.agg #[.string kla, .int .i64 kka, .int .i64 kva, .slice Aa na ca])), swhen ((z27 == true) && (z33 == false)) (sv (.int .i64 (leafOf (Entry.mk kla kka kva kpa)))), swhen ((z27 == true) && (z33 == false)) (sv (.agg #[.string klb, .int .i64 kkb, .int .i64 kvb, .slice Ab nb cb])), swhen ((z27 == true) && (z33 == false)) (sv (.int .i64 (leafOf (Entry.mk klb kkb kvb kpb)))), swhen ((z27 == true) && (z33 == false)) (sv (.bool ((leafOf (Entry.mk kla kka kva kpa) : Int) != (leafOf (Entry.mk klb kkb kvb kpb) : Int)))), swhen (z27 == true) (sv (.bool ((z33) || ((leafOf (Entry.mk kla kka kva kpa) : Int) != (leafOf (Entry.mk klb kkb kvb kpb) : Int))))), sv (.bool ((z27) && ((z33) || ((leafOf (Entry.mk kla kka kva kpa) : Int) != (leafOf (Entry.mk klb kkb kvb kpb) : Int))))), sv (.bool (z41)), swhen (z41 == true) (sv (.agg #[.string s, .int .i64 1, .int .i64 x, .slice Av nv cv])), swhen (z41 == true) (sv (.string (s))), swhen (z41 == true) (sv (.int .i64 (x))), swhen (z41 == true) (srep REntry (Entry.mk s 1 x [])), swhen (z41 == true) (sv (.bool (eqEntryB (Entry.mk s 1 x []) (Entry.mk s 1 x [])))), sv (.bool ((z41) && (eqEntryB (Entry.mk s 1 x []) (Entry.mk s 1 x [])))), sv (.bool (z48)), swhen (z48 == true) (sv (.agg #[.string s, .int .i64 2, .int .i64 x, .slice Az nz cz])), swhen (z48 == true) (sv (.string (s))), swhen (z48 == true) (sv (.int .i64 (x))), swhen (z48 == true) (srep REntry (Entry.mk s 2 x [])), swhen (z48 == true) (sv (.bool (eqEntryB (Entry.mk s 2 x []) (Entry.mk s 2 x [])))), sv (.bool ((z48) && (eqEntryB (Entry.mk s 2 x []) (Entry.mk s 2 x [])))), sv (.bool (z55)), swhen (z55 == true) (sv (.agg #[.string s, .int .i64 3, .int .i64 x, .slice Am nm cm])), swhen (z55 == true) (sv (.string (s))), swhen (z55 == true) (sv (.int .i64 (x))), swhen (z55 == true) (sv (.slice Ap np cp)), swhen (z55 == true) (srep REntry (Entry.mk s 3 x p)), swhen (z55 == true) (sv (.bool (eqEntryB (Entry.mk s 3 x p) (Entry.mk s 3 x p)))), sv (.bool ((z55) && (eqEntryB (Entry.mk s 3 x p) (Entry.mk s 3 x p)))), sv (.bool (z63)), swhen (z63 == true) (sv (.agg #[.string s, .int .i64 1, .int .i64 x, .slice Av nv cv])), swhen (z63 == true) (sv (.bool (isEntry (Entry.mk s 1 x [])))), swhen (z63 == true) (sv (.string (s))), swhen (z63 == true) (sv (.bool (isLab s))), swhen (z63 == true) (sv (.bool ((isEntry (Entry.mk s 1 x [])) == (isLab s)))), sv (.bool ((z63) && ((isEntry (Entry.mk s 1 x [])) == (isLab s)))), sv (.bool (z70)), swhen (z70 == true) (sv (.agg #[.string s, .int .i64 3, .int .i64 x, .slice Am nm cm])), swhen (z70 == true) (sv (.bool (isEntry (Entry.mk s 3 x p)))), swhen (z70 == true) (sv (.string (s))), swhen (z70 == true) (sv (.bool (isLab s))), swhen (z70 == true) (sv (.bool (z75))), swhen ((z70 == true) && (z75 == true)) (sv (.slice Ap np cp)), swhen ((z70 == true) && (z75 == true)) (sv (.bool (isPth p))), swhen (z70 == true) (sv (.bool ((z75) && (isPth p)))), swhen (z70 == true) (sv (.bool ((isEntry (Entry.mk s 3 x p)) == ((z75) && (isPth p))))), sv (.bool ((z70) && ((isEntry (Entry.mk s 3 x p)) == ((z75) && (isPth p))))), sv (.bool ((z70) && ((isEntry (Entry.mk s 3 x p)) == ((z75) && (isPth p)))))]) (by kernel_rfl) (by kernel_rfl) (tab_keep _) ?_ ?_
  · refine steps_cons ?_ (steps_cons ?_ (steps_cons ?_ (steps_cons ?_ (steps_cons ?_ (steps_cons ?_ (steps_cons ?_ (steps_cons ?_ (steps_cons ?_ (steps_cons ?_ (steps_cons ?_ (steps_cons ?_ (steps_cons ?_ (steps_cons ?_ (steps_cons ?_ (steps_cons ?_ (steps_cons ?_ (steps_cons ?_ (steps_cons ?_ (steps_cons ?_ (steps_cons ?_ (steps_cons ?_ (steps_cons ?_ (steps_cons ?_ (steps_cons ?_ (steps_cons ?_ (steps_cons ?_ (steps_cons ?_ (steps_cons ?_ (steps_cons ?_ (steps_cons ?_ (steps_cons ?_ (steps_cons ?_ (steps_cons ?_ (steps_cons ?_ (steps_cons ?_ (steps_cons ?_ (steps_cons ?_ (steps_cons ?_ (steps_cons ?_ (steps_cons ?_ (steps_cons ?_ (steps_cons ?_ (steps_cons ?_ (steps_cons ?_ (steps_cons ?_ (steps_cons ?_ (steps_cons ?_ (steps_cons ?_ (steps_cons ?_ (steps_cons ?_ (steps_cons ?_ (steps_cons ?_ (steps_cons ?_ (steps_cons ?_ (steps_cons ?_ (steps_cons ?_ (steps_cons ?_ (steps_cons ?_ (steps_cons ?_ (steps_cons ?_ (steps_cons ?_ (steps_cons ?_ (steps_cons ?_ (steps_cons ?_ (steps_cons ?_ (steps_cons ?_ (steps_cons ?_ (steps_cons ?_ (steps_cons ?_ (steps_cons ?_ (steps_cons ?_ (steps_cons ?_ (steps_cons ?_ (steps_cons ?_ (steps_cons ?_ (steps_cons ?_ (steps_cons ?_ (steps_cons ?_ (steps_cons ?_ (steps_cons ?_ (steps_cons ?_ (steps_nil))))))))))))))))))))))))))))))))))))))))))))))))))))))))))))))))))))))))))))))))))
    · intro aa ww hA K hK
      refine free rfl ?_
      have e3 : aa.tmps.getD 3 undef = .pointer (some ⟨W1.heap.size, 0, none⟩) := hA.old 3 (by kernel_rfl)
      have c0 := (hA.bel.cell (p := ⟨W1.heap.size, 0, none⟩) HZa0.out.1).trans HZa0.out.2
      have c1 := (hA.bel.cell (p := ⟨W1.heap.size, 1, none⟩) HZa1.out.1).trans HZa1.out.2
      have c2 := (hA.bel.cell (p := ⟨W1.heap.size, 2, none⟩) HZa2.out.1).trans HZa2.out.2
      have c3 := (hA.bel.cell (p := ⟨W1.heap.size, 3, none⟩) HZa3.out.1).trans HZa3.out.2
      exact gives hK (v := .agg #[.string kla, .int .i64 kka, .int .i64 kva, .slice Aa na ca]) (by simp [execOp, Act.eval, e3, c0, c1, c2, c3, go_sem]) rfl
    · intro aa ww hA K hK
      refine free rfl ?_
      have e34 : aa.tmps.getD 34 undef = .agg #[.string kla, .int .i64 kka, .int .i64 kva, .slice Aa na ca] := hA.got 0 34 (by kernel_rfl)
      refine calls hK (by simp [Act.eval, e34, go_sem]) (iIsEntry_any [.string kla, .int .i64 kka, .int .i64 kva, .slice Aa na ca] (Entry.mk kla kka kva kpa) ww (up_ent HFa.out hA.bel hA.bel.size) (Nat.le_trans HTa.out (by decide))) ?_
      rintro e w1 ⟨rfl, hb⟩
      exact ⟨_, rfl, hb, rfl⟩
    · intro aa ww hA K hK
      refine free rfl ?_
      have e3 : aa.tmps.getD 3 undef = .pointer (some ⟨W1.heap.size, 0, none⟩) := hA.old 3 (by kernel_rfl)
      have c0 := (hA.bel.cell (p := ⟨W1.heap.size, 0, none⟩) HZa0.out.1).trans HZa0.out.2
      have c1 := (hA.bel.cell (p := ⟨W1.heap.size, 1, none⟩) HZa1.out.1).trans HZa1.out.2
      have c2 := (hA.bel.cell (p := ⟨W1.heap.size, 2, none⟩) HZa2.out.1).trans HZa2.out.2
      have c3 := (hA.bel.cell (p := ⟨W1.heap.size, 3, none⟩) HZa3.out.1).trans HZa3.out.2
      exact gives hK (v := .agg #[.string kla, .int .i64 kka, .int .i64 kva, .slice Aa na ca]) (by simp [execOp, Act.eval, e3, c0, c1, c2, c3, go_sem]) rfl
    · intro aa ww hA K hK
      refine free rfl ?_
      have e36 : aa.tmps.getD 36 undef = .agg #[.string kla, .int .i64 kka, .int .i64 kva, .slice Aa na ca] := hA.got 2 36 (by kernel_rfl)
      refine calls hK (by simp [Act.eval, e36, go_sem]) (sIsEntry_any [.string kla, .int .i64 kka, .int .i64 kva, .slice Aa na ca] (Entry.mk kla kka kva kpa) ww (up_ent HFa.out hA.bel hA.bel.size) (Nat.le_trans HTa.out (by decide))) ?_
      rintro e w1 ⟨rfl, hb⟩
      exact ⟨_, rfl, hb, rfl⟩
    · intro aa ww hA K hK
      refine free rfl ?_
      have e35 : aa.tmps.getD 35 undef = .bool (isEntry (Entry.mk kla kka kva kpa)) := hA.got 1 35 (by kernel_rfl)
      have e37 : aa.tmps.getD 37 undef = .bool (isEntry (Entry.mk kla kka kva kpa)) := hA.got 3 37 (by kernel_rfl)
      exact gives hK (v := .bool ((isEntry (Entry.mk kla kka kva kpa)) == (isEntry (Entry.mk kla kka kva kpa)))) (by simp [execOp, Act.eval, e35, e37, binOp, eqGuard, eq_bool, go_sem]) rfl
    · intro aa ww hA K hK
      refine free rfl ?_
      have e38 : aa.tmps.getD 38 undef = .bool ((isEntry (Entry.mk kla kka kva kpa)) == (isEntry (Entry.mk kla kka kva kpa))) := hA.got 4 38 (by kernel_rfl)
      exact gives hK rfl (show aa.tmps.getD 38 undef = .bool z5 from by rw [e38, Hz5.out])
    · intro aa ww hA K hK
      refine guarded (s := sv (.agg #[.string kla, .int .i64 kka, .int .i64 kva, .slice Aa na ca])) rfl rfl (hA.got 5 39 (by kernel_rfl)) hK fun hB hK => ?_
      have e3 : aa.tmps.getD 3 undef = .pointer (some ⟨W1.heap.size, 0, none⟩) := hA.old 3 (by kernel_rfl)
      have c0 := (hA.bel.cell (p := ⟨W1.heap.size, 0, none⟩) HZa0.out.1).trans HZa0.out.2
      have c1 := (hA.bel.cell (p := ⟨W1.heap.size, 1, none⟩) HZa1.out.1).trans HZa1.out.2
      have c2 := (hA.bel.cell (p := ⟨W1.heap.size, 2, none⟩) HZa2.out.1).trans HZa2.out.2
      have c3 := (hA.bel.cell (p := ⟨W1.heap.size, 3, none⟩) HZa3.out.1).trans HZa3.out.2
      exact gives hK (v := .agg #[.string kla, .int .i64 kka, .int .i64 kva, .slice Aa na ca]) (by simp [execOp, Act.eval, e3, c0, c1, c2, c3, go_sem]) rfl
    · intro aa ww hA K hK
      refine guarded (s := sv (.agg #[.string klb, .int .i64 kkb, .int .i64 kvb, .slice Ab nb cb])) rfl rfl (hA.got 5 39 (by kernel_rfl)) hK fun hB hK => ?_
      have e4 : aa.tmps.getD 4 undef = .pointer (some ⟨W1.heap.size + 1, 0, none⟩) := hA.old 4 (by kernel_rfl)
      have c0 := (hA.bel.cell (p := ⟨W1.heap.size + 1, 0, none⟩) HZb0.out.1).trans HZb0.out.2
      have c1 := (hA.bel.cell (p := ⟨W1.heap.size + 1, 1, none⟩) HZb1.out.1).trans HZb1.out.2
      have c2 := (hA.bel.cell (p := ⟨W1.heap.size + 1, 2, none⟩) HZb2.out.1).trans HZb2.out.2
      have c3 := (hA.bel.cell (p := ⟨W1.heap.size + 1, 3, none⟩) HZb3.out.1).trans HZb3.out.2
      exact gives hK (v := .agg #[.string klb, .int .i64 kkb, .int .i64 kvb, .slice Ab nb cb]) (by simp [execOp, Act.eval, e4, c0, c1, c2, c3, go_sem]) rfl
    · intro aa ww hA K hK
      refine guarded (s := sv (.bool (eqEntryB (Entry.mk kla kka kva kpa) (Entry.mk klb kkb kvb kpb)))) rfl rfl (hA.got 5 39 (by kernel_rfl)) hK fun hB hK => ?_
      have e40 : aa.tmps.getD 40 undef = .agg #[.string kla, .int .i64 kka, .int .i64 kva, .slice Aa na ca] := (hA.got 6 40 (by kernel_rfl)).1 hB
      have e41 : aa.tmps.getD 41 undef = .agg #[.string klb, .int .i64 kkb, .int .i64 kvb, .slice Ab nb cb] := (hA.got 7 41 (by kernel_rfl)).1 hB
      refine calls hK (by simp [Act.eval, e40, e41, go_sem]) (iEqualEntries_any [.string kla, .int .i64 kka, .int .i64 kva, .slice Aa na ca] [.string klb, .int .i64 kkb, .int .i64 kvb, .slice Ab nb cb] (Entry.mk kla kka kva kpa) (Entry.mk klb kkb kvb kpb) ww (up_ent HFa.out hA.bel hA.bel.size) (up_ent HFb.out hA.bel hA.bel.size) (Nat.le_trans HTa.out (by decide)) (Nat.le_trans HTb.out (by decide))) ?_
      rintro e w1 ⟨rfl, hb⟩
      exact ⟨_, rfl, hb, rfl⟩
    · intro aa ww hA K hK
      refine guarded (s := sv (.agg #[.string kla, .int .i64 kka, .int .i64 kva, .slice Aa na ca])) rfl rfl (hA.got 5 39 (by kernel_rfl)) hK fun hB hK => ?_
      have e3 : aa.tmps.getD 3 undef = .pointer (some ⟨W1.heap.size, 0, none⟩) := hA.old 3 (by kernel_rfl)
      have c0 := (hA.bel.cell (p := ⟨W1.heap.size, 0, none⟩) HZa0.out.1).trans HZa0.out.2
      have c1 := (hA.bel.cell (p := ⟨W1.heap.size, 1, none⟩) HZa1.out.1).trans HZa1.out.2
      have c2 := (hA.bel.cell (p := ⟨W1.heap.size, 2, none⟩) HZa2.out.1).trans HZa2.out.2
      have c3 := (hA.bel.cell (p := ⟨W1.heap.size, 3, none⟩) HZa3.out.1).trans HZa3.out.2
      exact gives hK (v := .agg #[.string kla, .int .i64 kka, .int .i64 kva, .slice Aa na ca]) (by simp [execOp, Act.eval, e3, c0, c1, c2, c3, go_sem]) rfl
    · intro aa ww hA K hK
      refine guarded (s := sv (.agg #[.string klb, .int .i64 kkb, .int .i64 kvb, .slice Ab nb cb])) rfl rfl (hA.got 5 39 (by kernel_rfl)) hK fun hB hK => ?_
      have e4 : aa.tmps.getD 4 undef = .pointer (some ⟨W1.heap.size + 1, 0, none⟩) := hA.old 4 (by kernel_rfl)
      have c0 := (hA.bel.cell (p := ⟨W1.heap.size + 1, 0, none⟩) HZb0.out.1).trans HZb0.out.2
      have c1 := (hA.bel.cell (p := ⟨W1.heap.size + 1, 1, none⟩) HZb1.out.1).trans HZb1.out.2
      have c2 := (hA.bel.cell (p := ⟨W1.heap.size + 1, 2, none⟩) HZb2.out.1).trans HZb2.out.2
      have c3 := (hA.bel.cell (p := ⟨W1.heap.size + 1, 3, none⟩) HZb3.out.1).trans HZb3.out.2
      exact gives hK (v := .agg #[.string klb, .int .i64 kkb, .int .i64 kvb, .slice Ab nb cb]) (by simp [execOp, Act.eval, e4, c0, c1, c2, c3, go_sem]) rfl
    · intro aa ww hA K hK
      refine guarded (s := sv (.bool (eqEntryB (Entry.mk kla kka kva kpa) (Entry.mk klb kkb kvb kpb)))) rfl rfl (hA.got 5 39 (by kernel_rfl)) hK fun hB hK => ?_
      have e43 : aa.tmps.getD 43 undef = .agg #[.string kla, .int .i64 kka, .int .i64 kva, .slice Aa na ca] := (hA.got 9 43 (by kernel_rfl)).1 hB
      have e44 : aa.tmps.getD 44 undef = .agg #[.string klb, .int .i64 kkb, .int .i64 kvb, .slice Ab nb cb] := (hA.got 10 44 (by kernel_rfl)).1 hB
      refine calls hK (by simp [Act.eval, e43, e44, go_sem]) (sEqualEntries_any [.string kla, .int .i64 kka, .int .i64 kva, .slice Aa na ca] [.string klb, .int .i64 kkb, .int .i64 kvb, .slice Ab nb cb] (Entry.mk kla kka kva kpa) (Entry.mk klb kkb kvb kpb) ww (up_ent HFa.out hA.bel hA.bel.size) (up_ent HFb.out hA.bel hA.bel.size) (Nat.le_trans HTa.out (by decide)) (Nat.le_trans HTb.out (by decide))) ?_
      rintro e w1 ⟨rfl, hb⟩
      exact ⟨_, rfl, hb, rfl⟩
    · intro aa ww hA K hK
      refine guarded (s := sv (.bool ((eqEntryB (Entry.mk kla kka kva kpa) (Entry.mk klb kkb kvb kpb)) == (eqEntryB (Entry.mk kla kka kva kpa) (Entry.mk klb kkb kvb kpb))))) rfl rfl (hA.got 5 39 (by kernel_rfl)) hK fun hB hK => ?_
      have e42 : aa.tmps.getD 42 undef = .bool (eqEntryB (Entry.mk kla kka kva kpa) (Entry.mk klb kkb kvb kpb)) := (hA.got 8 42 (by kernel_rfl)).1 hB
      have e45 : aa.tmps.getD 45 undef = .bool (eqEntryB (Entry.mk kla kka kva kpa) (Entry.mk klb kkb kvb kpb)) := (hA.got 11 45 (by kernel_rfl)).1 hB
      exact gives hK (v := .bool ((eqEntryB (Entry.mk kla kka kva kpa) (Entry.mk klb kkb kvb kpb)) == (eqEntryB (Entry.mk kla kka kva kpa) (Entry.mk klb kkb kvb kpb)))) (by simp [execOp, Act.eval, e42, e45, binOp, eqGuard, eq_bool, go_sem]) rfl
    · intro aa ww hA K hK
      refine free rfl ?_
      have e39 : aa.tmps.getD 39 undef = .bool (z5) := hA.got 5 39 (by kernel_rfl)
      rcases hq : (z5) with _ | _
      · rw [hq] at e39
        exact gives hK (v := .bool false) (by simp [execOp, Act.eval, e39, asBool, go_sem]) (show Value.bool _ = .bool _ by rw [hq]; simp)
      · have ex : aa.tmps.getD 46 undef = .bool ((eqEntryB (Entry.mk kla kka kva kpa) (Entry.mk klb kkb kvb kpb)) == (eqEntryB (Entry.mk kla kka kva kpa) (Entry.mk klb kkb kvb kpb))) := (hA.got 12 46 (by kernel_rfl)).1 (by rw [hq]; rfl)
        rw [hq] at e39
        exact gives hK (v := .bool ((eqEntryB (Entry.mk kla kka kva kpa) (Entry.mk klb kkb kvb kpb)) == (eqEntryB (Entry.mk kla kka kva kpa) (Entry.mk klb kkb kvb kpb)))) (by simp [execOp, Act.eval, e39, ex, asBool, go_sem]) (show Value.bool _ = .bool _ by rw [hq]; simp)
    · intro aa ww hA K hK
      refine free rfl ?_
      have e47 : aa.tmps.getD 47 undef = .bool ((z5) && ((eqEntryB (Entry.mk kla kka kva kpa) (Entry.mk klb kkb kvb kpb)) == (eqEntryB (Entry.mk kla kka kva kpa) (Entry.mk klb kkb kvb kpb)))) := hA.got 13 47 (by kernel_rfl)
      exact gives hK rfl (show aa.tmps.getD 47 undef = .bool z14 from by rw [e47, Hz14.out])
    · intro aa ww hA K hK
      refine guarded (s := sv (.agg #[.string kla, .int .i64 kka, .int .i64 kva, .slice Aa na ca])) rfl rfl (hA.got 14 48 (by kernel_rfl)) hK fun hB hK => ?_
      have e3 : aa.tmps.getD 3 undef = .pointer (some ⟨W1.heap.size, 0, none⟩) := hA.old 3 (by kernel_rfl)
      have c0 := (hA.bel.cell (p := ⟨W1.heap.size, 0, none⟩) HZa0.out.1).trans HZa0.out.2
      have c1 := (hA.bel.cell (p := ⟨W1.heap.size, 1, none⟩) HZa1.out.1).trans HZa1.out.2
      have c2 := (hA.bel.cell (p := ⟨W1.heap.size, 2, none⟩) HZa2.out.1).trans HZa2.out.2
      have c3 := (hA.bel.cell (p := ⟨W1.heap.size, 3, none⟩) HZa3.out.1).trans HZa3.out.2
      exact gives hK (v := .agg #[.string kla, .int .i64 kka, .int .i64 kva, .slice Aa na ca]) (by simp [execOp, Act.eval, e3, c0, c1, c2, c3, go_sem]) rfl
    · intro aa ww hA K hK
      refine guarded (s := sv (.agg #[.string klb, .int .i64 kkb, .int .i64 kvb, .slice Ab nb cb])) rfl rfl (hA.got 14 48 (by kernel_rfl)) hK fun hB hK => ?_
      have e4 : aa.tmps.getD 4 undef = .pointer (some ⟨W1.heap.size + 1, 0, none⟩) := hA.old 4 (by kernel_rfl)
      have c0 := (hA.bel.cell (p := ⟨W1.heap.size + 1, 0, none⟩) HZb0.out.1).trans HZb0.out.2
      have c1 := (hA.bel.cell (p := ⟨W1.heap.size + 1, 1, none⟩) HZb1.out.1).trans HZb1.out.2
      have c2 := (hA.bel.cell (p := ⟨W1.heap.size + 1, 2, none⟩) HZb2.out.1).trans HZb2.out.2
      have c3 := (hA.bel.cell (p := ⟨W1.heap.size + 1, 3, none⟩) HZb3.out.1).trans HZb3.out.2
      exact gives hK (v := .agg #[.string klb, .int .i64 kkb, .int .i64 kvb, .slice Ab nb cb]) (by simp [execOp, Act.eval, e4, c0, c1, c2, c3, go_sem]) rfl
    · intro aa ww hA K hK
      refine guarded (s := sv (.bool (eqEntryB (Entry.mk kla kka kva kpa) (Entry.mk klb kkb kvb kpb)))) rfl rfl (hA.got 14 48 (by kernel_rfl)) hK fun hB hK => ?_
      have e49 : aa.tmps.getD 49 undef = .agg #[.string kla, .int .i64 kka, .int .i64 kva, .slice Aa na ca] := (hA.got 15 49 (by kernel_rfl)).1 hB
      have e50 : aa.tmps.getD 50 undef = .agg #[.string klb, .int .i64 kkb, .int .i64 kvb, .slice Ab nb cb] := (hA.got 16 50 (by kernel_rfl)).1 hB
      refine calls hK (by simp [Act.eval, e49, e50, go_sem]) (sEqualEntries_any [.string kla, .int .i64 kka, .int .i64 kva, .slice Aa na ca] [.string klb, .int .i64 kkb, .int .i64 kvb, .slice Ab nb cb] (Entry.mk kla kka kva kpa) (Entry.mk klb kkb kvb kpb) ww (up_ent HFa.out hA.bel hA.bel.size) (up_ent HFb.out hA.bel hA.bel.size) (Nat.le_trans HTa.out (by decide)) (Nat.le_trans HTb.out (by decide))) ?_
      rintro e w1 ⟨rfl, hb⟩
      exact ⟨_, rfl, hb, rfl⟩
    · intro aa ww hA K hK
      refine guarded (s := sv (.bool (!(eqEntryB (Entry.mk kla kka kva kpa) (Entry.mk klb kkb kvb kpb))))) rfl rfl (hA.got 14 48 (by kernel_rfl)) hK fun hB hK => ?_
      have e51 : aa.tmps.getD 51 undef = .bool (eqEntryB (Entry.mk kla kka kva kpa) (Entry.mk klb kkb kvb kpb)) := (hA.got 17 51 (by kernel_rfl)).1 hB
      exact gives hK (v := .bool (!(eqEntryB (Entry.mk kla kka kva kpa) (Entry.mk klb kkb kvb kpb)))) (by simp [execOp, Act.eval, e51, Op.unary, go_sem]) rfl
    · intro aa ww hA K hK
      refine guarded (s := sv (.bool (z19))) rfl rfl (hA.got 14 48 (by kernel_rfl)) hK fun hB hK => ?_
      have e52 : aa.tmps.getD 52 undef = .bool (!(eqEntryB (Entry.mk kla kka kva kpa) (Entry.mk klb kkb kvb kpb))) := (hA.got 18 52 (by kernel_rfl)).1 hB
      exact gives hK rfl (show aa.tmps.getD 52 undef = .bool z19 from by rw [e52, Hz19.out])
    · intro aa ww hA K hK
      refine guarded2 (s := sv (.agg #[.string kla, .int .i64 kka, .int .i64 kva, .slice Aa na ca])) rfl rfl (hA.got 19 53 (by kernel_rfl)) hK fun hB hK => ?_
      have e3 : aa.tmps.getD 3 undef = .pointer (some ⟨W1.heap.size, 0, none⟩) := hA.old 3 (by kernel_rfl)
      have c0 := (hA.bel.cell (p := ⟨W1.heap.size, 0, none⟩) HZa0.out.1).trans HZa0.out.2
      have c1 := (hA.bel.cell (p := ⟨W1.heap.size, 1, none⟩) HZa1.out.1).trans HZa1.out.2
      have c2 := (hA.bel.cell (p := ⟨W1.heap.size, 2, none⟩) HZa2.out.1).trans HZa2.out.2
      have c3 := (hA.bel.cell (p := ⟨W1.heap.size, 3, none⟩) HZa3.out.1).trans HZa3.out.2
      exact gives hK (v := .agg #[.string kla, .int .i64 kka, .int .i64 kva, .slice Aa na ca]) (by simp [execOp, Act.eval, e3, c0, c1, c2, c3, go_sem]) rfl
    · intro aa ww hA K hK
      refine guarded2 (s := sv (.int .i64 (leafOf (Entry.mk kla kka kva kpa)))) rfl rfl (hA.got 19 53 (by kernel_rfl)) hK fun hB hK => ?_
      have e54 : aa.tmps.getD 54 undef = .agg #[.string kla, .int .i64 kka, .int .i64 kva, .slice Aa na ca] := (hA.got 20 54 (by kernel_rfl)).1 hB
      refine calls hK (by simp [Act.eval, e54, go_sem]) (iLeafOf_any [.string kla, .int .i64 kka, .int .i64 kva, .slice Aa na ca] (Entry.mk kla kka kva kpa) ww (up_ent HFa.out hA.bel hA.bel.size) HTa.out) ?_
      rintro e w1 ⟨rfl, hb⟩
      exact ⟨_, rfl, hb, rfl⟩
    · intro aa ww hA K hK
      refine guarded2 (s := sv (.agg #[.string klb, .int .i64 kkb, .int .i64 kvb, .slice Ab nb cb])) rfl rfl (hA.got 19 53 (by kernel_rfl)) hK fun hB hK => ?_
      have e4 : aa.tmps.getD 4 undef = .pointer (some ⟨W1.heap.size + 1, 0, none⟩) := hA.old 4 (by kernel_rfl)
      have c0 := (hA.bel.cell (p := ⟨W1.heap.size + 1, 0, none⟩) HZb0.out.1).trans HZb0.out.2
      have c1 := (hA.bel.cell (p := ⟨W1.heap.size + 1, 1, none⟩) HZb1.out.1).trans HZb1.out.2
      have c2 := (hA.bel.cell (p := ⟨W1.heap.size + 1, 2, none⟩) HZb2.out.1).trans HZb2.out.2
      have c3 := (hA.bel.cell (p := ⟨W1.heap.size + 1, 3, none⟩) HZb3.out.1).trans HZb3.out.2
      exact gives hK (v := .agg #[.string klb, .int .i64 kkb, .int .i64 kvb, .slice Ab nb cb]) (by simp [execOp, Act.eval, e4, c0, c1, c2, c3, go_sem]) rfl
    · intro aa ww hA K hK
      refine guarded2 (s := sv (.int .i64 (leafOf (Entry.mk klb kkb kvb kpb)))) rfl rfl (hA.got 19 53 (by kernel_rfl)) hK fun hB hK => ?_
      have e56 : aa.tmps.getD 56 undef = .agg #[.string klb, .int .i64 kkb, .int .i64 kvb, .slice Ab nb cb] := (hA.got 22 56 (by kernel_rfl)).1 hB
      refine calls hK (by simp [Act.eval, e56, go_sem]) (iLeafOf_any [.string klb, .int .i64 kkb, .int .i64 kvb, .slice Ab nb cb] (Entry.mk klb kkb kvb kpb) ww (up_ent HFb.out hA.bel hA.bel.size) HTb.out) ?_
      rintro e w1 ⟨rfl, hb⟩
      exact ⟨_, rfl, hb, rfl⟩
    · intro aa ww hA K hK
      refine guarded2 (s := sv (.bool ((leafOf (Entry.mk kla kka kva kpa) : Int) == (leafOf (Entry.mk klb kkb kvb kpb) : Int)))) rfl rfl (hA.got 19 53 (by kernel_rfl)) hK fun hB hK => ?_
      have e55 : aa.tmps.getD 55 undef = .int .i64 (leafOf (Entry.mk kla kka kva kpa)) := (hA.got 21 55 (by kernel_rfl)).1 hB
      have e57 : aa.tmps.getD 57 undef = .int .i64 (leafOf (Entry.mk klb kkb kvb kpb)) := (hA.got 23 57 (by kernel_rfl)).1 hB
      exact gives hK (v := .bool ((leafOf (Entry.mk kla kka kva kpa) : Int) == (leafOf (Entry.mk klb kkb kvb kpb) : Int))) (by simp [execOp, Act.eval, e55, e57, binOp, eqGuard, go_sem]) rfl
    · intro aa ww hA K hK
      refine guarded (s := sv (.bool ((z19) || ((leafOf (Entry.mk kla kka kva kpa) : Int) == (leafOf (Entry.mk klb kkb kvb kpb) : Int))))) rfl rfl (hA.got 14 48 (by kernel_rfl)) hK fun hB hK => ?_
      have e53 : aa.tmps.getD 53 undef = .bool (z19) := (hA.got 19 53 (by kernel_rfl)).1 hB
      rcases hq : (z19) with _ | _
      · have ex : aa.tmps.getD 58 undef = .bool ((leafOf (Entry.mk kla kka kva kpa) : Int) == (leafOf (Entry.mk klb kkb kvb kpb) : Int)) := (hA.got 24 58 (by kernel_rfl)).1 (and_i hB (by rw [hq]; rfl))
        rw [hq] at e53
        exact gives hK (v := .bool ((leafOf (Entry.mk kla kka kva kpa) : Int) == (leafOf (Entry.mk klb kkb kvb kpb) : Int))) (by simp [execOp, Act.eval, e53, ex, asBool, go_sem]) (show Value.bool _ = .bool _ by rw [hq]; simp)
      · rw [hq] at e53
        exact gives hK (v := .bool true) (by simp [execOp, Act.eval, e53, asBool, go_sem]) (show Value.bool _ = .bool _ by rw [hq]; simp)
    · intro aa ww hA K hK
      refine free rfl ?_
      have e48 : aa.tmps.getD 48 undef = .bool (z14) := hA.got 14 48 (by kernel_rfl)
      rcases hq : (z14) with _ | _
      · rw [hq] at e48
        exact gives hK (v := .bool false) (by simp [execOp, Act.eval, e48, asBool, go_sem]) (show Value.bool _ = .bool _ by rw [hq]; simp)
      · have ex : aa.tmps.getD 59 undef = .bool ((z19) || ((leafOf (Entry.mk kla kka kva kpa) : Int) == (leafOf (Entry.mk klb kkb kvb kpb) : Int))) := (hA.got 25 59 (by kernel_rfl)).1 (by rw [hq]; rfl)
        rw [hq] at e48
        exact gives hK (v := .bool ((z19) || ((leafOf (Entry.mk kla kka kva kpa) : Int) == (leafOf (Entry.mk klb kkb kvb kpb) : Int)))) (by simp [execOp, Act.eval, e48, ex, asBool, go_sem]) (show Value.bool _ = .bool _ by rw [hq]; simp)
    · intro aa ww hA K hK
      refine free rfl ?_
      have e60 : aa.tmps.getD 60 undef = .bool ((z14) && ((z19) || ((leafOf (Entry.mk kla kka kva kpa) : Int) == (leafOf (Entry.mk klb kkb kvb kpb) : Int)))) := hA.got 26 60 (by kernel_rfl)
      exact gives hK rfl (show aa.tmps.getD 60 undef = .bool z27 from by rw [e60, Hz27.out])
    · intro aa ww hA K hK
      refine guarded (s := sv (.agg #[.string kla, .int .i64 kka, .int .i64 kva, .slice Aa na ca])) rfl rfl (hA.got 27 61 (by kernel_rfl)) hK fun hB hK => ?_
      have e3 : aa.tmps.getD 3 undef = .pointer (some ⟨W1.heap.size, 0, none⟩) := hA.old 3 (by kernel_rfl)
      have c0 := (hA.bel.cell (p := ⟨W1.heap.size, 0, none⟩) HZa0.out.1).trans HZa0.out.2
      have c1 := (hA.bel.cell (p := ⟨W1.heap.size, 1, none⟩) HZa1.out.1).trans HZa1.out.2
      have c2 := (hA.bel.cell (p := ⟨W1.heap.size, 2, none⟩) HZa2.out.1).trans HZa2.out.2
      have c3 := (hA.bel.cell (p := ⟨W1.heap.size, 3, none⟩) HZa3.out.1).trans HZa3.out.2
      exact gives hK (v := .agg #[.string kla, .int .i64 kka, .int .i64 kva, .slice Aa na ca]) (by simp [execOp, Act.eval, e3, c0, c1, c2, c3, go_sem]) rfl
    · intro aa ww hA K hK
      refine guarded (s := sv (.int .i64 (leafOf (Entry.mk kla kka kva kpa)))) rfl rfl (hA.got 27 61 (by kernel_rfl)) hK fun hB hK => ?_
      have e62 : aa.tmps.getD 62 undef = .agg #[.string kla, .int .i64 kka, .int .i64 kva, .slice Aa na ca] := (hA.got 28 62 (by kernel_rfl)).1 hB
      refine calls hK (by simp [Act.eval, e62, go_sem]) (sLeafOf_any [.string kla, .int .i64 kka, .int .i64 kva, .slice Aa na ca] (Entry.mk kla kka kva kpa) ww (up_ent HFa.out hA.bel hA.bel.size) HTa.out) ?_
      rintro e w1 ⟨rfl, hb⟩
      exact ⟨_, rfl, hb, rfl⟩
    · intro aa ww hA K hK
      refine guarded (s := sv (.agg #[.string klb, .int .i64 kkb, .int .i64 kvb, .slice Ab nb cb])) rfl rfl (hA.got 27 61 (by kernel_rfl)) hK fun hB hK => ?_
      have e4 : aa.tmps.getD 4 undef = .pointer (some ⟨W1.heap.size + 1, 0, none⟩) := hA.old 4 (by kernel_rfl)
      have c0 := (hA.bel.cell (p := ⟨W1.heap.size + 1, 0, none⟩) HZb0.out.1).trans HZb0.out.2
      have c1 := (hA.bel.cell (p := ⟨W1.heap.size + 1, 1, none⟩) HZb1.out.1).trans HZb1.out.2
      have c2 := (hA.bel.cell (p := ⟨W1.heap.size + 1, 2, none⟩) HZb2.out.1).trans HZb2.out.2
      have c3 := (hA.bel.cell (p := ⟨W1.heap.size + 1, 3, none⟩) HZb3.out.1).trans HZb3.out.2
      exact gives hK (v := .agg #[.string klb, .int .i64 kkb, .int .i64 kvb, .slice Ab nb cb]) (by simp [execOp, Act.eval, e4, c0, c1, c2, c3, go_sem]) rfl
    · intro aa ww hA K hK
      refine guarded (s := sv (.int .i64 (leafOf (Entry.mk klb kkb kvb kpb)))) rfl rfl (hA.got 27 61 (by kernel_rfl)) hK fun hB hK => ?_
      have e64 : aa.tmps.getD 64 undef = .agg #[.string klb, .int .i64 kkb, .int .i64 kvb, .slice Ab nb cb] := (hA.got 30 64 (by kernel_rfl)).1 hB
      refine calls hK (by simp [Act.eval, e64, go_sem]) (sLeafOf_any [.string klb, .int .i64 kkb, .int .i64 kvb, .slice Ab nb cb] (Entry.mk klb kkb kvb kpb) ww (up_ent HFb.out hA.bel hA.bel.size) HTb.out) ?_
      rintro e w1 ⟨rfl, hb⟩
      exact ⟨_, rfl, hb, rfl⟩
    · intro aa ww hA K hK
      refine guarded (s := sv (.bool ((leafOf (Entry.mk kla kka kva kpa) : Int) == (leafOf (Entry.mk klb kkb kvb kpb) : Int)))) rfl rfl (hA.got 27 61 (by kernel_rfl)) hK fun hB hK => ?_
      have e63 : aa.tmps.getD 63 undef = .int .i64 (leafOf (Entry.mk kla kka kva kpa)) := (hA.got 29 63 (by kernel_rfl)).1 hB
      have e65 : aa.tmps.getD 65 undef = .int .i64 (leafOf (Entry.mk klb kkb kvb kpb)) := (hA.got 31 65 (by kernel_rfl)).1 hB
      exact gives hK (v := .bool ((leafOf (Entry.mk kla kka kva kpa) : Int) == (leafOf (Entry.mk klb kkb kvb kpb) : Int))) (by simp [execOp, Act.eval, e63, e65, binOp, eqGuard, go_sem]) rfl
    · intro aa ww hA K hK
      refine guarded (s := sv (.bool (z33))) rfl rfl (hA.got 27 61 (by kernel_rfl)) hK fun hB hK => ?_
      have e66 : aa.tmps.getD 66 undef = .bool ((leafOf (Entry.mk kla kka kva kpa) : Int) == (leafOf (Entry.mk klb kkb kvb kpb) : Int)) := (hA.got 32 66 (by kernel_rfl)).1 hB
      exact gives hK rfl (show aa.tmps.getD 66 undef = .bool z33 from by rw [e66, Hz33.out])
    · intro aa ww hA K hK
      refine guarded2 (s := sv (.agg #[.string kla, .int .i64 kka, .int .i64 kva, .slice Aa na ca])) rfl rfl (hA.got 33 67 (by kernel_rfl)) hK fun hB hK => ?_
      have e3 : aa.tmps.getD 3 undef = .pointer (some ⟨W1.heap.size, 0, none⟩) := hA.old 3 (by kernel_rfl)
      have c0 := (hA.bel.cell (p := ⟨W1.heap.size, 0, none⟩) HZa0.out.1).trans HZa0.out.2
      have c1 := (hA.bel.cell (p := ⟨W1.heap.size, 1, none⟩) HZa1.out.1).trans HZa1.out.2
      have c2 := (hA.bel.cell (p := ⟨W1.heap.size, 2, none⟩) HZa2.out.1).trans HZa2.out.2
      have c3 := (hA.bel.cell (p := ⟨W1.heap.size, 3, none⟩) HZa3.out.1).trans HZa3.out.2
      exact gives hK (v := .agg #[.string kla, .int .i64 kka, .int .i64 kva, .slice Aa na ca]) (by simp [execOp, Act.eval, e3, c0, c1, c2, c3, go_sem]) rfl
    · intro aa ww hA K hK
      refine guarded2 (s := sv (.int .i64 (leafOf (Entry.mk kla kka kva kpa)))) rfl rfl (hA.got 33 67 (by kernel_rfl)) hK fun hB hK => ?_
      have e68 : aa.tmps.getD 68 undef = .agg #[.string kla, .int .i64 kka, .int .i64 kva, .slice Aa na ca] := (hA.got 34 68 (by kernel_rfl)).1 hB
      refine calls hK (by simp [Act.eval, e68, go_sem]) (iLeafOf_any [.string kla, .int .i64 kka, .int .i64 kva, .slice Aa na ca] (Entry.mk kla kka kva kpa) ww (up_ent HFa.out hA.bel hA.bel.size) HTa.out) ?_
      rintro e w1 ⟨rfl, hb⟩
      exact ⟨_, rfl, hb, rfl⟩
    · intro aa ww hA K hK
      refine guarded2 (s := sv (.agg #[.string klb, .int .i64 kkb, .int .i64 kvb, .slice Ab nb cb])) rfl rfl (hA.got 33 67 (by kernel_rfl)) hK fun hB hK => ?_
      have e4 : aa.tmps.getD 4 undef = .pointer (some ⟨W1.heap.size + 1, 0, none⟩) := hA.old 4 (by kernel_rfl)
      have c0 := (hA.bel.cell (p := ⟨W1.heap.size + 1, 0, none⟩) HZb0.out.1).trans HZb0.out.2
      have c1 := (hA.bel.cell (p := ⟨W1.heap.size + 1, 1, none⟩) HZb1.out.1).trans HZb1.out.2
      have c2 := (hA.bel.cell (p := ⟨W1.heap.size + 1, 2, none⟩) HZb2.out.1).trans HZb2.out.2
      have c3 := (hA.bel.cell (p := ⟨W1.heap.size + 1, 3, none⟩) HZb3.out.1).trans HZb3.out.2
      exact gives hK (v := .agg #[.string klb, .int .i64 kkb, .int .i64 kvb, .slice Ab nb cb]) (by simp [execOp, Act.eval, e4, c0, c1, c2, c3, go_sem]) rfl
    · intro aa ww hA K hK
      refine guarded2 (s := sv (.int .i64 (leafOf (Entry.mk klb kkb kvb kpb)))) rfl rfl (hA.got 33 67 (by kernel_rfl)) hK fun hB hK => ?_
      have e70 : aa.tmps.getD 70 undef = .agg #[.string klb, .int .i64 kkb, .int .i64 kvb, .slice Ab nb cb] := (hA.got 36 70 (by kernel_rfl)).1 hB
      refine calls hK (by simp [Act.eval, e70, go_sem]) (iLeafOf_any [.string klb, .int .i64 kkb, .int .i64 kvb, .slice Ab nb cb] (Entry.mk klb kkb kvb kpb) ww (up_ent HFb.out hA.bel hA.bel.size) HTb.out) ?_
      rintro e w1 ⟨rfl, hb⟩
      exact ⟨_, rfl, hb, rfl⟩
    · intro aa ww hA K hK
      refine guarded2 (s := sv (.bool ((leafOf (Entry.mk kla kka kva kpa) : Int) != (leafOf (Entry.mk klb kkb kvb kpb) : Int)))) rfl rfl (hA.got 33 67 (by kernel_rfl)) hK fun hB hK => ?_
      have e69 : aa.tmps.getD 69 undef = .int .i64 (leafOf (Entry.mk kla kka kva kpa)) := (hA.got 35 69 (by kernel_rfl)).1 hB
      have e71 : aa.tmps.getD 71 undef = .int .i64 (leafOf (Entry.mk klb kkb kvb kpb)) := (hA.got 37 71 (by kernel_rfl)).1 hB
      exact gives hK (v := .bool ((leafOf (Entry.mk kla kka kva kpa) : Int) != (leafOf (Entry.mk klb kkb kvb kpb) : Int))) (by simp [execOp, Act.eval, e69, e71, binOp, eqGuard, go_sem]) rfl
    · intro aa ww hA K hK
      refine guarded (s := sv (.bool ((z33) || ((leafOf (Entry.mk kla kka kva kpa) : Int) != (leafOf (Entry.mk klb kkb kvb kpb) : Int))))) rfl rfl (hA.got 27 61 (by kernel_rfl)) hK fun hB hK => ?_
      have e67 : aa.tmps.getD 67 undef = .bool (z33) := (hA.got 33 67 (by kernel_rfl)).1 hB
      rcases hq : (z33) with _ | _
      · have ex : aa.tmps.getD 72 undef = .bool ((leafOf (Entry.mk kla kka kva kpa) : Int) != (leafOf (Entry.mk klb kkb kvb kpb) : Int)) := (hA.got 38 72 (by kernel_rfl)).1 (and_i hB (by rw [hq]; rfl))
        rw [hq] at e67
        exact gives hK (v := .bool ((leafOf (Entry.mk kla kka kva kpa) : Int) != (leafOf (Entry.mk klb kkb kvb kpb) : Int))) (by simp [execOp, Act.eval, e67, ex, asBool, go_sem]) (show Value.bool _ = .bool _ by rw [hq]; simp)
      · rw [hq] at e67
        exact gives hK (v := .bool true) (by simp [execOp, Act.eval, e67, asBool, go_sem]) (show Value.bool _ = .bool _ by rw [hq]; simp)
    · intro aa ww hA K hK
      refine free rfl ?_
      have e61 : aa.tmps.getD 61 undef = .bool (z27) := hA.got 27 61 (by kernel_rfl)
      rcases hq : (z27) with _ | _
      · rw [hq] at e61
        exact gives hK (v := .bool false) (by simp [execOp, Act.eval, e61, asBool, go_sem]) (show Value.bool _ = .bool _ by rw [hq]; simp)
      · have ex : aa.tmps.getD 73 undef = .bool ((z33) || ((leafOf (Entry.mk kla kka kva kpa) : Int) != (leafOf (Entry.mk klb kkb kvb kpb) : Int))) := (hA.got 39 73 (by kernel_rfl)).1 (by rw [hq]; rfl)
        rw [hq] at e61
        exact gives hK (v := .bool ((z33) || ((leafOf (Entry.mk kla kka kva kpa) : Int) != (leafOf (Entry.mk klb kkb kvb kpb) : Int)))) (by simp [execOp, Act.eval, e61, ex, asBool, go_sem]) (show Value.bool _ = .bool _ by rw [hq]; simp)
    · intro aa ww hA K hK
      refine free rfl ?_
      have e74 : aa.tmps.getD 74 undef = .bool ((z27) && ((z33) || ((leafOf (Entry.mk kla kka kva kpa) : Int) != (leafOf (Entry.mk klb kkb kvb kpb) : Int)))) := hA.got 40 74 (by kernel_rfl)
      exact gives hK rfl (show aa.tmps.getD 74 undef = .bool z41 from by rw [e74, Hz41.out])
    · intro aa ww hA K hK
      refine guarded (s := sv (.agg #[.string s, .int .i64 1, .int .i64 x, .slice Av nv cv])) rfl rfl (hA.got 41 75 (by kernel_rfl)) hK fun hB hK => ?_
      have e8 : aa.tmps.getD 8 undef = .pointer (some ⟨W3.heap.size, 0, none⟩) := hA.old 8 (by kernel_rfl)
      have c0 := (hA.bel.cell (p := ⟨W3.heap.size, 0, none⟩) HZv0.out.1).trans HZv0.out.2
      have c1 := (hA.bel.cell (p := ⟨W3.heap.size, 1, none⟩) HZv1.out.1).trans HZv1.out.2
      have c2 := (hA.bel.cell (p := ⟨W3.heap.size, 2, none⟩) HZv2.out.1).trans HZv2.out.2
      have c3 := (hA.bel.cell (p := ⟨W3.heap.size, 3, none⟩) HZv3.out.1).trans HZv3.out.2
      exact gives hK (v := .agg #[.string s, .int .i64 1, .int .i64 x, .slice Av nv cv]) (by simp [execOp, Act.eval, e8, c0, c1, c2, c3, go_sem]) rfl
    · intro aa ww hA K hK
      refine guarded (s := sv (.string (s))) rfl rfl (hA.got 41 75 (by kernel_rfl)) hK fun hB hK => ?_
      exact gives hK rfl (hA.old 5 (by kernel_rfl))
    · intro aa ww hA K hK
      refine guarded (s := sv (.int .i64 (x))) rfl rfl (hA.got 41 75 (by kernel_rfl)) hK fun hB hK => ?_
      exact gives hK rfl (hA.old 6 (by kernel_rfl))
    · intro aa ww hA K hK
      refine guarded (s := srep REntry (Entry.mk s 1 x [])) rfl rfl (hA.got 41 75 (by kernel_rfl)) hK fun hB hK => ?_
      have e77 : aa.tmps.getD 77 undef = .string (s) := (hA.got 43 77 (by kernel_rfl)).1 hB
      have e78 : aa.tmps.getD 78 undef = .int .i64 (x) := (hA.got 44 78 (by kernel_rfl)).1 hB
      refine calls hK (by simp [Act.eval, e77, e78, go_sem]) (sValueEntry_any s x ww HIs.out HIx.out) ?_
      rintro e w1 ⟨u1, rfl, hu1, hb⟩
      exact ⟨_, rfl, hb, srep_rd hu1.rd⟩
    · intro aa ww hA K hK
      refine guarded (s := sv (.bool (eqEntryB (Entry.mk s 1 x []) (Entry.mk s 1 x [])))) rfl rfl (hA.got 41 75 (by kernel_rfl)) hK fun hB hK => ?_
      have e76 : aa.tmps.getD 76 undef = .agg #[.string s, .int .i64 1, .int .i64 x, .slice Av nv cv] := (hA.got 42 76 (by kernel_rfl)).1 hB
      obtain ⟨q79, e79, h79⟩ := (hA.got 45 79 (by kernel_rfl)).1 hB
      refine calls hK (by simp [Act.eval, e76, e79, go_sem]) (iEqualEntries_any [.string s, .int .i64 1, .int .i64 x, .slice Av nv cv] q79 (Entry.mk s 1 x []) (Entry.mk s 1 x []) ww (up_ent HFv.out hA.bel hA.bel.size) h79 (Nat.le_trans HTv.out (by decide)) (Nat.le_trans HTv.out (by decide))) ?_
      rintro e w1 ⟨rfl, hb⟩
      exact ⟨_, rfl, hb, rfl⟩
    · intro aa ww hA K hK
      refine free rfl ?_
      have e75 : aa.tmps.getD 75 undef = .bool (z41) := hA.got 41 75 (by kernel_rfl)
      rcases hq : (z41) with _ | _
      · rw [hq] at e75
        exact gives hK (v := .bool false) (by simp [execOp, Act.eval, e75, asBool, go_sem]) (show Value.bool _ = .bool _ by rw [hq]; simp)
      · have ex : aa.tmps.getD 80 undef = .bool (eqEntryB (Entry.mk s 1 x []) (Entry.mk s 1 x [])) := (hA.got 46 80 (by kernel_rfl)).1 (by rw [hq]; rfl)
        rw [hq] at e75
        exact gives hK (v := .bool (eqEntryB (Entry.mk s 1 x []) (Entry.mk s 1 x []))) (by simp [execOp, Act.eval, e75, ex, asBool, go_sem]) (show Value.bool _ = .bool _ by rw [hq]; simp)
    · intro aa ww hA K hK
      refine free rfl ?_
      have e81 : aa.tmps.getD 81 undef = .bool ((z41) && (eqEntryB (Entry.mk s 1 x []) (Entry.mk s 1 x []))) := hA.got 47 81 (by kernel_rfl)
      exact gives hK rfl (show aa.tmps.getD 81 undef = .bool z48 from by rw [e81, Hz48.out])
    · intro aa ww hA K hK
      refine guarded (s := sv (.agg #[.string s, .int .i64 2, .int .i64 x, .slice Az nz cz])) rfl rfl (hA.got 48 82 (by kernel_rfl)) hK fun hB hK => ?_
      have e9 : aa.tmps.getD 9 undef = .pointer (some ⟨W4.heap.size, 0, none⟩) := hA.old 9 (by kernel_rfl)
      have c0 := (hA.bel.cell (p := ⟨W4.heap.size, 0, none⟩) HZz0.out.1).trans HZz0.out.2
      have c1 := (hA.bel.cell (p := ⟨W4.heap.size, 1, none⟩) HZz1.out.1).trans HZz1.out.2
      have c2 := (hA.bel.cell (p := ⟨W4.heap.size, 2, none⟩) HZz2.out.1).trans HZz2.out.2
      have c3 := (hA.bel.cell (p := ⟨W4.heap.size, 3, none⟩) HZz3.out.1).trans HZz3.out.2
      exact gives hK (v := .agg #[.string s, .int .i64 2, .int .i64 x, .slice Az nz cz]) (by simp [execOp, Act.eval, e9, c0, c1, c2, c3, go_sem]) rfl
    · intro aa ww hA K hK
      refine guarded (s := sv (.string (s))) rfl rfl (hA.got 48 82 (by kernel_rfl)) hK fun hB hK => ?_
      exact gives hK rfl (hA.old 5 (by kernel_rfl))
    · intro aa ww hA K hK
      refine guarded (s := sv (.int .i64 (x))) rfl rfl (hA.got 48 82 (by kernel_rfl)) hK fun hB hK => ?_
      exact gives hK rfl (hA.old 6 (by kernel_rfl))
    · intro aa ww hA K hK
      refine guarded (s := srep REntry (Entry.mk s 2 x [])) rfl rfl (hA.got 48 82 (by kernel_rfl)) hK fun hB hK => ?_
      have e84 : aa.tmps.getD 84 undef = .string (s) := (hA.got 50 84 (by kernel_rfl)).1 hB
      have e85 : aa.tmps.getD 85 undef = .int .i64 (x) := (hA.got 51 85 (by kernel_rfl)).1 hB
      refine calls hK (by simp [Act.eval, e84, e85, go_sem]) (sZoneEntry_any s x ww HIs.out HIx.out) ?_
      rintro e w1 ⟨u1, rfl, hu1, hb⟩
      exact ⟨_, rfl, hb, srep_rd hu1.rd⟩
    · intro aa ww hA K hK
      refine guarded (s := sv (.bool (eqEntryB (Entry.mk s 2 x []) (Entry.mk s 2 x [])))) rfl rfl (hA.got 48 82 (by kernel_rfl)) hK fun hB hK => ?_
      have e83 : aa.tmps.getD 83 undef = .agg #[.string s, .int .i64 2, .int .i64 x, .slice Az nz cz] := (hA.got 49 83 (by kernel_rfl)).1 hB
      obtain ⟨q86, e86, h86⟩ := (hA.got 52 86 (by kernel_rfl)).1 hB
      refine calls hK (by simp [Act.eval, e83, e86, go_sem]) (iEqualEntries_any [.string s, .int .i64 2, .int .i64 x, .slice Az nz cz] q86 (Entry.mk s 2 x []) (Entry.mk s 2 x []) ww (up_ent HFz.out hA.bel hA.bel.size) h86 (Nat.le_trans HTz.out (by decide)) (Nat.le_trans HTz.out (by decide))) ?_
      rintro e w1 ⟨rfl, hb⟩
      exact ⟨_, rfl, hb, rfl⟩
    · intro aa ww hA K hK
      refine free rfl ?_
      have e82 : aa.tmps.getD 82 undef = .bool (z48) := hA.got 48 82 (by kernel_rfl)
      rcases hq : (z48) with _ | _
      · rw [hq] at e82
        exact gives hK (v := .bool false) (by simp [execOp, Act.eval, e82, asBool, go_sem]) (show Value.bool _ = .bool _ by rw [hq]; simp)
      · have ex : aa.tmps.getD 87 undef = .bool (eqEntryB (Entry.mk s 2 x []) (Entry.mk s 2 x [])) := (hA.got 53 87 (by kernel_rfl)).1 (by rw [hq]; rfl)
        rw [hq] at e82
        exact gives hK (v := .bool (eqEntryB (Entry.mk s 2 x []) (Entry.mk s 2 x []))) (by simp [execOp, Act.eval, e82, ex, asBool, go_sem]) (show Value.bool _ = .bool _ by rw [hq]; simp)
    · intro aa ww hA K hK
      refine free rfl ?_
      have e88 : aa.tmps.getD 88 undef = .bool ((z48) && (eqEntryB (Entry.mk s 2 x []) (Entry.mk s 2 x []))) := hA.got 54 88 (by kernel_rfl)
      exact gives hK rfl (show aa.tmps.getD 88 undef = .bool z55 from by rw [e88, Hz55.out])
    · intro aa ww hA K hK
      refine guarded (s := sv (.agg #[.string s, .int .i64 3, .int .i64 x, .slice Am nm cm])) rfl rfl (hA.got 55 89 (by kernel_rfl)) hK fun hB hK => ?_
      have e10 : aa.tmps.getD 10 undef = .pointer (some ⟨W5.heap.size, 0, none⟩) := hA.old 10 (by kernel_rfl)
      have c0 := (hA.bel.cell (p := ⟨W5.heap.size, 0, none⟩) HZm0.out.1).trans HZm0.out.2
      have c1 := (hA.bel.cell (p := ⟨W5.heap.size, 1, none⟩) HZm1.out.1).trans HZm1.out.2
      have c2 := (hA.bel.cell (p := ⟨W5.heap.size, 2, none⟩) HZm2.out.1).trans HZm2.out.2
      have c3 := (hA.bel.cell (p := ⟨W5.heap.size, 3, none⟩) HZm3.out.1).trans HZm3.out.2
      exact gives hK (v := .agg #[.string s, .int .i64 3, .int .i64 x, .slice Am nm cm]) (by simp [execOp, Act.eval, e10, c0, c1, c2, c3, go_sem]) rfl
    · intro aa ww hA K hK
      refine guarded (s := sv (.string (s))) rfl rfl (hA.got 55 89 (by kernel_rfl)) hK fun hB hK => ?_
      exact gives hK rfl (hA.old 5 (by kernel_rfl))
    · intro aa ww hA K hK
      refine guarded (s := sv (.int .i64 (x))) rfl rfl (hA.got 55 89 (by kernel_rfl)) hK fun hB hK => ?_
      exact gives hK rfl (hA.old 6 (by kernel_rfl))
    · intro aa ww hA K hK
      refine guarded (s := sv (.slice Ap np cp)) rfl rfl (hA.got 55 89 (by kernel_rfl)) hK fun hB hK => ?_
      exact gives hK rfl (hA.old 7 (by kernel_rfl))
    · intro aa ww hA K hK
      refine guarded (s := srep REntry (Entry.mk s 3 x p)) rfl rfl (hA.got 55 89 (by kernel_rfl)) hK fun hB hK => ?_
      have e91 : aa.tmps.getD 91 undef = .string (s) := (hA.got 57 91 (by kernel_rfl)).1 hB
      have e92 : aa.tmps.getD 92 undef = .int .i64 (x) := (hA.got 58 92 (by kernel_rfl)).1 hB
      have e93 : aa.tmps.getD 93 undef = .slice Ap np cp := (hA.got 59 93 (by kernel_rfl)).1 hB
      refine calls hK (by simp [Act.eval, e91, e92, e93, go_sem]) (sMovedEntry_any s x Ap np cp p ww HIs.out HIx.out (up_s HPp.out hA.bel hA.bel.size) HQ.out.1) ?_
      rintro e w1 ⟨u1, rfl, hu1, hb⟩
      exact ⟨_, rfl, hb, srep_rd hu1.rd⟩
    · intro aa ww hA K hK
      refine guarded (s := sv (.bool (eqEntryB (Entry.mk s 3 x p) (Entry.mk s 3 x p)))) rfl rfl (hA.got 55 89 (by kernel_rfl)) hK fun hB hK => ?_
      have e90 : aa.tmps.getD 90 undef = .agg #[.string s, .int .i64 3, .int .i64 x, .slice Am nm cm] := (hA.got 56 90 (by kernel_rfl)).1 hB
      obtain ⟨q94, e94, h94⟩ := (hA.got 60 94 (by kernel_rfl)).1 hB
      refine calls hK (by simp [Act.eval, e90, e94, go_sem]) (iEqualEntries_any [.string s, .int .i64 3, .int .i64 x, .slice Am nm cm] q94 (Entry.mk s 3 x p) (Entry.mk s 3 x p) ww (up_ent HFm.out hA.bel hA.bel.size) h94 (Nat.le_trans HTm.out (by decide)) (Nat.le_trans HTm.out (by decide))) ?_
      rintro e w1 ⟨rfl, hb⟩
      exact ⟨_, rfl, hb, rfl⟩
    · intro aa ww hA K hK
      refine free rfl ?_
      have e89 : aa.tmps.getD 89 undef = .bool (z55) := hA.got 55 89 (by kernel_rfl)
      rcases hq : (z55) with _ | _
      · rw [hq] at e89
        exact gives hK (v := .bool false) (by simp [execOp, Act.eval, e89, asBool, go_sem]) (show Value.bool _ = .bool _ by rw [hq]; simp)
      · have ex : aa.tmps.getD 95 undef = .bool (eqEntryB (Entry.mk s 3 x p) (Entry.mk s 3 x p)) := (hA.got 61 95 (by kernel_rfl)).1 (by rw [hq]; rfl)
        rw [hq] at e89
        exact gives hK (v := .bool (eqEntryB (Entry.mk s 3 x p) (Entry.mk s 3 x p))) (by simp [execOp, Act.eval, e89, ex, asBool, go_sem]) (show Value.bool _ = .bool _ by rw [hq]; simp)
    · intro aa ww hA K hK
      refine free rfl ?_
      have e96 : aa.tmps.getD 96 undef = .bool ((z55) && (eqEntryB (Entry.mk s 3 x p) (Entry.mk s 3 x p))) := hA.got 62 96 (by kernel_rfl)
      exact gives hK rfl (show aa.tmps.getD 96 undef = .bool z63 from by rw [e96, Hz63.out])
    · intro aa ww hA K hK
      refine guarded (s := sv (.agg #[.string s, .int .i64 1, .int .i64 x, .slice Av nv cv])) rfl rfl (hA.got 63 97 (by kernel_rfl)) hK fun hB hK => ?_
      have e8 : aa.tmps.getD 8 undef = .pointer (some ⟨W3.heap.size, 0, none⟩) := hA.old 8 (by kernel_rfl)
      have c0 := (hA.bel.cell (p := ⟨W3.heap.size, 0, none⟩) HZv0.out.1).trans HZv0.out.2
      have c1 := (hA.bel.cell (p := ⟨W3.heap.size, 1, none⟩) HZv1.out.1).trans HZv1.out.2
      have c2 := (hA.bel.cell (p := ⟨W3.heap.size, 2, none⟩) HZv2.out.1).trans HZv2.out.2
      have c3 := (hA.bel.cell (p := ⟨W3.heap.size, 3, none⟩) HZv3.out.1).trans HZv3.out.2
      exact gives hK (v := .agg #[.string s, .int .i64 1, .int .i64 x, .slice Av nv cv]) (by simp [execOp, Act.eval, e8, c0, c1, c2, c3, go_sem]) rfl
    · intro aa ww hA K hK
      refine guarded (s := sv (.bool (isEntry (Entry.mk s 1 x [])))) rfl rfl (hA.got 63 97 (by kernel_rfl)) hK fun hB hK => ?_
      have e98 : aa.tmps.getD 98 undef = .agg #[.string s, .int .i64 1, .int .i64 x, .slice Av nv cv] := (hA.got 64 98 (by kernel_rfl)).1 hB
      refine calls hK (by simp [Act.eval, e98, go_sem]) (iIsEntry_any [.string s, .int .i64 1, .int .i64 x, .slice Av nv cv] (Entry.mk s 1 x []) ww (up_ent HFv.out hA.bel hA.bel.size) (Nat.le_trans HTv.out (by decide))) ?_
      rintro e w1 ⟨rfl, hb⟩
      exact ⟨_, rfl, hb, rfl⟩
    · intro aa ww hA K hK
      refine guarded (s := sv (.string (s))) rfl rfl (hA.got 63 97 (by kernel_rfl)) hK fun hB hK => ?_
      exact gives hK rfl (hA.old 5 (by kernel_rfl))
    · intro aa ww hA K hK
      refine guarded (s := sv (.bool (isLab s))) rfl rfl (hA.got 63 97 (by kernel_rfl)) hK fun hB hK => ?_
      have e100 : aa.tmps.getD 100 undef = .string (s) := (hA.got 66 100 (by kernel_rfl)).1 hB
      refine calls hK (by simp [Act.eval, e100, go_sem]) (iIsLabel_b s ww HSZ.out) ?_
      rintro e w1 ⟨rfl, hb⟩
      exact ⟨_, rfl, hb, rfl⟩
    · intro aa ww hA K hK
      refine guarded (s := sv (.bool ((isEntry (Entry.mk s 1 x [])) == (isLab s)))) rfl rfl (hA.got 63 97 (by kernel_rfl)) hK fun hB hK => ?_
      have e99 : aa.tmps.getD 99 undef = .bool (isEntry (Entry.mk s 1 x [])) := (hA.got 65 99 (by kernel_rfl)).1 hB
      have e101 : aa.tmps.getD 101 undef = .bool (isLab s) := (hA.got 67 101 (by kernel_rfl)).1 hB
      exact gives hK (v := .bool ((isEntry (Entry.mk s 1 x [])) == (isLab s))) (by simp [execOp, Act.eval, e99, e101, binOp, eqGuard, eq_bool, go_sem]) rfl
    · intro aa ww hA K hK
      refine free rfl ?_
      have e97 : aa.tmps.getD 97 undef = .bool (z63) := hA.got 63 97 (by kernel_rfl)
      rcases hq : (z63) with _ | _
      · rw [hq] at e97
        exact gives hK (v := .bool false) (by simp [execOp, Act.eval, e97, asBool, go_sem]) (show Value.bool _ = .bool _ by rw [hq]; simp)
      · have ex : aa.tmps.getD 102 undef = .bool ((isEntry (Entry.mk s 1 x [])) == (isLab s)) := (hA.got 68 102 (by kernel_rfl)).1 (by rw [hq]; rfl)
        rw [hq] at e97
        exact gives hK (v := .bool ((isEntry (Entry.mk s 1 x [])) == (isLab s))) (by simp [execOp, Act.eval, e97, ex, asBool, go_sem]) (show Value.bool _ = .bool _ by rw [hq]; simp)
    · intro aa ww hA K hK
      refine free rfl ?_
      have e103 : aa.tmps.getD 103 undef = .bool ((z63) && ((isEntry (Entry.mk s 1 x [])) == (isLab s))) := hA.got 69 103 (by kernel_rfl)
      exact gives hK rfl (show aa.tmps.getD 103 undef = .bool z70 from by rw [e103, Hz70.out])
    · intro aa ww hA K hK
      refine guarded (s := sv (.agg #[.string s, .int .i64 3, .int .i64 x, .slice Am nm cm])) rfl rfl (hA.got 70 104 (by kernel_rfl)) hK fun hB hK => ?_
      have e10 : aa.tmps.getD 10 undef = .pointer (some ⟨W5.heap.size, 0, none⟩) := hA.old 10 (by kernel_rfl)
      have c0 := (hA.bel.cell (p := ⟨W5.heap.size, 0, none⟩) HZm0.out.1).trans HZm0.out.2
      have c1 := (hA.bel.cell (p := ⟨W5.heap.size, 1, none⟩) HZm1.out.1).trans HZm1.out.2
      have c2 := (hA.bel.cell (p := ⟨W5.heap.size, 2, none⟩) HZm2.out.1).trans HZm2.out.2
      have c3 := (hA.bel.cell (p := ⟨W5.heap.size, 3, none⟩) HZm3.out.1).trans HZm3.out.2
      exact gives hK (v := .agg #[.string s, .int .i64 3, .int .i64 x, .slice Am nm cm]) (by simp [execOp, Act.eval, e10, c0, c1, c2, c3, go_sem]) rfl
    · intro aa ww hA K hK
      refine guarded (s := sv (.bool (isEntry (Entry.mk s 3 x p)))) rfl rfl (hA.got 70 104 (by kernel_rfl)) hK fun hB hK => ?_
      have e105 : aa.tmps.getD 105 undef = .agg #[.string s, .int .i64 3, .int .i64 x, .slice Am nm cm] := (hA.got 71 105 (by kernel_rfl)).1 hB
      refine calls hK (by simp [Act.eval, e105, go_sem]) (iIsEntry_any [.string s, .int .i64 3, .int .i64 x, .slice Am nm cm] (Entry.mk s 3 x p) ww (up_ent HFm.out hA.bel hA.bel.size) (Nat.le_trans HTm.out (by decide))) ?_
      rintro e w1 ⟨rfl, hb⟩
      exact ⟨_, rfl, hb, rfl⟩
    · intro aa ww hA K hK
      refine guarded (s := sv (.string (s))) rfl rfl (hA.got 70 104 (by kernel_rfl)) hK fun hB hK => ?_
      exact gives hK rfl (hA.old 5 (by kernel_rfl))
    · intro aa ww hA K hK
      refine guarded (s := sv (.bool (isLab s))) rfl rfl (hA.got 70 104 (by kernel_rfl)) hK fun hB hK => ?_
      have e107 : aa.tmps.getD 107 undef = .string (s) := (hA.got 73 107 (by kernel_rfl)).1 hB
      refine calls hK (by simp [Act.eval, e107, go_sem]) (iIsLabel_b s ww HSZ.out) ?_
      rintro e w1 ⟨rfl, hb⟩
      exact ⟨_, rfl, hb, rfl⟩
    · intro aa ww hA K hK
      refine guarded (s := sv (.bool (z75))) rfl rfl (hA.got 70 104 (by kernel_rfl)) hK fun hB hK => ?_
      have e108 : aa.tmps.getD 108 undef = .bool (isLab s) := (hA.got 74 108 (by kernel_rfl)).1 hB
      exact gives hK rfl (show aa.tmps.getD 108 undef = .bool z75 from by rw [e108, Hz75.out])
    · intro aa ww hA K hK
      refine guarded2 (s := sv (.slice Ap np cp)) rfl rfl (hA.got 75 109 (by kernel_rfl)) hK fun hB hK => ?_
      exact gives hK rfl (hA.old 7 (by kernel_rfl))
    · intro aa ww hA K hK
      refine guarded2 (s := sv (.bool (isPth p))) rfl rfl (hA.got 75 109 (by kernel_rfl)) hK fun hB hK => ?_
      have e110 : aa.tmps.getD 110 undef = .slice Ap np cp := (hA.got 76 110 (by kernel_rfl)).1 hB
      refine calls hK (by simp [Act.eval, e110, go_sem]) (iIsPath_any _ Ap np cp p ww (up_s HPp.out hA.bel hA.bel.size) (Nat.le_refl _) HQ.out.1 HQ.out.2) ?_
      rintro e w1 ⟨rfl, hb⟩
      exact ⟨_, rfl, hb, rfl⟩
    · intro aa ww hA K hK
      refine guarded (s := sv (.bool ((z75) && (isPth p)))) rfl rfl (hA.got 70 104 (by kernel_rfl)) hK fun hB hK => ?_
      have e109 : aa.tmps.getD 109 undef = .bool (z75) := (hA.got 75 109 (by kernel_rfl)).1 hB
      rcases hq : (z75) with _ | _
      · rw [hq] at e109
        exact gives hK (v := .bool false) (by simp [execOp, Act.eval, e109, asBool, go_sem]) (show Value.bool _ = .bool _ by rw [hq]; simp)
      · have ex : aa.tmps.getD 111 undef = .bool (isPth p) := (hA.got 77 111 (by kernel_rfl)).1 (and_i hB (by rw [hq]; rfl))
        rw [hq] at e109
        exact gives hK (v := .bool (isPth p)) (by simp [execOp, Act.eval, e109, ex, asBool, go_sem]) (show Value.bool _ = .bool _ by rw [hq]; simp)
    · intro aa ww hA K hK
      refine guarded (s := sv (.bool ((isEntry (Entry.mk s 3 x p)) == ((z75) && (isPth p))))) rfl rfl (hA.got 70 104 (by kernel_rfl)) hK fun hB hK => ?_
      have e106 : aa.tmps.getD 106 undef = .bool (isEntry (Entry.mk s 3 x p)) := (hA.got 72 106 (by kernel_rfl)).1 hB
      have e112 : aa.tmps.getD 112 undef = .bool ((z75) && (isPth p)) := (hA.got 78 112 (by kernel_rfl)).1 hB
      exact gives hK (v := .bool ((isEntry (Entry.mk s 3 x p)) == ((z75) && (isPth p)))) (by simp [execOp, Act.eval, e106, e112, binOp, eqGuard, eq_bool, go_sem]) rfl
    · intro aa ww hA K hK
      refine free rfl ?_
      have e104 : aa.tmps.getD 104 undef = .bool (z70) := hA.got 70 104 (by kernel_rfl)
      rcases hq : (z70) with _ | _
      · rw [hq] at e104
        exact gives hK (v := .bool false) (by simp [execOp, Act.eval, e104, asBool, go_sem]) (show Value.bool _ = .bool _ by rw [hq]; simp)
      · have ex : aa.tmps.getD 113 undef = .bool ((isEntry (Entry.mk s 3 x p)) == ((z75) && (isPth p))) := (hA.got 79 113 (by kernel_rfl)).1 (by rw [hq]; rfl)
        rw [hq] at e104
        exact gives hK (v := .bool ((isEntry (Entry.mk s 3 x p)) == ((z75) && (isPth p)))) (by simp [execOp, Act.eval, e104, ex, asBool, go_sem]) (show Value.bool _ = .bool _ by rw [hq]; simp)
    · intro aa ww hA K hK
      refine free rfl ?_
      exact gives hK rfl (hA.got 80 114 (by kernel_rfl))
  · intro a1 w1 hb hd hsz hold hgot
    have e2 : a1.tmps.getD 2 undef = .bool ((z70) && ((isEntry (Entry.mk s 3 x p)) == ((z75) && (isPth p)))) := hgot 81 2 (by kernel_rfl)
    have HF9 : ((z70) && ((isEntry (Entry.mk s 3 x p)) == ((z75) && (isPth p)))) = true := by
      have k5 : z5 = true := by rw [Hz5.out]; simp
      have k14 : z14 = true := by rw [Hz14.out, k5]; simp
      have k27 : z27 = true := by
        rw [Hz27.out, k14, Hz19.out]
        rcases he : eqEntryB (Entry.mk kla kka kva kpa) (Entry.mk klb kkb kvb kpb) with _ | _
        · rfl
        · rw [eqEntryB_iff.1 he]; simp
      have k41 : z41 = true := by
        rw [Hz41.out, k27, Hz33.out]
        simp
        exact Classical.em _
      have k48 : z48 = true := by rw [Hz48.out, k41, eqEntryB_refl]; rfl
      have k55 : z55 = true := by rw [Hz55.out, k48, eqEntryB_refl]; rfl
      have k63 : z63 = true := by rw [Hz63.out, k55, eqEntryB_refl]; rfl
      have k70 : z70 = true := by rw [Hz70.out, k63, isEntry_v HXX.out.1 HXX.out.2]; simp
      rw [k70, Hz75.out, isEntry_m HXX.out.1 HXX.out.2]
      simp
    rw [HF9] at e2
    rename_i K9 hK9
    refine hK9 a1 w1 (wp_ret ?_)
    exact bodyPost_ret (v := .bool true) (by simp [results, Try.results3, go_sem]; rw [← Array.getD_eq_getD_getElem?]; exact e2) (hd.trans rfl) ⟨rfl, HB5.out.trans ((RKA.below_drew hb).mono HB5.out.size)⟩
end Go.Proofs.Ytobapahakcdibaa.W08F
