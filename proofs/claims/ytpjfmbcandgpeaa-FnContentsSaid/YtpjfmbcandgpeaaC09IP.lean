/- Chapter 9: contents of zones, what the program's functions return (PutEntry). -/
import Derived.Test.YtpjfmbcandgpeaaC09I
import Derived.Test.YtpjfmbcandgpeaaC08I
import Derived.Test.YtpjfmbcandgpeaaC04I
import Derived.Test.YtpjfmbcandgpeaaC05I
import Derived.Test.YtpjfmbcandgpeaaC09M
import Derived.Test.YtpjfmbcandgpeaaRGS
import Derived.Deep.RegionWith
import Derived.Deep.RegionLaw
import Derived.BigQuiet
import Derived.Deep.QuietTactic
namespace Go.Proofs.Ytpjfmbcandgpeaa.C09IP
open Go.RowKit Mem MemS M02 M04 M05 M08 M09 M09F C01 C02 C04S C04I C05I C08I C09M C09K C09N Rep RepA RW R08 Q08 RG RGS C09I
set_option linter.unusedVariables false
set_option maxRecDepth 100000
theorem iPutEntry_any (A : Option Addr) (n c : Nat) (l : List Entry) (cs : List Value) (x : Entry) (w : World) (h : FRdEntry w w.heap.size A n l) (h' : REntry.rd w (Lt w.heap.size) cs x) (hn : totR totEntry l ≤ 8589934592) (he : totEntry x ≤ 8589934592) :
    Calls Try.prog 13 #[.slice A n c, .agg cs.toArray] w fun e w' => ∃ A' c', e = .returned (.tuple #[.slice A' (putE l x).1.length c', .bool (putE l x).2]) ∧ FOwnEntry w' w.heap.size w'.heap.size A' (putE l x).1.length c' (putE l x).1 ∧ Below w.heap.size w w' := by
  obtain ⟨Ae, ne, ce, rfl, g0, -⟩ := REntry_rd.1 h'
  obtain ⟨el, ek, ev, ep⟩ := x
  simp only at h' he g0 ⊢
  have HG := Lib.hid (show InS el from g0)
  obtain ⟨r, hr⟩ : ∃ r, r = putE l ⟨el, ek, ev, ep⟩ := ⟨_, rfl⟩
  rw [← hr]
  have HRR := Lib.hid hr
  have HPT := Lib.hid (putE_tot l ⟨el, ek, ev, ep⟩)
  have HTL := Lib.hid hn
  have HTE := Lib.hid he
  have HLN := Lib.hid h.len
  have HR := Lib.hid h
  have HX := Lib.hid h'
  have HB0 := Lib.hid ((Below.refl w.heap.size w).alloc (Nat.le_refl _) (.cells #[.string el, .int .i64 ek, .int .i64 ev, .slice Ae ne ce] 27))
  have HBX := Lib.hid (Box.new w #[.string el, .int .i64 ek, .int .i64 ev, .slice Ae ne ce] 27)
  have HK := Lib.hid (icontentsOf_any A n c l (w.alloc (.cells #[.string el, .int .i64 ek, .int .i64 ev, .slice Ae ne ce] 27)) ((h.below HB0.out (Nat.le_refl _)).more HB0.out.size) (by omega))
  clear h h' hn he hr g0
  go_enter Try.func13, Try.ntmps13
  go_wp2_with fail
  refine HK.out.mono ?_
  rintro e w1 ⟨mb, rfl, hb1, hm1⟩
  have HB1 := Lib.hid (HB0.out.trans (hb1.mono HB0.out.size))
  have HBX1 := Lib.hid (HBX.out.below hb1 (by simp))
  have HM1 := Lib.hid hm1
  have HS1 := Lib.hid (show w.heap.size < w1.heap.size from by have := hb1.size; simp at this; omega)
  have HSb := Lib.hid (show (w.alloc (.cells #[.string el, .int .i64 ek, .int .i64 ev, .slice Ae ne ce] 27)).heap.size = w.heap.size + 1 from by simp)
  clear hb1 hm1
  rcases har : areE l with _ | _
  · obtain rfl : r = (l, false) := HRR.out.trans (put_no1 har)
    clear har
    go_wp2_with fail
    refine (icopyEntries_any A n c l w1 ((HR.out.below HB1.out (Nat.le_refl _)).more HB1.out.size) (by have := HTL.out; omega)).mono ?_
    rintro e w9 ⟨A', c', rfl, hown9, hb9⟩
    have HO9 := Lib.hid (hown9.base HB1.out.size)
    have HB9 := Lib.hid (HB1.out.trans (hb9.mono HB1.out.size))
    clear hown9 hb9
    go_wp2
    go_ret2
    exact ⟨A', c', by rw [HLN.out]; rfl, by rw [HLN.out]; exact HO9.out, HB9.out⟩
  · obtain ⟨rfl, hmp⟩ := HM1.out har
    rw [HSb.out] at hmp
    have HA := Lib.hid har
    have HMP := Lib.hid hmp
    have HXr := Lib.hid (REntry.keep HX.out fun i hi => HB1.out.block i hi)
    have c0 := HBX1.out.cell (j := 0) rfl
    have c1 := HBX1.out.cell (j := 1) rfl
    have c2 := HBX1.out.cell (j := 2) rfl
    have c3 := HBX1.out.cell (j := 3) rfl
    have HE := Lib.hid (iIsEntry_any [.string el, .int .i64 ek, .int .i64 ev, .slice Ae ne ce] ⟨el, ek, ev, ep⟩ w1 (REntry.more HXr.out fun i hi => Nat.lt_trans hi HS1.out) (by have := HTE.out; omega))
    clear har hmp
    go_wp2_with fail
    refine HE.out.mono ?_
    rintro e w2 ⟨rfl, hb2⟩
    have HB2 := Lib.hid (HB1.out.trans (hb2.mono HB1.out.size))
    have HBX2 := Lib.hid (HBX1.out.below hb2 (by have := HS1.out; omega))
    have HMP2 := Lib.hid (HMP.out.below hb2 HMP.out.lt)
    have HS2 := Lib.hid (show w1.heap.size ≤ w2.heap.size from hb2.size)
    clear hb2 c0 c1 c2 c3
    rcases hie : isEntry ⟨el, ek, ev, ep⟩ with _ | _
    · obtain rfl : r = (l, false) := HRR.out.trans (put_no2 hie)
      clear hie
      go_wp2_with fail
      refine (icopyEntries_any A n c l w2 ((HR.out.below HB2.out (Nat.le_refl _)).more HB2.out.size) (by have := HTL.out; omega)).mono ?_
      rintro e w9 ⟨A', c', rfl, hown9, hb9⟩
      have HO9 := Lib.hid (hown9.base HB2.out.size)
      have HB9 := Lib.hid (HB2.out.trans (hb9.mono HB2.out.size))
      clear hown9 hb9
      go_wp2
      go_ret2
      exact ⟨A', c', by rw [HLN.out]; rfl, by rw [HLN.out]; exact HO9.out, HB9.out⟩
    · have HIE := Lib.hid hie
      have c0 := HBX2.out.cell (j := 0) rfl
      have HRM := Lib.hid (iroom_any _ _ l el w2 HMP2.out HG.out)
      clear hie
      go_wp2_with fail
      refine HRM.out.mono ?_
      rintro e w3 ⟨rfl, hb3⟩
      have HB3 := Lib.hid (HB2.out.trans (hb3.mono HB2.out.size))
      have HBX3 := Lib.hid (HBX2.out.below hb3 (by have := HS1.out; have := HS2.out; omega))
      have HMP3 := Lib.hid (HMP2.out.below hb3 HMP2.out.lt)
      clear hb3 c0
      rcases hrm : (hasE l el || decide (l.length < 12)) with _ | _
      · obtain rfl : r = (l, false) := HRR.out.trans (put_no3 HA.out (by simp at hrm; exact hrm.1) (by simp at hrm; omega))
        clear hrm
        go_wp2_with fail
        refine (icopyEntries_any A n c l w3 ((HR.out.below HB3.out (Nat.le_refl _)).more HB3.out.size) (by have := HTL.out; omega)).mono ?_
        rintro e w9 ⟨A', c', rfl, hown9, hb9⟩
        have HO9 := Lib.hid (hown9.base HB3.out.size)
        have HB9 := Lib.hid (HB3.out.trans (hb9.mono HB3.out.size))
        clear hown9 hb9
        go_wp2
        go_ret2
        exact ⟨A', c', by rw [HLN.out]; rfl, by rw [HLN.out]; exact HO9.out, HB9.out⟩
      · obtain ⟨hp1, hp2⟩ := put_yes (x := ⟨el, ek, ev, ep⟩) HA.out HIE.out hrm
        obtain rfl : r = (putAll ⟨el, ek, ev, ep⟩ l, true) := HRR.out.trans hp1
        have HP1 := Lib.hid hp1
        have HPP := Lib.hid (are_pair hp2)
        have HPL := Lib.hid (areE_len hp2)
        have c0 := HBX3.out.cell (j := 0) rfl
        have c1 := HBX3.out.cell (j := 1) rfl
        have c2 := HBX3.out.cell (j := 2) rfl
        have c3 := HBX3.out.cell (j := 3) rfl
        have HXr3 := Lib.hid (REntry.more (REntry.keep HX.out fun i hi => HB3.out.block i hi) fun i hi => Nat.lt_succ_of_lt hi)
        have HLL := Lib.hid (show l.length < maxLen from by have := areE_len HA.out; unfold maxLen; omega)
        clear hrm hp1 hp2
        go_wp2_with (at_mapUpdate; refine wp_put (z := ⟨el, ek, ev, ep⟩) (cs := [.string el, .int .i64 ek, .int .i64 ev, .slice Ae ne ce]) rfl _ _ _ rfl rfl rfl rfl HMP3.out HXr3.out HG.out HLL.out ?_; intro w4 hm4 ht4; have HM4 := Lib.hid (hm4.perm (putAll_perm ⟨el, ek, ev, ep⟩ l).symm); have HB4 := Lib.hid (HB3.out.grown ht4.grown HB3.out.size fun k hk => by cases hk; simp); have HS4 := Lib.hid (show w.heap.size + 1 ≤ w4.heap.size from by have := hm4.lt; omega); clear hm4 ht4 c0 c1 c2 c3)
        go_wp2_with fail
        refine (iinOrder_any _ _ (putAll ⟨el, ek, ev, ep⟩ l) w4 HM4.out HS4.out HPP.out (by have := HPL.out; omega) (by have h9 : totR totEntry (putAll ⟨el, ek, ev, ep⟩ l) ≤ totR totEntry l + (totEntry ⟨el, ek, ev, ep⟩ + 1) := (by have := HPT.out; rw [HP1.out] at this; exact this); have := HTL.out; have := HTE.out; omega)).mono ?_
        rintro e w5 ⟨A', c', rfl, hown5, hb5⟩
        have HO5 := Lib.hid (hown5.base HB4.out.size)
        have HB5 := Lib.hid (HB4.out.trans (hb5.mono HB4.out.size))
        clear hown5 hb5
        go_wp2
        go_ret2
        exact ⟨A', c', rfl, HO5.out, HB5.out⟩
end Go.Proofs.Ytpjfmbcandgpeaa.C09IP
