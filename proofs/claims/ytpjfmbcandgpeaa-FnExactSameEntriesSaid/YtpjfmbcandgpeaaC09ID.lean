/- Chapter 9: contents of zones, what the program's functions return (DropEntry). -/
import Derived.Test.YtpjfmbcandgpeaaC09I
import Derived.Test.YtpjfmbcandgpeaaC08I
import Derived.Test.YtpjfmbcandgpeaaC04I
import Derived.Test.YtpjfmbcandgpeaaC05I
import Derived.Test.YtpjfmbcandgpeaaC09N
import Derived.Test.YtpjfmbcandgpeaaRGS
import Derived.Deep.RegionWith
import Derived.Deep.RegionLaw
import Derived.BigQuiet
import Derived.Deep.QuietTactic
namespace Go.Proofs.Ytpjfmbcandgpeaa.C09ID
open Go.RowKit Mem MemS M02 M04 M05 M08 M09 M09F C01 C02 C04S C04I C05I C08I C09M C09K C09N Rep RepA RW R08 Q08 RG RGS C09I
set_option linter.unusedVariables false
set_option maxRecDepth 100000
theorem iDropEntry_any (A : Option Addr) (n c : Nat) (l : List Entry) (s : ByteArray) (w : World) (h : FRdEntry w w.heap.size A n l) (hs : InS s) (hn : totR totEntry l ≤ 8589934592) :
    Calls Try.prog 19 #[.slice A n c, .string s] w fun e w' => ∃ A' c', e = .returned (.tuple #[.slice A' (dropE l s).1.length c', .bool (dropE l s).2]) ∧ FOwnEntry w' w.heap.size w'.heap.size A' (dropE l s).1.length c' (dropE l s).1 ∧ Below w.heap.size w w' := by
  have HG := Lib.hid hs
  obtain ⟨r, hr⟩ : ∃ r, r = dropE l s := ⟨_, rfl⟩
  rw [← hr]
  have HRR := Lib.hid hr
  have HPT := Lib.hid (dropE_tot l s)
  have HTL := Lib.hid hn
  have HLN := Lib.hid h.len
  have HR := Lib.hid h
  have HK := Lib.hid (icontentsOf_any A n c l w h (by omega))
  clear h hn hr hs
  go_enter Try.func19, Try.ntmps19
  go_wp2_with fail
  refine HK.out.mono ?_
  rintro e w1 ⟨mb, rfl, hb1, hm1⟩
  have HB1 := Lib.hid hb1
  have HM1 := Lib.hid hm1
  clear hb1 hm1
  rcases har : areE l with _ | _
  · obtain rfl : r = (l, false) := HRR.out.trans (drop_no1 har)
    clear har
    go_wp2_with fail
    refine (icopyEntries_any A n c l w1 ((HR.out.below HB1.out (Nat.le_refl _)).more HB1.out.size) (by have := HTL.out; omega)).mono ?_
    rintro e w9 ⟨A', c', rfl, hown9, hb9⟩
    have HO9 := Lib.hid (hown9.base HB1.out.size)
    have HB9 := Lib.hid (HB1.out.trans (hb9.mono HB1.out.size))
    clear hown9 hb9
    go_wp2
    go_ret2
    exact ⟨A', c', by rw [HLN.out]; rfl, by rw [HLN.out]; exact HO9.out, HB9.out⟩
  · obtain ⟨rfl, hmp⟩ := HM1.out har
    have HA := Lib.hid har
    have HMP := Lib.hid hmp
    have HH := Lib.hid (ihas_any _ _ l s w1 hmp HG.out)
    clear har hmp
    go_wp2_with fail
    refine HH.out.mono ?_
    rintro e w2 ⟨rfl, hb2⟩
    have HB2 := Lib.hid (HB1.out.trans (hb2.mono HB1.out.size))
    have HMP2 := Lib.hid (HMP.out.below hb2 HMP.out.lt)
    clear hb2
    rcases hh : hasE l s with _ | _
    · obtain rfl : r = (l, false) := HRR.out.trans (drop_no2 hh)
      clear hh
      go_wp2_with fail
      refine (icopyEntries_any A n c l w2 ((HR.out.below HB2.out (Nat.le_refl _)).more HB2.out.size) (by have := HTL.out; omega)).mono ?_
      rintro e w9 ⟨A', c', rfl, hown9, hb9⟩
      have HO9 := Lib.hid (hown9.base HB2.out.size)
      have HB9 := Lib.hid (HB2.out.trans (hb9.mono HB2.out.size))
      clear hown9 hb9
      go_wp2
      go_ret2
      exact ⟨A', c', by rw [HLN.out]; rfl, by rw [HLN.out]; exact HO9.out, HB9.out⟩
    · obtain ⟨hp1, hp2⟩ := drop_yes HA.out hh
      obtain rfl : r = (lessE l s, true) := HRR.out.trans hp1
      have HP1 := Lib.hid hp1
      have HPP := Lib.hid hp2
      have HPL := Lib.hid (show (lessE l s).length ≤ 12 from Nat.le_trans (List.length_filter_le _ _) (areE_len HA.out))
      clear hh hp1 hp2
      go_wp2_with (at_delete; refine C09M.wp_cut rfl _ _ rfl rfl rfl HMP2.out HG.out ?_; intro w4 hm4 ht4; have HM4 := Lib.hid hm4; have HB4 := Lib.hid (HB2.out.grown ht4.grown HB2.out.size fun k hk => by cases hk; exact Nat.le_refl _); clear hm4 ht4)
      go_wp2_with fail
      refine (iinOrder_any _ _ (lessE l s) w4 HM4.out HB4.out.size HPP.out (by have := HPL.out; omega) (by have h9 : totR totEntry (lessE l s) ≤ 2 * totR totEntry l := (by have := HPT.out; rw [HP1.out] at this; exact this); have := HTL.out; omega)).mono ?_
      rintro e w5 ⟨A', c', rfl, hown5, hb5⟩
      have HO5 := Lib.hid (hown5.base HB4.out.size)
      have HB5 := Lib.hid (HB4.out.trans (hb5.mono HB4.out.size))
      clear hown5 hb5
      go_wp2
      go_ret2
      exact ⟨A', c', rfl, HO5.out, HB5.out⟩
end Go.Proofs.Ytpjfmbcandgpeaa.C09ID
