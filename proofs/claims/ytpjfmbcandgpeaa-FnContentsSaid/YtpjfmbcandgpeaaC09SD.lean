/- Chapter 9: contents of zones (DropEntry), what the model's functions return. -/
import Derived.Test.YtpjfmbcandgpeaaC08S
import Derived.Test.YtpjfmbcandgpeaaC04I
import Derived.Test.YtpjfmbcandgpeaaM09
import Derived.Test.YtpjfmbcandgpeaaRGS
import Derived.Deep.RegionWith
import Derived.Deep.RegionLaw
import Derived.BigQuiet
import Derived.Deep.QuietTactic
import Derived.Test.YtpjfmbcandgpeaaC09S
namespace Go.Proofs.Ytpjfmbcandgpeaa.C09SD
open Go.RowKit C09S Mem MemS M02 M04 M05 M08 M09 C01 C02 C04S C04I C08S Rep RepA RW R08 Q08 RG RGS
set_option linter.unusedVariables false
set_option maxRecDepth 100000
set_option maxHeartbeats 4000000 in
theorem sDropEntry_any (A : Option Addr) (n c : Nat) (l : List Entry) (s : ByteArray) (w : World) (h : FRdEntry w w.heap.size A n l) (hc : n ≤ c) (hn : totR totEntry l ≤ 8589934592) :
    Calls Try.prog 36 #[.slice A n c, .string s] w fun e w' => ∃ A' c', e = .returned (.tuple #[.slice A' (dropE l s).1.length c', .bool (dropE l s).2]) ∧ FOwnEntry w' w.heap.size w'.heap.size A' (dropE l s).1.length c' (dropE l s).1 ∧ Below w.heap.size w w' := by
  have HL := Lib.hid h.len
  have hn2 : n ≤ 8589934592 := by have := totR_len totEntry l; have := h.len; omega
  have HF := Lib.hid (fun w1 (hr : FRdEntry w1 w1.heap.size A n l) => sFindEntry_any A n c l s w1 hr (by omega))
  have HAR := Lib.hid (fun w1 (hr : FRdEntry w1 w1.heap.size A n l) => sAreEntries_any A n c l w1 hr (by omega))
  have HCP := Lib.hid (fun w1 (hr : FRdEntry w1 w1.heap.size A n l) => l9Copy_any A n c l w1 hr (by omega))
  have HUP := Lib.hid (show ∀ w1, Below w.heap.size w w1 → FRdEntry w1 w1.heap.size A n l from fun w1 hb => (h.below hb (Nat.le_refl _)).more hb.size)
  have HTL := Lib.hid hn
  have HH := Lib.hid h
  have hde : dropE l s = if areE l && decide (0 ≤ fndE l s) then (l.take (fndE l s).toNat ++ l.drop ((fndE l s).toNat + 1), true) else (l, false) := rfl
  have hfc := fndE_cases l s
  generalize fndE l s = f at hde hfc HF
  clear h hn
  rcases ha : areE l with _ | _
  · have HPE := Lib.hid (show dropE l s = (l, false) from by rw [hde, ha]; rfl)
    have HA := Lib.hid (show ∀ w1, Below w.heap.size w w1 → Calls _ _ _ _ _ from fun w1 hb => by have := HAR.out w1 (HUP.out w1 hb); rw [ha] at this; exact this)
    clear ha hde hfc
    go_enter Try.func36, Try.ntmps36
    go_wp2_with fail
    refine (HF.out _ (HUP.out _ (Below.refl _ _))).mono ?_
    rintro e w1 ⟨rfl, rfl⟩
    go_wp2_with fail
    refine (HA.out _ (Below.refl _ _)).mono ?_
    rintro e w1 ⟨rfl, hb1⟩
    have HB1 := Lib.hid hb1
    clear hb1
    go_wp2_with fail
    refine (HCP.out _ (HUP.out _ HB1.out)).mono ?_
    rintro e w2 ⟨Az, cz, rfl, hoz, hbz⟩
    have HOz := Lib.hid (hoz.base HB1.out.size)
    have HBz := Lib.hid (HB1.out.trans (hbz.mono HB1.out.size))
    clear hoz hbz
    go_wp2
    go_ret2
    rw [HPE.out]
    exact ⟨Az, cz, by rw [show l.length = _ from HL.out]; rfl, by rw [show l.length = _ from HL.out]; exact HOz.out, HBz.out⟩
  · have HA := Lib.hid (show ∀ w1, Below w.heap.size w w1 → Calls _ _ _ _ _ from fun w1 hb => by have := HAR.out w1 (HUP.out w1 hb); rw [ha] at this; exact this)
    rcases hfc with ⟨rfl, -⟩ | ⟨k, hk, rfl, -, -⟩
    · have HPE := Lib.hid (show dropE l s = (l, false) from by rw [hde, ha]; rfl)
      clear ha hde
      go_enter Try.func36, Try.ntmps36
      go_wp2_with fail
      refine (HF.out _ (HUP.out _ (Below.refl _ _))).mono ?_
      rintro e w1 ⟨rfl, rfl⟩
      go_wp2_with fail
      refine (HA.out _ (Below.refl _ _)).mono ?_
      rintro e w1 ⟨rfl, hb1⟩
      have HB1 := Lib.hid hb1
      clear hb1
      go_wp2_with fail
      refine (HCP.out _ (HUP.out _ HB1.out)).mono ?_
      rintro e w2 ⟨Az, cz, rfl, hoz, hbz⟩
      have HOz := Lib.hid (hoz.base HB1.out.size)
      have HBz := Lib.hid (HB1.out.trans (hbz.mono HB1.out.size))
      clear hoz hbz
      go_wp2
      go_ret2
      rw [HPE.out]
      exact ⟨Az, cz, by rw [show l.length = _ from HL.out]; rfl, by rw [show l.length = _ from HL.out]; exact HOz.out, HBz.out⟩
    · have HPE := Lib.hid (show dropE l s = (l.take k ++ l.drop (k + 1), true) from by rw [hde, ha]; simp)
      rw [HL.out] at hk
      obtain ⟨b, off, rfl, -⟩ := HH.out.cells (by omega)
      have HLEN := Lib.hid (show (l.take k ++ l.drop (k + 1)).length = k + (n - (k + 1)) from by simp; have := HL.out; omega)
      have HP1 := Lib.hid (fun w1 (hb : Below w.heap.size w w1) => show FRdEntry w1 w1.heap.size (some ⟨b, off, none⟩) k (l.take k) from by
        have := part_rds (i := 0) (j := k) (HUP.out w1 hb) (by omega) (by omega)
        simpa using this)
      have HT1 := Lib.hid (show totR totEntry (l.take k) ≤ 34359738368 by have := totR_take l k; have := HTL.out; omega)
      have HT2 := Lib.hid (show totR totEntry (l.drop (k + 1)) ≤ 34359738368 by have := totR_drop l (k + 1); have := HTL.out; omega)
      have hk1 : (k : Int) ≤ n := by omega
      have hk2 : (k : Int) + 1 ≤ n := by omega
      have hk3 : (k : Int) ≤ c := by omega
      have hk4 : (n : Int) ≤ c := by omega
      have hwk : IntKind.i64.wrap ((k : Int) + 1) = ((k + 1 : Nat) : Int) := by rw [IntKind.wrap_i64]; omega
      have hk5 : ((k + 1 : Nat) : Int) ≤ n := by omega
      have hk6 : (k : Int) ≤ (k : Int) + 1 := by omega
      have hk7 : 0 ≤ (k : Int) + 1 := by omega
      by_cases hck : c = k + 1
      · obtain rfl : n = k + 1 := by omega
        subst hck
        have HLEN := Lib.hid (show (l.take k ++ l.drop (k + 1)).length = k from by have := HLEN.out; omega)
        have HP2 := Lib.hid (fun w1 (hb : Below w.heap.size w w1) => show FRdEntry w1 w1.heap.size (some ⟨b, off, none⟩) 0 (l.drop (k + 1)) from ⟨by simp; have := HL.out; omega, fun h0 => absurd h0 (by omega)⟩)
        clear ha hde
        go_enter Try.func36, Try.ntmps36
        go_wp2_with fail
        refine (HF.out _ (HUP.out _ (Below.refl _ _))).mono ?_
        rintro e w1 ⟨rfl, rfl⟩
        go_wp2_with fail
        refine (HA.out _ (Below.refl _ _)).mono ?_
        rintro e w1 ⟨rfl, hb1⟩
        have HB1 := Lib.hid hb1
        clear hb1
        go_wp2_with fail
        go_region_law ((first
          | (go_simp; go_at_call 52; refine (l9Copy_any (some ⟨b, off, none⟩) 0 0 (l.drop (k + 1)) w2 (HP2.out _ HB2.out) HT2.out).mono ?_; rintro e w3 ⟨A4, c4, rfl, ho3, hb3⟩; have HO3 := Lib.hid ho3; have HO4 := Lib.hid (HO2.out.below hb3 (Nat.le_refl _)); have HB3 := Lib.hid (HB2.out.trans (hb3.mono HB2.out.size)); have HS3 := Lib.hid hb3.size; clear ho3 hb3)
          | (go_simp; go_at_call 52; refine (l9Copy_any (some ⟨b, off, none⟩) k (k + 1) (l.take k) w1.drew (HP1.out _ HB1.out.drew) HT1.out).mono ?_; rintro e w2 ⟨A2, c2, rfl, ho2, hb2⟩; have HO2 := Lib.hid ho2; have HB2 := Lib.hid (HB1.out.drew.trans (hb2.mono HB1.out.drew.size)); have HS2 := Lib.hid hb2.size; clear ho2 hb2)
          | (refine step_catR (st := 24) (lo := w1.drew.heap.size) (mid := w2.heap.size) REntry tiEntry rfl _ _ rfl rfl HO4.out rfl HO3.out (by omega) HS2.out (Nat.le_trans HS2.out HS3.out) ?_; intro A5 c5 w5 hown5 hgr5)))
        all_goals
          have HB5 := Lib.hid (HB3.out.trans (hgr5.below HB3.out.size fun a e => Nat.le_trans HB1.out.drew.size (HO4.out.ge a e)))
          have HO5 := Lib.hid (hown5.base HB1.out.drew.size)
          clear hown5 hgr5
          go_wp2
          go_ret2
          rw [HPE.out]
          exact ⟨A5, c5, by rw [HLEN.out]; rfl, by rw [HLEN.out]; exact HO5.out, HB5.out⟩
      · skip
        have HP2 := Lib.hid (fun w1 (hb : Below w.heap.size w w1) => show FRdEntry w1 w1.heap.size (some ⟨b, off + (k + 1) * 4, none⟩) (n - (k + 1)) (l.drop (k + 1)) from by
          have := part_rds (i := k + 1) (j := n) (HUP.out w1 hb) (by omega) (by omega)
          rw [List.take_of_length_le (by rw [HL.out]; omega)] at this
          exact this)
        clear ha hde
        go_enter Try.func36, Try.ntmps36
        go_wp2_with fail
        refine (HF.out _ (HUP.out _ (Below.refl _ _))).mono ?_
        rintro e w1 ⟨rfl, rfl⟩
        go_wp2_with fail
        refine (HA.out _ (Below.refl _ _)).mono ?_
        rintro e w1 ⟨rfl, hb1⟩
        have HB1 := Lib.hid hb1
        clear hb1
        go_wp2_with fail
        go_region_law ((first
          | (go_simp; go_at_call 52; refine (l9Copy_any (some ⟨b, off + (k + 1) * 4, none⟩) (n - (k + 1)) _ (l.drop (k + 1)) w2 (HP2.out _ HB2.out) HT2.out).mono ?_; rintro e w3 ⟨A4, c4, rfl, ho3, hb3⟩; have HO3 := Lib.hid ho3; have HO4 := Lib.hid (HO2.out.below hb3 (Nat.le_refl _)); have HB3 := Lib.hid (HB2.out.trans (hb3.mono HB2.out.size)); have HS3 := Lib.hid hb3.size; clear ho3 hb3)
          | (go_simp; go_at_call 52; refine (l9Copy_any (some ⟨b, off, none⟩) k c (l.take k) w1.drew (HP1.out _ HB1.out.drew) HT1.out).mono ?_; rintro e w2 ⟨A2, c2, rfl, ho2, hb2⟩; have HO2 := Lib.hid ho2; have HB2 := Lib.hid (HB1.out.drew.trans (hb2.mono HB1.out.drew.size)); have HS2 := Lib.hid hb2.size; clear ho2 hb2)
          | (refine step_catR (st := 24) (lo := w1.drew.heap.size) (mid := w2.heap.size) REntry tiEntry rfl _ _ rfl rfl HO4.out rfl HO3.out (by omega) HS2.out (Nat.le_trans HS2.out HS3.out) ?_; intro A5 c5 w5 hown5 hgr5)))
        all_goals
          have HB5 := Lib.hid (HB3.out.trans (hgr5.below HB3.out.size fun a e => Nat.le_trans HB1.out.drew.size (HO4.out.ge a e)))
          have HO5 := Lib.hid (hown5.base HB1.out.drew.size)
          clear hown5 hgr5
          go_wp2
          go_ret2
          rw [HPE.out]
          exact ⟨A5, c5, by rw [HLEN.out]; rfl, by rw [HLEN.out]; exact HO5.out, HB5.out⟩
end Go.Proofs.Ytpjfmbcandgpeaa.C09SD
