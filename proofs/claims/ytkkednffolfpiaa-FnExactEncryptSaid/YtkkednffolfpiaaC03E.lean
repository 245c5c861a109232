/- Chapter 3: what the model's cipher returns, and its derived keys. -/
import Derived.Test.YtkkednffolfpiaaC03S
import Derived.Deep.RegionHeld3
namespace Go.Proofs.Ytkkednffolfpiaa.C03E
open Go.RowKit Mem M02 C01 C02 C02B M03 C03S
set_option linter.unusedVariables false
theorem below_new {w w7 : World} {o : Obj} (h : Below (w.alloc o).drew.heap.size (w.alloc o).drew w7) : Below w.heap.size w w7 :=
  ((Below.refl _ w).alloc (Nat.le_refl _) _).drew.trans (h.mono (by simp [World.drew]))
theorem rd_drew {k : IntKind} {w : World} {B n : Nat} {A : Option Addr} {zs : List Int} (h : Rd k w B A n zs) : Rd k w.drew B A n zs := h.keep fun _ _ => rfl
theorem own_drew {k : IntKind} {w : World} {lo hi n c : Nat} {A : Option Addr} {zs : List Int} (h : Own k w lo hi A n c zs) : Own k w.drew lo hi A n c zs := h.keep fun _ _ _ _ => rfl
/-- what the model's arithmetic gives, spelled as the walk spells it -/
def encrV (z s : Int) : Int := IntKind.u8.wrap ((IntKind.i64.wrap (IntKind.i64.wrap z + s.tmod 256)).tmod 256)
def decrV (z s : Int) : Int := IntKind.u8.wrap (modQ (IntKind.i64.wrap (IntKind.i64.wrap z - s.tmod 256)) 256)
theorem encr_eqs {z s : Int} (hz0 : 0 ≤ z) (hz1 : z ≤ 255) (hs0 : 0 ≤ s) : encrV z s = (z + s % 256) % 256 := by
  have e1 : IntKind.i64.wrap z = z := by rw [IntKind.wrap_i64]; omega
  have e2 : IntKind.i64.wrap (z + s % 256) = z + s % 256 := by rw [IntKind.wrap_i64]; omega
  rw [encrV, e1, Int.tmod_eq_emod_of_nonneg hs0, e2, Int.tmod_eq_emod_of_nonneg (by omega), IntKind.wrap_u8]
  omega
theorem decr_eqs {z s : Int} (hz0 : 0 ≤ z) (hz1 : z ≤ 255) (hs0 : 0 ≤ s) : decrV z s = (z - s % 256) % 256 := by
  have e1 : IntKind.i64.wrap z = z := by rw [IntKind.wrap_i64]; omega
  have e2 : IntKind.i64.wrap (z - s % 256) = z - s % 256 := by rw [IntKind.wrap_i64]; omega
  rw [decrV, e1, Int.tmod_eq_emod_of_nonneg hs0, e2, modQ_256, IntKind.wrap_u8]
  omega
set_option maxHeartbeats 1000000 in
theorem sEncrypt_any (A : Option Addr) (k : Int) (n c : Nat) (zs : List Int) (w : World) (h : Rd .u8 w w.heap.size A n zs) (hn : n ≤ 1099511627) (hk0 : -9223372036854775808 ≤ k) (hk1 : k ≤ 9223372036854775807) :
    Calls Try.prog 38 #[.int .i64 k, .slice A n c] w fun e w' => ∃ A' c', e = .returned (.slice A' n c') ∧ Own .u8 w' w.heap.size w'.heap.size A' n c' (encr k zs) ∧ Below w.heap.size w w' := by
  have hl := h.len
  have HK0 := Lib.hid hk0
  have HK1 := Lib.hid hk1
  have H0 := Lib.hid (show Own .u8 (w.alloc (.cells #[] 5)) w.heap.size (w.heap.size + 1) (some ⟨w.heap.size, 0, none⟩) 0 0 [] from Own.lit0 .u8 w (Nat.le_refl _))
  have HB := Lib.hid ((Below.refl _ w).alloc (Nat.le_refl _) (.cells #[] 5))
  have H := Lib.hid h
  have HL := Lib.hid hl
  clear h hl hk0 hk1
  go_enter Try.func38, Try.ntmps38
  go_wp2
  go_loopw [5, 6] (fun v i wr => ∃ (A1 : Option Addr) (c1 j : Nat), v = .slice A1 j c1 ∧ i = .int .i64 j ∧ j ≤ n ∧ Own .u8 wr w.heap.size wr.heap.size A1 j c1 ((encr k zs).take j) ∧ Below w.heap.size w wr) (fun _ i _ => n - (intOf i).toNat)
  case atStart => exact ⟨_, 0, 0, rfl, rfl, by omega, H0.out.top, HB.out⟩
  case round =>
    obtain ⟨A1, c1, j, rfl, rfl, hj, hown, hbel⟩ := hrel
    have HO := Lib.hid hown
    have HX := Lib.hid hbel
    clear hown hbel
    by_cases hjn : j < n
    · obtain ⟨b, off, rfl, hlt, hc⟩ := (H.out.below HX.out (Nat.le_refl _)).cell_at hjn
      have hz := byt_in H.out.wf (zs.getD j 0) (by have := HL.out; simp [List.getD, List.getElem?_eq_getElem (show j < zs.length by omega)])
      have ht := encr_succ (k := k) (zs := zs) (j := j) (by have := HL.out; omega)
      have hkr := kh_range k [(j : Int)]
      generalize zs.getD j 0 = z at hc hz ht
      have hlw := HX.out.size
      have hbw : b < wr.heap.size := by omega
      have hg1 : (0 : Int) ≤ (j : Int) := by omega
      have hg2 : (j : Int) < (n : Int) := by omega
      have HT := Lib.hid ht
      have hji : In .i64 (j : Int) := in_i64 (by omega) (by omega)
      clear ht
      have hK := sKeyedHash_any (some ⟨wr.heap.size, 0, none⟩) k 1 1 [(j : Int)] (wr.alloc (.cells #[.int .i64 (j : Int)] 3)).drew (rd_drew ((rd_new .i64 wr hji).more (by simp [World.drew]))) (by omega) HK0.out HK1.out
      have hst : stream k j = kh k [(j : Int)] := rfl
      rw [hst] at HT
      generalize kh k [(j : Int)] = s at hK hkr HT
      have hv := encr_eqs (z := z) (s := s) hz.1 hz.2 hkr.1
      rw [← hv] at HT
      have hyi : In .u8 (encrV z s) := by rw [hv]; exact in_u8 (by omega) (by omega)
      have hj2 : j + 1 ≤ 8796093022208 := by omega
      have hblk : b < w.heap.size := hlt
      have HKH := Lib.hid hK
      clear hK hst hkr hz hv hlt hji
      go_wp2_with fail
      go_region_held3 (fun w' => w'.cell? ⟨b, off + j, none⟩ = some (.int .u8 z)) (go_keep) ((first
        | (go_at_call 29; refine HKH.out.mono ?_; rintro e w2 ⟨rfl, hb2⟩; have HX2 := Lib.hid (HX.out.trans ((below_new hb2).mono HX.out.size)); have HO2 := Lib.hid (HO.out.below (below_new hb2) (Nat.le_refl _)).top; have hc2 : w2.cell? ⟨b, off + j, none⟩ = some (.int .u8 z) := ((below_new hb2).cell (p := ⟨b, off + j, none⟩) hbw).trans hc; clear hb2)
        | (go_at_call 22; refine (sMod_any _ 256 _).mono ?_; rintro e w9 ⟨rfl, rfl⟩)
        | (refine step_app (k := .u8) (by unfold BI; decide) rfl (.tmp 14) (.tmp 28) rfl rfl (HO2.out.alloc _) rfl (rd_new .u8 w2 hyi) hj2 (by have := HX2.out.size; simp; omega) ?_; intro A2 c2 w3 hown3 hgr3; have HX3 := Lib.hid ((HX2.out.alloc HX2.out.size _).trans (hgr3.below (by have := HX2.out.size; simp; omega) HO2.out.ge)); have hc3 : w3.cell? ⟨b, off + j, none⟩ = some (.int .u8 z) := (HX3.out.cell (p := ⟨b, off + j, none⟩) hblk).trans ((HX.out.cell (p := ⟨b, off + j, none⟩) hblk).symm.trans hc); have HO3 := Lib.hid hown3; clear hown3 hgr3)))
      go_wp2
      go_roundw
      case rel => exact ⟨A2, c2, j + 1, rfl, by go_num, by omega, by rw [HT.out]; exact HO3.out, HX3.out⟩
      case measure => simp [intOf]; omega
    · have hj2 : j = n := by omega
      subst hj2
      have e : (encr k zs).take j = encr k zs := List.take_of_length_le (by rw [encr_len]; have := HL.out; omega)
      have HE := Lib.hid e
      clear e
      go_wp2
      go_ret
      rw [← HE.out]
      exact ⟨_, _, rfl, HO.out, HX.out⟩
set_option maxHeartbeats 1000000 in
theorem sDecrypt_any (A : Option Addr) (k : Int) (n c : Nat) (zs : List Int) (w : World) (h : Rd .u8 w w.heap.size A n zs) (hn : n ≤ 1099511627) (hk0 : -9223372036854775808 ≤ k) (hk1 : k ≤ 9223372036854775807) :
    Calls Try.prog 40 #[.int .i64 k, .slice A n c] w fun e w' => ∃ A' c', e = .returned (.slice A' n c') ∧ Own .u8 w' w.heap.size w'.heap.size A' n c' (decr k zs) ∧ Below w.heap.size w w' := by
  have hl := h.len
  have HK0 := Lib.hid hk0
  have HK1 := Lib.hid hk1
  have H0 := Lib.hid (show Own .u8 (w.alloc (.cells #[] 5)) w.heap.size (w.heap.size + 1) (some ⟨w.heap.size, 0, none⟩) 0 0 [] from Own.lit0 .u8 w (Nat.le_refl _))
  have HB := Lib.hid ((Below.refl _ w).alloc (Nat.le_refl _) (.cells #[] 5))
  have H := Lib.hid h
  have HL := Lib.hid hl
  clear h hl hk0 hk1
  go_enter Try.func40, Try.ntmps40
  go_wp2
  go_loopw [5, 6] (fun v i wr => ∃ (A1 : Option Addr) (c1 j : Nat), v = .slice A1 j c1 ∧ i = .int .i64 j ∧ j ≤ n ∧ Own .u8 wr w.heap.size wr.heap.size A1 j c1 ((decr k zs).take j) ∧ Below w.heap.size w wr) (fun _ i _ => n - (intOf i).toNat)
  case atStart => exact ⟨_, 0, 0, rfl, rfl, by omega, H0.out.top, HB.out⟩
  case round =>
    obtain ⟨A1, c1, j, rfl, rfl, hj, hown, hbel⟩ := hrel
    have HO := Lib.hid hown
    have HX := Lib.hid hbel
    clear hown hbel
    by_cases hjn : j < n
    · obtain ⟨b, off, rfl, hlt, hc⟩ := (H.out.below HX.out (Nat.le_refl _)).cell_at hjn
      have hz := byt_in H.out.wf (zs.getD j 0) (by have := HL.out; simp [List.getD, List.getElem?_eq_getElem (show j < zs.length by omega)])
      have ht := decr_succ (k := k) (zs := zs) (j := j) (by have := HL.out; omega)
      have hkr := kh_range k [(j : Int)]
      generalize zs.getD j 0 = z at hc hz ht
      have hlw := HX.out.size
      have hbw : b < wr.heap.size := by omega
      have hg1 : (0 : Int) ≤ (j : Int) := by omega
      have hg2 : (j : Int) < (n : Int) := by omega
      have HT := Lib.hid ht
      have hji : In .i64 (j : Int) := in_i64 (by omega) (by omega)
      clear ht
      have hK := sKeyedHash_any (some ⟨wr.heap.size, 0, none⟩) k 1 1 [(j : Int)] (wr.alloc (.cells #[.int .i64 (j : Int)] 3)).drew (rd_drew ((rd_new .i64 wr hji).more (by simp [World.drew]))) (by omega) HK0.out HK1.out
      have hst : stream k j = kh k [(j : Int)] := rfl
      rw [hst] at HT
      generalize kh k [(j : Int)] = s at hK hkr HT
      have hv := decr_eqs (z := z) (s := s) hz.1 hz.2 hkr.1
      rw [← hv] at HT
      have hyi : In .u8 (decrV z s) := by rw [hv]; exact in_u8 (by omega) (by omega)
      have hj2 : j + 1 ≤ 8796093022208 := by omega
      have hblk : b < w.heap.size := hlt
      have HKH := Lib.hid hK
      clear hK hst hkr hz hv hlt hji
      go_wp2_with fail
      go_region_held3 (fun w' => w'.cell? ⟨b, off + j, none⟩ = some (.int .u8 z)) (go_keep) ((first
        | (go_at_call 29; refine HKH.out.mono ?_; rintro e w2 ⟨rfl, hb2⟩; have HX2 := Lib.hid (HX.out.trans ((below_new hb2).mono HX.out.size)); have HO2 := Lib.hid (HO.out.below (below_new hb2) (Nat.le_refl _)).top; have hc2 : w2.cell? ⟨b, off + j, none⟩ = some (.int .u8 z) := ((below_new hb2).cell (p := ⟨b, off + j, none⟩) hbw).trans hc; clear hb2)
        | (go_at_call 22; refine (sMod_any _ 256 _).mono ?_; rintro e w9 ⟨rfl, rfl⟩)
        | (refine step_app (k := .u8) (by unfold BI; decide) rfl (.tmp 14) (.tmp 28) rfl rfl (HO2.out.alloc _) rfl (rd_new .u8 w2 hyi) hj2 (by have := HX2.out.size; simp; omega) ?_; intro A2 c2 w3 hown3 hgr3; have HX3 := Lib.hid ((HX2.out.alloc HX2.out.size _).trans (hgr3.below (by have := HX2.out.size; simp; omega) HO2.out.ge)); have hc3 : w3.cell? ⟨b, off + j, none⟩ = some (.int .u8 z) := (HX3.out.cell (p := ⟨b, off + j, none⟩) hblk).trans ((HX.out.cell (p := ⟨b, off + j, none⟩) hblk).symm.trans hc); have HO3 := Lib.hid hown3; clear hown3 hgr3)))
      go_wp2
      go_roundw
      case rel => exact ⟨A2, c2, j + 1, rfl, by go_num, by omega, by rw [HT.out]; exact HO3.out, HX3.out⟩
      case measure => simp [intOf]; omega
    · have hj2 : j = n := by omega
      subst hj2
      have e : (decr k zs).take j = decr k zs := List.take_of_length_le (by rw [decr_len]; have := HL.out; omega)
      have HE := Lib.hid e
      clear e
      go_wp2
      go_ret
      rw [← HE.out]
      exact ⟨_, _, rfl, HO.out, HX.out⟩
end Go.Proofs.Ytkkednffolfpiaa.C03E
