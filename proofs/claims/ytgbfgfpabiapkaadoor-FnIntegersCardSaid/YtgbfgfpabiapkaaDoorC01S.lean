/- Contracts of the model's decimal forms (chapter 1): FormatInt writes the numeral of its number. -/
import Derived.Test.YtgbfgfpabiapkaaDoorC01
import Derived.Test.YtgbfgfpabiapkaaDoorM01
import Derived.Lib.ItoaLen
import Derived.Laws.IdiomStrings
import Derived.Laws.Concat
namespace Go.Proofs.YtgbfgfpabiapkaaDoor.C01S
open Go.RowKit Go.Proofs.YtgbfgfpabiapkaaDoor.C01 Go.Proofs.YtgbfgfpabiapkaaDoor.M01
theorem conv_one (w : World) (b : Nat) (hb : b < 256) :
    (convert 22 9 (.slice (some ⟨w.heap.size, 0, none⟩) 1 1)).run Tryd.prog (w.alloc (.cells #[.int .u8 (b : Int)] 5)) = .ok (.string ⟨[UInt8.ofNat b].toArray⟩) (w.alloc (.cells #[.int .u8 (b : Int)] 5)) := by
  refine run_convert_bytes_back (P := Tryd.prog) _ 22 9 5 ⟨w.heap.size, 0, none⟩ 1 [UInt8.ofNat b] Tryd.underlying22 Tryd.underlying5 Tryd.underlying9 ?_
  intro j hj
  have : j = 0 := by simpa using hj
  subst this
  simp [Addr.add]
  omega
theorem FI.len {D u : Nat} {l : List UInt8} (h : FI D u l) (hD : (D : Int) ≤ 9223372036854775808) : l.length ≤ 20 := by
  have h1 := Lib.nDigits_le20 D (by omega)
  have h2 := Lib.decDigits_length D
  rcases h with ⟨_, h⟩ | ⟨_, h⟩
  · rw [h]; omega
  · have : (Lib.decDigits u ++ l).length = (Lib.decDigits D).length := by rw [h]
    simp at this; omega
set_option maxHeartbeats 800000 in
theorem sFormatInt_pos (D : Nat) (h1 : 1 ≤ D) (h2 : (D : Int) ≤ 9223372036854775807) (w : World) :
    Calls Tryd.prog 14 #[.int .i64 D] w fun e w' => e = .returned (.string ⟨(Lib.decDigits D).toArray⟩) ∧ Below w.heap.size w w' := by
  have hz : (((D : Nat) : Int) == 0) = false := by simp; omega
  have H2 := Lib.hid h2
  clear h2
  go_enter Tryd.func14, Tryd.ntmps14
  go_wp2
  go_loopw [3, 4, 5] (fun s x _ wr => ∃ (u : Nat) (l : List UInt8), u ≤ D ∧ x = .int .i64 u ∧ s = .string ⟨l.toArray⟩ ∧ FI D u l ∧ Below w.heap.size w wr) (fun _ x _ _ => (intOf x).toNat)
  case atStart => exact ⟨D, [], Nat.le_refl _, rfl, rfl, FI.start h1, Below.refl _ _⟩
  case round =>
    obtain ⟨u, l, hu, rfl, rfl, hfi, hb⟩ := hrel
    by_cases h0 : u = 0
    · subst h0
      have HF := Lib.hid hfi.done
      clear hfi
      go_wp2
      go_ret
      rw [← HF.out]
      exact ⟨rfl, hb⟩
    · have hu0 : ((u : Int) == 0) = false := by simp; omega
      have hl := FI.len hfi (by have := H2.out; omega)
      have hnext := FI.step hfi (by omega)
      have HF := Lib.hid hnext
      clear hfi hnext
      have hk := conv_one wr (48 + u % 10) (by omega)
      have e1 : ((48 + u % 10 : Nat) : Int) = 48 + (u : Int) % 10 := by omega
      rw [e1] at hk
      clear e1
      have hsz : ¬ (9223372036854775807 < (⟨[UInt8.ofNat (48 + u % 10)].toArray⟩ : ByteArray).size + (⟨l.toArray⟩ : ByteArray).size) := by simp [ByteArray.size]; omega
      have hub : (u : Int) ≤ 9223372036854775807 := by have := H2.out; omega
      go_wp2
      refine ⟨⟨u / 10, UInt8.ofNat (48 + u % 10) :: l, by omega, rfl, ?_, HF.out, hb.alloc hb.size _⟩, by simp [intOf]; omega⟩
      rw [show (⟨#[48 + UInt8.ofNat (u % 10)]⟩ : ByteArray) = ⟨[UInt8.ofNat (48 + u % 10)].toArray⟩ by simp, ByteArray.mk_append_mk]
      rfl
set_option maxHeartbeats 800000 in
theorem sFormatInt_neg (D : Nat) (h1 : 1 ≤ D) (h2 : (D : Int) ≤ 9223372036854775808) (w : World) :
    Calls Tryd.prog 14 #[.int .i64 (-(D : Int))] w fun e w' => e = .returned (.string ⟨(45 :: Lib.decDigits D).toArray⟩) ∧ Below w.heap.size w w' := by
  have hz : ((-(D : Int)) == 0) = false := by simp; omega
  have hneg : -(D : Int) < 0 := by omega
  have H2 := Lib.hid h2
  clear h2
  go_enter Tryd.func14, Tryd.ntmps14
  go_wp2
  go_loopw [3, 4, 5] (fun s x _ wr => ∃ (u : Nat) (l : List UInt8), u ≤ D ∧ x = .int .i64 (-(u : Int)) ∧ s = .string ⟨l.toArray⟩ ∧ FI D u l ∧ Below w.heap.size w wr) (fun _ x _ _ => (-(intOf x)).toNat)
  case atStart => exact ⟨D, [], Nat.le_refl _, rfl, rfl, FI.start h1, Below.refl _ _⟩
  case round =>
    obtain ⟨u, l, hu, rfl, rfl, hfi, hb⟩ := hrel
    by_cases h0 : u = 0
    · subst h0
      have hl := FI.len hfi H2.out
      have HF := Lib.hid hfi.done
      clear hfi
      have hsz : ¬ (9223372036854775807 < (⟨[45].toArray⟩ : ByteArray).size + (⟨l.toArray⟩ : ByteArray).size) := by simp [ByteArray.size]; omega
      go_wp2
      go_ret
      rw [← HF.out]
      exact ⟨by rw [show (⟨#[45]⟩ : ByteArray) = ⟨[45].toArray⟩ by rfl, ByteArray.mk_append_mk]; rfl, hb⟩
    · have hu0 : ((-(u : Int)) == 0) = false := by simp; omega
      have hl := FI.len hfi H2.out
      have hnext := FI.step hfi (by omega)
      have HF := Lib.hid hnext
      clear hfi hnext
      have hsz : ¬ (9223372036854775807 < (⟨[UInt8.ofNat (48 + u % 10)].toArray⟩ : ByteArray).size + (⟨l.toArray⟩ : ByteArray).size) := by simp [ByteArray.size]; omega
      have hub : (u : Int) ≤ 9223372036854775808 := by have := H2.out; omega
      by_cases hm : u % 10 = 0
      · have hm' : (u : Int) % 10 ≤ 0 := by omega
        have hk := conv_one wr (48 + u % 10) (by omega)
        have e1 : ((48 + u % 10 : Nat) : Int) = 48 + -((u : Int) % 10) := by omega
        rw [e1] at hk
        clear e1 hm
        go_wp2
        refine ⟨⟨u / 10, UInt8.ofNat (48 + u % 10) :: l, by omega, rfl, ?_, HF.out, hb.alloc hb.size _⟩, by simp [intOf]; omega⟩
        rw [show (⟨#[48 + UInt8.ofNat (u % 10)]⟩ : ByteArray) = ⟨[UInt8.ofNat (48 + u % 10)].toArray⟩ by simp, ByteArray.mk_append_mk]
        rfl
      · have hm' : 0 < (u : Int) % 10 := by omega
        have hk := conv_one wr (48 + u % 10) (by omega)
        have e1 : ((48 + u % 10 : Nat) : Int) = 48 + (u : Int) % 10 := by omega
        rw [e1] at hk
        clear e1 hm
        go_wp2
        refine ⟨⟨u / 10, UInt8.ofNat (48 + u % 10) :: l, by omega, rfl, ?_, HF.out, hb.alloc hb.size _⟩, by simp [intOf]; omega⟩
        rw [show (⟨#[48 + UInt8.ofNat (u % 10)]⟩ : ByteArray) = ⟨[UInt8.ofNat (48 + u % 10)].toArray⟩ by simp, ByteArray.mk_append_mk]
        rfl
theorem sFormatInt_zero (w : World) :
    Calls Tryd.prog 14 #[.int .i64 0] w fun e w' => e = .returned (.string ⟨(Lib.itoa 0).toArray⟩) ∧ Below w.heap.size w w' := by
  go_enter Tryd.func14, Tryd.ntmps14
  go_wp2
  go_ret
  exact ⟨by rw [show (Lib.itoa 0).toArray = #[48] by decide +kernel]; rfl, Below.refl _ _⟩
/-- The model's FormatInt: the numeral of its number. -/
theorem sFormatInt_any (n : Int) (w : World) (h0 : -9223372036854775808 ≤ n) (h1 : n ≤ 9223372036854775807) :
    Calls Tryd.prog 14 #[.int .i64 n] w fun e w' => e = .returned (.string ⟨(Lib.itoa n).toArray⟩) ∧ Below w.heap.size w w' := by
  rcases Int.lt_trichotomy n 0 with h | h | h
  · obtain ⟨D, rfl⟩ : ∃ D : Nat, n = -(D : Int) := ⟨n.natAbs, by omega⟩
    rw [show Lib.itoa (-(D : Int)) = 45 :: Lib.decDigits D by unfold Lib.itoa; rw [if_pos h]; simp]
    exact sFormatInt_neg D (by omega) (by omega) w
  · subst h
    exact sFormatInt_zero w
  · obtain ⟨D, rfl⟩ : ∃ D : Nat, n = (D : Int) := ⟨n.natAbs, by omega⟩
    rw [show Lib.itoa (D : Int) = Lib.decDigits D by unfold Lib.itoa; rw [if_neg (by omega)]; simp]
    exact sFormatInt_pos D (by omega) (by omega) w
set_option maxHeartbeats 1000000 in
set_option maxRecDepth 100000 in
theorem sParseInt_any (s : ByteArray) (w : World) (hlim : s.size ≤ 281474976710656) :
    Calls Tryd.prog 15 #[.string s] w fun e w' => e = .returned (.tuple #[.int .i64 (pI s.data.toList).1, .bool (pI s.data.toList).2]) ∧ Below w.heap.size w w' := by
  by_cases hl : 1 ≤ s.size ∧ s.size ≤ 13
  · obtain ⟨hl1, hl2⟩ := hl
    have hin := inR_true (n := (s.size : Int)) (a := 1) (b := 13) (by omega) (by omega)
    go_enter Tryd.func15, Tryd.ntmps15
    go_wp2_with (go_at_call 24; refine (l1In_any _ _ _ _).mono ?_; rintro e w' ⟨rfl, rfl⟩)
    go_loop [4, 5] (fun n i => ∃ k m : Nat, k ≤ s.size ∧ i = .int .i64 k ∧ n = .int .i64 m ∧ Lib.decFrom 0 (s.data.toList.take k) = some m) (fun _ i => s.size - (intOf i).toNat)
    case atStart => exact ⟨0, 0, by omega, rfl, rfl, by simp [Lib.decFrom]⟩
    case round =>
      obtain ⟨k, m, hk, rfl, rfl, hm⟩ := hrel
      have hmb := value_lt hm (by omega)
      by_cases hlt : k < s.size
      · by_cases hd : 48 ≤ (s[k].toNat : Int) ∧ (s[k].toNat : Int) ≤ 57
        · obtain ⟨hd1, hd2⟩ := hd
          have hdi := inR_true hd1 hd2
          have HS := Lib.hid (step_yes hlt hm hd1 hd2)
          clear hm
          go_wp2_with (go_at_call 24; refine (l1In_any _ _ _ _).mono ?_; rintro e w' ⟨rfl, rfl⟩)
          go_round
          case rel => exact ⟨k + 1, m * 10 + (s[k].toNat - 48), by omega, by go_num, by congr 1; omega, HS.out⟩
          case measure => simp [intOf]; omega
        · have hdi := inR_false (n := (s[k].toNat : Int)) (a := 48) (b := 57) (by omega)
          have HP := Lib.hid (step_no hlt (by omega))
          have hb0 : (s[k].toNat : Int) ≤ 255 := by have := s[k].toNat_lt; omega
          clear hm hd
          go_wp2_with (go_at_call 24; refine (l1In_any _ _ _ _).mono ?_; rintro e w' ⟨rfl, rfl⟩)
          go_ret2
          rw [HP.out]
          exact ⟨rfl, Below.refl _ _⟩
      · obtain rfl : k = s.size := by omega
        have hp := pI_val (whole hm (by omega))
        clear hm
        by_cases hbig : (m : Int) ≤ 1000000000000
        · by_cases hs : Lib.decDigits m = s.data.toList
          · rw [if_pos ⟨by omega, hs⟩] at hp
            have HP := Lib.hid hp
            have hF := fun W => sFormatInt_any (m : Int) W (by omega) (by omega)
            have e : (⟨(Lib.itoa (m : Int)).toArray⟩ : ByteArray) = s := by rw [itoa_nat, hs]
            rw [e] at hF
            have HF := Lib.hid hF
            clear hp hs hF e
            go_wp2_with fail
            refine (HF.out _).mono ?_
            rintro e w' ⟨rfl, hb⟩
            clear HF hlt hk hmb hin hl1 hl2
            go_wp2
            go_ret2
            rw [HP.out]
            exact ⟨rfl, hb⟩
          · rw [if_neg (fun h => hs h.2)] at hp
            have HP := Lib.hid hp
            have hne : (Lib.itoa (m : Int) == s.toList) = false := by rw [beq_eq_false_iff_ne, itoa_nat, ByteArray.toList_eq]; exact hs
            clear hp hs
            go_wp2_with (go_at_call 14; refine (sFormatInt_any _ _ (by omega) (by omega)).mono ?_; rintro e w' ⟨rfl, hb⟩)
            go_ret2
            rw [HP.out]
            exact ⟨rfl, hb⟩
        · rw [if_neg (fun h => hbig (by omega))] at hp
          have HP := Lib.hid hp
          have hbig' : 1000000000000 < (m : Int) := by omega
          clear hp hbig
          go_wp2
          go_ret2
          rw [HP.out]
          exact ⟨rfl, Below.refl _ _⟩
  · have hin := inR_false (n := (s.size : Int)) (a := 1) (b := 13) (by omega)
    have HP := Lib.hid (pI_len (s := s) (by omega))
    clear hl
    go_enter Tryd.func15, Tryd.ntmps15
    go_wp2_with (go_at_call 24; refine (l1In_any _ _ _ _).mono ?_; rintro e w' ⟨rfl, rfl⟩)
    go_ret2
    rw [HP.out]
    exact ⟨rfl, Below.refl _ _⟩
end Go.Proofs.YtgbfgfpabiapkaaDoor.C01S
