/- Plain facts on decimal digits: the digits of a number, its last digit and the others. -/
import Derived.Lib.ItoaNum
import Derived.Lib.Atoi
import Derived.Lib.AtoiAll
import Derived.Lib.AtoiTie
import Derived.RowKit3
namespace Go.Proofs.YtgbfgfpabiapkaaDoor.M01
open Go
theorem dec_small {u : Nat} (h : u < 10) : Lib.decDigits u = [UInt8.ofNat (48 + u)] := Lib.decDigits_one h
theorem dec_big {u : Nat} (h : ¬ u < 10) : Lib.decDigits u = Lib.decDigits (u / 10) ++ [UInt8.ofNat (48 + u % 10)] := by rw [Lib.decDigits, dif_neg h]
/-- What is left (u) and what has been written (l) of the digits of D. -/
def FI (D u : Nat) (l : List UInt8) : Prop := (u = 0 ∧ l = Lib.decDigits D) ∨ (0 < u ∧ Lib.decDigits u ++ l = Lib.decDigits D)
theorem FI.start {D : Nat} (h : 0 < D) : FI D D [] := .inr ⟨h, by simp⟩
theorem FI.step {D u : Nat} {l : List UInt8} (h : FI D u l) (hu : 0 < u) : FI D (u / 10) (UInt8.ofNat (48 + u % 10) :: l) := by
  rcases h with ⟨h, _⟩ | ⟨_, h⟩
  · omega
  · by_cases hs : u < 10
    · left
      refine ⟨by omega, ?_⟩
      rw [dec_small hs] at h
      rw [Nat.mod_eq_of_lt hs]
      simpa using h
    · right
      refine ⟨by omega, ?_⟩
      rw [dec_big hs] at h
      simpa using h
theorem FI.done {D : Nat} {l : List UInt8} (h : FI D 0 l) : l = Lib.decDigits D := by
  rcases h with ⟨_, h⟩ | ⟨h, _⟩
  · exact h
  · omega
theorem decFrom_snoc (l : List UInt8) (b : UInt8) : ∀ acc, Lib.decFrom acc (l ++ [b]) = (Lib.decFrom acc l).bind fun n => (Lib.digitVal b).map fun d => n * 10 + d := by
  induction l with
  | nil => intro acc; simp only [List.nil_append, Lib.decFrom, Option.bind_some]; cases Lib.digitVal b <;> rfl
  | cons a t ih =>
    intro acc
    simp only [List.cons_append, Lib.decFrom]
    cases Lib.digitVal a with
    | none => rfl
    | some e => exact ih _
theorem digitVal_mk {d : Nat} (h : d < 10) : Lib.digitVal (UInt8.ofNat (48 + d)) = some d := by
  unfold Lib.digitVal
  have e : (UInt8.ofNat (48 + d)).toNat = 48 + d := by simp; omega
  rw [e, if_pos (by omega)]
  simp
theorem decFrom_dec (n : Nat) : Lib.decFrom 0 (Lib.decDigits n) = some n := by
  induction n using Nat.strongRecOn with
  | _ n ih =>
    by_cases h : n < 10
    · rw [dec_small h]
      simp only [Lib.decFrom, digitVal_mk h]
      simp
    · rw [dec_big h, decFrom_snoc, ih (n / 10) (by omega), digitVal_mk (Nat.mod_lt _ (by omega))]
      simp; omega
theorem dec_ne_nil (n : Nat) : Lib.decDigits n ≠ [] := by
  intro h
  have h1 := Lib.decDigits_length n
  have h2 := Lib.nDigits_pos n
  rw [h] at h1
  simp at h1; omega
theorem decNat_dec (n : Nat) : Lib.decNat (Lib.decDigits n) = some n := by
  unfold Lib.decNat
  have : (Lib.decDigits n).isEmpty = false := by simpa using dec_ne_nil n
  rw [this]; simpa using decFrom_dec n
theorem nDigits_le {u : Nat} : ∀ k, 1 ≤ k → u < 10 ^ k → Lib.nDigits u ≤ k := by
  induction u using Nat.strongRecOn with
  | _ u ih =>
    intro k hk h
    by_cases hs : u < 10
    · rw [Lib.nDigits_small hs]; omega
    · rw [Lib.nDigits_big hs]
      obtain ⟨j, rfl⟩ : ∃ j, k = j + 1 := ⟨k - 1, by omega⟩
      rw [Nat.pow_succ] at h
      have hj : 1 ≤ j := by
        rcases Nat.eq_zero_or_pos j with h0 | h0
        · subst h0; simp at h; omega
        · exact h0
      have := ih (u / 10) (by omega) j hj (by omega)
      omega
theorem dec_len {n : Nat} (h : n ≤ 1000000000000) : (Lib.decDigits n).length ≤ 13 := by
  rw [Lib.decDigits_length]
  exact nDigits_le 13 (by omega) (by omega)
/-- What the parsers of chapter 1 answer. -/
def pI (l : List UInt8) : Int × Bool :=
  match Lib.decNat l with
  | some n => if n ≤ 1000000000000 ∧ Lib.decDigits n = l then ((n : Int), true) else (0, false)
  | none => (0, false)
theorem pI_dec {n : Nat} (h : n ≤ 1000000000000) : pI (Lib.decDigits n) = ((n : Int), true) := by
  unfold pI; rw [decNat_dec]; simp [h]
theorem pI_no {l : List UInt8} (h : ∀ n : Nat, n ≤ 1000000000000 → Lib.decDigits n ≠ l) : pI l = (0, false) := by
  unfold pI
  split
  · rw [if_neg]; intro hh; exact h _ hh.1 hh.2
  · rfl
theorem pI_cases (l : List UInt8) : (∃ n : Nat, n ≤ 1000000000000 ∧ l = Lib.decDigits n ∧ pI l = ((n : Int), true)) ∨ ((∀ n : Nat, n ≤ 1000000000000 → Lib.decDigits n ≠ l) ∧ pI l = (0, false)) := by
  by_cases h : ∃ n : Nat, n ≤ 1000000000000 ∧ Lib.decDigits n = l
  · obtain ⟨n, h1, h2⟩ := h
    left
    exact ⟨n, h1, h2.symm, by rw [← h2]; exact pI_dec h1⟩
  · right
    have h' : ∀ n : Nat, n ≤ 1000000000000 → Lib.decDigits n ≠ l := fun n h1 h2 => h ⟨n, h1, h2⟩
    exact ⟨h', pI_no h'⟩
theorem atoi_dec (n : Nat) : Lib.atoi (Lib.decDigits n) = some (n : Int) := by
  have hd := decFrom_dec n
  have hn := decNat_dec n
  have hne := dec_ne_nil n
  cases hl : Lib.decDigits n with
  | nil => exact absurd hl hne
  | cons b r =>
    rw [hl] at hd hn
    obtain ⟨d, hb⟩ := Lib.digit_of_decFrom _ _ _ hd 0 b (by simp)
    have h3 := Lib.digitVal_eq hb
    have h45 : (b == 45) = false := by
      rw [beq_eq_false_iff_ne]; rintro rfl; simp at h3
    have h43 : (b == 43) = false := by
      rw [beq_eq_false_iff_ne]; rintro rfl; simp at h3
    simp [Lib.atoi, h45, h43, hn]
theorem atoiAll_dec {n : Nat} (h : n ≤ 1000000000000) : Lib.atoiAll (Lib.decDigits n) = .ok (n : Int) := by
  rw [Lib.atoiAll_short _ (by have := dec_len h; omega), atoi_dec]; rfl
theorem itoa_nat (n : Nat) : Lib.itoa (n : Int) = Lib.decDigits n := by
  unfold Lib.itoa; rw [if_neg (by omega)]; simp
theorem dec_pos (n : Nat) : 1 ≤ (Lib.decDigits n).length := by
  rw [Lib.decDigits_length]; exact Lib.nDigits_pos n
theorem take_snoc (s : ByteArray) (k : Nat) (h : k < s.size) : s.data.toList.take (k + 1) = s.data.toList.take k ++ [s[k]] := by
  rw [List.take_succ_eq_append_getElem (by simpa using h)]; rfl
theorem digitVal_of {b : UInt8} (h1 : 48 ≤ (b.toNat : Int)) (h2 : (b.toNat : Int) ≤ 57) : Lib.digitVal b = some (b.toNat - 48) := by
  unfold Lib.digitVal; rw [if_pos (by omega)]
theorem digitVal_not {b : UInt8} (h : (b.toNat : Int) < 48 ∨ 57 < (b.toNat : Int)) : Lib.digitVal b = none := by
  unfold Lib.digitVal; rw [if_neg (by omega)]
theorem step_yes {s : ByteArray} {k m : Nat} (h : k < s.size) (hm : Lib.decFrom 0 (s.data.toList.take k) = some m) (h1 : 48 ≤ (s[k].toNat : Int)) (h2 : (s[k].toNat : Int) ≤ 57) :
    Lib.decFrom 0 (s.data.toList.take (k + 1)) = some (m * 10 + (s[k].toNat - 48)) := by
  rw [take_snoc s k h, decFrom_snoc, hm, digitVal_of h1 h2]; rfl
theorem step_no {s : ByteArray} {k : Nat} (h : k < s.size) (h1 : (s[k].toNat : Int) < 48 ∨ 57 < (s[k].toNat : Int)) : pI s.data.toList = (0, false) := by
  refine pI_no fun n _ hn => ?_
  have hd := decFrom_dec n
  rw [hn] at hd
  obtain ⟨d, hd⟩ := Lib.digit_of_decFrom _ _ _ hd k s[k] (by rw [List.getElem?_eq_getElem (by simpa using h)]; rfl)
  rw [digitVal_not h1] at hd
  cases hd
theorem value_lt {s : ByteArray} {k m : Nat} (hm : Lib.decFrom 0 (s.data.toList.take k) = some m) (hk : k ≤ 13) : (m : Int) < 10000000000000 := by
  have h1 := Lib.decFrom_lt _ _ _ hm
  have h2 : (s.data.toList.take k).length ≤ 13 := by
    have := List.length_take_le k s.data.toList
    omega
  have h3 : 10 ^ (s.data.toList.take k).length ≤ 10 ^ 13 := Nat.pow_le_pow_right (by omega) h2
  omega
theorem whole {s : ByteArray} {m : Nat} (hm : Lib.decFrom 0 (s.data.toList.take s.size) = some m) (h0 : 1 ≤ s.size) : Lib.decNat s.data.toList = some m := by
  unfold Lib.decNat
  rw [List.take_of_length_le (by simp)] at hm
  have : s.data.toList.isEmpty = false := by
    rw [List.isEmpty_eq_false_iff]; intro e
    have h1 : s.data.toList.length = 0 := by rw [e]; rfl
    rw [Array.length_toList] at h1
    have h2 : s.size = s.data.size := rfl
    omega
  rw [this]; simpa using hm
theorem pI_val {l : List UInt8} {m : Nat} (h : Lib.decNat l = some m) : pI l = if m ≤ 1000000000000 ∧ Lib.decDigits m = l then ((m : Int), true) else (0, false) := by
  unfold pI; rw [h]
theorem pI_len {s : ByteArray} (h : s.size < 1 ∨ 13 < s.size) : pI s.data.toList = (0, false) := by
  refine pI_no fun n hn e => ?_
  have h1 := dec_len hn
  have h2 := dec_pos n
  rw [e, Array.length_toList] at h1 h2
  have h3 : s.size = s.data.size := rfl
  omega
theorem dec_inj {n m : Nat} (h : Lib.decDigits n = Lib.decDigits m) : n = m := by
  have h1 := decNat_dec n
  rw [h, decNat_dec] at h1
  injection h1 with h1
  exact h1.symm
theorem dec_head (n : Nat) : ∃ b r, Lib.decDigits n = b :: r ∧ b ≠ 45 := by
  have hd := decFrom_dec n
  have hne := dec_ne_nil n
  cases hl : Lib.decDigits n with
  | nil => exact absurd hl hne
  | cons b r =>
    rw [hl] at hd
    obtain ⟨d, hb⟩ := Lib.digit_of_decFrom _ _ _ hd 0 b (by simp)
    have h3 := Lib.digitVal_eq hb
    exact ⟨b, r, rfl, by rintro rfl; simp at h3⟩
theorem pI_itoa {m : Int} (h : 0 ≤ m ∧ m ≤ 1000000000000) : pI (Lib.itoa m) = (m, true) := by
  obtain ⟨k, rfl⟩ : ∃ k : Nat, m = (k : Int) := ⟨m.toNat, by omega⟩
  rw [itoa_nat]; exact pI_dec (by omega)
theorem pI_itoa_no {m : Int} (h : ¬ (0 ≤ m ∧ m ≤ 1000000000000)) : pI (Lib.itoa m) = (0, false) := by
  refine pI_no fun n hn e => ?_
  by_cases h0 : m < 0
  · obtain ⟨b, r, h1, h2⟩ := dec_head n
    rw [h1] at e
    unfold Lib.itoa at e
    rw [if_pos h0] at e
    injection e with e1 _
    exact h2 e1
  · obtain ⟨k, rfl⟩ : ∃ k : Nat, m = (k : Int) := ⟨m.toNat, by omega⟩
    rw [itoa_nat] at e
    have := dec_inj e
    omega
end Go.Proofs.YtgbfgfpabiapkaaDoor.M01
