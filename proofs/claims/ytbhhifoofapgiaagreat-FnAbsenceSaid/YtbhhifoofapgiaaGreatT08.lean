/- The law's own helpers on slices of strings: a copy, a comparison, counting what they hold. The laws' own helpers on slices of strings: marking, and looking for marks. The laws' own helpers on entries. -/
import Derived.Test.YtbhhifoofapgiaaGreatMemS
import Derived.Test.YtbhhifoofapgiaaGreatM05
import Derived.Test.YtbhhifoofapgiaaGreatT01
import Derived.Test.YtbhhifoofapgiaaGreatC02B
import Derived.Deep.RegionHeld3
import Derived.Test.YtbhhifoofapgiaaGreatM08
namespace Go.Proofs.YtbhhifoofapgiaaGreat.T04
open Go.RowKit Mem MemS M04 T01
set_option linter.unusedVariables false
set_option maxRecDepth 100000
theorem copy_setG {α : Type} {d : α} {n j : Nat} {zs : List α} (hl : zs.length = n) (hj : j < n) : (zs.take j ++ List.replicate (n - j) d).set j (zs.getD j d) = zs.take (j + 1) ++ List.replicate (n - (j + 1)) d := by
  have hm : (zs.take j).length = j := by simp; omega
  rw [List.set_append_right _ _ (by omega), hm, Nat.sub_self]
  rw [show n - j = (n - (j + 1)) + 1 by omega, List.replicate_succ, List.set_cons_zero, List.take_succ_eq_append_getElem (show j < zs.length by omega)]
  simp only [List.getD, List.getElem?_eq_getElem (show j < zs.length by omega), Option.getD_some, List.append_assoc, List.cons_append, List.nil_append]
end Go.Proofs.YtbhhifoofapgiaaGreat.T04
namespace Go.Proofs.YtbhhifoofapgiaaGreat.T05
open Go.RowKit Mem MemS M02 M04 C02 C02B C03D T01
set_option linter.unusedVariables false
set_option maxRecDepth 100000
/-- the decimal digits, as bytes -/
def dgL (n : Nat) : List Int := if n = 0 then [] else dgL (n / 10) ++ [48 + (n : Int) % 10]
termination_by n
decreasing_by omega
theorem dgL_zero : dgL 0 = [] := by rw [dgL]; simp
theorem dgL_pos {n : Nat} (h : 0 < n) : dgL n = dgL (n / 10) ++ [48 + (n : Int) % 10] := by rw [dgL, if_neg (by omega)]
theorem dgL_byt : ∀ n : Nat, Byt (dgL n) := by
  intro n
  induction n using Nat.strongRecOn with
  | _ n ih =>
    rcases Nat.eq_zero_or_pos n with h | h
    · subst h
      rw [dgL_zero]
      intro z hz
      cases hz
    · rw [dgL_pos h]
      intro z hz
      rcases List.mem_append.1 hz with hz | hz
      · exact ih _ (by omega) z hz
      · rw [List.mem_singleton.1 hz]
        omega
theorem dgL_len : ∀ (m n : Nat), n < 10 ^ m → (dgL n).length ≤ m := by
  intro m
  induction m with
  | zero =>
    intro n h
    have : n = 0 := by simpa using h
    subst this
    rw [dgL_zero]
    simp
  | succ m ih =>
    intro n h
    rcases Nat.eq_zero_or_pos n with h0 | h0
    · subst h0
      rw [dgL_zero]
      simp
    · rw [dgL_pos h0]
      have := ih (n / 10) (by rw [Nat.pow_succ] at h; omega)
      simp
      exact this
def mkT (k : Int) : ByteArray := strOfNums (109 :: (if k ≤ 0 then [48] else dgL k.toNat))
theorem mkT_byt (k : Int) : Byt (109 :: (if k ≤ 0 then [48] else dgL k.toNat)) := by
  intro z hz
  rcases List.mem_cons.1 hz with rfl | hz
  · omega
  · split at hz
    · rw [List.mem_singleton.1 hz]
      omega
    · exact dgL_byt _ z hz
theorem mkT_size (k : Int) (hk : k ≤ 2305843009213693952) : (mkT k).size ≤ 21 := by
  unfold mkT
  rw [strOf_size]
  split
  · simp
  · have := dgL_len 19 k.toNat (by omega)
    simp
    omega
theorem nums_app (a b : ByteArray) : nums (a ++ b) = nums a ++ nums b := by
  unfold nums
  rw [ByteArray.data_append, Array.toList_append, List.map_append]
theorem str_ext {a b : ByteArray} (h : nums a = nums b) : a = b := by rw [← strOf_nums a, h, strOf_nums]
theorem in_dig (m : Nat) : In .u8 (48 + (m : Int) % 10) := in_u8 (by omega) (by omega)
theorem below_drew {w w7 : World} (h : Below w.drew.heap.size w.drew w7) : Below w.heap.size w w7 := (Below.refl _ _).drew.trans h
def marksS (k : Int) (n : Nat) : List ByteArray := (List.range n).map fun (i : Nat) => mkT (k + (i : Int))
theorem marksS_len (k : Int) (n : Nat) : (marksS k n).length = n := by simp [marksS]
theorem marksS_get (k : Int) {n j : Nat} (hj : j < n) : (marksS k n).getD j .empty = mkT (k + (j : Int)) := by simp [marksS, List.getD, hj]
theorem marksS_set (k : Int) {n j : Nat} {zs : List ByteArray} (hl : zs.length = n) (hj : j < n) : (marksS k j ++ zs.drop j).set j (mkT (k + (j : Int))) = marksS k (j + 1) ++ zs.drop (j + 1) := by
  have hm := marksS_len k j
  rw [List.set_append_right _ _ (by omega), hm, Nat.sub_self, List.drop_eq_getElem_cons (show j < zs.length by omega), List.set_cons_zero]
  rw [show marksS k (j + 1) = marksS k j ++ [mkT (k + (j : Int))] by simp [marksS, List.range_succ]]
  simp
theorem marksS_end {k : Int} {n : Nat} {zs : List ByteArray} (hl : zs.length = n) : marksS k n ++ zs.drop n = marksS k n := by
  subst hl
  simp
end Go.Proofs.YtbhhifoofapgiaaGreat.T05
namespace Go.Proofs.YtbhhifoofapgiaaGreat.T08
open Go.RowKit Mem MemS Rep R08 T04 T05 M04
set_option linter.unusedVariables false
set_option maxRecDepth 100000
theorem szGo_tot : ∀ (ss : List ByteArray) (q : Int), 0 ≤ q → szGo q ss = if q < ((ss.map ByteArray.size).sum : Int) then -1 else q - ((ss.map ByteArray.size).sum : Int)
  | [], q, h => by
    unfold szGo
    rw [if_neg (by simp; omega)]
    simp
  | s :: r, q, h => by
    unfold szGo
    have e : (((s :: r).map ByteArray.size).sum : Int) = (s.size : Int) + ((r.map ByteArray.size).sum : Int) := by simp
    rw [e]
    have h0 : (0 : Int) ≤ ((r.map ByteArray.size).sum : Int) := Int.natCast_nonneg _
    by_cases h1 : q - s.size < 0
    · rw [if_pos h1, if_pos (by omega)]
    · rw [if_neg h1, szGo_tot r _ (by omega)]
      by_cases h2 : q - s.size < ((r.map ByteArray.size).sum : Int)
      · rw [if_pos h2, if_pos (by omega)]
      · rw [if_neg h2, if_neg (by omega)]
        omega
theorem szS_tot {ss : List ByteArray} {q : Int} (h : 0 ≤ q) : szS q ss = if q < (totSS ss : Int) then -1 else q - (totSS ss : Int) := by
  unfold szS totSS
  have h0 : (0 : Int) ≤ ((ss.map ByteArray.size).sum : Int) := Int.natCast_nonneg _
  have e : ((ss.length + (ss.map ByteArray.size).sum : Nat) : Int) = (ss.length : Int) + ((ss.map ByteArray.size).sum : Int) := by simp
  rw [e]
  by_cases h1 : q - ss.length < 0
  · rw [if_pos h1, if_pos (by omega)]
  · rw [if_neg h1, szGo_tot ss _ (by omega)]
    by_cases h2 : q - ss.length < ((ss.map ByteArray.size).sum : Int)
    · rw [if_pos h2, if_pos (by omega)]
    · rw [if_neg h2, if_neg (by omega)]
      omega
def mkEntry (k : Entry) (q : Int) : Entry := ⟨k.label, k.kind, k.value, marksS q k.path.length⟩
end Go.Proofs.YtbhhifoofapgiaaGreat.T08
