/- The hash, the key stream and the cipher of chapter 3, as plain functions on lists of numbers. -/
import Derived.Test.YtcpfdhammhcoaaaChecked
namespace Go.Proofs.Ytcpfdhammhcoaaa.M03
def hstep (a v : Int) : Int := (a * 1000003 + v % 2147483647 + 13) % 2147483647
def hsh (l : List Int) : Int := l.foldl hstep 11
def kh (k : Int) (l : List Int) : Int := hsh (k :: (l ++ [k]))
def stream (k : Int) (i : Nat) : Int := kh k [(i : Int)]
def encr (k : Int) (zs : List Int) : List Int := (List.range zs.length).map fun i => (zs.getD i 0 + stream k i % 256) % 256
def decr (k : Int) (zs : List Int) : List Int := (List.range zs.length).map fun i => (zs.getD i 0 - stream k i % 256) % 256
def bti (zs : List Int) : List Int := (zs.length : Int) :: zs
theorem hstep_range (a v : Int) : 0 ≤ hstep a v ∧ hstep a v < 2147483647 := ⟨Int.emod_nonneg _ (by omega), Int.emod_lt_of_pos _ (by omega)⟩
theorem hsh_snoc (l : List Int) (v : Int) : hsh (l ++ [v]) = hstep (hsh l) v := by simp [hsh]
theorem hsh_range (l : List Int) : 0 ≤ hsh l ∧ hsh l < 2147483647 := by
  rcases List.eq_nil_or_concat l with rfl | ⟨l', v, rfl⟩
  · simp [hsh]
  · rw [List.concat_eq_append, hsh_snoc]
    exact hstep_range _ _
theorem hsh_succ {l : List Int} {j : Nat} (hj : j < l.length) : hsh (l.take (j + 1)) = hstep (hsh (l.take j)) (l.getD j 0) := by
  rw [List.take_succ_eq_append_getElem hj, hsh_snoc]
  simp [List.getD, List.getElem?_eq_getElem hj]
theorem kh_range (k : Int) (l : List Int) : 0 ≤ kh k l ∧ kh k l < 2147483647 := hsh_range _
theorem encr_len (k : Int) (zs : List Int) : (encr k zs).length = zs.length := by simp [encr]
theorem decr_len (k : Int) (zs : List Int) : (decr k zs).length = zs.length := by simp [decr]
theorem encr_succ {k : Int} {zs : List Int} {j : Nat} (hj : j < zs.length) : (encr k zs).take (j + 1) = (encr k zs).take j ++ [(zs.getD j 0 + stream k j % 256) % 256] := by
  rw [List.take_succ_eq_append_getElem (by rw [encr_len]; exact hj)]
  simp [encr]
theorem decr_succ {k : Int} {zs : List Int} {j : Nat} (hj : j < zs.length) : (decr k zs).take (j + 1) = (decr k zs).take j ++ [(zs.getD j 0 - stream k j % 256) % 256] := by
  rw [List.take_succ_eq_append_getElem (by rw [decr_len]; exact hj)]
  simp [decr]
theorem decr_encr (k : Int) (zs : List Int) (h : ∀ z ∈ zs, 0 ≤ z ∧ z ≤ 255) : decr k (encr k zs) = zs := by
  apply List.ext_getElem
  · rw [decr_len, encr_len]
  · intro i h1 h2
    have hz := h zs[i] (List.getElem_mem h2)
    simp only [decr, List.getElem_map, List.getElem_range]
    have hi : i < (encr k zs).length := by rw [encr_len]; exact h2
    have e : (encr k zs).getD i 0 = (zs[i] + stream k i % 256) % 256 := by
      rw [List.getD, List.getElem?_eq_getElem hi, Option.getD_some]
      simp only [encr, List.getElem_map, List.getElem_range, List.getD, List.getElem?_eq_getElem h2, Option.getD_some]
    rw [e]
    omega
theorem encr_decr (k : Int) (zs : List Int) (h : ∀ z ∈ zs, 0 ≤ z ∧ z ≤ 255) : encr k (decr k zs) = zs := by
  apply List.ext_getElem
  · rw [encr_len, decr_len]
  · intro i h1 h2
    have hz := h zs[i] (List.getElem_mem h2)
    simp only [encr, List.getElem_map, List.getElem_range]
    have hi : i < (decr k zs).length := by rw [decr_len]; exact h2
    have e : (decr k zs).getD i 0 = (zs[i] - stream k i % 256) % 256 := by
      rw [List.getD, List.getElem?_eq_getElem hi, Option.getD_some]
      simp only [decr, List.getElem_map, List.getElem_range, List.getD, List.getElem?_eq_getElem h2, Option.getD_some]
    rw [e]
    omega
theorem inv_mul (d : Int) (h : (2147483647 : Int) ∣ d * 1000003) : (2147483647 : Int) ∣ d := by
  obtain ⟨k, hk⟩ := h
  refine ⟨k * 1523789695 - d * 709572, ?_⟩
  have e : (1000003 : Int) * 1523789695 = 1 + 2147483647 * 709572 := by decide
  have h2 : d * 1000003 * 1523789695 = 2147483647 * k * 1523789695 := by rw [hk]
  rw [Int.mul_assoc, e] at h2
  rw [Int.mul_add, Int.mul_one] at h2
  rw [Int.mul_sub]
  have h3 : d * (2147483647 * 709572) = 2147483647 * (d * 709572) := by rw [Int.mul_left_comm]
  have h4 : 2147483647 * k * 1523789695 = 2147483647 * (k * 1523789695) := Int.mul_assoc _ _ _
  rw [h3, h4] at h2
  generalize 2147483647 * (d * 709572) = p at h2 ⊢
  generalize 2147483647 * (k * 1523789695) = q at h2 ⊢
  omega
/-- one hstep keeps two accumulators apart, and tells two values apart -/
theorem hstep_inj {a b v : Int} (ha : 0 ≤ a ∧ a < 2147483647) (hb : 0 ≤ b ∧ b < 2147483647) (h : hstep a v = hstep b v) : a = b := by
  unfold hstep at h
  generalize v % 2147483647 = t at h
  have h1 := Int.dvd_of_emod_eq_zero (Int.emod_eq_emod_iff_emod_sub_eq_zero.1 h)
  have e1 : a * 1000003 + t + 13 - (b * 1000003 + t + 13) = (a - b) * 1000003 := by
    rw [Int.sub_mul]
    generalize a * 1000003 = x
    generalize b * 1000003 = y
    omega
  rw [e1] at h1
  obtain ⟨k, hk⟩ := inv_mul _ h1
  clear h h1 e1
  omega
theorem hstep_tells {a v v' : Int} (h : hstep a v = hstep a v') : v % 2147483647 = v' % 2147483647 := by
  unfold hstep at h
  omega
theorem foldl_range (l : List Int) (a : Int) (ha : 0 ≤ a ∧ a < 2147483647) : 0 ≤ l.foldl hstep a ∧ l.foldl hstep a < 2147483647 := by
  induction l generalizing a with
  | nil => exact ha
  | cons x l ih => exact ih _ (hstep_range _ _)
theorem foldl_inj (l : List Int) : ∀ {a b : Int}, 0 ≤ a ∧ a < 2147483647 → 0 ≤ b ∧ b < 2147483647 → l.foldl hstep a = l.foldl hstep b → a = b := by
  induction l with
  | nil => intro a b _ _ h; exact h
  | cons x l ih => intro a b ha hb h; exact hstep_inj ha hb (ih (hstep_range _ _) (hstep_range _ _) h)
/-- a keyed hash tells two values at one place apart -/
theorem kh_tells (k : Int) (l : List Int) {i : Nat} (hi : i < l.length) {v : Int} (hv : v % 2147483647 ≠ l.getD i 0 % 2147483647) : kh k (l.set i v) ≠ kh k l := by
  intro h
  have e1 : l = l.take i ++ l.getD i 0 :: l.drop (i + 1) := by
    have e := List.take_append_drop i l
    rw [List.drop_eq_getElem_cons hi] at e
    simp only [List.getD, List.getElem?_eq_getElem hi, Option.getD_some]
    exact e.symm
  have e2 : l.set i v = l.take i ++ v :: l.drop (i + 1) := List.set_eq_take_append_cons_drop.trans (if_pos hi)
  rw [e2] at h
  conv at h => rhs; rw [e1]
  unfold kh hsh at h
  simp only [List.foldl_cons, List.foldl_append, List.append_assoc, List.cons_append, List.foldl_nil] at h
  have h2 := hstep_inj (foldl_range _ _ (hstep_range _ _)) (foldl_range _ _ (hstep_range _ _)) h
  exact hv (hstep_tells (foldl_inj _ (hstep_range _ _) (hstep_range _ _) h2))
end Go.Proofs.Ytcpfdhammhcoaaa.M03
