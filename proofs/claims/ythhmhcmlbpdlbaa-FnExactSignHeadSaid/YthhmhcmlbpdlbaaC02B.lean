/- Chapter 2: what the code's and the model's functions on byte strings return: appending. Chapter 2: what the code's and the model's functions on byte strings return: reading a varint. Chapter 2: what the code's and the model's functions on byte strings and lists of integers return. -/
import Derived.Test.YthhmhcmlbpdlbaaMem
import Derived.Test.YthhmhcmlbpdlbaaM02
import Derived.Test.YthhmhcmlbpdlbaaC01
import Derived.Lib.Bytes
namespace Go.Proofs.Ythhmhcmlbpdlbaa.C02
open Go.RowKit Mem M02 C01
set_option linter.unusedVariables false
theorem byt_in {zs : List Int} (h : ∀ z ∈ zs, In .u8 z) : Byt zs := fun z hz => by
  have := h z hz
  exact ⟨this.1, this.2⟩
theorem in_u8 {z : Int} (h0 : 0 ≤ z) (h1 : z ≤ 255) : In .u8 z := ⟨h0, h1⟩
theorem uv_go {m : Nat} {d u : List Int} (h : d ++ uv m = u) (hm : ¬ m ≤ 127) {x : Int} (hx : x = (m : Int) % 128 + 128) : (d ++ [x]) ++ uv (m / 128) = u := by
  rw [← h, uv_big hm, List.append_assoc, List.singleton_append, hx]
  congr 1
theorem uv_end {m : Nat} {d u : List Int} (h : d ++ uv m = u) (hm : m ≤ 127) {x : Int} (hx : x = m) : d ++ [x] = u := by rw [← h, uv_small hm, hx]
end Go.Proofs.Ythhmhcmlbpdlbaa.C02
namespace Go.Proofs.Ythhmhcmlbpdlbaa.C02R
open Go.RowKit Mem M02 C01 C02
set_option linter.unusedVariables false
end Go.Proofs.Ythhmhcmlbpdlbaa.C02R
namespace Go.Proofs.Ythhmhcmlbpdlbaa.C02B
open Go.RowKit Mem M02 C01 C02 C02R
set_option linter.unusedVariables false
theorem str_beq {zs ys : List Int} (hx : Byt zs) (hy : Byt ys) : ((strOfNums zs).toList == (strOfNums ys).toList) = decide (zs = ys) := by
  by_cases e : zs = ys
  · subst e; simp
  · rw [decide_eq_false e]
    refine beq_eq_false_iff_ne.2 fun h => e (str_inj hx hy ?_)
    rw [Lib.strOfNums_toList, Lib.strOfNums_toList] at h
    have h1 : (strOfNums zs).data.toList = (strOfNums ys).data.toList := h
    cases h2 : strOfNums zs
    cases h3 : strOfNums ys
    rw [h2, h3] at h1
    congr 1
    exact Array.toList_inj.1 h1
/-- 'b[p:p+q]' -/
theorem cut_rd {B n : Nat} {zs : List Int} {w : World} {b off p q : Nat} (h : Rd .u8 w B (some ⟨b, off, none⟩) n zs) (hpq : p + q ≤ n) : Rd .u8 w B (some ⟨b, off + p, none⟩) q ((zs.take (p + q)).drop p) := by
  rcases Nat.eq_zero_or_pos q with h0 | h0
  · subst h0
    have e : (zs.take (p + 0)).drop p = [] := List.drop_of_length_le (by simp; omega)
    rw [e]
    exact Rd.nil _ _ _ _
  · have := h.part (i := p) (j := p + q) (by omega) hpq (by omega)
    rwa [Nat.add_sub_cancel_left] at this
theorem rdB_cases (zs : List Int) (at_ most : Int) (hb : Byt zs) : ∃ (v x : Int) (ok : Bool), rdU zs at_ = (v, x, ok) ∧
    ((ok = false ∧ rdB zs at_ most = ([], 0, false)) ∨
     ∃ p q : Nat, ok = true ∧ v = q ∧ x = p ∧ 0 < p ∧ p ≤ zs.length ∧ (most < q ∧ rdB zs at_ most = ([], 0, false) ∨ (q : Int) ≤ most ∧ zs.length < p + q ∧ rdB zs at_ most = ([], 0, false) ∨ (q : Int) ≤ most ∧ p + q ≤ zs.length ∧ rdB zs at_ most = ((zs.take (p + q)).drop p, (p : Int) + q, true))) := by
  rcases hr : rdU zs at_ with ⟨v, x, ok⟩
  refine ⟨v, x, ok, rfl, ?_⟩
  rcases ok with _ | _
  · exact .inl ⟨rfl, by rw [rdB, hr, if_neg (by simp)]⟩
  · obtain ⟨h1, h2, h3, h4, h5, _⟩ := rdU_true hb (at_ := at_) (by rw [hr])
    rw [hr] at h2 h3 h4 h5
    simp only at h2 h3 h4 h5
    obtain ⟨p, rfl⟩ : ∃ p : Nat, x = p := ⟨x.toNat, by omega⟩
    obtain ⟨q, rfl⟩ : ∃ q : Nat, v = q := ⟨v.toNat, by omega⟩
    refine .inr ⟨p, q, rfl, rfl, rfl, by omega, by omega, ?_⟩
    by_cases hm : (q : Int) ≤ most
    · by_cases hl : p + q ≤ zs.length
      · refine .inr (.inr ⟨hm, hl, ?_⟩)
        rw [rdB, hr]
        simp only
        rw [if_pos (by simp; omega)]
        congr 1
      · refine .inr (.inl ⟨hm, by omega, ?_⟩)
        rw [rdB, hr, if_neg (by simp only; omega)]
    · refine .inl ⟨by omega, ?_⟩
      rw [rdB, hr, if_neg (by simp only; omega)]
end Go.Proofs.Ythhmhcmlbpdlbaa.C02B
