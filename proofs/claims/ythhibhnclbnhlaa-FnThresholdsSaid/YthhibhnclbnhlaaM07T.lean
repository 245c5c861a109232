/- Chapter 7: who holds enough keys signs, and a signature is no signature of a longer drawn message. -/
import Derived.Test.YthhibhnclbnhlaaM07F
namespace Go.Proofs.Ythhibhnclbnhlaa.M07T
set_option linter.unusedVariables false
open Go.RowKit M03 M06 M07 M07F C01 R06 R07
theorem keys_in {k : Keys} (h : isKeys k = true) {x : Int} (hx : x ∈ k.list) : 1 ≤ x ∧ x ≤ 99 := by
  unfold isKeys isK at h
  simp only [Bool.and_eq_true] at h
  obtain ⟨i, hi, rfl⟩ := List.mem_iff_getElem.1 hx
  have h1 := List.all_eq_true.1 h.1 i (List.mem_range.2 hi)
  unfold okAt inR at h1
  simp only [Bool.and_eq_true, List.getD, List.getElem?_eq_getElem hi, Option.getD_some] at h1
  simpa using h1.1
theorem keys_need {k : Keys} (h : isKeys k = true) : 1 ≤ k.need := by
  unfold isKeys inR at h
  simp at h
  omega
theorem any_signBy {held l m : List Int} {x : Int} (hl : ∀ y ∈ l, 1 ≤ y ∧ y ≤ 99) (hx : x ∈ l) : anyS (signBy held l m) x m = hasK held x := by
  unfold anyS signBy
  rw [Bool.eq_iff_iff, List.any_eq_true]
  constructor
  · rintro ⟨s, hs, h⟩
    obtain ⟨y, hy, rfl⟩ := List.mem_map.1 hs
    simp only [Bool.and_eq_true, beq_iff_eq] at h
    obtain ⟨rfl, _⟩ := h
    exact (List.mem_filter.1 hy).2
  · intro h
    refine ⟨⟨x, tagOf x m⟩, List.mem_map.2 ⟨x, List.mem_filter.2 ⟨hx, h⟩, rfl⟩, ?_⟩
    have := hl x hx
    unfold isSig inR
    simp
    omega
theorem sgn_signBy {k : Keys} {held m : List Int} : isSgn k m (signBy held k.list m) = canSign k held := by
  unfold isSgn canSign
  cases h : isKeys k with
  | false => rfl
  | true =>
    have e : cntS k.list m (signBy held k.list m) = cntK held k.list := by
      unfold cntS cntK
      rw [List.countP_eq_length_filter]
      congr 1
      exact List.filter_congr fun x hx => any_signBy (fun y hy => keys_in h hy) hx
    rw [e]
theorem sgn_more {k : Keys} {held m : List Int} (h : isKeys k = true) (hl : m.length ≤ 3) (hv : ∀ v ∈ m, 0 ≤ v ∧ v ≤ 8) : isSgn k (m ++ [1]) (signBy held k.list m) = false := by
  have hn := keys_need h
  have e : cntS k.list (m ++ [1]) (signBy held k.list m) = 0 := by
    unfold cntS
    rw [List.length_eq_zero_iff, List.filter_eq_nil_iff]
    intro x hx ha
    unfold anyS at ha
    obtain ⟨s, hs, h1⟩ := List.any_eq_true.1 ha
    obtain ⟨y, hy, rfl⟩ := List.mem_map.1 hs
    have hy2 := keys_in h (List.mem_filter.1 hy).1
    unfold isSig at h1
    simp only [Bool.and_eq_true, beq_iff_eq] at h1
    exact tag_more hy2.1 hy2.2 hl hv h1.2.2
  unfold isSgn
  rw [e, h]
  simp
  omega
theorem signBy_len (held l m : List Int) : (signBy held l m).length ≤ l.length := by
  unfold signBy
  rw [List.length_map]
  exact List.length_filter_le _ _
theorem signBy_has {held l m : List Int} {i : Nat} (h : i < (signBy held l m).length) : hasK l ((signBy held l m).getD i default).key = true := by
  simp only [List.getD, List.getElem?_eq_getElem h, Option.getD_some]
  obtain ⟨x, hx, e⟩ := List.mem_map.1 (List.getElem_mem h)
  rw [← e]
  exact decide_eq_true (List.mem_filter.1 hx).1
theorem isKeys_one (key : Int) : isKeys (oneKey key) = (decide (1 ≤ key) && decide (key ≤ 99)) := by
  unfold isKeys oneKey isK okAt inR
  simp
end Go.Proofs.Ythhibhnclbnhlaa.M07T
