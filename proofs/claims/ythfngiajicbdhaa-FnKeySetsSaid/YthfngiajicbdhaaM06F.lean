/- Chapter 6: the drawn sets of keys are told apart by their digests. -/
import Derived.Test.YthfngiajicbdhaaD06
namespace Go.Proofs.Ythfngiajicbdhaa.M06F
set_option linter.unusedVariables false
set_option maxRecDepth 100000
open Go.RowKit R06 M03 M06 D06 C01
def dig (p : List Int × Int) : Int := hsh (211 :: keysInts ⟨p.1, p.2⟩)
/-- the valid ones among those that are drawn -/
def sets : List (List Int × Int) := [1, 2, 3].flatMap fun m => (base m).flatMap fun l => (List.range m).flatMap fun (i : Nat) => [(l, (i : Int) + 1), (l ++ [99], (i : Int) + 1)]
theorem dig_apart : (sets.map dig).Nodup := by decide +kernel
theorem bent_bad : ∀ m ∈ [1, 2, 3], ∀ l ∈ base m, isK (l ++ [1]) = false ∧ isK (l ++ [100]) = false := by decide +kernel
theorem sets_mem {l : List Int} {nd : Int} (h : Drawn l nd) : (l, nd) ∈ sets ∧ (l ++ [99], nd) ∈ sets := by
  obtain ⟨m, h1, h2, hm, hl, h5, h6⟩ := h
  have hm3 : m ∈ [1, 2, 3] := by
    have : m = 1 ∨ m = 2 ∨ m = 3 := by omega
    rcases this with rfl | rfl | rfl <;> simp
  have hi : (nd - 1).toNat ∈ List.range m := List.mem_range.2 (by omega)
  have e : (((nd - 1).toNat : Nat) : Int) + 1 = nd := by omega
  constructor
  · exact List.mem_flatMap.2 ⟨m, hm3, List.mem_flatMap.2 ⟨l, hm, List.mem_flatMap.2 ⟨_, hi, by rw [e]; simp⟩⟩⟩
  · exact List.mem_flatMap.2 ⟨m, hm3, List.mem_flatMap.2 ⟨l, hm, List.mem_flatMap.2 ⟨_, hi, by rw [e]; simp⟩⟩⟩
theorem drawn_base {l : List Int} {nd : Int} (h : Drawn l nd) : ∃ m ∈ [1, 2, 3], l ∈ base m := by
  obtain ⟨m, h1, h2, hm, _⟩ := h
  have : m = 1 ∨ m = 2 ∨ m = 3 := by omega
  rcases this with rfl | rfl | rfl <;> exact ⟨_, by simp, hm⟩
theorem any_valid {l : List Int} {nd : Int} (h : AnyK l nd) (hv : isKeys ⟨l, nd⟩ = true) : (l, nd) ∈ sets := by
  have hv2 := hv
  unfold isKeys at hv2
  simp only [Bool.and_eq_true] at hv2
  obtain ⟨hk, hlen, hneed⟩ := hv2
  have hl : 1 ≤ l.length ∧ l.length ≤ 4 := by
    rcases Nat.lt_or_ge l.length 1 with h | h
    · rw [inR_false (by omega)] at hlen
      cases hlen
    · rcases Nat.lt_or_ge 4 l.length with h' | h'
      · rw [inR_false (by omega)] at hlen
        cases hlen
      · exact ⟨h, h'⟩
  have hn : 1 ≤ nd ∧ nd ≤ l.length := by
    by_cases h : 1 ≤ nd ∧ nd ≤ l.length
    · exact h
    · rw [inR_false (by omega)] at hneed
      cases hneed
  rcases h with h | ⟨nd0, h, h0⟩ | ⟨l0, x, h, hx, rfl⟩ | ⟨rfl, _⟩
  · exact (sets_mem h).1
  · have := drawn_len h
    omega
  · obtain ⟨m, hm, hb⟩ := drawn_base h
    rcases hx with rfl | rfl | rfl
    · rw [(bent_bad m hm l0 hb).1] at hk
      cases hk
    · exact (sets_mem h).2
    · rw [(bent_bad m hm l0 hb).2] at hk
      cases hk
  · simp at hl
theorem inj_of_nodup {α β : Type} {f : α → β} : ∀ {l : List α}, (l.map f).Nodup → ∀ x ∈ l, ∀ y ∈ l, f x = f y → x = y
  | [], _, x, hx, _, _, _ => by cases hx
  | a :: l, h, x, hx, y, hy, he => by
    rw [List.map_cons, List.nodup_cons] at h
    rcases List.mem_cons.1 hx with ex | hx'
    · rcases List.mem_cons.1 hy with ey | hy'
      · rw [ex, ey]
      · exact absurd (List.mem_map.2 ⟨y, hy', by rw [← he, ex]⟩) h.1
    · rcases List.mem_cons.1 hy with ey | hy'
      · exact absurd (List.mem_map.2 ⟨x, hx', by rw [he, ey]⟩) h.1
      · exact inj_of_nodup h.2 x hx' y hy' he
theorem dig_eq {l l' : List Int} {nd nd' : Int} (h : AnyK l nd) (h' : AnyK l' nd') (hv : isKeys ⟨l, nd⟩ = true) (hv' : isKeys ⟨l', nd'⟩ = true) :
    (hsh (211 :: keysInts ⟨l, nd⟩) == hsh (211 :: keysInts ⟨l', nd'⟩)) = eqKeysB ⟨l, nd⟩ ⟨l', nd'⟩ := by
  by_cases e : (l, nd) = (l', nd')
  · injection e with e1 e2
    subst e1 e2
    simp [eqKeysB]
  · have h1 : ¬ dig (l, nd) = dig (l', nd') := fun he => e (inj_of_nodup dig_apart _ (any_valid h hv) _ (any_valid h' hv') he)
    have h2 : (hsh (211 :: keysInts ⟨l, nd⟩) == hsh (211 :: keysInts ⟨l', nd'⟩)) = false := beq_eq_false_iff_ne.2 h1
    rw [h2]
    unfold eqKeysB
    by_cases hn : nd = nd'
    · have hl : l ≠ l' := fun q => e (by rw [q, hn])
      simp [hn, hl]
    · simp [hn]
theorem can_one (x : Int) : canSign (oneKey x) [x] = (decide (1 ≤ x) && decide (x ≤ 99)) := by
  by_cases h : 1 ≤ x ∧ x ≤ 99
  · have hr : inR x 1 99 = true := inR_true h.1 h.2
    have hk : isKeys (oneKey x) = true := by
      unfold isKeys isK okAt oneKey
      simp [hr]
      exact ⟨by decide, by decide⟩
    unfold canSign
    rw [hk]
    simp [oneKey, cntK, hasK, h.1, h.2]
  · have hr : inR x 1 99 = false := inR_false (by omega)
    have hk : isKeys (oneKey x) = false := by
      unfold isKeys isK okAt oneKey
      simp [hr]
    unfold canSign
    rw [hk]
    by_cases h1 : 1 ≤ x
    · have h2 : ¬ x ≤ 99 := fun q => h ⟨h1, q⟩
      simp [h2]
    · simp [h1]
theorem has_one (x : Int) : hasK (oneKey x).list x = true := by simp [hasK, oneKey]
end Go.Proofs.Ythfngiajicbdhaa.M06F
