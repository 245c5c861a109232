/- Chapter 11: what proofs of presence are. -/
import Derived.Test.YtbhhifoofapgiaaGreatM10
import Derived.Test.YtbhhifoofapgiaaGreatM09
import Derived.Test.YtbhhifoofapgiaaGreatR11
namespace Go.Proofs.YtbhhifoofapgiaaGreat.M11
open Go.RowKit R08 R11 M03 M08 M09 M10 M10F C01
set_option linter.unusedVariables false
def proveE (l : List Entry) (s : ByteArray) : Proof × Bool := if fndE l s < 0 then (⟨0, []⟩, false) else (⟨fndE l s, pathFor (leavesE l) (fndE l s)⟩, true)
def checkE (root count : Int) (e : Entry) (p : Proof) : Bool := isEntry e && (topFrom (leafOf e) p.at_ count p.path).2 && decide (rootN count (topFrom (leafOf e) p.at_ count p.path).1 = root)
def checkL (root : Int) (l : List Entry) : Bool := areE l && decide (rootOf l = root)
def sizeP (p : Proof) : Int := (p.path.length : Int) + 1
def eqP (a b : Proof) : Bool := decide (a.at_ = b.at_) && decide (a.path = b.path)
theorem proveE_no {l : List Entry} {s : ByteArray} (h : fndE l s < 0) : proveE l s = (⟨0, []⟩, false) := by unfold proveE; rw [if_pos h]
theorem proveE_yes {l : List Entry} {s : ByteArray} (h : ¬ fndE l s < 0) : proveE l s = (⟨fndE l s, pathFor (leavesE l) (fndE l s)⟩, true) := by unfold proveE; rw [if_neg h]
theorem fnd_range (l : List Entry) (s : ByteArray) : -1 ≤ fndE l s ∧ fndE l s ≤ l.length := by
  rcases fndE_cases l s with ⟨h, _⟩ | ⟨j, hj, h, _⟩ <;> omega
theorem leavesE_len (l : List Entry) : (leavesE l).length = l.length := by unfold leavesE; simp
theorem top_rg {leaf i n : Int} {p : List Int} (h : Rg leaf) : ∀ t, tfW leaf i.toNat n.toNat p = some t → Rg t := by
  have key : ∀ (k : Nat) (i n : Nat) (x : Int) (p : List Int), n ≤ k → Rg x → ∀ t, tfW x i n p = some t → Rg t := by
    intro k
    induction k with
    | zero =>
      intro i n x p hn hx t ht
      rw [tf_end (by omega)] at ht
      split at ht
      · cases ht
        exact hx
      · cases ht
    | succ k ih =>
      intro i n x p hn hx t ht
      by_cases h1 : 1 < n
      · by_cases h2 : i % 2 = 1 ∨ i + 1 < n
        · cases p with
          | nil => rw [tf_none h1 h2] at ht; cases ht
          | cons y r =>
            rw [tf_step h1 h2] at ht
            refine ih _ _ _ _ (by omega) ?_ t ht
            split
            · exact node_rg _ _
            · exact node_rg _ _
        · rw [tf_skip h1 h2] at ht
          exact ih _ _ _ _ (by omega) hx t ht
      · rw [tf_end h1] at ht
        split at ht
        · cases ht
          exact hx
        · cases ht
  exact key n.toNat i.toNat n.toNat leaf p (Nat.le_refl _) h
theorem topFrom_rg {leaf i n : Int} {p : List Int} (h : Rg leaf) : Rg (topFrom leaf i n p).1 := by
  unfold topFrom
  split
  · cases ht : tfW leaf i.toNat n.toNat p with
    | none => exact ⟨Int.le_refl 0, by show (0 : Int) < 2147483647; omega⟩
    | some t => exact top_rg h t ht
  · exact ⟨Int.le_refl 0, by show (0 : Int) < 2147483647; omega⟩
theorem leafRg (k : Entry) : Rg (leafOf k) := hsh_range _
theorem rg_in {x : Int} (h : Rg x) : -9223372036854775808 ≤ x ∧ x ≤ 9223372036854775807 := by
  unfold Rg at h
  omega
end Go.Proofs.YtbhhifoofapgiaaGreat.M11
