/- Chapter 12: gaps: what the functions compute. -/
import Derived.Test.YtbhhifoofapgiaaGreatM12P
import Derived.Test.YtbhhifoofapgiaaGreatR12
namespace Go.Proofs.YtbhhifoofapgiaaGreat.M12
open Go.RowKit R08 R11 R12 M03 M04 M05 M08 M09 M09F M10 M11 M12P C01
set_option linter.unusedVariables false
def zeroG : Gap := ⟨0, zeroE, zeroE, zeroP, zeroP⟩
def gapAt (l : List Entry) (k : Nat) : Gap := ⟨k, befE l k, aftE l k, lefP l k, rigP l k⟩
def proveA (l : List Entry) (s : ByteArray) : Gap × Bool := if areE l && isLab s && decide (fndE l s < 0) then (gapAt l (rankN l s), true) else (zeroG, false)
def checkG (root count : Int) (s : ByteArray) (g : Gap) : Bool := checkA root count s g.at_ g.before g.after g.left g.right
def eqG (a b : Gap) : Bool := decide (a.at_ = b.at_) && eqEntryB a.before b.before && eqEntryB a.after b.after && eqP a.left b.left && eqP a.right b.right
theorem proveA_yes {l : List Entry} {s : ByteArray} (h1 : areE l = true) (h2 : isLab s = true) (h3 : fndE l s < 0) : proveA l s = (gapAt l (rankN l s), true) := by unfold proveA; rw [h1, h2, decide_eq_true h3]; rfl
theorem proveA_no {l : List Entry} {s : ByteArray} (h : areE l = false ∨ isLab s = false ∨ ¬ fndE l s < 0) : proveA l s = (zeroG, false) := by
  unfold proveA
  rcases h with h | h | h
  · rw [h]; rfl
  · rw [h, Bool.and_false]; rfl
  · rw [decide_eq_false h, Bool.and_false]; rfl
/-- what FnAbsence asks where a gap is shown -/
theorem gaps {l : List Entry} {s : ByteArray} (h : (proveA l s).2 = true) : (proveA l s).1.at_ = rankN l s ∧ checkG (rootOf l) l.length s (proveA l s).1 = true ∧ checkG (rootOf l + 1) l.length s (proveA l s).1 = false ∧ ∀ i, i < l.length → checkG (rootOf l) l.length (at0 l i).label (proveA l s).1 = false := by
  cases h1 : areE l with
  | false => rw [proveA_no (.inl h1)] at h; exact absurd h (by decide)
  | true =>
    cases h2 : isLab s with
    | false => rw [proveA_no (.inr (.inl h2))] at h; exact absurd h (by decide)
    | true =>
      by_cases h3 : fndE l s < 0
      · rw [proveA_yes h1 h2 h3]
        exact ⟨rfl, absence h1 h2 h3 rfl⟩
      · rw [proveA_no (.inr (.inr h3))] at h; exact absurd h (by decide)
end Go.Proofs.YtbhhifoofapgiaaGreat.M12
