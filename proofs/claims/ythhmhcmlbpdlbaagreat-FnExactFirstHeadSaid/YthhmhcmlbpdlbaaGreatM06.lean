/- Chapter 6: plain facts on sets of keys. -/
import Derived.Test.YthhmhcmlbpdlbaaGreatR06
import Derived.Test.YthhmhcmlbpdlbaaGreatC02B
import Derived.Test.YthhmhcmlbpdlbaaGreatC03H
namespace Go.Proofs.YthhmhcmlbpdlbaaGreat.M06
open Go.RowKit Mem MemS R06 C01 M03
set_option linter.unusedVariables false
/-- the key at i is a key, and greater than the one ahead of it -/
def okAt (l : List Int) (i : Nat) : Bool := inR (l.getD i 0) 1 99 && (decide (i = 0) || decide (l.getD (i - 1) 0 < l.getD i 0))
def isK (l : List Int) : Bool := (List.range l.length).all (okAt l)
def isKeys (k : Keys) : Bool := isK k.list && (inR k.list.length 1 4 && inR k.need 1 k.list.length)
def keysInts (k : Keys) : List Int := k.need :: (k.list.length : Int) :: k.list
def hasK (l : List Int) (key : Int) : Bool := decide (key ∈ l)
def cntK (held l : List Int) : Nat := l.countP (hasK held)
def canSign (k : Keys) (held : List Int) : Bool := isKeys k && decide (k.need ≤ (cntK held k.list : Int))
def oneKey (key : Int) : Keys := ⟨[key], 1⟩
def eqKeysB (a b : Keys) : Bool := decide (a.need = b.need) && decide (a.list = b.list)
theorem isK_all {l : List Int} (h : ∀ j, j < l.length → okAt l j = true) : isK l = true := by
  unfold isK
  rw [List.all_eq_true]
  intro i hi
  exact h i (List.mem_range.1 hi)
theorem isK_bad {l : List Int} {j : Nat} (hj : j < l.length) (h : okAt l j = false) : isK l = false := by
  unfold isK
  rw [List.all_eq_false]
  exact ⟨j, List.mem_range.2 hj, by rw [h]; simp⟩
theorem isKeys_bad {k : Keys} (h : isK k.list = false) : isKeys k = false := by unfold isKeys; rw [h]; rfl
theorem isKeys_ok {k : Keys} (h : isK k.list = true) : isKeys k = (inR k.list.length 1 4 && inR k.need 1 k.list.length) := by unfold isKeys; rw [h]; rfl
theorem hasK_at {l : List Int} {j : Nat} (hj : j < l.length) {key : Int} (h : l.getD j 0 = key) : hasK l key = true := by
  unfold hasK
  rw [← h, List.getD, List.getElem?_eq_getElem hj]
  exact decide_eq_true (List.getElem_mem hj)
theorem hasK_none {l : List Int} {key : Int} (h : ∀ j, j < l.length → l.getD j 0 ≠ key) : hasK l key = false := by
  unfold hasK
  refine decide_eq_false fun hm => ?_
  obtain ⟨i, hi, he⟩ := List.mem_iff_getElem.1 hm
  refine h i hi ?_
  rw [List.getD, List.getElem?_eq_getElem hi]
  exact he
theorem cntK_step {held l : List Int} {j : Nat} (hj : j < l.length) : cntK held (l.take (j + 1)) = cntK held (l.take j) + if hasK held (l.getD j 0) then 1 else 0 := by
  unfold cntK
  rw [List.take_succ_eq_append_getElem hj, List.countP_append, List.getD, List.getElem?_eq_getElem hj, Option.getD_some]
  simp [List.countP_cons]
theorem cntK_le (held l : List Int) : cntK held l ≤ l.length := List.countP_le_length
end Go.Proofs.YthhmhcmlbpdlbaaGreat.M06
