/- Chapter 10: plain facts on hash trees. -/
import Derived.Test.YtcpfdhammhcoaaaM08
import Derived.Test.YtcpfdhammhcoaaaM03
import Derived.Test.YtcpfdhammhcoaaaC01
namespace Go.Proofs.Ytcpfdhammhcoaaa.M10
open Go.RowKit R08 M03 M08 C01
set_option linter.unusedVariables false
set_option maxRecDepth 100000
def nodeOf (a b : Int) : Int := hsh [229, a, b]
def up : List Int → List Int
  | [] => []
  | [a] => [a]
  | a :: b :: r => nodeOf a b :: up r
theorem up_len : ∀ l : List Int, (up l).length = (l.length + 1) / 2
  | [] => by simp [up]
  | [a] => by simp [up]
  | a :: b :: r => by
    simp only [up, List.length_cons, up_len r]
    omega
theorem up_app : ∀ (xs ys : List Int), xs.length % 2 = 0 → up (xs ++ ys) = up xs ++ up ys
  | [], ys, _ => by simp [up]
  | [a], ys, h => by simp at h
  | a :: b :: r, ys, h => by
    simp only [List.cons_append, up]
    rw [up_app r ys (by simp only [List.length_cons] at h; omega)]
theorem up_two {l : List Int} {i : Nat} (h : i + 1 < l.length) (h2 : i % 2 = 0) : up (l.take (i + 2)) = up (l.take i) ++ [nodeOf (l.getD i 0) (l.getD (i + 1) 0)] := by
  have e : l.take (i + 2) = l.take i ++ [l.getD i 0, l.getD (i + 1) 0] := by
    rw [show i + 2 = (i + 1) + 1 by omega, List.take_succ_eq_append_getElem h, List.take_succ_eq_append_getElem (show i < l.length by omega)]
    simp only [List.getD, List.getElem?_eq_getElem h, List.getElem?_eq_getElem (show i < l.length by omega), Option.getD_some, List.append_assoc, List.cons_append, List.nil_append]
  rw [e, up_app _ _ (by rw [List.length_take]; omega)]
  simp [up]
theorem up_one {l : List Int} {i : Nat} (h : i + 1 = l.length) (h2 : i % 2 = 0) : up (l.take (i + 2)) = up (l.take i) ++ [l.getD i 0] := by
  have e : l.take (i + 2) = l.take i ++ [l.getD i 0] := by
    rw [List.take_of_length_le (by omega)]
    conv => lhs; rw [← List.take_of_length_le (show l.length ≤ i + 1 by omega), List.take_succ_eq_append_getElem (show i < l.length by omega)]
    simp only [List.getD, List.getElem?_eq_getElem (show i < l.length by omega), Option.getD_some]
  rw [e, up_app _ _ (by rw [List.length_take]; omega)]
  simp [up]
def topW (l : List Int) : Int := if h : 1 < l.length then topW (up l) else l.getD 0 0
termination_by l.length
decreasing_by rw [up_len]; omega
theorem topW_up {l : List Int} (h : 1 < l.length) : topW (up l) = topW l := by
  conv => rhs; rw [topW, dif_pos h]
theorem topW_one {l : List Int} (h : ¬ 1 < l.length) : topW l = l.getD 0 0 := by rw [topW, dif_neg h]
def topOf (l : List Int) : Int := if l.length = 0 then hsh [229] else topW l
def leavesE (l : List Entry) : List Int := l.map leafOf
def rootN (n : Int) (t : Int) : Int := hsh [231, n, t]
def rootOf (l : List Entry) : Int := rootN l.length (topOf (leavesE l))
def sib (i : Nat) : Nat := if i % 2 = 1 then i - 1 else i + 1
def pathW (l : List Int) (i : Nat) : List Int := if h : 1 < l.length then (if sib i < l.length then [l.getD (sib i) 0] else []) ++ pathW (up l) (i / 2) else []
termination_by l.length
decreasing_by rw [up_len]; omega
theorem pathW_up {l : List Int} {i : Nat} (h : 1 < l.length) : pathW l i = (if sib i < l.length then [l.getD (sib i) 0] else []) ++ pathW (up l) (i / 2) := by
  rw [pathW, dif_pos h]
theorem pathW_one {l : List Int} {i : Nat} (h : ¬ 1 < l.length) : pathW l i = [] := by rw [pathW, dif_neg h]
def pathFor (l : List Int) (i : Int) : List Int := if inR i 0 ((l.length : Int) - 1) then pathW l i.toNat else []
def tfW (leaf : Int) (i n : Nat) (path : List Int) : Option Int :=
  if h : 1 < n then
    if i % 2 = 1 ∨ i + 1 < n then
      match path with
      | [] => none
      | p :: r => tfW (if i % 2 = 1 then nodeOf p leaf else nodeOf leaf p) (i / 2) ((n + 1) / 2) r
    else tfW leaf (i / 2) ((n + 1) / 2) path
  else if path = [] then some leaf else none
termination_by n
decreasing_by all_goals omega
def topFrom (leaf i n : Int) (path : List Int) : Int × Bool :=
  if inR n 1 12 && inR i 0 (n - 1) then
    match tfW leaf i.toNat n.toNat path with
    | some t => (t, true)
    | none => (0, false)
  else (0, false)
theorem tf_end {leaf : Int} {i n : Nat} {path : List Int} (h : ¬ 1 < n) : tfW leaf i n path = if path = [] then some leaf else none := by unfold tfW; rw [dif_neg h]
theorem tf_none {leaf : Int} {i n : Nat} (h : 1 < n) (h2 : i % 2 = 1 ∨ i + 1 < n) : tfW leaf i n [] = none := by unfold tfW; rw [dif_pos h, if_pos h2]
theorem tf_step {leaf p : Int} {i n : Nat} {r : List Int} (h : 1 < n) (h2 : i % 2 = 1 ∨ i + 1 < n) : tfW leaf i n (p :: r) = tfW (if i % 2 = 1 then nodeOf p leaf else nodeOf leaf p) (i / 2) ((n + 1) / 2) r := by
  conv => lhs; unfold tfW
  rw [dif_pos h, if_pos h2]
theorem tf_skip {leaf : Int} {i n : Nat} {path : List Int} (h : 1 < n) (h2 : ¬ (i % 2 = 1 ∨ i + 1 < n)) : tfW leaf i n path = tfW leaf (i / 2) ((n + 1) / 2) path := by
  conv => lhs; unfold tfW
  rw [dif_pos h, if_neg h2]
theorem pathW_len : ∀ (k : Nat) (l : List Int) (i : Nat), l.length ≤ k → (pathW l i).length ≤ l.length
  | 0, l, i, h => by
    rw [pathW_one (by omega)]
    simp
  | k + 1, l, i, h => by
    by_cases h1 : 1 < l.length
    · rw [pathW_up h1, List.length_append]
      have h2 := up_len l
      have h3 := pathW_len k (up l) (i / 2) (by omega)
      have h4 : (if sib i < l.length then [l.getD (sib i) 0] else ([] : List Int)).length ≤ 1 := by split <;> simp
      omega
    · rw [pathW_one h1]
      simp
theorem pathFor_len (l : List Int) (i : Int) : (pathFor l i).length ≤ l.length := by
  unfold pathFor
  split
  · exact pathW_len l.length l _ (Nat.le_refl _)
  · simp
end Go.Proofs.Ytcpfdhammhcoaaa.M10
