/- The law's own helpers on slices of numbers: a copy, a comparison, marking and looking for marks. -/
import Derived.Test.YtbhhifoofapgiaaGreatMem
import Derived.IntWalk
import Derived.Lib.Hide
import Derived.Outline
import Derived.Laws.Closers25b
namespace Go.Proofs.YtbhhifoofapgiaaGreat.T01
open Go.RowKit Mem
set_option linter.unusedVariables false
set_option maxRecDepth 100000
/-- the marks from k on -/
def marks (κ : IntKind) (k : Int) (n : Nat) : List Int := (List.range n).map fun (i : Nat) => κ.wrap (k + (i : Int))
theorem marks_len (κ : IntKind) (k : Int) (n : Nat) : (marks κ k n).length = n := by simp [marks]
theorem marks_get (κ : IntKind) (k : Int) {n j : Nat} (hj : j < n) : (marks κ k n).getD j 0 = κ.wrap (k + (j : Int)) := by simp [marks, List.getD, hj]
/-- half marked -/
theorem marks_set (κ : IntKind) (k : Int) {n j : Nat} {zs : List Int} (hl : zs.length = n) (hj : j < n) : (marks κ k j ++ zs.drop j).set j (κ.wrap (k + (j : Int))) = marks κ k (j + 1) ++ zs.drop (j + 1) := by
  have hm := marks_len κ k j
  rw [List.set_append_right _ _ (by omega), hm, Nat.sub_self]
  rw [List.drop_eq_getElem_cons (show j < zs.length by omega)]
  rw [List.set_cons_zero]
  simp [marks, List.range_succ]
theorem copy_set {n j : Nat} {zs : List Int} (hl : zs.length = n) (hj : j < n) : (zs.take j ++ List.replicate (n - j) (0 : Int)).set j (zs.getD j 0) = zs.take (j + 1) ++ List.replicate (n - (j + 1)) (0 : Int) := by
  have hm : (zs.take j).length = j := by simp; omega
  rw [List.set_append_right _ _ (by omega), hm, Nat.sub_self]
  rw [show n - j = (n - (j + 1)) + 1 by omega, List.replicate_succ, List.set_cons_zero, List.take_succ_eq_append_getElem (show j < zs.length by omega)]
  simp only [List.getD, List.getElem?_eq_getElem (show j < zs.length by omega), Option.getD_some, List.append_assoc, List.cons_append, List.nil_append]
theorem wrap_i64_id (z : Int) (h1 : -9223372036854775808 ≤ z) (h2 : z ≤ 9223372036854775807) : IntKind.i64.wrap z = z := by
  rw [IntKind.wrap_i64]
  omega
theorem wrap_in (κ : IntKind) (z : Int) : In κ (κ.wrap z) := wrap_within κ z
end Go.Proofs.YtbhhifoofapgiaaGreat.T01
