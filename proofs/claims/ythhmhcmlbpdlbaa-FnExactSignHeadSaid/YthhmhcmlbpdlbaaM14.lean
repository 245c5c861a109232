/- Chapter 14: signed heads: what the functions compute. -/
import Derived.Test.YthhmhcmlbpdlbaaM07
import Derived.Test.YthhmhcmlbpdlbaaM13
import Derived.Test.YthhmhcmlbpdlbaaR14
namespace Go.Proofs.Ythhmhcmlbpdlbaa.M14
open Go.RowKit R06 R07 R13 R14 C01 M03 M06 M07 M13
set_option linter.unusedVariables false
def zonOf (k : Keys) (salt : Int) : Int := hsh (239 :: salt :: keysInts k)
def signHd (held : List Int) (k : Keys) (h : Head) : Signed := ⟨h, signBy held k.list (headInts h)⟩
def isFst (s : Signed) : Bool :=
  isHd s.head && ((s.head.epoch == 0) && ((s.head.kind == 1) && (!s.head.frozen && ((s.head.zone == zonOf s.head.keys s.head.prev) && isSgn s.head.keys (headInts s.head) s.sigs))))
def cntSd (s : Signed) (k : Keys) : Nat := cntS k.list (headInts s.head) s.sigs
def eqSd (a b : Signed) : Bool := eqHd a.head b.head && decide (a.sigs = b.sigs)
theorem eqSd_iff {a b : Signed} : eqSd a b = true ↔ a = b := by
  unfold eqSd
  rcases a with ⟨h, l⟩
  rcases b with ⟨h', l'⟩
  simp only [Bool.and_eq_true, decide_eq_true_eq, eqHd_iff, Signed.mk.injEq]
end Go.Proofs.Ythhmhcmlbpdlbaa.M14
