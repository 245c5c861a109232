/- Chapter 3: the code's hashes and keys. -/
import Derived.Test.YtpjfmbcandgpeaaC03S
import Derived.Test.YtpjfmbcandgpeaaC03D
import Derived.Test.YtpjfmbcandgpeaaT01
namespace Go.Proofs.Ytpjfmbcandgpeaa.C03H
open Go.RowKit Mem M02 C01 C02 C02B M03 C03S C03D T01
set_option linter.unusedVariables false
theorem fold_succ {a : Int} {l : List Int} {j : Nat} (hj : j < l.length) : (l.take (j + 1)).foldl hstep a = hstep ((l.take j).foldl hstep a) (l.getD j 0) := by
  rw [List.take_succ_eq_append_getElem hj, List.foldl_append]
  simp [List.getD, List.getElem?_eq_getElem hj]
end Go.Proofs.Ytpjfmbcandgpeaa.C03H
