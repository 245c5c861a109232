/- The statements' own helpers: 'big', 'at'. -/
import Derived.Test.YtkgdgnjlmcodlaaDoorSL
import Derived.Lib.Hide
import Derived.IntWalk
import Derived.Outline
namespace Go.Proofs.YtkgdgnjlmcodlaaDoor.TB
open Go.RowKit SL
set_option linter.unusedVariables false
theorem big_yes (A : Option Addr) (n c : Nat) (w : World) (h : 1048576 < n) : Calls Tryd.prog 5 #[.slice A n c] w fun e w' => e = .returned (.bool true) ∧ w = w' := by
  have h' : 1048576 < (n : Int) := by omega
  go_enter Tryd.func5, Tryd.ntmps5
  go_wp2
  go_ret
  simp
theorem big_no (A : Option Addr) (n c : Nat) (w : World) (h : n ≤ 1048576) : Calls Tryd.prog 5 #[.slice A n c] w fun e w' => e = .returned (.bool false) ∧ w = w' := by
  have h' : ¬ 1048576 < (n : Int) := by omega
  go_enter Tryd.func5, Tryd.ntmps5
  go_wp2
  go_ret
  simp
end Go.Proofs.YtkgdgnjlmcodlaaDoor.TB
