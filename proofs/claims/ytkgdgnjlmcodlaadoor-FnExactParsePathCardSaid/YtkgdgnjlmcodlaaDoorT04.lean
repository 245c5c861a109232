/- The law's own helpers on slices of strings: a copy, a comparison, counting what they hold. -/
import Derived.Test.YtkgdgnjlmcodlaaDoorMemS
import Derived.Test.YtkgdgnjlmcodlaaDoorM04
import Derived.Test.YtkgdgnjlmcodlaaDoorT01
namespace Go.Proofs.YtkgdgnjlmcodlaaDoor.T04
open Go.RowKit Mem MemS M04 T01
set_option linter.unusedVariables false
set_option maxRecDepth 100000
theorem copy_setG {α : Type} {d : α} {n j : Nat} {zs : List α} (hl : zs.length = n) (hj : j < n) : (zs.take j ++ List.replicate (n - j) d).set j (zs.getD j d) = zs.take (j + 1) ++ List.replicate (n - (j + 1)) d := by
  have hm : (zs.take j).length = j := by simp; omega
  rw [List.set_append_right _ _ (by omega), hm, Nat.sub_self]
  rw [show n - j = (n - (j + 1)) + 1 by omega, List.replicate_succ, List.set_cons_zero, List.take_succ_eq_append_getElem (show j < zs.length by omega)]
  simp only [List.getD, List.getElem?_eq_getElem (show j < zs.length by omega), Option.getD_some, List.append_assoc, List.cons_append, List.nil_append]
theorem eqStringS_same (B B' : Nat) (A A' : Option Addr) (n c c' : Nat) (zs : List ByteArray) (w : World) (h : RdS w B A n zs) (h' : RdS w B' A' n zs) (hn : n ≤ 1099511627776) :
    Calls Tryd.prog 19 #[.slice A n c, .slice A' n c'] w fun e w' => e = .returned (.bool true) ∧ Same w w' := by
  go_enter Tryd.func19, Tryd.ntmps19
  go_wp2
  go_loopw [5] (fun i wr => ∃ j : Nat, j ≤ n ∧ i = .int .i64 j ∧ Same w wr) (fun i _ => n - (intOf i).toNat)
  case atStart => exact ⟨0, by omega, rfl, Same.refl _⟩
  case round =>
    obtain ⟨j, hj, rfl, hsm⟩ := hrel
    by_cases hjn : j < n
    · obtain ⟨b, off, rfl, _, hcj⟩ := (h.same hsm).cell_at hjn
      obtain ⟨b', off', rfl, _, hcj'⟩ := (h'.same hsm).cell_at hjn
      generalize zs.getD j .empty = z at hcj hcj'
      have HS := Lib.hid hsm
      clear h h' hsm
      go_wp2
      go_region
      all_goals (try go_wp2)
      go_roundw
      case rel => exact ⟨j + 1, by omega, by go_num, HS.out.drew⟩
      case measure => simp [intOf]; omega
    · clear h h'
      go_wp2
      go_ret
      exact ⟨rfl, hsm⟩
end Go.Proofs.YtkgdgnjlmcodlaaDoor.T04
