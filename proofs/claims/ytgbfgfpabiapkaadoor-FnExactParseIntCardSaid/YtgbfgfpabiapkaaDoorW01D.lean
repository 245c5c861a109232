/- The walks of the exact laws of FormatInt and ParseInt: each law returns true, and writes into nothing that was there. -/
import Derived.Test.YtgbfgfpabiapkaaDoorC01S
import Derived.Test.YtgbfgfpabiapkaaDoorC01I
namespace Go.Proofs.YtgbfgfpabiapkaaDoor.W01D
set_option linter.unusedVariables false
open Go.RowKit Go.Proofs.YtgbfgfpabiapkaaDoor.C01 Go.Proofs.YtgbfgfpabiapkaaDoor.C01S Go.Proofs.YtgbfgfpabiapkaaDoor.C01I Go.Proofs.YtgbfgfpabiapkaaDoor.VV Go.Proofs.YtgbfgfpabiapkaaDoor.M01
theorem FnExactFormatInt_walk (w : World) (hv : Tab w) (a : Int) (ha : (Lit.int .i64 a).wf = true) :
    Calls Tryd.prog 4 #[.int .i64 a] w fun e w' => e = .returned (.bool true) ∧ Below w.heap.size w w' := by
  obtain ⟨h0, h1⟩ : -9223372036854775808 ≤ a ∧ a ≤ 9223372036854775807 := by simpa [Lit.wf, IntKind.min, IntKind.max, IntKind.signed, IntKind.bits] using ha
  have H0 := Lib.hid h0
  have H1 := Lib.hid h1
  clear h0 h1 ha
  go_enter Tryd.func4, Tryd.ntmps4
  go_wp2_with fail
  refine (sFormatInt_any _ _ H0.out H1.out).mono ?_
  rintro e w1 ⟨rfl, hb⟩
  go_wp2_with fail
  refine (iFormatInt_any _ _ H0.out H1.out (hv.below hb hv.size)).mono ?_
  rintro e w2 ⟨rfl, hb2⟩
  go_wp2
  go_ret
  exact ⟨rfl, hb.trans (hb2.mono hb.size)⟩
theorem FnExactParseInt_walk (w : World) (hv : Vars w) (s : ByteArray) (hs : s.size ≤ maxLen) :
    Calls Tryd.prog 5 #[.string s] w fun e w' => e = .returned (.bool true) ∧ Below w.heap.size w w' := by
  by_cases hl : 1048576 < s.size
  · have hl' : 1048576 < (s.size : Int) := by omega
    go_enter Tryd.func5, Tryd.ntmps5
    go_wp2
    go_ret
    exact ⟨rfl, Below.refl _ _⟩
  · have hl' : ¬ 1048576 < (s.size : Int) := by omega
    clear hs
    go_enter Tryd.func5, Tryd.ntmps5
    go_wp2_with fail
    refine (sParseInt_any _ _ (by omega)).mono ?_
    rintro e w1 ⟨rfl, hb⟩
    go_wp2_with fail
    refine (iParseInt_any _ _ (by omega) (hv.below hb hv.tab.size)).mono ?_
    rintro e w2 ⟨rfl, hb2⟩
    go_wp2
    go_ret
    exact ⟨rfl, hb.trans (hb2.mono hb.size)⟩
end Go.Proofs.YtgbfgfpabiapkaaDoor.W01D
