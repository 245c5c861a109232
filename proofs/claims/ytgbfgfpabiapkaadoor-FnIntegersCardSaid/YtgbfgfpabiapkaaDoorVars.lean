/- What the package-level variables of the library hold during a call (they are the first blocks, and nothing that the program does writes into them), and how it stays. -/
import Derived.Test.YtgbfgfpabiapkaaDoorChecked
import Derived.WalkKit
import Derived.Below
import Derived.WalkSmall
import Derived.Lib.LaidTab
import Derived.Lib.ItoaNum
import Derived.Stop.LaidErr
namespace Go.Proofs.YtgbfgfpabiapkaaDoor.VV
open Go.RowKit
theorem gPow : Tryd.prog.globalNamed "internal/strconv.uint64pow10" = some 2 := by kernel_rfl
/-- The table of powers of ten. -/
structure Tab (w : World) : Prop where
  tab : Lib.TabIs Tryd.prog w "internal/strconv.uint64pow10" .u64 Lib.pow10Tab
  size : 5 ≤ w.heap.size
theorem Tab.below {w w' : World} {B : Nat} (h : Tab w) (hb : Below B w w') (hB : 5 ≤ B) : Tab w' :=
  ⟨var?_below hb gPow (by omega) h.tab, by have := hb.size; have := h.size; omega⟩
theorem gSyn : Tryd.prog.globalNamed "strconv.ErrSyntax" = some 0 := by kernel_rfl
theorem gRng : Tryd.prog.globalNamed "strconv.ErrRange" = some 1 := by kernel_rfl
/-- The table of powers of ten, and the library's two errors of numbers. -/
structure Vars (w : World) : Prop where
  tab : Tab w
  syn : ∃ tp p, w.var? Tryd.prog "strconv.ErrSyntax" = some #[.iface tp p]
  rng : ∃ tp p, w.var? Tryd.prog "strconv.ErrRange" = some #[.iface tp p]
theorem Vars.below {w w' : World} {B : Nat} (h : Vars w) (hb : Below B w w') (hB : 5 ≤ B) : Vars w' := by
  obtain ⟨h1, ⟨t, p, h2⟩, ⟨t', p', h3⟩⟩ := h
  exact ⟨h1.below hb hB, ⟨t, p, var?_below hb gSyn (by omega) h2⟩, ⟨t', p', var?_below hb gRng (by omega) h3⟩⟩
end Go.Proofs.YtgbfgfpabiapkaaDoor.VV
