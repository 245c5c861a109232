/- What the row's list of package-level variables gives: the table of powers of ten, and the library's two errors of numbers. -/
import Derived.Test.YtgbfgfpabiapkaaDoorVars
import Derived.Test.YtgbfgfpabiapkaaDoorRows
import Derived.Lib.LaidTab
import Derived.Stop.LaidErr
namespace Go.Proofs.YtgbfgfpabiapkaaDoor.LD
open Go.RowKit Go.Proofs.YtgbfgfpabiapkaaDoor.VV
theorem g64 : Tryd.prog.globalNamed "math/bits.deBruijn64tab" = some 4 := by kernel_rfl
theorem g64T : (Tryd.prog.globals[4]?).map (·.type) = some 84 := by kernel_rfl
theorem c64 : Tryd.prog.cellsOf 84 = 64 := by kernel_rfl
theorem c8 : Tryd.prog.cellsOf 5 = 1 := by kernel_rfl
theorem gPowT : (Tryd.prog.globals[2]?).map (·.type) = some 78 := by kernel_rfl
theorem c20 : Tryd.prog.cellsOf 78 = 20 := by kernel_rfl
theorem cu64 : Tryd.prog.cellsOf 59 = 1 := by kernel_rfl
theorem size_of_tab {w : World} {n : String} {k : IntKind} {zs : List Int} {g : Nat} (hg : Tryd.prog.globalNamed n = some g) (h : Lib.TabIs Tryd.prog w n k zs) : g < w.heap.size := by
  unfold Lib.TabIs World.var? at h
  rw [hg] at h
  rcases Nat.lt_or_ge g w.heap.size with hl | hl
  · exact hl
  · simp [Array.getElem?_eq_none hl] at h
theorem tab_of {w : World} {r : List (String × DataW Unit)} {d32 : String × DataW Unit}
    (h : laidMet Tryd.prog (d32 :: ("math/bits.deBruijn64tab", Rows.laid_math_bits_deBruijn64tab) :: ("internal/strconv.uint64pow10", Rows.laid_internal_strconv_uint64pow10) :: r) w) : Tab w := by
  have h64 := Lib.tabIs_of_head (k := .u8) (zs := [0, 1, 56, 2, 57, 49, 28, 3, 61, 58, 42, 50, 38, 29, 17, 4, 62, 47, 59, 36, 45, 43, 51, 22, 53, 39, 33, 30, 24, 18, 12, 5, 63, 55, 48, 27, 60, 41, 37, 16, 46, 35, 44, 21, 52, 32, 23, 11, 54, 26, 40, 15, 34, 20, 31, 10, 25, 14, 19, 9, 13, 8, 7, 6]) g64 g64T Tryd.underlying84 Tryd.underlying5 c8 c64 h.tail
  have hp := Lib.tabIs_of_head (k := .u64) (zs := Lib.pow10Tab) gPow gPowT Tryd.underlying78 Tryd.underlying59 cu64 c20 h.tail.tail
  exact ⟨hp, size_of_tab g64 h64⟩
theorem gSynT : (Tryd.prog.globals[0]?).map (·.type) = some 41 := by kernel_rfl
theorem gRngT : (Tryd.prog.globals[1]?).map (·.type) = some 41 := by kernel_rfl
theorem cES : Tryd.prog.cellsOf 75 = 1 := by kernel_rfl
theorem cStr : Tryd.prog.cellsOf 9 = 1 := by kernel_rfl
theorem star : "*" ++ "errors.errorString" = "*errors.errorString" := by decide
theorem rowES (u : TypeId) (h : Tryd.prog.typeName? 3 u = some "*errors.errorString") : u = 73 :=
  typeName_ptr_named (nm := "errors.errorString") (by rw [star]; kernel_rfl) (by kernel_rfl) (by decide) u (by rw [star]; exact h)
theorem vars_of {w : World} {r : List (String × DataW Unit)} {d32 : String × DataW Unit}
    (h : laidMet Tryd.prog (d32 :: ("math/bits.deBruijn64tab", Rows.laid_math_bits_deBruijn64tab) :: ("internal/strconv.uint64pow10", Rows.laid_internal_strconv_uint64pow10) :: ("strconv.ErrRange", Rows.laid_strconv_ErrRange) :: ("strconv.ErrSyntax", Rows.laid_strconv_ErrSyntax) :: r) w) : Vars w := by
  obtain ⟨a0, s0, hv0, -, -, -⟩ := laid_sentinel h.tail.tail.tail gRng gRngT Tryd.underlying41 rowES Tryd.underlying73 Tryd.underlying75 rfl rfl Tryd.underlying9 cES cStr
  obtain ⟨a1, s1, hv1, -, -, -⟩ := laid_sentinel h.tail.tail.tail.tail gSyn gSynT Tryd.underlying41 rowES Tryd.underlying73 Tryd.underlying75 rfl rfl Tryd.underlying9 cES cStr
  exact ⟨tab_of h, ⟨_, _, hv1⟩, ⟨_, _, hv0⟩⟩
end Go.Proofs.YtgbfgfpabiapkaaDoor.LD
