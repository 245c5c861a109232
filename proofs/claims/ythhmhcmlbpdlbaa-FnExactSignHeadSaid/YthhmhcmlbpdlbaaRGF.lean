/- Flat rows as what a slot may hold. -/
import Derived.Test.YthhmhcmlbpdlbaaRKA
import Derived.Test.YthhmhcmlbpdlbaaFlat
namespace Go.Proofs.Ythhmhcmlbpdlbaa.RGF
open Go Go.RowKit Mem MemS Rep RG RGS Flat
set_option linter.unusedVariables false
def sflat {α : Type} [Inhabited α] (k : Nat) (f : α → List Value) (Q : α → Prop) (zs : List α) : Sy := ⟨fun w x => ∃ A c, x = .slice A zs.length c ∧ zs.length ≤ c ∧ FRd k f Q w w.heap.size A zs.length zs,
  fun u u' x hb ⟨A, c, h1, h2, h3⟩ => ⟨A, c, h1, h2, (h3.below hb (Nat.le_refl _)).more hb.size⟩⟩
theorem sflat_rd {α : Type} [Inhabited α] {k : Nat} {f : α → List Value} {Q : α → Prop} {zs : List α} {w : World} {n c : Nat} {A : Option Addr} (h : FRd k f Q w w.heap.size A n zs) (hc : n ≤ c) : (sflat k f Q zs).p w (.slice A n c) := by
  have := h.len
  subst this
  exact ⟨A, c, rfl, hc, h⟩
end Go.Proofs.Ythhmhcmlbpdlbaa.RGF
