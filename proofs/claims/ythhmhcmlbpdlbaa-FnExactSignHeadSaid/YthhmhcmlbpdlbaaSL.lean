/- What a walk is told of a slice of integers that came in. -/
import Derived.Test.YthhmhcmlbpdlbaaChecked
import Derived.WalkKit
import Derived.Below
namespace Go.Proofs.Ythhmhcmlbpdlbaa.SL
open Go.RowKit
/-- It is nil; or it leads to a row of 'cap' cells, the numbers 'zs' (the first 'len' are its elements, the rest its spare room), each fitting its kind. -/
def IsRow (k : IntKind) (w : World) (a : Option Addr) (len cap : Nat) (zs : List Int) : Prop :=
  (a = none ∧ len = 0 ∧ cap = 0 ∧ zs = []) ∨
  ∃ x, a = some x ∧ len ≤ cap ∧ cap ≤ maxLen ∧ zs.length = cap ∧ (∀ i, i < zs.length → w.cell? (x.add i) = some (.int k (zs.getD i 0))) ∧ ∀ n ∈ zs, (Lit.int k n).wf = true
/-- The first n cells from A on are bytes, below block B. -/
def BRow (w : World) (B : Nat) (A : Option Addr) (n : Nat) : Prop :=
  0 < n → ∃ b off, A = some ⟨b, off, none⟩ ∧ b < B ∧ ∀ j, j < n → ∃ x : Int, 0 ≤ x ∧ x ≤ 255 ∧ w.cell? ⟨b, off + j, none⟩ = some (.int .u8 x)
theorem BRow.below {w w' : World} {B : Nat} {A : Option Addr} {n : Nat} (h : BRow w B A n) (hb : Below B w w') : BRow w' B A n := fun hn => by
  obtain ⟨b, off, e, hlt, hc⟩ := h hn
  exact ⟨b, off, e, hlt, fun j hj => by
    obtain ⟨x, h1, h2, h3⟩ := hc j hj
    exact ⟨x, h1, h2, (hb.cell (p := ⟨b, off + j, none⟩) hlt).trans h3⟩⟩
theorem BRow.more {w : World} {B B' : Nat} {A : Option Addr} {n : Nat} (h : BRow w B A n) (hB : B ≤ B') : BRow w B' A n := fun hn => by
  obtain ⟨b, off, e, hlt, hc⟩ := h hn
  exact ⟨b, off, e, by omega, hc⟩
theorem IsRow.len_le {k : IntKind} {w : World} {a : Option Addr} {len cap : Nat} {zs : List Int} (h : IsRow k w a len cap zs) : len ≤ maxLen := by
  rcases h with ⟨_, h, _⟩ | ⟨x, _, h1, h2, _⟩
  · omega
  · omega
theorem cell_lt {w : World} {p : Addr} {v : Value} (h : w.cell? p = some v) : p.block < w.heap.size := by
  rcases Nat.lt_or_ge p.block w.heap.size with hl | hl
  · exact hl
  · unfold World.cell? at h
    rw [Array.getElem?_eq_none hl] at h
    simp at h
theorem IsRow.brow {w : World} {a : Option Addr} {len cap : Nat} {zs : List Int} (h : IsRow .u8 w a len cap zs) : BRow w w.heap.size a len := fun hn => by
  rcases h with ⟨_, h, _⟩ | ⟨x, rfl, h1, h2, h3, hc, hw⟩
  · omega
  · obtain ⟨b, off, spot⟩ := x
    have h0 := hc 0 (by omega)
    have hspot : spot = none := by simpa [Addr.add] using World.cell?_spot h0
    subst hspot
    have hb : b < w.heap.size := by simpa [Addr.add] using cell_lt h0
    refine ⟨b, off, rfl, hb, fun j hj => ?_⟩
    have h4 := hc j (by omega)
    have h5 : (⟨b, off, none⟩ : Addr).add j = ⟨b, off + j, none⟩ := by unfold Addr.add; split <;> simp_all
    rw [h5] at h4
    have hjl : j < zs.length := by omega
    have hmem : zs.getD j 0 ∈ zs := by
      simp [List.getD, List.getElem?_eq_getElem hjl]
    have h6 := hw (zs.getD j 0) hmem
    have e1 : IntKind.u8.min = 0 := rfl
    have e2 : IntKind.u8.max = 255 := rfl
    simp [Lit.wf, e1, e2] at h6
    exact ⟨zs.getD j 0, by simpa using h6.1, by simpa using h6.2, h4⟩
end Go.Proofs.Ythhmhcmlbpdlbaa.SL
