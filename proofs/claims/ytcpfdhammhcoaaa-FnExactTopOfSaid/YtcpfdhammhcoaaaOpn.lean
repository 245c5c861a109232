/- What came in, of any type, reads as data. -/
import Derived.Test.YtcpfdhammhcoaaaRep
import Derived.Deep.Slices
import Derived.Deep.Fields
import Derived.ChangeSame
namespace Go.Proofs.Ytcpfdhammhcoaaa.Opn
open Go.RowKit Go.ChangeShapes Go.WideShapes Go.Deep Mem MemS Rep
set_option linter.unusedVariables false
set_option maxRecDepth 100000
def Opens {α : Type} (R : Rep α) (t : TypeId) : Prop :=
  ∀ (H : Type) (enc : TypeId × Value → H) (W : World) (base : Nat) (spare : Nat → Bool) (held : Bool) (fuel : Nat) (cs : List Value) (x : DataW H × List MemPlace),
    DataW.trod enc Try.prog W base spare held fuel t cs = some x → ∃ a : α, R.rd W (Lt W.heap.size) cs a
theorem opens_int {t : TypeId} (ht : Try.prog.underlying t = some (.int .i64)) : Opens RI t := by
  intro H enc W base spare held fuel cs x h
  obtain ⟨n, rfl, _, hw⟩ := DataW.trod_int ht h
  exact ⟨n, rfl, by simpa [Lit.wf, In] using hw⟩
theorem opens_str {t : TypeId} (ht : Try.prog.underlying t = some .string) : Opens RS t := by
  intro H enc W base spare held fuel cs x h
  obtain ⟨s, rfl, _, hw⟩ := DataW.trod_string ht h
  exact ⟨s, rfl, hw⟩
theorem opens_bool {t : TypeId} (ht : Try.prog.underlying t = some .bool) : Opens RBo t := by
  intro H enc W base spare held fuel cs x h
  obtain ⟨b, rfl, _⟩ := DataW.trod_bool ht h
  exact ⟨b, rfl, trivial⟩
theorem opens_slice {α : Type} {R : Rep α} {t e ty : TypeId} (ht : Try.prog.underlying t = some (.slice e)) (hn : Try.prog.cellsOf e = R.n) (hp : 0 < R.n) (hR : Opens R e) : Opens (slice ty R) t := by
  intro H enc W base spare held fuel cs x h
  rcases open_slice ht h with ⟨rfl, _⟩ | ⟨a, len, cap, m, n, D, Pl, rfl, hb, hl, hm, hmm, hx, hi⟩
  · exact ⟨[], none, 0, 0, rfl, Nat.le_refl _, by simp [maxLen], Rds.nil _ _ _ _⟩
  · have hlm : len ≤ m := by
      rw [hmm]
      split <;> omega
    have hch : ∀ i : Fin len, ∃ (z : α) (cs : List Value), R.rd W (Lt W.heap.size) cs z ∧ ∀ j, j < R.n → W.cell? (a.add (i.1 * R.n + j)) = cs[j]? := fun i => by
      obtain ⟨cs', h1, h2⟩ := hi i.1 (by have := i.2; omega)
      obtain ⟨z, hz⟩ := hR _ _ _ _ _ _ _ _ _ h2
      obtain ⟨_, hcl, hat⟩ := World.cells?_some h1
      refine ⟨z, cs', hz, fun j hj => ?_⟩
      rw [hn] at hat
      have := hat j hj
      rwa [Go.Deep.add_add] at this
    refine ⟨List.ofFn fun i => (hch i).choose, some a, len, cap, rfl, hl, hm, ⟨by simp, fun h0 => ?_⟩⟩
    have hcell : ∀ (i : Nat) (hi : i < len), ∃ cs, R.rd W (Lt W.heap.size) cs (hch ⟨i, hi⟩).choose ∧ ∀ j, j < R.n → W.cell? (a.add (i * R.n + j)) = cs[j]? := fun i hi => (hch ⟨i, hi⟩).choose_spec
    obtain ⟨cs0, r0, c0⟩ := hcell 0 h0
    have hl0 := R.len r0
    have hc0 := c0 0 hp
    have hcs : cs0[0]? = some (cs0[0]'(by omega)) := List.getElem?_eq_getElem (by omega)
    rw [hcs] at hc0
    obtain ⟨b, off, spot⟩ := a
    have hspot : spot = none := by
      have := World.cell?_spot hc0
      simpa [Addr.add] using this
    subst hspot
    refine ⟨b, off, rfl, ?_, fun i z hz => ?_⟩
    · have := World.block_lt_of_cell? W _ hc0
      simpa [add_none] using this
    · have hi' : i < len := by
        have := (List.getElem?_eq_some_iff.1 hz).1
        simpa using this
      rw [List.getElem?_ofFn, dif_pos hi'] at hz
      injection hz with hz
      subst hz
      obtain ⟨cs, h1, h2⟩ := hcell i hi'
      refine ⟨cs, h1, fun j hj => ?_⟩
      have := h2 j hj
      rwa [add_none] at this
end Go.Proofs.Ytcpfdhammhcoaaa.Opn
