/- Sets of keys as data. -/
import Derived.Test.YthhmhcmlbpdlbaaGreatRep
namespace Go.Proofs.YthhmhcmlbpdlbaaGreat.R06
open Go.RowKit Go.ChangeShapes Go.WideShapes Go.Deep Mem MemS Rep RepA Opn
set_option linter.unusedVariables false
set_option maxRecDepth 100000
structure Keys where
  list : List Int
  need : Int
deriving Inhabited
abbrev RLI : Rep (List Int) := slice 24 RI
def RKeys : Rep Keys := iso 26 (pair RLI RI) fun k => (k.list, k.need)
theorem RKeys_rd {w : World} {B : Nat} {cs : List Value} {k : Keys} : RKeys.rd w (Lt B) cs k ↔ ∃ A n c, cs = [.slice A n c, .int .i64 k.need] ∧ n ≤ c ∧ c ≤ maxLen ∧ Rd .i64 w B A n k.list ∧ In .i64 k.need := by
  constructor
  · rintro ⟨c1, c2, rfl, ⟨A, n, c, rfl, h1, h2, h3⟩, rfl, h4⟩
    exact ⟨A, n, c, rfl, h1, h2, h3.ints, h4⟩
  · rintro ⟨A, n, c, rfl, h1, h2, h3, h4⟩
    exact ⟨_, _, rfl, ⟨A, n, c, rfl, h1, h2, Rds.of_ints h3⟩, rfl, h4⟩
theorem RKeys_own {w : World} {lo hi : Nat} {cs : List Value} {k : Keys} : OwnI RKeys w lo hi cs k ↔ ∃ A n c, cs = [.slice A n c, .int .i64 k.need] ∧ Own .i64 w lo hi A n c k.list ∧ In .i64 k.need := by
  constructor
  · rintro ⟨F, ⟨F1, F2, c1, c2, rfl, rfl, ⟨A, n, c, rfl, h3⟩, rfl, rfl, h4⟩, hn, hF⟩
    rw [List.append_nil] at hF
    exact ⟨A, n, c, rfl, h3.ints hF, h4⟩
  · rintro ⟨A, n, c, rfl, h3, h4⟩
    exact ⟨blk A, ⟨blk A, [], _, _, by simp, rfl, ⟨A, n, c, rfl, OwnF.of_ints h3⟩, rfl, rfl, h4⟩, by cases A <;> simp [blk], Own.blk_in h3⟩
theorem opens_Keys : Opens RKeys 46 := by
  intro H enc W base spare held fuel cs x h
  obtain ⟨xs, n, _, _, hlen, hxs, hf⟩ := DataW.trod_struct Tryz.underlying46 h
  have hl : cs.length = 2 := hlen.trans (by kernel_rfl)
  match cs, hl with
  | [c0, c1], _ =>
    have h0 : DataW.trod enc Tryz.prog W base spare held n 24 (List.take (Tryz.prog.cellsOf 24) (List.drop 0 [c0, c1])) = xs[0]? := hf 0 _ rfl
    have h1 : DataW.trod enc Tryz.prog W base spare held n 3 (List.take (Tryz.prog.cellsOf 3) (List.drop 1 [c0, c1])) = xs[1]? := hf 1 _ rfl
    rw [show Tryz.prog.cellsOf 24 = 1 by kernel_rfl] at h0
    rw [show Tryz.prog.cellsOf 3 = 1 by kernel_rfl] at h1
    simp only [List.drop_zero, List.drop_succ_cons, List.take_succ_cons, List.take_zero] at h0 h1
    have hx : xs.length = 2 := hxs
    rw [List.getElem?_eq_getElem (show 0 < xs.length by omega)] at h0
    rw [List.getElem?_eq_getElem (show 1 < xs.length by omega)] at h1
    obtain ⟨a0, r0⟩ := opens_slice (ty := 24) Tryz.underlying24 (by kernel_rfl) (by decide) (opens_int Tryz.underlying3) _ _ _ _ _ _ _ _ _ h0
    obtain ⟨a1, r1⟩ := opens_int Tryz.underlying3 _ _ _ _ _ _ _ _ _ h1
    exact ⟨⟨a0, a1⟩, [c0], [c1], rfl, r0, r1⟩
def totKeys (k : Keys) : Nat := k.list.length
def cntKeys (k : Keys) : Nat := k.list.length
theorem cntKeys_le (k : Keys) : cntKeys k ≤ totKeys k := Nat.le_refl _
theorem two_of {cs : List Value} (h : cs.length = 2) : ∃ a b, cs = [a, b] := by
  match cs, h with
  | [a, b], _ => exact ⟨a, b, rfl⟩
theorem below_drew {w w7 : World} (h : Below w.drew.heap.size w.drew w7) : Below w.heap.size w w7 := (Below.refl _ _).drew.trans h
theorem RKeys_shape {w : World} {P : Nat → Prop} {cs : List Value} {k : Keys} (h : RKeys.rd w P cs k) : ∃ A n c, cs = [.slice A n c, .int .i64 k.need] := by
  obtain ⟨c1, c2, rfl, ⟨A, n, c, rfl, h1, h2, h3⟩, rfl, h4⟩ := h
  exact ⟨A, n, c, rfl⟩
theorem cells_Keys {l : List Value} (h : (Array.mk l).size = 2) : ∃ a b, l = [a, b] := two_of h
end Go.Proofs.YthhmhcmlbpdlbaaGreat.R06
