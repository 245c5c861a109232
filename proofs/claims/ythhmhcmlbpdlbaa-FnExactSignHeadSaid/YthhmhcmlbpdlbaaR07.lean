/- A struct of ints as data: Sig. -/
import Derived.Test.YthhmhcmlbpdlbaaFlat
import Derived.Test.YthhmhcmlbpdlbaaRep
namespace Go.Proofs.Ythhmhcmlbpdlbaa.R07
open Go.RowKit Go.ChangeShapes Go.WideShapes Go.Deep Mem MemS Rep RepA Opn Flat
set_option linter.unusedVariables false
set_option maxRecDepth 100000
structure Sig where
  key : Int
  tag : Int
instance : Inhabited Sig := ⟨⟨0, 0⟩⟩
instance : DecidableEq Sig := fun a b => decidable_of_iff (a.key = b.key ∧ a.tag = b.tag) (by cases a; cases b; simp)
def fSig (s : Sig) : List Value := [.int .i64 s.key, .int .i64 s.tag]
def QSig (s : Sig) : Prop := In .i64 s.key ∧ In .i64 s.tag
def RSig : Rep Sig := iso 73 (pair RI RI) fun s => (s.key, s.tag)
theorem flSig : Fl RSig fSig QSig where
  rd := by
    intro w P cs s
    constructor
    · rintro ⟨c0, d0, rfl, ⟨rfl, h0⟩, ⟨rfl, h1⟩⟩
      exact ⟨rfl, h0, h1⟩
    · rintro ⟨rfl, h0, h1⟩
      exact ⟨_, _, rfl, ⟨rfl, h0⟩, ⟨rfl, h1⟩⟩
  own := by
    intro w F cs s
    constructor
    · rintro ⟨F0, G0, c0, d0, rfl, rfl, ⟨rfl, rfl, h0⟩, ⟨rfl, rfl, h1⟩⟩
      exact ⟨rfl, rfl, h0, h1⟩
    · rintro ⟨rfl, rfl, h0, h1⟩
      exact ⟨[], [], _, _, rfl, rfl, ⟨rfl, rfl, h0⟩, ⟨rfl, rfl, h1⟩⟩
  fl := fun _ => rfl
  pos := by decide
theorem fSig_len (s : Sig) : (fSig s).length = 2 := rfl
theorem RSig_n : RSig.n = 2 := rfl
abbrev FRdSig := FRd 2 fSig QSig
abbrev FOwnSig := FOwn 73 2 fSig QSig
theorem FOwnSig.rd {w : World} {lo hi n c : Nat} {A : Option Addr} {zs : List Sig} (h : FOwnSig w lo hi A n c zs) : FRdSig w hi A n zs := FOwn.rd h fSig_len
theorem tiSig : Ti RSig 36 := by
  refine ⟨by kernel_rfl, by decide, ?_⟩
  obtain ⟨i, h1, h2, h3, h4⟩ := info_parts (show (Try.prog.info? 73).map (fun i => (i.zero, i.size, i.bytes)) = some (some (.agg #[.int .i64 0, .int .i64 0]), 2, 16) by kernel_rfl)
  exact ⟨i, _, h1, h2, rfl, h3, by omega⟩
theorem opens_Sig : Opens RSig 84 := by
  intro H enc W base spare held fuel cs x h
  obtain ⟨xs, n, _, _, hlen, hxs, hf⟩ := DataW.trod_struct Try.underlying84 h
  have hl : cs.length = 2 := hlen.trans (by kernel_rfl)
  match cs, hl with
  | [c0, c1], _ =>
    have h0 : DataW.trod enc Try.prog W base spare held n 3 (List.take (Try.prog.cellsOf 3) (List.drop 0 [c0, c1])) = xs[0]? := hf 0 _ rfl
    rw [show Try.prog.cellsOf 3 = 1 by kernel_rfl] at h0
    simp only [List.drop_zero, List.take_succ_cons, List.take_zero] at h0
    have h1 : DataW.trod enc Try.prog W base spare held n 3 (List.take (Try.prog.cellsOf 3) (List.drop 1 [c0, c1])) = xs[1]? := hf 1 _ rfl
    rw [show Try.prog.cellsOf 3 = 1 by kernel_rfl] at h1
    simp only [List.drop_zero, List.drop_succ_cons, List.take_succ_cons, List.take_zero] at h1
    have hx : xs.length = 2 := hxs
    rw [List.getElem?_eq_getElem (show 0 < xs.length by omega)] at h0
    obtain ⟨a0, r0⟩ := opens_int Try.underlying3 _ _ _ _ _ _ _ _ _ h0
    rw [List.getElem?_eq_getElem (show 1 < xs.length by omega)] at h1
    obtain ⟨a1, r1⟩ := opens_int Try.underlying3 _ _ _ _ _ _ _ _ _ h1
    exact ⟨⟨a0, a1⟩, ⟨[c0], [c1], rfl, r0, r1⟩⟩
def totSig (_ : Sig) : Nat := 0
def cntSig (_ : Sig) : Nat := 2
theorem RSig_shape {w : World} {P : Nat → Prop} {cs : List Value} {s : Sig} (h : RSig.rd w P cs s) : cs = [.int .i64 s.key, .int .i64 s.tag] := (flSig.rd.1 h).1
theorem cells_Sig {l : List Value} (h : (Array.mk l).size = 2) : ∃ c0 c1, l = [c0, c1] := by
  have h' : l.length = 2 := h
  match l, h' with
  | [c0, c1], _ => exact ⟨c0, c1, rfl⟩
end Go.Proofs.Ythhmhcmlbpdlbaa.R07
