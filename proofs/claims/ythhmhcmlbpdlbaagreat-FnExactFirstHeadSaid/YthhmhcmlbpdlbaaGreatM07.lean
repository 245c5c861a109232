/- A struct of ints as data: Sig. Chapter 7: plain facts on signatures. Flat rows as what a slot may hold. -/
import Derived.Test.YthhmhcmlbpdlbaaGreatFlat
import Derived.Test.YthhmhcmlbpdlbaaGreatRep
import Derived.Test.YthhmhcmlbpdlbaaGreatM06
import Derived.Test.YthhmhcmlbpdlbaaGreatC02B
import Derived.Test.YthhmhcmlbpdlbaaGreatRKA
namespace Go.Proofs.YthhmhcmlbpdlbaaGreat.R07
open Go.RowKit Go.ChangeShapes Go.WideShapes Go.Deep Mem MemS Rep RepA Opn Flat
set_option linter.unusedVariables false
set_option maxRecDepth 100000
structure Sig where
  key : Int
  tag : Int
instance : Inhabited Sig := ⟨⟨0, 0⟩⟩
instance : DecidableEq Sig := fun a b => decidable_of_iff (a.key = b.key ∧ a.tag = b.tag) (by cases a; cases b; simp)
def fSig (s : Sig) : List Value := [.int .i64 s.key, .int .i64 s.tag]
def QSig (s : Sig) : Prop := In .i64 s.key ∧ In .i64 s.tag
def RSig : Rep Sig := iso 107 (pair RI RI) fun s => (s.key, s.tag)
theorem flSig : Fl RSig fSig QSig where
  rd := by
    intro w P cs s
    constructor
    · rintro ⟨c0, d0, rfl, ⟨rfl, h0⟩, ⟨rfl, h1⟩⟩
      exact ⟨rfl, h0, h1⟩
    · rintro ⟨rfl, h0, h1⟩
      exact ⟨_, _, rfl, ⟨rfl, h0⟩, ⟨rfl, h1⟩⟩
  own := by
    intro w F cs s
    constructor
    · rintro ⟨F0, G0, c0, d0, rfl, rfl, ⟨rfl, rfl, h0⟩, ⟨rfl, rfl, h1⟩⟩
      exact ⟨rfl, rfl, h0, h1⟩
    · rintro ⟨rfl, rfl, h0, h1⟩
      exact ⟨[], [], _, _, rfl, rfl, ⟨rfl, rfl, h0⟩, ⟨rfl, rfl, h1⟩⟩
  fl := fun _ => rfl
  pos := by decide
theorem fSig_len (s : Sig) : (fSig s).length = 2 := rfl
theorem RSig_n : RSig.n = 2 := rfl
abbrev FRdSig := FRd 2 fSig QSig
abbrev FOwnSig := FOwn 107 2 fSig QSig
theorem FOwnSig.rd {w : World} {lo hi n c : Nat} {A : Option Addr} {zs : List Sig} (h : FOwnSig w lo hi A n c zs) : FRdSig w hi A n zs := FOwn.rd h fSig_len
theorem tiSig : Ti RSig 34 := by
  refine ⟨by kernel_rfl, by decide, ?_⟩
  obtain ⟨i, h1, h2, h3, h4⟩ := info_parts (show (Tryz.prog.info? 107).map (fun i => (i.zero, i.size, i.bytes)) = some (some (.agg #[.int .i64 0, .int .i64 0]), 2, 16) by kernel_rfl)
  exact ⟨i, _, h1, h2, rfl, h3, by omega⟩
def totSig (_ : Sig) : Nat := 0
def cntSig (_ : Sig) : Nat := 2
theorem RSig_shape {w : World} {P : Nat → Prop} {cs : List Value} {s : Sig} (h : RSig.rd w P cs s) : cs = [.int .i64 s.key, .int .i64 s.tag] := (flSig.rd.1 h).1
theorem cells_Sig {l : List Value} (h : (Array.mk l).size = 2) : ∃ c0 c1, l = [c0, c1] := by
  have h' : l.length = 2 := h
  match l, h' with
  | [c0, c1], _ => exact ⟨c0, c1, rfl⟩
end Go.Proofs.YthhmhcmlbpdlbaaGreat.R07
namespace Go.Proofs.YthhmhcmlbpdlbaaGreat.M07
open Go.RowKit M03 M06 R06 R07 C01
set_option linter.unusedVariables false
def tagOf (key : Int) (m : List Int) : Int := kh key (223 :: m)
def isSig (s : Sig) (m : List Int) : Bool := inR s.key 1 99 && s.tag == tagOf s.key m
/-- some signature of the message is by this key -/
def anyS (sigs : List Sig) (x : Int) (m : List Int) : Bool := sigs.any fun s => s.key == x && isSig s m
def signBy (held : List Int) (l : List Int) (m : List Int) : List Sig := (l.filter (hasK held)).map fun x => ⟨x, tagOf x m⟩
def cntS (l : List Int) (m : List Int) (sigs : List Sig) : Nat := (l.filter fun x => anyS sigs x m).length
def isSgn (k : Keys) (m : List Int) (sigs : List Sig) : Bool := isKeys k && decide (k.need ≤ (cntS k.list m sigs : Int))
def keys99 : List Int := (List.range 99).map fun (i : Nat) => (i : Int) + 1
def sgnOf (m : List Int) (sigs : List Sig) : List Int := keys99.filter fun x => anyS sigs x m
theorem take_snoc {α : Type} {l : List α} {i : Nat} (h : i < l.length) : l.take (i + 1) = l.take i ++ [l[i]] := by
  rw [List.take_succ_eq_append_getElem h]
theorem cntS_le (l : List Int) (m : List Int) (sigs : List Sig) : cntS l m sigs ≤ l.length := List.length_filter_le _ _
theorem cntS_step {l m : List Int} {sigs : List Sig} {i : Nat} (h : i < l.length) : cntS (l.take (i + 1)) m sigs = cntS (l.take i) m sigs + (if anyS sigs (l.getD i 0) m then 1 else 0) := by
  unfold cntS
  rw [take_snoc h, List.filter_append, List.length_append]
  simp only [List.getD, List.getElem?_eq_getElem h, Option.getD_some]
  by_cases hx : anyS sigs l[i] m = true
  · simp [hx]
  · simp [hx]
/-- some of the first j -/
theorem anyS_hit {sigs : List Sig} {x : Int} {m : List Int} {j : Nat} (h : j < sigs.length) (hx : ((sigs.getD j default).key == x && isSig (sigs.getD j default) m) = true) : anyS sigs x m = true := by
  simp only [List.getD, List.getElem?_eq_getElem h, Option.getD_some] at hx
  exact List.any_eq_true.2 ⟨_, List.getElem_mem h, hx⟩
theorem anyS_miss {sigs : List Sig} {x : Int} {m : List Int} (hx : ∀ j, j < sigs.length → ((sigs.getD j default).key == x && isSig (sigs.getD j default) m) = false) : anyS sigs x m = false := by
  unfold anyS
  rw [List.any_eq_false]
  intro s hs
  obtain ⟨j, hj, rfl⟩ := List.mem_iff_getElem.1 hs
  have := hx j hj
  simp only [List.getD, List.getElem?_eq_getElem hj, Option.getD_some] at this
  rw [this]
  simp
theorem signBy_step {held l m : List Int} {i : Nat} (h : i < l.length) : signBy held (l.take (i + 1)) m = signBy held (l.take i) m ++ (if hasK held (l.getD i 0) then [⟨l.getD i 0, tagOf (l.getD i 0) m⟩] else []) := by
  unfold signBy
  rw [take_snoc h, List.filter_append, List.map_append]
  simp only [List.getD, List.getElem?_eq_getElem h, Option.getD_some]
  by_cases hx : hasK held l[i] = true
  · simp [hx]
  · simp [hx]
theorem signBy_le (held l m : List Int) : (signBy held l m).length ≤ l.length := by
  unfold signBy
  rw [List.length_map]
  exact List.length_filter_le _ _
theorem keys99_len : keys99.length = 99 := rfl
theorem keys99_get {i : Nat} (h : i < 99) : keys99.getD i 0 = (i : Int) + 1 := by
  simp [keys99, List.getD, h]
theorem sgnOf_step {m : List Int} {sigs : List Sig} {i : Nat} (h : i < 99) : (keys99.take (i + 1)).filter (fun x => anyS sigs x m) = (keys99.take i).filter (fun x => anyS sigs x m) ++ (if anyS sigs ((i : Int) + 1) m then [(i : Int) + 1] else []) := by
  have hl : i < keys99.length := by rw [keys99_len]; exact h
  have hg := keys99_get h
  simp only [List.getD, List.getElem?_eq_getElem hl, Option.getD_some] at hg
  rw [take_snoc hl, List.filter_append, hg]
  by_cases hx : anyS sigs ((i : Int) + 1) m = true
  · simp [hx]
  · simp [hx]
theorem sgnOf_all (m : List Int) (sigs : List Sig) : (keys99.take 99).filter (fun x => anyS sigs x m) = sgnOf m sigs := by
  rw [List.take_of_length_le (by rw [keys99_len]; omega)]
  rfl
end Go.Proofs.YthhmhcmlbpdlbaaGreat.M07
namespace Go.Proofs.YthhmhcmlbpdlbaaGreat.RGF
open Go Go.RowKit Mem MemS Rep RG RGS Flat
set_option linter.unusedVariables false
def sflat {α : Type} [Inhabited α] (k : Nat) (f : α → List Value) (Q : α → Prop) (zs : List α) : Sy := ⟨fun w x => ∃ A c, x = .slice A zs.length c ∧ zs.length ≤ c ∧ FRd k f Q w w.heap.size A zs.length zs,
  fun u u' x hb ⟨A, c, h1, h2, h3⟩ => ⟨A, c, h1, h2, (h3.below hb (Nat.le_refl _)).more hb.size⟩⟩
theorem sflat_rd {α : Type} [Inhabited α] {k : Nat} {f : α → List Value} {Q : α → Prop} {zs : List α} {w : World} {n c : Nat} {A : Option Addr} (h : FRd k f Q w w.heap.size A n zs) (hc : n ≤ c) : (sflat k f Q zs).p w (.slice A n c) := by
  have := h.len
  subst this
  exact ⟨A, c, rfl, hc, h⟩
end Go.Proofs.YthhmhcmlbpdlbaaGreat.RGF
