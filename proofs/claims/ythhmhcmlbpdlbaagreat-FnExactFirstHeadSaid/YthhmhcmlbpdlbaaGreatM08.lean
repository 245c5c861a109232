/- Entries as data. Chapter 8: plain facts on entries. -/
import Derived.Test.YthhmhcmlbpdlbaaGreatRep
import Derived.Test.YthhmhcmlbpdlbaaGreatM05
import Derived.Test.YthhmhcmlbpdlbaaGreatC03H
import Derived.Test.YthhmhcmlbpdlbaaGreatC02B
namespace Go.Proofs.YthhmhcmlbpdlbaaGreat.R08
open Go.RowKit Go.ChangeShapes Go.WideShapes Go.Deep Mem MemS Rep RepA Opn
set_option linter.unusedVariables false
set_option maxRecDepth 100000
structure Entry where
  label : ByteArray
  kind : Int
  value : Int
  path : List ByteArray
deriving Inhabited
abbrev RLS : Rep (List ByteArray) := slice 80 RS
def REntry : Rep Entry := iso 84 (pair RS (pair RI (pair RI RLS))) fun e => (e.label, e.kind, e.value, e.path)
theorem REntry_rd {w : World} {B : Nat} {cs : List Value} {k : Entry} : REntry.rd w (Lt B) cs k ↔ ∃ A n c, cs = [.string k.label, .int .i64 k.kind, .int .i64 k.value, .slice A n c] ∧ InS k.label ∧ In .i64 k.kind ∧ In .i64 k.value ∧ n ≤ c ∧ c ≤ maxLen ∧ RdS w B A n k.path := by
  constructor
  · rintro ⟨c1, c2, rfl, ⟨rfl, h1⟩, c3, c4, rfl, ⟨rfl, h2⟩, c5, c6, rfl, ⟨rfl, h3⟩, A, n, c, rfl, h4, h5, h6⟩
    exact ⟨A, n, c, rfl, h1, h2, h3, h4, h5, h6.strs⟩
  · rintro ⟨A, n, c, rfl, h1, h2, h3, h4, h5, h6⟩
    exact ⟨_, _, rfl, ⟨rfl, h1⟩, _, _, rfl, ⟨rfl, h2⟩, _, _, rfl, ⟨rfl, h3⟩, A, n, c, rfl, h4, h5, Rds.of_strs h6⟩
theorem REntry_own {w : World} {lo hi : Nat} {cs : List Value} {k : Entry} : OwnI REntry w lo hi cs k ↔ ∃ A n c, cs = [.string k.label, .int .i64 k.kind, .int .i64 k.value, .slice A n c] ∧ InS k.label ∧ In .i64 k.kind ∧ In .i64 k.value ∧ OwnS w lo hi A n c k.path := by
  constructor
  · rintro ⟨F, ⟨F1, F2, c1, c2, rfl, rfl, ⟨rfl, rfl, h1⟩, F3, F4, c3, c4, rfl, rfl, ⟨rfl, rfl, h2⟩, F5, F6, c5, c6, rfl, rfl, ⟨rfl, rfl, h3⟩, A, n, c, rfl, h4⟩, hn, hF⟩
    simp only [List.nil_append] at hF
    exact ⟨A, n, c, rfl, h1, h2, h3, h4.strs hF⟩
  · rintro ⟨A, n, c, rfl, h1, h2, h3, h4⟩
    exact ⟨blk A, ⟨[], blk A, _, _, rfl, rfl, ⟨rfl, rfl, h1⟩, [], blk A, _, _, rfl, rfl, ⟨rfl, rfl, h2⟩, [], blk A, _, _, rfl, rfl, ⟨rfl, rfl, h3⟩, A, n, c, rfl, OwnF.of_strs h4⟩, by cases A <;> simp [blk], OwnS.blk_in h4⟩
theorem opens_Entry : Opens REntry 82 := by
  intro H enc W base spare held fuel cs x h
  obtain ⟨xs, n, _, _, hlen, hxs, hf⟩ := DataW.trod_struct Tryz.underlying82 h
  have hl : cs.length = 4 := hlen.trans (by kernel_rfl)
  match cs, hl with
  | [c0, c1, c2, c3], _ =>
    have h0 : DataW.trod enc Tryz.prog W base spare held n 9 (List.take (Tryz.prog.cellsOf 9) (List.drop 0 [c0, c1, c2, c3])) = xs[0]? := hf 0 _ rfl
    have h1 : DataW.trod enc Tryz.prog W base spare held n 3 (List.take (Tryz.prog.cellsOf 3) (List.drop 1 [c0, c1, c2, c3])) = xs[1]? := hf 1 _ rfl
    have h2 : DataW.trod enc Tryz.prog W base spare held n 3 (List.take (Tryz.prog.cellsOf 3) (List.drop 2 [c0, c1, c2, c3])) = xs[2]? := hf 2 _ rfl
    have h3 : DataW.trod enc Tryz.prog W base spare held n 80 (List.take (Tryz.prog.cellsOf 80) (List.drop 3 [c0, c1, c2, c3])) = xs[3]? := hf 3 _ rfl
    rw [show Tryz.prog.cellsOf 9 = 1 by kernel_rfl] at h0
    rw [show Tryz.prog.cellsOf 3 = 1 by kernel_rfl] at h1 h2
    rw [show Tryz.prog.cellsOf 80 = 1 by kernel_rfl] at h3
    simp only [List.drop_zero, List.drop_succ_cons, List.take_succ_cons, List.take_zero] at h0 h1 h2 h3
    have hx : xs.length = 4 := hxs
    rw [List.getElem?_eq_getElem (show 0 < xs.length by omega)] at h0
    rw [List.getElem?_eq_getElem (show 1 < xs.length by omega)] at h1
    rw [List.getElem?_eq_getElem (show 2 < xs.length by omega)] at h2
    rw [List.getElem?_eq_getElem (show 3 < xs.length by omega)] at h3
    obtain ⟨a0, r0⟩ := opens_str Tryz.underlying9 _ _ _ _ _ _ _ _ _ h0
    obtain ⟨a1, r1⟩ := opens_int Tryz.underlying3 _ _ _ _ _ _ _ _ _ h1
    obtain ⟨a2, r2⟩ := opens_int Tryz.underlying3 _ _ _ _ _ _ _ _ _ h2
    obtain ⟨a3, r3⟩ := opens_slice (ty := 80) Tryz.underlying80 (by kernel_rfl) (by decide) (opens_str Tryz.underlying9) _ _ _ _ _ _ _ _ _ h3
    exact ⟨⟨a0, a1, a2, a3⟩, [c0], [c1, c2, c3], rfl, r0, [c1], [c2, c3], rfl, r1, [c2], [c3], rfl, r2, r3⟩
def totSS (ss : List ByteArray) : Nat := ss.length + (ss.map ByteArray.size).sum
def totEntry (k : Entry) : Nat := k.label.size + totSS k.path
def cntEntry (k : Entry) : Nat := k.path.length
theorem totSS_len (ss : List ByteArray) : ss.length ≤ totSS ss := Nat.le_add_right _ _
theorem sum_mem : ∀ {l : List ByteArray} {s : ByteArray}, s ∈ l → s.size ≤ (l.map ByteArray.size).sum
  | x :: r, s, h => by
    rw [List.map_cons, List.sum_cons]
    rcases List.mem_cons.1 h with rfl | h
    · omega
    · have := sum_mem h
      omega
theorem totSS_mem {ss : List ByteArray} {s : ByteArray} (h : s ∈ ss) : s.size ≤ totSS ss := Nat.le_trans (sum_mem h) (Nat.le_add_left _ _)
theorem cntEntry_le (k : Entry) : cntEntry k ≤ totEntry k := Nat.le_trans (totSS_len _) (Nat.le_add_left _ _)
theorem REntry_shape {w : World} {P : Nat → Prop} {cs : List Value} {k : Entry} (h : REntry.rd w P cs k) : ∃ A n c, cs = [.string k.label, .int .i64 k.kind, .int .i64 k.value, .slice A n c] := by
  obtain ⟨c1, c2, rfl, ⟨rfl, h1⟩, c3, c4, rfl, ⟨rfl, h2⟩, c5, c6, rfl, ⟨rfl, h3⟩, A, n, c, rfl, h4, h5, h6⟩ := h
  exact ⟨A, n, c, rfl⟩
theorem cells_Entry {l : List Value} (h : (Array.mk l).size = 4) : ∃ a b c d, l = [a, b, c, d] := by
  match l, h with
  | [a, b, c, d], _ => exact ⟨a, b, c, d, rfl⟩
end Go.Proofs.YthhmhcmlbpdlbaaGreat.R08
namespace Go.Proofs.YthhmhcmlbpdlbaaGreat.M08
open Go.RowKit R08 M02 M03 M04 M05 C01 C03D Mem MemS
def isEntry (k : Entry) : Bool :=
  if k.kind = 1 then (isLab k.label && inR k.value 0 999999) && decide (k.path.length = 0)
  else if k.kind = 2 then (isLab k.label && inR k.value 0 2147483646) && decide (k.path.length = 0)
  else if k.kind = 3 then (isLab k.label && inR k.value 0 2147483646) && isPth k.path
  else false
/-- the text's numbers up to its path's j-th label -/
def eiUpto (k : Entry) (j : Nat) : List Int := bti (nums k.label) ++ [k.kind, k.value, (k.path.length : Int)] ++ ((k.path.take j).map fun s => bti (nums s)).flatten
def entryInts (k : Entry) : List Int := eiUpto k k.path.length
def leafOf (k : Entry) : Int := hsh (227 :: entryInts k)
def eqEntryB (a b : Entry) : Bool := ((decide (a.label = b.label) && decide (a.kind = b.kind)) && decide (a.value = b.value)) && decide (a.path = b.path)
theorem bti_len (zs : List Int) : (bti zs).length = zs.length + 1 := by simp [bti]
theorem sum_take : ∀ (l : List ByteArray) (j : Nat), ((l.take j).map fun s => bti (nums s)).flatten.length ≤ l.length + (l.map ByteArray.size).sum
  | [], j => by simp
  | s :: r, 0 => by simp
  | s :: r, j + 1 => by
    have := sum_take r j
    simp only [List.take_succ_cons, List.map_cons, List.flatten_cons, List.length_append, bti_len, nums_len, List.length_cons, List.sum_cons] at this ⊢
    omega
theorem eiUpto_len (k : Entry) (j : Nat) : (eiUpto k j).length ≤ totEntry k + 4 := by
  have := sum_take k.path j
  unfold eiUpto totEntry totSS
  simp only [List.length_append, bti_len, nums_len, List.length_cons, List.length_nil]
  omega
theorem ei_zero (k : Entry) : eiUpto k 0 = bti (nums k.label) ++ [k.kind, k.value, (k.path.length : Int)] := by
  unfold eiUpto
  simp
theorem ei_step {k : Entry} {j : Nat} (h : j < k.path.length) : eiUpto k j ++ bti (nums (k.path.getD j .empty)) = eiUpto k (j + 1) := by
  unfold eiUpto
  rw [List.take_succ_eq_append_getElem h, List.map_append, List.flatten_append]
  simp [List.getD, h]
theorem eqEntryB_iff {a b : Entry} : eqEntryB a b = true ↔ a = b := by
  obtain ⟨l, k, v, p⟩ := a
  obtain ⟨l', k', v', p'⟩ := b
  unfold eqEntryB
  simp [and_assoc]
theorem eqEntryB_refl (a : Entry) : eqEntryB a a = true := eqEntryB_iff.2 rfl
theorem isEntry_v {s : ByteArray} {x : Int} (h0 : 0 ≤ x) (h1 : x ≤ 99) : isEntry (Entry.mk s 1 x []) = isLab s := by
  have h : inR x 0 999999 = true := by unfold inR; simp; omega
  unfold isEntry
  simp [h]
theorem isEntry_m {s : ByteArray} {x : Int} {p : List ByteArray} (h0 : 0 ≤ x) (h1 : x ≤ 99) : isEntry (Entry.mk s 3 x p) = (isLab s && isPth p) := by
  have h : inR x 0 2147483646 = true := by unfold inR; simp; omega
  unfold isEntry
  simp [h]
end Go.Proofs.YthhmhcmlbpdlbaaGreat.M08
