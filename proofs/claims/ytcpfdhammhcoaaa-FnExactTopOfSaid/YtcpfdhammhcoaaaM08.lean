/- Chapter 8: plain facts on entries. -/
import Derived.Test.YtcpfdhammhcoaaaR08
import Derived.Test.YtcpfdhammhcoaaaM05
import Derived.Test.YtcpfdhammhcoaaaM03
import Derived.Test.YtcpfdhammhcoaaaC03D
import Derived.Test.YtcpfdhammhcoaaaC01
namespace Go.Proofs.Ytcpfdhammhcoaaa.M08
open Go.RowKit R08 M02 M03 M04 M05 C01 C03D Mem MemS
def isEntry (k : Entry) : Bool :=
  if k.kind = 1 then (isLab k.label && inR k.value 0 999999) && decide (k.path.length = 0)
  else if k.kind = 2 then (isLab k.label && inR k.value 0 2147483646) && decide (k.path.length = 0)
  else if k.kind = 3 then (isLab k.label && inR k.value 0 2147483646) && isPth k.path
  else false
/-- the text's numbers up to its path's j-th label -/
def eiUpto (k : Entry) (j : Nat) : List Int := bti (nums k.label) ++ [k.kind, k.value, (k.path.length : Int)] ++ ((k.path.take j).map fun s => bti (nums s)).flatten
def entryInts (k : Entry) : List Int := eiUpto k k.path.length
def leafOf (k : Entry) : Int := hsh (227 :: entryInts k)
def eqEntryB (a b : Entry) : Bool := ((decide (a.label = b.label) && decide (a.kind = b.kind)) && decide (a.value = b.value)) && decide (a.path = b.path)
theorem bti_len (zs : List Int) : (bti zs).length = zs.length + 1 := by simp [bti]
theorem sum_take : ∀ (l : List ByteArray) (j : Nat), ((l.take j).map fun s => bti (nums s)).flatten.length ≤ l.length + (l.map ByteArray.size).sum
  | [], j => by simp
  | s :: r, 0 => by simp
  | s :: r, j + 1 => by
    have := sum_take r j
    simp only [List.take_succ_cons, List.map_cons, List.flatten_cons, List.length_append, bti_len, nums_len, List.length_cons, List.sum_cons] at this ⊢
    omega
theorem eiUpto_len (k : Entry) (j : Nat) : (eiUpto k j).length ≤ totEntry k + 4 := by
  have := sum_take k.path j
  unfold eiUpto totEntry totSS
  simp only [List.length_append, bti_len, nums_len, List.length_cons, List.length_nil]
  omega
theorem ei_zero (k : Entry) : eiUpto k 0 = bti (nums k.label) ++ [k.kind, k.value, (k.path.length : Int)] := by
  unfold eiUpto
  simp
theorem ei_step {k : Entry} {j : Nat} (h : j < k.path.length) : eiUpto k j ++ bti (nums (k.path.getD j .empty)) = eiUpto k (j + 1) := by
  unfold eiUpto
  rw [List.take_succ_eq_append_getElem h, List.map_append, List.flatten_append]
  simp [List.getD, h]
theorem eqEntryB_iff {a b : Entry} : eqEntryB a b = true ↔ a = b := by
  obtain ⟨l, k, v, p⟩ := a
  obtain ⟨l', k', v', p'⟩ := b
  unfold eqEntryB
  simp [and_assoc]
theorem eqEntryB_refl (a : Entry) : eqEntryB a a = true := eqEntryB_iff.2 rfl
theorem isEntry_v {s : ByteArray} {x : Int} (h0 : 0 ≤ x) (h1 : x ≤ 99) : isEntry (Entry.mk s 1 x []) = isLab s := by
  have h : inR x 0 999999 = true := by unfold inR; simp; omega
  unfold isEntry
  simp [h]
theorem isEntry_m {s : ByteArray} {x : Int} {p : List ByteArray} (h0 : 0 ≤ x) (h1 : x ≤ 99) : isEntry (Entry.mk s 3 x p) = (isLab s && isPth p) := by
  have h : inR x 0 2147483646 = true := by unfold inR; simp; omega
  unfold isEntry
  simp [h]
end Go.Proofs.Ytcpfdhammhcoaaa.M08
