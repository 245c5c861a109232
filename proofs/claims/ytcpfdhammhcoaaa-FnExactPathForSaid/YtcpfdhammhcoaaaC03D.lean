/- Chapter 3: derived keys (the model's), and the comparison of lists of integers (the model's and the code's). -/
import Derived.Test.YtcpfdhammhcoaaaC03S
import Derived.Laws.IdiomStrings
namespace Go.Proofs.Ytcpfdhammhcoaaa.C03D
open Go.RowKit Mem M02 C01 C02 C02B M03 C03S
set_option linter.unusedVariables false
/-- the bytes of a string, as numbers -/
def nums (s : ByteArray) : List Int := s.data.toList.map fun b => (b.toNat : Int)
theorem nums_len (s : ByteArray) : (nums s).length = s.size := by
  unfold nums
  rw [List.length_map, Array.length_toList]
  rfl
theorem conv_bytes (s : ByteArray) (w : World) : ∃ (c : Nat) (w' : World), (convert 9 22 (.string s)).run Try.prog w = .ok (.slice (some ⟨w.heap.size, 0, none⟩) s.size c) w' ∧ Rd .u8 w' w'.heap.size (some ⟨w.heap.size, 0, none⟩) s.size (nums s) ∧ Below w.heap.size w w' := by
  have hu : Try.prog.underlying 5 = some (.int .u8) := by kernel_rfl
  have hs : Try.prog.underlying 9 = some .string := by kernel_rfl
  refine ⟨_, _, run_bytes_of_string w 9 22 5 s hs under_u8 hu, ⟨nums_len s, fun z hz => ?_, fun _ => ⟨_, 0, rfl, by simp, fun j hj => ?_⟩⟩, (Below.refl _ w).drew.alloc (Nat.le_refl _) _⟩
  · obtain ⟨b, _, rfl⟩ := List.mem_map.1 hz
    have := b.toNat_lt
    exact in_u8 (by omega) (by omega)
  · have hj2 : j < s.data.size := hj
    have hl : j < (nums s).length := by rw [nums_len]; exact hj
    have e : (w.drew.alloc (.cells (bytesRow s (grownCap w s.size 0 5)) 5 ((bytesRow s (grownCap w s.size 0 5)).size, (bytesRow s (grownCap w s.size 0 5)).size + 1))).heap[w.heap.size]? = some (.cells (bytesRow s (grownCap w s.size 0 5)) 5 ((bytesRow s (grownCap w s.size 0 5)).size, (bytesRow s (grownCap w s.size 0 5)).size + 1)) := heap_alloc_new w.drew _
    rw [Nat.zero_add, cell_of_row _ _ _ _ _ _ e, bytesRow_at s _ j hj2]
    simp only [nums, List.getD, List.getElem?_map, Array.getElem?_toList, Array.getElem?_eq_getElem hj2, Option.map_some, Option.getD_some]
def dfs (k : Int) (s : ByteArray) : Int := max 1 (kh k (bti (nums s)))
theorem take_eq_step {zs ys : List Int} {j : Nat} (hz : j < zs.length) (hy : j < ys.length) (h : zs.take j = ys.take j) (e : zs.getD j 0 = ys.getD j 0) : zs.take (j + 1) = ys.take (j + 1) := by
  rw [List.take_succ_eq_append_getElem hz, List.take_succ_eq_append_getElem hy, h]
  simp only [List.getD, List.getElem?_eq_getElem hz, List.getElem?_eq_getElem hy, Option.getD_some] at e
  rw [e]
end Go.Proofs.Ytcpfdhammhcoaaa.C03D
