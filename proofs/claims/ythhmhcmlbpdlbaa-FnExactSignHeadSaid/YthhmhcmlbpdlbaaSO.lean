/- Rows of numbers that the call owns, sorted and compacted by the library. -/
import Derived.Test.YthhmhcmlbpdlbaaMem
import Derived.Test.YthhmhcmlbpdlbaaShelf
import Derived.Sort.OwnSortedInts
import Derived.Lib.SlicesCompact
namespace Go.Proofs.Ythhmhcmlbpdlbaa.SO
open Go Go.RowKit Go.Sort Go.Lib Mem
set_option linter.unusedVariables false
set_option maxRecDepth 100000
abbrev leI : Int → Int → Bool := fun x y => decide (x ≤ y)
theorem own_holds {w : World} {lo hi g n c : Nat} {zs : List Int} (h : Own .i64 w lo hi (some ⟨g, 0, none⟩) n c zs) :
    ∃ cur, w.heap[g]? = some (.cells cur 3 (0, 0)) ∧ cur.size = c * 1 ∧ cur.toList.take n = zs.map (Value.int .i64) ∧ lo ≤ g ∧ n ≤ c ∧ c ≤ maxLen ∧ Holds (Value.int .i64) w g 0 zs.toArray := by
  have hl := h.len
  rcases h.row.2 with ⟨h1, _⟩ | ⟨g', cap, cur, h1, h2, h3, h4, h5, h6, h7⟩
  · cases h1
  · injection h1 with e1 e2 e3
    injection e1 with e1
    injection e1 with e1
    subst e1 e3
    rw [Nat.mul_one] at h7
    exact ⟨cur, h3, h6, h7, h2, h4, h5, holds_of_blockI h3 (by rw [hl]; exact h7)⟩
theorem own_put {w : World} {lo g n c q : Nat} {os : Array Obj} {ts ds : List Int} {cur : Array Value} (hb : w.heap[g]? = some (.cells cur 3 (0, 0))) (hg : lo ≤ g) (hlo : lo ≤ w.heap.size) (h1 : ds.length ≤ c) (h2 : c ≤ maxLen) (h3 : cur.size = c * 1)
    (hw : ∀ z ∈ ts, In .i64 z) (hn : ts.length = n) (ht : ds.take n = ts) :
    Own .i64 (grow (putRow (Value.int .i64) (Sort.ahead w q) g 0 ds.toArray) os) lo w.heap.size (some ⟨g, 0, none⟩) n c ts ∧ Below lo w (grow (putRow (Value.int .i64) (Sort.ahead w q) g 0 ds.toArray) os) := by
  have hlt : g < w.heap.size := (Array.getElem?_eq_some_iff.1 hb).1
  have hnd : n ≤ ds.length := by rw [← hn, ← ht, List.length_take]; omega
  refine ⟨⟨hn, hw, ⟨by simp [hn], .inr ⟨g, c, _, rfl, hg, heap_sortedI _ hb, by omega, h2, by simp [putCells, h3], ?_⟩⟩, fun a e => ?_⟩, ?_⟩
  · have hk := take_putCellsI cur ds (by omega)
    have e : (putCells (Value.int .i64) 0 ds.toArray cur).toList.take (n * 1) = ((putCells (Value.int .i64) 0 ds.toArray cur).toList.take ds.length).take n := by
      rw [List.take_take, Nat.mul_one, Nat.min_eq_left hnd]
    rw [e, hk, ← List.map_take, ht]
  · injection e with e
    subst e
    exact hlt
  · exact (Below.refl lo w).grown (grownBy_sortedI _) hlo fun k hk => by
      injection hk with hk
      omega
theorem sort_any {w : World} {lo g n c : Nat} {zs : List Int} (h : Own .i64 w lo w.heap.size (some ⟨g, 0, none⟩) n c zs) (hlo : lo ≤ w.heap.size) (hn : n < 4611686018427387904) :
    Calls Try.prog 98 #[.slice (some ⟨g, 0, none⟩) n c] w fun e w' => e = .returned (.tuple #[]) ∧ Own .i64 w' lo w'.heap.size (some ⟨g, 0, none⟩) n c (zs.mergeSort leI) ∧ Below lo w w' := by
  obtain ⟨cur, h1, h2, h3, h4, h5, h6, h7⟩ := own_holds h
  have hl := h.len
  subst hl
  refine (Try.slices_Sort_int g 0 c zs w h7 (Array.getElem?_eq_some_iff.1 h1).1 hn).mono ?_
  rintro e w' ⟨rfl, q, os, rfl⟩
  obtain ⟨h8, h9⟩ := own_put (lo := lo) (n := zs.length) (c := c) (q := q) (os := os) (ts := zs.mergeSort leI) (ds := zs.mergeSort leI) h1 h4 hlo (by simpa using h5) h6 h2 (fun z hz => h.wf z (List.mem_mergeSort.1 hz)) (by simp) (List.take_of_length_le (by simp))
  exact ⟨rfl, h8.wide h9.size, h9⟩
theorem compact_le (zs : List Int) : (Lib.compact zs).length ≤ zs.length := by
  unfold Lib.compact Lib.compactUpTo
  rw [List.length_map]
  exact Nat.le_trans (List.length_filter_le _ _) (by simp)
theorem compact_mem (zs : List Int) : ∀ z ∈ Lib.compact zs, z ∈ zs := by
  intro z hz
  unfold Lib.compact Lib.compactUpTo at hz
  obtain ⟨j, hj, rfl⟩ := List.mem_map.1 hz
  have hj := List.mem_range.1 (List.mem_filter.1 hj).1
  rw [getElem!_pos _ j (by simpa using hj), List.getElem_toArray]
  exact List.getElem_mem _
theorem compact_any {w : World} {lo g n c : Nat} {zs : List Int} (h : Own .i64 w lo w.heap.size (some ⟨g, 0, none⟩) n c zs) (hlo : lo ≤ w.heap.size) (hn : n < 4611686018427387904) :
    Calls Try.prog 99 #[.slice (some ⟨g, 0, none⟩) n c] w fun e w' => e = .returned (.slice (some ⟨g, 0, none⟩) (Lib.compact zs).length c) ∧ Own .i64 w' lo w'.heap.size (some ⟨g, 0, none⟩) (Lib.compact zs).length c (Lib.compact zs) ∧ Below lo w w' := by
  obtain ⟨cur, h1, h2, h3, h4, h5, h6, h7⟩ := own_holds h
  have hl := h.len
  subst hl
  have hle := compact_le zs
  refine (Try.slices_Compact_int g 0 c zs w h7 (by omega) h5).mono ?_
  rintro e w' ⟨rfl, q, rfl⟩
  obtain ⟨h8, h9⟩ := own_put (lo := lo) (n := (Lib.compact zs).length) (c := c) (q := q) (os := #[]) (ts := Lib.compact zs) (ds := Lib.compact zs ++ List.replicate (zs.length - (Lib.compact zs).length) 0) h1 h4 hlo (by simp; omega) h6 h2 (fun z hz => h.wf z (compact_mem zs z hz)) rfl (by simp)
  rw [grow_empty] at h8 h9
  exact ⟨rfl, h8.wide h9.size, h9⟩
end Go.Proofs.Ythhmhcmlbpdlbaa.SO
