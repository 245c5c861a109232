/- Rows of numbers that the call owns, sorted and compacted by the library. Chapter 7: signers gathered, sorted and compacted are the keys from 1 on that signed. -/
import Derived.Test.YthhmhcmlbpdlbaaGreatMem
import Derived.Test.YthhmhcmlbpdlbaaGreatShelf
import Derived.Sort.OwnSortedInts
import Derived.Lib.SlicesCompact
import Derived.Test.YthhmhcmlbpdlbaaGreatM07
namespace Go.Proofs.YthhmhcmlbpdlbaaGreat.SO
open Go Go.RowKit Go.Sort Go.Lib Mem
set_option linter.unusedVariables false
set_option maxRecDepth 100000
abbrev leI : Int → Int → Bool := fun x y => decide (x ≤ y)
theorem own_holds {w : World} {lo hi g n c : Nat} {zs : List Int} (h : Own .i64 w lo hi (some ⟨g, 0, none⟩) n c zs) :
    ∃ cur, w.heap[g]? = some (.cells cur 3 (0, 0)) ∧ cur.size = c * 1 ∧ cur.toList.take n = zs.map (Value.int .i64) ∧ lo ≤ g ∧ n ≤ c ∧ c ≤ maxLen ∧ Holds (Value.int .i64) w g 0 zs.toArray := by
  have hl := h.len
  rcases h.row.2 with ⟨h1, _⟩ | ⟨g', cap, cur, h1, h2, h3, h4, h5, h6, h7⟩
  · cases h1
  · injection h1 with e1 e2 e3
    injection e1 with e1
    injection e1 with e1
    subst e1 e3
    rw [Nat.mul_one] at h7
    exact ⟨cur, h3, h6, h7, h2, h4, h5, holds_of_blockI h3 (by rw [hl]; exact h7)⟩
theorem own_put {w : World} {lo g n c q : Nat} {os : Array Obj} {ts ds : List Int} {cur : Array Value} (hb : w.heap[g]? = some (.cells cur 3 (0, 0))) (hg : lo ≤ g) (hlo : lo ≤ w.heap.size) (h1 : ds.length ≤ c) (h2 : c ≤ maxLen) (h3 : cur.size = c * 1)
    (hw : ∀ z ∈ ts, In .i64 z) (hn : ts.length = n) (ht : ds.take n = ts) :
    Own .i64 (grow (putRow (Value.int .i64) (Sort.ahead w q) g 0 ds.toArray) os) lo w.heap.size (some ⟨g, 0, none⟩) n c ts ∧ Below lo w (grow (putRow (Value.int .i64) (Sort.ahead w q) g 0 ds.toArray) os) := by
  have hlt : g < w.heap.size := (Array.getElem?_eq_some_iff.1 hb).1
  have hnd : n ≤ ds.length := by rw [← hn, ← ht, List.length_take]; omega
  refine ⟨⟨hn, hw, ⟨by simp [hn], .inr ⟨g, c, _, rfl, hg, heap_sortedI _ hb, by omega, h2, by simp [putCells, h3], ?_⟩⟩, fun a e => ?_⟩, ?_⟩
  · have hk := take_putCellsI cur ds (by omega)
    have e : (putCells (Value.int .i64) 0 ds.toArray cur).toList.take (n * 1) = ((putCells (Value.int .i64) 0 ds.toArray cur).toList.take ds.length).take n := by
      rw [List.take_take, Nat.mul_one, Nat.min_eq_left hnd]
    rw [e, hk, ← List.map_take, ht]
  · injection e with e
    subst e
    exact hlt
  · exact (Below.refl lo w).grown (grownBy_sortedI _) hlo fun k hk => by
      injection hk with hk
      omega
theorem sort_any {w : World} {lo g n c : Nat} {zs : List Int} (h : Own .i64 w lo w.heap.size (some ⟨g, 0, none⟩) n c zs) (hlo : lo ≤ w.heap.size) (hn : n < 4611686018427387904) :
    Calls Tryz.prog 130 #[.slice (some ⟨g, 0, none⟩) n c] w fun e w' => e = .returned (.tuple #[]) ∧ Own .i64 w' lo w'.heap.size (some ⟨g, 0, none⟩) n c (zs.mergeSort leI) ∧ Below lo w w' := by
  obtain ⟨cur, h1, h2, h3, h4, h5, h6, h7⟩ := own_holds h
  have hl := h.len
  subst hl
  refine (Tryz.slices_Sort_int g 0 c zs w h7 (Array.getElem?_eq_some_iff.1 h1).1 hn).mono ?_
  rintro e w' ⟨rfl, q, os, rfl⟩
  obtain ⟨h8, h9⟩ := own_put (lo := lo) (n := zs.length) (c := c) (q := q) (os := os) (ts := zs.mergeSort leI) (ds := zs.mergeSort leI) h1 h4 hlo (by simpa using h5) h6 h2 (fun z hz => h.wf z (List.mem_mergeSort.1 hz)) (by simp) (List.take_of_length_le (by simp))
  exact ⟨rfl, h8.wide h9.size, h9⟩
theorem compact_le (zs : List Int) : (Lib.compact zs).length ≤ zs.length := by
  unfold Lib.compact Lib.compactUpTo
  rw [List.length_map]
  exact Nat.le_trans (List.length_filter_le _ _) (by simp)
theorem compact_mem (zs : List Int) : ∀ z ∈ Lib.compact zs, z ∈ zs := by
  intro z hz
  unfold Lib.compact Lib.compactUpTo at hz
  obtain ⟨j, hj, rfl⟩ := List.mem_map.1 hz
  have hj := List.mem_range.1 (List.mem_filter.1 hj).1
  rw [getElem!_pos _ j (by simpa using hj), List.getElem_toArray]
  exact List.getElem_mem _
theorem compact_any {w : World} {lo g n c : Nat} {zs : List Int} (h : Own .i64 w lo w.heap.size (some ⟨g, 0, none⟩) n c zs) (hlo : lo ≤ w.heap.size) (hn : n < 4611686018427387904) :
    Calls Tryz.prog 131 #[.slice (some ⟨g, 0, none⟩) n c] w fun e w' => e = .returned (.slice (some ⟨g, 0, none⟩) (Lib.compact zs).length c) ∧ Own .i64 w' lo w'.heap.size (some ⟨g, 0, none⟩) (Lib.compact zs).length c (Lib.compact zs) ∧ Below lo w w' := by
  obtain ⟨cur, h1, h2, h3, h4, h5, h6, h7⟩ := own_holds h
  have hl := h.len
  subst hl
  have hle := compact_le zs
  refine (Tryz.slices_Compact_int g 0 c zs w h7 (by omega) h5).mono ?_
  rintro e w' ⟨rfl, q, rfl⟩
  obtain ⟨h8, h9⟩ := own_put (lo := lo) (n := (Lib.compact zs).length) (c := c) (q := q) (os := #[]) (ts := Lib.compact zs) (ds := Lib.compact zs ++ List.replicate (zs.length - (Lib.compact zs).length) 0) h1 h4 hlo (by simp; omega) h6 h2 (fun z hz => h.wf z (compact_mem zs z hz)) rfl (by simp)
  rw [grow_empty] at h8 h9
  exact ⟨rfl, h8.wide h9.size, h9⟩
end Go.Proofs.YthhmhcmlbpdlbaaGreat.SO
namespace Go.Proofs.YthhmhcmlbpdlbaaGreat.M07S
open Go.RowKit M03 M06 R06 R07 C01 M07 SO
set_option linter.unusedVariables false
set_option maxRecDepth 100000
/-- the keys of those that signed, in the order of the signatures -/
def gat (m : List Int) (sigs : List Sig) : List Int := (sigs.filter fun s => isSig s m).map Sig.key
theorem gat_step {m : List Int} {sigs : List Sig} {i : Nat} (h : i < sigs.length) : gat m (sigs.take (i + 1)) = gat m (sigs.take i) ++ (if isSig (sigs.getD i default) m then [(sigs.getD i default).key] else []) := by
  unfold gat
  rw [take_snoc h, List.filter_append, List.map_append]
  simp only [List.getD, List.getElem?_eq_getElem h, Option.getD_some]
  by_cases hx : isSig sigs[i] m = true
  · simp [hx]
  · simp [hx]
theorem gat_le (m : List Int) (sigs : List Sig) : (gat m sigs).length ≤ sigs.length := by
  unfold gat
  rw [List.length_map]
  exact List.length_filter_le _ _
/-- two strictly ordered lists of the same numbers are one -/
theorem lt_ext : ∀ {a b : List Int}, a.Pairwise (· < ·) → b.Pairwise (· < ·) → (∀ x, x ∈ a ↔ x ∈ b) → a = b
  | [], [], _, _, _ => rfl
  | [], y :: b, _, _, h => absurd ((h y).2 (by simp)) (by simp)
  | x :: a, [], _, _, h => absurd ((h x).1 (by simp)) (by simp)
  | x :: a, y :: b, ha, hb, h => by
    rw [List.pairwise_cons] at ha hb
    have hxy : x = y := by
      rcases List.mem_cons.1 ((h x).1 (by simp)) with e | e
      · exact e
      · rcases List.mem_cons.1 ((h y).2 (by simp)) with e2 | e2
        · exact e2.symm
        · have := ha.1 y e2
          have := hb.1 x e
          omega
    subst hxy
    rw [lt_ext ha.2 hb.2 fun z => ?_]
    constructor
    · intro hz
      rcases List.mem_cons.1 ((h z).1 (by simp [hz])) with e | e
      · have := ha.1 z hz
        omega
      · exact e
    · intro hz
      rcases List.mem_cons.1 ((h z).2 (by simp [hz])) with e | e
      · have := hb.1 z hz
        omega
      · exact e
theorem compactUpTo_sorted {d : Array Int} (hd : ∀ i j, i ≤ j → j < d.size → d[i]! ≤ d[j]!) : ∀ m, m ≤ d.size →
    (Lib.compactUpTo d m).Pairwise (· < ·) ∧ (∀ x, x ∈ Lib.compactUpTo d m ↔ ∃ j, j < m ∧ d[j]! = x)
  | 0, _ => by simp [Lib.compactUpTo]
  | m + 1, hm => by
    obtain ⟨h1, h2⟩ := compactUpTo_sorted hd m (by omega)
    rw [Lib.compactUpTo_succ]
    by_cases hk : Lib.keeps d m = true
    · rw [if_pos hk]
      have hlt : ∀ x ∈ Lib.compactUpTo d m, x < d[m]! := by
        intro x hx
        obtain ⟨j, hj, rfl⟩ := (h2 x).1 hx
        have hne : d[m]! ≠ d[m - 1]! := by
          unfold Lib.keeps at hk
          rcases of_decide_eq_true hk with h | h
          · omega
          · exact h
        have e1 := hd j (m - 1) (by omega) (by omega)
        have e2 := hd (m - 1) m (by omega) (by omega)
        omega
      refine ⟨List.pairwise_append.2 ⟨h1, by simp, fun x hx y hy => ?_⟩, fun x => ?_⟩
      · rw [List.mem_singleton.1 hy]
        exact hlt x hx
      · rw [List.mem_append, h2, List.mem_singleton]
        constructor
        · rintro (⟨j, hj, e⟩ | e)
          · exact ⟨j, by omega, e⟩
          · exact ⟨m, by omega, e.symm⟩
        · rintro ⟨j, hj, e⟩
          rcases Nat.lt_or_ge j m with hl | hl
          · exact .inl ⟨j, hl, e⟩
          · obtain rfl : j = m := by omega
            exact .inr e.symm
    · rw [if_neg hk, List.append_nil]
      refine ⟨h1, fun x => ?_⟩
      have hq : 0 < m ∧ d[m]! = d[m - 1]! := by
        unfold Lib.keeps at hk
        have h := fun h => hk (decide_eq_true h)
        refine ⟨Nat.pos_of_ne_zero fun e => h (.inl e), ?_⟩
        exact Classical.byContradiction fun e => h (.inr e)
      rw [h2]
      constructor
      · rintro ⟨j, hj, e⟩
        exact ⟨j, by omega, e⟩
      · rintro ⟨j, hj, e⟩
        rcases Nat.lt_or_ge j m with hl | hl
        · exact ⟨j, hl, e⟩
        · obtain rfl : j = m := by omega
          exact ⟨j - 1, by omega, hq.2.symm.trans e⟩
theorem compact_sorted {zs : List Int} (h : zs.Pairwise (· ≤ ·)) : (Lib.compact zs).Pairwise (· < ·) ∧ (∀ x, x ∈ Lib.compact zs ↔ x ∈ zs) := by
  have hd : ∀ i j, i ≤ j → j < zs.toArray.size → zs.toArray[i]! ≤ zs.toArray[j]! := by
    intro i j hij hj
    have hj' : j < zs.length := by simpa using hj
    rw [getElem!_pos _ i (by omega), getElem!_pos _ j hj, List.getElem_toArray, List.getElem_toArray]
    rcases Nat.lt_or_ge i j with hl | hl
    · exact List.pairwise_iff_getElem.1 h i j (by omega) hj' hl
    · obtain rfl : i = j := by omega
      exact Int.le_refl _
  obtain ⟨h1, h2⟩ := compactUpTo_sorted hd zs.length (by simp)
  refine ⟨h1, fun x => ?_⟩
  show x ∈ Lib.compactUpTo zs.toArray zs.length ↔ _
  rw [h2]
  constructor
  · rintro ⟨j, hj, e⟩
    rw [getElem!_pos _ j (by simpa using hj), List.getElem_toArray] at e
    rw [← e]
    exact List.getElem_mem _
  · intro hx
    obtain ⟨j, hj, e⟩ := List.mem_iff_getElem.1 hx
    exact ⟨j, hj, by rw [getElem!_pos _ j (by simpa using hj), List.getElem_toArray]; exact e⟩
theorem sort_sorted (zs : List Int) : (zs.mergeSort leI).Pairwise (· ≤ ·) := by
  have := List.pairwise_mergeSort (le := leI) (by intro a b c; simp [leI]; omega) (by intro a b; simp [leI]; omega) zs
  exact this.imp fun h => of_decide_eq_true h
theorem keys99_lt : keys99.Pairwise (· < ·) := by
  unfold keys99
  rw [List.pairwise_map]
  exact List.pairwise_lt_range.imp fun h => by omega
theorem mem_keys99 {x : Int} : x ∈ keys99 ↔ 1 ≤ x ∧ x ≤ 99 := by
  unfold keys99
  rw [List.mem_map]
  constructor
  · rintro ⟨i, hi, rfl⟩
    have := List.mem_range.1 hi
    omega
  · rintro ⟨h1, h2⟩
    exact ⟨(x - 1).toNat, List.mem_range.2 (by omega), by omega⟩
theorem isSig_key {s : Sig} {m : List Int} (h : isSig s m = true) : 1 ≤ s.key ∧ s.key ≤ 99 := by
  unfold isSig at h
  rw [Bool.and_eq_true] at h
  have h1 := h.1
  unfold inR at h1
  simpa using h1
theorem anyS_iff {sigs : List Sig} {x : Int} {m : List Int} : anyS sigs x m = true ↔ x ∈ gat m sigs := by
  unfold anyS gat
  rw [List.any_eq_true, List.mem_map]
  constructor
  · rintro ⟨s, hs, h⟩
    rw [Bool.and_eq_true] at h
    exact ⟨s, List.mem_filter.2 ⟨hs, h.2⟩, eq_of_beq h.1⟩
  · rintro ⟨s, hs, rfl⟩
    obtain ⟨h1, h2⟩ := List.mem_filter.1 hs
    exact ⟨s, h1, by simp [h2]⟩
theorem gat_keys {sigs : List Sig} {x : Int} {m : List Int} (h : x ∈ gat m sigs) : 1 ≤ x ∧ x ≤ 99 := by
  unfold gat at h
  obtain ⟨s, hs, rfl⟩ := List.mem_map.1 h
  exact isSig_key (List.mem_filter.1 hs).2
/-- what the program computes is what the model computes -/
theorem gat_all (m : List Int) (sigs : List Sig) : Lib.compact ((gat m sigs).mergeSort leI) = sgnOf m sigs := by
  obtain ⟨h1, h2⟩ := compact_sorted (sort_sorted (gat m sigs))
  refine lt_ext h1 (keys99_lt.sublist List.filter_sublist) fun x => ?_
  rw [h2, List.mem_mergeSort]
  show _ ↔ x ∈ keys99.filter fun x => anyS sigs x m
  rw [List.mem_filter, mem_keys99, anyS_iff]
  exact ⟨fun h => ⟨gat_keys h, h⟩, fun h => h.2⟩
theorem sgn_has (m : List Int) (sigs : List Sig) (x : Int) : hasK (sgnOf m sigs) x = anyS sigs x m := by
  have e : x ∈ sgnOf m sigs ↔ anyS sigs x m = true := by
    show (x ∈ keys99.filter fun x => anyS sigs x m) ↔ _
    rw [List.mem_filter, mem_keys99]
    exact ⟨fun h => h.2, fun h => ⟨gat_keys (anyS_iff.1 h), h⟩⟩
  unfold hasK
  cases h : anyS sigs x m with
  | true => exact decide_eq_true (e.2 h)
  | false => exact decide_eq_false fun h2 => by rw [e.1 h2] at h; cases h
theorem sgn_le (m : List Int) (sigs : List Sig) : (sgnOf m sigs).length ≤ 99 := by
  have h := List.length_filter_le (fun x => anyS sigs x m) keys99
  rw [keys99_len] at h
  exact h
theorem sgn_wf (m : List Int) (sigs : List Sig) : ∀ x ∈ sgnOf m sigs, 1 ≤ x ∧ x ≤ 99 := fun x hx => mem_keys99.1 (List.mem_filter.1 hx).1
end Go.Proofs.YthhmhcmlbpdlbaaGreat.M07S
