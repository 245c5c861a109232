/- Chapter 3: derived keys (the model's), and the comparison of lists of integers (the model's and the code's). -/
import Derived.Test.YthfngiajicbdhaaC03S
import Derived.Laws.IdiomStrings
namespace Go.Proofs.Ythfngiajicbdhaa.C03D
open Go.RowKit Mem M02 C01 C02 C02B M03 C03S
set_option linter.unusedVariables false
/-- the bytes of a string, as numbers -/
def nums (s : ByteArray) : List Int := s.data.toList.map fun b => (b.toNat : Int)
theorem nums_len (s : ByteArray) : (nums s).length = s.size := by
  unfold nums
  rw [List.length_map, Array.length_toList]
  rfl
theorem conv_bytes (s : ByteArray) (w : World) : ∃ (c : Nat) (w' : World), (convert 9 22 (.string s)).run Try.prog w = .ok (.slice (some ⟨w.heap.size, 0, none⟩) s.size c) w' ∧ Rd .u8 w' w'.heap.size (some ⟨w.heap.size, 0, none⟩) s.size (nums s) ∧ Below w.heap.size w w' := by
  have hu : Try.prog.underlying 5 = some (.int .u8) := by kernel_rfl
  have hs : Try.prog.underlying 9 = some .string := by kernel_rfl
  refine ⟨_, _, run_bytes_of_string w 9 22 5 s hs under_u8 hu, ⟨nums_len s, fun z hz => ?_, fun _ => ⟨_, 0, rfl, by simp, fun j hj => ?_⟩⟩, (Below.refl _ w).drew.alloc (Nat.le_refl _) _⟩
  · obtain ⟨b, _, rfl⟩ := List.mem_map.1 hz
    have := b.toNat_lt
    exact in_u8 (by omega) (by omega)
  · have hj2 : j < s.data.size := hj
    have hl : j < (nums s).length := by rw [nums_len]; exact hj
    have e : (w.drew.alloc (.cells (bytesRow s (grownCap w s.size 0 5)) 5 ((bytesRow s (grownCap w s.size 0 5)).size, (bytesRow s (grownCap w s.size 0 5)).size + 1))).heap[w.heap.size]? = some (.cells (bytesRow s (grownCap w s.size 0 5)) 5 ((bytesRow s (grownCap w s.size 0 5)).size, (bytesRow s (grownCap w s.size 0 5)).size + 1)) := heap_alloc_new w.drew _
    rw [Nat.zero_add, cell_of_row _ _ _ _ _ _ e, bytesRow_at s _ j hj2]
    simp only [nums, List.getD, List.getElem?_map, Array.getElem?_toList, Array.getElem?_eq_getElem hj2, Option.map_some, Option.getD_some]
def dfs (k : Int) (s : ByteArray) : Int := max 1 (kh k (bti (nums s)))
theorem take_eq_step {zs ys : List Int} {j : Nat} (hz : j < zs.length) (hy : j < ys.length) (h : zs.take j = ys.take j) (e : zs.getD j 0 = ys.getD j 0) : zs.take (j + 1) = ys.take (j + 1) := by
  rw [List.take_succ_eq_append_getElem hz, List.take_succ_eq_append_getElem hy, h]
  simp only [List.getD, List.getElem?_eq_getElem hz, List.getElem?_eq_getElem hy, Option.getD_some] at e
  rw [e]
theorem sEqualInts_any (B B' : Nat) (A A' : Option Addr) (n c m c' : Nat) (zs ys : List Int) (w : World) (h : Rd .i64 w B A n zs) (h' : Rd .i64 w B' A' m ys) (hn : n ≤ 1099511627776) :
    Calls Try.prog 48 #[.slice A n c, .slice A' m c'] w fun e w' => e = .returned (.bool (decide (zs = ys))) ∧ Same w w' := by
  have hl := h.len
  have hl' := h'.len
  by_cases hnm : n = m
  · subst hnm
    go_enter Try.func48, Try.ntmps48
    go_wp2
    go_loopw [5] (fun i wr => ∃ j : Nat, j ≤ n ∧ i = .int .i64 j ∧ zs.take j = ys.take j ∧ Same w wr) (fun i _ => n - (intOf i).toNat)
    case atStart => exact ⟨0, by omega, rfl, by simp, Same.refl _⟩
    case round =>
      obtain ⟨j, hj, rfl, ht, hsm⟩ := hrel
      have HT := Lib.hid ht
      have HL := Lib.hid hl
      have HL' := Lib.hid hl'
      have HS := Lib.hid hsm
      by_cases hjn : j < n
      · obtain ⟨b, off, rfl, _, hcj⟩ := (h.same hsm).cell_at hjn
        obtain ⟨b', off', rfl, _, hcj'⟩ := (h'.same hsm).cell_at hjn
        generalize hz : zs.getD j 0 = z at hcj
        generalize hy : ys.getD j 0 = y at hcj'
        have HZ := Lib.hid hz
        have HY := Lib.hid hy
        clear h h' hsm ht hl hl' hz hy
        by_cases hzy : z = y
        · subst hzy
          go_wp2
          go_region
          all_goals (try go_wp2)
          go_roundw
          case rel => exact ⟨j + 1, by omega, by go_num, take_eq_step (by have := HL.out; omega) (by have := HL'.out; omega) HT.out (HZ.out.trans HY.out.symm), HS.out.drew⟩
          case measure => simp [intOf]; omega
        · have hd : decide (zs = ys) = false := decide_eq_false fun e => hzy (by rw [← HZ.out, ← HY.out, e])
          have HD := Lib.hid hd
          clear hd
          go_wp2
          go_region
          all_goals (try go_wp2)
          go_ret
          rw [HD.out]
          exact ⟨rfl, HS.out.drew⟩
      · have e : zs = ys := by
          have e1 : zs.take j = zs := List.take_of_length_le (by omega)
          have e2 : ys.take j = ys := List.take_of_length_le (by omega)
          rw [← e1, ← e2, ht]
        subst e
        clear h h' hsm ht hl hl'
        go_wp2
        go_ret
        exact ⟨by simp, HS.out⟩
  · have hd : decide (zs = ys) = false := decide_eq_false fun e => hnm (by rw [← hl, ← hl', e])
    have HD := Lib.hid hd
    clear hd h h' hl hl'
    go_enter Try.func48, Try.ntmps48
    go_wp2
    go_ret
    rw [HD.out]
    exact ⟨rfl, Same.refl _⟩
theorem slicesEqual_any (B B' : Nat) (A A' : Option Addr) (n c m c' : Nat) (zs ys : List Int) (w : World) (h : Rd .i64 w B A n zs) (h' : Rd .i64 w B' A' m ys) (hn : n ≤ 1099511627776) :
    Calls Try.prog 60 #[.slice A n c, .slice A' m c'] w fun e w' => e = .returned (.bool (decide (zs = ys))) ∧ Same w w' := by
  have hl := h.len
  have hl' := h'.len
  by_cases hnm : n = m
  · subst hnm
    go_enter Try.func60, Try.ntmps60
    go_wp2
    go_loopw [13] (fun i wr => ∃ j : Nat, j ≤ n ∧ i = .int .i64 j ∧ zs.take j = ys.take j ∧ Same w wr) (fun i _ => n - (intOf i).toNat)
    case atStart => exact ⟨0, by omega, rfl, by simp, Same.refl _⟩
    case round =>
      obtain ⟨j, hj, rfl, ht, hsm⟩ := hrel
      have HT := Lib.hid ht
      have HL := Lib.hid hl
      have HL' := Lib.hid hl'
      have HS := Lib.hid hsm
      by_cases hjn : j < n
      · obtain ⟨b, off, rfl, _, hcj⟩ := (h.same hsm).cell_at hjn
        obtain ⟨b', off', rfl, _, hcj'⟩ := (h'.same hsm).cell_at hjn
        generalize hz : zs.getD j 0 = z at hcj
        generalize hy : ys.getD j 0 = y at hcj'
        have HZ := Lib.hid hz
        have HY := Lib.hid hy
        clear h h' hsm ht hl hl' hz hy
        by_cases hzy : z = y
        · subst hzy
          go_wp2
          go_region
          all_goals (try go_wp2)
          go_roundw
          case rel => exact ⟨j + 1, by omega, by go_num, take_eq_step (by have := HL.out; omega) (by have := HL'.out; omega) HT.out (HZ.out.trans HY.out.symm), HS.out.drew⟩
          case measure => simp [intOf]; omega
        · have hd : decide (zs = ys) = false := decide_eq_false fun e => hzy (by rw [← HZ.out, ← HY.out, e])
          have HD := Lib.hid hd
          clear hd
          go_wp2
          go_region
          all_goals (try go_wp2)
          go_ret
          rw [HD.out]
          exact ⟨rfl, HS.out.drew⟩
      · have e : zs = ys := by
          have e1 : zs.take j = zs := List.take_of_length_le (by omega)
          have e2 : ys.take j = ys := List.take_of_length_le (by omega)
          rw [← e1, ← e2, ht]
        subst e
        clear h h' hsm ht hl hl'
        go_wp2
        go_ret
        exact ⟨by simp, HS.out⟩
  · have hd : decide (zs = ys) = false := decide_eq_false fun e => hnm (by rw [← hl, ← hl', e])
    have HD := Lib.hid hd
    clear hd h h' hl hl'
    go_enter Try.func60, Try.ntmps60
    go_wp2
    go_ret
    rw [HD.out]
    exact ⟨rfl, Same.refl _⟩
theorem iEqualInts_any (B B' : Nat) (A A' : Option Addr) (n c m c' : Nat) (zs ys : List Int) (w : World) (h : Rd .i64 w B A n zs) (h' : Rd .i64 w B' A' m ys) (hn : n ≤ 1099511627776) :
    Calls Try.prog 47 #[.slice A n c, .slice A' m c'] w fun e w' => e = .returned (.bool (decide (zs = ys))) ∧ Same w w' := by
  go_enter Try.func47, Try.ntmps47
  go_wp2_with (go_at_call 60; refine (slicesEqual_any _ _ A A' n c m c' zs ys _ h h' hn).mono ?_; rintro e w1 ⟨rfl, hs1⟩)
  go_ret
  exact ⟨rfl, hs1⟩
end Go.Proofs.Ythfngiajicbdhaa.C03D
