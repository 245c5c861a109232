/- The law's own helpers on slices of numbers: a copy, a comparison, marking and looking for marks. -/
import Derived.Test.YthhmhcmlbpdlbaaGreatMem
import Derived.IntWalk
import Derived.Lib.Hide
import Derived.Outline
import Derived.Laws.Closers25b
namespace Go.Proofs.YthhmhcmlbpdlbaaGreat.T01
open Go.RowKit Mem
set_option linter.unusedVariables false
set_option maxRecDepth 100000
/-- the marks from k on -/
def marks (κ : IntKind) (k : Int) (n : Nat) : List Int := (List.range n).map fun (i : Nat) => κ.wrap (k + (i : Int))
theorem marks_len (κ : IntKind) (k : Int) (n : Nat) : (marks κ k n).length = n := by simp [marks]
theorem marks_get (κ : IntKind) (k : Int) {n j : Nat} (hj : j < n) : (marks κ k n).getD j 0 = κ.wrap (k + (j : Int)) := by simp [marks, List.getD, hj]
/-- half marked -/
theorem marks_set (κ : IntKind) (k : Int) {n j : Nat} {zs : List Int} (hl : zs.length = n) (hj : j < n) : (marks κ k j ++ zs.drop j).set j (κ.wrap (k + (j : Int))) = marks κ k (j + 1) ++ zs.drop (j + 1) := by
  have hm := marks_len κ k j
  rw [List.set_append_right _ _ (by omega), hm, Nat.sub_self]
  rw [List.drop_eq_getElem_cons (show j < zs.length by omega)]
  rw [List.set_cons_zero]
  simp [marks, List.range_succ]
theorem copy_set {n j : Nat} {zs : List Int} (hl : zs.length = n) (hj : j < n) : (zs.take j ++ List.replicate (n - j) (0 : Int)).set j (zs.getD j 0) = zs.take (j + 1) ++ List.replicate (n - (j + 1)) (0 : Int) := by
  have hm : (zs.take j).length = j := by simp; omega
  rw [List.set_append_right _ _ (by omega), hm, Nat.sub_self]
  rw [show n - j = (n - (j + 1)) + 1 by omega, List.replicate_succ, List.set_cons_zero, List.take_succ_eq_append_getElem (show j < zs.length by omega)]
  simp only [List.getD, List.getElem?_eq_getElem (show j < zs.length by omega), Option.getD_some, List.append_assoc, List.cons_append, List.nil_append]
theorem wrap_i64_id (z : Int) (h1 : -9223372036854775808 ≤ z) (h2 : z ≤ 9223372036854775807) : IntKind.i64.wrap z = z := by
  rw [IntKind.wrap_i64]
  omega
theorem wrap_in (κ : IntKind) (z : Int) : In κ (κ.wrap z) := wrap_within κ z
theorem eqIntS_same (B B' : Nat) (A A' : Option Addr) (n c c' : Nat) (zs : List Int) (w : World) (h : Rd .i64 w B A n zs) (h' : Rd .i64 w B' A' n zs) (hn : n ≤ 1099511627776) :
    Calls Tryz.prog 62 #[.slice A n c, .slice A' n c'] w fun e w' => e = .returned (.bool true) ∧ Same w w' := by
  go_enter Tryz.func62, Tryz.ntmps62
  go_wp2
  go_loopw [5] (fun i wr => ∃ j : Nat, j ≤ n ∧ i = .int .i64 j ∧ Same w wr) (fun i _ => n - (intOf i).toNat)
  case atStart => exact ⟨0, by omega, rfl, Same.refl _⟩
  case round =>
    obtain ⟨j, hj, rfl, hsm⟩ := hrel
    by_cases hjn : j < n
    · obtain ⟨b, off, rfl, _, hcj⟩ := (h.same hsm).cell_at hjn
      obtain ⟨b', off', rfl, _, hcj'⟩ := (h'.same hsm).cell_at hjn
      generalize zs.getD j 0 = z at hcj hcj'
      have HS := Lib.hid hsm
      clear h h' hsm
      go_wp2
      go_region
      all_goals (try go_wp2)
      go_roundw
      case rel => exact ⟨j + 1, by omega, by go_num, HS.out.drew⟩
      case measure => simp [intOf]; omega
    · clear h h'
      go_wp2
      go_ret
      exact ⟨rfl, hsm⟩
theorem toIntS_any (A : Option Addr) (n c : Nat) (zs : List Int) (w : World) (h : Rd .i64 w w.heap.size A n zs) (hn : n ≤ 1099511627776) :
    Calls Tryz.prog 60 #[.slice A n c] w fun e w' => ∃ A' c', e = .returned (.slice A' n c') ∧ Own .i64 w' w.heap.size w'.heap.size A' n c' zs ∧ Below w.heap.size w w' := by
  have hl := h.len
  go_enter Tryz.func60, Tryz.ntmps60
  go_wp2_with (first | (at_make; refine wp_make (k := .i64) (by unfold BI; decide) rfl _ _ rfl rfl rfl (by omega) ?_; intro w1 hown1 hb1) | go_in)
  have HB := Lib.hid hb1
  clear hb1
  go_loopw [4] (fun i wr => ∃ j : Nat, j ≤ n ∧ i = .int .i64 j ∧ Own .i64 wr w.heap.size wr.heap.size (some ⟨w.heap.size, 0, none⟩) n n (zs.take j ++ List.replicate (n - j) (0 : Int)) ∧ Below w.heap.size w wr) (fun i _ => n - (intOf i).toNat)
  case atStart => exact ⟨0, by omega, rfl, by simpa using hown1, HB.out⟩
  case round =>
    obtain ⟨j, hj, rfl, hown, hbel⟩ := hrel
    by_cases hjn : j < n
    · obtain ⟨b, off, rfl, hlt, hc⟩ := h.cells (by omega)
      obtain ⟨z, hz⟩ : ∃ z, z = zs.getD j 0 := ⟨_, rfl⟩
      have hcj : wr.cell? ⟨b, off + j, none⟩ = some (.int .i64 z) := hz ▸ (hbel.cell (p := ⟨b, off + j, none⟩) hlt).trans (hc j hjn)
      obtain ⟨g, e, hg1, hg2, hcg, hfg, hset⟩ := hown.set hjn z (hz ▸ getD_in h.wf (by omega))
      rw [hz, copy_set hl hjn, ← hz] at hset
      have HO := Lib.hid hset
      have HH := Lib.hid hg1
      have HX := Lib.hid hbel
      clear hset hown hc hbel h hl hz hg1 hg2
      injection e with e
      injection e with e
      subst e
      go_wp2
      go_roundw
      case rel =>
        exact ⟨j + 1, by omega, by go_num, HO.out.top, HX.out.setCell (p := ⟨w.heap.size, j, none⟩) (Nat.le_refl _) _⟩
      case measure => simp [intOf]; omega
    · have e : zs.take j ++ List.replicate (n - j) (0 : Int) = zs := by
        have : j = n := by omega
        subst this
        rw [← hl]
        simp
      rw [e] at hown
      clear e hl h
      go_wp2
      go_ret
      exact ⟨_, _, rfl, hown, hbel⟩
theorem markIntS_any (lo hi : Nat) (A : Option Addr) (n c : Nat) (zs : List Int) (k : Int) (w : World) (h : Own .i64 w lo hi A n c zs) (hn : n ≤ 1099511627776) (hk0 : 0 ≤ k) (hk1 : k ≤ 1152921504606846976) :
    Calls Tryz.prog 64 #[.slice A n c, .int .i64 k] w fun e w' => e = .returned (.int .i64 (k + n)) ∧ Own .i64 w' lo hi A n c (marks .i64 k n) ∧ Fr lo hi w w' := by
  have hl := h.len
  go_enter Tryz.func64, Tryz.ntmps64
  go_wp2
  go_loopw [1, 5] (fun q i wr => ∃ j : Nat, j ≤ n ∧ i = .int .i64 j ∧ q = .int .i64 (k + j) ∧ Own .i64 wr lo hi A n c (marks .i64 k j ++ zs.drop j) ∧ Fr lo hi w wr) (fun _ i _ => n - (intOf i).toNat)
  case atStart => exact ⟨0, by omega, rfl, by simp, by simpa [marks] using h, Fr.refl _ _ _⟩
  case round =>
    obtain ⟨j, hj, rfl, rfl, hown, hfr⟩ := hrel
    by_cases hjn : j < n
    · obtain ⟨g, rfl, hg1, hg2, hcg, hfg, hset⟩ := hown.set hjn (IntKind.i64.wrap (k + (j : Int))) (wrap_in _ _)
      rw [marks_set .i64 k hl hjn] at hset
      have HO := Lib.hid hset
      have HX := Lib.hid hfr
      clear hset hown hfr h hl
      go_wp2
      go_roundw
      case rel => exact ⟨j + 1, by omega, by go_num, by go_num, by first | exact HO.out | (have HO := HO.out; rw [wrap_i64_id (k + (j : Int)) (by omega) (by omega)] at HO; exact HO), HX.out.setCell hg1 hg2 _ _⟩
      case measure => simp [intOf]; omega
    · have e : marks .i64 k j ++ zs.drop j = marks .i64 k n := by
        have : j = n := by omega
        subst this
        rw [← hl]
        simp
      rw [e] at hown
      have e2 : j = n := by omega
      subst e2
      clear e hl h
      go_wp2
      go_ret
      exact ⟨rfl, hown, hfr⟩
theorem heldIntS_marks (B : Nat) (A : Option Addr) (n c : Nat) (k : Int) (w : World) (h : Rd .i64 w B A n (marks .i64 k n)) (hn : n ≤ 1099511627776) (hk0 : 0 ≤ k) (hk1 : k ≤ 1152921504606846976) :
    Calls Tryz.prog 105 #[.slice A n c, .int .i64 k] w fun e w' => e = .returned (.int .i64 (k + n)) ∧ w = w' := by
  go_enter Tryz.func105, Tryz.ntmps105
  go_wp2
  go_loop [1, 5] (fun q i => ∃ j : Nat, j ≤ n ∧ i = .int .i64 j ∧ q = .int .i64 (k + j)) (fun _ i => n - (intOf i).toNat)
  case atStart => exact ⟨0, by omega, rfl, by simp⟩
  case round =>
    obtain ⟨j, hj, rfl, rfl⟩ := hrel
    by_cases hjn : j < n
    · obtain ⟨b, off, rfl, _, hc⟩ := h.cells (by omega)
      have hcj := hc j hjn
      rw [marks_get .i64 k hjn] at hcj
      clear h hc
      go_wp2
      go_round
      case rel => exact ⟨j + 1, by omega, by go_num, by go_num⟩
      case measure => simp [intOf]; omega
    · have e2 : j = n := by omega
      subst e2
      clear h
      go_wp2
      go_ret
      exact ⟨rfl, rfl⟩
end Go.Proofs.YthhmhcmlbpdlbaaGreat.T01
