/- Chapter 6: membership by the library; a valid set as an array with a count. -/
import Derived.Test.YthhmhcmlbpdlbaaC06S
import Derived.Test.YthhmhcmlbpdlbaaC03H
namespace Go.Proofs.Ythhmhcmlbpdlbaa.C06A
open Go.RowKit Mem MemS Rep R06 M03 M06 C01 C03S C03D C03H C06S
set_option linter.unusedVariables false
set_option maxRecDepth 100000
theorem index_any (B : Nat) (A : Option Addr) (n c : Nat) (l : List Int) (key : Int) (w : World) (h : Rd .i64 w B A n l) (hn : n ≤ 1099511627776) :
    Calls Try.prog 89 #[.slice A n c, .int .i64 key] w fun e w' => ∃ r : Int, e = .returned (.int .i64 r) ∧ decide (0 ≤ r) = hasK l key ∧ w = w' := by
  have HL := Lib.hid h.len
  go_enter Try.func89, Try.ntmps89
  go_wp2
  go_loop [8] (fun i => ∃ j : Nat, j ≤ n ∧ i = .int .i64 j ∧ ∀ k, k < j → l.getD k 0 ≠ key) (fun i => n - (intOf i).toNat)
  case atStart => exact ⟨0, by omega, rfl, fun k hk => absurd hk (by omega)⟩
  case round =>
    obtain ⟨j, hj, rfl, hf⟩ := hrel
    have HF := Lib.hid hf
    clear hf
    by_cases hjn : j < n
    · obtain ⟨b, off, rfl, hlt, hc⟩ := h.cells (by omega)
      have hcj := hc j hjn
      have HX := Lib.hid (show ∀ x : Int, l.getD j 0 = x → j < l.length from fun _ _ => by rw [HL.out]; exact hjn)
      generalize hx : l.getD j 0 = x at hcj
      have HE := Lib.hid hx
      clear hc hx h
      by_cases hk : x = key
      · subst hk
        have HR := Lib.hid (hasK_at (HX.out _ HE.out) HE.out)
        go_wp2
        go_ret
        exact ⟨_, rfl, by rw [HR.out]; exact decide_eq_true (by omega), rfl⟩
      · have hkb : (key == x) = false := beq_eq_false_iff_ne.2 fun e => hk e.symm
        have HK := Lib.hid hk
        clear hk
        go_wp2
        go_round
        case rel => exact ⟨j + 1, by omega, by go_num, fun k hk => by
          rcases Nat.lt_or_ge k j with h1 | h1
          · exact HF.out k h1
          · obtain rfl : k = j := by omega
            rw [HE.out]
            exact HK.out⟩
        case measure => simp [intOf]; omega
    · have HR := Lib.hid (hasK_none (l := l) (key := key) fun j' hj' => HF.out j' (by have := HL.out; omega))
      clear h
      go_wp2
      go_ret
      exact ⟨_, rfl, by rw [HR.out]; rfl, rfl⟩
theorem contains_any (B : Nat) (A : Option Addr) (n c : Nat) (l : List Int) (key : Int) (w : World) (h : Rd .i64 w B A n l) (hn : n ≤ 1099511627776) :
    Calls Try.prog 67 #[.slice A n c, .int .i64 key] w fun e w' => e = .returned (.bool (hasK l key)) ∧ w = w' := by
  have H := Lib.hid h
  clear h
  go_enter Try.func67, Try.ntmps67
  go_wp2_with fail
  refine (index_any B A n c l key _ H.out hn).mono ?_
  rintro e w1 ⟨r, rfl, hr, rfl⟩
  have HR := Lib.hid hr
  clear hr
  go_wp2
  go_ret
  exact ⟨by rw [← HR.out]; rfl, rfl⟩
def cz (l : List Int) (j i : Nat) : Int := if i < j then l.getD i 0 else 0
/-- the cells of an array with a count: the first j of l, then zeros -/
def arr5 (l : List Int) (j : Nat) : List Value := [.int .i64 (cz l j 0), .int .i64 (cz l j 1), .int .i64 (cz l j 2), .int .i64 (cz l j 3), .int .i64 j]
def lstAt (l : List Int) (j : Nat) : Int := if j = 0 then 1 else l.getD (j - 1) 0 + 1
theorem okAt_step {l : List Int} {j : Nat} (h : ∀ i, i < j → okAt l i = true) : inR (l.getD j 0) (lstAt l j) 99 = okAt l j := by
  unfold lstAt okAt
  rcases Nat.eq_zero_or_pos j with h0 | h0
  · subst h0
    simp
  · have h1 := h (j - 1) (by omega)
    unfold okAt at h1
    rw [Bool.and_eq_true] at h1
    have h2 := h1.1
    have hne : ¬ j = 0 := by omega
    rw [if_neg hne, decide_eq_false hne, Bool.false_or]
    generalize l.getD j 0 = x
    generalize l.getD (j - 1) 0 = y at h2
    unfold inR at h2 ⊢
    rw [Bool.and_eq_true] at h2
    obtain ⟨h3, h4⟩ := h2
    have h3 := of_decide_eq_true h3
    have h4 := of_decide_eq_true h4
    rw [Bool.eq_iff_iff]
    simp only [Bool.and_eq_true, decide_eq_true_eq]
    omega
theorem okAt_top {l : List Int} {j : Nat} (h : okAt l j = true) : 1 ≤ l.getD j 0 ∧ l.getD j 0 ≤ 99 := by
  unfold okAt at h
  rw [Bool.and_eq_true] at h
  have h := h.1
  unfold inR at h
  rw [Bool.and_eq_true] at h
  exact ⟨of_decide_eq_true h.1, of_decide_eq_true h.2⟩
theorem arr5_step {l : List Int} {j : Nat} (hj : j < 4) : ((arr5 l j).set j (.int .i64 (l.getD j 0))).set 4 (.int .i64 ((j + 1 : Nat) : Int)) = arr5 l (j + 1) := by
  have h4 : j = 0 ∨ j = 1 ∨ j = 2 ∨ j = 3 := by omega
  rcases h4 with rfl | rfl | rfl | rfl <;> simp [arr5, cz]
theorem bx_set {w : World} {b : Nat} {vs : List Value} (h : Box w b vs) {j : Nat} (hj : j < vs.length) (v : Value) : Box (w.setCell ⟨b, j, none⟩ v) b (vs.set j v) := by
  have hu : vs[j]? = some (vs[j]'hj) := List.getElem?_eq_getElem hj
  refine ⟨fun {i u} hi => ?_, fun {i u} hi => ?_, by first | (simp; done) | (simp; exact h.lt)⟩
  · rw [List.getElem?_set] at hi
    by_cases e : j = i
    · subst e
      simp [hj] at hi
      subst hi
      exact World.cell?_setCell_same _ _ _ (h.cell hu)
    · rw [if_neg e] at hi
      rw [World.cell?_setCell_other _ _ _ _ (fun h9 => e (by injection h9))]
      exact h.cell hi
  · rw [World.frozen?_setCell]
    have hi' : i < (vs.set j v).length := (List.getElem?_eq_some_iff.1 hi).1
    exact h.warm (List.getElem?_eq_getElem (show i < vs.length by simpa using hi'))
theorem bx_store {w : World} {b : Nat} {vs : List Value} (h : Box w b vs) {p : Addr} (hp : p.block ≠ b) (v : Value) : Box (w.setCell p v) b vs := h.keep (Below.heap_setCell w p v b (fun e => hp e.symm))
theorem bl_store {B : Nat} {w w' : World} (h : Below B w w') {p : Addr} (hp : B ≤ p.block) (v : Value) : Below B w (w'.setCell p v) :=
  ⟨h.os, h.tape, h.output, by simpa [World.setCell] using h.size, fun i hi => (Below.heap_setCell w' p v i (by omega)).trans (h.block i hi)⟩
/-- five cells written -/
theorem bx_five {w : World} {b : Nat} {vs : List Value} (h : Box w b vs) (hl : vs.length = 5) (v0 v1 v2 v3 v4 : Value) : Box (((((w.setCell ⟨b, 0, none⟩ v0).setCell ⟨b, 1, none⟩ v1).setCell ⟨b, 2, none⟩ v2).setCell ⟨b, 3, none⟩ v3).setCell ⟨b, 4, none⟩ v4) b [v0, v1, v2, v3, v4] := by
  have h5 := bx_set (bx_set (bx_set (bx_set (bx_set h (j := 0) (by omega) v0) (j := 1) (by simp; omega) v1) (j := 2) (by simp; omega) v2) (j := 3) (by simp; omega) v3) (j := 4) (by simp; omega) v4
  obtain ⟨a, b, c, d, e, rfl⟩ : ∃ a b c d e, vs = [a, b, c, d, e] := by
    match vs, hl with
    | [a, b, c, d, e], _ => exact ⟨a, b, c, d, e, rfl⟩
  exact h5
theorem rd_arr {w : World} {b n : Nat} {l : List Int} (hl : l.length = n) (hn : n ≤ 4) (hx : Box w b (arr5 l n)) (hi : ∀ z ∈ l, In .i64 z) : Rd .i64 w (b + 1) (some ⟨b, 0, none⟩) n l := by
  refine ⟨hl, hi, fun h => ⟨b, 0, rfl, by omega, fun j hj => ?_⟩⟩
  have e : (arr5 l n)[j]? = some (.int .i64 (l.getD j 0)) := by
    have h4 : j = 0 ∨ j = 1 ∨ j = 2 ∨ j = 3 := by omega
    rcases h4 with rfl | rfl | rfl | rfl <;> simp [arr5, cz] <;> omega
  have := hx.cell e
  rwa [Nat.zero_add]
end Go.Proofs.Ythhmhcmlbpdlbaa.C06A
