/- Reading what was written, and writing what was read: plain facts for the statements of promise 2. -/
import Derived.Test.YtppajfaneacchaaM02
namespace Go.Proofs.Ytppajfaneacchaa.M02F
open M02
theorem first_cases (zs : List Int) (x : Int) : ((x < 0 ∨ 1000000000000 < x) ∧ zs ++ enc x = zs ∧ rdU (zs ++ enc x) zs.length = (0, 0, false)) ∨ (0 ≤ x ∧ x ≤ 1000000000000 ∧ rdU (zs ++ enc x) zs.length = (x, (zs.length : Int) + (enc x).length, true)) := by
  by_cases h : 0 ≤ x ∧ x ≤ 1000000000000
  · have := rdU_enc zs h.1 h.2 []
    rw [List.append_nil] at this
    exact .inr ⟨h.1, h.2, this⟩
  · have e : enc x = [] := enc_out (by omega)
    refine .inl ⟨by omega, by rw [e, List.append_nil], ?_⟩
    rw [e, List.append_nil]
    exact rdU_end zs (by omega)
theorem second_cases (ys : List Int) (off : Int) (hb : Byt ys) : rdU ys off = (0, 0, false) ∨ ∃ (p q : Nat) (v : Int), off = p ∧ p < q ∧ q ≤ ys.length ∧ 0 ≤ v ∧ v ≤ 1000000000000 ∧ rdU ys off = (v, (q : Int), true) ∧ enc v = (ys.take q).drop p := by
  rcases hr : rdU ys off with ⟨v, a, ok⟩
  rcases ok with _ | _
  · have := rdU_false (zs := ys) (at_ := off) (by rw [hr])
    rw [← hr]
    exact .inl this
  · obtain ⟨h1, h2, h3, h4, h5, h6⟩ := rdU_true hb (at_ := off) (by rw [hr])
    rw [hr] at h2 h3 h4 h5 h6
    simp only at h2 h3 h4 h5 h6
    exact .inr ⟨off.toNat, a.toNat, v, by omega, by omega, by omega, h4, h5, by rw [show ((a.toNat : Nat) : Int) = a by omega], h6⟩
theorem rdB_enc (zs ys : List Int) (h : ys.length ≤ 1000000000000) : rdB (zs ++ (enc (ys.length : Int) ++ ys)) zs.length ys.length = (ys, (zs.length : Int) + (enc (ys.length : Int)).length + ys.length, true) := by
  have hr := rdU_enc zs (n := (ys.length : Int)) (by omega) (by omega) ys
  rw [rdB, hr]
  simp only [List.length_append]
  rw [if_pos (by simp; omega)]
  have e1 : ((zs.length : Int) + (enc (ys.length : Int)).length).toNat = zs.length + (enc (ys.length : Int)).length := by omega
  have e2 : ((zs.length : Int) + (enc (ys.length : Int)).length + ys.length).toNat = (zs ++ (enc (ys.length : Int) ++ ys)).length := by simp; omega
  rw [e1, e2, List.take_length]
  congr 1
  rw [← List.append_assoc, ← List.length_append, List.drop_left]
theorem rdB_short (zs ys : List Int) (h : ys.length ≤ 1000000000000) : rdB (zs ++ (enc (ys.length : Int) ++ ys)) zs.length ((ys.length : Int) - 1) = ([], 0, false) := by
  have hr := rdU_enc zs (n := (ys.length : Int)) (by omega) (by omega) ys
  rw [rdB, hr, if_neg (by simp only; omega)]
theorem rdI_enc (l : List Int) (hl : l.length ≤ 100) (h : ∀ x ∈ l, 0 ≤ x ∧ x ≤ 1000000000000) : rdI (encs l) 0 l.length = (l, ((encs l).length : Int), true) := by
  have hd := decs_enc l [] [] h
  simp only [List.nil_append, List.append_nil, List.length_nil] at hd
  rw [rdI, if_pos (by omega), Int.toNat_natCast]
  have hd2 : decs (encs l) l.length 0 = some (l, ((encs l).length : Int)) := by
    rw [show (0 : Int) = ((0 : Nat) : Int) by rfl, hd]
    simp
  rw [hd2]
  rfl
theorem decs_over (l : List Int) : ∀ (a : List Int), (∀ x ∈ l, 0 ≤ x ∧ x ≤ 1000000000000) → decs (a ++ encs l) (l.length + 1) a.length = none := by
  induction l with
  | nil =>
    intro a _
    have e : rdU (a ++ encs []) a.length = (0, 0, false) := rdU_end _ (by simp [encs])
    rw [List.length_nil, decs, e]
    simp
  | cons x l ih =>
    intro a h
    have hx := h x (by simp)
    have e : a ++ encs (x :: l) = a ++ (enc x ++ encs l) := by simp [encs]
    have e2 : a ++ (enc x ++ encs l) = (a ++ enc x) ++ encs l := by simp
    have h2 := ih (a ++ enc x) fun y hy => h y (by simp [hy])
    rw [List.length_cons, decs, e, rdU_enc a hx.1 hx.2, if_pos rfl, e2]
    simp only [List.length_append, Int.natCast_add] at h2
    rw [h2]
    rfl
theorem rdI_over (l : List Int) (h : ∀ x ∈ l, 0 ≤ x ∧ x ≤ 1000000000000) : rdI (encs l) 0 ((l.length : Int) + 1) = ([], 0, false) := by
  have hd := decs_over l [] h
  simp only [List.nil_append, List.length_nil] at hd
  unfold rdI
  split
  · rw [show ((l.length : Int) + 1).toNat = l.length + 1 by omega, show (0 : Int) = ((0 : Nat) : Int) by rfl, hd]
    rfl
  · rfl
end Go.Proofs.Ytppajfaneacchaa.M02F
