/- Chapter 13: heads: what the functions compute. -/
import Derived.Test.YthhmhcmlbpdlbaaM06
import Derived.Test.YthhmhcmlbpdlbaaR13
namespace Go.Proofs.Ythhmhcmlbpdlbaa.M13
open Go.RowKit R06 R13 C01 M03 M06
set_option linter.unusedVariables false
def noK (k : Keys) : Bool := decide (k.need = 0) && decide (k.list.length = 0)
/-- what IsHead asks -/
def isHd (h : Head) : Bool :=
  (inR h.zone 0 2147483646 && inR h.root 0 2147483646 && inR h.prev 0 2147483646 && inR h.epoch 0 200 && inR h.kind 1 3) &&
  (inR h.time 0 100000 && inR h.until_ h.time 100000 && decide (h.until_ - h.time ≤ 200) && inR h.count 0 12 && isKeys h.keys) &&
  (if noK h.heirs = true then decide (h.wait = 0) else isKeys h.heirs && inR h.wait 1 500) &&
  (isKeys h.judge || (noK h.judge && !h.frozen))
def headInts (h : Head) : List Int := [h.zone, h.epoch, h.kind, h.time, h.until_, h.count, h.root, h.prev] ++ keysInts h.keys ++ keysInts h.heirs ++ [h.wait] ++ keysInts h.judge ++ [if h.frozen then 1 else 0]
def hdDig (h : Head) : Int := hsh (233 :: headInts h)
def freshH (h : Head) (now : Int) : Bool := inR now h.time h.until_
def eqHd (a b : Head) : Bool :=
  decide (a.zone = b.zone) && decide (a.epoch = b.epoch) && decide (a.kind = b.kind) && decide (a.time = b.time) && decide (a.until_ = b.until_) && decide (a.count = b.count) && decide (a.root = b.root) && decide (a.prev = b.prev) &&
  eqKeysB a.keys b.keys && eqKeysB a.heirs b.heirs && decide (a.wait = b.wait) && eqKeysB a.judge b.judge && decide (a.frozen = b.frozen)
theorem headInts_len (h : Head) : (headInts h).length = 16 + h.keys.list.length + h.heirs.list.length + h.judge.list.length := by
  unfold headInts keysInts
  simp only [List.length_append, List.length_cons, List.length_nil]
  omega
theorem eqK_iff {a b : Keys} : eqKeysB a b = true ↔ a = b := by
  unfold eqKeysB
  rcases a with ⟨l, n⟩
  rcases b with ⟨l', n'⟩
  simp
  constructor
  · rintro ⟨rfl, rfl⟩; exact ⟨rfl, rfl⟩
  · rintro ⟨rfl, rfl⟩; exact ⟨rfl, rfl⟩
theorem eqHd_iff {a b : Head} : eqHd a b = true ↔ a = b := by
  unfold eqHd
  simp only [Bool.and_eq_true, decide_eq_true_eq, eqK_iff]
  constructor
  · rintro ⟨⟨⟨⟨⟨⟨⟨⟨⟨⟨⟨⟨h1, h2⟩, h3⟩, h4⟩, h5⟩, h6⟩, h7⟩, h8⟩, h9⟩, h10⟩, h11⟩, h12⟩, h13⟩
    rcases a with ⟨⟩
    rcases b with ⟨⟩
    simp only at h1 h2 h3 h4 h5 h6 h7 h8 h9 h10 h11 h12 h13
    subst h1 h2 h3 h4 h5 h6 h7 h8 h9 h10 h11 h12 h13
    rfl
  · rintro rfl
    exact ⟨⟨⟨⟨⟨⟨⟨⟨⟨⟨⟨⟨rfl, rfl⟩, rfl⟩, rfl⟩, rfl⟩, rfl⟩, rfl⟩, rfl⟩, rfl⟩, rfl⟩, rfl⟩, rfl⟩, rfl⟩
/-- the numbers of a set of keys say where they end -/
theorem keysInts_app {a b : Keys} {x y : List Int} (h : keysInts a ++ x = keysInts b ++ y) : a = b ∧ x = y := by
  rcases a with ⟨l, n⟩
  rcases b with ⟨l', n'⟩
  unfold keysInts at h
  simp only [List.cons_append, List.cons.injEq] at h
  obtain ⟨h1, h2, h3⟩ := h
  have hl : l.length = l'.length := by omega
  obtain ⟨e1, e2⟩ := List.append_inj h3 hl
  subst h1 e1
  exact ⟨rfl, e2⟩
theorem headInts_inj {a b : Head} (h : headInts a = headInts b) : a = b := by
  unfold headInts at h
  simp only [List.append_assoc, List.cons_append, List.nil_append, List.cons.injEq] at h
  obtain ⟨h1, h2, h3, h4, h5, h6, h7, h8, h9⟩ := h
  obtain ⟨e9, h9⟩ := keysInts_app h9
  obtain ⟨e10, h9⟩ := keysInts_app h9
  simp only [List.cons.injEq] at h9
  obtain ⟨e11, h9⟩ := h9
  obtain ⟨e12, h9⟩ := keysInts_app h9
  simp only [List.cons.injEq, and_true] at h9
  rcases a with ⟨a1, a2, a3, a4, a5, a6, a7, a8, a9, a10, a11, a12, a13⟩
  rcases b with ⟨b1, b2, b3, b4, b5, b6, b7, b8, b9, b10, b11, b12, b13⟩
  simp only at h1 h2 h3 h4 h5 h6 h7 h8 e9 e10 e11 e12 h9
  subst h1 h2 h3 h4 h5 h6 h7 h8 e9 e10 e11 e12
  rcases a13 with _ | _ <;> rcases b13 with _ | _
  · rfl
  · simp at h9
  · simp at h9
  · rfl
theorem eqHd_ints (a b : Head) : decide (headInts a = headInts b) = eqHd a b := by
  by_cases h : a = b
  · subst h
    rw [decide_eq_true rfl, (eqHd_iff).2 rfl]
  · rw [decide_eq_false fun e => h (headInts_inj e)]
    cases h9 : eqHd a b
    · rfl
    · exact absurd (eqHd_iff.1 h9) h
end Go.Proofs.Ythhmhcmlbpdlbaa.M13
