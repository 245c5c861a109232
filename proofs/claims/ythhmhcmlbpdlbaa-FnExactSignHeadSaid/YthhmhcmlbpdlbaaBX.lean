/- Boxes that are written, and owned data behind such a write. -/
import Derived.Test.YthhmhcmlbpdlbaaRep
namespace Go.Proofs.Ythhmhcmlbpdlbaa.BX
open Go.RowKit Mem MemS Rep
set_option linter.unusedVariables false
theorem bx_set {w : World} {b : Nat} {vs : List Value} (h : Box w b vs) {j : Nat} (hj : j < vs.length) (v : Value) : Box (w.setCell ⟨b, j, none⟩ v) b (vs.set j v) := by
  have hu : vs[j]? = some (vs[j]'hj) := List.getElem?_eq_getElem hj
  refine ⟨fun {i u} hi => ?_, fun {i u} hi => ?_, by first | (simp; done) | (simp; exact h.lt)⟩
  · rw [List.getElem?_set] at hi
    by_cases e : j = i
    · subst e
      simp [hj] at hi
      subst hi
      exact World.cell?_setCell_same _ _ _ (h.cell hu)
    · rw [if_neg e] at hi
      rw [World.cell?_setCell_other _ _ _ _ (fun h9 => e (by injection h9))]
      exact h.cell hi
  · rw [World.frozen?_setCell]
    have hi' : i < (vs.set j v).length := (List.getElem?_eq_some_iff.1 hi).1
    exact h.warm (List.getElem?_eq_getElem (show i < vs.length by simpa using hi'))
theorem bx_store {w : World} {b : Nat} {vs : List Value} (h : Box w b vs) {p : Addr} (hp : p.block ≠ b) (v : Value) : Box (w.setCell p v) b vs := h.keep (Below.heap_setCell w p v b (fun e => hp e.symm))
theorem own_st {α : Type} {R : Rep α} {w : World} {lo hi B : Nat} {cs : List Value} {a : α} (h : OwnI R w lo hi cs a ∧ hi ≤ w.heap.size ∧ B ≤ lo) {p : Addr} (hp : p.block < B) (v : Value) : OwnI R (w.setCell p v) lo hi cs a ∧ hi ≤ (w.setCell p v).heap.size ∧ B ≤ lo :=
  ⟨h.1.store v (.inl (Nat.lt_of_lt_of_le hp h.2.2)), by simpa [World.setCell] using h.2.1, h.2.2⟩
theorem cap_st {w : World} {b c : Nat} {x : Value} (h : w.cell? ⟨b, 0, none⟩ = some x ∧ b < w.heap.size) {j : Nat} (hp : c ≠ b) (v : Value) : (w.setCell ⟨c, j, none⟩ v).cell? ⟨b, 0, none⟩ = some x ∧ b < (w.setCell ⟨c, j, none⟩ v).heap.size :=
  ⟨(World.cell?_of_block (a := ⟨b, 0, none⟩) (Below.heap_setCell w ⟨c, j, none⟩ v b (fun e => hp e.symm))).trans h.1, by simpa [World.setCell] using h.2⟩
/-- cells of a block written one after another -/
def puts (w : World) (b : Nat) : Nat → List Value → World
  | _, [] => w
  | j, v :: r => puts (w.setCell ⟨b, j, none⟩ v) b (j + 1) r
def putL (vs : List Value) : Nat → List Value → List Value
  | _, [] => vs
  | j, v :: r => putL (vs.set j v) (j + 1) r
theorem puts_box {b : Nat} : ∀ (vals : List Value) (j : Nat) {w : World} {vs : List Value}, Box w b vs → j + vals.length ≤ vs.length → Box (puts w b j vals) b (putL vs j vals)
  | [], _, _, _, h, _ => h
  | v :: r, j, _, _, h, hl => puts_box r (j + 1) (bx_set h (by simp at hl; omega) v) (by simp at hl ⊢; omega)
theorem puts_keep {b c : Nat} (hne : c ≠ b) : ∀ (vals : List Value) (j : Nat) {w : World}, (puts w b j vals).heap[c]? = w.heap[c]?
  | [], _, _ => rfl
  | v :: r, j, w => (puts_keep hne r (j + 1)).trans (Below.heap_setCell w ⟨b, j, none⟩ v c hne)
theorem puts_size {b : Nat} : ∀ (vals : List Value) (j : Nat) {w : World}, (puts w b j vals).heap.size = w.heap.size
  | [], _, _ => rfl
  | v :: r, j, w => (puts_size r (j + 1)).trans (by simp [World.setCell])
theorem puts_bel {b B : Nat} {w0 : World} (hB : B ≤ b) : ∀ (vals : List Value) (j : Nat) {w : World}, Below B w0 w → Below B w0 (puts w b j vals)
  | [], _, _, h => h
  | v :: r, j, _, h => puts_bel hB r (j + 1) (Below.setCell (p := ⟨b, j, none⟩) h hB v)
section
variable {w V : World} {b c j B lo hi : Nat} {vals vs : List Value}
theorem pt_self (e : puts w b j vals = V) (h : Box w b vs) (hl : j + vals.length ≤ vs.length) : Box V b (putL vs j vals) := by rw [← e]; exact puts_box vals j h hl
theorem putL_mid : ∀ (vals old pre post : List Value), vals.length = old.length → putL (pre ++ old ++ post) pre.length vals = pre ++ vals ++ post
  | [], [], pre, post, _ => rfl
  | v :: r, o :: s, pre, post, h => by
    have e1 : (pre ++ o :: s ++ post).set pre.length v = (pre ++ [v]) ++ s ++ post := by simp
    show putL ((pre ++ o :: s ++ post).set pre.length v) (pre.length + 1) r = _
    rw [e1, show pre.length + 1 = (pre ++ [v]).length by simp, putL_mid r s (pre ++ [v]) post (by simpa using h)]
    simp
/-- many cells at once: nothing is reckoned cell by cell -/
theorem pt_mid {pre old post : List Value} (e : puts w b j vals = V) (h : Box w b (pre ++ old ++ post)) (hp : pre.length = j) (hl : vals.length = old.length) : Box V b (pre ++ vals ++ post) := by
  subst hp
  rw [← e, ← putL_mid vals old pre post hl]
  exact puts_box vals _ h (by simp; omega)
theorem pt_box (e : puts w b j vals = V) (h : Box w c vs) (hne : c ≠ b) : Box V c vs := by rw [← e]; exact h.keep (puts_keep hne vals j)
theorem pt_bel {w0 : World} (e : puts w b j vals = V) (h : Below B w0 w) (hB : B ≤ b) : Below B w0 V := by rw [← e]; exact puts_bel hB vals j h
theorem pt_own {α : Type} {R : Rep α} {cs : List Value} {a : α} (e : puts w b j vals = V) (h : OwnI R w lo hi cs a ∧ hi ≤ w.heap.size ∧ B ≤ lo) (hp : b < B) : OwnI R V lo hi cs a ∧ hi ≤ V.heap.size ∧ B ≤ lo := by
  rw [← e]
  exact ⟨h.1.keep fun i _ h1 _ => puts_keep (by have := h.2.2; omega) vals j, by rw [puts_size]; exact h.2.1, h.2.2⟩
theorem pt_cap {x : Value} (e : puts w b j vals = V) (h : w.cell? ⟨c, 0, none⟩ = some x ∧ c < w.heap.size) (hne : c ≠ b) : V.cell? ⟨c, 0, none⟩ = some x ∧ c < V.heap.size := by
  rw [← e]
  exact ⟨(World.cell?_of_block (a := ⟨c, 0, none⟩) (puts_keep hne vals j)).trans h.1, by rw [puts_size]; exact h.2⟩
end
/-- a part in front of others, in intervals one behind the other -/
theorem part_cons {F G : List Nat} {lo x y y' z : Nat} (u : F.Nodup) (e : ∀ b, b ∈ F → x ≤ b ∧ b < y) (h : G.Nodup ∧ ∀ b, b ∈ G → y' ≤ b ∧ b < z) (hy : y ≤ y') (hx : lo ≤ x) (hx2 : lo ≤ y') (hz : y ≤ z) : (F ++ G).Nodup ∧ ∀ b, b ∈ F ++ G → lo ≤ b ∧ b < z := by
  refine ⟨List.nodup_append.2 ⟨u, h.1, fun i hi j hj eq => ?_⟩, fun b hb => ?_⟩
  · subst eq
    have := e i hi
    have := h.2 i hj
    omega
  · rcases List.mem_append.1 hb with hb | hb
    · have := e b hb
      omega
    · have := h.2 b hb
      omega
/-- four parts in intervals that lie apart -/
theorem own_parts4 {α : Type} {R : Rep α} {w : World} {cs : List Value} {a : α} {F1 F2 F3 F4 : List Nat} {lo hi x1 y1 x2 y2 x3 y3 x4 y4 : Nat} (h : R.own w (F1 ++ (F2 ++ (F3 ++ F4))) cs a) (b1 : F1.Nodup) (b2 : F2.Nodup) (b3 : F3.Nodup) (b4 : F4.Nodup)
    (e1 : ∀ b, b ∈ F1 → x1 ≤ b ∧ b < y1) (e2 : ∀ b, b ∈ F2 → x2 ≤ b ∧ b < y2) (e3 : ∀ b, b ∈ F3 → x3 ≤ b ∧ b < y3) (e4 : ∀ b, b ∈ F4 → x4 ≤ b ∧ b < y4) (hl : lo ≤ x1 ∧ lo ≤ x2 ∧ lo ≤ x3 ∧ lo ≤ x4) (hh : y1 ≤ hi ∧ y2 ≤ hi ∧ y3 ≤ hi ∧ y4 ≤ hi)
    (d12 : y1 ≤ x2 ∨ y2 ≤ x1) (d13 : y1 ≤ x3 ∨ y3 ≤ x1) (d14 : y1 ≤ x4 ∨ y4 ≤ x1) (d23 : y2 ≤ x3 ∨ y3 ≤ x2) (d24 : y2 ≤ x4 ∨ y4 ≤ x2) (d34 : y3 ≤ x4 ∨ y4 ≤ x3) : OwnI R w lo hi cs a := by
  refine ⟨_, h, ?_, ?_⟩
  · refine List.nodup_append.2 ⟨b1, List.nodup_append.2 ⟨b2, List.nodup_append.2 ⟨b3, b4, fun i hi j hj e => ?_⟩, fun i hi j hj e => ?_⟩, fun i hi j hj e => ?_⟩
    · subst e
      have := e3 i hi
      have := e4 i hj
      omega
    · subst e
      have := e2 i hi
      rcases List.mem_append.1 hj with hj | hj
      · have := e3 i hj
        omega
      · have := e4 i hj
        omega
    · subst e
      have := e1 i hi
      rcases List.mem_append.1 hj with hj | hj
      · have := e2 i hj
        omega
      · rcases List.mem_append.1 hj with hj | hj
        · have := e3 i hj
          omega
        · have := e4 i hj
          omega
  · intro i hi
    rcases List.mem_append.1 hi with hi | hi
    · have := e1 i hi
      omega
    · rcases List.mem_append.1 hi with hi | hi
      · have := e2 i hi
        omega
      · rcases List.mem_append.1 hi with hi | hi
        · have := e3 i hi
          omega
        · have := e4 i hi
          omega
end Go.Proofs.Ythhmhcmlbpdlbaa.BX
