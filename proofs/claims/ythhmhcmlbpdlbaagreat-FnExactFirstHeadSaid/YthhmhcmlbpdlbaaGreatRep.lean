/- Data of any type in memory: 'Rep' says which cells a datum has, which blocks it reads ('rd'), and which blocks it owns ('own'). Appends, writes and makes of rows of any data. What came in, of any type, reads as data. -/
import Derived.Test.YthhmhcmlbpdlbaaGreatMem
import Derived.Laws.IdiomCopy
import Derived.Maps.AppendAt
import Derived.OwnWalk
import Derived.Deep.Slices
import Derived.Deep.Fields
import Derived.ChangeSame
namespace Go.Proofs.YthhmhcmlbpdlbaaGreat.Rep
open Go.RowKit Mem MemS
set_option linter.unusedVariables false

structure Rep (α : Type) where
  ty : TypeId
  n : Nat
  rd : World → (Nat → Prop) → List Value → α → Prop
  own : World → List Nat → List Value → α → Prop
  len : ∀ {w P cs a}, rd w P cs a → cs.length = n
  keep : ∀ {w w' P cs a}, rd w P cs a → (∀ i, P i → w'.heap[i]? = w.heap[i]?) → rd w' P cs a
  more : ∀ {w P P' cs a}, rd w P cs a → (∀ i, P i → P' i) → rd w P' cs a
  okeep : ∀ {w w' F cs a}, own w F cs a → (∀ i, i ∈ F → i < w.heap.size → w'.heap[i]? = w.heap[i]?) → own w' F cs a
  ord : ∀ {w F cs a}, own w F cs a → rd w (· ∈ F) cs a
  olt : ∀ {w F cs a}, own w F cs a → ∀ i, i ∈ F → i < w.heap.size
  one : ∀ {w P cs a}, rd w P cs a → ∀ u ∈ cs, u.oneCell' = true

def leaf {α : Type} (ty : TypeId) (f : α → Value) (Q : α → Prop) (h1 : ∀ a, (f a).oneCell' = true := by intro a; rfl) : Rep α where
  ty := ty
  n := 1
  rd _ _ cs a := cs = [f a] ∧ Q a
  own _ F cs a := F = [] ∧ cs = [f a] ∧ Q a
  len h := by rw [h.1]; rfl
  keep h _ := h
  more h _ := h
  okeep h _ := h
  ord h := h.2
  olt h i hi := by rw [h.1] at hi; cases hi
  one h u hu := by
    rw [h.1] at hu
    rw [List.mem_singleton.1 hu]
    exact h1 _

def pair {α β : Type} (R : Rep α) (S : Rep β) : Rep (α × β) where
  ty := R.ty
  n := R.n + S.n
  rd w P cs a := ∃ c1 c2, cs = c1 ++ c2 ∧ R.rd w P c1 a.1 ∧ S.rd w P c2 a.2
  own w F cs a := ∃ F1 F2 c1 c2, F = F1 ++ F2 ∧ cs = c1 ++ c2 ∧ R.own w F1 c1 a.1 ∧ S.own w F2 c2 a.2
  len := by
    rintro w P cs a ⟨c1, c2, rfl, h1, h2⟩
    rw [List.length_append, R.len h1, S.len h2]
  keep := by
    rintro w w' P cs a ⟨c1, c2, rfl, h1, h2⟩ hk
    exact ⟨c1, c2, rfl, R.keep h1 hk, S.keep h2 hk⟩
  more := by
    rintro w P P' cs a ⟨c1, c2, rfl, h1, h2⟩ hk
    exact ⟨c1, c2, rfl, R.more h1 hk, S.more h2 hk⟩
  okeep := by
    rintro w w' F cs a ⟨F1, F2, c1, c2, rfl, rfl, h1, h2⟩ hk
    exact ⟨F1, F2, c1, c2, rfl, rfl, R.okeep h1 fun i hi => hk i (List.mem_append_left _ hi), S.okeep h2 fun i hi => hk i (List.mem_append_right _ hi)⟩
  ord := by
    rintro w F cs a ⟨F1, F2, c1, c2, rfl, rfl, h1, h2⟩
    exact ⟨c1, c2, rfl, R.more (R.ord h1) fun i hi => List.mem_append_left _ hi, S.more (S.ord h2) fun i hi => List.mem_append_right _ hi⟩
  olt := by
    rintro w F cs a ⟨F1, F2, c1, c2, rfl, rfl, h1, h2⟩ i hi
    rcases List.mem_append.1 hi with hi | hi
    · exact R.olt h1 i hi
    · exact S.olt h2 i hi
  one := by
    rintro w P cs a ⟨c1, c2, rfl, h1, h2⟩ u hu
    rcases List.mem_append.1 hu with hu | hu
    · exact R.one h1 u hu
    · exact S.one h2 u hu

def iso {α β : Type} (ty : TypeId) (R : Rep α) (f : β → α) : Rep β where
  ty := ty
  n := R.n
  rd w P cs b := R.rd w P cs (f b)
  own w F cs b := R.own w F cs (f b)
  len h := R.len h
  keep h := R.keep h
  more h := R.more h
  okeep h := R.okeep h
  ord h := R.ord h
  olt h := R.olt h
  one h := R.one h

/-- data of R lie from A on, in blocks that P allows -/
structure Rds {α : Type} (R : Rep α) (w : World) (P : Nat → Prop) (A : Option Addr) (n : Nat) (zs : List α) : Prop where
  len : zs.length = n
  cells : 0 < n → ∃ b off, A = some ⟨b, off, none⟩ ∧ P b ∧ ∀ (i : Nat) z, zs[i]? = some z → ∃ cs, R.rd w P cs z ∧ ∀ j, j < R.n → w.cell? ⟨b, off + (i * R.n + j), none⟩ = cs[j]?

inductive Els {α : Type} (R : Rep α) (w : World) : List Nat → List (List Value) → List α → Prop
  | nil : Els R w [] [] []
  | cons {F1 F2 cs raw z zs} : R.own w F1 cs z → Els R w F2 raw zs → Els R w (F1 ++ F2) (cs :: raw) (z :: zs)

def blk : Option Addr → List Nat
  | none => []
  | some a => [a.block]

/-- the call made them, in the blocks F -/
def OwnF {α : Type} (R : Rep α) (w : World) (F : List Nat) (A : Option Addr) (n c : Nat) (zs : List α) : Prop :=
  ∃ raw Fe, zs.length = n ∧ F = blk A ++ Fe ∧ w.ownsRow 0 R.ty R.n (.slice A n c) n raw.flatten ∧ Els R w Fe raw zs

section
variable {α : Type} {R : Rep α} {w w' w'' : World} {F F' F1 F2 : List Nat} {raw raw' : List (List Value)} {zs ys : List α} {P P' : Nat → Prop} {A A' : Option Addr} {n c m lo hi : Nat}

theorem Els.len (h : Els R w F raw zs) : raw.length = zs.length := by
  induction h with
  | nil => rfl
  | cons _ _ ih => simp [ih]
theorem Els.keep (h : Els R w F raw zs) (hk : ∀ i, i ∈ F → i < w.heap.size → w'.heap[i]? = w.heap[i]?) : Els R w' F raw zs := by
  induction h with
  | nil => exact .nil
  | cons h1 h2 ih => exact .cons (R.okeep h1 fun i hi => hk i (List.mem_append_left _ hi)) (ih fun i hi => hk i (List.mem_append_right _ hi))
theorem Els.olt (h : Els R w F raw zs) : ∀ i, i ∈ F → i < w.heap.size := by
  induction h with
  | nil => intro i hi; cases hi
  | cons h1 h2 ih =>
    intro i hi
    rcases List.mem_append.1 hi with hi | hi
    · exact R.olt h1 i hi
    · exact ih i hi
theorem Els.append (h : Els R w F raw zs) (h' : Els R w F' raw' ys) : Els R w (F ++ F') (raw ++ raw') (zs ++ ys) := by
  induction h with
  | nil => exact h'
  | cons h1 h2 ih =>
    rw [List.append_assoc]
    exact .cons h1 ih
theorem Els.clen (h : Els R w F raw zs) : ∀ cs ∈ raw, cs.length = R.n := by
  induction h with
  | nil => intro cs hc; cases hc
  | cons h1 h2 ih =>
    intro cs hc
    rcases List.mem_cons.1 hc with rfl | hc
    · exact R.len (R.ord h1)
    · exact ih cs hc
theorem Els.get (h : Els R w F raw zs) : ∀ (i : Nat) z, zs[i]? = some z → ∃ cs Fi, raw[i]? = some cs ∧ (∀ b, b ∈ Fi → b ∈ F) ∧ R.own w Fi cs z := by
  induction h with
  | nil => intro i z hz; simp at hz
  | @cons F1 F2 cs raw z0 zs h1 h2 ih =>
    intro i z hz
    cases i with
    | zero =>
      simp at hz
      subst hz
      exact ⟨cs, F1, rfl, fun b hb => List.mem_append_left _ hb, h1⟩
    | succ i =>
      obtain ⟨cs', Fi, h3, h4, h5⟩ := ih i z (by simpa using hz)
      exact ⟨cs', Fi, by simpa using h3, fun b hb => List.mem_append_right _ (h4 b hb), h5⟩
theorem flat_len {k : Nat} : ∀ {raw : List (List Value)}, (∀ cs ∈ raw, cs.length = k) → raw.flatten.length = raw.length * k
  | [], _ => by simp
  | c :: raw, h => by
    have h1 := flat_len fun cs hc => h cs (List.mem_cons_of_mem _ hc)
    have h2 := h c (List.mem_cons_self ..)
    simp only [List.flatten_cons, List.length_append, List.length_cons, h1, h2, Nat.add_mul]
    omega
theorem flat_get {k : Nat} : ∀ {raw : List (List Value)} {i j : Nat} {cs : List Value}, (∀ cs ∈ raw, cs.length = k) → raw[i]? = some cs → j < k → raw.flatten[i * k + j]? = cs[j]?
  | [], i, j, cs, _, h, _ => by simp at h
  | c :: raw, i, j, cs, hl, h, hj => by
    have h2 := hl c (List.mem_cons_self ..)
    cases i with
    | zero =>
      simp at h
      subst h
      simp only [Nat.zero_mul, Nat.zero_add, List.flatten_cons]
      rw [List.getElem?_append_left (by omega)]
    | succ i =>
      have ih := flat_get (raw := raw) (i := i) (j := j) (cs := cs) (fun cs hc => hl cs (List.mem_cons_of_mem _ hc)) (by simpa using h) hj
      simp only [List.flatten_cons]
      rw [List.getElem?_append_right (by rw [h2, Nat.add_mul]; omega), h2, ← ih]
      congr 1
      rw [Nat.add_mul]
      omega

theorem Rds.keep (h : Rds R w P A n zs) (hk : ∀ i, P i → w'.heap[i]? = w.heap[i]?) : Rds R w' P A n zs :=
  ⟨h.len, fun hn => by
    obtain ⟨b, off, e, hlt, hc⟩ := h.cells hn
    refine ⟨b, off, e, hlt, fun i z hz => ?_⟩
    obtain ⟨cs, h1, h2⟩ := hc i z hz
    exact ⟨cs, R.keep h1 hk, fun j hj => (World.cell?_of_block (a := ⟨b, off + (i * R.n + j), none⟩) (hk b hlt)).trans (h2 j hj)⟩⟩
theorem Rds.mono (h : Rds R w P A n zs) (hk : ∀ i, P i → P' i) : Rds R w P' A n zs :=
  ⟨h.len, fun hn => by
    obtain ⟨b, off, e, hlt, hc⟩ := h.cells hn
    refine ⟨b, off, e, hk _ hlt, fun i z hz => ?_⟩
    obtain ⟨cs, h1, h2⟩ := hc i z hz
    exact ⟨cs, R.more h1 hk, h2⟩⟩
theorem Rds.nil (R : Rep α) (w : World) (P : Nat → Prop) (A : Option Addr) : Rds R w P A 0 [] := ⟨rfl, fun h => absurd h (by omega)⟩

theorem OwnF.len (h : OwnF R w F A n c zs) : zs.length = n := by
  obtain ⟨_, _, h, _⟩ := h
  exact h
theorem OwnF.keep (h : OwnF R w F A n c zs) (hk : ∀ i, i ∈ F → i < w.heap.size → w'.heap[i]? = w.heap[i]?) : OwnF R w' F A n c zs := by
  obtain ⟨raw, Fe, h1, rfl, h3, h4⟩ := h
  refine ⟨raw, Fe, h1, rfl, ⟨h3.1, ?_⟩, h4.keep fun i hi => hk i (List.mem_append_right _ hi)⟩
  rcases h3.2 with hn | ⟨g, cap, cur, e, h5, h6, h7⟩
  · exact .inl hn
  · refine .inr ⟨g, cap, cur, e, h5, ?_, h7⟩
    injection e with e1 e2 e3
    subst e1
    rw [hk g (List.mem_append_left _ (by simp [blk])) (Array.getElem?_eq_some_iff.1 h6).1]
    exact h6
theorem OwnF.olt (h : OwnF R w F A n c zs) : ∀ i, i ∈ F → i < w.heap.size := by
  obtain ⟨raw, Fe, h1, rfl, h3, h4⟩ := h
  intro i hi
  rcases List.mem_append.1 hi with hi | hi
  · cases A with
    | none => cases hi
    | some a =>
      have : i = a.block := by simpa [blk] using hi
      subst this
      exact (h3.lt a.block (by simp [Value.ownBlock])).2
  · exact h4.olt i hi
theorem OwnF.rd (h : OwnF R w F A n c zs) : Rds R w (· ∈ F) A n zs := by
  obtain ⟨raw, Fe, h1, rfl, h3, h4⟩ := h
  refine ⟨h1, fun hn => ?_⟩
  rcases h3.2 with ⟨_, h5⟩ | ⟨g, cap, cur, e, h5, h6, h7⟩
  · omega
  · injection e with e1 e2 e3
    subst e1
    refine ⟨g, 0, rfl, List.mem_append_left _ (by simp [blk]), fun i z hz => ?_⟩
    obtain ⟨cs, Fi, h8, h9, h10⟩ := h4.get i z hz
    refine ⟨cs, R.more (R.ord h10) fun b hb => List.mem_append_right _ (h9 b hb), fun j hj => ?_⟩
    have hl := R.len (R.ord h10)
    have hf := flat_get h4.clen h8 hj
    have hu : cs[j]? = some (cs[j]'(by omega)) := List.getElem?_eq_getElem (by omega)
    have := h3.cells (g := g) rfl (i * R.n + j) (cs[j]'(by omega)) (by rw [hf, hu])
    rw [add_none] at this
    rw [this, hu]
theorem OwnF.cap (h : OwnF R w F A n c zs) : n ≤ c ∧ c ≤ maxLen := by
  obtain ⟨raw, Fe, h1, rfl, h3, h4⟩ := h
  rcases h3.2 with ⟨h5, h6⟩ | ⟨g, cap, cur, e, _, _, h7, h8, _⟩
  · injection h5 with e1 e2 e3
    subst e3
    exact ⟨by omega, by simp [maxLen]⟩
  · injection e with e1 e2 e3
    subst e3
    exact ⟨h7, h8⟩
theorem OwnF.nil (R : Rep α) (w : World) : OwnF R w [] none 0 0 [] := ⟨[], [], rfl, rfl, World.ownsRow_nil _ _ _ _, .nil⟩
end

def slice {α : Type} (ty : TypeId) (R : Rep α) : Rep (List α) where
  ty := ty
  n := 1
  rd w P cs zs := ∃ A n c, cs = [.slice A n c] ∧ n ≤ c ∧ c ≤ maxLen ∧ Rds R w P A n zs
  own w F cs zs := ∃ A n c, cs = [.slice A n c] ∧ OwnF R w F A n c zs
  len := by
    rintro w P cs a ⟨A, n, c, rfl, _⟩
    rfl
  keep := by
    rintro w w' P cs a ⟨A, n, c, rfl, h1, h2, h3⟩ hk
    exact ⟨A, n, c, rfl, h1, h2, h3.keep hk⟩
  more := by
    rintro w P P' cs a ⟨A, n, c, rfl, h1, h2, h3⟩ hk
    exact ⟨A, n, c, rfl, h1, h2, h3.mono hk⟩
  okeep := by
    rintro w w' F cs a ⟨A, n, c, rfl, h⟩ hk
    exact ⟨A, n, c, rfl, h.keep hk⟩
  ord := by
    rintro w F cs a ⟨A, n, c, rfl, h⟩
    exact ⟨A, n, c, rfl, h.cap.1, h.cap.2, h.rd⟩
  olt := by
    rintro w F cs a ⟨A, n, c, rfl, h⟩
    exact h.olt
  one := by
    rintro w P cs a ⟨A, n, c, rfl, _⟩ u hu
    rw [List.mem_singleton.1 hu]
    rfl
abbrev Lt (B : Nat) : Nat → Prop := fun b => b < B
/-- a boxed datum: block b has these cells, and they may be written -/
structure Box (w : World) (b : Nat) (vs : List Value) : Prop where
  cell : ∀ {j v}, vs[j]? = some v → w.cell? ⟨b, j, none⟩ = some v
  warm : ∀ {j v}, vs[j]? = some v → w.frozen? ⟨b, j, none⟩ = false
  lt : b < w.heap.size
theorem Box.new (w : World) (cs : Array Value) (t : TypeId) : Box (w.alloc (.cells cs t)) w.heap.size cs.toList :=
  ⟨fun {j v} hj => by rw [World.cell?_alloc_at _ _ _ _ rfl]; simpa using hj, fun {j v} hj => World.frozen?_alloc_at _ _ _ _ rfl, by simp⟩
theorem Box.keep {w w' : World} {b : Nat} {vs : List Value} (h : Box w b vs) (hk : w'.heap[b]? = w.heap[b]?) : Box w' b vs := by
  have hlt : b < w'.heap.size := by
    have h1 : w.heap[b]? = some (w.heap[b]'h.lt) := Array.getElem?_eq_getElem h.lt
    rw [h1] at hk
    exact (Array.getElem?_eq_some_iff.1 hk).1
  exact ⟨fun {j v} hj => (World.cell?_of_block (a := ⟨b, j, none⟩) hk).trans (h.cell hj), fun {j v} hj => (World.frozen?_of_block (a := ⟨b, j, none⟩) hk).trans (h.warm hj), hlt⟩
theorem bcell {W w1 : World} (hb : Below W.heap.size W w1) : (∀ b o, b < W.heap.size → w1.cell? ⟨b, o, none⟩ = W.cell? ⟨b, o, none⟩) ∧ (∀ b o, b < W.heap.size → w1.frozen? ⟨b, o, none⟩ = W.frozen? ⟨b, o, none⟩) :=
  ⟨fun b o h => hb.cell (p := ⟨b, o, none⟩) h, fun b o h => hb.frozen (p := ⟨b, o, none⟩) h⟩
theorem Box.alloc {w : World} {b : Nat} {vs : List Value} (h : Box w b vs) (o : Obj) : Box (w.alloc o) b vs := h.keep (Below.heap_alloc w o b h.lt)
theorem Box.below {w w' : World} {b B : Nat} {vs : List Value} (h : Box w b vs) (hb : Below B w w') (hB : b < B) : Box w' b vs := h.keep (hb.block b hB)
section
variable {w w' w'' : World} {F F' : List Nat} {P P' : Nat → Prop} {A A' : Option Addr} {n c m lo hi B B' : Nat}
abbrev RS : Rep ByteArray := leaf 9 Value.string InS
abbrev RI : Rep Int := leaf 3 (Value.int .i64) (In .i64)
theorem RS_n : RS.n = 1 := rfl
theorem RI_n : RI.n = 1 := rfl
abbrev RBo : Rep Bool := leaf 4 Value.bool (fun _ => True)
/-- between the words for strings and these -/
theorem Rds.strs {zs : List ByteArray} (h : Rds RS w (Lt B) A n zs) : RdS w B A n zs := by
  refine ⟨h.len, fun z hz => ?_, fun hn => ?_⟩
  · obtain ⟨i, hi, rfl⟩ := List.mem_iff_getElem.1 hz
    have hl := h.len
    obtain ⟨b, off, rfl, hlt, hc⟩ := h.cells (by omega)
    obtain ⟨cs, ⟨_, h1⟩, _⟩ := hc i zs[i] (by simp)
    exact h1
  · obtain ⟨b, off, rfl, hlt, hc⟩ := h.cells hn
    refine ⟨b, off, rfl, hlt, fun j hj => ?_⟩
    have hl := h.len
    obtain ⟨cs, ⟨rfl, _⟩, h2⟩ := hc j (zs.getD j .empty) (by simp [List.getD, List.getElem?_eq_getElem (show j < zs.length by omega)])
    simpa [RS_n, RI_n] using h2 0 (by decide)
theorem Rds.of_strs {zs : List ByteArray} (h : RdS w B A n zs) : Rds RS w (Lt B) A n zs := by
  refine ⟨h.len, fun hn => ?_⟩
  obtain ⟨b, off, rfl, hlt, hc⟩ := h.cells hn
  refine ⟨b, off, rfl, hlt, fun i z hz => ⟨[.string z], ⟨rfl, h.wf z (List.mem_of_getElem? hz)⟩, fun j hj => ?_⟩⟩
  have hi : i < zs.length := (List.getElem?_eq_some_iff.1 hz).1
  have hl := h.len
  have hj0 : j = 0 := by rw [RS_n] at hj; omega
  subst hj0
  have := hc i (by omega)
  have hz' : zs.getD i .empty = z := by simp [List.getD, hz]
  rw [hz'] at this
  simpa [RS_n, RI_n] using this
theorem Rds.ints {zs : List Int} (h : Rds RI w (Lt B) A n zs) : Rd .i64 w B A n zs := by
  refine ⟨h.len, fun z hz => ?_, fun hn => ?_⟩
  · obtain ⟨i, hi, rfl⟩ := List.mem_iff_getElem.1 hz
    have hl := h.len
    obtain ⟨b, off, rfl, hlt, hc⟩ := h.cells (by omega)
    obtain ⟨cs, ⟨_, h1⟩, _⟩ := hc i zs[i] (by simp)
    exact h1
  · obtain ⟨b, off, rfl, hlt, hc⟩ := h.cells hn
    refine ⟨b, off, rfl, hlt, fun j hj => ?_⟩
    have hl := h.len
    obtain ⟨cs, ⟨rfl, _⟩, h2⟩ := hc j (zs.getD j 0) (by simp [List.getD, List.getElem?_eq_getElem (show j < zs.length by omega)])
    simpa [RS_n, RI_n] using h2 0 (by decide)
theorem Rds.of_ints {zs : List Int} (h : Rd .i64 w B A n zs) : Rds RI w (Lt B) A n zs := by
  refine ⟨h.len, fun hn => ?_⟩
  obtain ⟨b, off, rfl, hlt, hc⟩ := h.cells hn
  refine ⟨b, off, rfl, hlt, fun i z hz => ⟨[.int .i64 z], ⟨rfl, h.wf z (List.mem_of_getElem? hz)⟩, fun j hj => ?_⟩⟩
  have hi : i < zs.length := (List.getElem?_eq_some_iff.1 hz).1
  have hl := h.len
  have hj0 : j = 0 := by rw [RI_n] at hj; omega
  subst hj0
  have := hc i (by omega)
  have hz' : zs.getD i 0 = z := by simp [List.getD, hz]
  rw [hz'] at this
  simpa [RS_n, RI_n] using this
end
section
variable {α : Type} {w w' w'' : World} {F F' : List Nat} {P P' : Nat → Prop} {A A' : Option Addr} {n c m lo hi B B' : Nat} {ty : TypeId} {f : α → Value} {Q : α → Prop} {h1 : ∀ a, (f a).oneCell' = true}
theorem els_leaf {raw : List (List Value)} {zs : List α} (h : Els (leaf ty f Q h1) w F raw zs) : F = [] ∧ raw.flatten = zs.map f ∧ ∀ z ∈ zs, Q z := by
  induction h with
  | nil => exact ⟨rfl, rfl, by simp⟩
  | cons h1 h2 ih =>
    obtain ⟨rfl, rfl, h5⟩ := h1
    obtain ⟨rfl, i2, i3⟩ := ih
    refine ⟨rfl, by simp [i2], fun z hz => ?_⟩
    rcases List.mem_cons.1 hz with rfl | hz
    · exact h5
    · exact i3 z hz
theorem els_mk {zs : List α} (h : ∀ z ∈ zs, Q z) : Els (leaf ty f Q h1) w [] (zs.map fun z => [f z]) zs := by
  induction zs with
  | nil => exact .nil
  | cons z zs ih => exact Els.cons (F1 := []) (F2 := []) ⟨rfl, rfl, h z (List.mem_cons_self ..)⟩ (ih fun y hy => h y (List.mem_cons_of_mem _ hy))
theorem flat_map (zs : List α) (f : α → Value) : (zs.map fun z => [f z]).flatten = zs.map f := by
  induction zs with
  | nil => rfl
  | cons z zs ih => simp [ih]
theorem row_base {e : TypeId} {k : Nat} {xs : List Value} (h : w.ownsRow lo e k (.slice A n c) n xs) (hA : ∀ a, A = some a → B ≤ a.block) : w.ownsRow B e k (.slice A n c) n xs := by
  refine ⟨h.1, ?_⟩
  rcases h.2 with hn | ⟨g, cap, cur, e1, h2, r⟩
  · exact .inl hn
  · refine .inr ⟨g, cap, cur, e1, ?_, r⟩
    injection e1 with e2 e3 e4
    exact hA _ e2
theorem OwnF.strs {zs : List ByteArray} (h : OwnF RS w F A n c zs) (hF : ∀ b, b ∈ F → lo ≤ b ∧ b < hi) : OwnS w lo hi A n c zs := by
  obtain ⟨raw, Fe, h1, rfl, h3, h4⟩ := h
  obtain ⟨rfl, h5, h6⟩ := els_leaf h4
  rw [h5] at h3
  exact ⟨h1, h6, row_base h3 fun a e => (hF a.block (by subst e; simp [blk])).1, fun a e => (hF a.block (by subst e; simp [blk])).2⟩
theorem OwnF.of_strs {zs : List ByteArray} (h : OwnS w lo hi A n c zs) : OwnF RS w (blk A) A n c zs := by
  refine ⟨zs.map fun z => [.string z], [], h.len, by simp, ?_, els_mk h.wf⟩
  rw [flat_map]
  exact row_base h.row fun a e => Nat.zero_le _
theorem OwnF.ints {zs : List Int} (h : OwnF RI w F A n c zs) (hF : ∀ b, b ∈ F → lo ≤ b ∧ b < hi) : Own .i64 w lo hi A n c zs := by
  obtain ⟨raw, Fe, h1, rfl, h3, h4⟩ := h
  obtain ⟨rfl, h5, h6⟩ := els_leaf h4
  rw [h5] at h3
  exact ⟨h1, h6, row_base h3 fun a e => (hF a.block (by subst e; simp [blk])).1, fun a e => (hF a.block (by subst e; simp [blk])).2⟩
theorem OwnF.of_ints {zs : List Int} (h : Own .i64 w lo hi A n c zs) : OwnF RI w (blk A) A n c zs := by
  refine ⟨zs.map fun z => [.int .i64 z], [], h.len, by simp, ?_, els_mk h.wf⟩
  rw [flat_map]
  exact row_base h.row fun a e => Nat.zero_le _
theorem OwnS.blk_in {zs : List ByteArray} (h : OwnS w lo hi A n c zs) : ∀ b, b ∈ blk A → lo ≤ b ∧ b < hi := by
  intro b hb
  cases A with
  | none => cases hb
  | some a =>
    have : b = a.block := by simpa [blk] using hb
    subst this
    exact ⟨h.ge a rfl, h.hi a rfl⟩
theorem Own.ge {k : IntKind} {zs : List Int} (h : Own k w lo hi A n c zs) : ∀ a, A = some a → lo ≤ a.block := fun a e => (h.row.lt a.block (by simp [Value.ownBlock, e])).1
theorem Own.blk_in {k : IntKind} {zs : List Int} (h : Own k w lo hi A n c zs) : ∀ b, b ∈ blk A → lo ≤ b ∧ b < hi := by
  intro b hb
  cases A with
  | none => cases hb
  | some a =>
    have : b = a.block := by simpa [blk] using hb
    subst this
    exact ⟨Own.ge h a rfl, h.hi a rfl⟩

/-- owned, in blocks lo .. hi, none of them twice -/
def OwnI {α : Type} (R : Rep α) (w : World) (lo hi : Nat) (cs : List Value) (a : α) : Prop := ∃ F, R.own w F cs a ∧ F.Nodup ∧ ∀ b, b ∈ F → lo ≤ b ∧ b < hi
structure Owns {α : Type} (R : Rep α) (w : World) (lo hi : Nat) (A : Option Addr) (n c : Nat) (zs : List α) : Prop where
  has : ∃ F, OwnF R w F A n c zs ∧ F.Nodup ∧ ∀ b, b ∈ F → lo ≤ b ∧ b < hi
variable {R : Rep α} {cs : List Value} {a : α} {zs : List α}
theorem OwnI.keep (h : OwnI R w lo hi cs a) (hk : ∀ i, i < w.heap.size → lo ≤ i → i < hi → w'.heap[i]? = w.heap[i]?) : OwnI R w' lo hi cs a := by
  obtain ⟨F, h1, h2, h3⟩ := h
  exact ⟨F, R.okeep h1 fun i hi hw => hk i hw (h3 i hi).1 (h3 i hi).2, h2, h3⟩
theorem OwnI.rd (h : OwnI R w lo hi cs a) : R.rd w (Lt hi) cs a := by
  obtain ⟨F, h1, h2, h3⟩ := h
  exact R.more (R.ord h1) fun b hb => (h3 b hb).2
theorem OwnI.wide {lo' hi' : Nat} (h : OwnI R w lo hi cs a) (h1 : lo' ≤ lo) (h2 : hi ≤ hi') : OwnI R w lo' hi' cs a := by
  obtain ⟨F, h4, h5, h3⟩ := h
  exact ⟨F, h4, h5, fun b hb => ⟨by have := (h3 b hb).1; omega, by have := (h3 b hb).2; omega⟩⟩
theorem OwnI.top (h : OwnI R w lo hi cs a) : OwnI R w lo w.heap.size cs a := by
  obtain ⟨F, h1, h2, h3⟩ := h
  exact ⟨F, h1, h2, fun b hb => ⟨(h3 b hb).1, R.olt h1 b hb⟩⟩
theorem OwnI.below (h : OwnI R w lo hi cs a) (hb : Below B w w') (hB : hi ≤ B) : OwnI R w' lo hi cs a := h.keep fun i _ _ h2 => hb.block i (by omega)
theorem OwnI.fr {lo' hi' : Nat} (h : OwnI R w lo hi cs a) (hf : Fr lo' hi' w w') (hd : hi ≤ lo' ∨ hi' ≤ lo) : OwnI R w' lo hi cs a := h.keep fun i h0 h1 h2 => hf.block i h0 (by omega)
theorem OwnI.alloc (h : OwnI R w lo hi cs a) (o : Obj) : OwnI R (w.alloc o) lo hi cs a := h.keep fun i h0 _ _ => Below.heap_alloc w o i h0
theorem OwnI.same (h : OwnI R w lo hi cs a) (hs : Same w w') : OwnI R w' lo hi cs a := h.keep fun i _ _ _ => by rw [hs.heap]
theorem OwnI.store (h : OwnI R w lo hi cs a) {p : Addr} (v : Value) (hp : p.block < lo ∨ hi ≤ p.block) : OwnI R (w.setCell p v) lo hi cs a := h.keep fun i _ _ _ => Below.heap_setCell w p v i (by omega)
theorem OwnS.store {zs : List ByteArray} (h : OwnS w lo hi A n c zs) {p : Addr} (v : Value) (hp : p.block < lo ∨ hi ≤ p.block) : OwnS (w.setCell p v) lo hi A n c zs := h.keep fun i _ _ _ => Below.heap_setCell w p v i (by omega)
theorem Own.store {k : IntKind} {zs : List Int} (h : Own k w lo hi A n c zs) {p : Addr} (v : Value) (hp : p.block < lo ∨ hi ≤ p.block) : Own k (w.setCell p v) lo hi A n c zs := h.keep fun i _ _ _ => Below.heap_setCell w p v i (by omega)
theorem Owns.keep (h : Owns R w lo hi A n c zs) (hk : ∀ i, i < w.heap.size → lo ≤ i → i < hi → w'.heap[i]? = w.heap[i]?) : Owns R w' lo hi A n c zs := by
  obtain ⟨F, h1, h2, h3⟩ := h.has
  exact ⟨F, h1.keep fun i hi hw => hk i hw (h3 i hi).1 (h3 i hi).2, h2, h3⟩
theorem Owns.rd (h : Owns R w lo hi A n c zs) : Rds R w (Lt hi) A n zs := by
  obtain ⟨F, h1, h2, h3⟩ := h.has
  exact h1.rd.mono fun b hb => (h3 b hb).2
theorem Owns.ge (h : Owns R w lo hi A n c zs) : ∀ a, A = some a → lo ≤ a.block := by
  intro a e
  obtain ⟨F, ⟨raw, Fe, h1, rfl, h3, h4⟩, _, hF⟩ := h.has
  subst e
  exact (hF a.block (by simp [blk])).1
theorem Owns.cap (h : Owns R w lo hi A n c zs) : n ≤ c ∧ c ≤ maxLen := by
  obtain ⟨F, h1, h2, h3⟩ := h.has
  exact h1.cap
theorem Owns.len (h : Owns R w lo hi A n c zs) : zs.length = n := by
  obtain ⟨F, h1, h2, h3⟩ := h.has
  exact h1.len
theorem Owns.top (h : Owns R w lo hi A n c zs) : Owns R w lo w.heap.size A n c zs := by
  obtain ⟨F, h1, h2, h3⟩ := h.has
  exact ⟨F, h1, h2, fun b hb => ⟨(h3 b hb).1, h1.olt b hb⟩⟩
theorem Owns.wide {lo' hi' : Nat} (h : Owns R w lo hi A n c zs) (h1 : lo' ≤ lo) (h2 : hi ≤ hi') : Owns R w lo' hi' A n c zs := by
  obtain ⟨F, h4, h5, h3⟩ := h.has
  exact ⟨F, h4, h5, fun b hb => ⟨by have := (h3 b hb).1; omega, by have := (h3 b hb).2; omega⟩⟩
theorem Owns.base {lo' : Nat} (h : Owns R w lo hi A n c zs) (h1 : lo' ≤ lo) : Owns R w lo' hi A n c zs := h.wide h1 (Nat.le_refl _)
theorem Owns.below (h : Owns R w lo hi A n c zs) (hb : Below B w w') (hB : hi ≤ B) : Owns R w' lo hi A n c zs := h.keep fun i _ _ h2 => hb.block i (by omega)
theorem Owns.fr {lo' hi' : Nat} (h : Owns R w lo hi A n c zs) (hf : Fr lo' hi' w w') (hd : hi ≤ lo' ∨ hi' ≤ lo) : Owns R w' lo hi A n c zs := h.keep fun i h0 h1 h2 => hf.block i h0 (by omega)
theorem Owns.alloc (h : Owns R w lo hi A n c zs) (o : Obj) : Owns R (w.alloc o) lo hi A n c zs := h.keep fun i h0 _ _ => Below.heap_alloc w o i h0
theorem Owns.same (h : Owns R w lo hi A n c zs) (hs : Same w w') : Owns R w' lo hi A n c zs := h.keep fun i _ _ _ => by rw [hs.heap]
theorem Owns.store (h : Owns R w lo hi A n c zs) {p : Addr} (v : Value) (hp : p.block < lo ∨ hi ≤ p.block) : Owns R (w.setCell p v) lo hi A n c zs := h.keep fun i _ _ _ => Below.heap_setCell w p v i (by omega)
theorem Owns.nil (R : Rep α) (w : World) (lo hi : Nat) : Owns R w lo hi none 0 0 [] := ⟨[], OwnF.nil R w, .nil, by simp⟩
theorem Owns.lit0 (R : Rep α) (w : World) (hl : lo ≤ w.heap.size) : Owns R (w.alloc (.cells #[] R.ty)) lo (w.heap.size + 1) (some ⟨w.heap.size, 0, none⟩) 0 0 [] :=
  ⟨[w.heap.size], ⟨[], [], rfl, rfl, World.ownsRow_made w #[] 0 (Nat.zero_le _) (by simp [maxLen]) (by simp), .nil⟩, by simp, by simp; omega⟩
end
/-- facts on old blocks behind a call's new ones -/
theorem Rds.below {α : Type} {R : Rep α} {w w' : World} {B B' : Nat} {A : Option Addr} {n : Nat} {zs : List α} (h : Rds R w (Lt B) A n zs) (hb : Below B' w w') (hB : B ≤ B') : Rds R w' (Lt B) A n zs := h.keep fun i hi => hb.block i (Nat.lt_of_lt_of_le hi hB)
theorem Rds.more {α : Type} {R : Rep α} {w : World} {B B' : Nat} {A : Option Addr} {n : Nat} {zs : List α} (h : Rds R w (Lt B) A n zs) (hB : B ≤ B') : Rds R w (Lt B') A n zs := h.mono fun i hi => Nat.lt_of_lt_of_le hi hB
theorem Rds.alloc {α : Type} {R : Rep α} {w : World} {B : Nat} {A : Option Addr} {n : Nat} {zs : List α} (h : Rds R w (Lt B) A n zs) (hB : B ≤ w.heap.size) (o : Obj) : Rds R (w.alloc o) (Lt B) A n zs := h.keep fun i hi => Below.heap_alloc w o i (Nat.lt_of_lt_of_le hi hB)
theorem Rds.fr {α : Type} {R : Rep α} {w w' : World} {B lo hi : Nat} {A : Option Addr} {n : Nat} {zs : List α} (h : Rds R w (Lt B) A n zs) (hf : Fr lo hi w w') (hB : B ≤ lo) (hs : B ≤ w.heap.size) : Rds R w' (Lt B) A n zs := h.keep fun i hi => hf.block i (Nat.lt_of_lt_of_le hi hs) (.inl (Nat.lt_of_lt_of_le hi hB))
theorem Rds.same {α : Type} {R : Rep α} {w w' : World} {P : Nat → Prop} {A : Option Addr} {n : Nat} {zs : List α} (h : Rds R w P A n zs) (hs : Same w w') : Rds R w' P A n zs := h.keep fun i _ => by rw [hs.heap]
theorem Rds.at {α : Type} [Inhabited α] {R : Rep α} {w : World} {P : Nat → Prop} {A : Option Addr} {n : Nat} {zs : List α} (h : Rds R w P A n zs) {i : Nat} (hi : i < n) :
    ∃ b off cs, A = some ⟨b, off, none⟩ ∧ P b ∧ R.rd w P cs (zs.getD i default) ∧ ∀ j, j < R.n → w.cell? ⟨b, off + (i * R.n + j), none⟩ = cs[j]? := by
  obtain ⟨b, off, rfl, hlt, hc⟩ := h.cells (by omega)
  have hl := h.len
  obtain ⟨cs, h1, h2⟩ := hc i (zs.getD i default) (by simp [List.getD, List.getElem?_eq_getElem (show i < zs.length by omega)])
  exact ⟨b, off, cs, rfl, hlt, h1, h2⟩
end Go.Proofs.YthhmhcmlbpdlbaaGreat.Rep
namespace Go.Proofs.YthhmhcmlbpdlbaaGreat.RepA
open Go.RowKit Mem MemS Rep
set_option linter.unusedVariables false
set_option maxRecDepth 100000
section
variable {α : Type} {R : Rep α} {w w' w'' : World} {F F' F1 F2 : List Nat} {raw raw2 : List (List Value)} {zs ys : List α} {P P' : Nat → Prop} {A A' A2 : Option Addr} {n c m c2 lo hi B : Nat} {st : TypeId}
/-- what the model knows of a type and of its slices -/
def Ti (R : Rep α) (st : TypeId) : Prop := Tryz.prog.underlying st = some (.slice R.ty) ∧ 0 < R.n ∧ ∃ i z, Tryz.prog.info? R.ty = some i ∧ i.zero = some z ∧ z.cells.size = R.n ∧ i.size = R.n ∧ i.bytes ≤ 1024
/-- a row of the call's own: raw cells -/
structure RowR (R : Rep α) (w : World) (A : Option Addr) (n c : Nat) (raw : List (List Value)) : Prop where
  len : raw.length = n
  clen : ∀ cs ∈ raw, cs.length = R.n
  row : w.ownsRow 0 R.ty R.n (.slice A n c) n raw.flatten
/-- raw cells that can be read -/
structure Src (R : Rep α) (w : World) (A : Option Addr) (n : Nat) (raw : List (List Value)) : Prop where
  len : raw.length = n
  clen : ∀ cs ∈ raw, cs.length = R.n
  one : ∀ cs ∈ raw, ∀ u ∈ cs, u.oneCell' = true
  cells : 0 < n → ∃ b off, A = some ⟨b, off, none⟩ ∧ ∀ (i : Nat) cs, raw[i]? = some cs → ∀ j, j < R.n → w.cell? ⟨b, off + (i * R.n + j), none⟩ = cs[j]?
theorem Src.keep (h : Src R w A n raw) (hk : ∀ a, A = some a → w'.heap[a.block]? = w.heap[a.block]?) : Src R w' A n raw :=
  ⟨h.len, h.clen, h.one, fun hn => by
    obtain ⟨b, off, e, hc⟩ := h.cells hn
    exact ⟨b, off, e, fun i cs hi j hj => (World.cell?_of_block (a := ⟨b, off + (i * R.n + j), none⟩) (by have := hk _ e; exact this)).trans (hc i cs hi j hj)⟩⟩
theorem Rds.src (h : Rds R w P A n zs) : ∃ raw, Src R w A n raw ∧ ∀ (i : Nat) z, zs[i]? = some z → ∃ cs, raw[i]? = some cs ∧ R.rd w P cs z := by
  rcases Nat.eq_zero_or_pos n with h0 | h0
  · subst h0
    refine ⟨[], ⟨rfl, by simp, by simp, fun h => absurd h (by omega)⟩, fun i z hz => ?_⟩
    rw [List.eq_nil_of_length_eq_zero h.len] at hz
    simp at hz
  · obtain ⟨b, off, rfl, hlt, hc⟩ := h.cells h0
    have hch : ∀ z : {i : Nat // i < zs.length}, ∃ cs, R.rd w P cs zs[z.1] ∧ ∀ j, j < R.n → w.cell? ⟨b, off + (z.1 * R.n + j), none⟩ = cs[j]? := fun z => hc z.1 _ (by simp)
    let g : Nat → List Value := fun i => if hi : i < zs.length then (hch ⟨i, hi⟩).choose else []
    have hg : ∀ i, (hi : i < zs.length) → R.rd w P (g i) zs[i] ∧ ∀ j, j < R.n → w.cell? ⟨b, off + (i * R.n + j), none⟩ = (g i)[j]? := fun i hi => by
      simp only [g, hi, dif_pos]
      exact (hch ⟨i, hi⟩).choose_spec
    have hget : ∀ i cs, ((List.range n).map g)[i]? = some cs → i < n ∧ cs = g i := fun i cs h => by
      have hi : i < n := by
        have := (List.getElem?_eq_some_iff.1 h).1
        simpa using this
      rw [List.getElem?_map, List.getElem?_range hi] at h
      simp at h
      exact ⟨hi, h.symm⟩
    have hl := h.len
    refine ⟨(List.range n).map g, ⟨by simp, fun cs hcs => ?_, fun cs hcs => ?_, fun _ => ⟨b, off, rfl, fun i cs hi => ?_⟩⟩, fun i z hz => ?_⟩
    · obtain ⟨i, hi⟩ := List.mem_iff_getElem?.1 hcs
      obtain ⟨hin, rfl⟩ := hget i cs hi
      exact R.len (hg i (by omega)).1
    · obtain ⟨i, hi⟩ := List.mem_iff_getElem?.1 hcs
      obtain ⟨hin, rfl⟩ := hget i cs hi
      exact R.one (hg i (by omega)).1
    · obtain ⟨hin, rfl⟩ := hget i cs hi
      exact (hg i (by omega)).2
    · obtain ⟨hi, rfl⟩ := List.getElem?_eq_some_iff.1 hz
      exact ⟨g i, by rw [List.getElem?_map, List.getElem?_range (by omega)]; rfl, (hg i hi).1⟩
theorem flat_inv {k : Nat} (hk : 0 < k) {raw : List (List Value)} (hl : ∀ cs ∈ raw, cs.length = k) {j : Nat} {u : Value} (h : raw.flatten[j]? = some u) : ∃ cs, raw[j / k]? = some cs ∧ cs[j % k]? = some u ∧ j = j / k * k + j % k := by
  have hj : j < raw.length * k := by
    have := (List.getElem?_eq_some_iff.1 h).1
    rwa [flat_len hl] at this
  have hd : j / k < raw.length := Nat.div_lt_of_lt_mul (by rwa [Nat.mul_comm] at hj)
  have hm : j % k < k := Nat.mod_lt _ hk
  have he : j = j / k * k + j % k := by
    have := Nat.div_add_mod j k
    rw [Nat.mul_comm] at this
    omega
  refine ⟨raw[j / k], List.getElem?_eq_getElem hd, ?_, he⟩
  have hf := flat_get hl (List.getElem?_eq_getElem hd) hm
  rw [← he, h] at hf
  exact hf.symm
/-- 'append(s, x...)' -/
theorem run_appR (ti : Ti R st) (h : RowR R w A n c raw) (hs : Src R w A2 m raw2) (hb : n + m ≤ 68719476736) (ty : TypeId) :
    ∃ A' c' w', (Builtin.append_ #[st, st] ty #[.slice A n c, .slice A2 m c2]).run Tryz.prog w = .ok (.slice A' (n + m) c') w' ∧ RowR R w' A' (n + m) c' (raw ++ raw2) ∧ Gr A w A' w' := by
  obtain ⟨hu, hk, i, z, h1, h2, h3, h4, h5⟩ := ti
  have hob : (Value.slice A n c).ownBlock = A.map (·.block) := by cases A <;> rfl
  rcases A2 with _ | ad
  · have hm : m = 0 := by
      rcases Nat.eq_zero_or_pos m with h0 | h0
      · exact h0
      · obtain ⟨_, _, e, _⟩ := hs.cells h0
        cases e
    subst hm
    have hy : raw2 = [] := List.eq_nil_of_length_eq_zero hs.len
    subst hy
    refine ⟨A, c, w, ?_, by simpa using h, Gr.refl _ _⟩
    rcases h.row.2 with ⟨h6, h7⟩ | ⟨g, cap, cur, h6, _, _, h7, _⟩
    · injection h6 with e1 e2 e3
      subst e1 e2 e3
      simp [Builtin.append_, run_underlying hu, sizeOf, typeInfo, h1, Builtin.lenOf, Builtin.firstCells]
    · injection h6 with e1 e2 e3
      subst e1 e3
      simp [Builtin.append_, run_underlying hu, sizeOf, typeInfo, h1, Builtin.lenOf, Builtin.firstCells, h7, storeCells]
  · have hcells : ∀ j u, raw2.flatten[j]? = some u → w.cell? (ad.add j) = some u := fun j u hj => by
      obtain ⟨cs, hc1, hc2, he⟩ := flat_inv hk hs.clen hj
      have hlt : j / R.n < raw2.length := (List.getElem?_eq_some_iff.1 hc1).1
      obtain ⟨b, off, e, hc⟩ := hs.cells (hs.len ▸ Nat.lt_of_le_of_lt (Nat.zero_le _) hlt)
      injection e with e
      subst e
      rw [add_none, he, hc _ _ hc1 _ (Nat.mod_lt _ hk), hc2]
    have hbb : (n + m) * i.bytes ≤ (n + m) * 1024 := Nat.mul_le_mul_left _ h5
    obtain ⟨v', w', hrun, hown, hg, hnil, hat⟩ := run_append_own_at (P := Tryz.prog) w 0 st ty R.ty i z R.n i.bytes hu h1 h2 h4 rfl h3 hk (.slice A n c) n _ h.row ad m c2 raw2.flatten (by rw [flat_len hs.clen, hs.len]) hcells
      (by intro u hu; obtain ⟨cs, h8, h9⟩ := List.mem_flatten.1 hu; exact hs.one cs h8 u h9) (by simp only [maxLen]; omega) (by omega) (Nat.zero_le _)
    rw [hob] at hg hat
    have hv : ∃ A' c', v' = .slice A' (n + m) c' := by
      rcases hown.2 with ⟨h6, h7⟩ | ⟨g, cap, cur, h6, _⟩
      · exact ⟨none, 0, by rw [h6, h7]⟩
      · exact ⟨_, _, h6⟩
    obtain ⟨A', c', rfl⟩ := hv
    refine ⟨A', c', w', hrun, ⟨by rw [List.length_append, h.len, hs.len], fun cs hcs => ?_, by simpa using hown⟩, hg, fun a e => ?_⟩
    · rcases List.mem_append.1 hcs with hcs | hcs
      · exact h.clen cs hcs
      · exact hs.clen cs hcs
    · subst e
      rcases hat with hat | hat
      · exact .inl (by rw [← hat]; rfl)
      · have : a.block = w.heap.size := by simpa [Value.ownBlock] using hat
        exact .inr (by omega)
theorem wp_appR {ops : Array Oper} {rest : List Oper} {o : Oper} {a : Act} {Q : Exit → Act → World → Prop} (ti : Ti R st) (hgd : Region.wanted o (yielded ops a.tmps) = true) (s x : Operand)
    (ho : o.op = .call { callee := .builtin .append, args := #[s, x], argTypes := #[st, st] })
    (hs : a.eval s = .slice A n c) (h : RowR R w A n c raw) (hx : a.eval x = .slice A2 m c2) (hr : Src R w A2 m raw2) (hb : n + m ≤ 68719476736)
    (hK : ∀ A' c' w', RowR R w' A' (n + m) c' (raw ++ raw2) → Gr A w A' w' → wpList Tryz.prog ops Q rest (a.put o.dst (.slice A' (n + m) c')) w') :
    wpList Tryz.prog ops Q (o :: rest) a w := by
  refine wpList_step fun K hK' => ?_
  rw [if_pos hgd]
  obtain ⟨A', c', w', hrun, h1, h2⟩ := run_appR ti h hr hb o.type (c2 := c2)
  unfold Oper.wp execOp
  simp only [ho, resolve, invoke, builtin, Sem.run_bind, Sem.run_pure, Result.andThen_ok, List.map_toArray, List.map_cons, List.map_nil, hs, hx, hrun]
  exact hK' _ _ (hK _ _ _ h1 h2)
theorem step_appR {ops : Array Oper} {o : Oper} {a : Act} {K : Act → World → Prop} {Q : Exit → Act → World → Prop} {E : Prop} (ti : Ti R st) (hgd : Region.wanted o (yielded ops a.tmps) = true) (s x : Operand)
    (ho : o.op = .call { callee := .builtin .append, args := #[s, x], argTypes := #[st, st] })
    (hs : a.eval s = .slice A n c) (h : RowR R w A n c raw) (hx : a.eval x = .slice A2 m c2) (hr : Src R w A2 m raw2) (hb : n + m ≤ 68719476736)
    (hK : ∀ A' c' w', RowR R w' A' (n + m) c' (raw ++ raw2) → Gr A w A' w' → K (a.put o.dst (.slice A' (n + m) c')) w') :
    if Region.wanted o (yielded ops a.tmps) = true then Oper.wp Tryz.prog o a w K Q else E := by
  rw [if_pos hgd]
  obtain ⟨A', c', w', hrun, h1, h2⟩ := run_appR ti h hr hb o.type (c2 := c2)
  unfold Oper.wp execOp
  simp only [ho, resolve, invoke, builtin, Sem.run_bind, Sem.run_pure, Result.andThen_ok, List.map_toArray, List.map_cons, List.map_nil, hs, hx, hrun]
  exact hK _ _ _ h1 h2
theorem src_new (w : World) {cs : List Value} (hl : cs.length = R.n) (h1 : ∀ u ∈ cs, u.oneCell' = true) (ty : TypeId) : Src R (w.alloc (.cells cs.toArray ty)) (some ⟨w.heap.size, 0, none⟩) 1 [cs] :=
  ⟨rfl, by simpa using hl, by simpa using h1, fun _ => ⟨_, _, rfl, fun i cs' hi j hj => by
    cases i with
    | zero =>
      simp at hi
      subst hi
      rw [World.cell?_alloc_at _ _ _ _ rfl]
      simp
    | succ i => simp at hi⟩⟩
/-- what lies in the blocks F is as it was behind an append onto A -/
theorem Gr.kept (h : Gr A w A' w') {i : Nat} (hi : i < w.heap.size) (hA : ∀ a, A = some a → a.block ≠ i) : w'.heap[i]? = w.heap[i]? :=
  h.1.block i hi fun e => by
    cases A with
    | none => cases e
    | some a =>
      injection e with e
      exact hA a rfl e.symm
theorem blk_new (h : Gr A w A' w') : ∀ b, b ∈ blk A' → b ∈ blk A ∨ w.heap.size ≤ b := by
  intro b hb
  cases A' with
  | none => cases hb
  | some a =>
    have e : b = a.block := by simpa [blk] using hb
    subst e
    rcases h.2 a rfl with h | h
    · cases A with
      | none => cases h
      | some a0 =>
        injection h with h
        exact .inl (by simp [blk, h])
    · exact .inr h
/-- 'append(s, x)': x was laid in a block of its own; s and x are the call's own, apart from each other -/
theorem wp_pushR {ops : Array Oper} {rest : List Oper} {o : Oper} {a : Act} {Q : Exit → Act → World → Prop} (R : Rep α) (ti : Ti R st) (hgd : Region.wanted o (yielded ops a.tmps) = true) (s x : Operand)
    (ho : o.op = .call { callee := .builtin .append, args := #[s, x], argTypes := #[st, st] }) {cs : List Value} {z : α} {mid : Nat}
    (hs : a.eval s = .slice A n c) (h : Owns R w lo mid A n c zs) (hx : a.eval x = .slice (some ⟨w.heap.size, 0, none⟩) 1 1) (hz : OwnI R w mid hi cs z) (hb : n + 1 ≤ 68719476736) (hlo : lo ≤ mid) (hw : lo ≤ w.heap.size)
    (hK : ∀ A' c' w', Owns R w' lo w'.heap.size A' (n + 1) c' (zs ++ [z]) → Gr A w A' w' → wpList Tryz.prog ops Q rest (a.put o.dst (.slice A' (n + 1) c')) w') :
    wpList Tryz.prog ops Q (o :: rest) a (w.alloc (.cells cs.toArray R.ty)) := by
  obtain ⟨F, ⟨raw, Fe, h1, rfl, h3, h4⟩, hnd, hF⟩ := h.has
  obtain ⟨Fx, hx1, hx2, hx3⟩ := hz
  have hcl := R.len (R.ord hx1)
  have hr : RowR R (w.alloc (.cells cs.toArray R.ty)) A n c raw := ⟨by rw [h4.len, h1], h4.clen, h3.alloc _⟩
  refine wp_appR ti hgd s x ho hs hr hx (src_new w hcl (R.one (R.ord hx1)) R.ty) hb fun A' c' w' h5 h6 => hK A' c' w' ?_ ⟨?_, fun a e => ?_⟩
  · have hkept : ∀ i, i < w.heap.size → i ∉ blk A → w'.heap[i]? = w.heap[i]? := fun i hi hn => by
      rw [Gr.kept h6 (by simp; omega) fun a e hne => hn (by subst e; simp [blk, hne])]
      exact Below.heap_alloc w _ i hi
    have hne : ∀ i, i ∈ Fe → i ∉ blk A := fun i hi hA => by
      have := (List.nodup_append.1 hnd).2.2 i hA i hi
      exact this rfl
    have hnx : ∀ i, i ∈ Fx → i ∉ blk A := fun i hi hA => by
      have h7 := (hF i (List.mem_append_left _ hA)).2
      have h8 := (hx3 i hi).1
      omega
    have e1 : Els R w' Fe raw zs := h4.keep fun i hi hw => hkept i hw (hne i hi)
    have e2 : Els R w' (Fx ++ []) [cs] [z] := .cons (R.okeep hx1 fun i hi hw => hkept i hw (hnx i hi)) .nil
    rw [List.append_nil] at e2
    have hsz : (w.alloc (.cells cs.toArray R.ty)).heap.size ≤ w'.heap.size := h6.1.size
    have hsz' : w.heap.size + 1 ≤ w'.heap.size := by simpa using hsz
    have hblk : ∀ b, b ∈ blk A' → b ∈ blk A ∨ w.heap.size < b := fun b hb => by
      rcases blk_new h6 b hb with h | h
      · exact .inl h
      · exact .inr (by simp at h; omega)
    have hltA : ∀ b, b ∈ blk A' → b < w'.heap.size := fun b hb => by
      cases A' with
      | none => cases hb
      | some a =>
        have e : b = a.block := by simpa [blk] using hb
        subst e
        exact (h5.row.lt a.block (by simp [Value.ownBlock])).2
    have hltF : ∀ i, i ∈ Fe → i < w.heap.size := h4.olt
    have hltX : ∀ i, i ∈ Fx → i < w.heap.size := R.olt hx1
    refine ⟨blk A' ++ (Fe ++ Fx), ⟨raw ++ [cs], Fe ++ Fx, by simp [h1], rfl, h5.row, e1.append e2⟩, ?_, fun b hb => ?_⟩
    · have n1 := List.nodup_append.1 hnd
      refine List.nodup_append.2 ⟨?_, List.nodup_append.2 ⟨n1.2.1, hx2, fun i hi j hj e => ?_⟩, fun i hi j hj e => ?_⟩
      · cases A' <;> simp [blk]
      · subst e
        have h7 := (hF i (List.mem_append_right _ hi)).2
        have h8 := (hx3 i hj).1
        omega
      · subst e
        rcases hblk i hi with h | h
        · rcases List.mem_append.1 hj with hj | hj
          · exact hne i hj h
          · exact hnx i hj h
        · rcases List.mem_append.1 hj with hj | hj
          · have := hltF i hj
            omega
          · have := hltX i hj
            omega
    · rcases List.mem_append.1 hb with hb | hb
      · refine ⟨?_, hltA b hb⟩
        rcases hblk b hb with h | h
        · exact (hF b (List.mem_append_left _ h)).1
        · omega
      · rcases List.mem_append.1 hb with hb | hb
        · exact ⟨(hF b (List.mem_append_right _ hb)).1, by have := hltF b hb; omega⟩
        · exact ⟨by have := (hx3 b hb).1; omega, by have := hltX b hb; omega⟩
  · exact (World.grownBy_alloc w _ _).trans h6.1
  · rcases h6.2 a e with h | h
    · exact .inl h
    · exact .inr (by simp at h; omega)
/-- the same, in a region that draws its order -/
theorem step_pushR {ops : Array Oper} {o : Oper} {a : Act} {K : Act → World → Prop} {Q : Exit → Act → World → Prop} {E : Prop} (R : Rep α) (ti : Ti R st) (hgd : Region.wanted o (yielded ops a.tmps) = true) (s x : Operand)
    (ho : o.op = .call { callee := .builtin .append, args := #[s, x], argTypes := #[st, st] }) {cs : List Value} {z : α} {mid : Nat}
    (hs : a.eval s = .slice A n c) (h : Owns R w lo mid A n c zs) (hx : a.eval x = .slice (some ⟨w.heap.size, 0, none⟩) 1 1) (hz : OwnI R w mid hi cs z) (hb : n + 1 ≤ 68719476736) (hlo : lo ≤ mid) (hw : lo ≤ w.heap.size)
    (hK : ∀ A' c' w', Owns R w' lo w'.heap.size A' (n + 1) c' (zs ++ [z]) → Gr A w A' w' → K (a.put o.dst (.slice A' (n + 1) c')) w') :
    if Region.wanted o (yielded ops a.tmps) = true then Oper.wp Tryz.prog o a (w.alloc (.cells cs.toArray R.ty)) K Q else E := by
  obtain ⟨F, ⟨raw, Fe, h1, rfl, h3, h4⟩, hnd, hF⟩ := h.has
  obtain ⟨Fx, hx1, hx2, hx3⟩ := hz
  have hcl := R.len (R.ord hx1)
  have hr : RowR R (w.alloc (.cells cs.toArray R.ty)) A n c raw := ⟨by rw [h4.len, h1], h4.clen, h3.alloc _⟩
  refine step_appR ti hgd s x ho hs hr hx (src_new w hcl (R.one (R.ord hx1)) R.ty) hb fun A' c' w' h5 h6 => hK A' c' w' ?_ ⟨?_, fun a e => ?_⟩
  · have hkept : ∀ i, i < w.heap.size → i ∉ blk A → w'.heap[i]? = w.heap[i]? := fun i hi hn => by
      rw [Gr.kept h6 (by simp; omega) fun a e hne => hn (by subst e; simp [blk, hne])]
      exact Below.heap_alloc w _ i hi
    have hne : ∀ i, i ∈ Fe → i ∉ blk A := fun i hi hA => by
      have := (List.nodup_append.1 hnd).2.2 i hA i hi
      exact this rfl
    have hnx : ∀ i, i ∈ Fx → i ∉ blk A := fun i hi hA => by
      have h7 := (hF i (List.mem_append_left _ hA)).2
      have h8 := (hx3 i hi).1
      omega
    have e1 : Els R w' Fe raw zs := h4.keep fun i hi hw => hkept i hw (hne i hi)
    have e2 : Els R w' (Fx ++ []) [cs] [z] := .cons (R.okeep hx1 fun i hi hw => hkept i hw (hnx i hi)) .nil
    rw [List.append_nil] at e2
    have hsz : (w.alloc (.cells cs.toArray R.ty)).heap.size ≤ w'.heap.size := h6.1.size
    have hsz' : w.heap.size + 1 ≤ w'.heap.size := by simpa using hsz
    have hblk : ∀ b, b ∈ blk A' → b ∈ blk A ∨ w.heap.size < b := fun b hb => by
      rcases blk_new h6 b hb with h | h
      · exact .inl h
      · exact .inr (by simp at h; omega)
    have hltA : ∀ b, b ∈ blk A' → b < w'.heap.size := fun b hb => by
      cases A' with
      | none => cases hb
      | some a =>
        have e : b = a.block := by simpa [blk] using hb
        subst e
        exact (h5.row.lt a.block (by simp [Value.ownBlock])).2
    have hltF : ∀ i, i ∈ Fe → i < w.heap.size := h4.olt
    have hltX : ∀ i, i ∈ Fx → i < w.heap.size := R.olt hx1
    refine ⟨blk A' ++ (Fe ++ Fx), ⟨raw ++ [cs], Fe ++ Fx, by simp [h1], rfl, h5.row, e1.append e2⟩, ?_, fun b hb => ?_⟩
    · have n1 := List.nodup_append.1 hnd
      refine List.nodup_append.2 ⟨?_, List.nodup_append.2 ⟨n1.2.1, hx2, fun i hi j hj e => ?_⟩, fun i hi j hj e => ?_⟩
      · cases A' <;> simp [blk]
      · subst e
        have h7 := (hF i (List.mem_append_right _ hi)).2
        have h8 := (hx3 i hj).1
        omega
      · subst e
        rcases hblk i hi with h | h
        · rcases List.mem_append.1 hj with hj | hj
          · exact hne i hj h
          · exact hnx i hj h
        · rcases List.mem_append.1 hj with hj | hj
          · have := hltF i hj
            omega
          · have := hltX i hj
            omega
    · rcases List.mem_append.1 hb with hb | hb
      · refine ⟨?_, hltA b hb⟩
        rcases hblk b hb with h | h
        · exact (hF b (List.mem_append_left _ h)).1
        · omega
      · rcases List.mem_append.1 hb with hb | hb
        · exact ⟨(hF b (List.mem_append_right _ hb)).1, by have := hltF b hb; omega⟩
        · exact ⟨by have := (hx3 b hb).1; omega, by have := hltX b hb; omega⟩
  · exact (World.grownBy_alloc w _ _).trans h6.1
  · rcases h6.2 a e with h | h
    · exact .inl h
    · exact .inr (by simp at h; omega)
end
end Go.Proofs.YthhmhcmlbpdlbaaGreat.RepA
namespace Go.Proofs.YthhmhcmlbpdlbaaGreat.Opn
open Go.RowKit Go.ChangeShapes Go.WideShapes Go.Deep Mem MemS Rep
set_option linter.unusedVariables false
set_option maxRecDepth 100000
def Opens {α : Type} (R : Rep α) (t : TypeId) : Prop :=
  ∀ (H : Type) (enc : TypeId × Value → H) (W : World) (base : Nat) (spare : Nat → Bool) (held : Bool) (fuel : Nat) (cs : List Value) (x : DataW H × List MemPlace),
    DataW.trod enc Tryz.prog W base spare held fuel t cs = some x → ∃ a : α, R.rd W (Lt W.heap.size) cs a
theorem opens_int {t : TypeId} (ht : Tryz.prog.underlying t = some (.int .i64)) : Opens RI t := by
  intro H enc W base spare held fuel cs x h
  obtain ⟨n, rfl, _, hw⟩ := DataW.trod_int ht h
  exact ⟨n, rfl, by simpa [Lit.wf, In] using hw⟩
theorem opens_str {t : TypeId} (ht : Tryz.prog.underlying t = some .string) : Opens RS t := by
  intro H enc W base spare held fuel cs x h
  obtain ⟨s, rfl, _, hw⟩ := DataW.trod_string ht h
  exact ⟨s, rfl, hw⟩
theorem opens_bool {t : TypeId} (ht : Tryz.prog.underlying t = some .bool) : Opens RBo t := by
  intro H enc W base spare held fuel cs x h
  obtain ⟨b, rfl, _⟩ := DataW.trod_bool ht h
  exact ⟨b, rfl, trivial⟩
theorem opens_slice {α : Type} {R : Rep α} {t e ty : TypeId} (ht : Tryz.prog.underlying t = some (.slice e)) (hn : Tryz.prog.cellsOf e = R.n) (hp : 0 < R.n) (hR : Opens R e) : Opens (slice ty R) t := by
  intro H enc W base spare held fuel cs x h
  rcases open_slice ht h with ⟨rfl, _⟩ | ⟨a, len, cap, m, n, D, Pl, rfl, hb, hl, hm, hmm, hx, hi⟩
  · exact ⟨[], none, 0, 0, rfl, Nat.le_refl _, by simp [maxLen], Rds.nil _ _ _ _⟩
  · have hlm : len ≤ m := by
      rw [hmm]
      split <;> omega
    have hch : ∀ i : Fin len, ∃ (z : α) (cs : List Value), R.rd W (Lt W.heap.size) cs z ∧ ∀ j, j < R.n → W.cell? (a.add (i.1 * R.n + j)) = cs[j]? := fun i => by
      obtain ⟨cs', h1, h2⟩ := hi i.1 (by have := i.2; omega)
      obtain ⟨z, hz⟩ := hR _ _ _ _ _ _ _ _ _ h2
      obtain ⟨_, hcl, hat⟩ := World.cells?_some h1
      refine ⟨z, cs', hz, fun j hj => ?_⟩
      rw [hn] at hat
      have := hat j hj
      rwa [Go.Deep.add_add] at this
    refine ⟨List.ofFn fun i => (hch i).choose, some a, len, cap, rfl, hl, hm, ⟨by simp, fun h0 => ?_⟩⟩
    have hcell : ∀ (i : Nat) (hi : i < len), ∃ cs, R.rd W (Lt W.heap.size) cs (hch ⟨i, hi⟩).choose ∧ ∀ j, j < R.n → W.cell? (a.add (i * R.n + j)) = cs[j]? := fun i hi => (hch ⟨i, hi⟩).choose_spec
    obtain ⟨cs0, r0, c0⟩ := hcell 0 h0
    have hl0 := R.len r0
    have hc0 := c0 0 hp
    have hcs : cs0[0]? = some (cs0[0]'(by omega)) := List.getElem?_eq_getElem (by omega)
    rw [hcs] at hc0
    obtain ⟨b, off, spot⟩ := a
    have hspot : spot = none := by
      have := World.cell?_spot hc0
      simpa [Addr.add] using this
    subst hspot
    refine ⟨b, off, rfl, ?_, fun i z hz => ?_⟩
    · have := World.block_lt_of_cell? W _ hc0
      simpa [add_none] using this
    · have hi' : i < len := by
        have := (List.getElem?_eq_some_iff.1 hz).1
        simpa using this
      rw [List.getElem?_ofFn, dif_pos hi'] at hz
      injection hz with hz
      subst hz
      obtain ⟨cs, h1, h2⟩ := hcell i hi'
      refine ⟨cs, h1, fun j hj => ?_⟩
      have := h2 j hj
      rwa [add_none] at this
end Go.Proofs.YthhmhcmlbpdlbaaGreat.Opn
