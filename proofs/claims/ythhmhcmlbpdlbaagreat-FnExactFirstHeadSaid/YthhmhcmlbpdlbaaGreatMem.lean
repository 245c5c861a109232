/- What a walk is told of a slice of integers that came in. Words for slices of numbers that a call makes, writes and reads: 'Rd' (it reads as these numbers), 'Own' (and the call owns it), 'Gr' (an append's frame), 'Fr' (a write's frame). The words of Mem for slices of strings: 'RdS', 'OwnS'. -/
import Derived.Test.YthhmhcmlbpdlbaaGreatChecked
import Derived.WalkKit
import Derived.Below
import Derived.Laws.OwnMore
import Derived.Maps.AppendAt
import Derived.OwnWalk
namespace Go.Proofs.YthhmhcmlbpdlbaaGreat.SL
open Go.RowKit
/-- It is nil; or it leads to a row of 'cap' cells, the numbers 'zs' (the first 'len' are its elements, the rest its spare room), each fitting its kind. -/
def IsRow (k : IntKind) (w : World) (a : Option Addr) (len cap : Nat) (zs : List Int) : Prop :=
  (a = none ∧ len = 0 ∧ cap = 0 ∧ zs = []) ∨
  ∃ x, a = some x ∧ len ≤ cap ∧ cap ≤ maxLen ∧ zs.length = cap ∧ (∀ i, i < zs.length → w.cell? (x.add i) = some (.int k (zs.getD i 0))) ∧ ∀ n ∈ zs, (Lit.int k n).wf = true
/-- The first n cells from A on are bytes, below block B. -/
def BRow (w : World) (B : Nat) (A : Option Addr) (n : Nat) : Prop :=
  0 < n → ∃ b off, A = some ⟨b, off, none⟩ ∧ b < B ∧ ∀ j, j < n → ∃ x : Int, 0 ≤ x ∧ x ≤ 255 ∧ w.cell? ⟨b, off + j, none⟩ = some (.int .u8 x)
theorem BRow.below {w w' : World} {B : Nat} {A : Option Addr} {n : Nat} (h : BRow w B A n) (hb : Below B w w') : BRow w' B A n := fun hn => by
  obtain ⟨b, off, e, hlt, hc⟩ := h hn
  exact ⟨b, off, e, hlt, fun j hj => by
    obtain ⟨x, h1, h2, h3⟩ := hc j hj
    exact ⟨x, h1, h2, (hb.cell (p := ⟨b, off + j, none⟩) hlt).trans h3⟩⟩
theorem BRow.more {w : World} {B B' : Nat} {A : Option Addr} {n : Nat} (h : BRow w B A n) (hB : B ≤ B') : BRow w B' A n := fun hn => by
  obtain ⟨b, off, e, hlt, hc⟩ := h hn
  exact ⟨b, off, e, by omega, hc⟩
theorem IsRow.len_le {k : IntKind} {w : World} {a : Option Addr} {len cap : Nat} {zs : List Int} (h : IsRow k w a len cap zs) : len ≤ maxLen := by
  rcases h with ⟨_, h, _⟩ | ⟨x, _, h1, h2, _⟩
  · omega
  · omega
theorem cell_lt {w : World} {p : Addr} {v : Value} (h : w.cell? p = some v) : p.block < w.heap.size := by
  rcases Nat.lt_or_ge p.block w.heap.size with hl | hl
  · exact hl
  · unfold World.cell? at h
    rw [Array.getElem?_eq_none hl] at h
    simp at h
theorem IsRow.brow {w : World} {a : Option Addr} {len cap : Nat} {zs : List Int} (h : IsRow .u8 w a len cap zs) : BRow w w.heap.size a len := fun hn => by
  rcases h with ⟨_, h, _⟩ | ⟨x, rfl, h1, h2, h3, hc, hw⟩
  · omega
  · obtain ⟨b, off, spot⟩ := x
    have h0 := hc 0 (by omega)
    have hspot : spot = none := by simpa [Addr.add] using World.cell?_spot h0
    subst hspot
    have hb : b < w.heap.size := by simpa [Addr.add] using cell_lt h0
    refine ⟨b, off, rfl, hb, fun j hj => ?_⟩
    have h4 := hc j (by omega)
    have h5 : (⟨b, off, none⟩ : Addr).add j = ⟨b, off + j, none⟩ := by unfold Addr.add; split <;> simp_all
    rw [h5] at h4
    have hjl : j < zs.length := by omega
    have hmem : zs.getD j 0 ∈ zs := by
      simp [List.getD, List.getElem?_eq_getElem hjl]
    have h6 := hw (zs.getD j 0) hmem
    have e1 : IntKind.u8.min = 0 := rfl
    have e2 : IntKind.u8.max = 255 := rfl
    simp [Lit.wf, e1, e2] at h6
    exact ⟨zs.getD j 0, by simpa using h6.1, by simpa using h6.2, h4⟩
end Go.Proofs.YthhmhcmlbpdlbaaGreat.SL
namespace Go.Proofs.YthhmhcmlbpdlbaaGreat.Mem
open Go.RowKit
set_option linter.unusedVariables false
set_option maxRecDepth 100000
/-- the element type and the slice type of a kind -/
def ety : IntKind → TypeId | .u8 => 5 | _ => 3
def sty : IntKind → TypeId | .u8 => 22 | _ => 24
def In (k : IntKind) (z : Int) : Prop := k.min ≤ z ∧ z ≤ k.max
def BI (k : IntKind) : Prop := (k = .u8 ∧ True) ∨ (k = .i64 ∧ True)
theorem info_u8 : (Tryz.prog.info? 5).map (fun i => (i.zero, i.size, i.bytes)) = some (some (.int .u8 0), 1, 1) := by kernel_rfl
theorem info_int : (Tryz.prog.info? 3).map (fun i => (i.zero, i.size, i.bytes)) = some (some (.int .i64 0), 1, 8) := by kernel_rfl
theorem under_u8 : Tryz.prog.underlying 22 = some (.slice 5) := by kernel_rfl
theorem under_int : Tryz.prog.underlying 24 = some (.slice 3) := by kernel_rfl
theorem info_of {k : IntKind} (hk : BI k) : ∃ i, Tryz.prog.info? (ety k) = some i ∧ i.zero = some (.int k 0) ∧ i.size = 1 ∧ i.bytes ≤ 8 := by
  rcases hk with ⟨rfl, hT⟩ | ⟨rfl, hT⟩
  · obtain ⟨i, h1, h2, h3, h4⟩ := info_parts info_u8
    exact ⟨i, h1, h2, h3, by omega⟩
  · obtain ⟨i, h1, h2, h3, h4⟩ := info_parts info_int
    exact ⟨i, h1, h2, h3, by omega⟩
theorem under_of {k : IntKind} (hk : BI k) : Tryz.prog.underlying (sty k) = some (.slice (ety k)) := by
  rcases hk with ⟨rfl, hT⟩ | ⟨rfl, hT⟩
  · exact under_u8
  · exact under_int

/-- n numbers of kind k lie from A on, below block B -/
structure Rd (k : IntKind) (w : World) (B : Nat) (A : Option Addr) (n : Nat) (zs : List Int) : Prop where
  len : zs.length = n
  wf : ∀ z ∈ zs, In k z
  cells : 0 < n → ∃ b off, A = some ⟨b, off, none⟩ ∧ b < B ∧ ∀ j, j < n → w.cell? ⟨b, off + j, none⟩ = some (.int k (zs.getD j 0))
/-- the call made it: from block lo on, before block hi -/
structure Own (k : IntKind) (w : World) (lo hi : Nat) (A : Option Addr) (n c : Nat) (zs : List Int) : Prop where
  len : zs.length = n
  wf : ∀ z ∈ zs, In k z
  row : w.ownsRow lo (ety k) 1 (.slice A n c) n (zs.map (Value.int k))
  hi : ∀ a, A = some a → a.block < hi
/-- blocks outside of lo .. hi are kept -/
structure Fr (lo hi : Nat) (w w' : World) : Prop where
  os : w'.os = w.os
  tape : w'.tape = w.tape
  output : w'.output = w.output
  size : w.heap.size ≤ w'.heap.size
  block : ∀ k, k < w.heap.size → (k < lo ∨ hi ≤ k) → w'.heap[k]? = w.heap[k]?
/-- only draws lie between -/
structure Same (w w' : World) : Prop where
  os : w'.os = w.os
  tape : w'.tape = w.tape
  output : w'.output = w.output
  heap : w'.heap = w.heap
/-- an append onto A that gave A' -/
def Gr (A : Option Addr) (w : World) (A' : Option Addr) (w' : World) : Prop :=
  w.grownBy w' (A.map (·.block)) ∧ ∀ a, A' = some a → A.map (·.block) = some a.block ∨ w.heap.size ≤ a.block

theorem add_none (b off j : Nat) : (⟨b, off, none⟩ : Addr).add j = ⟨b, off + j, none⟩ := by unfold Addr.add; split <;> simp_all
theorem getD_in {k : IntKind} {zs : List Int} (h : ∀ z ∈ zs, In k z) {j : Nat} (hj : j < zs.length) : In k (zs.getD j 0) := by
  refine h _ ?_
  simp [List.getD, List.getElem?_eq_getElem hj]

section
variable {k : IntKind} {w w' w'' : World} {B B' lo hi n c m : Nat} {A A' A'' : Option Addr} {zs ys : List Int}
theorem Rd.keep (h : Rd k w B A n zs) (hk : ∀ i, i < B → w'.heap[i]? = w.heap[i]?) : Rd k w' B A n zs :=
  ⟨h.len, h.wf, fun hn => by
    obtain ⟨b, off, e, hlt, hc⟩ := h.cells hn
    exact ⟨b, off, e, hlt, fun j hj => (World.cell?_of_block (a := ⟨b, off + j, none⟩) (hk b hlt)).trans (hc j hj)⟩⟩
theorem Rd.below (h : Rd k w B A n zs) (hb : Below B' w w') (hB : B ≤ B') : Rd k w' B A n zs := h.keep fun i hi => hb.block i (by omega)
theorem Rd.more (h : Rd k w B A n zs) (hB : B ≤ B') : Rd k w B' A n zs :=
  ⟨h.len, h.wf, fun hn => by
    obtain ⟨b, off, e, hlt, hc⟩ := h.cells hn
    exact ⟨b, off, e, by omega, hc⟩⟩
theorem Rd.nil (k : IntKind) (w : World) (B : Nat) (A : Option Addr) : Rd k w B A 0 [] := ⟨rfl, by simp, fun h => absurd h (by omega)⟩
theorem Rd.alloc (h : Rd k w B A n zs) (hB : B ≤ w.heap.size) (o : Obj) : Rd k (w.alloc o) B A n zs := h.keep fun i hi => Below.heap_alloc w o i (by omega)
theorem Rd.fr (h : Rd k w B A n zs) (hf : Fr lo hi w w') (hB : B ≤ lo) (hs : B ≤ w.heap.size) : Rd k w' B A n zs := h.keep fun i hi => hf.block i (by omega) (.inl (by omega))
/-- a part of it -/
theorem Rd.part {b off : Nat} {i j : Nat} (h : Rd k w B (some ⟨b, off, none⟩) n zs) (hij : i ≤ j) (hj : j ≤ n) (hlt : i < j) : Rd k w B (some ⟨b, off + i, none⟩) (j - i) ((zs.take j).drop i) := by
  refine ⟨by simp [h.len]; omega, fun z hz => h.wf z (List.mem_of_mem_take (List.mem_of_mem_drop hz)), fun hn => ?_⟩
  obtain ⟨b', off', e, hlt, hc⟩ := h.cells (by omega)
  injection e with e
  injection e with e1 e2 e3
  subst e1 e2
  refine ⟨_, _, rfl, hlt, fun t ht => ?_⟩
  rw [Nat.add_assoc, hc (i + t) (by omega)]
  have hl := h.len
  simp [List.getD, show i + t < j by omega]
theorem Own.rd (h : Own k w lo hi A n c zs) : Rd k w hi A n zs := by
  refine ⟨h.len, h.wf, fun hn => ?_⟩
  rcases h.row.2 with ⟨h1, h2⟩ | ⟨g, cap, cur, h1, h2, h3, h4, h5, h6, h7⟩
  · omega
  · injection h1 with e1 e2 e3
    subst e1
    refine ⟨g, 0, rfl, h.hi _ rfl, fun j hj => ?_⟩
    have := h.row.cells (g := g) rfl j (.int k (zs.getD j 0)) (by
      have hl := h.len
      simp [List.getD, List.getElem?_eq_getElem (show j < zs.length by omega)])
    rwa [add_none] at this
theorem Own.cap (h : Own k w lo hi A n c zs) : n ≤ c ∧ c ≤ maxLen := by
  rcases h.row.2 with ⟨h1, h2⟩ | ⟨g, cap, cur, h1, h2, h3, h4, h5, h6, h7⟩
  · injection h1 with e1 e2 e3
    subst e3
    exact ⟨by omega, by simp [maxLen]⟩
  · injection h1 with e1 e2 e3
    subst e3
    exact ⟨h4, h5⟩
theorem Own.keep (h : Own k w lo hi A n c zs) (hk : ∀ i, i < w.heap.size → lo ≤ i → i < hi → w'.heap[i]? = w.heap[i]?) : Own k w' lo hi A n c zs := by
  refine ⟨h.len, h.wf, ⟨h.row.1, ?_⟩, h.hi⟩
  rcases h.row.2 with hn | ⟨g, cap, cur, h1, h2, h3, r⟩
  · exact .inl hn
  · refine .inr ⟨g, cap, cur, h1, h2, ?_, r⟩
    injection h1 with e1 e2 e3
    have hlt : g < w.heap.size := (Array.getElem?_eq_some_iff.1 h3).1
    rw [hk g hlt h2 (h.hi _ e1)]
    exact h3
theorem Own.below (h : Own k w lo hi A n c zs) (hb : Below B w w') (hB : hi ≤ B) : Own k w' lo hi A n c zs := h.keep fun i _ _ h2 => hb.block i (by omega)
theorem Own.fr {lo' hi' : Nat} (h : Own k w lo hi A n c zs) (hf : Fr lo' hi' w w') (hd : hi ≤ lo' ∨ hi' ≤ lo) : Own k w' lo hi A n c zs := h.keep fun i h0 h1 h2 => hf.block i h0 (by omega)
theorem Own.alloc (h : Own k w lo hi A n c zs) (o : Obj) : Own k (w.alloc o) lo hi A n c zs := h.keep fun i h0 _ _ => Below.heap_alloc w o i h0
theorem Own.top (h : Own k w lo hi A n c zs) : Own k w lo w.heap.size A n c zs :=
  ⟨h.len, h.wf, h.row, fun a e => (h.row.lt a.block (by simp [Value.ownBlock, e])).2⟩
theorem Own.base {lo' : Nat} (h : Own k w lo hi A n c zs) (hl : lo' ≤ lo) : Own k w lo' hi A n c zs := by
  refine ⟨h.len, h.wf, ⟨h.row.1, ?_⟩, h.hi⟩
  rcases h.row.2 with hn | ⟨g, cap, cur, h1, h2, r⟩
  · exact .inl hn
  · exact .inr ⟨g, cap, cur, h1, by omega, r⟩
theorem Own.wide {hi' : Nat} (h : Own k w lo hi A n c zs) (hl : hi ≤ hi') : Own k w lo hi' A n c zs := ⟨h.len, h.wf, h.row, fun a e => by have := h.hi a e; omega⟩
theorem Own.nil (k : IntKind) (w : World) (lo hi : Nat) : Own k w lo hi none 0 0 [] := ⟨rfl, by simp, World.ownsRow_nil _ _ _ _, by simp⟩
/-- '[]T{}' -/
theorem Own.lit0 (k : IntKind) (w : World) (hl : lo ≤ w.heap.size) : Own k (w.alloc (.cells #[] (ety k))) lo (w.heap.size + 1) (some ⟨w.heap.size, 0, none⟩) 0 0 [] :=
  ⟨rfl, by simp, World.ownsRow_made w #[] 0 hl (by simp [maxLen]) (by simp), fun a e => by injection e with e; subst e; simp⟩
/-- '[]T{x}' -/
theorem Own.lit1 (k : IntKind) (w : World) {z : Int} (hz : In k z) (hl : lo ≤ w.heap.size) : Own k (w.alloc (.cells #[.int k z] (ety k))) lo (w.heap.size + 1) (some ⟨w.heap.size, 0, none⟩) 1 1 [z] :=
  ⟨rfl, by simpa using hz, World.ownsRow_lit w #[.int k z] 1 hl (by simp [maxLen]) (by simp), fun a e => by injection e with e; subst e; simp⟩
/-- a cell is written -/
theorem Own.set (h : Own k w lo hi A n c zs) {i : Nat} (hi' : i < n) (z : Int) (hz : In k z) :
    ∃ g, A = some ⟨g, 0, none⟩ ∧ lo ≤ g ∧ g < hi ∧ w.cell? ⟨g, i, none⟩ = some (.int k (zs.getD i 0)) ∧ w.frozen? ⟨g, i, none⟩ = false ∧ Own k (w.setCell ⟨g, i, none⟩ (.int k z)) lo hi A n c (zs.set i z) := by
  obtain ⟨b, off, e, hlt, hc⟩ := h.rd.cells (by omega)
  rcases h.row.2 with ⟨_, h2⟩ | ⟨g, cap, cur, h1, h2, h3, h4, h5, h6, h7⟩
  · omega
  · injection h1 with e1 e2 e3
    subst e1
    injection e with e
    injection e with e4 e5 e6
    subst e4 e5
    have hr := h.row
    refine ⟨g, rfl, h2, hlt, by simpa using hc i hi', hr.frozenAt i, ⟨by simpa using h.len, fun y hy => ?_, ?_, h.hi⟩⟩
    · rcases List.mem_or_eq_of_mem_set hy with hy | rfl
      · exact h.wf y hy
      · exact hz
    · rw [List.map_set]
      exact (hr.stored i _).1
theorem Same.refl (w : World) : Same w w := ⟨rfl, rfl, rfl, rfl⟩
theorem Same.of (e : w = w') : Same w w' := e ▸ Same.refl w
theorem Same.drew (h : Same w w') : Same w w'.drew := ⟨h.os, h.tape, h.output, h.heap⟩
theorem Same.trans (h : Same w w') (h' : Same w' w'') : Same w w'' := ⟨h'.os.trans h.os, h'.tape.trans h.tape, h'.output.trans h.output, h'.heap.trans h.heap⟩
theorem Same.below (h : Same w w') (B : Nat) : Below B w w' := ⟨h.os, h.tape, h.output, by rw [h.heap]; exact Nat.le_refl _, fun i _ => by rw [h.heap]⟩
theorem Same.fr (h : Same w w') (lo hi : Nat) : Fr lo hi w w' := ⟨h.os, h.tape, h.output, by rw [h.heap]; exact Nat.le_refl _, fun i _ _ => by rw [h.heap]⟩
theorem Rd.same (h : Rd k w B A n zs) (hs : Same w w') : Rd k w' B A n zs := h.keep fun i _ => by rw [hs.heap]
theorem Own.same (h : Own k w lo hi A n c zs) (hs : Same w w') : Own k w' lo hi A n c zs := h.keep fun i _ _ _ => by rw [hs.heap]
theorem Rd.cell_at (h : Rd k w B A n zs) {j : Nat} (hj : j < n) : ∃ b off, A = some ⟨b, off, none⟩ ∧ b < B ∧ w.cell? ⟨b, off + j, none⟩ = some (.int k (zs.getD j 0)) := by
  obtain ⟨b, off, e, hlt, hc⟩ := h.cells (by omega)
  exact ⟨b, off, e, hlt, hc j hj⟩
theorem Fr.refl (lo hi : Nat) (w : World) : Fr lo hi w w := ⟨rfl, rfl, rfl, Nat.le_refl _, fun _ _ _ => rfl⟩
theorem Fr.trans (h : Fr lo hi w w') (h' : Fr lo hi w' w'') : Fr lo hi w w'' :=
  ⟨h'.os.trans h.os, h'.tape.trans h.tape, h'.output.trans h.output, Nat.le_trans h.size h'.size, fun i h1 h2 => (h'.block i (by have := h.size; omega) h2).trans (h.block i h1 h2)⟩
theorem Fr.setCell {g : Nat} (h : Fr lo hi w w') (h1 : lo ≤ g) (h2 : g < hi) (i : Nat) (u : Value) : Fr lo hi w (w'.setCell ⟨g, i, none⟩ u) :=
  h.trans ⟨rfl, rfl, rfl, by simp [World.setCell], fun j _ hj => Below.heap_setCell _ _ _ _ (by show j ≠ g; omega)⟩
theorem Fr.below (h : Fr lo hi w w') (hB : B ≤ lo) (hs : B ≤ w.heap.size) : Below B w w' := ⟨h.os, h.tape, h.output, h.size, fun i hi => h.block i (by omega) (.inl (by omega))⟩
theorem Fr.ofBelow (h : Below lo w w') (hl : w.heap.size ≤ lo) : Fr lo hi w w' := ⟨h.os, h.tape, h.output, h.size, fun i hi _ => h.block i (by omega)⟩
theorem Fr.of_new (h : Below w.heap.size w w') (lo hi : Nat) : Fr lo hi w w' := ⟨h.os, h.tape, h.output, h.size, fun i hi _ => h.block i hi⟩
theorem Gr.refl (A : Option Addr) (w : World) : Gr A w A w := ⟨World.grownBy.refl _ _, fun a e => by subst e; exact .inl rfl⟩
theorem Gr.trans (h : Gr A w A' w') (h' : Gr A' w' A'' w'') : Gr A w A'' w'' := by
  have hs := h.1.size
  refine ⟨⟨h'.1.os.trans h.1.os, h'.1.tape.trans h.1.tape, h'.1.output.trans h.1.output, Nat.le_trans hs h'.1.size, fun i hi hne => ?_⟩, fun a e => ?_⟩
  · refine (h'.1.block i (by omega) fun e => ?_).trans (h.1.block i hi hne)
    rcases A' with _ | a
    · simp at e
    · have e1 : i = a.block := by simpa using e
      rcases h.2 a rfl with h2 | h2
      · exact hne (by rw [h2, e1])
      · omega
  · rcases h'.2 a e with h2 | h2
    · rcases A' with _ | a'
      · simp at h2
      · have e1 : a'.block = a.block := by simpa using h2
        rcases h.2 a' rfl with h3 | h3
        · exact .inl (by rw [h3, e1])
        · exact .inr (by omega)
    · exact .inr (by omega)
theorem Gr.below (h : Gr A w A' w') (hB : B ≤ w.heap.size) (hA : ∀ a, A = some a → B ≤ a.block) : Below B w w' :=
  (Below.refl B w).grown h.1 hB (fun i e => by
    rcases A with _ | a
    · simp at e
    · have : a.block = i := by simpa using e
      have := hA a rfl
      omega)
theorem Own.ge (h : Own k w lo hi A n c zs) : ∀ a, A = some a → lo ≤ a.block := fun a e => (h.row.lt a.block (by simp [Value.ownBlock, e])).1
end

/-- 'append(s, x...)', s the call's own, x whatever reads as numbers -/
theorem run_app {k : IntKind} (hk : BI k) {w : World} {lo hi B n c m c2 : Nat} {A A2 : Option Addr} {zs ys : List Int} (h : Own k w lo hi A n c zs) (hr : Rd k w B A2 m ys) (hb : n + m ≤ 8796093022208) (hlo : lo ≤ w.heap.size) (ty : TypeId) :
    ∃ A' c' w', (Builtin.append_ #[sty k, sty k] ty #[.slice A n c, .slice A2 m c2]).run Tryz.prog w = .ok (.slice A' (n + m) c') w' ∧ Own k w' lo w'.heap.size A' (n + m) c' (zs ++ ys) ∧ Gr A w A' w' := by
  obtain ⟨i, h1, h2, h3, h4⟩ := info_of hk
  have hu := under_of hk
  have wf : ∀ z ∈ zs ++ ys, In k z := fun z hz => by
    rcases List.mem_append.1 hz with hz | hz
    · exact h.wf z hz
    · exact hr.wf z hz
  have hlen : (zs ++ ys).length = n + m := by rw [List.length_append, h.len, hr.len]
  have hob : (Value.slice A n c).ownBlock = A.map (·.block) := by cases A <;> rfl
  rcases A2 with _ | ad
  · have hm : m = 0 := by
      rcases Nat.eq_zero_or_pos m with h0 | h0
      · exact h0
      · obtain ⟨_, _, e, _⟩ := hr.cells h0
        cases e
    subst hm
    have hy : ys = [] := List.eq_nil_of_length_eq_zero hr.len
    subst hy
    refine ⟨A, c, w, ?_, ?_, Gr.refl _ _⟩
    · rcases h.row.2 with ⟨h5, h6⟩ | ⟨g, cap, cur, h5, _, _, h6, _⟩
      · injection h5 with e1 e2 e3
        subst e1 e2 e3
        simp [Builtin.append_, run_underlying hu, sizeOf, typeInfo, h1, Builtin.lenOf, Builtin.firstCells]
      · injection h5 with e1 e2 e3
        subst e1 e3
        simp [Builtin.append_, run_underlying hu, sizeOf, typeInfo, h1, Builtin.lenOf, Builtin.firstCells, h6, storeCells]
    · have := h.top
      simpa using this
  · have hcells : ∀ j u, (ys.map (Value.int k))[j]? = some u → w.cell? (ad.add j) = some u := fun j u hu => by
      have hj : j < ys.length := by
        rcases Nat.lt_or_ge j ys.length with hj | hj
        · exact hj
        · rw [List.getElem?_eq_none (by simpa using hj)] at hu
          cases hu
      obtain ⟨b, off, e, _, hc⟩ := hr.cells (by have := hr.len; omega)
      injection e with e
      subst e
      rw [add_none, hc j (by have := hr.len; omega), ← hu]
      simp [List.getD, List.getElem?_eq_getElem hj]
    have hbb : (n + m) * i.bytes ≤ (n + m) * 8 := Nat.mul_le_mul_left _ h4
    obtain ⟨v', w', hrun, hown, hg, hnil, hat⟩ := run_append_own_at (P := Tryz.prog) w lo (sty k) ty (ety k) i (.int k 0) 1 i.bytes hu h1 h2 h3 rfl rfl (by omega) (.slice A n c) n _ h.row ad m c2 (ys.map (Value.int k)) (by simp [hr.len]) hcells
      (by intro u hu; obtain ⟨z, _, rfl⟩ := List.mem_map.1 hu; rfl) (by simp only [maxLen]; omega) (by omega) hlo
    rw [hob] at hg hat
    have hv : ∃ A' c', v' = .slice A' (n + m) c' := by
      rcases hown.2 with ⟨h5, h6⟩ | ⟨g, cap, cur, h5, _⟩
      · exact ⟨none, 0, by rw [h5, h6]⟩
      · exact ⟨_, _, h5⟩
    obtain ⟨A', c', rfl⟩ := hv
    refine ⟨A', c', w', hrun, ⟨hlen, wf, by simpa using hown, fun a e => (hown.lt a.block (by simp [Value.ownBlock, e])).2⟩, hg, fun a e => ?_⟩
    subst e
    rcases hat with hat | hat
    · exact .inl (by rw [← hat]; rfl)
    · have : a.block = w.heap.size := by simpa [Value.ownBlock] using hat
      exact .inr (by omega)
/-- the same, at the operation -/
theorem wp_app {k : IntKind} (hk : BI k) {w : World} {ops : Array Oper} {rest : List Oper} {o : Oper} {a : Act} {Q : Exit → Act → World → Prop} (hgd : Region.wanted o (yielded ops a.tmps) = true) (s x : Operand)
    (ho : o.op = .call { callee := .builtin .append, args := #[s, x], argTypes := #[sty k, sty k] })
    {lo hi B n c m c2 : Nat} {A A2 : Option Addr} {zs ys : List Int} (hs : a.eval s = .slice A n c) (h : Own k w lo hi A n c zs) (hx : a.eval x = .slice A2 m c2) (hr : Rd k w B A2 m ys) (hb : n + m ≤ 8796093022208) (hlo : lo ≤ w.heap.size)
    (hK : ∀ A' c' w', Own k w' lo w'.heap.size A' (n + m) c' (zs ++ ys) → Gr A w A' w' → wpList Tryz.prog ops Q rest (a.put o.dst (.slice A' (n + m) c')) w') :
    wpList Tryz.prog ops Q (o :: rest) a w := by
  refine wpList_step fun K hK' => ?_
  rw [if_pos hgd]
  obtain ⟨A', c', w', hrun, h1, h2⟩ := run_app hk h hr hb hlo o.type (c2 := c2)
  unfold Oper.wp execOp
  simp only [ho, resolve, invoke, builtin, Sem.run_bind, Sem.run_pure, Result.andThen_ok, List.map_toArray, List.map_cons, List.map_nil, hs, hx, hrun]
  exact hK' _ _ (hK _ _ _ h1 h2)
/-- the same, in a region that draws its order -/
theorem step_app {k : IntKind} (hk : BI k) {w : World} {ops : Array Oper} {o : Oper} {a : Act} {K : Act → World → Prop} {Q : Exit → Act → World → Prop} {E : Prop} (hgd : Region.wanted o (yielded ops a.tmps) = true) (s x : Operand)
    (ho : o.op = .call { callee := .builtin .append, args := #[s, x], argTypes := #[sty k, sty k] })
    {lo hi B n c m c2 : Nat} {A A2 : Option Addr} {zs ys : List Int} (hs : a.eval s = .slice A n c) (h : Own k w lo hi A n c zs) (hx : a.eval x = .slice A2 m c2) (hr : Rd k w B A2 m ys) (hb : n + m ≤ 8796093022208) (hlo : lo ≤ w.heap.size)
    (hK : ∀ A' c' w', Own k w' lo w'.heap.size A' (n + m) c' (zs ++ ys) → Gr A w A' w' → K (a.put o.dst (.slice A' (n + m) c')) w') :
    if Region.wanted o (yielded ops a.tmps) = true then Oper.wp Tryz.prog o a w K Q else E := by
  rw [if_pos hgd]
  obtain ⟨A', c', w', hrun, h1, h2⟩ := run_app hk h hr hb hlo o.type (c2 := c2)
  unfold Oper.wp execOp
  simp only [ho, resolve, invoke, builtin, Sem.run_bind, Sem.run_pure, Result.andThen_ok, List.map_toArray, List.map_cons, List.map_nil, hs, hx, hrun]
  exact hK _ _ _ h1 h2
theorem rd_new (k : IntKind) (w : World) {z : Int} (hz : In k z) : Rd k (w.alloc (.cells #[.int k z] (ety k))) (w.heap.size + 1) (some ⟨w.heap.size, 0, none⟩) 1 [z] :=
  ⟨rfl, by simpa using hz, fun _ => ⟨_, _, rfl, by omega, fun j hj => by
    have hj0 : j = 0 := by omega
    subst hj0
    simp⟩⟩
/-- 'append(s, x)' of one number, which was laid in a block of its own -/
theorem wp_push {k : IntKind} (hk : BI k) {w : World} {ops : Array Oper} {rest : List Oper} {o : Oper} {a : Act} {Q : Exit → Act → World → Prop} (hgd : Region.wanted o (yielded ops a.tmps) = true) (s x : Operand)
    (ho : o.op = .call { callee := .builtin .append, args := #[s, x], argTypes := #[sty k, sty k] })
    {lo hi n c : Nat} {A : Option Addr} {zs : List Int} {z : Int} (hs : a.eval s = .slice A n c) (h : Own k w lo hi A n c zs) (hx : a.eval x = .slice (some ⟨w.heap.size, 0, none⟩) 1 1) (hz : In k z) (hb : n ≤ 8796093022207) (hlo : lo ≤ w.heap.size)
    (hK : ∀ A' c' w', Own k w' lo w'.heap.size A' (n + 1) c' (zs ++ [z]) → Gr A w A' w' → wpList Tryz.prog ops Q rest (a.put o.dst (.slice A' (n + 1) c')) w') :
    wpList Tryz.prog ops Q (o :: rest) a (w.alloc (.cells #[.int k z] (ety k))) := by
  have hr : Rd k (w.alloc (.cells #[.int k z] (ety k))) (w.heap.size + 1) (some ⟨w.heap.size, 0, none⟩) 1 [z] :=
    ⟨rfl, by simpa using hz, fun _ => ⟨_, _, rfl, by omega, fun j hj => by
      have hj0 : j = 0 := by omega
      subst hj0
      simp⟩⟩
  refine wp_app hk hgd s x ho hs (h.alloc _) hx hr (by omega) (by simp; omega) fun A' c' w' h1 h2 => hK A' c' w' h1 ?_
  refine ⟨?_, fun a e => ?_⟩
  · have hA := World.grownBy_alloc w (.cells #[.int k z] (ety k)) (A.map (·.block))
    exact hA.trans h2.1
  · rcases h2.2 a e with h3 | h3
    · exact .inl h3
    · exact .inr (by simp at h3; omega)
/-- 'make([]T, n)' -/
theorem wp_make {k : IntKind} (hk : BI k) {w : World} {ops : Array Oper} {rest : List Oper} {o : Oper} {a : Act} {Q : Exit → Act → World → Prop} (hgd : o.guard = none) (l c : Operand) (ho : o.op = Op.makeSlice (sty k) l c)
    {n : Nat} (hl : a.eval l = .int .i64 n) (hc : a.eval c = .int .i64 n) (hb : n ≤ 8796093022208)
    (hK : ∀ w', Own k w' w.heap.size w'.heap.size (some ⟨w.heap.size, 0, none⟩) n n (List.replicate n 0) → Below w.heap.size w w' → wpList Tryz.prog ops Q rest (a.put o.dst (.slice (some ⟨w.heap.size, 0, none⟩) n n)) w') :
    wpList Tryz.prog ops Q (o :: rest) a w := by
  obtain ⟨i, h1, h2, h3, h4⟩ := info_of hk
  have hbb : i.bytes * n ≤ 8 * n := Nat.mul_le_mul_right _ h4
  refine wpList_make_full w hgd l c (sty k) ho w.heap.size (ety k) i (.int k 0) 1 (under_of hk) h1 h2 h3 .i64 .i64 n n n hl hc rfl rfl (by omega) (by simp only [maxLen]; omega) (Nat.le_refl _) fun w' hown hg => hK w' ⟨by simp, ?_, ?_, fun a e => (hown.lt a.block (by injection e with e; subst e; rfl)).2⟩ ((Below.refl _ _).grown hg (Nat.le_refl _) (by simp))
  · intro z hz
    have : z = 0 := (List.mem_replicate.1 hz).2
    subst this
    rcases hk with ⟨rfl, _⟩ | ⟨rfl, _⟩ <;> exact ⟨by decide, by decide⟩
  · have e : (madeCells (Value.int k 0).cells (n * 1)).toList = (List.replicate n (0 : Int)).map (Value.int k) := by
      apply List.ext_getElem
      · simp [madeCells]
      · intro j h5 h6
        simp [madeCells, Value.cells]
        have h0 : j % 1 = 0 := Nat.mod_one j
        simp [h0]
    rw [← e]
    exact hown
theorem row_cap {k : IntKind} {w : World} {a : Option Addr} {len cap : Nat} {zs : List Int} (h : SL.IsRow k w a len cap zs) : len ≤ cap := by
  rcases h with ⟨_, h1, _⟩ | ⟨x, _, h1, _⟩
  · omega
  · exact h1
/-- a slice of numbers that came in reads so -/
theorem rd_of_row {k : IntKind} {w : World} {a : Option Addr} {len cap : Nat} {zs : List Int} (h : SL.IsRow k w a len cap zs) : Rd k w w.heap.size a len (zs.take len) := by
  rcases h with ⟨rfl, rfl, rfl, rfl⟩ | ⟨x, rfl, h1, h2, h3, hc, hw⟩
  · exact Rd.nil k w _ none
  · refine ⟨by simp; omega, fun z hz => ?_, fun hn => ?_⟩
    · have h4 := hw z (List.mem_of_mem_take hz)
      simpa [Lit.wf, In] using h4
    · obtain ⟨b, off, spot⟩ := x
      have h0 := hc 0 (by omega)
      have hspot : spot = none := by simpa [Addr.add] using World.cell?_spot h0
      subst hspot
      refine ⟨b, off, rfl, by simpa [Addr.add] using SL.cell_lt h0, fun j hj => ?_⟩
      have h4 := hc j (by omega)
      rw [add_none] at h4
      rw [h4]
      simp [List.getD, hj]
end Go.Proofs.YthhmhcmlbpdlbaaGreat.Mem
namespace Go.Proofs.YthhmhcmlbpdlbaaGreat.MemS
open Go.RowKit Mem
set_option linter.unusedVariables false
set_option maxRecDepth 100000
abbrev EST : TypeId := 9
abbrev SST : TypeId := 80
def InS (s : ByteArray) : Prop := s.size ≤ maxLen
theorem info_str0 : (Tryz.prog.info? 9).map (fun i => (i.zero, i.size, i.bytes)) = some (some (.string ByteArray.empty), 1, 16) := by kernel_rfl
theorem under_str : Tryz.prog.underlying SST = some (.slice EST) := by kernel_rfl
theorem info_str : ∃ i, Tryz.prog.info? EST = some i ∧ i.zero = some (.string .empty) ∧ i.size = 1 ∧ i.bytes ≤ 16 := by
  obtain ⟨i, h1, h2, h3, h4⟩ := info_parts info_str0
  exact ⟨i, h1, h2, h3, by omega⟩

/-- What a walk is told of a slice of strings that came in: it is nil, or it leads to a row of 'cap' cells, the first 'len' are its elements. -/
def RowS (w : World) (a : Option Addr) (len cap : Nat) (ss : List ByteArray) : Prop :=
  (a = none ∧ len = 0 ∧ cap = 0 ∧ ss = []) ∨
  ∃ x, a = some x ∧ len ≤ cap ∧ cap ≤ maxLen ∧ len ≤ ss.length ∧ (∀ i, i < ss.length → w.cell? (x.add i) = some (.string (ss.getD i .empty))) ∧ ∀ s ∈ ss, InS s
/-- strings lie from A on, below block B -/
structure RdS (w : World) (B : Nat) (A : Option Addr) (n : Nat) (zs : List ByteArray) : Prop where
  len : zs.length = n
  wf : ∀ z ∈ zs, InS z
  cells : 0 < n → ∃ b off, A = some ⟨b, off, none⟩ ∧ b < B ∧ ∀ j, j < n → w.cell? ⟨b, off + j, none⟩ = some (.string (zs.getD j .empty))
/-- the call made it: from block lo on, before block hi -/
structure OwnS (w : World) (lo hi : Nat) (A : Option Addr) (n c : Nat) (zs : List ByteArray) : Prop where
  len : zs.length = n
  wf : ∀ z ∈ zs, InS z
  row : w.ownsRow lo EST 1 (.slice A n c) n (zs.map (Value.string))
  hi : ∀ a, A = some a → a.block < hi
theorem getD_inS {zs : List ByteArray} (h : ∀ z ∈ zs, InS z) {j : Nat} (hj : j < zs.length) : InS (zs.getD j .empty) := by
  refine h _ ?_
  simp [List.getD, List.getElem?_eq_getElem hj]

section
variable {w w' w'' : World} {B B' lo hi n c m : Nat} {A A' A'' : Option Addr} {zs ys : List ByteArray}
theorem RdS.keep (h : RdS w B A n zs) (hk : ∀ i, i < B → w'.heap[i]? = w.heap[i]?) : RdS w' B A n zs :=
  ⟨h.len, h.wf, fun hn => by
    obtain ⟨b, off, e, hlt, hc⟩ := h.cells hn
    exact ⟨b, off, e, hlt, fun j hj => (World.cell?_of_block (a := ⟨b, off + j, none⟩) (hk b hlt)).trans (hc j hj)⟩⟩
theorem RdS.below (h : RdS w B A n zs) (hb : Below B' w w') (hB : B ≤ B') : RdS w' B A n zs := h.keep fun i hi => hb.block i (by omega)
theorem RdS.more (h : RdS w B A n zs) (hB : B ≤ B') : RdS w B' A n zs :=
  ⟨h.len, h.wf, fun hn => by
    obtain ⟨b, off, e, hlt, hc⟩ := h.cells hn
    exact ⟨b, off, e, by omega, hc⟩⟩
theorem RdS.nil (w : World) (B : Nat) (A : Option Addr) : RdS w B A 0 [] := ⟨rfl, by simp, fun h => absurd h (by omega)⟩
theorem RdS.alloc (h : RdS w B A n zs) (hB : B ≤ w.heap.size) (o : Obj) : RdS (w.alloc o) B A n zs := h.keep fun i hi => Below.heap_alloc w o i (by omega)
theorem RdS.fr (h : RdS w B A n zs) (hf : Fr lo hi w w') (hB : B ≤ lo) (hs : B ≤ w.heap.size) : RdS w' B A n zs := h.keep fun i hi => hf.block i (by omega) (.inl (by omega))
/-- a part of it -/
theorem RdS.part {b off : Nat} {i j : Nat} (h : RdS w B (some ⟨b, off, none⟩) n zs) (hij : i ≤ j) (hj : j ≤ n) (hlt : i < j) : RdS w B (some ⟨b, off + i, none⟩) (j - i) ((zs.take j).drop i) := by
  refine ⟨by simp [h.len]; omega, fun z hz => h.wf z (List.mem_of_mem_take (List.mem_of_mem_drop hz)), fun hn => ?_⟩
  obtain ⟨b', off', e, hlt, hc⟩ := h.cells (by omega)
  injection e with e
  injection e with e1 e2 e3
  subst e1 e2
  refine ⟨_, _, rfl, hlt, fun t ht => ?_⟩
  rw [Nat.add_assoc, hc (i + t) (by omega)]
  have hl := h.len
  simp [List.getD, show i + t < j by omega]
theorem OwnS.rd (h : OwnS w lo hi A n c zs) : RdS w hi A n zs := by
  refine ⟨h.len, h.wf, fun hn => ?_⟩
  rcases h.row.2 with ⟨h1, h2⟩ | ⟨g, cap, cur, h1, h2, h3, h4, h5, h6, h7⟩
  · omega
  · injection h1 with e1 e2 e3
    subst e1
    refine ⟨g, 0, rfl, h.hi _ rfl, fun j hj => ?_⟩
    have := h.row.cells (g := g) rfl j (.string (zs.getD j .empty)) (by
      have hl := h.len
      simp [List.getD, List.getElem?_eq_getElem (show j < zs.length by omega)])
    rwa [add_none] at this
theorem OwnS.cap (h : OwnS w lo hi A n c zs) : n ≤ c ∧ c ≤ maxLen := by
  rcases h.row.2 with ⟨h1, h2⟩ | ⟨g, cap, cur, h1, h2, h3, h4, h5, h6, h7⟩
  · injection h1 with e1 e2 e3
    subst e3
    exact ⟨by omega, by simp [maxLen]⟩
  · injection h1 with e1 e2 e3
    subst e3
    exact ⟨h4, h5⟩
theorem OwnS.keep (h : OwnS w lo hi A n c zs) (hk : ∀ i, i < w.heap.size → lo ≤ i → i < hi → w'.heap[i]? = w.heap[i]?) : OwnS w' lo hi A n c zs := by
  refine ⟨h.len, h.wf, ⟨h.row.1, ?_⟩, h.hi⟩
  rcases h.row.2 with hn | ⟨g, cap, cur, h1, h2, h3, r⟩
  · exact .inl hn
  · refine .inr ⟨g, cap, cur, h1, h2, ?_, r⟩
    injection h1 with e1 e2 e3
    have hlt : g < w.heap.size := (Array.getElem?_eq_some_iff.1 h3).1
    rw [hk g hlt h2 (h.hi _ e1)]
    exact h3
theorem OwnS.below (h : OwnS w lo hi A n c zs) (hb : Below B w w') (hB : hi ≤ B) : OwnS w' lo hi A n c zs := h.keep fun i _ _ h2 => hb.block i (by omega)
theorem OwnS.fr {lo' hi' : Nat} (h : OwnS w lo hi A n c zs) (hf : Fr lo' hi' w w') (hd : hi ≤ lo' ∨ hi' ≤ lo) : OwnS w' lo hi A n c zs := h.keep fun i h0 h1 h2 => hf.block i h0 (by omega)
theorem OwnS.alloc (h : OwnS w lo hi A n c zs) (o : Obj) : OwnS (w.alloc o) lo hi A n c zs := h.keep fun i h0 _ _ => Below.heap_alloc w o i h0
theorem OwnS.top (h : OwnS w lo hi A n c zs) : OwnS w lo w.heap.size A n c zs :=
  ⟨h.len, h.wf, h.row, fun a e => (h.row.lt a.block (by simp [Value.ownBlock, e])).2⟩
theorem OwnS.base {lo' : Nat} (h : OwnS w lo hi A n c zs) (hl : lo' ≤ lo) : OwnS w lo' hi A n c zs := by
  refine ⟨h.len, h.wf, ⟨h.row.1, ?_⟩, h.hi⟩
  rcases h.row.2 with hn | ⟨g, cap, cur, h1, h2, r⟩
  · exact .inl hn
  · exact .inr ⟨g, cap, cur, h1, by omega, r⟩
theorem OwnS.wide {hi' : Nat} (h : OwnS w lo hi A n c zs) (hl : hi ≤ hi') : OwnS w lo hi' A n c zs := ⟨h.len, h.wf, h.row, fun a e => by have := h.hi a e; omega⟩
theorem OwnS.nil (w : World) (lo hi : Nat) : OwnS w lo hi none 0 0 [] := ⟨rfl, by simp, World.ownsRow_nil _ _ _ _, by simp⟩
/-- '[]T{}' -/
theorem OwnS.lit0 (w : World) (hl : lo ≤ w.heap.size) : OwnS (w.alloc (.cells #[] EST)) lo (w.heap.size + 1) (some ⟨w.heap.size, 0, none⟩) 0 0 [] :=
  ⟨rfl, by simp, World.ownsRow_made w #[] 0 hl (by simp [maxLen]) (by simp), fun a e => by injection e with e; subst e; simp⟩
/-- '[]T{x}' -/
theorem OwnS.lit1 (w : World) {z : ByteArray} (hz : InS z) (hl : lo ≤ w.heap.size) : OwnS (w.alloc (.cells #[.string z] EST)) lo (w.heap.size + 1) (some ⟨w.heap.size, 0, none⟩) 1 1 [z] :=
  ⟨rfl, by simpa using hz, World.ownsRow_lit w #[.string z] 1 hl (by simp [maxLen]) (by simp), fun a e => by injection e with e; subst e; simp⟩
/-- a cell is written -/
theorem OwnS.set (h : OwnS w lo hi A n c zs) {i : Nat} (hi' : i < n) (z : ByteArray) (hz : InS z) :
    ∃ g, A = some ⟨g, 0, none⟩ ∧ lo ≤ g ∧ g < hi ∧ w.cell? ⟨g, i, none⟩ = some (.string (zs.getD i .empty)) ∧ w.frozen? ⟨g, i, none⟩ = false ∧ OwnS (w.setCell ⟨g, i, none⟩ (.string z)) lo hi A n c (zs.set i z) := by
  obtain ⟨b, off, e, hlt, hc⟩ := h.rd.cells (by omega)
  rcases h.row.2 with ⟨_, h2⟩ | ⟨g, cap, cur, h1, h2, h3, h4, h5, h6, h7⟩
  · omega
  · injection h1 with e1 e2 e3
    subst e1
    injection e with e
    injection e with e4 e5 e6
    subst e4 e5
    have hr := h.row
    refine ⟨g, rfl, h2, hlt, by simpa using hc i hi', hr.frozenAt i, ⟨by simpa using h.len, fun y hy => ?_, ?_, h.hi⟩⟩
    · rcases List.mem_or_eq_of_mem_set hy with hy | rfl
      · exact h.wf y hy
      · exact hz
    · rw [List.map_set]
      exact (hr.stored i _).1
theorem RdS.same (h : RdS w B A n zs) (hs : Same w w') : RdS w' B A n zs := h.keep fun i _ => by rw [hs.heap]
theorem OwnS.same (h : OwnS w lo hi A n c zs) (hs : Same w w') : OwnS w' lo hi A n c zs := h.keep fun i _ _ _ => by rw [hs.heap]
theorem RdS.cell_at (h : RdS w B A n zs) {j : Nat} (hj : j < n) : ∃ b off, A = some ⟨b, off, none⟩ ∧ b < B ∧ w.cell? ⟨b, off + j, none⟩ = some (.string (zs.getD j .empty)) := by
  obtain ⟨b, off, e, hlt, hc⟩ := h.cells (by omega)
  exact ⟨b, off, e, hlt, hc j hj⟩
theorem OwnS.ge (h : OwnS w lo hi A n c zs) : ∀ a, A = some a → lo ≤ a.block := fun a e => (h.row.lt a.block (by simp [Value.ownBlock, e])).1
end

/-- 'append(s, x...)', s the call's own, x whatever reads as numbers -/
theorem run_appT {T : TypeId} (hu : Tryz.prog.underlying T = some (.slice EST)) {w : World} {lo hi B n c m c2 : Nat} {A A2 : Option Addr} {zs ys : List ByteArray} (h : OwnS w lo hi A n c zs) (hr : RdS w B A2 m ys) (hb : n + m ≤ 8796093022208) (hlo : lo ≤ w.heap.size) (ty : TypeId) :
    ∃ A' c' w', (Builtin.append_ #[T, T] ty #[.slice A n c, .slice A2 m c2]).run Tryz.prog w = .ok (.slice A' (n + m) c') w' ∧ OwnS w' lo w'.heap.size A' (n + m) c' (zs ++ ys) ∧ Gr A w A' w' := by
  obtain ⟨i, h1, h2, h3, h4⟩ := info_str
  have wf : ∀ z ∈ zs ++ ys, InS z := fun z hz => by
    rcases List.mem_append.1 hz with hz | hz
    · exact h.wf z hz
    · exact hr.wf z hz
  have hlen : (zs ++ ys).length = n + m := by rw [List.length_append, h.len, hr.len]
  have hob : (Value.slice A n c).ownBlock = A.map (·.block) := by cases A <;> rfl
  rcases A2 with _ | ad
  · have hm : m = 0 := by
      rcases Nat.eq_zero_or_pos m with h0 | h0
      · exact h0
      · obtain ⟨_, _, e, _⟩ := hr.cells h0
        cases e
    subst hm
    have hy : ys = [] := List.eq_nil_of_length_eq_zero hr.len
    subst hy
    refine ⟨A, c, w, ?_, ?_, Gr.refl _ _⟩
    · rcases h.row.2 with ⟨h5, h6⟩ | ⟨g, cap, cur, h5, _, _, h6, _⟩
      · injection h5 with e1 e2 e3
        subst e1 e2 e3
        simp [Builtin.append_, run_underlying hu, sizeOf, typeInfo, h1, Builtin.lenOf, Builtin.firstCells]
      · injection h5 with e1 e2 e3
        subst e1 e3
        simp [Builtin.append_, run_underlying hu, sizeOf, typeInfo, h1, Builtin.lenOf, Builtin.firstCells, h6, storeCells]
    · have := h.top
      simpa using this
  · have hcells : ∀ j u, (ys.map (Value.string))[j]? = some u → w.cell? (ad.add j) = some u := fun j u hu => by
      have hj : j < ys.length := by
        rcases Nat.lt_or_ge j ys.length with hj | hj
        · exact hj
        · rw [List.getElem?_eq_none (by simpa using hj)] at hu
          cases hu
      obtain ⟨b, off, e, _, hc⟩ := hr.cells (by have := hr.len; omega)
      injection e with e
      subst e
      rw [add_none, hc j (by have := hr.len; omega), ← hu]
      simp [List.getD, List.getElem?_eq_getElem hj]
    have hbb : (n + m) * i.bytes ≤ (n + m) * 16 := Nat.mul_le_mul_left _ h4
    obtain ⟨v', w', hrun, hown, hg, hnil, hat⟩ := run_append_own_at (P := Tryz.prog) w lo T ty EST i (.string .empty) 1 i.bytes hu h1 h2 h3 rfl rfl (by omega) (.slice A n c) n _ h.row ad m c2 (ys.map (Value.string)) (by simp [hr.len]) hcells
      (by intro u hu; obtain ⟨z, _, rfl⟩ := List.mem_map.1 hu; rfl) (by simp only [maxLen]; omega) (by omega) hlo
    rw [hob] at hg hat
    have hv : ∃ A' c', v' = .slice A' (n + m) c' := by
      rcases hown.2 with ⟨h5, h6⟩ | ⟨g, cap, cur, h5, _⟩
      · exact ⟨none, 0, by rw [h5, h6]⟩
      · exact ⟨_, _, h5⟩
    obtain ⟨A', c', rfl⟩ := hv
    refine ⟨A', c', w', hrun, ⟨hlen, wf, by simpa using hown, fun a e => (hown.lt a.block (by simp [Value.ownBlock, e])).2⟩, hg, fun a e => ?_⟩
    subst e
    rcases hat with hat | hat
    · exact .inl (by rw [← hat]; rfl)
    · have : a.block = w.heap.size := by simpa [Value.ownBlock] using hat
      exact .inr (by omega)
theorem run_appS {w : World} {lo hi B n c m c2 : Nat} {A A2 : Option Addr} {zs ys : List ByteArray} (h : OwnS w lo hi A n c zs) (hr : RdS w B A2 m ys) (hb : n + m ≤ 8796093022208) (hlo : lo ≤ w.heap.size) (ty : TypeId) :
    ∃ A' c' w', (Builtin.append_ #[SST, SST] ty #[.slice A n c, .slice A2 m c2]).run Tryz.prog w = .ok (.slice A' (n + m) c') w' ∧ OwnS w' lo w'.heap.size A' (n + m) c' (zs ++ ys) ∧ Gr A w A' w' :=
  run_appT under_str h hr hb hlo ty
/-- the same, at the operation -/
theorem wp_appT {T : TypeId} (hu : Tryz.prog.underlying T = some (.slice EST)) {w : World} {ops : Array Oper} {rest : List Oper} {o : Oper} {a : Act} {Q : Exit → Act → World → Prop} (hgd : Region.wanted o (yielded ops a.tmps) = true) (s x : Operand)
    (ho : o.op = .call { callee := .builtin .append, args := #[s, x], argTypes := #[T, T] })
    {lo hi B n c m c2 : Nat} {A A2 : Option Addr} {zs ys : List ByteArray} (hs : a.eval s = .slice A n c) (h : OwnS w lo hi A n c zs) (hx : a.eval x = .slice A2 m c2) (hr : RdS w B A2 m ys) (hb : n + m ≤ 8796093022208) (hlo : lo ≤ w.heap.size)
    (hK : ∀ A' c' w', OwnS w' lo w'.heap.size A' (n + m) c' (zs ++ ys) → Gr A w A' w' → wpList Tryz.prog ops Q rest (a.put o.dst (.slice A' (n + m) c')) w') :
    wpList Tryz.prog ops Q (o :: rest) a w := by
  refine wpList_step fun K hK' => ?_
  rw [if_pos hgd]
  obtain ⟨A', c', w', hrun, h1, h2⟩ := run_appT hu h hr hb hlo o.type (c2 := c2)
  unfold Oper.wp execOp
  simp only [ho, resolve, invoke, builtin, Sem.run_bind, Sem.run_pure, Result.andThen_ok, List.map_toArray, List.map_cons, List.map_nil, hs, hx, hrun]
  exact hK' _ _ (hK _ _ _ h1 h2)
theorem wp_appS {w : World} {ops : Array Oper} {rest : List Oper} {o : Oper} {a : Act} {Q : Exit → Act → World → Prop} (hgd : Region.wanted o (yielded ops a.tmps) = true) (s x : Operand)
    (ho : o.op = .call { callee := .builtin .append, args := #[s, x], argTypes := #[SST, SST] })
    {lo hi B n c m c2 : Nat} {A A2 : Option Addr} {zs ys : List ByteArray} (hs : a.eval s = .slice A n c) (h : OwnS w lo hi A n c zs) (hx : a.eval x = .slice A2 m c2) (hr : RdS w B A2 m ys) (hb : n + m ≤ 8796093022208) (hlo : lo ≤ w.heap.size)
    (hK : ∀ A' c' w', OwnS w' lo w'.heap.size A' (n + m) c' (zs ++ ys) → Gr A w A' w' → wpList Tryz.prog ops Q rest (a.put o.dst (.slice A' (n + m) c')) w') :
    wpList Tryz.prog ops Q (o :: rest) a w := by
  refine wpList_step fun K hK' => ?_
  rw [if_pos hgd]
  obtain ⟨A', c', w', hrun, h1, h2⟩ := run_appS h hr hb hlo o.type (c2 := c2)
  unfold Oper.wp execOp
  simp only [ho, resolve, invoke, builtin, Sem.run_bind, Sem.run_pure, Result.andThen_ok, List.map_toArray, List.map_cons, List.map_nil, hs, hx, hrun]
  exact hK' _ _ (hK _ _ _ h1 h2)
/-- the same, in a region that draws its order -/
theorem step_appS {w : World} {ops : Array Oper} {o : Oper} {a : Act} {K : Act → World → Prop} {Q : Exit → Act → World → Prop} {E : Prop} (hgd : Region.wanted o (yielded ops a.tmps) = true) (s x : Operand)
    (ho : o.op = .call { callee := .builtin .append, args := #[s, x], argTypes := #[SST, SST] })
    {lo hi B n c m c2 : Nat} {A A2 : Option Addr} {zs ys : List ByteArray} (hs : a.eval s = .slice A n c) (h : OwnS w lo hi A n c zs) (hx : a.eval x = .slice A2 m c2) (hr : RdS w B A2 m ys) (hb : n + m ≤ 8796093022208) (hlo : lo ≤ w.heap.size)
    (hK : ∀ A' c' w', OwnS w' lo w'.heap.size A' (n + m) c' (zs ++ ys) → Gr A w A' w' → K (a.put o.dst (.slice A' (n + m) c')) w') :
    if Region.wanted o (yielded ops a.tmps) = true then Oper.wp Tryz.prog o a w K Q else E := by
  rw [if_pos hgd]
  obtain ⟨A', c', w', hrun, h1, h2⟩ := run_appS h hr hb hlo o.type (c2 := c2)
  unfold Oper.wp execOp
  simp only [ho, resolve, invoke, builtin, Sem.run_bind, Sem.run_pure, Result.andThen_ok, List.map_toArray, List.map_cons, List.map_nil, hs, hx, hrun]
  exact hK _ _ _ h1 h2
theorem rdS_new (w : World) {z : ByteArray} (hz : InS z) : RdS (w.alloc (.cells #[.string z] EST)) (w.heap.size + 1) (some ⟨w.heap.size, 0, none⟩) 1 [z] :=
  ⟨rfl, by simpa using hz, fun _ => ⟨_, _, rfl, by omega, fun j hj => by
    have hj0 : j = 0 := by omega
    subst hj0
    simp⟩⟩
/-- 'append(s, x)' of one number, which was laid in a block of its own -/
theorem wp_pushS {w : World} {ops : Array Oper} {rest : List Oper} {o : Oper} {a : Act} {Q : Exit → Act → World → Prop} (hgd : Region.wanted o (yielded ops a.tmps) = true) (s x : Operand)
    (ho : o.op = .call { callee := .builtin .append, args := #[s, x], argTypes := #[SST, SST] })
    {lo hi n c : Nat} {A : Option Addr} {zs : List ByteArray} {z : ByteArray} (hs : a.eval s = .slice A n c) (h : OwnS w lo hi A n c zs) (hx : a.eval x = .slice (some ⟨w.heap.size, 0, none⟩) 1 1) (hz : InS z) (hb : n ≤ 8796093022207) (hlo : lo ≤ w.heap.size)
    (hK : ∀ A' c' w', OwnS w' lo w'.heap.size A' (n + 1) c' (zs ++ [z]) → Gr A w A' w' → wpList Tryz.prog ops Q rest (a.put o.dst (.slice A' (n + 1) c')) w') :
    wpList Tryz.prog ops Q (o :: rest) a (w.alloc (.cells #[.string z] EST)) := by
  have hr : RdS (w.alloc (.cells #[.string z] EST)) (w.heap.size + 1) (some ⟨w.heap.size, 0, none⟩) 1 [z] :=
    ⟨rfl, by simpa using hz, fun _ => ⟨_, _, rfl, by omega, fun j hj => by
      have hj0 : j = 0 := by omega
      subst hj0
      simp⟩⟩
  refine wp_appS hgd s x ho hs (h.alloc _) hx hr (by omega) (by simp; omega) fun A' c' w' h1 h2 => hK A' c' w' h1 ?_
  refine ⟨?_, fun a e => ?_⟩
  · have hA := World.grownBy_alloc w (.cells #[.string z] EST) (A.map (·.block))
    exact hA.trans h2.1
  · rcases h2.2 a e with h3 | h3
    · exact .inl h3
    · exact .inr (by simp at h3; omega)
/-- 'make([]T, n)' -/
theorem wp_makeS {w : World} {ops : Array Oper} {rest : List Oper} {o : Oper} {a : Act} {Q : Exit → Act → World → Prop} (hgd : o.guard = none) (l c : Operand) (ho : o.op = Op.makeSlice (SST) l c)
    {n : Nat} (hl : a.eval l = .int .i64 n) (hc : a.eval c = .int .i64 n) (hb : n ≤ 8796093022208)
    (hK : ∀ w', OwnS w' w.heap.size w'.heap.size (some ⟨w.heap.size, 0, none⟩) n n (List.replicate n .empty) → Below w.heap.size w w' → wpList Tryz.prog ops Q rest (a.put o.dst (.slice (some ⟨w.heap.size, 0, none⟩) n n)) w') :
    wpList Tryz.prog ops Q (o :: rest) a w := by
  obtain ⟨i, h1, h2, h3, h4⟩ := info_str
  have hbb : i.bytes * n ≤ 16 * n := Nat.mul_le_mul_right _ h4
  refine wpList_make_full w hgd l c (SST) ho w.heap.size EST i (.string .empty) 1 (under_str) h1 h2 h3 .i64 .i64 n n n hl hc rfl rfl (by omega) (by simp only [maxLen]; omega) (Nat.le_refl _) fun w' hown hg => hK w' ⟨by simp, ?_, ?_, fun a e => (hown.lt a.block (by injection e with e; subst e; rfl)).2⟩ ((Below.refl _ _).grown hg (Nat.le_refl _) (by simp))
  · intro z hz
    have : z = ByteArray.empty := (List.mem_replicate.1 hz).2
    subst this
    unfold InS maxLen
    simp
  · have e : (madeCells (Value.string .empty).cells (n * 1)).toList = (List.replicate n ByteArray.empty).map (Value.string) := by
      apply List.ext_getElem
      · simp [madeCells]
      · intro j h5 h6
        simp [madeCells, Value.cells]
        have h0 : j % 1 = 0 := Nat.mod_one j
        simp [h0]
    rw [← e]
    exact hown
theorem rowS_cap {w : World} {a : Option Addr} {len cap : Nat} {ss : List ByteArray} (h : RowS w a len cap ss) : len ≤ cap := by
  rcases h with ⟨_, h1, _⟩ | ⟨x, _, h1, _⟩
  · omega
  · exact h1
theorem rowS_le {w : World} {a : Option Addr} {len cap : Nat} {ss : List ByteArray} (h : RowS w a len cap ss) : len ≤ maxLen := by
  rcases h with ⟨_, h1, _⟩ | ⟨x, _, h1, h2, _⟩
  · omega
  · omega
/-- a slice of strings that came in reads so -/
theorem rdS_of_row {w : World} {a : Option Addr} {len cap : Nat} {ss : List ByteArray} (h : RowS w a len cap ss) : RdS w w.heap.size a len (ss.take len) := by
  rcases h with ⟨rfl, rfl, rfl, rfl⟩ | ⟨x, rfl, h1, h2, h3, hc, hw⟩
  · exact RdS.nil w _ none
  · refine ⟨by simp; omega, fun z hz => hw z (List.mem_of_mem_take hz), fun hn => ?_⟩
    obtain ⟨b, off, spot⟩ := x
    have h0 := hc 0 (by omega)
    have hspot : spot = none := by simpa [Addr.add] using World.cell?_spot h0
    subst hspot
    refine ⟨b, off, rfl, by simpa [Addr.add] using SL.cell_lt h0, fun j hj => ?_⟩
    have h4 := hc j (by omega)
    rw [add_none] at h4
    rw [h4]
    simp [List.getD, hj]
end Go.Proofs.YthhmhcmlbpdlbaaGreat.MemS
