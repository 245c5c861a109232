/- The words of Mem for slices of strings: 'RdS', 'OwnS'. -/
import Derived.Test.YthhmhcmlbpdlbaaMem
namespace Go.Proofs.Ythhmhcmlbpdlbaa.MemS
open Go.RowKit Mem
set_option linter.unusedVariables false
set_option maxRecDepth 100000
abbrev EST : TypeId := 9
abbrev SST : TypeId := 9
def InS (s : ByteArray) : Prop := s.size ≤ maxLen
theorem info_str0 : (Try.prog.info? 9).map (fun i => (i.zero, i.size, i.bytes)) = some (some (.string ByteArray.empty), 1, 16) := by kernel_rfl
theorem info_str : ∃ i, Try.prog.info? EST = some i ∧ i.zero = some (.string .empty) ∧ i.size = 1 ∧ i.bytes ≤ 16 := by
  obtain ⟨i, h1, h2, h3, h4⟩ := info_parts info_str0
  exact ⟨i, h1, h2, h3, by omega⟩

/-- What a walk is told of a slice of strings that came in: it is nil, or it leads to a row of 'cap' cells, the first 'len' are its elements. -/
def RowS (w : World) (a : Option Addr) (len cap : Nat) (ss : List ByteArray) : Prop :=
  (a = none ∧ len = 0 ∧ cap = 0 ∧ ss = []) ∨
  ∃ x, a = some x ∧ len ≤ cap ∧ cap ≤ maxLen ∧ len ≤ ss.length ∧ (∀ i, i < ss.length → w.cell? (x.add i) = some (.string (ss.getD i .empty))) ∧ ∀ s ∈ ss, InS s
/-- strings lie from A on, below block B -/
structure RdS (w : World) (B : Nat) (A : Option Addr) (n : Nat) (zs : List ByteArray) : Prop where
  len : zs.length = n
  wf : ∀ z ∈ zs, InS z
  cells : 0 < n → ∃ b off, A = some ⟨b, off, none⟩ ∧ b < B ∧ ∀ j, j < n → w.cell? ⟨b, off + j, none⟩ = some (.string (zs.getD j .empty))
/-- the call made it: from block lo on, before block hi -/
structure OwnS (w : World) (lo hi : Nat) (A : Option Addr) (n c : Nat) (zs : List ByteArray) : Prop where
  len : zs.length = n
  wf : ∀ z ∈ zs, InS z
  row : w.ownsRow lo EST 1 (.slice A n c) n (zs.map (Value.string))
  hi : ∀ a, A = some a → a.block < hi
theorem getD_inS {zs : List ByteArray} (h : ∀ z ∈ zs, InS z) {j : Nat} (hj : j < zs.length) : InS (zs.getD j .empty) := by
  refine h _ ?_
  simp [List.getD, List.getElem?_eq_getElem hj]

section
variable {w w' w'' : World} {B B' lo hi n c m : Nat} {A A' A'' : Option Addr} {zs ys : List ByteArray}
theorem RdS.keep (h : RdS w B A n zs) (hk : ∀ i, i < B → w'.heap[i]? = w.heap[i]?) : RdS w' B A n zs :=
  ⟨h.len, h.wf, fun hn => by
    obtain ⟨b, off, e, hlt, hc⟩ := h.cells hn
    exact ⟨b, off, e, hlt, fun j hj => (World.cell?_of_block (a := ⟨b, off + j, none⟩) (hk b hlt)).trans (hc j hj)⟩⟩
theorem RdS.below (h : RdS w B A n zs) (hb : Below B' w w') (hB : B ≤ B') : RdS w' B A n zs := h.keep fun i hi => hb.block i (by omega)
theorem RdS.more (h : RdS w B A n zs) (hB : B ≤ B') : RdS w B' A n zs :=
  ⟨h.len, h.wf, fun hn => by
    obtain ⟨b, off, e, hlt, hc⟩ := h.cells hn
    exact ⟨b, off, e, by omega, hc⟩⟩
theorem RdS.nil (w : World) (B : Nat) (A : Option Addr) : RdS w B A 0 [] := ⟨rfl, by simp, fun h => absurd h (by omega)⟩
theorem RdS.alloc (h : RdS w B A n zs) (hB : B ≤ w.heap.size) (o : Obj) : RdS (w.alloc o) B A n zs := h.keep fun i hi => Below.heap_alloc w o i (by omega)
theorem RdS.fr (h : RdS w B A n zs) (hf : Fr lo hi w w') (hB : B ≤ lo) (hs : B ≤ w.heap.size) : RdS w' B A n zs := h.keep fun i hi => hf.block i (by omega) (.inl (by omega))
/-- a part of it -/
theorem RdS.part {b off : Nat} {i j : Nat} (h : RdS w B (some ⟨b, off, none⟩) n zs) (hij : i ≤ j) (hj : j ≤ n) (hlt : i < j) : RdS w B (some ⟨b, off + i, none⟩) (j - i) ((zs.take j).drop i) := by
  refine ⟨by simp [h.len]; omega, fun z hz => h.wf z (List.mem_of_mem_take (List.mem_of_mem_drop hz)), fun hn => ?_⟩
  obtain ⟨b', off', e, hlt, hc⟩ := h.cells (by omega)
  injection e with e
  injection e with e1 e2 e3
  subst e1 e2
  refine ⟨_, _, rfl, hlt, fun t ht => ?_⟩
  rw [Nat.add_assoc, hc (i + t) (by omega)]
  have hl := h.len
  simp [List.getD, show i + t < j by omega]
theorem OwnS.rd (h : OwnS w lo hi A n c zs) : RdS w hi A n zs := by
  refine ⟨h.len, h.wf, fun hn => ?_⟩
  rcases h.row.2 with ⟨h1, h2⟩ | ⟨g, cap, cur, h1, h2, h3, h4, h5, h6, h7⟩
  · omega
  · injection h1 with e1 e2 e3
    subst e1
    refine ⟨g, 0, rfl, h.hi _ rfl, fun j hj => ?_⟩
    have := h.row.cells (g := g) rfl j (.string (zs.getD j .empty)) (by
      have hl := h.len
      simp [List.getD, List.getElem?_eq_getElem (show j < zs.length by omega)])
    rwa [add_none] at this
theorem OwnS.cap (h : OwnS w lo hi A n c zs) : n ≤ c ∧ c ≤ maxLen := by
  rcases h.row.2 with ⟨h1, h2⟩ | ⟨g, cap, cur, h1, h2, h3, h4, h5, h6, h7⟩
  · injection h1 with e1 e2 e3
    subst e3
    exact ⟨by omega, by simp [maxLen]⟩
  · injection h1 with e1 e2 e3
    subst e3
    exact ⟨h4, h5⟩
theorem OwnS.keep (h : OwnS w lo hi A n c zs) (hk : ∀ i, i < w.heap.size → lo ≤ i → i < hi → w'.heap[i]? = w.heap[i]?) : OwnS w' lo hi A n c zs := by
  refine ⟨h.len, h.wf, ⟨h.row.1, ?_⟩, h.hi⟩
  rcases h.row.2 with hn | ⟨g, cap, cur, h1, h2, h3, r⟩
  · exact .inl hn
  · refine .inr ⟨g, cap, cur, h1, h2, ?_, r⟩
    injection h1 with e1 e2 e3
    have hlt : g < w.heap.size := (Array.getElem?_eq_some_iff.1 h3).1
    rw [hk g hlt h2 (h.hi _ e1)]
    exact h3
theorem OwnS.below (h : OwnS w lo hi A n c zs) (hb : Below B w w') (hB : hi ≤ B) : OwnS w' lo hi A n c zs := h.keep fun i _ _ h2 => hb.block i (by omega)
theorem OwnS.fr {lo' hi' : Nat} (h : OwnS w lo hi A n c zs) (hf : Fr lo' hi' w w') (hd : hi ≤ lo' ∨ hi' ≤ lo) : OwnS w' lo hi A n c zs := h.keep fun i h0 h1 h2 => hf.block i h0 (by omega)
theorem OwnS.alloc (h : OwnS w lo hi A n c zs) (o : Obj) : OwnS (w.alloc o) lo hi A n c zs := h.keep fun i h0 _ _ => Below.heap_alloc w o i h0
theorem OwnS.top (h : OwnS w lo hi A n c zs) : OwnS w lo w.heap.size A n c zs :=
  ⟨h.len, h.wf, h.row, fun a e => (h.row.lt a.block (by simp [Value.ownBlock, e])).2⟩
theorem OwnS.base {lo' : Nat} (h : OwnS w lo hi A n c zs) (hl : lo' ≤ lo) : OwnS w lo' hi A n c zs := by
  refine ⟨h.len, h.wf, ⟨h.row.1, ?_⟩, h.hi⟩
  rcases h.row.2 with hn | ⟨g, cap, cur, h1, h2, r⟩
  · exact .inl hn
  · exact .inr ⟨g, cap, cur, h1, by omega, r⟩
theorem OwnS.wide {hi' : Nat} (h : OwnS w lo hi A n c zs) (hl : hi ≤ hi') : OwnS w lo hi' A n c zs := ⟨h.len, h.wf, h.row, fun a e => by have := h.hi a e; omega⟩
theorem OwnS.nil (w : World) (lo hi : Nat) : OwnS w lo hi none 0 0 [] := ⟨rfl, by simp, World.ownsRow_nil _ _ _ _, by simp⟩
/-- '[]T{}' -/
theorem OwnS.lit0 (w : World) (hl : lo ≤ w.heap.size) : OwnS (w.alloc (.cells #[] EST)) lo (w.heap.size + 1) (some ⟨w.heap.size, 0, none⟩) 0 0 [] :=
  ⟨rfl, by simp, World.ownsRow_made w #[] 0 hl (by simp [maxLen]) (by simp), fun a e => by injection e with e; subst e; simp⟩
/-- '[]T{x}' -/
theorem OwnS.lit1 (w : World) {z : ByteArray} (hz : InS z) (hl : lo ≤ w.heap.size) : OwnS (w.alloc (.cells #[.string z] EST)) lo (w.heap.size + 1) (some ⟨w.heap.size, 0, none⟩) 1 1 [z] :=
  ⟨rfl, by simpa using hz, World.ownsRow_lit w #[.string z] 1 hl (by simp [maxLen]) (by simp), fun a e => by injection e with e; subst e; simp⟩
/-- a cell is written -/
theorem OwnS.set (h : OwnS w lo hi A n c zs) {i : Nat} (hi' : i < n) (z : ByteArray) (hz : InS z) :
    ∃ g, A = some ⟨g, 0, none⟩ ∧ lo ≤ g ∧ g < hi ∧ w.cell? ⟨g, i, none⟩ = some (.string (zs.getD i .empty)) ∧ w.frozen? ⟨g, i, none⟩ = false ∧ OwnS (w.setCell ⟨g, i, none⟩ (.string z)) lo hi A n c (zs.set i z) := by
  obtain ⟨b, off, e, hlt, hc⟩ := h.rd.cells (by omega)
  rcases h.row.2 with ⟨_, h2⟩ | ⟨g, cap, cur, h1, h2, h3, h4, h5, h6, h7⟩
  · omega
  · injection h1 with e1 e2 e3
    subst e1
    injection e with e
    injection e with e4 e5 e6
    subst e4 e5
    have hr := h.row
    refine ⟨g, rfl, h2, hlt, by simpa using hc i hi', hr.frozenAt i, ⟨by simpa using h.len, fun y hy => ?_, ?_, h.hi⟩⟩
    · rcases List.mem_or_eq_of_mem_set hy with hy | rfl
      · exact h.wf y hy
      · exact hz
    · rw [List.map_set]
      exact (hr.stored i _).1
theorem RdS.same (h : RdS w B A n zs) (hs : Same w w') : RdS w' B A n zs := h.keep fun i _ => by rw [hs.heap]
theorem OwnS.same (h : OwnS w lo hi A n c zs) (hs : Same w w') : OwnS w' lo hi A n c zs := h.keep fun i _ _ _ => by rw [hs.heap]
theorem RdS.cell_at (h : RdS w B A n zs) {j : Nat} (hj : j < n) : ∃ b off, A = some ⟨b, off, none⟩ ∧ b < B ∧ w.cell? ⟨b, off + j, none⟩ = some (.string (zs.getD j .empty)) := by
  obtain ⟨b, off, e, hlt, hc⟩ := h.cells (by omega)
  exact ⟨b, off, e, hlt, hc j hj⟩
theorem OwnS.ge (h : OwnS w lo hi A n c zs) : ∀ a, A = some a → lo ≤ a.block := fun a e => (h.row.lt a.block (by simp [Value.ownBlock, e])).1
end

/-- 'append(s, x...)', s the call's own, x whatever reads as numbers -/
theorem run_appT {T : TypeId} (hu : Try.prog.underlying T = some (.slice EST)) {w : World} {lo hi B n c m c2 : Nat} {A A2 : Option Addr} {zs ys : List ByteArray} (h : OwnS w lo hi A n c zs) (hr : RdS w B A2 m ys) (hb : n + m ≤ 8796093022208) (hlo : lo ≤ w.heap.size) (ty : TypeId) :
    ∃ A' c' w', (Builtin.append_ #[T, T] ty #[.slice A n c, .slice A2 m c2]).run Try.prog w = .ok (.slice A' (n + m) c') w' ∧ OwnS w' lo w'.heap.size A' (n + m) c' (zs ++ ys) ∧ Gr A w A' w' := by
  obtain ⟨i, h1, h2, h3, h4⟩ := info_str
  have wf : ∀ z ∈ zs ++ ys, InS z := fun z hz => by
    rcases List.mem_append.1 hz with hz | hz
    · exact h.wf z hz
    · exact hr.wf z hz
  have hlen : (zs ++ ys).length = n + m := by rw [List.length_append, h.len, hr.len]
  have hob : (Value.slice A n c).ownBlock = A.map (·.block) := by cases A <;> rfl
  rcases A2 with _ | ad
  · have hm : m = 0 := by
      rcases Nat.eq_zero_or_pos m with h0 | h0
      · exact h0
      · obtain ⟨_, _, e, _⟩ := hr.cells h0
        cases e
    subst hm
    have hy : ys = [] := List.eq_nil_of_length_eq_zero hr.len
    subst hy
    refine ⟨A, c, w, ?_, ?_, Gr.refl _ _⟩
    · rcases h.row.2 with ⟨h5, h6⟩ | ⟨g, cap, cur, h5, _, _, h6, _⟩
      · injection h5 with e1 e2 e3
        subst e1 e2 e3
        simp [Builtin.append_, run_underlying hu, sizeOf, typeInfo, h1, Builtin.lenOf, Builtin.firstCells]
      · injection h5 with e1 e2 e3
        subst e1 e3
        simp [Builtin.append_, run_underlying hu, sizeOf, typeInfo, h1, Builtin.lenOf, Builtin.firstCells, h6, storeCells]
    · have := h.top
      simpa using this
  · have hcells : ∀ j u, (ys.map (Value.string))[j]? = some u → w.cell? (ad.add j) = some u := fun j u hu => by
      have hj : j < ys.length := by
        rcases Nat.lt_or_ge j ys.length with hj | hj
        · exact hj
        · rw [List.getElem?_eq_none (by simpa using hj)] at hu
          cases hu
      obtain ⟨b, off, e, _, hc⟩ := hr.cells (by have := hr.len; omega)
      injection e with e
      subst e
      rw [add_none, hc j (by have := hr.len; omega), ← hu]
      simp [List.getD, List.getElem?_eq_getElem hj]
    have hbb : (n + m) * i.bytes ≤ (n + m) * 16 := Nat.mul_le_mul_left _ h4
    obtain ⟨v', w', hrun, hown, hg, hnil, hat⟩ := run_append_own_at (P := Try.prog) w lo T ty EST i (.string .empty) 1 i.bytes hu h1 h2 h3 rfl rfl (by omega) (.slice A n c) n _ h.row ad m c2 (ys.map (Value.string)) (by simp [hr.len]) hcells
      (by intro u hu; obtain ⟨z, _, rfl⟩ := List.mem_map.1 hu; rfl) (by simp only [maxLen]; omega) (by omega) hlo
    rw [hob] at hg hat
    have hv : ∃ A' c', v' = .slice A' (n + m) c' := by
      rcases hown.2 with ⟨h5, h6⟩ | ⟨g, cap, cur, h5, _⟩
      · exact ⟨none, 0, by rw [h5, h6]⟩
      · exact ⟨_, _, h5⟩
    obtain ⟨A', c', rfl⟩ := hv
    refine ⟨A', c', w', hrun, ⟨hlen, wf, by simpa using hown, fun a e => (hown.lt a.block (by simp [Value.ownBlock, e])).2⟩, hg, fun a e => ?_⟩
    subst e
    rcases hat with hat | hat
    · exact .inl (by rw [← hat]; rfl)
    · have : a.block = w.heap.size := by simpa [Value.ownBlock] using hat
      exact .inr (by omega)
/-- the same, at the operation -/
theorem wp_appT {T : TypeId} (hu : Try.prog.underlying T = some (.slice EST)) {w : World} {ops : Array Oper} {rest : List Oper} {o : Oper} {a : Act} {Q : Exit → Act → World → Prop} (hgd : Region.wanted o (yielded ops a.tmps) = true) (s x : Operand)
    (ho : o.op = .call { callee := .builtin .append, args := #[s, x], argTypes := #[T, T] })
    {lo hi B n c m c2 : Nat} {A A2 : Option Addr} {zs ys : List ByteArray} (hs : a.eval s = .slice A n c) (h : OwnS w lo hi A n c zs) (hx : a.eval x = .slice A2 m c2) (hr : RdS w B A2 m ys) (hb : n + m ≤ 8796093022208) (hlo : lo ≤ w.heap.size)
    (hK : ∀ A' c' w', OwnS w' lo w'.heap.size A' (n + m) c' (zs ++ ys) → Gr A w A' w' → wpList Try.prog ops Q rest (a.put o.dst (.slice A' (n + m) c')) w') :
    wpList Try.prog ops Q (o :: rest) a w := by
  refine wpList_step fun K hK' => ?_
  rw [if_pos hgd]
  obtain ⟨A', c', w', hrun, h1, h2⟩ := run_appT hu h hr hb hlo o.type (c2 := c2)
  unfold Oper.wp execOp
  simp only [ho, resolve, invoke, builtin, Sem.run_bind, Sem.run_pure, Result.andThen_ok, List.map_toArray, List.map_cons, List.map_nil, hs, hx, hrun]
  exact hK' _ _ (hK _ _ _ h1 h2)
theorem rdS_new (w : World) {z : ByteArray} (hz : InS z) : RdS (w.alloc (.cells #[.string z] EST)) (w.heap.size + 1) (some ⟨w.heap.size, 0, none⟩) 1 [z] :=
  ⟨rfl, by simpa using hz, fun _ => ⟨_, _, rfl, by omega, fun j hj => by
    have hj0 : j = 0 := by omega
    subst hj0
    simp⟩⟩
theorem rowS_cap {w : World} {a : Option Addr} {len cap : Nat} {ss : List ByteArray} (h : RowS w a len cap ss) : len ≤ cap := by
  rcases h with ⟨_, h1, _⟩ | ⟨x, _, h1, _⟩
  · omega
  · exact h1
theorem rowS_le {w : World} {a : Option Addr} {len cap : Nat} {ss : List ByteArray} (h : RowS w a len cap ss) : len ≤ maxLen := by
  rcases h with ⟨_, h1, _⟩ | ⟨x, _, h1, h2, _⟩
  · omega
  · omega
/-- a slice of strings that came in reads so -/
theorem rdS_of_row {w : World} {a : Option Addr} {len cap : Nat} {ss : List ByteArray} (h : RowS w a len cap ss) : RdS w w.heap.size a len (ss.take len) := by
  rcases h with ⟨rfl, rfl, rfl, rfl⟩ | ⟨x, rfl, h1, h2, h3, hc, hw⟩
  · exact RdS.nil w _ none
  · refine ⟨by simp; omega, fun z hz => hw z (List.mem_of_mem_take hz), fun hn => ?_⟩
    obtain ⟨b, off, spot⟩ := x
    have h0 := hc 0 (by omega)
    have hspot : spot = none := by simpa [Addr.add] using World.cell?_spot h0
    subst hspot
    refine ⟨b, off, rfl, by simpa [Addr.add] using SL.cell_lt h0, fun j hj => ?_⟩
    have h4 := hc j (by omega)
    rw [add_none] at h4
    rw [h4]
    simp [List.getD, hj]
end Go.Proofs.Ythhmhcmlbpdlbaa.MemS
