/- Rows of structs without inner memory: a datum z lies as the cells f z. -/
import Derived.Test.YthhmhcmlbpdlbaaGreatRep
namespace Go.Proofs.YthhmhcmlbpdlbaaGreat.Flat
open Go.RowKit Mem MemS Rep RepA
set_option linter.unusedVariables false
set_option maxRecDepth 100000
theorem copy_setF {α : Type} {d : α} {n j : Nat} {zs : List α} (hl : zs.length = n) (hj : j < n) : (zs.take j ++ List.replicate (n - j) d).set j (zs.getD j d) = zs.take (j + 1) ++ List.replicate (n - (j + 1)) d := by
  have hm : (zs.take j).length = j := by simp; omega
  rw [List.set_append_right _ _ (by omega), hm, Nat.sub_self]
  rw [show n - j = (n - (j + 1)) + 1 by omega, List.replicate_succ, List.set_cons_zero, List.take_succ_eq_append_getElem (show j < zs.length by omega)]
  simp only [List.getD, List.getElem?_eq_getElem (show j < zs.length by omega), Option.getD_some, List.append_assoc, List.cons_append, List.nil_append]
structure Fl {α : Type} (R : Rep α) (f : α → List Value) (Q : α → Prop) : Prop where
  rd : ∀ {w P cs z}, R.rd w P cs z ↔ cs = f z ∧ Q z
  own : ∀ {w F cs z}, R.own w F cs z ↔ F = [] ∧ cs = f z ∧ Q z
  fl : ∀ z, (f z).length = R.n
  pos : 0 < R.n
/-- n data lie from A on, below block B -/
structure FRd {α : Type} [Inhabited α] (k : Nat) (f : α → List Value) (Q : α → Prop) (w : World) (B : Nat) (A : Option Addr) (n : Nat) (zs : List α) : Prop where
  len : zs.length = n
  wf : ∀ z ∈ zs, Q z
  cells : 0 < n → ∃ b off, A = some ⟨b, off, none⟩ ∧ b < B ∧ ∀ i j, i < n → j < k → w.cell? ⟨b, off + (i * k + j), none⟩ = (f (zs.getD i default))[j]?
/-- the call made them: from block lo on, before block hi -/
structure FOwn {α : Type} (ty : TypeId) (k : Nat) (f : α → List Value) (Q : α → Prop) (w : World) (lo hi : Nat) (A : Option Addr) (n c : Nat) (zs : List α) : Prop where
  len : zs.length = n
  wf : ∀ z ∈ zs, Q z
  row : w.ownsRow lo ty k (.slice A n c) n (zs.map f).flatten
  hi : ∀ a, A = some a → a.block < hi
section
variable {α : Type} {R : Rep α} {f : α → List Value} {Q : α → Prop} {w w' : World} {A : Option Addr} {n c lo hi B : Nat} {zs : List α}
theorem els_of (h : Fl R f Q) : ∀ {Fe raw} {zs : List α}, Els R w Fe raw zs → Fe = [] ∧ raw = zs.map f ∧ ∀ z ∈ zs, Q z := by
  intro Fe raw zs hE
  induction hE with
  | nil => exact ⟨rfl, rfl, by simp⟩
  | cons h1 _ ih =>
    obtain ⟨rfl, rfl, hq⟩ := h.own.1 h1
    obtain ⟨rfl, rfl, hq2⟩ := ih
    exact ⟨rfl, rfl, fun z hz => by
      rcases List.mem_cons.1 hz with rfl | hz
      · exact hq
      · exact hq2 z hz⟩
theorem els_to (h : Fl R f Q) : ∀ {zs : List α}, (∀ z ∈ zs, Q z) → Els R w [] (zs.map f) zs
  | [], _ => .nil
  | z :: zs, hq => by
    have := Els.cons (R := R) (w := w) (F1 := []) (F2 := []) (h.own.2 ⟨rfl, rfl, hq z (by simp)⟩) (els_to h (zs := zs) fun y hy => hq y (by simp [hy]))
    simpa using this
theorem FOwn.of (h : Fl R f Q) (ho : Owns R w lo hi A n c zs) : FOwn R.ty R.n f Q w lo hi A n c zs := by
  obtain ⟨F, ⟨raw, Fe, h1, rfl, h3, h4⟩, _, hF⟩ := ho.has
  obtain ⟨rfl, rfl, hq⟩ := els_of h h4
  refine ⟨h1, hq, row_base h3 fun a e => ?_, fun a e => ?_⟩
  · exact (hF a.block (by subst e; simp [blk])).1
  · exact (hF a.block (by subst e; simp [blk])).2
theorem FOwn.to (h : Fl R f Q) (ho : FOwn R.ty R.n f Q w lo hi A n c zs) : Owns R w lo hi A n c zs := by
  refine ⟨blk A, ⟨zs.map f, [], ho.len, by simp, row_base (B := 0) ho.row fun a e => Nat.zero_le _, els_to h ho.wf⟩, ?_, fun b hb => ?_⟩
  · cases A <;> simp [blk]
  · cases A with
    | none => cases hb
    | some a =>
      have e : b = a.block := by simpa [blk] using hb
      subst e
      exact ⟨(ho.row.lt a.block (by simp [Value.ownBlock])).1, ho.hi a rfl⟩
theorem FRd.of [Inhabited α] (h : Fl R f Q) (hr : Rds R w (Lt B) A n zs) : FRd R.n f Q w B A n zs := by
  refine ⟨hr.len, fun z hz => ?_, fun hn => ?_⟩
  · obtain ⟨i, hi, e⟩ := List.mem_iff_getElem.1 hz
    have hn : 0 < n := by have := hr.len; omega
    obtain ⟨b, off, _, _, hc⟩ := hr.cells hn
    obtain ⟨cs, h1, _⟩ := hc i z (by rw [← e]; exact List.getElem?_eq_getElem hi)
    exact (h.rd.1 h1).2
  · obtain ⟨b, off, e, hb, hc⟩ := hr.cells hn
    refine ⟨b, off, e, hb, fun i j hi hj => ?_⟩
    obtain ⟨cs, h1, h2⟩ := hc i (zs.getD i default) (by simp [List.getD, List.getElem?_eq_getElem (show i < zs.length by have := hr.len; omega)])
    rw [h2 j hj, (h.rd.1 h1).1]
theorem FRd.to [Inhabited α] (h : Fl R f Q) (hr : FRd R.n f Q w B A n zs) : Rds R w (Lt B) A n zs := by
  refine ⟨hr.len, fun hn => ?_⟩
  obtain ⟨b, off, e, hb, hc⟩ := hr.cells hn
  refine ⟨b, off, e, hb, fun i z hz => ?_⟩
  obtain ⟨hi, e2⟩ := List.getElem?_eq_some_iff.1 hz
  refine ⟨f z, h.rd.2 ⟨rfl, hr.wf z (List.mem_of_getElem? hz)⟩, fun j hj => ?_⟩
  rw [hc i j (by have := hr.len; omega) hj]
  simp [List.getD, hz]
theorem flat_set {k : Nat} {v : Value} : ∀ {raw : List (List Value)} {i j : Nat} {cs : List Value}, (∀ cs ∈ raw, cs.length = k) → raw[i]? = some cs → j < k → raw.flatten.set (i * k + j) v = (raw.set i (cs.set j v)).flatten
  | [], i, j, cs, _, h, _ => by simp at h
  | x :: r, 0, j, cs, hl, h, hj => by
    simp at h
    subst h
    have hx := hl x (by simp)
    rw [Nat.zero_mul, Nat.zero_add, List.flatten_cons, List.set_append_left _ _ (by omega)]
    simp
  | x :: r, i + 1, j, cs, hl, h, hj => by
    have hx := hl x (by simp)
    have ih := flat_set (v := v) (raw := r) (i := i) (j := j) (cs := cs) (fun c hc => hl c (by simp [hc])) (by simpa using h) hj
    have e : (i + 1) * k + j - x.length = i * k + j := by rw [Nat.succ_mul, hx]; omega
    rw [List.flatten_cons, List.set_append_right _ _ (by rw [Nat.succ_mul, hx]; omega), e, ih]
    simp
/-- a field of an element is written -/
theorem FOwn.set [Inhabited α] {ty : TypeId} {k : Nat} (h : FOwn ty k f Q w lo hi A n c zs) (hf : ∀ z, (f z).length = k) {i j : Nat} (hi' : i < n) (hj : j < k) :
    ∃ g, A = some ⟨g, 0, none⟩ ∧ lo ≤ g ∧ g < hi ∧ w.cell? ⟨g, i * k + j, none⟩ = (f (zs.getD i default))[j]? ∧ w.frozen? ⟨g, i * k + j, none⟩ = false ∧
      ∀ v z', Q z' → f z' = (f (zs.getD i default)).set j v → FOwn ty k f Q (w.setCell ⟨g, i * k + j, none⟩ v) lo hi A n c (zs.set i z') := by
  have hil : i < zs.length := by rw [h.len]; exact hi'
  have hget : zs.getD i default = zs[i] := by simp [List.getD, hil]
  have hcl : ∀ cs ∈ zs.map f, cs.length = k := fun cs hcs => by
    obtain ⟨z, _, rfl⟩ := List.mem_map.1 hcs
    exact hf z
  rcases h.row.2 with ⟨_, h2⟩ | ⟨g, cap, cur, h1, h2, h3, h4, h5, h6, h7⟩
  · omega
  · injection h1 with e1 e2 e3
    subst e1
    have hr := h.row
    refine ⟨g, rfl, h2, h.hi _ rfl, ?_, hr.frozenAt _, fun v z' hq he => ⟨by simpa using h.len, fun y hy => ?_, ?_, h.hi⟩⟩
    · have hlt : i * k + j < (zs.map f).flatten.length := by
        rw [flat_len hcl, List.length_map]
        have : i * k + k ≤ zs.length * k := by
          rw [← Nat.succ_mul]
          exact Nat.mul_le_mul_right _ hil
        omega
      have hcell := flat_get (raw := zs.map f) (i := i) (j := j) (cs := f zs[i]) hcl (by simp [hil]) hj
      rw [hget, ← hcell]
      exact hr.cellAt (i * k + j) (by have h1 := h.len; rw [flat_len hcl, List.length_map, h1] at hlt; exact hlt)
    · rcases List.mem_or_eq_of_mem_set hy with hy | rfl
      · exact h.wf y hy
      · exact hq
    · have := (hr.stored (i * k + j) v).1
      have e : (zs.map f).flatten.set (i * k + j) v = ((zs.set i z').map f).flatten := by
        rw [flat_set (cs := f zs[i]) hcl (by simp [hil]) hj, List.map_set, he, hget]
      rw [← e]
      exact this
theorem FOwn.rd [Inhabited α] {ty : TypeId} {k : Nat} (h : FOwn ty k f Q w lo hi A n c zs) (hf : ∀ z, (f z).length = k) : FRd k f Q w hi A n zs := by
  refine ⟨h.len, h.wf, fun hn => ?_⟩
  rcases h.row.2 with ⟨_, h2⟩ | ⟨g, cap, cur, h1, _⟩
  · omega
  · injection h1 with e1 e2 e3
    subst e1
    refine ⟨g, 0, rfl, h.hi _ rfl, fun i j hi hj => ?_⟩
    obtain ⟨g', e, _, _, hc, _⟩ := h.set hf hi hj
    injection e with e
    injection e with e
    subst e
    rw [Nat.zero_add]
    exact hc
theorem FOwn.keep {ty : TypeId} {k : Nat} (h : FOwn ty k f Q w lo hi A n c zs) (hk : ∀ i, i < w.heap.size → lo ≤ i → i < hi → w'.heap[i]? = w.heap[i]?) : FOwn ty k f Q w' lo hi A n c zs := by
  refine ⟨h.len, h.wf, ⟨h.row.1, ?_⟩, h.hi⟩
  rcases h.row.2 with hn | ⟨g, cap, cur, h1, h2, h3, r⟩
  · exact .inl hn
  · refine .inr ⟨g, cap, cur, h1, h2, ?_, r⟩
    injection h1 with e1 e2 e3
    have hlt : g < w.heap.size := (Array.getElem?_eq_some_iff.1 h3).1
    rw [hk g hlt h2 (h.hi _ e1)]
    exact h3
theorem FOwn.below {ty : TypeId} {k B : Nat} (h : FOwn ty k f Q w lo hi A n c zs) (hb : Below B w w') (hB : hi ≤ B) : FOwn ty k f Q w' lo hi A n c zs := h.keep fun i _ _ h2 => hb.block i (by omega)
theorem FOwn.alloc {ty : TypeId} {k : Nat} (h : FOwn ty k f Q w lo hi A n c zs) (o : Obj) : FOwn ty k f Q (w.alloc o) lo hi A n c zs := h.keep fun i h0 _ _ => Below.heap_alloc w o i h0
theorem FOwn.fr {ty : TypeId} {k : Nat} {lo' hi' : Nat} (h : FOwn ty k f Q w lo hi A n c zs) (hf : Fr lo' hi' w w') (hd : hi ≤ lo' ∨ hi' ≤ lo) : FOwn ty k f Q w' lo hi A n c zs := h.keep fun i h0 h1 h2 => hf.block i h0 (by omega)
theorem FOwn.top {ty : TypeId} {k : Nat} (h : FOwn ty k f Q w lo hi A n c zs) : FOwn ty k f Q w lo w.heap.size A n c zs :=
  ⟨h.len, h.wf, h.row, fun a e => (h.row.lt a.block (by simp [Value.ownBlock, e])).2⟩
theorem FOwn.base {ty : TypeId} {k : Nat} {lo' : Nat} (h : FOwn ty k f Q w lo hi A n c zs) (hl : lo' ≤ lo) : FOwn ty k f Q w lo' hi A n c zs :=
  ⟨h.len, h.wf, row_base h.row fun a e => Nat.le_trans hl (h.row.lt a.block (by simp [Value.ownBlock, e])).1, h.hi⟩
theorem FRd.keep [Inhabited α] {k : Nat} (h : FRd k f Q w B A n zs) (hk : ∀ i, i < B → w'.heap[i]? = w.heap[i]?) : FRd k f Q w' B A n zs :=
  ⟨h.len, h.wf, fun hn => by
    obtain ⟨b, off, e, hb, hc⟩ := h.cells hn
    exact ⟨b, off, e, hb, fun i j hi hj => (World.cell?_of_block (a := ⟨b, off + (i * k + j), none⟩) (hk b hb)).trans (hc i j hi hj)⟩⟩
theorem FRd.below [Inhabited α] {k B' : Nat} (h : FRd k f Q w B A n zs) (hb : Below B' w w') (hB : B ≤ B') : FRd k f Q w' B A n zs := h.keep fun i hi => hb.block i (by omega)
theorem FRd.more [Inhabited α] {k B' : Nat} (h : FRd k f Q w B A n zs) (hB : B ≤ B') : FRd k f Q w B' A n zs :=
  ⟨h.len, h.wf, fun hn => by
    obtain ⟨b, off, e, hb, hc⟩ := h.cells hn
    exact ⟨b, off, e, by omega, hc⟩⟩
theorem FRd.alloc [Inhabited α] {k : Nat} (h : FRd k f Q w B A n zs) (hB : B ≤ w.heap.size) (o : Obj) : FRd k f Q (w.alloc o) B A n zs := h.keep fun i hi => Below.heap_alloc w o i (by omega)
theorem FRd.fr [Inhabited α] {k lo hi : Nat} (h : FRd k f Q w B A n zs) (hf : Fr lo hi w w') (hB : B ≤ lo) (hs : B ≤ w.heap.size) : FRd k f Q w' B A n zs := h.keep fun i hi => hf.block i (by omega) (.inl (by omega))
theorem FRd.same [Inhabited α] {k : Nat} (h : FRd k f Q w B A n zs) (hs : Same w w') : FRd k f Q w' B A n zs := h.keep fun i _ => by rw [hs.heap]
theorem FOwn.same {ty : TypeId} {k : Nat} (h : FOwn ty k f Q w lo hi A n c zs) (hs : Same w w') : FOwn ty k f Q w' lo hi A n c zs := h.keep fun i _ _ _ => by rw [hs.heap]
theorem FOwn.cap {ty : TypeId} {k : Nat} (h : FOwn ty k f Q w lo hi A n c zs) : n ≤ c ∧ c ≤ maxLen := by
  rcases h.row.2 with ⟨h1, h2⟩ | ⟨g, cap, cur, h1, h2, h3, h4, h5, h6, h7⟩
  · injection h1 with _ e2 e3
    subst e3
    exact ⟨by omega, by simp [maxLen]⟩
  · injection h1 with _ _ e3
    subst e3
    exact ⟨h4, h5⟩
theorem FRd.cell_at [Inhabited α] {k : Nat} (h : FRd k f Q w B A n zs) {i : Nat} (hi : i < n) : ∃ b off, A = some ⟨b, off, none⟩ ∧ b < B ∧ ∀ j, j < k → w.cell? ⟨b, off + (i * k + j), none⟩ = (f (zs.getD i default))[j]? := by
  obtain ⟨b, off, e, hb, hc⟩ := h.cells (by omega)
  exact ⟨b, off, e, hb, fun j hj => hc i j hi hj⟩
theorem FRd.getQ [Inhabited α] {k : Nat} (h : FRd k f Q w B A n zs) {i : Nat} (hi : i < n) : Q (zs.getD i default) := by
  have hl := h.len
  simp only [List.getD, List.getElem?_eq_getElem (show i < zs.length by omega), Option.getD_some]
  exact h.wf _ (List.getElem_mem _)
/-- 'append(s, x...)' on flat rows -/
theorem wp_appF [Inhabited α] {ops : Array Oper} {rest : List Oper} {o : Oper} {a : Act} {P : Exit → Act → World → Prop} {st : TypeId} {m c2 : Nat} {A2 : Option Addr} {ys : List α} (hF : Fl R f Q) (ti : Ti R st) (hone : ∀ z, Q z → ∀ u ∈ f z, u.oneCell' = true) (hgd : Region.wanted o (yielded ops a.tmps) = true) (s x : Operand)
    (ho : o.op = .call { callee := .builtin .append, args := #[s, x], argTypes := #[st, st] })
    (hs : a.eval s = .slice A n c) (h : FOwn R.ty R.n f Q w lo hi A n c zs) (hx : a.eval x = .slice A2 m c2) (hr : FRd R.n f Q w B A2 m ys) (hb : n + m ≤ 68719476736) (hlo : lo ≤ w.heap.size)
    (hK : ∀ A' c' w', FOwn R.ty R.n f Q w' lo w'.heap.size A' (n + m) c' (zs ++ ys) → Gr A w A' w' → wpList Tryz.prog ops P rest (a.put o.dst (.slice A' (n + m) c')) w') :
    wpList Tryz.prog ops P (o :: rest) a w := by
  have hge : ∀ a, A = some a → lo ≤ a.block := fun a e => (h.row.lt a.block (by simp [Value.ownBlock, e])).1
  have hrow : RowR R w A n c (zs.map f) := ⟨by simpa using h.len, fun cs hcs => by
    obtain ⟨z, _, rfl⟩ := List.mem_map.1 hcs
    exact hF.fl z, row_base h.row fun a e => Nat.zero_le _⟩
  have hsrc : Src R w A2 m (ys.map f) := ⟨by simpa using hr.len, fun cs hcs => by
    obtain ⟨z, _, rfl⟩ := List.mem_map.1 hcs
    exact hF.fl z, fun cs hcs u hu => by
    obtain ⟨z, hz, rfl⟩ := List.mem_map.1 hcs
    exact hone z (hr.wf z hz) u hu, fun hm => by
    obtain ⟨b, off, e, _, hc⟩ := hr.cells hm
    refine ⟨b, off, e, fun i cs hi j hj => ?_⟩
    obtain ⟨hil, e2⟩ := List.getElem?_eq_some_iff.1 hi
    rw [List.length_map] at hil
    rw [hc i j (by have := hr.len; omega) hj, ← e2]
    simp [List.getD, hil]⟩
  refine wp_appR ti hgd s x ho hs hrow hx hsrc hb fun A' c' w' h1 h2 => hK A' c' w' ⟨by rw [List.length_append, h.len, hr.len], fun z hz => ?_, ?_, fun a e => ?_⟩ h2
  · rcases List.mem_append.1 hz with hz | hz
    · exact h.wf z hz
    · exact hr.wf z hz
  · rw [List.map_append]
    refine row_base h1.row fun a e => ?_
    rcases h2.2 a e with h3 | h3
    · cases hA : A with
      | none => rw [hA] at h3; cases h3
      | some a0 =>
        rw [hA] at h3
        injection h3 with h3
        have := hge a0 hA
        have h4 : a0.block = a.block := h3
        omega
    · omega
  · exact (h1.row.lt a.block (by simp [Value.ownBlock, e])).2
/-- 'make([]T, n)' -/
theorem wp_makeF {ops : Array Oper} {rest : List Oper} {o : Oper} {a : Act} {P : Exit → Act → World → Prop} {st ty : TypeId} {k : Nat} {z : Value} {i : TypeInfo} {dz : α} (hu : Tryz.prog.underlying st = some (.slice ty)) (h1 : Tryz.prog.info? ty = some i) (h2 : i.zero = some z) (h3 : i.size = k) (h4 : i.bytes ≤ 1024) (hk : 0 < k)
    (hz : z.cells.toList = f dz) (hfl : (f dz).length = k) (hq : Q dz) (hgd : o.guard = none) (l c : Operand) (ho : o.op = Op.makeSlice st l c)
    (hl : a.eval l = .int .i64 n) (hc : a.eval c = .int .i64 n) (hb : n ≤ 68719476736)
    (hK : ∀ w', FOwn ty k f Q w' w.heap.size w'.heap.size (some ⟨w.heap.size, 0, none⟩) n n (List.replicate n dz) → Below w.heap.size w w' → wpList Tryz.prog ops P rest (a.put o.dst (.slice (some ⟨w.heap.size, 0, none⟩) n n)) w') :
    wpList Tryz.prog ops P (o :: rest) a w := by
  have hbb : i.bytes * n ≤ 1024 * n := Nat.mul_le_mul_right _ h4
  have hzs : z.cells.size = k := by rw [← hfl, ← hz, Array.length_toList]
  refine wpList_make_full w hgd l c st ho w.heap.size ty i z k hu h1 h2 h3 .i64 .i64 n n n hl hc rfl rfl (by omega) (by simp only [maxLen]; omega) (Nat.le_refl _) fun w' hown hg => hK w' ⟨by simp, ?_, ?_, fun a e => (hown.lt a.block (by injection e with e; subst e; rfl)).2⟩ ((Below.refl _ _).grown hg (Nat.le_refl _) (by simp))
  · intro y hy
    rw [(List.mem_replicate.1 hy).2]
    exact hq
  · have e : (madeCells z.cells (n * k)).toList = ((List.replicate n dz).map f).flatten := by
      have hcl : ∀ cs ∈ (List.replicate n dz).map f, cs.length = k := fun cs hcs => by
        obtain ⟨y, hy, rfl⟩ := List.mem_map.1 hcs
        rw [(List.mem_replicate.1 hy).2]
        exact hfl
      have hlen : ((List.replicate n dz).map f).flatten.length = n * k := by rw [flat_len hcl]; simp
      apply List.ext_getElem?
      intro j
      by_cases hj : j < n * k
      · have hjk : j / k < n := (Nat.div_lt_iff_lt_mul hk).2 hj
        have hjm : j % k < k := Nat.mod_lt _ hk
        have h5 := flat_get (raw := (List.replicate n dz).map f) (i := j / k) (j := j % k) (cs := f dz) hcl (by simp [hjk]) hjm
        rw [Nat.mul_comm, Nat.div_add_mod] at h5
        rw [h5, ← hz]
        simp [madeCells, hj, hzs, hjm]
      · rw [List.getElem?_eq_none (by rw [Array.length_toList, size_madeCells]; omega), List.getElem?_eq_none (by omega)]
    rw [← e]
    exact hown
end
end Go.Proofs.YthhmhcmlbpdlbaaGreat.Flat
