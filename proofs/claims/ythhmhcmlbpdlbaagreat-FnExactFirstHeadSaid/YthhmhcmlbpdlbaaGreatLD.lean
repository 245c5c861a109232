/- Boxes that are written, and owned data behind such a write. A struct of many cells read and written at one stroke: the walk's own way opens it cell by cell, and the kernel pays for it (15 s for sixteen cells). A region that draws its order and ends with stores that wait for every load: the loads are taken first, and what the stores write need not be kept. -/
import Derived.Test.YthhmhcmlbpdlbaaGreatRep
import Derived.Deep.MidRow
import Derived.Deep.RegionHeld
import Derived.Deep.WholeRow
import Derived.Laws.ResultCell
import Derived.Lib.Hide
namespace Go.Proofs.YthhmhcmlbpdlbaaGreat.BX
open Go.RowKit Mem MemS Rep
set_option linter.unusedVariables false
theorem bx_set {w : World} {b : Nat} {vs : List Value} (h : Box w b vs) {j : Nat} (hj : j < vs.length) (v : Value) : Box (w.setCell ⟨b, j, none⟩ v) b (vs.set j v) := by
  have hu : vs[j]? = some (vs[j]'hj) := List.getElem?_eq_getElem hj
  refine ⟨fun {i u} hi => ?_, fun {i u} hi => ?_, by first | (simp; done) | (simp; exact h.lt)⟩
  · rw [List.getElem?_set] at hi
    by_cases e : j = i
    · subst e
      simp [hj] at hi
      subst hi
      exact World.cell?_setCell_same _ _ _ (h.cell hu)
    · rw [if_neg e] at hi
      rw [World.cell?_setCell_other _ _ _ _ (fun h9 => e (by injection h9))]
      exact h.cell hi
  · rw [World.frozen?_setCell]
    have hi' : i < (vs.set j v).length := (List.getElem?_eq_some_iff.1 hi).1
    exact h.warm (List.getElem?_eq_getElem (show i < vs.length by simpa using hi'))
theorem bx_store {w : World} {b : Nat} {vs : List Value} (h : Box w b vs) {p : Addr} (hp : p.block ≠ b) (v : Value) : Box (w.setCell p v) b vs := h.keep (Below.heap_setCell w p v b (fun e => hp e.symm))
theorem own_st {α : Type} {R : Rep α} {w : World} {lo hi B : Nat} {cs : List Value} {a : α} (h : OwnI R w lo hi cs a ∧ hi ≤ w.heap.size ∧ B ≤ lo) {p : Addr} (hp : p.block < B) (v : Value) : OwnI R (w.setCell p v) lo hi cs a ∧ hi ≤ (w.setCell p v).heap.size ∧ B ≤ lo :=
  ⟨h.1.store v (.inl (Nat.lt_of_lt_of_le hp h.2.2)), by simpa [World.setCell] using h.2.1, h.2.2⟩
theorem cap_st {w : World} {b c : Nat} {x : Value} (h : w.cell? ⟨b, 0, none⟩ = some x ∧ b < w.heap.size) {j : Nat} (hp : c ≠ b) (v : Value) : (w.setCell ⟨c, j, none⟩ v).cell? ⟨b, 0, none⟩ = some x ∧ b < (w.setCell ⟨c, j, none⟩ v).heap.size :=
  ⟨(World.cell?_of_block (a := ⟨b, 0, none⟩) (Below.heap_setCell w ⟨c, j, none⟩ v b (fun e => hp e.symm))).trans h.1, by simpa [World.setCell] using h.2⟩
/-- cells of a block written one after another -/
def puts (w : World) (b : Nat) : Nat → List Value → World
  | _, [] => w
  | j, v :: r => puts (w.setCell ⟨b, j, none⟩ v) b (j + 1) r
def putL (vs : List Value) : Nat → List Value → List Value
  | _, [] => vs
  | j, v :: r => putL (vs.set j v) (j + 1) r
theorem puts_box {b : Nat} : ∀ (vals : List Value) (j : Nat) {w : World} {vs : List Value}, Box w b vs → j + vals.length ≤ vs.length → Box (puts w b j vals) b (putL vs j vals)
  | [], _, _, _, h, _ => h
  | v :: r, j, _, _, h, hl => puts_box r (j + 1) (bx_set h (by simp at hl; omega) v) (by simp at hl ⊢; omega)
theorem puts_keep {b c : Nat} (hne : c ≠ b) : ∀ (vals : List Value) (j : Nat) {w : World}, (puts w b j vals).heap[c]? = w.heap[c]?
  | [], _, _ => rfl
  | v :: r, j, w => (puts_keep hne r (j + 1)).trans (Below.heap_setCell w ⟨b, j, none⟩ v c hne)
theorem puts_size {b : Nat} : ∀ (vals : List Value) (j : Nat) {w : World}, (puts w b j vals).heap.size = w.heap.size
  | [], _, _ => rfl
  | v :: r, j, w => (puts_size r (j + 1)).trans (by simp [World.setCell])
theorem puts_bel {b B : Nat} {w0 : World} (hB : B ≤ b) : ∀ (vals : List Value) (j : Nat) {w : World}, Below B w0 w → Below B w0 (puts w b j vals)
  | [], _, _, h => h
  | v :: r, j, _, h => puts_bel hB r (j + 1) (Below.setCell (p := ⟨b, j, none⟩) h hB v)
section
variable {w V : World} {b c j B lo hi : Nat} {vals vs : List Value}
theorem pt_self (e : puts w b j vals = V) (h : Box w b vs) (hl : j + vals.length ≤ vs.length) : Box V b (putL vs j vals) := by rw [← e]; exact puts_box vals j h hl
theorem putL_mid : ∀ (vals old pre post : List Value), vals.length = old.length → putL (pre ++ old ++ post) pre.length vals = pre ++ vals ++ post
  | [], [], pre, post, _ => rfl
  | v :: r, o :: s, pre, post, h => by
    have e1 : (pre ++ o :: s ++ post).set pre.length v = (pre ++ [v]) ++ s ++ post := by simp
    show putL ((pre ++ o :: s ++ post).set pre.length v) (pre.length + 1) r = _
    rw [e1, show pre.length + 1 = (pre ++ [v]).length by simp, putL_mid r s (pre ++ [v]) post (by simpa using h)]
    simp
/-- many cells at once: nothing is reckoned cell by cell -/
theorem pt_mid {pre old post : List Value} (e : puts w b j vals = V) (h : Box w b (pre ++ old ++ post)) (hp : pre.length = j) (hl : vals.length = old.length) : Box V b (pre ++ vals ++ post) := by
  subst hp
  rw [← e, ← putL_mid vals old pre post hl]
  exact puts_box vals _ h (by simp; omega)
theorem pt_box (e : puts w b j vals = V) (h : Box w c vs) (hne : c ≠ b) : Box V c vs := by rw [← e]; exact h.keep (puts_keep hne vals j)
theorem pt_bel {w0 : World} (e : puts w b j vals = V) (h : Below B w0 w) (hB : B ≤ b) : Below B w0 V := by rw [← e]; exact puts_bel hB vals j h
theorem pt_own {α : Type} {R : Rep α} {cs : List Value} {a : α} (e : puts w b j vals = V) (h : OwnI R w lo hi cs a ∧ hi ≤ w.heap.size ∧ B ≤ lo) (hp : b < B) : OwnI R V lo hi cs a ∧ hi ≤ V.heap.size ∧ B ≤ lo := by
  rw [← e]
  exact ⟨h.1.keep fun i _ h1 _ => puts_keep (by have := h.2.2; omega) vals j, by rw [puts_size]; exact h.2.1, h.2.2⟩
theorem pt_cap {x : Value} (e : puts w b j vals = V) (h : w.cell? ⟨c, 0, none⟩ = some x ∧ c < w.heap.size) (hne : c ≠ b) : V.cell? ⟨c, 0, none⟩ = some x ∧ c < V.heap.size := by
  rw [← e]
  exact ⟨(World.cell?_of_block (a := ⟨c, 0, none⟩) (puts_keep hne vals j)).trans h.1, by rw [puts_size]; exact h.2⟩
end
/-- a part in front of others, in intervals one behind the other -/
theorem part_cons {F G : List Nat} {lo x y y' z : Nat} (u : F.Nodup) (e : ∀ b, b ∈ F → x ≤ b ∧ b < y) (h : G.Nodup ∧ ∀ b, b ∈ G → y' ≤ b ∧ b < z) (hy : y ≤ y') (hx : lo ≤ x) (hx2 : lo ≤ y') (hz : y ≤ z) : (F ++ G).Nodup ∧ ∀ b, b ∈ F ++ G → lo ≤ b ∧ b < z := by
  refine ⟨List.nodup_append.2 ⟨u, h.1, fun i hi j hj eq => ?_⟩, fun b hb => ?_⟩
  · subst eq
    have := e i hi
    have := h.2 i hj
    omega
  · rcases List.mem_append.1 hb with hb | hb
    · have := e b hb
      omega
    · have := h.2 b hb
      omega
/-- four parts in intervals that lie apart -/
theorem own_parts4 {α : Type} {R : Rep α} {w : World} {cs : List Value} {a : α} {F1 F2 F3 F4 : List Nat} {lo hi x1 y1 x2 y2 x3 y3 x4 y4 : Nat} (h : R.own w (F1 ++ (F2 ++ (F3 ++ F4))) cs a) (b1 : F1.Nodup) (b2 : F2.Nodup) (b3 : F3.Nodup) (b4 : F4.Nodup)
    (e1 : ∀ b, b ∈ F1 → x1 ≤ b ∧ b < y1) (e2 : ∀ b, b ∈ F2 → x2 ≤ b ∧ b < y2) (e3 : ∀ b, b ∈ F3 → x3 ≤ b ∧ b < y3) (e4 : ∀ b, b ∈ F4 → x4 ≤ b ∧ b < y4) (hl : lo ≤ x1 ∧ lo ≤ x2 ∧ lo ≤ x3 ∧ lo ≤ x4) (hh : y1 ≤ hi ∧ y2 ≤ hi ∧ y3 ≤ hi ∧ y4 ≤ hi)
    (d12 : y1 ≤ x2 ∨ y2 ≤ x1) (d13 : y1 ≤ x3 ∨ y3 ≤ x1) (d14 : y1 ≤ x4 ∨ y4 ≤ x1) (d23 : y2 ≤ x3 ∨ y3 ≤ x2) (d24 : y2 ≤ x4 ∨ y4 ≤ x2) (d34 : y3 ≤ x4 ∨ y4 ≤ x3) : OwnI R w lo hi cs a := by
  refine ⟨_, h, ?_, ?_⟩
  · refine List.nodup_append.2 ⟨b1, List.nodup_append.2 ⟨b2, List.nodup_append.2 ⟨b3, b4, fun i hi j hj e => ?_⟩, fun i hi j hj e => ?_⟩, fun i hi j hj e => ?_⟩
    · subst e
      have := e3 i hi
      have := e4 i hj
      omega
    · subst e
      have := e2 i hi
      rcases List.mem_append.1 hj with hj | hj
      · have := e3 i hj
        omega
      · have := e4 i hj
        omega
    · subst e
      have := e1 i hi
      rcases List.mem_append.1 hj with hj | hj
      · have := e2 i hj
        omega
      · rcases List.mem_append.1 hj with hj | hj
        · have := e3 i hj
          omega
        · have := e4 i hj
          omega
  · intro i hi
    rcases List.mem_append.1 hi with hi | hi
    · have := e1 i hi
      omega
    · rcases List.mem_append.1 hi with hi | hi
      · have := e2 i hi
        omega
      · rcases List.mem_append.1 hi with hi | hi
        · have := e3 i hi
          omega
        · have := e4 i hi
          omega
end Go.Proofs.YthhmhcmlbpdlbaaGreat.BX
namespace Go.Proofs.YthhmhcmlbpdlbaaGreat.LD
open Go.RowKit Mem MemS Rep BX
set_option linter.unusedVariables false
/-- what the model knows of such a type: it is a struct (or an array) of n cells -/
def Big (ty : TypeId) (n : Nat) : Prop := ∃ d, Tryz.prog.underlying ty = some d ∧ d.isRow = true ∧ (Tryz.prog.info? ty).map (·.size) = some n
theorem big_Head : Big 31 16 := ⟨(Tryz.prog.underlying 31).get!, by kernel_rfl, by kernel_rfl, by kernel_rfl⟩
theorem big_Signed : Big 36 17 := ⟨(Tryz.prog.underlying 36).get!, by kernel_rfl, by kernel_rfl, by kernel_rfl⟩
theorem big_lKeys : Big 46 2 := ⟨(Tryz.prog.underlying 46).get!, by kernel_rfl, by kernel_rfl, by kernel_rfl⟩
theorem big_Keys : Big 26 2 := ⟨(Tryz.prog.underlying 26).get!, by kernel_rfl, by kernel_rfl, by kernel_rfl⟩
theorem box_range {w : World} {b : Nat} {cs : List Value} (h : Box w b cs) : w.rangeAt b 0 cs := fun j v hj => by rw [Nat.zero_add]; exact h.cell hj
theorem box_mid {w : World} {b o : Nat} {pre mid post : List Value} (h : Box w b (pre ++ mid ++ post)) (ho : pre.length = o) : w.rangeAt b o mid := fun j v hj => h.cell (by
  subst ho
  rw [List.append_assoc, List.getElem?_append_right (by omega), Nat.add_sub_cancel_left, List.getElem?_append_left (List.getElem?_eq_some_iff.1 hj).1]
  exact hj)
theorem puts_cells {b : Nat} : ∀ (vs : List Value) (j : Nat) (w : World), w.setCells b j vs = puts w b j vs
  | [], _, _ => rfl
  | v :: r, j, w => puts_cells r (j + 1) _
/-- the load's run -/
theorem ld_run {ty : TypeId} {n : Nat} (B : Big ty n) {w : World} {b : Nat} {cs : List Value} (h : Box w b cs) (hl : cs.length = n) : (Instr.loadAt ty (.pointer (some ⟨b, 0, none⟩))).run Tryz.prog w = .ok (.agg cs.toArray) w := by
  obtain ⟨d, h1, h2, h3⟩ := B
  exact run_loadAt_mid w b 0 ty cs d (box_range h) h1 h2 (by rw [hl]; exact h3)
theorem ldm_run {ty : TypeId} {n : Nat} (B : Big ty n) {w : World} {b o : Nat} (pre mid post : List Value) (h : Box w b (pre ++ mid ++ post)) (ho : pre.length = o) (hl : mid.length = n) : (Instr.loadAt ty (.pointer (some ⟨b, o, none⟩))).run Tryz.prog w = .ok (.agg mid.toArray) w := by
  obtain ⟨d, h1, h2, h3⟩ := B
  exact run_loadAt_mid w b o ty mid d (box_mid h ho) h1 h2 (by rw [hl]; exact h3)
/-- a function's results that lie in boxes -/
theorem var_run {ty : TypeId} {n : Nat} (B : Big ty n) {w : World} {b : Nat} {cs : List Value} (h : Box w b cs) (hl : cs.length = n) : (loadVar ty ⟨b, 0, none⟩).run Tryz.prog w = .ok (.agg cs.toArray) w := by
  obtain ⟨d, h1, h2, h3⟩ := B
  exact run_loadVar_mid w b 0 ty cs d (box_range h) h1 h2 (by rw [hl]; exact h3)
theorem res_cell {fn : Func} {p : Tmp} {ty : TypeId} {n : Nat} (B : Big ty n) (h : fn.results = #[.cell p ty]) {tmps : Array Value} {w : World} {b : Nat} {cs : List Value} (hp : tmps.getD p undef = .pointer (some ⟨b, 0, none⟩)) (hx : Box w b cs) (hl : cs.length = n) :
    (results fn tmps).run Tryz.prog w = .ok (.agg cs.toArray) w := by
  have hp' : tmps[p]?.getD undef = .pointer (some ⟨b, 0, none⟩) := by simpa using hp
  simp [results, h, hp', asAddr, var_run B hx hl]
theorem res_cell_tmp {fn : Func} {p q : Tmp} {ty : TypeId} {n : Nat} (B : Big ty n) (h : fn.results = #[.cell p ty, .tmp q]) {tmps : Array Value} {w : World} {b : Nat} {cs : List Value} {v : Value} (hp : tmps.getD p undef = .pointer (some ⟨b, 0, none⟩)) (hq : tmps.getD q undef = v) (hx : Box w b cs) (hl : cs.length = n) :
    (results fn tmps).run Tryz.prog w = .ok (.tuple #[.agg cs.toArray, v]) w := by
  rw [results_cell_tmp h, hp, hq]
  simp [asAddr, var_run B hx hl]
theorem res_cell2 {fn : Func} {p q : Tmp} {ty ty' : TypeId} {n n' : Nat} (B : Big ty n) (B' : Big ty' n') (h : fn.results = #[.cell p ty, .cell q ty']) {tmps : Array Value} {w : World} {b b' : Nat} {cs cs' : List Value} (hp : tmps.getD p undef = .pointer (some ⟨b, 0, none⟩)) (hq : tmps.getD q undef = .pointer (some ⟨b', 0, none⟩)) (hx : Box w b cs) (hl : cs.length = n) (hx' : Box w b' cs') (hl' : cs'.length = n') :
    (results fn tmps).run Tryz.prog w = .ok (.tuple #[.agg cs.toArray, .agg cs'.toArray]) w := by
  have hp' : tmps[p]?.getD undef = .pointer (some ⟨b, 0, none⟩) := by simpa using hp
  have hq' : tmps[q]?.getD undef = .pointer (some ⟨b', 0, none⟩) := by simpa using hq
  simp [results, h, hp', hq', asAddr, var_run B hx hl, var_run B' hx' hl']
section
variable {ty : TypeId} {n : Nat} {ops : Array Oper} {rest : List Oper} {o : Oper} {a : Act} {Q : Exit → Act → World → Prop} {w : World} {b : Nat}
/-- at the operation -/
theorem wp_ld (B : Big ty n) (hgd : Region.wanted o (yielded ops a.tmps) = true) (x : Operand) (ho : o.op = .load ty x) (hx : a.eval x = .pointer (some ⟨b, 0, none⟩)) {cs : List Value} (h : Box w b cs) (hl : cs.length = n)
    (hK : wpList Tryz.prog ops Q rest (a.put o.dst (.agg cs.toArray)) w) : wpList Tryz.prog ops Q (o :: rest) a w := by
  obtain ⟨d, h1, h2, h3⟩ := B
  refine wpList_step fun K hK' => ?_
  rw [if_pos hgd]
  exact wp_load_mid ty x ho b 0 hx cs d (box_range h) h1 h2 (by rw [hl]; exact h3) (hK' _ _ hK)
theorem wp_ldm (B : Big ty n) (hgd : Region.wanted o (yielded ops a.tmps) = true) (x : Operand) (ho : o.op = .load ty x) {j : Nat} (hx : a.eval x = .pointer (some ⟨b, j, none⟩)) (pre mid post : List Value) (h : Box w b (pre ++ mid ++ post)) (hp : pre.length = j) (hl : mid.length = n)
    (hK : wpList Tryz.prog ops Q rest (a.put o.dst (.agg mid.toArray)) w) : wpList Tryz.prog ops Q (o :: rest) a w := by
  obtain ⟨d, h1, h2, h3⟩ := B
  refine wpList_step fun K hK' => ?_
  rw [if_pos hgd]
  exact wp_load_mid ty x ho b j hx mid d (box_mid h hp) h1 h2 (by rw [hl]; exact h3) (hK' _ _ hK)
/-- a store into a box, from cell j on -/
theorem wp_st (B : Big ty n) (hgd : Region.wanted o (yielded ops a.tmps) = true) (x y : Operand) (ho : o.op = .store ty x y) {j : Nat} (hx : a.eval x = .pointer (some ⟨b, j, none⟩)) {vs cs : List Value} (hy : a.eval y = .agg vs.toArray) (h : Box w b cs) (hl : vs.length = n) (hj : j + n ≤ cs.length) (h1 : vs.all (·.oneCell') = true)
    (hK : ∀ V, puts w b j vs = V → wpList Tryz.prog ops Q rest (a.put o.dst undef) V) : wpList Tryz.prog ops Q (o :: rest) a w := by
  obtain ⟨d, _, _, h3⟩ := B
  refine wpList_step fun K hK' => ?_
  rw [if_pos hgd]
  refine wp_store_mid ty x y ho b j vs.toArray hx hy (fun i hi => ?_) (by rw [h3, ← hl]; simp) (by simpa using h1) (hK' _ _ ?_)
  · have hlt : j + i < cs.length := by simp at hi; omega
    have e : cs[j + i]? = some (cs[j + i]'hlt) := List.getElem?_eq_getElem hlt
    exact ⟨by rw [h.cell e]; rfl, h.warm e⟩
  · exact hK _ (by rw [List.toList_toArray, puts_cells])
theorem wp_stV (B : Big ty n) {V : World} (hgd : Region.wanted o (yielded ops a.tmps) = true) (x y : Operand) (ho : o.op = .store ty x y) {j : Nat} (hx : a.eval x = .pointer (some ⟨b, j, none⟩)) {vs cs : List Value} (hy : a.eval y = .agg vs.toArray) (h : Box w b cs) (hl : vs.length = n) (hj : j + n ≤ cs.length) (h1 : vs.all (·.oneCell') = true)
    (e : puts w b j vs = V) (hK : wpList Tryz.prog ops Q rest (a.put o.dst undef) V) : wpList Tryz.prog ops Q (o :: rest) a w :=
  wp_st B hgd x y ho hx hy h hl hj h1 fun V' e' => by rw [← e', e]; exact hK
/-- the same in a region that draws its order -/
theorem op_ld (B : Big ty n) {K : Act → World → Prop} (x : Operand) (ho : o.op = .load ty x) (hx : a.eval x = .pointer (some ⟨b, 0, none⟩)) {cs : List Value} (h : Box w b cs) (hl : cs.length = n)
    (hK : K (a.put o.dst (.agg cs.toArray)) w) : o.wp Tryz.prog a w K Q := by
  obtain ⟨d, h1, h2, h3⟩ := B
  exact wp_load_mid ty x ho b 0 hx cs d (box_range h) h1 h2 (by rw [hl]; exact h3) hK
theorem op_stV (B : Big ty n) {K : Act → World → Prop} {V : World} (x y : Operand) (ho : o.op = .store ty x y) {j : Nat} (hx : a.eval x = .pointer (some ⟨b, j, none⟩)) {vs cs : List Value} (hy : a.eval y = .agg vs.toArray) (h : Box w b cs) (hl : vs.length = n) (hj : j + n ≤ cs.length) (h1 : vs.all (·.oneCell') = true)
    (e : puts w b j vs = V) (hK : K (a.put o.dst undef) V) : o.wp Tryz.prog a w K Q := by
  obtain ⟨d, _, _, h3⟩ := B
  refine wp_store_mid ty x y ho b j vs.toArray hx hy (fun i hi => ?_) (by rw [h3, ← hl]; simp) (by simpa using h1) ?_
  · have hlt : j + i < cs.length := by simp at hi; omega
    have e : cs[j + i]? = some (cs[j + i]'hlt) := List.getElem?_eq_getElem hlt
    exact ⟨by rw [h.cell e]; rfl, h.warm e⟩
  · rw [List.toList_toArray, puts_cells, e]
    exact hK
/-- a load that is taken first: whatever the world, if S says what lies there -/
theorem yl (B : Big ty n) {S : World → Prop} (hw : Region.wanted o (yielded ops a.tmps) = true) (x : Operand) (ho : o.op = .load ty x) (hx : a.eval x = .pointer (some ⟨b, 0, none⟩)) {cs : List Value} (hS : ∀ w, S w → w.rangeAt b 0 cs) (hl : cs.length = n) : YieldsIf Tryz.prog ops S o (.agg cs.toArray) a := by
  obtain ⟨d, h1, h2, h3⟩ := B
  exact yieldsIf_load_mid hw ty x ho b 0 hx cs d hS h1 h2 (by rw [hl]; exact h3)
/-- a store into the newest box, whole -/
theorem wp_new (B : Big ty n) (hgd : Region.wanted o (yielded ops a.tmps) = true) (x y : Operand) {c : Array Value} (ho : o.op = .store ty x y) (hx : a.eval x = .pointer (some ⟨w.heap.size, 0, none⟩)) {vs : List Value} (hy : a.eval y = .agg vs.toArray) (hl : vs.length = n) (hc : c.size = n) (h1 : vs.all (·.oneCell') = true)
    (hK : wpList Tryz.prog ops Q rest (a.put o.dst undef) (w.alloc (.cells vs.toArray ty))) : wpList Tryz.prog ops Q (o :: rest) a (w.alloc (.cells c ty)) := by
  obtain ⟨d, _, _, h3⟩ := B
  refine wpList_step fun K hK' => ?_
  rw [if_pos hgd]
  have hr := run_storeAt_new (P := Tryz.prog) w ty c vs.toArray (by rw [h3, ← hl]; simp) (by simp [hc, hl]) (by simpa using h1)
  unfold Oper.wp execOp
  simp only [ho, hx, hy, Sem.run_bind, Sem.run_pure, Result.andThen_ok, hr]
  exact hK' _ _ hK
end
end Go.Proofs.YthhmhcmlbpdlbaaGreat.LD
namespace Go.Proofs.YthhmhcmlbpdlbaaGreat.OS
open Go.RowKit Mem MemS Rep BX LD
set_option linter.unusedVariables false
section
variable {P : Program} {ops : Array Oper} {Q : Exit → Act → World → Prop} {md : Region.Mode} {S : World → Prop} {N : List Nat}
/-- whatever order: behind each operation that is not late, S holds -/
def wpLate (P : Program) (md : Region.Mode) (ops : Array Oper) (Q : Exit → Act → World → Prop) (S : World → Prop) (N : List Nat) : Nat → Array Bool → Act → World → Prop
  | 0, l, a, w => Region.ready md ops l = [] ∧ Q .normal a w
  | f + 1, l, a, w => (Region.ready md ops l = [] → Q .normal a w) ∧ ∀ i, i ∈ Region.ready md ops l → wpOp P ops Q i (fun b u => (N.contains i = false → S u) ∧ wpLate P md ops Q S N f (l.setIfInBounds i true) b u) a w
theorem wpLate_any : ∀ (f : Nat) (l : Array Bool) (a : Act) (w : World), wpLate P md ops Q S N f l a w → wpAny P md ops Q f l a w
  | 0, _, _, _, h => h
  | f + 1, _, _, _, h => ⟨h.1, fun i hi => wpOp_mono (fun b u g => wpLate_any f _ b u g.2) (h.2 i hi)⟩
/-- every late operation waits for number i -/
def lateFor (md : Region.Mode) (ops : Array Oper) (N : List Nat) (i : Nat) : Bool :=
  N.all fun j => match ops[j]? with
    | some o => o.after.any fun e => Region.binds md e && e.on == i
    | none => true
theorem lateFor_spec {i j : Nat} {o : Oper} (h : lateFor md ops N i = true) (hj : N.contains j = true) (ho : ops[j]? = some o) : ∃ e ∈ o.after, Region.binds md e = true ∧ e.on = i := by
  unfold lateFor at h
  have h1 := List.all_eq_true.1 h j (by simpa using hj)
  simp only [ho] at h1
  obtain ⟨e, he, h2⟩ := Array.any_eq_true'.1 h1
  rw [Bool.and_eq_true] at h2
  exact ⟨e, he, h2.1, by simpa using h2.2⟩
theorem wpLate_first {i : Nat} {o : Oper} {v : Value} (hi : ops[i]? = some o) (hsel : ∀ (j : Nat) (o : Oper) cs b, ops[j]? = some o → o.op ≠ .select cs b)
    (hQ : ∀ c a w, Q (.panic c) (a.put o.dst v) w → Q (.panic c) a w) (hl : lateFor md ops N i = true) :
    ∀ (f : Nat) (l : Array Bool) (a : Act) (w : World),
      (∀ j q, ops[j]? = some q → j ≠ i → l.getD j true = false → (∀ e ∈ q.after, Region.binds md e = true → e.on ≠ i) → o.apart ops q = true) →
      i ∈ Region.ready md ops l → YieldsIf P ops S o v a → S w →
      wpLate P md ops Q S N f (l.setIfInBounds i true) (a.put o.dst v) w → wpLate P md ops Q S N (f + 1) l a w := by
  intro f
  induction f with
  | zero =>
    intro l a w _ hr hy hS H
    refine ⟨fun h0 => (by rw [h0] at hr; cases hr), fun j hj => ?_⟩
    by_cases e : j = i
    · subst e
      exact hy.wpOp hi hS ⟨fun _ => hS, H⟩
    · have g := ready_mono hj e
      rw [H.1] at g
      cases g
  | succ f ih =>
    intro l a w hfree hr hy hS H
    refine ⟨fun h0 => (by rw [h0] at hr; cases hr), fun j hj => ?_⟩
    by_cases e : j = i
    · subst e
      exact hy.wpOp hi hS ⟨fun _ => hS, H⟩
    · have h1 := H.2 j (ready_mono hj e)
      obtain ⟨hun, q, hq, hall⟩ := mem_ready.1 hj
      have hun2 := (mem_ready.1 hr).1
      have hnot : ∀ d ∈ q.after, Region.binds md d = true → d.on ≠ i := by
        intro d hd hb he
        have h3 := hall d hd hb
        rw [he] at h3
        by_cases hs : i < l.size
        · simp [hs] at hun2 h3
          rw [hun2] at h3
          cases h3
        · simp [Array.getElem?_eq_none (Nat.le_of_not_lt hs)] at hun2 h3
      have hN : N.contains j = false := by
        cases hc : N.contains j
        · rfl
        · obtain ⟨d, hd, hb, he⟩ := lateFor_spec hl hc hq
          exact absurd he (hnot d hd hb)
      have h2 := wpOp_putIf hq (hfree j q hq e hun hnot) (fun cs b => hsel i o cs b hi) (fun cs b => hsel j q cs b hq) hQ hy h1
      have hfree2 : ∀ k r, ops[k]? = some r → k ≠ i → (l.setIfInBounds j true).getD k true = false → (∀ d ∈ r.after, Region.binds md d = true → d.on ≠ i) → o.apart ops r = true := by
        intro k r hk hki hu hno
        refine hfree k r hk hki ?_ hno
        by_cases hjk : j = k
        · rw [← hjk]
          exact hun
        · rw [getD_set_ne true hjk] at hu
          exact hu
      refine wpOp_mono (fun b u g => ⟨g.2.1, ih _ b u hfree2 (ready_mono hr (Ne.symm e)) g.1 (g.2.1 hN) ?_⟩) h2
      rw [Array.setIfInBounds_comm _ _ e]
      exact g.2.2
theorem wpLate_take {i : Nat} {o : Oper} {v : Value} {f : Nat} {l : Array Bool} {a : Act} {w : World} (hi : ops[i]? = some o)
    (hs : Region.noSelect ops = true) (hf : Region.free md ops l i = true) (hr : (Region.ready md ops l).contains i = true) (hl : lateFor md ops N i = true)
    (hQ : ∀ c a w, Q (.panic c) (a.put o.dst v) w → Q (.panic c) a w) (hy : YieldsIf P ops S o v a) (hS : S w)
    (h : wpLate P md ops Q S N f (l.setIfInBounds i true) (a.put o.dst v) w) : wpLate P md ops Q S N (f + 1) l a w :=
  wpLate_first hi (Region.noSelect_spec hs) hQ hl f l a w (Region.free_spec hi hf) (by simpa using hr) hy hS h
def AllLate (P : Program) (md : Region.Mode) (ops : Array Oper) (Q : Exit → Act → World → Prop) (S : World → Prop) (N : List Nat) (f : Nat) (l : Array Bool) (a : Act) (w : World) (rs : List Nat) : Prop :=
  ∀ i ∈ rs, wpOp P ops Q i (fun b u => (N.contains i = false → S u) ∧ wpLate P md ops Q S N f (l.setIfInBounds i true) b u) a w
theorem AllLate.nil {f : Nat} {l : Array Bool} {a : Act} {w : World} : AllLate P md ops Q S N f l a w [] := fun _ h => by cases h
theorem AllLate.cons {f : Nat} {l : Array Bool} {a : Act} {w : World} {i : Nat} {o : Oper} {rs : List Nat} (ho : ops[i]? = some o)
    (h : ∀ K : Act → World → Prop, Shut (∀ b u, (N.contains i = false → S u) → wpLate P md ops Q S N f (l.setIfInBounds i true) b u → K b u) → if Region.wanted o (yielded ops a.tmps) = true then Oper.wp P o a w K Q else K (a.put o.dst undef) w)
    (hs : AllLate P md ops Q S N f l a w rs) : AllLate P md ops Q S N f l a w (i :: rs) := fun j hj => by
  rcases List.mem_cons.1 hj with rfl | hj
  · exact wpOp_step ho fun K hK => h K fun b u h1 h2 => hK b u ⟨h1, h2⟩
  · exact hs j hj
theorem wpLate_ready {rs : List Nat} {f : Nat} {l : Array Bool} {a : Act} {w : World} (hr : Region.ready md ops l = rs) (hne : rs ≠ [])
    (h : AllLate P md ops Q S N f l a w rs) : wpLate P md ops Q S N (f + 1) l a w :=
  ⟨fun h0 => absurd (hr ▸ h0) hne, fun i hi => h i (hr ▸ hi)⟩
theorem wpLate_done {l : Array Bool} {a : Act} {w : World} (hr : Region.ready md ops l = []) (h : Q .normal a w) : ∀ f, wpLate P md ops Q S N f l a w
  | 0 => ⟨hr, h⟩
  | _ + 1 => ⟨fun _ => h, by rw [hr]; simp⟩
theorem wp_region_late {id : Nat} {a : Act} {w : World} (hm : P.follows .mixedOrders = true)
    (h : wpLate P .any ops Q S N ops.size (Array.replicate ops.size false) a (World.drew w)) : (Code.region id ops true).wp P Q a w :=
  wp_region_any hm (wpLate_any _ _ _ _ h)
end
/-- what holds behind a region is shown ahead of what follows it -/
theorem rest_first {P : Program} {ops : Array Oper} {Q : Exit → Act → World → Prop} {id : Nat} {b : Bool} {a : Act} {w : World} (I : Act → Act → World → Prop) (h1 : ∀ a' w', I a a' w' → Q .normal a' w')
    (h2 : ∀ J : Act → World → Prop, RowKit.Hid (∀ a' w', I a a' w' → J a' w') → (Code.region id ops b).wp P (fun e a' w' => e = .normal ∧ J a' w') a w) : (Code.region id ops b).wp P Q a w :=
  Code.wp_mono (fun e a' w' h => by obtain ⟨rfl, h⟩ := h; exact h1 _ _ h) (h2 (I a) (Lib.hid fun _ _ h => h))
/-- a part of a box -/
theorem range_mid {w : World} {b o : Nat} {pre mid post : List Value} (h : w.rangeAt b 0 (pre ++ mid ++ post)) (ho : pre.length = o) : w.rangeAt b o mid := fun j v hj => by
  subst ho
  have := h (pre.length + j) v (by
    rw [List.append_assoc, List.getElem?_append_right (by omega), Nat.add_sub_cancel_left, List.getElem?_append_left (List.getElem?_eq_some_iff.1 hj).1]
    exact hj)
  rwa [Nat.zero_add] at this
/-- a load of a part that is taken first -/
theorem ylm {ty : TypeId} {n : Nat} {ops : Array Oper} {o : Oper} {a : Act} {b : Nat} {S : World → Prop} (B : Big ty n) (hw : Region.wanted o (yielded ops a.tmps) = true) (x : Operand) (ho : o.op = .load ty x) {j : Nat} (hx : a.eval x = .pointer (some ⟨b, j, none⟩)) (pre mid post : List Value)
    (hS : ∀ w, S w → w.rangeAt b 0 (pre ++ mid ++ post)) (hp : pre.length = j) (hl : mid.length = n) : YieldsIf Tryz.prog ops S o (.agg mid.toArray) a := by
  obtain ⟨d, h1, h2, h3⟩ := B
  exact yieldsIf_load_mid hw ty x ho b j hx mid d (fun w h => range_mid (hS w h) hp) h1 h2 (by rw [hl]; exact h3)
/-- a load of one cell that is taken first -/
theorem yl1 {ops : Array Oper} {o : Oper} {a : Act} {S : World → Prop} (hw : Region.wanted o (yielded ops a.tmps) = true) {v : Value} (h : ∀ w, S w → (execOp a.eval o).run Tryz.prog w = .ok (.value v) w) : YieldsIf Tryz.prog ops S o v a := .inl ⟨hw, h⟩
end Go.Proofs.YthhmhcmlbpdlbaaGreat.OS
