/- A struct of many cells read and written at one stroke: the walk's own way opens it cell by cell, and the kernel pays for it (15 s for sixteen cells). -/
import Derived.Deep.MidRow
import Derived.Deep.RegionHeld
import Derived.Deep.WholeRow
import Derived.Laws.ResultCell
import Derived.Test.YthhmhcmlbpdlbaaBX
namespace Go.Proofs.Ythhmhcmlbpdlbaa.LD
open Go.RowKit Mem MemS Rep BX
set_option linter.unusedVariables false
/-- what the model knows of such a type: it is a struct (or an array) of n cells -/
def Big (ty : TypeId) (n : Nat) : Prop := ∃ d, Try.prog.underlying ty = some d ∧ d.isRow = true ∧ (Try.prog.info? ty).map (·.size) = some n
theorem big_Head : Big 35 16 := ⟨(Try.prog.underlying 35).get!, by kernel_rfl, by kernel_rfl, by kernel_rfl⟩
theorem big_lHead : Big 32 16 := ⟨(Try.prog.underlying 32).get!, by kernel_rfl, by kernel_rfl, by kernel_rfl⟩
theorem big_Signed : Big 38 17 := ⟨(Try.prog.underlying 38).get!, by kernel_rfl, by kernel_rfl, by kernel_rfl⟩
theorem big_lSigned : Big 51 17 := ⟨(Try.prog.underlying 51).get!, by kernel_rfl, by kernel_rfl, by kernel_rfl⟩
theorem big_lKeys : Big 24 2 := ⟨(Try.prog.underlying 24).get!, by kernel_rfl, by kernel_rfl, by kernel_rfl⟩
theorem big_Keys : Big 27 2 := ⟨(Try.prog.underlying 27).get!, by kernel_rfl, by kernel_rfl, by kernel_rfl⟩
theorem box_range {w : World} {b : Nat} {cs : List Value} (h : Box w b cs) : w.rangeAt b 0 cs := fun j v hj => by rw [Nat.zero_add]; exact h.cell hj
theorem box_mid {w : World} {b o : Nat} {pre mid post : List Value} (h : Box w b (pre ++ mid ++ post)) (ho : pre.length = o) : w.rangeAt b o mid := fun j v hj => h.cell (by
  subst ho
  rw [List.append_assoc, List.getElem?_append_right (by omega), Nat.add_sub_cancel_left, List.getElem?_append_left (List.getElem?_eq_some_iff.1 hj).1]
  exact hj)
theorem puts_cells {b : Nat} : ∀ (vs : List Value) (j : Nat) (w : World), w.setCells b j vs = puts w b j vs
  | [], _, _ => rfl
  | v :: r, j, w => puts_cells r (j + 1) _
/-- the load's run -/
theorem ld_run {ty : TypeId} {n : Nat} (B : Big ty n) {w : World} {b : Nat} {cs : List Value} (h : Box w b cs) (hl : cs.length = n) : (Instr.loadAt ty (.pointer (some ⟨b, 0, none⟩))).run Try.prog w = .ok (.agg cs.toArray) w := by
  obtain ⟨d, h1, h2, h3⟩ := B
  exact run_loadAt_mid w b 0 ty cs d (box_range h) h1 h2 (by rw [hl]; exact h3)
theorem ldm_run {ty : TypeId} {n : Nat} (B : Big ty n) {w : World} {b o : Nat} (pre mid post : List Value) (h : Box w b (pre ++ mid ++ post)) (ho : pre.length = o) (hl : mid.length = n) : (Instr.loadAt ty (.pointer (some ⟨b, o, none⟩))).run Try.prog w = .ok (.agg mid.toArray) w := by
  obtain ⟨d, h1, h2, h3⟩ := B
  exact run_loadAt_mid w b o ty mid d (box_mid h ho) h1 h2 (by rw [hl]; exact h3)
/-- a function's results that lie in boxes -/
theorem var_run {ty : TypeId} {n : Nat} (B : Big ty n) {w : World} {b : Nat} {cs : List Value} (h : Box w b cs) (hl : cs.length = n) : (loadVar ty ⟨b, 0, none⟩).run Try.prog w = .ok (.agg cs.toArray) w := by
  obtain ⟨d, h1, h2, h3⟩ := B
  exact run_loadVar_mid w b 0 ty cs d (box_range h) h1 h2 (by rw [hl]; exact h3)
theorem res_cell {fn : Func} {p : Tmp} {ty : TypeId} {n : Nat} (B : Big ty n) (h : fn.results = #[.cell p ty]) {tmps : Array Value} {w : World} {b : Nat} {cs : List Value} (hp : tmps.getD p undef = .pointer (some ⟨b, 0, none⟩)) (hx : Box w b cs) (hl : cs.length = n) :
    (results fn tmps).run Try.prog w = .ok (.agg cs.toArray) w := by
  have hp' : tmps[p]?.getD undef = .pointer (some ⟨b, 0, none⟩) := by simpa using hp
  simp [results, h, hp', asAddr, var_run B hx hl]
theorem res_cell_tmp {fn : Func} {p q : Tmp} {ty : TypeId} {n : Nat} (B : Big ty n) (h : fn.results = #[.cell p ty, .tmp q]) {tmps : Array Value} {w : World} {b : Nat} {cs : List Value} {v : Value} (hp : tmps.getD p undef = .pointer (some ⟨b, 0, none⟩)) (hq : tmps.getD q undef = v) (hx : Box w b cs) (hl : cs.length = n) :
    (results fn tmps).run Try.prog w = .ok (.tuple #[.agg cs.toArray, v]) w := by
  rw [results_cell_tmp h, hp, hq]
  simp [asAddr, var_run B hx hl]
theorem res_cell2 {fn : Func} {p q : Tmp} {ty ty' : TypeId} {n n' : Nat} (B : Big ty n) (B' : Big ty' n') (h : fn.results = #[.cell p ty, .cell q ty']) {tmps : Array Value} {w : World} {b b' : Nat} {cs cs' : List Value} (hp : tmps.getD p undef = .pointer (some ⟨b, 0, none⟩)) (hq : tmps.getD q undef = .pointer (some ⟨b', 0, none⟩)) (hx : Box w b cs) (hl : cs.length = n) (hx' : Box w b' cs') (hl' : cs'.length = n') :
    (results fn tmps).run Try.prog w = .ok (.tuple #[.agg cs.toArray, .agg cs'.toArray]) w := by
  have hp' : tmps[p]?.getD undef = .pointer (some ⟨b, 0, none⟩) := by simpa using hp
  have hq' : tmps[q]?.getD undef = .pointer (some ⟨b', 0, none⟩) := by simpa using hq
  simp [results, h, hp', hq', asAddr, var_run B hx hl, var_run B' hx' hl']
section
variable {ty : TypeId} {n : Nat} {ops : Array Oper} {rest : List Oper} {o : Oper} {a : Act} {Q : Exit → Act → World → Prop} {w : World} {b : Nat}
/-- at the operation -/
theorem wp_ld (B : Big ty n) (hgd : Region.wanted o (yielded ops a.tmps) = true) (x : Operand) (ho : o.op = .load ty x) (hx : a.eval x = .pointer (some ⟨b, 0, none⟩)) {cs : List Value} (h : Box w b cs) (hl : cs.length = n)
    (hK : wpList Try.prog ops Q rest (a.put o.dst (.agg cs.toArray)) w) : wpList Try.prog ops Q (o :: rest) a w := by
  obtain ⟨d, h1, h2, h3⟩ := B
  refine wpList_step fun K hK' => ?_
  rw [if_pos hgd]
  exact wp_load_mid ty x ho b 0 hx cs d (box_range h) h1 h2 (by rw [hl]; exact h3) (hK' _ _ hK)
theorem wp_ldm (B : Big ty n) (hgd : Region.wanted o (yielded ops a.tmps) = true) (x : Operand) (ho : o.op = .load ty x) {j : Nat} (hx : a.eval x = .pointer (some ⟨b, j, none⟩)) (pre mid post : List Value) (h : Box w b (pre ++ mid ++ post)) (hp : pre.length = j) (hl : mid.length = n)
    (hK : wpList Try.prog ops Q rest (a.put o.dst (.agg mid.toArray)) w) : wpList Try.prog ops Q (o :: rest) a w := by
  obtain ⟨d, h1, h2, h3⟩ := B
  refine wpList_step fun K hK' => ?_
  rw [if_pos hgd]
  exact wp_load_mid ty x ho b j hx mid d (box_mid h hp) h1 h2 (by rw [hl]; exact h3) (hK' _ _ hK)
/-- a store into a box, from cell j on -/
theorem wp_st (B : Big ty n) (hgd : Region.wanted o (yielded ops a.tmps) = true) (x y : Operand) (ho : o.op = .store ty x y) {j : Nat} (hx : a.eval x = .pointer (some ⟨b, j, none⟩)) {vs cs : List Value} (hy : a.eval y = .agg vs.toArray) (h : Box w b cs) (hl : vs.length = n) (hj : j + n ≤ cs.length) (h1 : vs.all (·.oneCell') = true)
    (hK : ∀ V, puts w b j vs = V → wpList Try.prog ops Q rest (a.put o.dst undef) V) : wpList Try.prog ops Q (o :: rest) a w := by
  obtain ⟨d, _, _, h3⟩ := B
  refine wpList_step fun K hK' => ?_
  rw [if_pos hgd]
  refine wp_store_mid ty x y ho b j vs.toArray hx hy (fun i hi => ?_) (by rw [h3, ← hl]; simp) (by simpa using h1) (hK' _ _ ?_)
  · have hlt : j + i < cs.length := by simp at hi; omega
    have e : cs[j + i]? = some (cs[j + i]'hlt) := List.getElem?_eq_getElem hlt
    exact ⟨by rw [h.cell e]; rfl, h.warm e⟩
  · exact hK _ (by rw [List.toList_toArray, puts_cells])
theorem wp_stV (B : Big ty n) {V : World} (hgd : Region.wanted o (yielded ops a.tmps) = true) (x y : Operand) (ho : o.op = .store ty x y) {j : Nat} (hx : a.eval x = .pointer (some ⟨b, j, none⟩)) {vs cs : List Value} (hy : a.eval y = .agg vs.toArray) (h : Box w b cs) (hl : vs.length = n) (hj : j + n ≤ cs.length) (h1 : vs.all (·.oneCell') = true)
    (e : puts w b j vs = V) (hK : wpList Try.prog ops Q rest (a.put o.dst undef) V) : wpList Try.prog ops Q (o :: rest) a w :=
  wp_st B hgd x y ho hx hy h hl hj h1 fun V' e' => by rw [← e', e]; exact hK
/-- the same in a region that draws its order -/
theorem op_ld (B : Big ty n) {K : Act → World → Prop} (x : Operand) (ho : o.op = .load ty x) (hx : a.eval x = .pointer (some ⟨b, 0, none⟩)) {cs : List Value} (h : Box w b cs) (hl : cs.length = n)
    (hK : K (a.put o.dst (.agg cs.toArray)) w) : o.wp Try.prog a w K Q := by
  obtain ⟨d, h1, h2, h3⟩ := B
  exact wp_load_mid ty x ho b 0 hx cs d (box_range h) h1 h2 (by rw [hl]; exact h3) hK
theorem op_stV (B : Big ty n) {K : Act → World → Prop} {V : World} (x y : Operand) (ho : o.op = .store ty x y) {j : Nat} (hx : a.eval x = .pointer (some ⟨b, j, none⟩)) {vs cs : List Value} (hy : a.eval y = .agg vs.toArray) (h : Box w b cs) (hl : vs.length = n) (hj : j + n ≤ cs.length) (h1 : vs.all (·.oneCell') = true)
    (e : puts w b j vs = V) (hK : K (a.put o.dst undef) V) : o.wp Try.prog a w K Q := by
  obtain ⟨d, _, _, h3⟩ := B
  refine wp_store_mid ty x y ho b j vs.toArray hx hy (fun i hi => ?_) (by rw [h3, ← hl]; simp) (by simpa using h1) ?_
  · have hlt : j + i < cs.length := by simp at hi; omega
    have e : cs[j + i]? = some (cs[j + i]'hlt) := List.getElem?_eq_getElem hlt
    exact ⟨by rw [h.cell e]; rfl, h.warm e⟩
  · rw [List.toList_toArray, puts_cells, e]
    exact hK
/-- a load that is taken first: whatever the world, if S says what lies there -/
theorem yl (B : Big ty n) {S : World → Prop} (hw : Region.wanted o (yielded ops a.tmps) = true) (x : Operand) (ho : o.op = .load ty x) (hx : a.eval x = .pointer (some ⟨b, 0, none⟩)) {cs : List Value} (hS : ∀ w, S w → w.rangeAt b 0 cs) (hl : cs.length = n) : YieldsIf Try.prog ops S o (.agg cs.toArray) a := by
  obtain ⟨d, h1, h2, h3⟩ := B
  exact yieldsIf_load_mid hw ty x ho b 0 hx cs d hS h1 h2 (by rw [hl]; exact h3)
/-- a store into the newest box, whole -/
theorem wp_new (B : Big ty n) (hgd : Region.wanted o (yielded ops a.tmps) = true) (x y : Operand) {c : Array Value} (ho : o.op = .store ty x y) (hx : a.eval x = .pointer (some ⟨w.heap.size, 0, none⟩)) {vs : List Value} (hy : a.eval y = .agg vs.toArray) (hl : vs.length = n) (hc : c.size = n) (h1 : vs.all (·.oneCell') = true)
    (hK : wpList Try.prog ops Q rest (a.put o.dst undef) (w.alloc (.cells vs.toArray ty))) : wpList Try.prog ops Q (o :: rest) a (w.alloc (.cells c ty)) := by
  obtain ⟨d, _, _, h3⟩ := B
  refine wpList_step fun K hK' => ?_
  rw [if_pos hgd]
  have hr := run_storeAt_new (P := Try.prog) w ty c vs.toArray (by rw [h3, ← hl]; simp) (by simp [hc, hl]) (by simpa using h1)
  unfold Oper.wp execOp
  simp only [ho, hx, hy, Sem.run_bind, Sem.run_pure, Result.andThen_ok, hr]
  exact hK' _ _ hK
end
end Go.Proofs.Ythhmhcmlbpdlbaa.LD
