/- Steps of a region with appends: onto an empty row of the region's own (quiet), onto a row of the region's own (may write into what the region made). -/
import Derived.Test.YtcpfdhammhcoaaaRKS
namespace Go.Proofs.Ytcpfdhammhcoaaa.RKA
open Go Go.RowKit Mem MemS Rep RG RK RKS
set_option linter.unusedVariables false
theorem inI64 {x : Int} (h0 : -9223372036854775808 ≤ x) (h1 : x ≤ 9223372036854775807) : In .i64 x := ⟨h0, h1⟩
theorem below_drew {w w7 : World} (h : Below w.drew.heap.size w.drew w7) : Below w.heap.size w w7 := (Below.refl _ _).drew.trans h
/-- '[]int{}' that the region made -/
def sown0 {B : Nat} : Sy B := ⟨fun w x => ∃ b, x = .slice (some ⟨b, 0, none⟩) 0 0 ∧ Own .i64 w B w.heap.size (some ⟨b, 0, none⟩) 0 0 [], false,
  fun u u' x hb ⟨b, h1, h2⟩ => ⟨b, h1, (h2.below hb (Nat.le_refl _)).wide hb.size⟩, fun e => by cases e⟩
theorem quietE {B i : Nat} {app : Nat → Bool} {u : World} {S : World → Value → Prop} {K : Value → World → Prop} (ha : app i = false) (hK : ∀ w' v, eff B app i u w' → S w' v → K v w') : ∀ w' v, Below u.heap.size u w' → S w' v → K v w' :=
  fun w' v hb hv => hK w' v (by unfold eff; rw [ha]; exact hb) hv
theorem loudE {B i : Nat} {app : Nat → Bool} {u : World} {S : World → Value → Prop} {K : Value → World → Prop} (ha : app i = true) (hK : ∀ w' v, eff B app i u w' → S w' v → K v w') : ∀ w' v, Below B u w' → S w' v → K v w' :=
  fun w' v hb hv => hK w' v (by unfold eff; rw [ha]; exact hb) hv
theorem own_nil (k : IntKind) (w : World) (lo hi : Nat) : Own k w lo hi none 0 0 [] := by
  refine ⟨rfl, by simp, ⟨by simp, .inl ⟨rfl, rfl⟩⟩, fun a e => by cases e⟩
theorem app_nil {w : World} {b m c2 : Nat} {ad : Addr} (hm : 0 < m) (hb : m ≤ 8796093022208) (ty : TypeId) :
    (Builtin.append_ #[sty .i64, sty .i64] ty #[.slice (some ⟨b, 0, none⟩) 0 0, .slice (some ad) m c2]).run Try.prog w = (Builtin.append_ #[sty .i64, sty .i64] ty #[.slice none 0 0, .slice (some ad) m c2]).run Try.prog w := by
  obtain ⟨i, h1, h2, h3, h4⟩ := info_of (k := .i64) (by unfold BI; decide)
  have hu := under_of (k := .i64) (by unfold BI; decide)
  have e1 : ¬ m = 0 := by omega
  have e2 : Builtin.nextslicecap m 0 = m := by unfold Builtin.nextslicecap; rw [if_pos (by omega)]
  have e3 : ¬ (281474976710656 < m * i.bytes) := by
    have : m * i.bytes ≤ m * 8 := Nat.mul_le_mul_left _ h4
    omega
  have e4 : ¬ (9223372036854775807 < (m : Int) ∧ i.bytes = 0) := by omega
  have e5 : ∀ a : Addr, loadCells a 0 = pure #[] := fun _ => rfl
  simp [Builtin.append_, run_underlying hu, sizeOf, typeInfo, h1, h3, Builtin.lenOf, Builtin.firstCells, e1, e2, e3, e4, e5]
theorem run_app0 {w : World} {lo hi b B m c2 : Nat} {A2 : Option Addr} {ys : List Int} (h : Own .i64 w lo hi (some ⟨b, 0, none⟩) 0 0 []) (hhi : hi ≤ w.heap.size) (hr : Rd .i64 w B A2 m ys) (hb : m ≤ 8796093022208) (hlo : lo ≤ w.heap.size) (ty : TypeId) :
    ∃ A' c' w', (Builtin.append_ #[sty .i64, sty .i64] ty #[.slice (some ⟨b, 0, none⟩) 0 0, .slice A2 m c2]).run Try.prog w = .ok (.slice A' m c') w' ∧ Own .i64 w' lo w'.heap.size A' m c' ys ∧ Below w.heap.size w w' := by
  obtain ⟨i, h1, h2, h3, h4⟩ := info_of (k := .i64) (by unfold BI; decide)
  have hu := under_of (k := .i64) (by unfold BI; decide)
  rcases Nat.eq_zero_or_pos m with h0 | h0
  · subst h0
    have hy : ys = [] := List.eq_nil_of_length_eq_zero hr.len
    subst hy
    refine ⟨some ⟨b, 0, none⟩, 0, w, ?_, h.wide hhi, Below.refl _ _⟩
    have e5 : ∀ a : Addr, loadCells a 0 = pure #[] := fun _ => rfl
    rcases A2 with _ | ad
    · simp [Builtin.append_, run_underlying hu, sizeOf, typeInfo, h1, Builtin.lenOf, Builtin.firstCells, storeCells]
    · simp [Builtin.append_, run_underlying hu, sizeOf, typeInfo, h1, Builtin.lenOf, Builtin.firstCells, e5, storeCells]
  · obtain ⟨b2, o2, rfl, _, _⟩ := hr.cells h0
    obtain ⟨A', c', w', hrun, ho, hg⟩ := run_app (k := .i64) (by unfold BI; decide) (own_nil .i64 w w.heap.size w.heap.size) hr (by omega) (Nat.le_refl _) ty (c2 := c2)
    rw [Nat.zero_add] at hrun ho
    rw [List.nil_append] at ho
    refine ⟨A', c', w', ?_, ho.base hlo, hg.below (Nat.le_refl _) fun a e => by cases e⟩
    rw [app_nil h0 hb ty]
    exact hrun
section
variable {Q : Exit → Act → World → Prop} {o : Oper} {a : Act} {w : World} {K : Act → World → Prop} {S : World → Value → Prop} {R : World → Prop}
theorem apps (hK : ∀ w' v, R w' → S w' v → K (a.put o.dst v) w') (s x : Operand) (ho : o.op = .call { callee := .builtin .append, args := #[s, x], argTypes := #[sty .i64, sty .i64] }) {v1 v2 v : Value} {w' : World}
    (e1 : a.eval s = v1) (e2 : a.eval x = v2) (hrun : (Builtin.append_ #[sty .i64, sty .i64] o.type #[v1, v2]).run Try.prog w = .ok v w') (hR : R w') (hS : S w' v) : Oper.wp Try.prog o a w K Q := by
  unfold Oper.wp execOp
  simp only [ho, resolve, invoke, builtin, Sem.run_bind, Sem.run_pure, Result.andThen_ok, List.map_toArray, List.map_cons, List.map_nil, e1, e2, hrun]
  exact hK w' v hR hS
end
/-- onto the empty row: quiet -/
theorem app0 {Q : Exit → Act → World → Prop} {o : Oper} {a : Act} {w : World} {K : Act → World → Prop} {S : World → Value → Prop} {B Bx b m c2 : Nat} {A2 : Option Addr} {ys : List Int} (hK : ∀ w' v, Below w.heap.size w w' → S w' v → K (a.put o.dst v) w')
    (s x : Operand) (ho : o.op = .call { callee := .builtin .append, args := #[s, x], argTypes := #[sty .i64, sty .i64] }) (e1 : a.eval s = .slice (some ⟨b, 0, none⟩) 0 0) (e2 : a.eval x = .slice A2 m c2)
    (h : Own .i64 w B w.heap.size (some ⟨b, 0, none⟩) 0 0 []) (hr : Rd .i64 w Bx A2 m ys) (hb : m ≤ 8796093022208) (hB : B ≤ w.heap.size) (hS : ∀ w' x, (sown (B := B) .i64 ys).p w' x → S w' x) : Oper.wp Try.prog o a w K Q := by
  obtain ⟨A', c', w', hrun, hown, hbel⟩ := run_app0 h (Nat.le_refl _) hr hb hB o.type (c2 := c2)
  have hl := hr.len
  subst hl
  exact apps hK s x ho e1 e2 hrun hbel (hS _ _ ⟨A', c', rfl, hown⟩)
/-- onto a row of the region's own -/
theorem app1 {Q : Exit → Act → World → Prop} {o : Oper} {a : Act} {w : World} {K : Act → World → Prop} {S : World → Value → Prop} {B Bx n c m c2 : Nat} {A A2 : Option Addr} {zs ys : List Int} (hK : ∀ w' v, Below B w w' → S w' v → K (a.put o.dst v) w')
    (s x : Operand) (ho : o.op = .call { callee := .builtin .append, args := #[s, x], argTypes := #[sty .i64, sty .i64] }) (e1 : a.eval s = .slice A n c) (e2 : a.eval x = .slice A2 m c2)
    (h : Own .i64 w B w.heap.size A n c zs) (hr : Rd .i64 w Bx A2 m ys) (hb : n + m ≤ 8796093022208) (hB : B ≤ w.heap.size) (hS : ∀ w' x, (sown (B := B) .i64 (zs ++ ys)).p w' x → S w' x) : Oper.wp Try.prog o a w K Q := by
  obtain ⟨A', c', w', hrun, hown, hg⟩ := run_app (k := .i64) (by unfold BI; decide) h hr hb hB o.type (c2 := c2)
  have hl : (zs ++ ys).length = n + m := by rw [List.length_append, h.len, hr.len]
  refine apps hK s x ho e1 e2 hrun (hg.below hB h.ge) (hS _ _ ⟨A', c', ?_, ?_⟩)
  · rw [hl]
  · rw [hl]
    exact hown
theorem sown0_lit {B : Nat} {w : World} (hB : B ≤ w.heap.size) : (sown0 (B := B)).p (w.alloc (.cells #[] (ety .i64))) (.slice (some ⟨w.heap.size, 0, none⟩) 0 0) :=
  ⟨_, rfl, (Own.lit0 .i64 w hB).wide (by simp)⟩
theorem sown_lit1 {B : Nat} {w : World} {z : Int} (hz : In .i64 z) (hB : B ≤ w.heap.size) : (sown (B := B) .i64 [z]).p (w.alloc (.cells #[.int .i64 z] (ety .i64))) (.slice (some ⟨w.heap.size, 0, none⟩) 1 1) :=
  ⟨_, _, rfl, (Own.lit1 .i64 w hz hB).wide (by simp)⟩
theorem own_lits {w : World} {lo : Nat} {zs : List Int} (hz : ∀ z ∈ zs, In .i64 z) (hl : lo ≤ w.heap.size) (hm : zs.length ≤ maxLen) :
    Own .i64 (w.alloc (.cells (zs.map (Value.int .i64)).toArray (ety .i64))) lo (w.heap.size + 1) (some ⟨w.heap.size, 0, none⟩) zs.length zs.length zs :=
  ⟨rfl, hz, by have := World.ownsRow_lit (base := lo) (e := ety .i64) (size := 1) w (zs.map (Value.int .i64)).toArray zs.length hl hm (by simp); simpa using this, fun a e => by injection e with e; subst e; simp⟩
theorem sown_lits {B : Nat} {w : World} {zs : List Int} (hz : ∀ z ∈ zs, In .i64 z) (hB : B ≤ w.heap.size) (hm : zs.length ≤ maxLen) : (sown (B := B) .i64 zs).p (w.alloc (.cells (zs.map (Value.int .i64)).toArray (ety .i64))) (.slice (some ⟨w.heap.size, 0, none⟩) zs.length zs.length) :=
  ⟨_, _, rfl, (own_lits hz hB hm).wide (by simp)⟩
end Go.Proofs.Ytcpfdhammhcoaaa.RKA
