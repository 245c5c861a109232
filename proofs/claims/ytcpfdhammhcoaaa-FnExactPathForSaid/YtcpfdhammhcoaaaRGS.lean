/- What the slots of a region that draws its order may hold, and one step's rules. -/
import Derived.Test.YtcpfdhammhcoaaaRG
import Derived.Test.YtcpfdhammhcoaaaMemS
import Derived.Test.YtcpfdhammhcoaaaRep
namespace Go.Proofs.Ytcpfdhammhcoaaa.RGS
open Go Go.RowKit Mem MemS Rep RG
set_option linter.unusedVariables false
structure Sy where
  p : World → Value → Prop
  keep : ∀ u u' x, Below u.heap.size u u' → p u x → p u' x
def sv (v : Value) : Sy := ⟨fun _ x => x = v, fun _ _ _ _ h => h⟩
def sany : Sy := ⟨fun _ _ => True, fun _ _ _ _ h => h⟩
def swhen (b : Bool) (s : Sy) : Sy := ⟨fun w x => (b = true → s.p w x) ∧ (b = false → x = undef), fun u u' x hb h => ⟨fun e => s.keep u u' x hb (h.1 e), h.2⟩⟩
def snums (k : IntKind) (zs : List Int) : Sy := ⟨fun w x => ∃ A c, x = .slice A zs.length c ∧ zs.length ≤ c ∧ Rd k w w.heap.size A zs.length zs,
  fun u u' x hb ⟨A, c, h1, h2, h3⟩ => ⟨A, c, h1, h2, (h3.below hb (Nat.le_refl _)).more hb.size⟩⟩
def sstrs (zs : List ByteArray) : Sy := ⟨fun w x => ∃ A c, x = .slice A zs.length c ∧ zs.length ≤ c ∧ RdS w w.heap.size A zs.length zs,
  fun u u' x hb ⟨A, c, h1, h2, h3⟩ => ⟨A, c, h1, h2, (h3.below hb (Nat.le_refl _)).more hb.size⟩⟩
def srep {α : Type} (R : Rep α) (d : α) : Sy := ⟨fun w x => ∃ cs, x = .agg (List.toArray cs) ∧ R.rd w (Lt w.heap.size) cs d,
  fun u u' x hb ⟨cs, h1, h2⟩ => ⟨cs, h1, R.more (R.keep h2 fun i hi => hb.block i hi) fun i hi => Nat.lt_of_lt_of_le hi hb.size⟩⟩
theorem old_sy {S : Sy} {w0 w : World} {x v : Value} (e : x = v) (h : S.p w0 v) (hb : Below w0.heap.size w0 w) : S.p w x := by rw [e]; exact S.keep _ _ _ hb h
theorem sy_drew {S : Sy} {w : World} {v : Value} (h : S.p w v) : S.p w.drew v := S.keep _ _ _ (Below.refl _ _).drew h
theorem snums_own {k : IntKind} {w : World} {lo n c : Nat} {A : Option Addr} {zs : List Int} (h : Own k w lo w.heap.size A n c zs) : (snums k zs).p w (.slice A n c) := by
  have := h.len
  subst this
  exact ⟨A, c, rfl, h.cap.1, h.rd⟩
theorem snums_rd {k : IntKind} {w : World} {n c : Nat} {A : Option Addr} {zs : List Int} (h : Rd k w w.heap.size A n zs) (hc : n ≤ c) : (snums k zs).p w (.slice A n c) := by
  have := h.len
  subst this
  exact ⟨A, c, rfl, hc, h⟩
theorem sstrs_own {w : World} {lo n c : Nat} {A : Option Addr} {zs : List ByteArray} (h : OwnS w lo w.heap.size A n c zs) : (sstrs zs).p w (.slice A n c) := by
  have := h.len
  subst this
  exact ⟨A, c, rfl, h.cap.1, h.rd⟩
theorem srep_rd {α : Type} {R : Rep α} {d : α} {w : World} {cs : List Value} (h : R.rd w (Lt w.heap.size) cs d) : (srep R d).p w (.agg (List.toArray cs)) := ⟨cs, rfl, h⟩
theorem eq_bool (x y : Bool) (w : World) : (Op.equal 4 (.bool x) (.bool y)).run Try.prog w = .ok (x == y) w := by cases x <;> cases y <;> kernel_rfl
theorem snums_lit {zs : List Int} {w : World} (h : ∀ z ∈ zs, In .i64 z) : (snums .i64 zs).p (w.alloc (.cells (zs.map (Value.int .i64)).toArray 3)) (.slice (some ⟨w.heap.size, 0, none⟩) zs.length zs.length) := by
  refine ⟨_, _, rfl, Nat.le_refl _, rfl, h, fun h0 => ⟨_, _, rfl, by simp, fun j hj => ?_⟩⟩
  simp [hj, List.getD]
/-- the table of what each operation yields -/
def tabP (l : List Sy) (i : Nat) : World → Value → Prop := (l.getD i sany).p
theorem tab_keep (l : List Sy) (j : Nat) (u u' : World) (x : Value) (hb : Below u.heap.size u u') (h : tabP l j u x) : tabP l j u' x := (l.getD j sany).keep u u' x hb h
theorem wanted_bool {ops : Array Oper} {o : Oper} {a : Act} {g d : Nat} {want b : Bool} (hg : o.guard = some (g, want)) (hd : (ops[g]?).bind (·.dst) = some d) (hv : a.tmps.getD d undef = .bool b) : Region.wanted o (yielded ops a.tmps) = (b == want) := by
  have h1 : a.tmps[d]? = some (.bool b) := by
    rw [Array.getD_eq_getD_getElem?] at hv
    cases h : a.tmps[d]? with
    | none =>
      rw [h] at hv
      exact absurd hv (by simp [undef])
    | some x =>
      rw [h] at hv
      simp at hv
      rw [hv]
  unfold Region.wanted
  rw [hg]
  show ((match ((ops[g]?).bind (·.dst)).bind (a.tmps[·]?) with
    | some (.bool b) => some b
    | _ => none) == some want) = (b == want)
  rw [hd]
  simp [h1]
section
variable {P : Program} {ops : Array Oper} {Q : Exit → Act → World → Prop} {o : Oper} {a : Act} {w : World} {K : Act → World → Prop}
theorem free (hg : o.guard = none) (h : Oper.wp P o a w K Q) : if Region.wanted o (yielded ops a.tmps) = true then Oper.wp P o a w K Q else K (a.put o.dst undef) w := by
  rw [if_pos (by unfold Region.wanted; rw [hg])]
  exact h
theorem guarded {g d : Nat} {want B : Bool} {s : Sy} (hg : o.guard = some (g, want)) (hd : (ops[g]?).bind (·.dst) = some d) (hv : a.tmps.getD d undef = .bool B) (hK : ∀ w' v, Below w.heap.size w w' → (swhen (B == want) s).p w' v → K (a.put o.dst v) w')
    (h1 : (B == want) = true → (∀ w' v, Below w.heap.size w w' → s.p w' v → K (a.put o.dst v) w') → Oper.wp P o a w K Q) : if Region.wanted o (yielded ops a.tmps) = true then Oper.wp P o a w K Q else K (a.put o.dst undef) w := by
  have hw := wanted_bool (ops := ops) (o := o) (a := a) hg hd hv
  cases hb : (B == want) with
  | false =>
    rw [hb] at hw
    rw [if_neg (by simp [hw])]
    exact hK w undef (Below.refl _ _) ⟨fun h => (by rw [hb] at h; cases h), fun _ => rfl⟩
  | true =>
    rw [hb] at hw
    rw [if_pos hw]
    exact h1 hb fun w' v hbl hs => hK w' v hbl ⟨fun _ => hs, fun h => (by rw [hb] at h; cases h)⟩
/-- the same, where the guard has one itself -/
theorem guarded2 {g d : Nat} {want B Cg : Bool} {s : Sy} (hg : o.guard = some (g, want)) (hd : (ops[g]?).bind (·.dst) = some d) (hv : (swhen Cg (sv (.bool B))).p w (a.tmps.getD d undef)) (hK : ∀ w' v, Below w.heap.size w w' → (swhen (Cg && (B == want)) s).p w' v → K (a.put o.dst v) w')
    (h1 : (Cg && (B == want)) = true → (∀ w' v, Below w.heap.size w w' → s.p w' v → K (a.put o.dst v) w') → Oper.wp P o a w K Q) : if Region.wanted o (yielded ops a.tmps) = true then Oper.wp P o a w K Q else K (a.put o.dst undef) w := by
  cases hc : Cg with
  | false =>
    have hu := hv.2 hc
    have hw : Region.wanted o (yielded ops a.tmps) = false := by
      unfold Region.wanted
      rw [hg]
      show ((match ((ops[g]?).bind (·.dst)).bind (a.tmps[·]?) with
        | some (.bool b) => some b
        | _ => none) == some want) = false
      rw [hd]
      cases h : a.tmps[d]? with
      | none => simp [h]
      | some x =>
        rw [Array.getD_eq_getD_getElem?, h] at hu
        simp at hu
        subst hu
        simp [h, undef]
    rw [if_neg (by simp [hw])]
    exact hK w undef (Below.refl _ _) ⟨fun h => (by rw [hc] at h; cases h), fun _ => rfl⟩
  | true =>
    have hv1 := hv.1 hc
    have hw := wanted_bool (ops := ops) (o := o) (a := a) hg hd hv1
    rw [hc] at hK h1
    cases hb : (B == want) with
    | false =>
      rw [hb] at hw
      rw [if_neg (by simp [hw])]
      exact hK w undef (Below.refl _ _) ⟨fun h => (by rw [hb] at h; cases h), fun _ => rfl⟩
    | true =>
      rw [hb] at hw
      rw [if_pos hw]
      exact h1 (by rw [hb]; rfl) fun w' v hbl hs => hK w' v hbl ⟨fun _ => hs, fun h => (by rw [hb] at h; cases h)⟩
theorem and_l {x y : Bool} (h : (x && y) = true) : x = true := by cases x <;> simp_all
theorem and_i {x y : Bool} (h : x = true) (h' : y = true) : (x && y) = true := by rw [h, h']; rfl
/-- an operation that yields in this world -/
theorem gives {v : Value} {S : World → Value → Prop} (hK : ∀ w' v, Below w.heap.size w w' → S w' v → K (a.put o.dst v) w') (h : (execOp a.eval o).run P w = .ok (.value v) w) (hv : S w v) : Oper.wp P o a w K Q := by
  unfold Oper.wp
  rw [h]
  exact hK w v (Below.refl _ _) hv
/-- an operation that yields and lays new blocks -/
theorem lays {v : Value} {w' : World} {S : World → Value → Prop} (hK : ∀ w' v, Below w.heap.size w w' → S w' v → K (a.put o.dst v) w') (h : (execOp a.eval o).run P w = .ok (.value v) w') (hb : Below w.heap.size w w') (hv : S w' v) : Oper.wp P o a w K Q := by
  unfold Oper.wp
  rw [h]
  exact hK w' v hb hv
/-- a call, by its contract -/
theorem calls {f : FuncId} {args : Array Value} {R : Ending → World → Prop} {S : World → Value → Prop} (hK : ∀ w' v, Below w.heap.size w w' → S w' v → K (a.put o.dst v) w') (h : (execOp a.eval o).run P w = .ok (.enter f args) w) (hc : Calls P f args w R)
    (hR : ∀ e w', R e w' → ∃ v, e = .returned v ∧ Below w.heap.size w w' ∧ S w' v) : Oper.wp P o a w K Q := by
  unfold Oper.wp
  rw [h]
  exact hc.mono fun e w' hr => by
    obtain ⟨v, rfl, hb, hv⟩ := hR e w' hr
    exact hK w' v hb hv
end
end Go.Proofs.Ytcpfdhammhcoaaa.RGS
