/- A region that draws its order, met by what each operation yields: whatever the order, an operation runs where those that it waits for have yielded. No case for any order is walked. -/
import Derived.RegionTactic
import Derived.Below
import Derived.WalkKit
import Derived.Lib.Hide
namespace Go.Proofs.Ytcpfdhammhcoaaa.RG
open Go Go.RowKit
set_option linter.unusedVariables false
/-- slot s still holds what it held ahead of the region, when operation i runs -/
def oldAt (ops : Array Oper) (i s : Nat) : Bool := ops.all fun o => o.dst != some s || o.after.any (fun e => Region.binds .any e && e.on == i)
/-- slot s holds what operation j yielded, when operation i runs -/
def gotAt (ops : Array Oper) (i j s : Nat) : Bool := ((ops[i]?).map fun o => o.after.any (fun e => Region.binds .any e && e.on == j)).getD false && ((ops[j]?).bind (·.dst) == some s)
/-- each slot is written once, and who is waited for stands ahead -/
def fit (ops : Array Oper) (n : Nat) : Bool :=
  (List.range ops.size).all fun i => match ops[i]? with
    | none => true
    | some o => o.after.all (fun e => !Region.binds .any e || decide (e.on < i)) && (match o.dst with
      | none => true
      | some d => decide (d < n) && (List.range ops.size).all fun j => j == i || (ops[j]?).bind (·.dst) != some d)
/-- where operation i runs -/
structure At (ops : Array Oper) (V : Nat → World → Value → Prop) (w0 : World) (a0 : Act) (i : Nat) (a : Act) (w : World) : Prop where
  bel : Below w0.heap.size w0 w
  size : a.tmps.size = a0.tmps.size
  old : ∀ s, oldAt ops i s = true → a.tmps.getD s undef = a0.tmps.getD s undef
  got : ∀ j s, gotAt ops i j s = true → V j w (a.tmps.getD s undef)
def Step (P : Program) (ops : Array Oper) (Q : Exit → Act → World → Prop) (V : Nat → World → Value → Prop) (w0 : World) (a0 : Act) (i : Nat) (o : Oper) : Prop :=
  ∀ a w, At ops V w0 a0 i a w → ∀ K : Act → World → Prop, (∀ w' v, Below w.heap.size w w' → V i w' v → K (a.put o.dst v) w') →
    if Region.wanted o (yielded ops a.tmps) = true then Oper.wp P o a w K Q else K (a.put o.dst undef) w
def Steps (P : Program) (ops : Array Oper) (Q : Exit → Act → World → Prop) (V : Nat → World → Value → Prop) (w0 : World) (a0 : Act) : Nat → List Oper → Prop
  | _, [] => True
  | i, o :: r => Step P ops Q V w0 a0 i o ∧ Steps P ops Q V w0 a0 (i + 1) r
theorem steps_nil {P : Program} {ops : Array Oper} {Q : Exit → Act → World → Prop} {V : Nat → World → Value → Prop} {w0 : World} {a0 : Act} {i : Nat} : Steps P ops Q V w0 a0 i [] := trivial
theorem steps_cons {P : Program} {ops : Array Oper} {Q : Exit → Act → World → Prop} {V : Nat → World → Value → Prop} {w0 : World} {a0 : Act} {i : Nat} {o : Oper} {r : List Oper} (h : Step P ops Q V w0 a0 i o) (h' : Steps P ops Q V w0 a0 (i + 1) r) : Steps P ops Q V w0 a0 i (o :: r) := ⟨h, h'⟩
structure St (ops : Array Oper) (V : Nat → World → Value → Prop) (w0 : World) (a0 : Act) (listed : Array Bool) (a : Act) (w : World) : Prop where
  bel : Below w0.heap.size w0 w
  dfr : a.defers = a0.defers
  size : a.tmps.size = a0.tmps.size
  lsz : listed.size = ops.size
  closed : ∀ j o, ops[j]? = some o → listed.getD j true = true → ∀ e ∈ o.after, Region.binds .any e = true → listed.getD e.on true = true
  old : ∀ s, (∀ j o, ops[j]? = some o → o.dst = some s → listed.getD j true = false) → a.tmps.getD s undef = a0.tmps.getD s undef
  got : ∀ j o d, ops[j]? = some o → o.dst = some d → listed.getD j true = true → V j w (a.tmps.getD d undef)
theorem getD_set (l : Array Bool) (i j : Nat) (h : i < l.size) : (l.setIfInBounds i true).getD j true = if j = i then true else l.getD j true := by
  by_cases e : j = i
  · subst e
    simp [Array.getD_eq_getD_getElem?, h]
  · rw [if_neg e]
    simp [Array.getD_eq_getD_getElem?, Ne.symm e]
theorem put_getD (a : Act) (d s : Nat) (v : Value) (h : d < a.tmps.size) : (a.put (some d) v).tmps.getD s undef = if s = d then v else a.tmps.getD s undef := by
  unfold Act.put
  by_cases e : s = d
  · subst e
    simp [Array.getD_eq_getD_getElem?, h]
  · rw [if_neg e]
    simp [Array.getD_eq_getD_getElem?, Ne.symm e]
theorem put_size (a : Act) (d : Option Tmp) (v : Value) : (a.put d v).tmps.size = a.tmps.size := by
  cases d <;> simp [Act.put]
theorem put_defers (a : Act) (d : Option Tmp) (v : Value) : (a.put d v).defers = a.defers := by
  cases d <;> simp [Act.put]
theorem fit_at {ops : Array Oper} {n i : Nat} {o : Oper} (h : fit ops n = true) (ho : ops[i]? = some o) :
    (∀ e ∈ o.after, Region.binds .any e = true → e.on < i) ∧ ∀ d, o.dst = some d → d < n ∧ ∀ j o', ops[j]? = some o' → o'.dst = some d → j = i := by
  unfold fit at h
  have hi : i < ops.size := (Array.getElem?_eq_some_iff.1 ho).1
  have h1 := List.all_eq_true.1 h i (List.mem_range.2 hi)
  rw [ho] at h1
  simp only [Bool.and_eq_true] at h1
  refine ⟨fun e he hb => ?_, fun d hd => ?_⟩
  · have := Array.all_eq_true_iff_forall_mem.1 h1.1 e he
    simpa [hb] using this
  · have h2 := h1.2
    rw [hd] at h2
    simp only [Bool.and_eq_true, decide_eq_true_eq] at h2
    refine ⟨h2.1, fun j o' hj hd' => ?_⟩
    have h3 := List.all_eq_true.1 h2.2 j (List.mem_range.2 (Array.getElem?_eq_some_iff.1 hj).1)
    rw [hj] at h3
    simp [hd'] at h3
    exact h3
theorem steps_at {P : Program} {ops : Array Oper} {Q : Exit → Act → World → Prop} {V : Nat → World → Value → Prop} {w0 : World} {a0 : Act} : ∀ (l : List Oper) (k : Nat), Steps P ops Q V w0 a0 k l → ∀ i o, l[i]? = some o → Step P ops Q V w0 a0 (k + i) o
  | [], _, _, i, o, h => by simp at h
  | x :: r, k, h, i, o, ho => by
    cases i with
    | zero =>
      simp at ho
      subst ho
      exact h.1
    | succ i =>
      have := steps_at r (k + 1) h.2 i o (by simpa using ho)
      rw [show k + (i + 1) = k + 1 + i from by omega]
      exact this
def un (listed : Array Bool) (n : Nat) : Nat := ((List.range n).filter fun i => !listed.getD i true).length
theorem un_lt {listed : Array Bool} {n i : Nat} (hi : i < n) (hl : listed.size = n) (h : listed.getD i true = false) : un (listed.setIfInBounds i true) n < un listed n := by
  have key : ∀ (l : List Nat), l.Nodup → i ∈ l → (l.filter fun j => !(listed.setIfInBounds i true).getD j true).length < (l.filter fun j => !listed.getD j true).length := by
    intro l
    induction l with
    | nil => intro _ hm; simp at hm
    | cons x r ih =>
      intro hn hm
      have hn' := List.nodup_cons.1 hn
      rcases List.mem_cons.1 hm with rfl | hm
      · have e1 : (!(listed.setIfInBounds i true).getD i true) = false := by rw [getD_set _ _ _ (by omega), if_pos rfl]; rfl
        have e2 : (!listed.getD i true) = true := by rw [h]; rfl
        rw [List.filter_cons_of_neg (by rw [e1]; simp), List.filter_cons_of_pos (by rw [e2])]
        have e3 : (r.filter fun j => !(listed.setIfInBounds i true).getD j true) = (r.filter fun j => !listed.getD j true) := by
          apply List.filter_congr
          intro j hj
          rw [getD_set _ _ _ (by omega), if_neg (fun e => hn'.1 (by rw [← e]; exact hj))]
        rw [e3]
        simp
      · have hne : x ≠ i := fun e => hn'.1 (by rw [e]; exact hm)
        have := ih hn'.2 hm
        simp only [List.filter_cons]
        rw [getD_set _ _ _ (by omega), if_neg hne]
        split
        · rw [List.length_cons, List.length_cons]; omega
        · exact this
  exact key _ List.nodup_range (List.mem_range.2 hi)
section
variable {P : Program} {ops : Array Oper} {Q : Exit → Act → World → Prop} {V : Nat → World → Value → Prop} {w0 : World} {a0 : Act}
theorem all_listed {listed : Array Bool} {n : Nat} (hf : fit ops n = true) (hl : listed.size = ops.size) (hr : Region.ready .any ops listed = []) : ∀ i, i < ops.size → listed.getD i true = true := by
  intro i
  induction i using Nat.strongRecOn with
  | _ i ih =>
    intro hi
    rcases hc : listed.getD i true with _ | _
    · exfalso
      have ho : ops[i]? = some ops[i] := Array.getElem?_eq_getElem hi
      have hmem : i ∈ Region.ready .any ops listed := by
        unfold Region.ready
        refine List.mem_filter.2 ⟨List.mem_range.2 hi, ?_⟩
        rw [hc, ho]
        simp only [Bool.not_false, Bool.true_and, Option.map_some, Option.getD_some]
        refine Array.all_eq_true_iff_forall_mem.2 fun e he => ?_
        rcases hb : Region.binds .any e with _ | _
        · rfl
        have hlt := (fit_at hf ho).1 e he hb
        have h1 := ih e.on hlt (by omega)
        have h2 : listed.getD e.on false = listed.getD e.on true := by
          have : e.on < listed.size := by omega
          simp [Array.getD_eq_getD_getElem?, this]
        rw [h2, h1]
        simp
      rw [hr] at hmem
      simp at hmem
    · rfl
theorem ready_at {listed : Array Bool} {n i : Nat} (hf : fit ops n = true) (hl : listed.size = ops.size) (hr : i ∈ Region.ready .any ops listed) :
    ∃ o, ops[i]? = some o ∧ listed.getD i true = false ∧ ∀ e ∈ o.after, Region.binds .any e = true → listed.getD e.on true = true := by
  unfold Region.ready at hr
  obtain ⟨h1, h2⟩ := List.mem_filter.1 hr
  have hi := List.mem_range.1 h1
  have ho : ops[i]? = some ops[i] := Array.getElem?_eq_getElem hi
  rw [ho] at h2
  simp only [Option.map_some, Option.getD_some, Bool.and_eq_true, Bool.not_eq_true'] at h2
  refine ⟨_, ho, h2.1, fun e he hb => ?_⟩
  have h3 := Array.all_eq_true_iff_forall_mem.1 h2.2 e he
  rw [hb] at h3
  have hlt := (fit_at hf ho).1 e he hb
  have h4 : listed.getD e.on false = listed.getD e.on true := by
    have : e.on < listed.size := by omega
    simp [Array.getD_eq_getD_getElem?, this]
  rw [← h4]
  simpa using h3
theorem at_of {listed : Array Bool} {a : Act} {w : World} {i : Nat} {o : Oper} (h : St ops V w0 a0 listed a w) (ho : ops[i]? = some o) (hi : listed.getD i true = false)
    (hd : ∀ e ∈ o.after, Region.binds .any e = true → listed.getD e.on true = true) : At ops V w0 a0 i a w := by
  refine ⟨h.bel, h.size, fun s hs => h.old s fun j o' hj hdj => ?_, fun j s hs => ?_⟩
  · unfold oldAt at hs
    have h1 := Array.all_eq_true_iff_forall_mem.1 hs o' (Array.mem_of_getElem? hj)
    rw [hdj] at h1
    simp only [bne_self_eq_false, Bool.false_or] at h1
    obtain ⟨e, he, hb⟩ := Array.any_eq_true'.1 h1
    simp only [Bool.and_eq_true, beq_iff_eq] at hb
    rcases hc : listed.getD j true with _ | _
    · rfl
    · have := h.closed j o' hj hc e he hb.1
      rw [hb.2, hi] at this
      cases this
  · unfold gotAt at hs
    rw [ho] at hs
    simp only [Option.map_some, Option.getD_some, Bool.and_eq_true, beq_iff_eq] at hs
    obtain ⟨e, he, hb⟩ := Array.any_eq_true'.1 hs.1
    simp only [Bool.and_eq_true, beq_iff_eq] at hb
    have h1 := hd e he hb.1
    rw [hb.2] at h1
    obtain ⟨o', ho', hd'⟩ := Option.bind_eq_some_iff.1 hs.2
    exact h.got j o' s ho' hd' h1
theorem st_step {listed : Array Bool} {a : Act} {w w' : World} {i : Nat} {o : Oper} {v : Value} (hf : fit ops a0.tmps.size = true) (hV : ∀ j u u' x, Below u.heap.size u u' → V j u x → V j u' x) (h : St ops V w0 a0 listed a w) (ho : ops[i]? = some o) (hi : listed.getD i true = false)
    (hd : ∀ e ∈ o.after, Region.binds .any e = true → listed.getD e.on true = true) (hb : Below w.heap.size w w') (hv : o.dst.isSome = true → V i w' v) : St ops V w0 a0 (listed.setIfInBounds i true) (a.put o.dst v) w' := by
  have hil : i < listed.size := by rw [h.lsz]; exact (Array.getElem?_eq_some_iff.1 ho).1
  refine ⟨h.bel.trans (hb.mono h.bel.size), by rw [put_defers]; exact h.dfr, by rw [put_size]; exact h.size, by simp [h.lsz], ?_, ?_, ?_⟩
  · intro j oj hj hlj e he hbe
    rw [getD_set _ _ _ hil] at hlj ⊢
    split
    · rfl
    · split at hlj
      · rename_i e1
        subst e1
        rw [ho] at hj
        cases hj
        exact hd e he hbe
      · exact h.closed j oj hj hlj e he hbe
  · intro s hs
    have hne : o.dst ≠ some s := fun e => by
      have := hs i o ho e
      rw [getD_set _ _ _ hil, if_pos rfl] at this
      cases this
    have h1 := h.old s fun j oj hj hdj => by
      have := hs j oj hj hdj
      rw [getD_set _ _ _ hil] at this
      split at this
      · cases this
      · exact this
    rw [← h1]
    cases hdo : o.dst with
    | none => rfl
    | some d =>
      have hdlt := ((fit_at hf ho).2 d hdo).1
      rw [put_getD _ _ _ _ (by rw [h.size]; exact hdlt), if_neg (fun e => hne (by rw [hdo, e]))]
  · intro j oj d hj hdj hlj
    rw [getD_set _ _ _ hil] at hlj
    by_cases e : j = i
    · subst e
      rw [ho] at hj
      cases hj
      rw [hdj, put_getD _ _ _ _ (by rw [h.size]; exact ((fit_at hf ho).2 d hdj).1), if_pos rfl]
      exact hv (by rw [hdj]; rfl)
    · rw [if_neg e] at hlj
      have h1 := hV j w w' _ hb (h.got j oj d hj hdj hlj)
      cases hdo : o.dst with
      | none => exact h1
      | some d' =>
        have hdlt := (fit_at hf ho).2 d' hdo
        rw [put_getD _ _ _ _ (by rw [h.size]; exact hdlt.1), if_neg (fun e2 => e (hdlt.2 j oj hj (by rw [hdj, e2])))]
        exact h1
theorem wpAny_rg (hf : fit ops a0.tmps.size = true) (hV : ∀ j u u' x, Below u.heap.size u u' → V j u x → V j u' x) (hs : Steps P ops Q V w0 a0 0 ops.toList)
    (hend : ∀ a w, Below w0.heap.size w0 w → a.defers = a0.defers → a.tmps.size = a0.tmps.size → (∀ s, (ops.all fun o => o.dst != some s) = true → a.tmps.getD s undef = a0.tmps.getD s undef) → (∀ j d, (ops[j]?).bind (·.dst) = some d → V j w (a.tmps.getD d undef)) → Q .normal a w) :
    ∀ (fuel : Nat) (listed : Array Bool) (a : Act) (w : World), un listed ops.size ≤ fuel → St ops V w0 a0 listed a w → wpAny P .any ops Q fuel listed a w := by
  have hfin : ∀ (listed : Array Bool) (a : Act) (w : World), St ops V w0 a0 listed a w → (∀ i, i < ops.size → listed.getD i true = true) → Q .normal a w := by
    intro listed a w h hall
    refine hend a w h.bel h.dfr h.size (fun s hs => h.old s fun j o hj hdj => ?_) fun j d hjd => ?_
    · have h1 := Array.all_eq_true_iff_forall_mem.1 hs o (Array.mem_of_getElem? hj)
      rw [hdj] at h1
      simp at h1
    · obtain ⟨o, hj, hdj⟩ := Option.bind_eq_some_iff.1 hjd
      exact h.got j o d hj hdj (hall j (Array.getElem?_eq_some_iff.1 hj).1)
  intro fuel
  induction fuel with
  | zero =>
    intro listed a w hun h
    have h0 : (List.range ops.size).filter (fun i => !listed.getD i true) = [] := List.eq_nil_of_length_eq_zero (Nat.le_zero.1 hun)
    have hall : ∀ i, i < ops.size → listed.getD i true = true := fun i hi => by
      rcases hc : listed.getD i true with _ | _
      · have : i ∈ (List.range ops.size).filter (fun i => !listed.getD i true) := List.mem_filter.2 ⟨List.mem_range.2 hi, by rw [hc]; rfl⟩
        rw [h0] at this
        simp at this
      · rfl
    refine ⟨?_, hfin listed a w h hall⟩
    rcases hr : Region.ready .any ops listed with _ | ⟨i, r⟩
    · rfl
    · exfalso
      obtain ⟨o, ho, hi, _⟩ := ready_at hf h.lsz (i := i) (by rw [hr]; simp)
      rw [hall i (Array.getElem?_eq_some_iff.1 ho).1] at hi
      cases hi
  | succ fuel ih =>
    intro listed a w hun h
    refine ⟨fun hr => hfin listed a w h (all_listed hf h.lsz hr), fun i hi => ?_⟩
    obtain ⟨o, ho, hli, hd⟩ := ready_at hf h.lsz hi
    have hat := at_of h ho hli hd
    have hst := steps_at ops.toList 0 hs i o (by simpa using ho)
    rw [Nat.zero_add] at hst
    have hlt := un_lt (Array.getElem?_eq_some_iff.1 ho).1 h.lsz hli
    refine wpOp_step ho fun K' hK' => ?_
    exact hst a w hat K' fun w' v hb hv => hK' _ _ (ih _ _ _ (by omega) (st_step hf hV h ho hli hd hb fun _ => hv))
theorem fold_size (b : Act) : ∀ (ws : List Nat) (a : Act), (ws.foldl (fun a s => a.put (some s) (b.tmps.getD s undef)) a).tmps.size = a.tmps.size
  | [], a => rfl
  | s :: r, a => by rw [List.foldl_cons, fold_size b r, put_size]
theorem fold_defers (b : Act) : ∀ (ws : List Nat) (a : Act), (ws.foldl (fun a s => a.put (some s) (b.tmps.getD s undef)) a).defers = a.defers
  | [], a => rfl
  | s :: r, a => by rw [List.foldl_cons, fold_defers b r, put_defers]
theorem fold_getD (b : Act) {i : Nat} : ∀ (ws : List Nat) (a : Act), i < a.tmps.size → (ws.foldl (fun a s => a.put (some s) (b.tmps.getD s undef)) a).tmps.getD i undef = if i ∈ ws then b.tmps.getD i undef else a.tmps.getD i undef
  | [], a, _ => by simp
  | s :: r, a, hi => by
    rw [List.foldl_cons, fold_getD b r _ (by rw [put_size]; exact hi)]
    by_cases hr : i ∈ r
    · rw [if_pos hr, if_pos (List.mem_cons_of_mem _ hr)]
    · rw [if_neg hr]
      by_cases e : i = s
      · subst e
        rw [put_getD _ _ _ _ hi, if_pos rfl, if_pos List.mem_cons_self]
      · rw [if_neg (by simp [e, hr])]
        unfold Act.put
        simp [Array.getD_eq_getD_getElem?, Ne.symm e]
/-- what a frame is behind a region: what it was, the region's slots written -/
theorem act_put {a0 a1 : Act} (hd : a1.defers = a0.defers) (hs : a1.tmps.size = a0.tmps.size) (hold : ∀ s, (ops.all fun o => o.dst != some s) = true → a1.tmps.getD s undef = a0.tmps.getD s undef) (ws : List Nat) (hw : ops.toList.filterMap (·.dst) = ws) :
    a1 = ws.foldl (fun a s => a.put (some s) (a1.tmps.getD s undef)) a0 := by
  have h1 := fold_size a1 ws a0
  have h2 := fold_defers a1 ws a0
  have h3 : ∀ i, i < a0.tmps.size → (ws.foldl (fun a s => a.put (some s) (a1.tmps.getD s undef)) a0).tmps.getD i undef = a1.tmps.getD i undef := fun i hi => by
    rw [fold_getD a1 ws a0 hi]
    by_cases hn : i ∈ ws
    · rw [if_pos hn]
    · rw [if_neg hn]
      refine (hold i ?_).symm
      refine Array.all_eq_true_iff_forall_mem.2 fun o ho => ?_
      rw [bne_iff_ne]
      intro e
      exact hn (by rw [← hw]; exact List.mem_filterMap.2 ⟨o, by simpa using ho, e⟩)
  generalize ws.foldl (fun a s => a.put (some s) (a1.tmps.getD s undef)) a0 = a2 at h1 h2 h3
  obtain ⟨t1, d1⟩ := a1
  obtain ⟨t2, d2⟩ := a2
  simp only at h1 h2 h3 hd hs
  have e1 : t1 = t2 := by
    apply Array.ext
    · omega
    · intro i hi1 hi2
      have := h3 i (by omega)
      simp [Array.getD_eq_getD_getElem?, hi1, hi2] at this
      exact this.symm
  subst e1
  rw [hd, h2]
/-- a region that draws its order -/
theorem region {id : Nat} {a : Act} {w : World} (V : Nat → World → Value → Prop) (hm : P.follows .mixedOrders = true) (hf : fit ops a.tmps.size = true) (hV : ∀ j u u' x, Below u.heap.size u u' → V j u x → V j u' x)
    (hs : Steps P ops Q V w.drew a 0 ops.toList)
    (hend : ∀ a1 w1, Below w.drew.heap.size w.drew w1 → a1.defers = a.defers → a1.tmps.size = a.tmps.size → (∀ s, (ops.all fun o => o.dst != some s) = true → a1.tmps.getD s undef = a.tmps.getD s undef) → (∀ j d, (ops[j]?).bind (·.dst) = some d → V j w1 (a1.tmps.getD d undef)) → Q .normal a1 w1) :
    (Code.region id ops true).wp P Q a w := by
  refine wp_region_any hm ?_
  show wpAny P .any ops Q _ _ a w.drew
  have hrep : ∀ j, j < ops.size → (Array.replicate ops.size false).getD j true = false := fun j hj => by
    simp [Array.getD_eq_getD_getElem?, hj]
  refine wpAny_rg hf hV hs hend _ _ _ _ ?_ ⟨Below.refl _ _, rfl, rfl, by simp, ?_, fun _ _ => rfl, ?_⟩
  · unfold un
    exact Nat.le_trans (List.length_filter_le _ _) (by simp)
  · intro j o hj hlj
    rw [hrep j (Array.getElem?_eq_some_iff.1 hj).1] at hlj
    cases hlj
  · intro j o d hj _ hlj
    rw [hrep j (Array.getElem?_eq_some_iff.1 hj).1] at hlj
    cases hlj
end
end Go.Proofs.Ytcpfdhammhcoaaa.RG
