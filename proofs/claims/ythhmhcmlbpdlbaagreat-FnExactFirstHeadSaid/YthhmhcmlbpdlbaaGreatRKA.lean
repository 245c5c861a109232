/- A region that draws its order, met by what each operation yields: whatever the order, an operation runs where those that it waits for have yielded. No case for any order is walked. What the slots of a region that draws its order may hold, and one step's rules. RG, where some operations (appends) may write into blocks that the region made: what such a step ends ('kills') is no more held behind it, and who reads it stands ahead. What the slots of a region with appends may hold: about blocks below the region's start (base), or about new ones. Steps of a region with appends: onto an empty row of the region's own (quiet), onto a row of the region's own (may write into what the region made). -/
import Derived.RegionTactic
import Derived.Below
import Derived.WalkKit
import Derived.Lib.Hide
import Derived.Test.YthhmhcmlbpdlbaaGreatMem
import Derived.Test.YthhmhcmlbpdlbaaGreatRep
namespace Go.Proofs.YthhmhcmlbpdlbaaGreat.RG
open Go Go.RowKit
set_option linter.unusedVariables false
/-- slot s still holds what it held ahead of the region, when operation i runs -/
def oldAt (ops : Array Oper) (i s : Nat) : Bool := ops.all fun o => o.dst != some s || o.after.any (fun e => Region.binds .any e && e.on == i)
/-- slot s holds what operation j yielded, when operation i runs -/
def gotAt (ops : Array Oper) (i j s : Nat) : Bool := ((ops[i]?).map fun o => o.after.any (fun e => Region.binds .any e && e.on == j)).getD false && ((ops[j]?).bind (·.dst) == some s)
/-- each slot is written once, and who is waited for stands ahead -/
def fit (ops : Array Oper) (n : Nat) : Bool :=
  (List.range ops.size).all fun i => match ops[i]? with
    | none => true
    | some o => o.after.all (fun e => !Region.binds .any e || decide (e.on < i)) && (match o.dst with
      | none => true
      | some d => decide (d < n) && (List.range ops.size).all fun j => j == i || (ops[j]?).bind (·.dst) != some d)
/-- where operation i runs -/
structure At (ops : Array Oper) (V : Nat → World → Value → Prop) (w0 : World) (a0 : Act) (i : Nat) (a : Act) (w : World) : Prop where
  bel : Below w0.heap.size w0 w
  size : a.tmps.size = a0.tmps.size
  old : ∀ s, oldAt ops i s = true → a.tmps.getD s undef = a0.tmps.getD s undef
  got : ∀ j s, gotAt ops i j s = true → V j w (a.tmps.getD s undef)
def Step (P : Program) (ops : Array Oper) (Q : Exit → Act → World → Prop) (V : Nat → World → Value → Prop) (w0 : World) (a0 : Act) (i : Nat) (o : Oper) : Prop :=
  ∀ a w, At ops V w0 a0 i a w → ∀ K : Act → World → Prop, (∀ w' v, Below w.heap.size w w' → V i w' v → K (a.put o.dst v) w') →
    if Region.wanted o (yielded ops a.tmps) = true then Oper.wp P o a w K Q else K (a.put o.dst undef) w
def Steps (P : Program) (ops : Array Oper) (Q : Exit → Act → World → Prop) (V : Nat → World → Value → Prop) (w0 : World) (a0 : Act) : Nat → List Oper → Prop
  | _, [] => True
  | i, o :: r => Step P ops Q V w0 a0 i o ∧ Steps P ops Q V w0 a0 (i + 1) r
theorem steps_nil {P : Program} {ops : Array Oper} {Q : Exit → Act → World → Prop} {V : Nat → World → Value → Prop} {w0 : World} {a0 : Act} {i : Nat} : Steps P ops Q V w0 a0 i [] := trivial
theorem steps_cons {P : Program} {ops : Array Oper} {Q : Exit → Act → World → Prop} {V : Nat → World → Value → Prop} {w0 : World} {a0 : Act} {i : Nat} {o : Oper} {r : List Oper} (h : Step P ops Q V w0 a0 i o) (h' : Steps P ops Q V w0 a0 (i + 1) r) : Steps P ops Q V w0 a0 i (o :: r) := ⟨h, h'⟩
structure St (ops : Array Oper) (V : Nat → World → Value → Prop) (w0 : World) (a0 : Act) (listed : Array Bool) (a : Act) (w : World) : Prop where
  bel : Below w0.heap.size w0 w
  dfr : a.defers = a0.defers
  size : a.tmps.size = a0.tmps.size
  lsz : listed.size = ops.size
  closed : ∀ j o, ops[j]? = some o → listed.getD j true = true → ∀ e ∈ o.after, Region.binds .any e = true → listed.getD e.on true = true
  old : ∀ s, (∀ j o, ops[j]? = some o → o.dst = some s → listed.getD j true = false) → a.tmps.getD s undef = a0.tmps.getD s undef
  got : ∀ j o d, ops[j]? = some o → o.dst = some d → listed.getD j true = true → V j w (a.tmps.getD d undef)
theorem getD_set (l : Array Bool) (i j : Nat) (h : i < l.size) : (l.setIfInBounds i true).getD j true = if j = i then true else l.getD j true := by
  by_cases e : j = i
  · subst e
    simp [Array.getD_eq_getD_getElem?, h]
  · rw [if_neg e]
    simp [Array.getD_eq_getD_getElem?, Ne.symm e]
theorem put_getD (a : Act) (d s : Nat) (v : Value) (h : d < a.tmps.size) : (a.put (some d) v).tmps.getD s undef = if s = d then v else a.tmps.getD s undef := by
  unfold Act.put
  by_cases e : s = d
  · subst e
    simp [Array.getD_eq_getD_getElem?, h]
  · rw [if_neg e]
    simp [Array.getD_eq_getD_getElem?, Ne.symm e]
theorem put_size (a : Act) (d : Option Tmp) (v : Value) : (a.put d v).tmps.size = a.tmps.size := by
  cases d <;> simp [Act.put]
theorem put_defers (a : Act) (d : Option Tmp) (v : Value) : (a.put d v).defers = a.defers := by
  cases d <;> simp [Act.put]
theorem fit_at {ops : Array Oper} {n i : Nat} {o : Oper} (h : fit ops n = true) (ho : ops[i]? = some o) :
    (∀ e ∈ o.after, Region.binds .any e = true → e.on < i) ∧ ∀ d, o.dst = some d → d < n ∧ ∀ j o', ops[j]? = some o' → o'.dst = some d → j = i := by
  unfold fit at h
  have hi : i < ops.size := (Array.getElem?_eq_some_iff.1 ho).1
  have h1 := List.all_eq_true.1 h i (List.mem_range.2 hi)
  rw [ho] at h1
  simp only [Bool.and_eq_true] at h1
  refine ⟨fun e he hb => ?_, fun d hd => ?_⟩
  · have := Array.all_eq_true_iff_forall_mem.1 h1.1 e he
    simpa [hb] using this
  · have h2 := h1.2
    rw [hd] at h2
    simp only [Bool.and_eq_true, decide_eq_true_eq] at h2
    refine ⟨h2.1, fun j o' hj hd' => ?_⟩
    have h3 := List.all_eq_true.1 h2.2 j (List.mem_range.2 (Array.getElem?_eq_some_iff.1 hj).1)
    rw [hj] at h3
    simp [hd'] at h3
    exact h3
theorem steps_at {P : Program} {ops : Array Oper} {Q : Exit → Act → World → Prop} {V : Nat → World → Value → Prop} {w0 : World} {a0 : Act} : ∀ (l : List Oper) (k : Nat), Steps P ops Q V w0 a0 k l → ∀ i o, l[i]? = some o → Step P ops Q V w0 a0 (k + i) o
  | [], _, _, i, o, h => by simp at h
  | x :: r, k, h, i, o, ho => by
    cases i with
    | zero =>
      simp at ho
      subst ho
      exact h.1
    | succ i =>
      have := steps_at r (k + 1) h.2 i o (by simpa using ho)
      rw [show k + (i + 1) = k + 1 + i from by omega]
      exact this
def un (listed : Array Bool) (n : Nat) : Nat := ((List.range n).filter fun i => !listed.getD i true).length
theorem un_lt {listed : Array Bool} {n i : Nat} (hi : i < n) (hl : listed.size = n) (h : listed.getD i true = false) : un (listed.setIfInBounds i true) n < un listed n := by
  have key : ∀ (l : List Nat), l.Nodup → i ∈ l → (l.filter fun j => !(listed.setIfInBounds i true).getD j true).length < (l.filter fun j => !listed.getD j true).length := by
    intro l
    induction l with
    | nil => intro _ hm; simp at hm
    | cons x r ih =>
      intro hn hm
      have hn' := List.nodup_cons.1 hn
      rcases List.mem_cons.1 hm with rfl | hm
      · have e1 : (!(listed.setIfInBounds i true).getD i true) = false := by rw [getD_set _ _ _ (by omega), if_pos rfl]; rfl
        have e2 : (!listed.getD i true) = true := by rw [h]; rfl
        rw [List.filter_cons_of_neg (by rw [e1]; simp), List.filter_cons_of_pos (by rw [e2])]
        have e3 : (r.filter fun j => !(listed.setIfInBounds i true).getD j true) = (r.filter fun j => !listed.getD j true) := by
          apply List.filter_congr
          intro j hj
          rw [getD_set _ _ _ (by omega), if_neg (fun e => hn'.1 (by rw [← e]; exact hj))]
        rw [e3]
        simp
      · have hne : x ≠ i := fun e => hn'.1 (by rw [e]; exact hm)
        have := ih hn'.2 hm
        simp only [List.filter_cons]
        rw [getD_set _ _ _ (by omega), if_neg hne]
        split
        · rw [List.length_cons, List.length_cons]; omega
        · exact this
  exact key _ List.nodup_range (List.mem_range.2 hi)
section
variable {P : Program} {ops : Array Oper} {Q : Exit → Act → World → Prop} {V : Nat → World → Value → Prop} {w0 : World} {a0 : Act}
theorem all_listed {listed : Array Bool} {n : Nat} (hf : fit ops n = true) (hl : listed.size = ops.size) (hr : Region.ready .any ops listed = []) : ∀ i, i < ops.size → listed.getD i true = true := by
  intro i
  induction i using Nat.strongRecOn with
  | _ i ih =>
    intro hi
    rcases hc : listed.getD i true with _ | _
    · exfalso
      have ho : ops[i]? = some ops[i] := Array.getElem?_eq_getElem hi
      have hmem : i ∈ Region.ready .any ops listed := by
        unfold Region.ready
        refine List.mem_filter.2 ⟨List.mem_range.2 hi, ?_⟩
        rw [hc, ho]
        simp only [Bool.not_false, Bool.true_and, Option.map_some, Option.getD_some]
        refine Array.all_eq_true_iff_forall_mem.2 fun e he => ?_
        rcases hb : Region.binds .any e with _ | _
        · rfl
        have hlt := (fit_at hf ho).1 e he hb
        have h1 := ih e.on hlt (by omega)
        have h2 : listed.getD e.on false = listed.getD e.on true := by
          have : e.on < listed.size := by omega
          simp [Array.getD_eq_getD_getElem?, this]
        rw [h2, h1]
        simp
      rw [hr] at hmem
      simp at hmem
    · rfl
theorem ready_at {listed : Array Bool} {n i : Nat} (hf : fit ops n = true) (hl : listed.size = ops.size) (hr : i ∈ Region.ready .any ops listed) :
    ∃ o, ops[i]? = some o ∧ listed.getD i true = false ∧ ∀ e ∈ o.after, Region.binds .any e = true → listed.getD e.on true = true := by
  unfold Region.ready at hr
  obtain ⟨h1, h2⟩ := List.mem_filter.1 hr
  have hi := List.mem_range.1 h1
  have ho : ops[i]? = some ops[i] := Array.getElem?_eq_getElem hi
  rw [ho] at h2
  simp only [Option.map_some, Option.getD_some, Bool.and_eq_true, Bool.not_eq_true'] at h2
  refine ⟨_, ho, h2.1, fun e he hb => ?_⟩
  have h3 := Array.all_eq_true_iff_forall_mem.1 h2.2 e he
  rw [hb] at h3
  have hlt := (fit_at hf ho).1 e he hb
  have h4 : listed.getD e.on false = listed.getD e.on true := by
    have : e.on < listed.size := by omega
    simp [Array.getD_eq_getD_getElem?, this]
  rw [← h4]
  simpa using h3
theorem at_of {listed : Array Bool} {a : Act} {w : World} {i : Nat} {o : Oper} (h : St ops V w0 a0 listed a w) (ho : ops[i]? = some o) (hi : listed.getD i true = false)
    (hd : ∀ e ∈ o.after, Region.binds .any e = true → listed.getD e.on true = true) : At ops V w0 a0 i a w := by
  refine ⟨h.bel, h.size, fun s hs => h.old s fun j o' hj hdj => ?_, fun j s hs => ?_⟩
  · unfold oldAt at hs
    have h1 := Array.all_eq_true_iff_forall_mem.1 hs o' (Array.mem_of_getElem? hj)
    rw [hdj] at h1
    simp only [bne_self_eq_false, Bool.false_or] at h1
    obtain ⟨e, he, hb⟩ := Array.any_eq_true'.1 h1
    simp only [Bool.and_eq_true, beq_iff_eq] at hb
    rcases hc : listed.getD j true with _ | _
    · rfl
    · have := h.closed j o' hj hc e he hb.1
      rw [hb.2, hi] at this
      cases this
  · unfold gotAt at hs
    rw [ho] at hs
    simp only [Option.map_some, Option.getD_some, Bool.and_eq_true, beq_iff_eq] at hs
    obtain ⟨e, he, hb⟩ := Array.any_eq_true'.1 hs.1
    simp only [Bool.and_eq_true, beq_iff_eq] at hb
    have h1 := hd e he hb.1
    rw [hb.2] at h1
    obtain ⟨o', ho', hd'⟩ := Option.bind_eq_some_iff.1 hs.2
    exact h.got j o' s ho' hd' h1
theorem st_step {listed : Array Bool} {a : Act} {w w' : World} {i : Nat} {o : Oper} {v : Value} (hf : fit ops a0.tmps.size = true) (hV : ∀ j u u' x, Below u.heap.size u u' → V j u x → V j u' x) (h : St ops V w0 a0 listed a w) (ho : ops[i]? = some o) (hi : listed.getD i true = false)
    (hd : ∀ e ∈ o.after, Region.binds .any e = true → listed.getD e.on true = true) (hb : Below w.heap.size w w') (hv : o.dst.isSome = true → V i w' v) : St ops V w0 a0 (listed.setIfInBounds i true) (a.put o.dst v) w' := by
  have hil : i < listed.size := by rw [h.lsz]; exact (Array.getElem?_eq_some_iff.1 ho).1
  refine ⟨h.bel.trans (hb.mono h.bel.size), by rw [put_defers]; exact h.dfr, by rw [put_size]; exact h.size, by simp [h.lsz], ?_, ?_, ?_⟩
  · intro j oj hj hlj e he hbe
    rw [getD_set _ _ _ hil] at hlj ⊢
    split
    · rfl
    · split at hlj
      · rename_i e1
        subst e1
        rw [ho] at hj
        cases hj
        exact hd e he hbe
      · exact h.closed j oj hj hlj e he hbe
  · intro s hs
    have hne : o.dst ≠ some s := fun e => by
      have := hs i o ho e
      rw [getD_set _ _ _ hil, if_pos rfl] at this
      cases this
    have h1 := h.old s fun j oj hj hdj => by
      have := hs j oj hj hdj
      rw [getD_set _ _ _ hil] at this
      split at this
      · cases this
      · exact this
    rw [← h1]
    cases hdo : o.dst with
    | none => rfl
    | some d =>
      have hdlt := ((fit_at hf ho).2 d hdo).1
      rw [put_getD _ _ _ _ (by rw [h.size]; exact hdlt), if_neg (fun e => hne (by rw [hdo, e]))]
  · intro j oj d hj hdj hlj
    rw [getD_set _ _ _ hil] at hlj
    by_cases e : j = i
    · subst e
      rw [ho] at hj
      cases hj
      rw [hdj, put_getD _ _ _ _ (by rw [h.size]; exact ((fit_at hf ho).2 d hdj).1), if_pos rfl]
      exact hv (by rw [hdj]; rfl)
    · rw [if_neg e] at hlj
      have h1 := hV j w w' _ hb (h.got j oj d hj hdj hlj)
      cases hdo : o.dst with
      | none => exact h1
      | some d' =>
        have hdlt := (fit_at hf ho).2 d' hdo
        rw [put_getD _ _ _ _ (by rw [h.size]; exact hdlt.1), if_neg (fun e2 => e (hdlt.2 j oj hj (by rw [hdj, e2])))]
        exact h1
theorem wpAny_rg (hf : fit ops a0.tmps.size = true) (hV : ∀ j u u' x, Below u.heap.size u u' → V j u x → V j u' x) (hs : Steps P ops Q V w0 a0 0 ops.toList)
    (hend : ∀ a w, Below w0.heap.size w0 w → a.defers = a0.defers → a.tmps.size = a0.tmps.size → (∀ s, (ops.all fun o => o.dst != some s) = true → a.tmps.getD s undef = a0.tmps.getD s undef) → (∀ j d, (ops[j]?).bind (·.dst) = some d → V j w (a.tmps.getD d undef)) → Q .normal a w) :
    ∀ (fuel : Nat) (listed : Array Bool) (a : Act) (w : World), un listed ops.size ≤ fuel → St ops V w0 a0 listed a w → wpAny P .any ops Q fuel listed a w := by
  have hfin : ∀ (listed : Array Bool) (a : Act) (w : World), St ops V w0 a0 listed a w → (∀ i, i < ops.size → listed.getD i true = true) → Q .normal a w := by
    intro listed a w h hall
    refine hend a w h.bel h.dfr h.size (fun s hs => h.old s fun j o hj hdj => ?_) fun j d hjd => ?_
    · have h1 := Array.all_eq_true_iff_forall_mem.1 hs o (Array.mem_of_getElem? hj)
      rw [hdj] at h1
      simp at h1
    · obtain ⟨o, hj, hdj⟩ := Option.bind_eq_some_iff.1 hjd
      exact h.got j o d hj hdj (hall j (Array.getElem?_eq_some_iff.1 hj).1)
  intro fuel
  induction fuel with
  | zero =>
    intro listed a w hun h
    have h0 : (List.range ops.size).filter (fun i => !listed.getD i true) = [] := List.eq_nil_of_length_eq_zero (Nat.le_zero.1 hun)
    have hall : ∀ i, i < ops.size → listed.getD i true = true := fun i hi => by
      rcases hc : listed.getD i true with _ | _
      · have : i ∈ (List.range ops.size).filter (fun i => !listed.getD i true) := List.mem_filter.2 ⟨List.mem_range.2 hi, by rw [hc]; rfl⟩
        rw [h0] at this
        simp at this
      · rfl
    refine ⟨?_, hfin listed a w h hall⟩
    rcases hr : Region.ready .any ops listed with _ | ⟨i, r⟩
    · rfl
    · exfalso
      obtain ⟨o, ho, hi, _⟩ := ready_at hf h.lsz (i := i) (by rw [hr]; simp)
      rw [hall i (Array.getElem?_eq_some_iff.1 ho).1] at hi
      cases hi
  | succ fuel ih =>
    intro listed a w hun h
    refine ⟨fun hr => hfin listed a w h (all_listed hf h.lsz hr), fun i hi => ?_⟩
    obtain ⟨o, ho, hli, hd⟩ := ready_at hf h.lsz hi
    have hat := at_of h ho hli hd
    have hst := steps_at ops.toList 0 hs i o (by simpa using ho)
    rw [Nat.zero_add] at hst
    have hlt := un_lt (Array.getElem?_eq_some_iff.1 ho).1 h.lsz hli
    refine wpOp_step ho fun K' hK' => ?_
    exact hst a w hat K' fun w' v hb hv => hK' _ _ (ih _ _ _ (by omega) (st_step hf hV h ho hli hd hb fun _ => hv))
theorem fold_size (b : Act) : ∀ (ws : List Nat) (a : Act), (ws.foldl (fun a s => a.put (some s) (b.tmps.getD s undef)) a).tmps.size = a.tmps.size
  | [], a => rfl
  | s :: r, a => by rw [List.foldl_cons, fold_size b r, put_size]
theorem fold_defers (b : Act) : ∀ (ws : List Nat) (a : Act), (ws.foldl (fun a s => a.put (some s) (b.tmps.getD s undef)) a).defers = a.defers
  | [], a => rfl
  | s :: r, a => by rw [List.foldl_cons, fold_defers b r, put_defers]
theorem fold_getD (b : Act) {i : Nat} : ∀ (ws : List Nat) (a : Act), i < a.tmps.size → (ws.foldl (fun a s => a.put (some s) (b.tmps.getD s undef)) a).tmps.getD i undef = if i ∈ ws then b.tmps.getD i undef else a.tmps.getD i undef
  | [], a, _ => by simp
  | s :: r, a, hi => by
    rw [List.foldl_cons, fold_getD b r _ (by rw [put_size]; exact hi)]
    by_cases hr : i ∈ r
    · rw [if_pos hr, if_pos (List.mem_cons_of_mem _ hr)]
    · rw [if_neg hr]
      by_cases e : i = s
      · subst e
        rw [put_getD _ _ _ _ hi, if_pos rfl, if_pos List.mem_cons_self]
      · rw [if_neg (by simp [e, hr])]
        unfold Act.put
        simp [Array.getD_eq_getD_getElem?, Ne.symm e]
/-- what a frame is behind a region: what it was, the region's slots written -/
theorem act_put {a0 a1 : Act} (hd : a1.defers = a0.defers) (hs : a1.tmps.size = a0.tmps.size) (hold : ∀ s, (ops.all fun o => o.dst != some s) = true → a1.tmps.getD s undef = a0.tmps.getD s undef) (ws : List Nat) (hw : ops.toList.filterMap (·.dst) = ws) :
    a1 = ws.foldl (fun a s => a.put (some s) (a1.tmps.getD s undef)) a0 := by
  have h1 := fold_size a1 ws a0
  have h2 := fold_defers a1 ws a0
  have h3 : ∀ i, i < a0.tmps.size → (ws.foldl (fun a s => a.put (some s) (a1.tmps.getD s undef)) a0).tmps.getD i undef = a1.tmps.getD i undef := fun i hi => by
    rw [fold_getD a1 ws a0 hi]
    by_cases hn : i ∈ ws
    · rw [if_pos hn]
    · rw [if_neg hn]
      refine (hold i ?_).symm
      refine Array.all_eq_true_iff_forall_mem.2 fun o ho => ?_
      rw [bne_iff_ne]
      intro e
      exact hn (by rw [← hw]; exact List.mem_filterMap.2 ⟨o, by simpa using ho, e⟩)
  generalize ws.foldl (fun a s => a.put (some s) (a1.tmps.getD s undef)) a0 = a2 at h1 h2 h3
  obtain ⟨t1, d1⟩ := a1
  obtain ⟨t2, d2⟩ := a2
  simp only at h1 h2 h3 hd hs
  have e1 : t1 = t2 := by
    apply Array.ext
    · omega
    · intro i hi1 hi2
      have := h3 i (by omega)
      simp [Array.getD_eq_getD_getElem?, hi1, hi2] at this
      exact this.symm
  subst e1
  rw [hd, h2]
/-- a region that draws its order -/
theorem region {id : Nat} {a : Act} {w : World} (V : Nat → World → Value → Prop) (hm : P.follows .mixedOrders = true) (hf : fit ops a.tmps.size = true) (hV : ∀ j u u' x, Below u.heap.size u u' → V j u x → V j u' x)
    (hs : Steps P ops Q V w.drew a 0 ops.toList)
    (hend : ∀ a1 w1, Below w.drew.heap.size w.drew w1 → a1.defers = a.defers → a1.tmps.size = a.tmps.size → (∀ s, (ops.all fun o => o.dst != some s) = true → a1.tmps.getD s undef = a.tmps.getD s undef) → (∀ j d, (ops[j]?).bind (·.dst) = some d → V j w1 (a1.tmps.getD d undef)) → Q .normal a1 w1) :
    (Code.region id ops true).wp P Q a w := by
  refine wp_region_any hm ?_
  show wpAny P .any ops Q _ _ a w.drew
  have hrep : ∀ j, j < ops.size → (Array.replicate ops.size false).getD j true = false := fun j hj => by
    simp [Array.getD_eq_getD_getElem?, hj]
  refine wpAny_rg hf hV hs hend _ _ _ _ ?_ ⟨Below.refl _ _, rfl, rfl, by simp, ?_, fun _ _ => rfl, ?_⟩
  · unfold un
    exact Nat.le_trans (List.length_filter_le _ _) (by simp)
  · intro j o hj hlj
    rw [hrep j (Array.getElem?_eq_some_iff.1 hj).1] at hlj
    cases hlj
  · intro j o d hj _ hlj
    rw [hrep j (Array.getElem?_eq_some_iff.1 hj).1] at hlj
    cases hlj
end
end Go.Proofs.YthhmhcmlbpdlbaaGreat.RG
namespace Go.Proofs.YthhmhcmlbpdlbaaGreat.RGS
open Go Go.RowKit Mem MemS Rep RG
set_option linter.unusedVariables false
structure Sy where
  p : World → Value → Prop
  keep : ∀ u u' x, Below u.heap.size u u' → p u x → p u' x
def sv (v : Value) : Sy := ⟨fun _ x => x = v, fun _ _ _ _ h => h⟩
def sany : Sy := ⟨fun _ _ => True, fun _ _ _ _ h => h⟩
def swhen (b : Bool) (s : Sy) : Sy := ⟨fun w x => (b = true → s.p w x) ∧ (b = false → x = undef), fun u u' x hb h => ⟨fun e => s.keep u u' x hb (h.1 e), h.2⟩⟩
def snums (k : IntKind) (zs : List Int) : Sy := ⟨fun w x => ∃ A c, x = .slice A zs.length c ∧ zs.length ≤ c ∧ Rd k w w.heap.size A zs.length zs,
  fun u u' x hb ⟨A, c, h1, h2, h3⟩ => ⟨A, c, h1, h2, (h3.below hb (Nat.le_refl _)).more hb.size⟩⟩
def sstrs (zs : List ByteArray) : Sy := ⟨fun w x => ∃ A c, x = .slice A zs.length c ∧ zs.length ≤ c ∧ RdS w w.heap.size A zs.length zs,
  fun u u' x hb ⟨A, c, h1, h2, h3⟩ => ⟨A, c, h1, h2, (h3.below hb (Nat.le_refl _)).more hb.size⟩⟩
def srep {α : Type} (R : Rep α) (d : α) : Sy := ⟨fun w x => ∃ cs, x = .agg (List.toArray cs) ∧ R.rd w (Lt w.heap.size) cs d,
  fun u u' x hb ⟨cs, h1, h2⟩ => ⟨cs, h1, R.more (R.keep h2 fun i hi => hb.block i hi) fun i hi => Nat.lt_of_lt_of_le hi hb.size⟩⟩
theorem old_sy {S : Sy} {w0 w : World} {x v : Value} (e : x = v) (h : S.p w0 v) (hb : Below w0.heap.size w0 w) : S.p w x := by rw [e]; exact S.keep _ _ _ hb h
theorem sy_drew {S : Sy} {w : World} {v : Value} (h : S.p w v) : S.p w.drew v := S.keep _ _ _ (Below.refl _ _).drew h
theorem snums_own {k : IntKind} {w : World} {lo n c : Nat} {A : Option Addr} {zs : List Int} (h : Own k w lo w.heap.size A n c zs) : (snums k zs).p w (.slice A n c) := by
  have := h.len
  subst this
  exact ⟨A, c, rfl, h.cap.1, h.rd⟩
theorem snums_rd {k : IntKind} {w : World} {n c : Nat} {A : Option Addr} {zs : List Int} (h : Rd k w w.heap.size A n zs) (hc : n ≤ c) : (snums k zs).p w (.slice A n c) := by
  have := h.len
  subst this
  exact ⟨A, c, rfl, hc, h⟩
theorem sstrs_own {w : World} {lo n c : Nat} {A : Option Addr} {zs : List ByteArray} (h : OwnS w lo w.heap.size A n c zs) : (sstrs zs).p w (.slice A n c) := by
  have := h.len
  subst this
  exact ⟨A, c, rfl, h.cap.1, h.rd⟩
theorem srep_rd {α : Type} {R : Rep α} {d : α} {w : World} {cs : List Value} (h : R.rd w (Lt w.heap.size) cs d) : (srep R d).p w (.agg (List.toArray cs)) := ⟨cs, rfl, h⟩
theorem eq_bool (x y : Bool) (w : World) : (Op.equal 4 (.bool x) (.bool y)).run Tryz.prog w = .ok (x == y) w := by cases x <;> cases y <;> kernel_rfl
theorem snums_lit {zs : List Int} {w : World} (h : ∀ z ∈ zs, In .i64 z) : (snums .i64 zs).p (w.alloc (.cells (zs.map (Value.int .i64)).toArray 3)) (.slice (some ⟨w.heap.size, 0, none⟩) zs.length zs.length) := by
  refine ⟨_, _, rfl, Nat.le_refl _, rfl, h, fun h0 => ⟨_, _, rfl, by simp, fun j hj => ?_⟩⟩
  simp [hj, List.getD]
/-- the table of what each operation yields -/
def tabP (l : List Sy) (i : Nat) : World → Value → Prop := (l.getD i sany).p
theorem tab_keep (l : List Sy) (j : Nat) (u u' : World) (x : Value) (hb : Below u.heap.size u u') (h : tabP l j u x) : tabP l j u' x := (l.getD j sany).keep u u' x hb h
theorem wanted_bool {ops : Array Oper} {o : Oper} {a : Act} {g d : Nat} {want b : Bool} (hg : o.guard = some (g, want)) (hd : (ops[g]?).bind (·.dst) = some d) (hv : a.tmps.getD d undef = .bool b) : Region.wanted o (yielded ops a.tmps) = (b == want) := by
  have h1 : a.tmps[d]? = some (.bool b) := by
    rw [Array.getD_eq_getD_getElem?] at hv
    cases h : a.tmps[d]? with
    | none =>
      rw [h] at hv
      exact absurd hv (by simp [undef])
    | some x =>
      rw [h] at hv
      simp at hv
      rw [hv]
  unfold Region.wanted
  rw [hg]
  show ((match ((ops[g]?).bind (·.dst)).bind (a.tmps[·]?) with
    | some (.bool b) => some b
    | _ => none) == some want) = (b == want)
  rw [hd]
  simp [h1]
section
variable {P : Program} {ops : Array Oper} {Q : Exit → Act → World → Prop} {o : Oper} {a : Act} {w : World} {K : Act → World → Prop}
theorem free (hg : o.guard = none) (h : Oper.wp P o a w K Q) : if Region.wanted o (yielded ops a.tmps) = true then Oper.wp P o a w K Q else K (a.put o.dst undef) w := by
  rw [if_pos (by unfold Region.wanted; rw [hg])]
  exact h
theorem guarded {g d : Nat} {want B : Bool} {s : Sy} (hg : o.guard = some (g, want)) (hd : (ops[g]?).bind (·.dst) = some d) (hv : a.tmps.getD d undef = .bool B) (hK : ∀ w' v, Below w.heap.size w w' → (swhen (B == want) s).p w' v → K (a.put o.dst v) w')
    (h1 : (B == want) = true → (∀ w' v, Below w.heap.size w w' → s.p w' v → K (a.put o.dst v) w') → Oper.wp P o a w K Q) : if Region.wanted o (yielded ops a.tmps) = true then Oper.wp P o a w K Q else K (a.put o.dst undef) w := by
  have hw := wanted_bool (ops := ops) (o := o) (a := a) hg hd hv
  cases hb : (B == want) with
  | false =>
    rw [hb] at hw
    rw [if_neg (by simp [hw])]
    exact hK w undef (Below.refl _ _) ⟨fun h => (by rw [hb] at h; cases h), fun _ => rfl⟩
  | true =>
    rw [hb] at hw
    rw [if_pos hw]
    exact h1 hb fun w' v hbl hs => hK w' v hbl ⟨fun _ => hs, fun h => (by rw [hb] at h; cases h)⟩
/-- the same, where the guard has one itself -/
theorem guarded2 {g d : Nat} {want B Cg : Bool} {s : Sy} (hg : o.guard = some (g, want)) (hd : (ops[g]?).bind (·.dst) = some d) (hv : (swhen Cg (sv (.bool B))).p w (a.tmps.getD d undef)) (hK : ∀ w' v, Below w.heap.size w w' → (swhen (Cg && (B == want)) s).p w' v → K (a.put o.dst v) w')
    (h1 : (Cg && (B == want)) = true → (∀ w' v, Below w.heap.size w w' → s.p w' v → K (a.put o.dst v) w') → Oper.wp P o a w K Q) : if Region.wanted o (yielded ops a.tmps) = true then Oper.wp P o a w K Q else K (a.put o.dst undef) w := by
  cases hc : Cg with
  | false =>
    have hu := hv.2 hc
    have hw : Region.wanted o (yielded ops a.tmps) = false := by
      unfold Region.wanted
      rw [hg]
      show ((match ((ops[g]?).bind (·.dst)).bind (a.tmps[·]?) with
        | some (.bool b) => some b
        | _ => none) == some want) = false
      rw [hd]
      cases h : a.tmps[d]? with
      | none => simp [h]
      | some x =>
        rw [Array.getD_eq_getD_getElem?, h] at hu
        simp at hu
        subst hu
        simp [h, undef]
    rw [if_neg (by simp [hw])]
    exact hK w undef (Below.refl _ _) ⟨fun h => (by rw [hc] at h; cases h), fun _ => rfl⟩
  | true =>
    have hv1 := hv.1 hc
    have hw := wanted_bool (ops := ops) (o := o) (a := a) hg hd hv1
    rw [hc] at hK h1
    cases hb : (B == want) with
    | false =>
      rw [hb] at hw
      rw [if_neg (by simp [hw])]
      exact hK w undef (Below.refl _ _) ⟨fun h => (by rw [hb] at h; cases h), fun _ => rfl⟩
    | true =>
      rw [hb] at hw
      rw [if_pos hw]
      exact h1 (by rw [hb]; rfl) fun w' v hbl hs => hK w' v hbl ⟨fun _ => hs, fun h => (by rw [hb] at h; cases h)⟩
theorem and_l {x y : Bool} (h : (x && y) = true) : x = true := by cases x <;> simp_all
theorem and_i {x y : Bool} (h : x = true) (h' : y = true) : (x && y) = true := by rw [h, h']; rfl
/-- an operation that yields in this world -/
theorem gives {v : Value} {S : World → Value → Prop} (hK : ∀ w' v, Below w.heap.size w w' → S w' v → K (a.put o.dst v) w') (h : (execOp a.eval o).run P w = .ok (.value v) w) (hv : S w v) : Oper.wp P o a w K Q := by
  unfold Oper.wp
  rw [h]
  exact hK w v (Below.refl _ _) hv
/-- an operation that yields and lays new blocks -/
theorem lays {v : Value} {w' : World} {S : World → Value → Prop} (hK : ∀ w' v, Below w.heap.size w w' → S w' v → K (a.put o.dst v) w') (h : (execOp a.eval o).run P w = .ok (.value v) w') (hb : Below w.heap.size w w') (hv : S w' v) : Oper.wp P o a w K Q := by
  unfold Oper.wp
  rw [h]
  exact hK w' v hb hv
/-- a call, by its contract -/
theorem calls {f : FuncId} {args : Array Value} {R : Ending → World → Prop} {S : World → Value → Prop} (hK : ∀ w' v, Below w.heap.size w w' → S w' v → K (a.put o.dst v) w') (h : (execOp a.eval o).run P w = .ok (.enter f args) w) (hc : Calls P f args w R)
    (hR : ∀ e w', R e w' → ∃ v, e = .returned v ∧ Below w.heap.size w w' ∧ S w' v) : Oper.wp P o a w K Q := by
  unfold Oper.wp
  rw [h]
  exact hc.mono fun e w' hr => by
    obtain ⟨v, rfl, hb, hv⟩ := hR e w' hr
    exact hK w' v hb hv
end
end Go.Proofs.YthhmhcmlbpdlbaaGreat.RGS
namespace Go.Proofs.YthhmhcmlbpdlbaaGreat.RK
open Go Go.RowKit RG
set_option linter.unusedVariables false
/-- what operation j yielded is still held, when operation i runs: whoever ends it is i itself, or waits for i -/
def heldAt (ops : Array Oper) (kills : Nat → Nat → Bool) (i j s : Nat) : Bool := gotAt ops i j s && (List.range ops.size).all fun k => !kills k j || k == i || ((ops[k]?).map fun o => o.after.any (fun e => Region.binds .any e && e.on == i)).getD false
/-- operation j waits for i -/
def waits (ops : Array Oper) (j i : Nat) : Bool := ((ops[j]?).map fun o => o.after.any (fun e => Region.binds .any e && e.on == i)).getD false
/-- where operation i runs -/
structure At (ops : Array Oper) (kills : Nat → Nat → Bool) (V : Nat → World → Value → Prop) (w0 : World) (a0 : Act) (i : Nat) (a : Act) (w : World) : Prop where
  bel : Below w0.heap.size w0 w
  size : a.tmps.size = a0.tmps.size
  old : ∀ s, oldAt ops i s = true → a.tmps.getD s undef = a0.tmps.getD s undef
  got : ∀ j s, heldAt ops kills i j s = true → V j w (a.tmps.getD s undef)
def Step (P : Program) (ops : Array Oper) (Q : Exit → Act → World → Prop) (kills : Nat → Nat → Bool) (E : Nat → World → World → Prop) (V : Nat → World → Value → Prop) (w0 : World) (a0 : Act) (i : Nat) (o : Oper) : Prop :=
  ∀ a w, At ops kills V w0 a0 i a w → ∀ K : Act → World → Prop, (∀ w' v, E i w w' → V i w' v → K (a.put o.dst v) w') →
    if Region.wanted o (yielded ops a.tmps) = true then Oper.wp P o a w K Q else K (a.put o.dst undef) w
def Steps (P : Program) (ops : Array Oper) (Q : Exit → Act → World → Prop) (kills : Nat → Nat → Bool) (E : Nat → World → World → Prop) (V : Nat → World → Value → Prop) (w0 : World) (a0 : Act) : Nat → List Oper → Prop
  | _, [] => True
  | i, o :: r => Step P ops Q kills E V w0 a0 i o ∧ Steps P ops Q kills E V w0 a0 (i + 1) r
theorem steps_nil {P : Program} {ops : Array Oper} {Q : Exit → Act → World → Prop} {kills : Nat → Nat → Bool} {E : Nat → World → World → Prop} {V : Nat → World → Value → Prop} {w0 : World} {a0 : Act} {i : Nat} : Steps P ops Q kills E V w0 a0 i [] := trivial
theorem steps_cons {P : Program} {ops : Array Oper} {Q : Exit → Act → World → Prop} {kills : Nat → Nat → Bool} {E : Nat → World → World → Prop} {V : Nat → World → Value → Prop} {w0 : World} {a0 : Act} {i : Nat} {o : Oper} {r : List Oper} (h : Step P ops Q kills E V w0 a0 i o) (h' : Steps P ops Q kills E V w0 a0 (i + 1) r) : Steps P ops Q kills E V w0 a0 i (o :: r) := ⟨h, h'⟩
structure St (ops : Array Oper) (kills : Nat → Nat → Bool) (V : Nat → World → Value → Prop) (w0 : World) (a0 : Act) (listed : Array Bool) (a : Act) (w : World) : Prop where
  bel : Below w0.heap.size w0 w
  dfr : a.defers = a0.defers
  size : a.tmps.size = a0.tmps.size
  lsz : listed.size = ops.size
  closed : ∀ j o, ops[j]? = some o → listed.getD j true = true → ∀ e ∈ o.after, Region.binds .any e = true → listed.getD e.on true = true
  old : ∀ s, (∀ j o, ops[j]? = some o → o.dst = some s → listed.getD j true = false) → a.tmps.getD s undef = a0.tmps.getD s undef
  got : ∀ j o d, ops[j]? = some o → o.dst = some d → listed.getD j true = true → (∀ k, k < ops.size → kills k j = true → listed.getD k true = false) → V j w (a.tmps.getD d undef)
theorem steps_at {P : Program} {ops : Array Oper} {Q : Exit → Act → World → Prop} {kills : Nat → Nat → Bool} {E : Nat → World → World → Prop} {V : Nat → World → Value → Prop} {w0 : World} {a0 : Act} : ∀ (l : List Oper) (k : Nat), Steps P ops Q kills E V w0 a0 k l → ∀ i o, l[i]? = some o → Step P ops Q kills E V w0 a0 (k + i) o
  | [], _, _, i, o, h => by simp at h
  | x :: r, k, h, i, o, ho => by
    cases i with
    | zero =>
      simp at ho
      subst ho
      exact h.1
    | succ i =>
      have := steps_at r (k + 1) h.2 i o (by simpa using ho)
      rw [show k + (i + 1) = k + 1 + i from by omega]
      exact this
section
variable {P : Program} {ops : Array Oper} {Q : Exit → Act → World → Prop} {kills : Nat → Nat → Bool} {E : Nat → World → World → Prop} {V : Nat → World → Value → Prop} {w0 : World} {a0 : Act}
theorem at_of {listed : Array Bool} {a : Act} {w : World} {i : Nat} {o : Oper} (h : St ops kills V w0 a0 listed a w) (ho : ops[i]? = some o) (hi : listed.getD i true = false)
    (hd : ∀ e ∈ o.after, Region.binds .any e = true → listed.getD e.on true = true) : At ops kills V w0 a0 i a w := by
  refine ⟨h.bel, h.size, fun s hs => h.old s fun j o' hj hdj => ?_, fun j s hs => ?_⟩
  · unfold oldAt at hs
    have h1 := Array.all_eq_true_iff_forall_mem.1 hs o' (Array.mem_of_getElem? hj)
    rw [hdj] at h1
    simp only [bne_self_eq_false, Bool.false_or] at h1
    obtain ⟨e, he, hb⟩ := Array.any_eq_true'.1 h1
    simp only [Bool.and_eq_true, beq_iff_eq] at hb
    rcases hc : listed.getD j true with _ | _
    · rfl
    · have := h.closed j o' hj hc e he hb.1
      rw [hb.2, hi] at this
      cases this
  · unfold heldAt at hs
    simp only [Bool.and_eq_true] at hs
    obtain ⟨hs, hk⟩ := hs
    unfold gotAt at hs
    rw [ho] at hs
    simp only [Option.map_some, Option.getD_some, Bool.and_eq_true, beq_iff_eq] at hs
    obtain ⟨e, he, hb⟩ := Array.any_eq_true'.1 hs.1
    simp only [Bool.and_eq_true, beq_iff_eq] at hb
    have h1 := hd e he hb.1
    rw [hb.2] at h1
    obtain ⟨o', ho', hd'⟩ := Option.bind_eq_some_iff.1 hs.2
    refine h.got j o' s ho' hd' h1 fun k hk1 hk2 => ?_
    have h3 := List.all_eq_true.1 hk k (List.mem_range.2 hk1)
    rw [hk2] at h3
    simp only [Bool.not_true, Bool.false_or, Bool.or_eq_true, beq_iff_eq] at h3
    rcases h3 with h3 | h3
    · rw [h3]; exact hi
    · have ho2 : ops[k]? = some ops[k] := Array.getElem?_eq_getElem hk1
      rw [ho2] at h3
      simp only [Option.map_some, Option.getD_some] at h3
      obtain ⟨e', he', hb'⟩ := Array.any_eq_true'.1 h3
      simp only [Bool.and_eq_true, beq_iff_eq] at hb'
      rcases hc : listed.getD k true with _ | _
      · rfl
      · have := h.closed k _ ho2 hc e' he' hb'.1
        rw [hb'.2, hi] at this
        cases this
theorem st_step {listed : Array Bool} {a : Act} {w w' : World} {i : Nat} {o : Oper} {v : Value} (hf : fit ops a0.tmps.size = true) (hE : ∀ i u u', w0.heap.size ≤ u.heap.size → E i u u' → Below w0.heap.size u u') (hV : ∀ i j u u' x, w0.heap.size ≤ u.heap.size → i ≠ j → kills i j = false → waits ops j i = false → E i u u' → V j u x → V j u' x) (h : St ops kills V w0 a0 listed a w) (ho : ops[i]? = some o) (hi : listed.getD i true = false)
    (hd : ∀ e ∈ o.after, Region.binds .any e = true → listed.getD e.on true = true) (hb : E i w w') (hv : o.dst.isSome = true → V i w' v) : St ops kills V w0 a0 (listed.setIfInBounds i true) (a.put o.dst v) w' := by
  have hil : i < listed.size := by rw [h.lsz]; exact (Array.getElem?_eq_some_iff.1 ho).1
  refine ⟨h.bel.trans (hE i _ _ h.bel.size hb), by rw [put_defers]; exact h.dfr, by rw [put_size]; exact h.size, by simp [h.lsz], ?_, ?_, ?_⟩
  · intro j oj hj hlj e he hbe
    rw [getD_set _ _ _ hil] at hlj ⊢
    split
    · rfl
    · split at hlj
      · rename_i e1
        subst e1
        rw [ho] at hj
        cases hj
        exact hd e he hbe
      · exact h.closed j oj hj hlj e he hbe
  · intro s hs
    have hne : o.dst ≠ some s := fun e => by
      have := hs i o ho e
      rw [getD_set _ _ _ hil, if_pos rfl] at this
      cases this
    have h1 := h.old s fun j oj hj hdj => by
      have := hs j oj hj hdj
      rw [getD_set _ _ _ hil] at this
      split at this
      · cases this
      · exact this
    rw [← h1]
    cases hdo : o.dst with
    | none => rfl
    | some d =>
      have hdlt := ((fit_at hf ho).2 d hdo).1
      rw [put_getD _ _ _ _ (by rw [h.size]; exact hdlt), if_neg (fun e => hne (by rw [hdo, e]))]
  · intro j oj d hj hdj hlj hkl
    rw [getD_set _ _ _ hil] at hlj
    by_cases e : j = i
    · subst e
      rw [ho] at hj
      cases hj
      rw [hdj, put_getD _ _ _ _ (by rw [h.size]; exact ((fit_at hf ho).2 d hdj).1), if_pos rfl]
      exact hv (by rw [hdj]; rfl)
    · rw [if_neg e] at hlj
      have hki : kills i j = false := by
        rcases hc : kills i j with _ | _
        · rfl
        · have := hkl i (by rw [← h.lsz]; exact hil) hc
          rw [getD_set _ _ _ hil, if_pos rfl] at this
          cases this
      have hwt : waits ops j i = false := by
        rcases hc : waits ops j i with _ | _
        · rfl
        · unfold waits at hc
          rw [hj] at hc
          simp only [Option.map_some, Option.getD_some] at hc
          obtain ⟨e', he', hb'⟩ := Array.any_eq_true'.1 hc
          simp only [Bool.and_eq_true, beq_iff_eq] at hb'
          have := h.closed j oj hj hlj e' he' hb'.1
          rw [hb'.2, hi] at this
          cases this
      have h1 := hV i j w w' _ h.bel.size (fun e9 => e e9.symm) hki hwt hb (h.got j oj d hj hdj hlj fun k hk1 hk2 => by
        have := hkl k hk1 hk2
        rw [getD_set _ _ _ hil] at this
        split at this
        · cases this
        · exact this)
      cases hdo : o.dst with
      | none => exact h1
      | some d' =>
        have hdlt := (fit_at hf ho).2 d' hdo
        rw [put_getD _ _ _ _ (by rw [h.size]; exact hdlt.1), if_neg (fun e2 => e (hdlt.2 j oj hj (by rw [hdj, e2])))]
        exact h1
theorem wpAny_rg (hf : fit ops a0.tmps.size = true) (hE : ∀ i u u', w0.heap.size ≤ u.heap.size → E i u u' → Below w0.heap.size u u') (hV : ∀ i j u u' x, w0.heap.size ≤ u.heap.size → i ≠ j → kills i j = false → waits ops j i = false → E i u u' → V j u x → V j u' x) (hs : Steps P ops Q kills E V w0 a0 0 ops.toList)
    (hend : ∀ a w, Below w0.heap.size w0 w → a.defers = a0.defers → a.tmps.size = a0.tmps.size → (∀ s, (ops.all fun o => o.dst != some s) = true → a.tmps.getD s undef = a0.tmps.getD s undef) → (∀ j d, (ops[j]?).bind (·.dst) = some d → ((List.range ops.size).all fun k => !kills k j) = true → V j w (a.tmps.getD d undef)) → Q .normal a w) :
    ∀ (fuel : Nat) (listed : Array Bool) (a : Act) (w : World), un listed ops.size ≤ fuel → St ops kills V w0 a0 listed a w → wpAny P .any ops Q fuel listed a w := by
  have hfin : ∀ (listed : Array Bool) (a : Act) (w : World), St ops kills V w0 a0 listed a w → (∀ i, i < ops.size → listed.getD i true = true) → Q .normal a w := by
    intro listed a w h hall
    refine hend a w h.bel h.dfr h.size (fun s hs => h.old s fun j o hj hdj => ?_) fun j d hjd hjk => ?_
    · have h1 := Array.all_eq_true_iff_forall_mem.1 hs o (Array.mem_of_getElem? hj)
      rw [hdj] at h1
      simp at h1
    · obtain ⟨o, hj, hdj⟩ := Option.bind_eq_some_iff.1 hjd
      refine h.got j o d hj hdj (hall j (Array.getElem?_eq_some_iff.1 hj).1) fun k hk1 hk2 => ?_
      have := List.all_eq_true.1 hjk k (List.mem_range.2 hk1)
      rw [hk2] at this
      cases this
  intro fuel
  induction fuel with
  | zero =>
    intro listed a w hun h
    have h0 : (List.range ops.size).filter (fun i => !listed.getD i true) = [] := List.eq_nil_of_length_eq_zero (Nat.le_zero.1 hun)
    have hall : ∀ i, i < ops.size → listed.getD i true = true := fun i hi => by
      rcases hc : listed.getD i true with _ | _
      · have : i ∈ (List.range ops.size).filter (fun i => !listed.getD i true) := List.mem_filter.2 ⟨List.mem_range.2 hi, by rw [hc]; rfl⟩
        rw [h0] at this
        simp at this
      · rfl
    refine ⟨?_, hfin listed a w h hall⟩
    rcases hr : Region.ready .any ops listed with _ | ⟨i, r⟩
    · rfl
    · exfalso
      obtain ⟨o, ho, hi, _⟩ := ready_at hf h.lsz (i := i) (by rw [hr]; simp)
      rw [hall i (Array.getElem?_eq_some_iff.1 ho).1] at hi
      cases hi
  | succ fuel ih =>
    intro listed a w hun h
    refine ⟨fun hr => hfin listed a w h (all_listed hf h.lsz hr), fun i hi => ?_⟩
    obtain ⟨o, ho, hli, hd⟩ := ready_at hf h.lsz hi
    have hat := at_of h ho hli hd
    have hst := steps_at ops.toList 0 hs i o (by simpa using ho)
    rw [Nat.zero_add] at hst
    have hlt := un_lt (Array.getElem?_eq_some_iff.1 ho).1 h.lsz hli
    refine wpOp_step ho fun K' hK' => ?_
    exact hst a w hat K' fun w' v hb hv => hK' _ _ (ih _ _ _ (by omega) (st_step hf hE hV h ho hli hd hb fun _ => hv))
/-- a region that draws its order -/
theorem region {id : Nat} {a : Act} {w : World} (kills : Nat → Nat → Bool) (E : Nat → World → World → Prop) (V : Nat → World → Value → Prop) (hm : P.follows .mixedOrders = true) (hf : fit ops a.tmps.size = true) (hE : ∀ i u u', w.drew.heap.size ≤ u.heap.size → E i u u' → Below w.drew.heap.size u u') (hV : ∀ i j u u' x, w.drew.heap.size ≤ u.heap.size → i ≠ j → kills i j = false → waits ops j i = false → E i u u' → V j u x → V j u' x)
    (hs : Steps P ops Q kills E V w.drew a 0 ops.toList)
    (hend : ∀ a1 w1, Below w.drew.heap.size w.drew w1 → a1.defers = a.defers → a1.tmps.size = a.tmps.size → (∀ s, (ops.all fun o => o.dst != some s) = true → a1.tmps.getD s undef = a.tmps.getD s undef) → (∀ j d, (ops[j]?).bind (·.dst) = some d → ((List.range ops.size).all fun k => !kills k j) = true → V j w1 (a1.tmps.getD d undef)) → Q .normal a1 w1) :
    (Code.region id ops true).wp P Q a w := by
  refine wp_region_any hm ?_
  show wpAny P .any ops Q _ _ a w.drew
  have hrep : ∀ j, j < ops.size → (Array.replicate ops.size false).getD j true = false := fun j hj => by
    simp [Array.getD_eq_getD_getElem?, hj]
  refine wpAny_rg hf hE hV hs hend _ _ _ _ ?_ ⟨Below.refl _ _, rfl, rfl, by simp, ?_, fun _ _ => rfl, ?_⟩
  · unfold un
    exact Nat.le_trans (List.length_filter_le _ _) (by simp)
  · intro j o hj hlj
    rw [hrep j (Array.getElem?_eq_some_iff.1 hj).1] at hlj
    cases hlj
  · intro j o d hj _ hlj _
    rw [hrep j (Array.getElem?_eq_some_iff.1 hj).1] at hlj
    cases hlj
end
end Go.Proofs.YthhmhcmlbpdlbaaGreat.RK
namespace Go.Proofs.YthhmhcmlbpdlbaaGreat.RKS
open Go Go.RowKit Mem MemS Rep RG RK
set_option linter.unusedVariables false
structure Sy (B : Nat) where
  p : World → Value → Prop
  base : Bool
  keep : ∀ u u' x, Below u.heap.size u u' → p u x → p u' x
  keepB : base = true → ∀ u u' x, Below B u u' → p u x → p u' x
/-- held whatever happens above B -/
def sbase {B : Nat} (p : World → Value → Prop) (h : ∀ u u' x, Below B u u' → p u x → p u' x) (h' : ∀ u u' x, Below u.heap.size u u' → p u x → p u' x) : Sy B := ⟨p, true, h', fun _ => h⟩
def sv {B : Nat} (v : Value) : Sy B := ⟨fun _ x => x = v, true, fun _ _ _ _ h => h, fun _ _ _ _ _ h => h⟩
def sany {B : Nat} : Sy B := ⟨fun _ _ => True, true, fun _ _ _ _ h => h, fun _ _ _ _ _ h => h⟩
def swhen {B : Nat} (b : Bool) (s : Sy B) : Sy B := ⟨fun w x => (b = true → s.p w x) ∧ (b = false → x = undef), s.base,
  fun u u' x hb h => ⟨fun e => s.keep u u' x hb (h.1 e), h.2⟩, fun e u u' x hb h => ⟨fun e' => s.keepB e u u' x hb (h.1 e'), h.2⟩⟩
/-- a row of numbers that the region made: no more held behind an append -/
def sown {B : Nat} (k : IntKind) (zs : List Int) : Sy B := ⟨fun w x => ∃ A c, x = .slice A zs.length c ∧ Own k w B w.heap.size A zs.length c zs, false,
  fun u u' x hb ⟨A, c, h1, h2⟩ => ⟨A, c, h1, (h2.below hb (Nat.le_refl _)).wide hb.size⟩, fun e => by cases e⟩
def srepB {B : Nat} {α : Type} (R : Rep α) (d : α) : Sy B := sbase (fun w x => (∃ cs, x = .agg (List.toArray cs) ∧ R.rd w (Lt B) cs d) ∧ B ≤ w.heap.size)
  (fun u u' x hb ⟨⟨cs, h1, h2⟩, h3⟩ => ⟨⟨cs, h1, R.keep h2 fun i hi => hb.block i hi⟩, Nat.le_trans h3 hb.size⟩)
  (fun u u' x hb ⟨⟨cs, h1, h2⟩, h3⟩ => ⟨⟨cs, h1, R.keep h2 fun i hi => hb.block i (Nat.lt_of_lt_of_le hi h3)⟩, Nat.le_trans h3 hb.size⟩)
def snumsB {B : Nat} (k : IntKind) (zs : List Int) : Sy B := sbase (fun w x => (∃ A c, x = .slice A zs.length c ∧ zs.length ≤ c ∧ Rd k w B A zs.length zs) ∧ B ≤ w.heap.size)
  (fun u u' x hb ⟨⟨A, c, h1, h2, h3⟩, h4⟩ => ⟨⟨A, c, h1, h2, h3.below hb (Nat.le_refl _)⟩, Nat.le_trans h4 hb.size⟩)
  (fun u u' x hb ⟨⟨A, c, h1, h2, h3⟩, h4⟩ => ⟨⟨A, c, h1, h2, h3.below hb h4⟩, Nat.le_trans h4 hb.size⟩)
def tabP {B : Nat} (l : List (Sy B)) (i : Nat) : World → Value → Prop := (l.getD i sany).p
/-- an append may write into any block that the region made -/
def eff (B : Nat) (app : Nat → Bool) (i : Nat) (u u' : World) : Prop := if app i then Below B u u' else Below u.heap.size u u'
def kill {B : Nat} (ops : Array Oper) (app : Nat → Bool) (l : List (Sy B)) (i j : Nat) : Bool := app i && i != j && !(l.getD j sany).base && !waits ops j i
theorem eff_below {B : Nat} {app : Nat → Bool} (i : Nat) (u u' : World) (h : B ≤ u.heap.size) (he : eff B app i u u') : Below B u u' := by
  unfold eff at he
  split at he
  · exact he
  · exact he.mono h
theorem eff_keep {B : Nat} {ops : Array Oper} {app : Nat → Bool} {l : List (Sy B)} (i j : Nat) (u u' : World) (x : Value) (h : B ≤ u.heap.size) (hij : i ≠ j) (hk : kill ops app l i j = false) (hw : waits ops j i = false) (he : eff B app i u u') (hv : tabP l j u x) : tabP l j u' x := by
  unfold eff at he
  unfold kill at hk
  rw [hw] at hk
  cases ha : app i with
  | false =>
    rw [ha] at he
    exact (l.getD j sany).keep u u' x he hv
  | true =>
    rw [ha] at he hk
    have hb : (l.getD j sany).base = true := by simpa [hij] using hk
    exact (l.getD j sany).keepB hb u u' x he hv
section
variable {P : Program} {ops : Array Oper} {Q : Exit → Act → World → Prop} {o : Oper} {a : Act} {w : World} {K : Act → World → Prop} {R : World → Prop} {B0 : Nat}
theorem wanted_bool {g d : Nat} {want b : Bool} (hg : o.guard = some (g, want)) (hd : (ops[g]?).bind (·.dst) = some d) (hv : a.tmps.getD d undef = .bool b) : Region.wanted o (yielded ops a.tmps) = (b == want) := RGS.wanted_bool hg hd hv
theorem free (hg : o.guard = none) (h : Region.wanted o (yielded ops a.tmps) = true → Oper.wp P o a w K Q) : if Region.wanted o (yielded ops a.tmps) = true then Oper.wp P o a w K Q else K (a.put o.dst undef) w := by
  have hw : Region.wanted o (yielded ops a.tmps) = true := by unfold Region.wanted; rw [hg]
  rw [if_pos hw]
  exact h hw
theorem guarded {g d : Nat} {want B : Bool} {s : Sy B0} (hg : o.guard = some (g, want)) (hd : (ops[g]?).bind (·.dst) = some d) (hv : a.tmps.getD d undef = .bool B) (hR : R w) (hK : ∀ w' v, R w' → (swhen (B == want) s).p w' v → K (a.put o.dst v) w')
    (h1 : (B == want) = true → Region.wanted o (yielded ops a.tmps) = true → (∀ w' v, R w' → s.p w' v → K (a.put o.dst v) w') → Oper.wp P o a w K Q) : if Region.wanted o (yielded ops a.tmps) = true then Oper.wp P o a w K Q else K (a.put o.dst undef) w := by
  have hw := wanted_bool (ops := ops) (o := o) (a := a) hg hd hv
  cases hb : (B == want) with
  | false =>
    rw [hb] at hw
    rw [if_neg (by simp [hw])]
    exact hK w undef hR ⟨fun h => (by rw [hb] at h; cases h), fun _ => rfl⟩
  | true =>
    rw [hb] at hw
    rw [if_pos hw]
    exact h1 hb hw fun w' v hbl hs => hK w' v hbl ⟨fun _ => hs, fun h => (by rw [hb] at h; cases h)⟩
theorem guarded2 {g d : Nat} {want B Cg : Bool} {s : Sy B0} (hg : o.guard = some (g, want)) (hd : (ops[g]?).bind (·.dst) = some d) (hv : (swhen (B := B0) Cg (sv (.bool B))).p w (a.tmps.getD d undef)) (hR : R w) (hK : ∀ w' v, R w' → (swhen (Cg && (B == want)) s).p w' v → K (a.put o.dst v) w')
    (h1 : (Cg && (B == want)) = true → Region.wanted o (yielded ops a.tmps) = true → (∀ w' v, R w' → s.p w' v → K (a.put o.dst v) w') → Oper.wp P o a w K Q) : if Region.wanted o (yielded ops a.tmps) = true then Oper.wp P o a w K Q else K (a.put o.dst undef) w := by
  cases hc : Cg with
  | false =>
    have hu := hv.2 hc
    have hw : Region.wanted o (yielded ops a.tmps) = false := by
      unfold Region.wanted
      rw [hg]
      show ((match ((ops[g]?).bind (·.dst)).bind (a.tmps[·]?) with
        | some (.bool b) => some b
        | _ => none) == some want) = false
      rw [hd]
      cases h : a.tmps[d]? with
      | none => simp [h]
      | some x =>
        rw [Array.getD_eq_getD_getElem?, h] at hu
        simp at hu
        subst hu
        simp [h, undef]
    rw [if_neg (by simp [hw])]
    exact hK w undef hR ⟨fun h => (by rw [hc] at h; cases h), fun _ => rfl⟩
  | true =>
    have hv1 := hv.1 hc
    have hw := wanted_bool (ops := ops) (o := o) (a := a) hg hd hv1
    rw [hc] at hK h1
    cases hb : (B == want) with
    | false =>
      rw [hb] at hw
      rw [if_neg (by simp [hw])]
      exact hK w undef hR ⟨fun h => (by rw [hb] at h; cases h), fun _ => rfl⟩
    | true =>
      rw [hb] at hw
      rw [if_pos hw]
      exact h1 (by rw [hb]; rfl) hw fun w' v hbl hs => hK w' v hbl ⟨fun _ => hs, fun h => (by rw [hb] at h; cases h)⟩
end
end Go.Proofs.YthhmhcmlbpdlbaaGreat.RKS
namespace Go.Proofs.YthhmhcmlbpdlbaaGreat.RKA
open Go Go.RowKit Mem MemS Rep RG RK RKS
set_option linter.unusedVariables false
theorem inI64 {x : Int} (h0 : -9223372036854775808 ≤ x) (h1 : x ≤ 9223372036854775807) : In .i64 x := ⟨h0, h1⟩
theorem below_drew {w w7 : World} (h : Below w.drew.heap.size w.drew w7) : Below w.heap.size w w7 := (Below.refl _ _).drew.trans h
/-- '[]int{}' that the region made -/
def sown0 {B : Nat} : Sy B := ⟨fun w x => ∃ b, x = .slice (some ⟨b, 0, none⟩) 0 0 ∧ Own .i64 w B w.heap.size (some ⟨b, 0, none⟩) 0 0 [], false,
  fun u u' x hb ⟨b, h1, h2⟩ => ⟨b, h1, (h2.below hb (Nat.le_refl _)).wide hb.size⟩, fun e => by cases e⟩
theorem quietE {B i : Nat} {app : Nat → Bool} {u : World} {S : World → Value → Prop} {K : Value → World → Prop} (ha : app i = false) (hK : ∀ w' v, eff B app i u w' → S w' v → K v w') : ∀ w' v, Below u.heap.size u w' → S w' v → K v w' :=
  fun w' v hb hv => hK w' v (by unfold eff; rw [ha]; exact hb) hv
theorem loudE {B i : Nat} {app : Nat → Bool} {u : World} {S : World → Value → Prop} {K : Value → World → Prop} (ha : app i = true) (hK : ∀ w' v, eff B app i u w' → S w' v → K v w') : ∀ w' v, Below B u w' → S w' v → K v w' :=
  fun w' v hb hv => hK w' v (by unfold eff; rw [ha]; exact hb) hv
theorem own_nil (k : IntKind) (w : World) (lo hi : Nat) : Own k w lo hi none 0 0 [] := by
  refine ⟨rfl, by simp, ⟨by simp, .inl ⟨rfl, rfl⟩⟩, fun a e => by cases e⟩
theorem app_nil {w : World} {b m c2 : Nat} {ad : Addr} (hm : 0 < m) (hb : m ≤ 8796093022208) (ty : TypeId) :
    (Builtin.append_ #[sty .i64, sty .i64] ty #[.slice (some ⟨b, 0, none⟩) 0 0, .slice (some ad) m c2]).run Tryz.prog w = (Builtin.append_ #[sty .i64, sty .i64] ty #[.slice none 0 0, .slice (some ad) m c2]).run Tryz.prog w := by
  obtain ⟨i, h1, h2, h3, h4⟩ := info_of (k := .i64) (by unfold BI; decide)
  have hu := under_of (k := .i64) (by unfold BI; decide)
  have e1 : ¬ m = 0 := by omega
  have e2 : Builtin.nextslicecap m 0 = m := by unfold Builtin.nextslicecap; rw [if_pos (by omega)]
  have e3 : ¬ (281474976710656 < m * i.bytes) := by
    have : m * i.bytes ≤ m * 8 := Nat.mul_le_mul_left _ h4
    omega
  have e4 : ¬ (9223372036854775807 < (m : Int) ∧ i.bytes = 0) := by omega
  have e5 : ∀ a : Addr, loadCells a 0 = pure #[] := fun _ => rfl
  simp [Builtin.append_, run_underlying hu, sizeOf, typeInfo, h1, h3, Builtin.lenOf, Builtin.firstCells, e1, e2, e3, e4, e5]
theorem run_app0 {w : World} {lo hi b B m c2 : Nat} {A2 : Option Addr} {ys : List Int} (h : Own .i64 w lo hi (some ⟨b, 0, none⟩) 0 0 []) (hhi : hi ≤ w.heap.size) (hr : Rd .i64 w B A2 m ys) (hb : m ≤ 8796093022208) (hlo : lo ≤ w.heap.size) (ty : TypeId) :
    ∃ A' c' w', (Builtin.append_ #[sty .i64, sty .i64] ty #[.slice (some ⟨b, 0, none⟩) 0 0, .slice A2 m c2]).run Tryz.prog w = .ok (.slice A' m c') w' ∧ Own .i64 w' lo w'.heap.size A' m c' ys ∧ Below w.heap.size w w' := by
  obtain ⟨i, h1, h2, h3, h4⟩ := info_of (k := .i64) (by unfold BI; decide)
  have hu := under_of (k := .i64) (by unfold BI; decide)
  rcases Nat.eq_zero_or_pos m with h0 | h0
  · subst h0
    have hy : ys = [] := List.eq_nil_of_length_eq_zero hr.len
    subst hy
    refine ⟨some ⟨b, 0, none⟩, 0, w, ?_, h.wide hhi, Below.refl _ _⟩
    have e5 : ∀ a : Addr, loadCells a 0 = pure #[] := fun _ => rfl
    rcases A2 with _ | ad
    · simp [Builtin.append_, run_underlying hu, sizeOf, typeInfo, h1, Builtin.lenOf, Builtin.firstCells, storeCells]
    · simp [Builtin.append_, run_underlying hu, sizeOf, typeInfo, h1, Builtin.lenOf, Builtin.firstCells, e5, storeCells]
  · obtain ⟨b2, o2, rfl, _, _⟩ := hr.cells h0
    obtain ⟨A', c', w', hrun, ho, hg⟩ := run_app (k := .i64) (by unfold BI; decide) (own_nil .i64 w w.heap.size w.heap.size) hr (by omega) (Nat.le_refl _) ty (c2 := c2)
    rw [Nat.zero_add] at hrun ho
    rw [List.nil_append] at ho
    refine ⟨A', c', w', ?_, ho.base hlo, hg.below (Nat.le_refl _) fun a e => by cases e⟩
    rw [app_nil h0 hb ty]
    exact hrun
section
variable {Q : Exit → Act → World → Prop} {o : Oper} {a : Act} {w : World} {K : Act → World → Prop} {S : World → Value → Prop} {R : World → Prop}
theorem apps (hK : ∀ w' v, R w' → S w' v → K (a.put o.dst v) w') (s x : Operand) (ho : o.op = .call { callee := .builtin .append, args := #[s, x], argTypes := #[sty .i64, sty .i64] }) {v1 v2 v : Value} {w' : World}
    (e1 : a.eval s = v1) (e2 : a.eval x = v2) (hrun : (Builtin.append_ #[sty .i64, sty .i64] o.type #[v1, v2]).run Tryz.prog w = .ok v w') (hR : R w') (hS : S w' v) : Oper.wp Tryz.prog o a w K Q := by
  unfold Oper.wp execOp
  simp only [ho, resolve, invoke, builtin, Sem.run_bind, Sem.run_pure, Result.andThen_ok, List.map_toArray, List.map_cons, List.map_nil, e1, e2, hrun]
  exact hK w' v hR hS
end
/-- onto the empty row: quiet -/
theorem app0 {Q : Exit → Act → World → Prop} {o : Oper} {a : Act} {w : World} {K : Act → World → Prop} {S : World → Value → Prop} {B Bx b m c2 : Nat} {A2 : Option Addr} {ys : List Int} (hK : ∀ w' v, Below w.heap.size w w' → S w' v → K (a.put o.dst v) w')
    (s x : Operand) (ho : o.op = .call { callee := .builtin .append, args := #[s, x], argTypes := #[sty .i64, sty .i64] }) (e1 : a.eval s = .slice (some ⟨b, 0, none⟩) 0 0) (e2 : a.eval x = .slice A2 m c2)
    (h : Own .i64 w B w.heap.size (some ⟨b, 0, none⟩) 0 0 []) (hr : Rd .i64 w Bx A2 m ys) (hb : m ≤ 8796093022208) (hB : B ≤ w.heap.size) (hS : ∀ w' x, (sown (B := B) .i64 ys).p w' x → S w' x) : Oper.wp Tryz.prog o a w K Q := by
  obtain ⟨A', c', w', hrun, hown, hbel⟩ := run_app0 h (Nat.le_refl _) hr hb hB o.type (c2 := c2)
  have hl := hr.len
  subst hl
  exact apps hK s x ho e1 e2 hrun hbel (hS _ _ ⟨A', c', rfl, hown⟩)
/-- onto a row of the region's own -/
theorem app1 {Q : Exit → Act → World → Prop} {o : Oper} {a : Act} {w : World} {K : Act → World → Prop} {S : World → Value → Prop} {B Bx n c m c2 : Nat} {A A2 : Option Addr} {zs ys : List Int} (hK : ∀ w' v, Below B w w' → S w' v → K (a.put o.dst v) w')
    (s x : Operand) (ho : o.op = .call { callee := .builtin .append, args := #[s, x], argTypes := #[sty .i64, sty .i64] }) (e1 : a.eval s = .slice A n c) (e2 : a.eval x = .slice A2 m c2)
    (h : Own .i64 w B w.heap.size A n c zs) (hr : Rd .i64 w Bx A2 m ys) (hb : n + m ≤ 8796093022208) (hB : B ≤ w.heap.size) (hS : ∀ w' x, (sown (B := B) .i64 (zs ++ ys)).p w' x → S w' x) : Oper.wp Tryz.prog o a w K Q := by
  obtain ⟨A', c', w', hrun, hown, hg⟩ := run_app (k := .i64) (by unfold BI; decide) h hr hb hB o.type (c2 := c2)
  have hl : (zs ++ ys).length = n + m := by rw [List.length_append, h.len, hr.len]
  refine apps hK s x ho e1 e2 hrun (hg.below hB h.ge) (hS _ _ ⟨A', c', ?_, ?_⟩)
  · rw [hl]
  · rw [hl]
    exact hown
theorem sown0_lit {B : Nat} {w : World} (hB : B ≤ w.heap.size) : (sown0 (B := B)).p (w.alloc (.cells #[] (ety .i64))) (.slice (some ⟨w.heap.size, 0, none⟩) 0 0) :=
  ⟨_, rfl, (Own.lit0 .i64 w hB).wide (by simp)⟩
theorem sown_lit1 {B : Nat} {w : World} {z : Int} (hz : In .i64 z) (hB : B ≤ w.heap.size) : (sown (B := B) .i64 [z]).p (w.alloc (.cells #[.int .i64 z] (ety .i64))) (.slice (some ⟨w.heap.size, 0, none⟩) 1 1) :=
  ⟨_, _, rfl, (Own.lit1 .i64 w hz hB).wide (by simp)⟩
theorem own_lits {w : World} {lo : Nat} {zs : List Int} (hz : ∀ z ∈ zs, In .i64 z) (hl : lo ≤ w.heap.size) (hm : zs.length ≤ maxLen) :
    Own .i64 (w.alloc (.cells (zs.map (Value.int .i64)).toArray (ety .i64))) lo (w.heap.size + 1) (some ⟨w.heap.size, 0, none⟩) zs.length zs.length zs :=
  ⟨rfl, hz, by have := World.ownsRow_lit (base := lo) (e := ety .i64) (size := 1) w (zs.map (Value.int .i64)).toArray zs.length hl hm (by simp); simpa using this, fun a e => by injection e with e; subst e; simp⟩
theorem sown_lits {B : Nat} {w : World} {zs : List Int} (hz : ∀ z ∈ zs, In .i64 z) (hB : B ≤ w.heap.size) (hm : zs.length ≤ maxLen) : (sown (B := B) .i64 zs).p (w.alloc (.cells (zs.map (Value.int .i64)).toArray (ety .i64))) (.slice (some ⟨w.heap.size, 0, none⟩) zs.length zs.length) :=
  ⟨_, _, rfl, (own_lits hz hB hm).wide (by simp)⟩
end Go.Proofs.YthhmhcmlbpdlbaaGreat.RKA
