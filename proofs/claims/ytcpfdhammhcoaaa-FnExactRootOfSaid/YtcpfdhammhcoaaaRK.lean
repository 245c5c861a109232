/- RG, where some operations (appends) may write into blocks that the region made: what such a step ends ('kills') is no more held behind it, and who reads it stands ahead. -/
import Derived.Test.YtcpfdhammhcoaaaRG
import Derived.RegionTactic
import Derived.Below
import Derived.WalkKit
import Derived.Lib.Hide
namespace Go.Proofs.Ytcpfdhammhcoaaa.RK
open Go Go.RowKit RG
set_option linter.unusedVariables false
/-- what operation j yielded is still held, when operation i runs: whoever ends it is i itself, or waits for i -/
def heldAt (ops : Array Oper) (kills : Nat → Nat → Bool) (i j s : Nat) : Bool := gotAt ops i j s && (List.range ops.size).all fun k => !kills k j || k == i || ((ops[k]?).map fun o => o.after.any (fun e => Region.binds .any e && e.on == i)).getD false
/-- operation j waits for i -/
def waits (ops : Array Oper) (j i : Nat) : Bool := ((ops[j]?).map fun o => o.after.any (fun e => Region.binds .any e && e.on == i)).getD false
/-- where operation i runs -/
structure At (ops : Array Oper) (kills : Nat → Nat → Bool) (V : Nat → World → Value → Prop) (w0 : World) (a0 : Act) (i : Nat) (a : Act) (w : World) : Prop where
  bel : Below w0.heap.size w0 w
  size : a.tmps.size = a0.tmps.size
  old : ∀ s, oldAt ops i s = true → a.tmps.getD s undef = a0.tmps.getD s undef
  got : ∀ j s, heldAt ops kills i j s = true → V j w (a.tmps.getD s undef)
def Step (P : Program) (ops : Array Oper) (Q : Exit → Act → World → Prop) (kills : Nat → Nat → Bool) (E : Nat → World → World → Prop) (V : Nat → World → Value → Prop) (w0 : World) (a0 : Act) (i : Nat) (o : Oper) : Prop :=
  ∀ a w, At ops kills V w0 a0 i a w → ∀ K : Act → World → Prop, (∀ w' v, E i w w' → V i w' v → K (a.put o.dst v) w') →
    if Region.wanted o (yielded ops a.tmps) = true then Oper.wp P o a w K Q else K (a.put o.dst undef) w
def Steps (P : Program) (ops : Array Oper) (Q : Exit → Act → World → Prop) (kills : Nat → Nat → Bool) (E : Nat → World → World → Prop) (V : Nat → World → Value → Prop) (w0 : World) (a0 : Act) : Nat → List Oper → Prop
  | _, [] => True
  | i, o :: r => Step P ops Q kills E V w0 a0 i o ∧ Steps P ops Q kills E V w0 a0 (i + 1) r
theorem steps_nil {P : Program} {ops : Array Oper} {Q : Exit → Act → World → Prop} {kills : Nat → Nat → Bool} {E : Nat → World → World → Prop} {V : Nat → World → Value → Prop} {w0 : World} {a0 : Act} {i : Nat} : Steps P ops Q kills E V w0 a0 i [] := trivial
theorem steps_cons {P : Program} {ops : Array Oper} {Q : Exit → Act → World → Prop} {kills : Nat → Nat → Bool} {E : Nat → World → World → Prop} {V : Nat → World → Value → Prop} {w0 : World} {a0 : Act} {i : Nat} {o : Oper} {r : List Oper} (h : Step P ops Q kills E V w0 a0 i o) (h' : Steps P ops Q kills E V w0 a0 (i + 1) r) : Steps P ops Q kills E V w0 a0 i (o :: r) := ⟨h, h'⟩
structure St (ops : Array Oper) (kills : Nat → Nat → Bool) (V : Nat → World → Value → Prop) (w0 : World) (a0 : Act) (listed : Array Bool) (a : Act) (w : World) : Prop where
  bel : Below w0.heap.size w0 w
  dfr : a.defers = a0.defers
  size : a.tmps.size = a0.tmps.size
  lsz : listed.size = ops.size
  closed : ∀ j o, ops[j]? = some o → listed.getD j true = true → ∀ e ∈ o.after, Region.binds .any e = true → listed.getD e.on true = true
  old : ∀ s, (∀ j o, ops[j]? = some o → o.dst = some s → listed.getD j true = false) → a.tmps.getD s undef = a0.tmps.getD s undef
  got : ∀ j o d, ops[j]? = some o → o.dst = some d → listed.getD j true = true → (∀ k, k < ops.size → kills k j = true → listed.getD k true = false) → V j w (a.tmps.getD d undef)
theorem steps_at {P : Program} {ops : Array Oper} {Q : Exit → Act → World → Prop} {kills : Nat → Nat → Bool} {E : Nat → World → World → Prop} {V : Nat → World → Value → Prop} {w0 : World} {a0 : Act} : ∀ (l : List Oper) (k : Nat), Steps P ops Q kills E V w0 a0 k l → ∀ i o, l[i]? = some o → Step P ops Q kills E V w0 a0 (k + i) o
  | [], _, _, i, o, h => by simp at h
  | x :: r, k, h, i, o, ho => by
    cases i with
    | zero =>
      simp at ho
      subst ho
      exact h.1
    | succ i =>
      have := steps_at r (k + 1) h.2 i o (by simpa using ho)
      rw [show k + (i + 1) = k + 1 + i from by omega]
      exact this
section
variable {P : Program} {ops : Array Oper} {Q : Exit → Act → World → Prop} {kills : Nat → Nat → Bool} {E : Nat → World → World → Prop} {V : Nat → World → Value → Prop} {w0 : World} {a0 : Act}
theorem at_of {listed : Array Bool} {a : Act} {w : World} {i : Nat} {o : Oper} (h : St ops kills V w0 a0 listed a w) (ho : ops[i]? = some o) (hi : listed.getD i true = false)
    (hd : ∀ e ∈ o.after, Region.binds .any e = true → listed.getD e.on true = true) : At ops kills V w0 a0 i a w := by
  refine ⟨h.bel, h.size, fun s hs => h.old s fun j o' hj hdj => ?_, fun j s hs => ?_⟩
  · unfold oldAt at hs
    have h1 := Array.all_eq_true_iff_forall_mem.1 hs o' (Array.mem_of_getElem? hj)
    rw [hdj] at h1
    simp only [bne_self_eq_false, Bool.false_or] at h1
    obtain ⟨e, he, hb⟩ := Array.any_eq_true'.1 h1
    simp only [Bool.and_eq_true, beq_iff_eq] at hb
    rcases hc : listed.getD j true with _ | _
    · rfl
    · have := h.closed j o' hj hc e he hb.1
      rw [hb.2, hi] at this
      cases this
  · unfold heldAt at hs
    simp only [Bool.and_eq_true] at hs
    obtain ⟨hs, hk⟩ := hs
    unfold gotAt at hs
    rw [ho] at hs
    simp only [Option.map_some, Option.getD_some, Bool.and_eq_true, beq_iff_eq] at hs
    obtain ⟨e, he, hb⟩ := Array.any_eq_true'.1 hs.1
    simp only [Bool.and_eq_true, beq_iff_eq] at hb
    have h1 := hd e he hb.1
    rw [hb.2] at h1
    obtain ⟨o', ho', hd'⟩ := Option.bind_eq_some_iff.1 hs.2
    refine h.got j o' s ho' hd' h1 fun k hk1 hk2 => ?_
    have h3 := List.all_eq_true.1 hk k (List.mem_range.2 hk1)
    rw [hk2] at h3
    simp only [Bool.not_true, Bool.false_or, Bool.or_eq_true, beq_iff_eq] at h3
    rcases h3 with h3 | h3
    · rw [h3]; exact hi
    · have ho2 : ops[k]? = some ops[k] := Array.getElem?_eq_getElem hk1
      rw [ho2] at h3
      simp only [Option.map_some, Option.getD_some] at h3
      obtain ⟨e', he', hb'⟩ := Array.any_eq_true'.1 h3
      simp only [Bool.and_eq_true, beq_iff_eq] at hb'
      rcases hc : listed.getD k true with _ | _
      · rfl
      · have := h.closed k _ ho2 hc e' he' hb'.1
        rw [hb'.2, hi] at this
        cases this
theorem st_step {listed : Array Bool} {a : Act} {w w' : World} {i : Nat} {o : Oper} {v : Value} (hf : fit ops a0.tmps.size = true) (hE : ∀ i u u', w0.heap.size ≤ u.heap.size → E i u u' → Below w0.heap.size u u') (hV : ∀ i j u u' x, w0.heap.size ≤ u.heap.size → i ≠ j → kills i j = false → waits ops j i = false → E i u u' → V j u x → V j u' x) (h : St ops kills V w0 a0 listed a w) (ho : ops[i]? = some o) (hi : listed.getD i true = false)
    (hd : ∀ e ∈ o.after, Region.binds .any e = true → listed.getD e.on true = true) (hb : E i w w') (hv : o.dst.isSome = true → V i w' v) : St ops kills V w0 a0 (listed.setIfInBounds i true) (a.put o.dst v) w' := by
  have hil : i < listed.size := by rw [h.lsz]; exact (Array.getElem?_eq_some_iff.1 ho).1
  refine ⟨h.bel.trans (hE i _ _ h.bel.size hb), by rw [put_defers]; exact h.dfr, by rw [put_size]; exact h.size, by simp [h.lsz], ?_, ?_, ?_⟩
  · intro j oj hj hlj e he hbe
    rw [getD_set _ _ _ hil] at hlj ⊢
    split
    · rfl
    · split at hlj
      · rename_i e1
        subst e1
        rw [ho] at hj
        cases hj
        exact hd e he hbe
      · exact h.closed j oj hj hlj e he hbe
  · intro s hs
    have hne : o.dst ≠ some s := fun e => by
      have := hs i o ho e
      rw [getD_set _ _ _ hil, if_pos rfl] at this
      cases this
    have h1 := h.old s fun j oj hj hdj => by
      have := hs j oj hj hdj
      rw [getD_set _ _ _ hil] at this
      split at this
      · cases this
      · exact this
    rw [← h1]
    cases hdo : o.dst with
    | none => rfl
    | some d =>
      have hdlt := ((fit_at hf ho).2 d hdo).1
      rw [put_getD _ _ _ _ (by rw [h.size]; exact hdlt), if_neg (fun e => hne (by rw [hdo, e]))]
  · intro j oj d hj hdj hlj hkl
    rw [getD_set _ _ _ hil] at hlj
    by_cases e : j = i
    · subst e
      rw [ho] at hj
      cases hj
      rw [hdj, put_getD _ _ _ _ (by rw [h.size]; exact ((fit_at hf ho).2 d hdj).1), if_pos rfl]
      exact hv (by rw [hdj]; rfl)
    · rw [if_neg e] at hlj
      have hki : kills i j = false := by
        rcases hc : kills i j with _ | _
        · rfl
        · have := hkl i (by rw [← h.lsz]; exact hil) hc
          rw [getD_set _ _ _ hil, if_pos rfl] at this
          cases this
      have hwt : waits ops j i = false := by
        rcases hc : waits ops j i with _ | _
        · rfl
        · unfold waits at hc
          rw [hj] at hc
          simp only [Option.map_some, Option.getD_some] at hc
          obtain ⟨e', he', hb'⟩ := Array.any_eq_true'.1 hc
          simp only [Bool.and_eq_true, beq_iff_eq] at hb'
          have := h.closed j oj hj hlj e' he' hb'.1
          rw [hb'.2, hi] at this
          cases this
      have h1 := hV i j w w' _ h.bel.size (fun e9 => e e9.symm) hki hwt hb (h.got j oj d hj hdj hlj fun k hk1 hk2 => by
        have := hkl k hk1 hk2
        rw [getD_set _ _ _ hil] at this
        split at this
        · cases this
        · exact this)
      cases hdo : o.dst with
      | none => exact h1
      | some d' =>
        have hdlt := (fit_at hf ho).2 d' hdo
        rw [put_getD _ _ _ _ (by rw [h.size]; exact hdlt.1), if_neg (fun e2 => e (hdlt.2 j oj hj (by rw [hdj, e2])))]
        exact h1
theorem wpAny_rg (hf : fit ops a0.tmps.size = true) (hE : ∀ i u u', w0.heap.size ≤ u.heap.size → E i u u' → Below w0.heap.size u u') (hV : ∀ i j u u' x, w0.heap.size ≤ u.heap.size → i ≠ j → kills i j = false → waits ops j i = false → E i u u' → V j u x → V j u' x) (hs : Steps P ops Q kills E V w0 a0 0 ops.toList)
    (hend : ∀ a w, Below w0.heap.size w0 w → a.defers = a0.defers → a.tmps.size = a0.tmps.size → (∀ s, (ops.all fun o => o.dst != some s) = true → a.tmps.getD s undef = a0.tmps.getD s undef) → (∀ j d, (ops[j]?).bind (·.dst) = some d → ((List.range ops.size).all fun k => !kills k j) = true → V j w (a.tmps.getD d undef)) → Q .normal a w) :
    ∀ (fuel : Nat) (listed : Array Bool) (a : Act) (w : World), un listed ops.size ≤ fuel → St ops kills V w0 a0 listed a w → wpAny P .any ops Q fuel listed a w := by
  have hfin : ∀ (listed : Array Bool) (a : Act) (w : World), St ops kills V w0 a0 listed a w → (∀ i, i < ops.size → listed.getD i true = true) → Q .normal a w := by
    intro listed a w h hall
    refine hend a w h.bel h.dfr h.size (fun s hs => h.old s fun j o hj hdj => ?_) fun j d hjd hjk => ?_
    · have h1 := Array.all_eq_true_iff_forall_mem.1 hs o (Array.mem_of_getElem? hj)
      rw [hdj] at h1
      simp at h1
    · obtain ⟨o, hj, hdj⟩ := Option.bind_eq_some_iff.1 hjd
      refine h.got j o d hj hdj (hall j (Array.getElem?_eq_some_iff.1 hj).1) fun k hk1 hk2 => ?_
      have := List.all_eq_true.1 hjk k (List.mem_range.2 hk1)
      rw [hk2] at this
      cases this
  intro fuel
  induction fuel with
  | zero =>
    intro listed a w hun h
    have h0 : (List.range ops.size).filter (fun i => !listed.getD i true) = [] := List.eq_nil_of_length_eq_zero (Nat.le_zero.1 hun)
    have hall : ∀ i, i < ops.size → listed.getD i true = true := fun i hi => by
      rcases hc : listed.getD i true with _ | _
      · have : i ∈ (List.range ops.size).filter (fun i => !listed.getD i true) := List.mem_filter.2 ⟨List.mem_range.2 hi, by rw [hc]; rfl⟩
        rw [h0] at this
        simp at this
      · rfl
    refine ⟨?_, hfin listed a w h hall⟩
    rcases hr : Region.ready .any ops listed with _ | ⟨i, r⟩
    · rfl
    · exfalso
      obtain ⟨o, ho, hi, _⟩ := ready_at hf h.lsz (i := i) (by rw [hr]; simp)
      rw [hall i (Array.getElem?_eq_some_iff.1 ho).1] at hi
      cases hi
  | succ fuel ih =>
    intro listed a w hun h
    refine ⟨fun hr => hfin listed a w h (all_listed hf h.lsz hr), fun i hi => ?_⟩
    obtain ⟨o, ho, hli, hd⟩ := ready_at hf h.lsz hi
    have hat := at_of h ho hli hd
    have hst := steps_at ops.toList 0 hs i o (by simpa using ho)
    rw [Nat.zero_add] at hst
    have hlt := un_lt (Array.getElem?_eq_some_iff.1 ho).1 h.lsz hli
    refine wpOp_step ho fun K' hK' => ?_
    exact hst a w hat K' fun w' v hb hv => hK' _ _ (ih _ _ _ (by omega) (st_step hf hE hV h ho hli hd hb fun _ => hv))
/-- a region that draws its order -/
theorem region {id : Nat} {a : Act} {w : World} (kills : Nat → Nat → Bool) (E : Nat → World → World → Prop) (V : Nat → World → Value → Prop) (hm : P.follows .mixedOrders = true) (hf : fit ops a.tmps.size = true) (hE : ∀ i u u', w.drew.heap.size ≤ u.heap.size → E i u u' → Below w.drew.heap.size u u') (hV : ∀ i j u u' x, w.drew.heap.size ≤ u.heap.size → i ≠ j → kills i j = false → waits ops j i = false → E i u u' → V j u x → V j u' x)
    (hs : Steps P ops Q kills E V w.drew a 0 ops.toList)
    (hend : ∀ a1 w1, Below w.drew.heap.size w.drew w1 → a1.defers = a.defers → a1.tmps.size = a.tmps.size → (∀ s, (ops.all fun o => o.dst != some s) = true → a1.tmps.getD s undef = a.tmps.getD s undef) → (∀ j d, (ops[j]?).bind (·.dst) = some d → ((List.range ops.size).all fun k => !kills k j) = true → V j w1 (a1.tmps.getD d undef)) → Q .normal a1 w1) :
    (Code.region id ops true).wp P Q a w := by
  refine wp_region_any hm ?_
  show wpAny P .any ops Q _ _ a w.drew
  have hrep : ∀ j, j < ops.size → (Array.replicate ops.size false).getD j true = false := fun j hj => by
    simp [Array.getD_eq_getD_getElem?, hj]
  refine wpAny_rg hf hE hV hs hend _ _ _ _ ?_ ⟨Below.refl _ _, rfl, rfl, by simp, ?_, fun _ _ => rfl, ?_⟩
  · unfold un
    exact Nat.le_trans (List.length_filter_le _ _) (by simp)
  · intro j o hj hlj
    rw [hrep j (Array.getElem?_eq_some_iff.1 hj).1] at hlj
    cases hlj
  · intro j o d hj _ hlj _
    rw [hrep j (Array.getElem?_eq_some_iff.1 hj).1] at hlj
    cases hlj
end
end Go.Proofs.Ytcpfdhammhcoaaa.RK
