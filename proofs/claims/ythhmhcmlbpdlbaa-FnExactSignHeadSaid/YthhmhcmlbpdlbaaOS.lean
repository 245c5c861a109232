/- A region that draws its order and ends with stores that wait for every load: the loads are taken first, and what the stores write need not be kept. -/
import Derived.Deep.RegionHeld
import Derived.Lib.Hide
import Derived.Test.YthhmhcmlbpdlbaaLD
namespace Go.Proofs.Ythhmhcmlbpdlbaa.OS
open Go.RowKit Mem MemS Rep BX LD
set_option linter.unusedVariables false
section
variable {P : Program} {ops : Array Oper} {Q : Exit → Act → World → Prop} {md : Region.Mode} {S : World → Prop} {N : List Nat}
/-- whatever order: behind each operation that is not late, S holds -/
def wpLate (P : Program) (md : Region.Mode) (ops : Array Oper) (Q : Exit → Act → World → Prop) (S : World → Prop) (N : List Nat) : Nat → Array Bool → Act → World → Prop
  | 0, l, a, w => Region.ready md ops l = [] ∧ Q .normal a w
  | f + 1, l, a, w => (Region.ready md ops l = [] → Q .normal a w) ∧ ∀ i, i ∈ Region.ready md ops l → wpOp P ops Q i (fun b u => (N.contains i = false → S u) ∧ wpLate P md ops Q S N f (l.setIfInBounds i true) b u) a w
theorem wpLate_any : ∀ (f : Nat) (l : Array Bool) (a : Act) (w : World), wpLate P md ops Q S N f l a w → wpAny P md ops Q f l a w
  | 0, _, _, _, h => h
  | f + 1, _, _, _, h => ⟨h.1, fun i hi => wpOp_mono (fun b u g => wpLate_any f _ b u g.2) (h.2 i hi)⟩
/-- every late operation waits for number i -/
def lateFor (md : Region.Mode) (ops : Array Oper) (N : List Nat) (i : Nat) : Bool :=
  N.all fun j => match ops[j]? with
    | some o => o.after.any fun e => Region.binds md e && e.on == i
    | none => true
theorem lateFor_spec {i j : Nat} {o : Oper} (h : lateFor md ops N i = true) (hj : N.contains j = true) (ho : ops[j]? = some o) : ∃ e ∈ o.after, Region.binds md e = true ∧ e.on = i := by
  unfold lateFor at h
  have h1 := List.all_eq_true.1 h j (by simpa using hj)
  simp only [ho] at h1
  obtain ⟨e, he, h2⟩ := Array.any_eq_true'.1 h1
  rw [Bool.and_eq_true] at h2
  exact ⟨e, he, h2.1, by simpa using h2.2⟩
theorem wpLate_first {i : Nat} {o : Oper} {v : Value} (hi : ops[i]? = some o) (hsel : ∀ (j : Nat) (o : Oper) cs b, ops[j]? = some o → o.op ≠ .select cs b)
    (hQ : ∀ c a w, Q (.panic c) (a.put o.dst v) w → Q (.panic c) a w) (hl : lateFor md ops N i = true) :
    ∀ (f : Nat) (l : Array Bool) (a : Act) (w : World),
      (∀ j q, ops[j]? = some q → j ≠ i → l.getD j true = false → (∀ e ∈ q.after, Region.binds md e = true → e.on ≠ i) → o.apart ops q = true) →
      i ∈ Region.ready md ops l → YieldsIf P ops S o v a → S w →
      wpLate P md ops Q S N f (l.setIfInBounds i true) (a.put o.dst v) w → wpLate P md ops Q S N (f + 1) l a w := by
  intro f
  induction f with
  | zero =>
    intro l a w _ hr hy hS H
    refine ⟨fun h0 => (by rw [h0] at hr; cases hr), fun j hj => ?_⟩
    by_cases e : j = i
    · subst e
      exact hy.wpOp hi hS ⟨fun _ => hS, H⟩
    · have g := ready_mono hj e
      rw [H.1] at g
      cases g
  | succ f ih =>
    intro l a w hfree hr hy hS H
    refine ⟨fun h0 => (by rw [h0] at hr; cases hr), fun j hj => ?_⟩
    by_cases e : j = i
    · subst e
      exact hy.wpOp hi hS ⟨fun _ => hS, H⟩
    · have h1 := H.2 j (ready_mono hj e)
      obtain ⟨hun, q, hq, hall⟩ := mem_ready.1 hj
      have hun2 := (mem_ready.1 hr).1
      have hnot : ∀ d ∈ q.after, Region.binds md d = true → d.on ≠ i := by
        intro d hd hb he
        have h3 := hall d hd hb
        rw [he] at h3
        by_cases hs : i < l.size
        · simp [hs] at hun2 h3
          rw [hun2] at h3
          cases h3
        · simp [Array.getElem?_eq_none (Nat.le_of_not_lt hs)] at hun2 h3
      have hN : N.contains j = false := by
        cases hc : N.contains j
        · rfl
        · obtain ⟨d, hd, hb, he⟩ := lateFor_spec hl hc hq
          exact absurd he (hnot d hd hb)
      have h2 := wpOp_putIf hq (hfree j q hq e hun hnot) (fun cs b => hsel i o cs b hi) (fun cs b => hsel j q cs b hq) hQ hy h1
      have hfree2 : ∀ k r, ops[k]? = some r → k ≠ i → (l.setIfInBounds j true).getD k true = false → (∀ d ∈ r.after, Region.binds md d = true → d.on ≠ i) → o.apart ops r = true := by
        intro k r hk hki hu hno
        refine hfree k r hk hki ?_ hno
        by_cases hjk : j = k
        · rw [← hjk]
          exact hun
        · rw [getD_set_ne true hjk] at hu
          exact hu
      refine wpOp_mono (fun b u g => ⟨g.2.1, ih _ b u hfree2 (ready_mono hr (Ne.symm e)) g.1 (g.2.1 hN) ?_⟩) h2
      rw [Array.setIfInBounds_comm _ _ e]
      exact g.2.2
theorem wpLate_take {i : Nat} {o : Oper} {v : Value} {f : Nat} {l : Array Bool} {a : Act} {w : World} (hi : ops[i]? = some o)
    (hs : Region.noSelect ops = true) (hf : Region.free md ops l i = true) (hr : (Region.ready md ops l).contains i = true) (hl : lateFor md ops N i = true)
    (hQ : ∀ c a w, Q (.panic c) (a.put o.dst v) w → Q (.panic c) a w) (hy : YieldsIf P ops S o v a) (hS : S w)
    (h : wpLate P md ops Q S N f (l.setIfInBounds i true) (a.put o.dst v) w) : wpLate P md ops Q S N (f + 1) l a w :=
  wpLate_first hi (Region.noSelect_spec hs) hQ hl f l a w (Region.free_spec hi hf) (by simpa using hr) hy hS h
def AllLate (P : Program) (md : Region.Mode) (ops : Array Oper) (Q : Exit → Act → World → Prop) (S : World → Prop) (N : List Nat) (f : Nat) (l : Array Bool) (a : Act) (w : World) (rs : List Nat) : Prop :=
  ∀ i ∈ rs, wpOp P ops Q i (fun b u => (N.contains i = false → S u) ∧ wpLate P md ops Q S N f (l.setIfInBounds i true) b u) a w
theorem AllLate.nil {f : Nat} {l : Array Bool} {a : Act} {w : World} : AllLate P md ops Q S N f l a w [] := fun _ h => by cases h
theorem AllLate.cons {f : Nat} {l : Array Bool} {a : Act} {w : World} {i : Nat} {o : Oper} {rs : List Nat} (ho : ops[i]? = some o)
    (h : ∀ K : Act → World → Prop, Shut (∀ b u, (N.contains i = false → S u) → wpLate P md ops Q S N f (l.setIfInBounds i true) b u → K b u) → if Region.wanted o (yielded ops a.tmps) = true then Oper.wp P o a w K Q else K (a.put o.dst undef) w)
    (hs : AllLate P md ops Q S N f l a w rs) : AllLate P md ops Q S N f l a w (i :: rs) := fun j hj => by
  rcases List.mem_cons.1 hj with rfl | hj
  · exact wpOp_step ho fun K hK => h K fun b u h1 h2 => hK b u ⟨h1, h2⟩
  · exact hs j hj
theorem wpLate_ready {rs : List Nat} {f : Nat} {l : Array Bool} {a : Act} {w : World} (hr : Region.ready md ops l = rs) (hne : rs ≠ [])
    (h : AllLate P md ops Q S N f l a w rs) : wpLate P md ops Q S N (f + 1) l a w :=
  ⟨fun h0 => absurd (hr ▸ h0) hne, fun i hi => h i (hr ▸ hi)⟩
theorem wpLate_done {l : Array Bool} {a : Act} {w : World} (hr : Region.ready md ops l = []) (h : Q .normal a w) : ∀ f, wpLate P md ops Q S N f l a w
  | 0 => ⟨hr, h⟩
  | _ + 1 => ⟨fun _ => h, by rw [hr]; simp⟩
theorem wp_region_late {id : Nat} {a : Act} {w : World} (hm : P.follows .mixedOrders = true)
    (h : wpLate P .any ops Q S N ops.size (Array.replicate ops.size false) a (World.drew w)) : (Code.region id ops true).wp P Q a w :=
  wp_region_any hm (wpLate_any _ _ _ _ h)
end
/-- what holds behind a region is shown ahead of what follows it -/
theorem rest_first {P : Program} {ops : Array Oper} {Q : Exit → Act → World → Prop} {id : Nat} {b : Bool} {a : Act} {w : World} (I : Act → Act → World → Prop) (h1 : ∀ a' w', I a a' w' → Q .normal a' w')
    (h2 : ∀ J : Act → World → Prop, RowKit.Hid (∀ a' w', I a a' w' → J a' w') → (Code.region id ops b).wp P (fun e a' w' => e = .normal ∧ J a' w') a w) : (Code.region id ops b).wp P Q a w :=
  Code.wp_mono (fun e a' w' h => by obtain ⟨rfl, h⟩ := h; exact h1 _ _ h) (h2 (I a) (Lib.hid fun _ _ h => h))
/-- a part of a box -/
theorem range_mid {w : World} {b o : Nat} {pre mid post : List Value} (h : w.rangeAt b 0 (pre ++ mid ++ post)) (ho : pre.length = o) : w.rangeAt b o mid := fun j v hj => by
  subst ho
  have := h (pre.length + j) v (by
    rw [List.append_assoc, List.getElem?_append_right (by omega), Nat.add_sub_cancel_left, List.getElem?_append_left (List.getElem?_eq_some_iff.1 hj).1]
    exact hj)
  rwa [Nat.zero_add] at this
/-- a load of a part that is taken first -/
theorem ylm {ty : TypeId} {n : Nat} {ops : Array Oper} {o : Oper} {a : Act} {b : Nat} {S : World → Prop} (B : Big ty n) (hw : Region.wanted o (yielded ops a.tmps) = true) (x : Operand) (ho : o.op = .load ty x) {j : Nat} (hx : a.eval x = .pointer (some ⟨b, j, none⟩)) (pre mid post : List Value)
    (hS : ∀ w, S w → w.rangeAt b 0 (pre ++ mid ++ post)) (hp : pre.length = j) (hl : mid.length = n) : YieldsIf Try.prog ops S o (.agg mid.toArray) a := by
  obtain ⟨d, h1, h2, h3⟩ := B
  exact yieldsIf_load_mid hw ty x ho b j hx mid d (fun w h => range_mid (hS w h) hp) h1 h2 (by rw [hl]; exact h3)
/-- a load of one cell that is taken first -/
theorem yl1 {ops : Array Oper} {o : Oper} {a : Act} {S : World → Prop} (hw : Region.wanted o (yielded ops a.tmps) = true) {v : Value} (h : ∀ w, S w → (execOp a.eval o).run Try.prog w = .ok (.value v) w) : YieldsIf Try.prog ops S o v a := .inl ⟨hw, h⟩
end Go.Proofs.Ythhmhcmlbpdlbaa.OS
