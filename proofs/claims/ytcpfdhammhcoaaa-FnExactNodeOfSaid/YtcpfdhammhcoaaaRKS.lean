/- What the slots of a region with appends may hold: about blocks below the region's start (base), or about new ones. -/
import Derived.Test.YtcpfdhammhcoaaaRK
import Derived.Test.YtcpfdhammhcoaaaRGS
namespace Go.Proofs.Ytcpfdhammhcoaaa.RKS
open Go Go.RowKit Mem MemS Rep RG RK
set_option linter.unusedVariables false
structure Sy (B : Nat) where
  p : World → Value → Prop
  base : Bool
  keep : ∀ u u' x, Below u.heap.size u u' → p u x → p u' x
  keepB : base = true → ∀ u u' x, Below B u u' → p u x → p u' x
/-- held whatever happens above B -/
def sbase {B : Nat} (p : World → Value → Prop) (h : ∀ u u' x, Below B u u' → p u x → p u' x) (h' : ∀ u u' x, Below u.heap.size u u' → p u x → p u' x) : Sy B := ⟨p, true, h', fun _ => h⟩
def sv {B : Nat} (v : Value) : Sy B := ⟨fun _ x => x = v, true, fun _ _ _ _ h => h, fun _ _ _ _ _ h => h⟩
def sany {B : Nat} : Sy B := ⟨fun _ _ => True, true, fun _ _ _ _ h => h, fun _ _ _ _ _ h => h⟩
def swhen {B : Nat} (b : Bool) (s : Sy B) : Sy B := ⟨fun w x => (b = true → s.p w x) ∧ (b = false → x = undef), s.base,
  fun u u' x hb h => ⟨fun e => s.keep u u' x hb (h.1 e), h.2⟩, fun e u u' x hb h => ⟨fun e' => s.keepB e u u' x hb (h.1 e'), h.2⟩⟩
/-- a row of numbers that the region made: no more held behind an append -/
def sown {B : Nat} (k : IntKind) (zs : List Int) : Sy B := ⟨fun w x => ∃ A c, x = .slice A zs.length c ∧ Own k w B w.heap.size A zs.length c zs, false,
  fun u u' x hb ⟨A, c, h1, h2⟩ => ⟨A, c, h1, (h2.below hb (Nat.le_refl _)).wide hb.size⟩, fun e => by cases e⟩
def srepB {B : Nat} {α : Type} (R : Rep α) (d : α) : Sy B := sbase (fun w x => (∃ cs, x = .agg (List.toArray cs) ∧ R.rd w (Lt B) cs d) ∧ B ≤ w.heap.size)
  (fun u u' x hb ⟨⟨cs, h1, h2⟩, h3⟩ => ⟨⟨cs, h1, R.keep h2 fun i hi => hb.block i hi⟩, Nat.le_trans h3 hb.size⟩)
  (fun u u' x hb ⟨⟨cs, h1, h2⟩, h3⟩ => ⟨⟨cs, h1, R.keep h2 fun i hi => hb.block i (Nat.lt_of_lt_of_le hi h3)⟩, Nat.le_trans h3 hb.size⟩)
def snumsB {B : Nat} (k : IntKind) (zs : List Int) : Sy B := sbase (fun w x => (∃ A c, x = .slice A zs.length c ∧ zs.length ≤ c ∧ Rd k w B A zs.length zs) ∧ B ≤ w.heap.size)
  (fun u u' x hb ⟨⟨A, c, h1, h2, h3⟩, h4⟩ => ⟨⟨A, c, h1, h2, h3.below hb (Nat.le_refl _)⟩, Nat.le_trans h4 hb.size⟩)
  (fun u u' x hb ⟨⟨A, c, h1, h2, h3⟩, h4⟩ => ⟨⟨A, c, h1, h2, h3.below hb h4⟩, Nat.le_trans h4 hb.size⟩)
def tabP {B : Nat} (l : List (Sy B)) (i : Nat) : World → Value → Prop := (l.getD i sany).p
/-- an append may write into any block that the region made -/
def eff (B : Nat) (app : Nat → Bool) (i : Nat) (u u' : World) : Prop := if app i then Below B u u' else Below u.heap.size u u'
def kill {B : Nat} (ops : Array Oper) (app : Nat → Bool) (l : List (Sy B)) (i j : Nat) : Bool := app i && i != j && !(l.getD j sany).base && !waits ops j i
theorem eff_below {B : Nat} {app : Nat → Bool} (i : Nat) (u u' : World) (h : B ≤ u.heap.size) (he : eff B app i u u') : Below B u u' := by
  unfold eff at he
  split at he
  · exact he
  · exact he.mono h
theorem eff_keep {B : Nat} {ops : Array Oper} {app : Nat → Bool} {l : List (Sy B)} (i j : Nat) (u u' : World) (x : Value) (h : B ≤ u.heap.size) (hij : i ≠ j) (hk : kill ops app l i j = false) (hw : waits ops j i = false) (he : eff B app i u u') (hv : tabP l j u x) : tabP l j u' x := by
  unfold eff at he
  unfold kill at hk
  rw [hw] at hk
  cases ha : app i with
  | false =>
    rw [ha] at he
    exact (l.getD j sany).keep u u' x he hv
  | true =>
    rw [ha] at he hk
    have hb : (l.getD j sany).base = true := by simpa [hij] using hk
    exact (l.getD j sany).keepB hb u u' x he hv
section
variable {P : Program} {ops : Array Oper} {Q : Exit → Act → World → Prop} {o : Oper} {a : Act} {w : World} {K : Act → World → Prop} {R : World → Prop} {B0 : Nat}
theorem wanted_bool {g d : Nat} {want b : Bool} (hg : o.guard = some (g, want)) (hd : (ops[g]?).bind (·.dst) = some d) (hv : a.tmps.getD d undef = .bool b) : Region.wanted o (yielded ops a.tmps) = (b == want) := RGS.wanted_bool hg hd hv
theorem free (hg : o.guard = none) (h : Region.wanted o (yielded ops a.tmps) = true → Oper.wp P o a w K Q) : if Region.wanted o (yielded ops a.tmps) = true then Oper.wp P o a w K Q else K (a.put o.dst undef) w := by
  have hw : Region.wanted o (yielded ops a.tmps) = true := by unfold Region.wanted; rw [hg]
  rw [if_pos hw]
  exact h hw
theorem guarded {g d : Nat} {want B : Bool} {s : Sy B0} (hg : o.guard = some (g, want)) (hd : (ops[g]?).bind (·.dst) = some d) (hv : a.tmps.getD d undef = .bool B) (hR : R w) (hK : ∀ w' v, R w' → (swhen (B == want) s).p w' v → K (a.put o.dst v) w')
    (h1 : (B == want) = true → Region.wanted o (yielded ops a.tmps) = true → (∀ w' v, R w' → s.p w' v → K (a.put o.dst v) w') → Oper.wp P o a w K Q) : if Region.wanted o (yielded ops a.tmps) = true then Oper.wp P o a w K Q else K (a.put o.dst undef) w := by
  have hw := wanted_bool (ops := ops) (o := o) (a := a) hg hd hv
  cases hb : (B == want) with
  | false =>
    rw [hb] at hw
    rw [if_neg (by simp [hw])]
    exact hK w undef hR ⟨fun h => (by rw [hb] at h; cases h), fun _ => rfl⟩
  | true =>
    rw [hb] at hw
    rw [if_pos hw]
    exact h1 hb hw fun w' v hbl hs => hK w' v hbl ⟨fun _ => hs, fun h => (by rw [hb] at h; cases h)⟩
theorem guarded2 {g d : Nat} {want B Cg : Bool} {s : Sy B0} (hg : o.guard = some (g, want)) (hd : (ops[g]?).bind (·.dst) = some d) (hv : (swhen (B := B0) Cg (sv (.bool B))).p w (a.tmps.getD d undef)) (hR : R w) (hK : ∀ w' v, R w' → (swhen (Cg && (B == want)) s).p w' v → K (a.put o.dst v) w')
    (h1 : (Cg && (B == want)) = true → Region.wanted o (yielded ops a.tmps) = true → (∀ w' v, R w' → s.p w' v → K (a.put o.dst v) w') → Oper.wp P o a w K Q) : if Region.wanted o (yielded ops a.tmps) = true then Oper.wp P o a w K Q else K (a.put o.dst undef) w := by
  cases hc : Cg with
  | false =>
    have hu := hv.2 hc
    have hw : Region.wanted o (yielded ops a.tmps) = false := by
      unfold Region.wanted
      rw [hg]
      show ((match ((ops[g]?).bind (·.dst)).bind (a.tmps[·]?) with
        | some (.bool b) => some b
        | _ => none) == some want) = false
      rw [hd]
      cases h : a.tmps[d]? with
      | none => simp [h]
      | some x =>
        rw [Array.getD_eq_getD_getElem?, h] at hu
        simp at hu
        subst hu
        simp [h, undef]
    rw [if_neg (by simp [hw])]
    exact hK w undef hR ⟨fun h => (by rw [hc] at h; cases h), fun _ => rfl⟩
  | true =>
    have hv1 := hv.1 hc
    have hw := wanted_bool (ops := ops) (o := o) (a := a) hg hd hv1
    rw [hc] at hK h1
    cases hb : (B == want) with
    | false =>
      rw [hb] at hw
      rw [if_neg (by simp [hw])]
      exact hK w undef hR ⟨fun h => (by rw [hb] at h; cases h), fun _ => rfl⟩
    | true =>
      rw [hb] at hw
      rw [if_pos hw]
      exact h1 (by rw [hb]; rfl) hw fun w' v hbl hs => hK w' v hbl ⟨fun _ => hs, fun h => (by rw [hb] at h; cases h)⟩
end
end Go.Proofs.Ytcpfdhammhcoaaa.RKS
