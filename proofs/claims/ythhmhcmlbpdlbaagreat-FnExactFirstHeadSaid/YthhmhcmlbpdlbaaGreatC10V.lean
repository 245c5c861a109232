/- Chapter 10: trees of nodes in memory. Chapter 10: nodes of trees: what the program's functions on one node return. -/
import Derived.Test.YthhmhcmlbpdlbaaGreatM10
import Derived.Test.YthhmhcmlbpdlbaaGreatRep
import Derived.Test.YthhmhcmlbpdlbaaGreatC08I
import Derived.Test.YthhmhcmlbpdlbaaGreatQ08
import Derived.Test.YthhmhcmlbpdlbaaGreatC03H
import Derived.Deep.RegionLaw
import Derived.Deep.RegionHeld3
import Derived.LaidEql
namespace Go.Proofs.YthhmhcmlbpdlbaaGreat.C10T
open Go.RowKit Mem MemS Rep RepA M10 M10T
set_option linter.unusedVariables false
set_option maxRecDepth 100000
abbrev NT : TypeId := 145
abbrev PT : TypeId := 121
abbrev SPT : TypeId := 122
def at0 (b : Nat) : Addr := ⟨b, 0, none⟩
def pv (o : Option Nat) : Value := .pointer (o.map at0)
theorem pv_some (b : Nat) : pv (some b) = .pointer (some ⟨b, 0, none⟩) := rfl
theorem pv_none : pv none = .pointer none := rfl
/-- block b holds these four cells of a node -/
def Nd (w : World) (b : Nat) (x : Int) (l r a : Option Nat) : Prop := w.heap[b]? = some (.cells #[.int .i64 x, pv l, pv r, pv a] NT (0, 0))
theorem Nd.lt {w : World} {b : Nat} {x : Int} {l r a : Option Nat} (h : Nd w b x l r a) : b < w.heap.size := (Array.getElem?_eq_some_iff.1 h).1
theorem Nd.cells {w : World} {b : Nat} {x : Int} {l r a : Option Nat} (h : Nd w b x l r a) : w.cell? ⟨b, 0, none⟩ = some (.int .i64 x) ∧ w.cell? ⟨b, 1, none⟩ = some (pv l) ∧ w.cell? ⟨b, 2, none⟩ = some (pv r) ∧ w.cell? ⟨b, 3, none⟩ = some (pv a) := by
  have h' : w.heap[b]? = _ := h
  refine ⟨?_, ?_, ?_, ?_⟩ <;> simp [World.cell?, h']
theorem Nd.frozen {w : World} {b : Nat} {x : Int} {l r a : Option Nat} (h : Nd w b x l r a) (j : Nat) : w.frozen? ⟨b, j, none⟩ = false := by
  have h' : w.heap[b]? = _ := h
  simp [World.frozen?, h']
/-- the store of what is above -/
theorem Nd.set {w : World} {b : Nat} {x : Int} {l r a : Option Nat} (h : Nd w b x l r a) (c : Nat) : Nd (w.setCell ⟨b, 3, none⟩ (.pointer (some ⟨c, 0, none⟩))) b x l r (some c) := by
  obtain ⟨hlt, hk⟩ := Array.getElem?_eq_some_iff.1 h
  show (w.heap.modify b _)[b]? = _
  rw [Array.getElem?_eq_getElem (by rw [Array.size_modify]; exact hlt), Array.getElem_modify_self, hk]
  rfl
/-- blocks of nodes that S names are kept -/
def Kp (S : Nat → Prop) (w w' : World) : Prop := ∀ b cs, S b → w.heap[b]? = some (.cells cs NT (0, 0)) → w'.heap[b]? = some (.cells cs NT (0, 0))
theorem Kp.nd {S : Nat → Prop} {w w' : World} (hk : Kp S w w') {b : Nat} {x : Int} {l r a : Option Nat} (h : Nd w b x l r a) (hs : S b) : Nd w' b x l r a := hk b _ hs h
theorem Kp.mono {S S' : Nat → Prop} {w w' : World} (hk : Kp S w w') (h : ∀ b, S' b → S b) : Kp S' w w' := fun b cs hs => hk b cs (h b hs)
theorem Kp.trans {S : Nat → Prop} {w w' w'' : World} (hk : Kp S w w') (hk' : Kp S w' w'') : Kp S w w'' := fun b cs hs h => hk' b cs hs (hk b cs hs h)
theorem Kp.below {w w' : World} (h : Below w.heap.size w w') (S : Nat → Prop) : Kp S w w' := fun b cs _ hb => (h.block b (Array.getElem?_eq_some_iff.1 hb).1).trans hb
/-- what is at and below a node lies in memory; a: the node above it -/
def IsT (w : World) : T → Option Nat → Prop
  | .leaf b x, a => In .i64 x ∧ Nd w b x none none a ∧ (∀ c, a = some c → b < c)
  | .node b l r, a => Nd w b 0 (some l.b) (some r.b) a ∧ (∀ c, a = some c → b < c) ∧ l.b ≠ r.b ∧ IsT w l (some b) ∧ IsT w r (some b)
theorem IsT.keep {w w' : World} : ∀ {t : T} {a : Option Nat}, IsT w t a → Kp (· ∈ t.bs) w w' → IsT w' t a
  | .leaf b x, a, ⟨h1, h2, h3⟩, hk => ⟨h1, hk.nd h2 (T.b_mem _), h3⟩
  | .node b l r, a, ⟨h1, h2, h3, h4, h5⟩, hk => ⟨hk.nd h1 (T.b_mem _), h2, h3, h4.keep (hk.mono fun i hi => List.mem_cons_of_mem _ (List.mem_append_left _ hi)), h5.keep (hk.mono fun i hi => List.mem_cons_of_mem _ (List.mem_append_right _ hi))⟩
theorem IsT.root {w : World} : ∀ {t : T} {a : Option Nat}, IsT w t a → (∃ x l r, Nd w t.b x l r a) ∧ ∀ c, a = some c → t.b < c
  | .leaf b x, a, ⟨h1, h2, h3⟩ => ⟨⟨_, _, _, h2⟩, h3⟩
  | .node b l r, a, ⟨h1, h2, h3, h4, h5⟩ => ⟨⟨_, _, _, h1⟩, h2⟩
theorem IsT.lt {w : World} : ∀ {t : T} {a : Option Nat}, IsT w t a → ∀ b, b ∈ t.bs → b < w.heap.size
  | .leaf b x, a, ⟨h1, h2, h3⟩, i, hi => by
    rw [List.mem_singleton.1 hi]
    exact h2.lt
  | .node b l r, a, ⟨h1, h2, h3, h4, h5⟩, i, hi => by
    rcases List.mem_cons.1 hi with rfl | hi
    · exact h1.lt
    · rcases List.mem_append.1 hi with hi | hi
      · exact h4.lt i hi
      · exact h5.lt i hi
/-- the root gets a node above it; all else of the tree is kept -/
theorem IsT.move {w w' : World} {c : Nat} : ∀ {t : T} {a : Option Nat}, IsT w t a → t.bs.Nodup → t.b < c → Kp (fun b => b ∈ t.bs ∧ b ≠ t.b) w w' → (∀ x l r, Nd w t.b x l r a → Nd w' t.b x l r (some c)) → IsT w' t (some c)
  | .leaf b x, a, ⟨h1, h2, h3⟩, hn, hc, hk, hr => ⟨h1, hr _ _ _ h2, fun c' e => by injection e with e; subst e; exact hc⟩
  | .node b l r, a, ⟨h1, h2, h3, h4, h5⟩, hn, hc, hk, hr => by
    have hb := (List.nodup_cons.1 hn).1
    refine ⟨hr _ _ _ h1, fun c' e => by injection e with e; subst e; exact hc, h3, h4.keep (hk.mono fun i hi => ?_), h5.keep (hk.mono fun i hi => ?_)⟩
    · exact ⟨List.mem_cons_of_mem _ (List.mem_append_left _ hi), fun e => hb (by rw [show b = i from e.symm]; exact List.mem_append_left _ hi)⟩
    · exact ⟨List.mem_cons_of_mem _ (List.mem_append_right _ hi), fun e => hb (by rw [show b = i from e.symm]; exact List.mem_append_right _ hi)⟩
/-- a level: trees apart from each other, nothing above them -/
structure Lvl (w : World) (Ts : List T) : Prop where
  is : ∀ t, t ∈ Ts → IsT w t none
  nd : (alls Ts).Nodup
theorem mem_alls {Ts : List T} {t : T} {b : Nat} (ht : t ∈ Ts) (hb : b ∈ t.bs) : b ∈ alls Ts := List.mem_flatMap.2 ⟨t, ht, hb⟩
theorem Lvl.keep {w w' : World} {Ts : List T} (h : Lvl w Ts) (hk : Kp (· ∈ alls Ts) w w') : Lvl w' Ts := ⟨fun t ht => (h.is t ht).keep (hk.mono fun b hb => mem_alls ht hb), h.nd⟩
theorem Lvl.lt {w : World} {Ts : List T} (h : Lvl w Ts) : ∀ b, b ∈ alls Ts → b < w.heap.size := fun b hb => by
  obtain ⟨t, ht, hb⟩ := List.mem_flatMap.1 hb
  exact (h.is t ht).lt b hb
theorem alls_app (Ts Us : List T) : alls (Ts ++ Us) = alls Ts ++ alls Us := by simp [alls]
theorem alls_one (t : T) : alls [t] = t.bs := by simp [alls]
/-- what a step keeps that writes nothing but what is above two trees, and makes a node above both -/
theorem Lvl.join {w w' : World} {Ds Rs : List T} {l m : T} (h : Lvl w (Ds ++ l :: m :: Rs)) {c : Nat} (hc : w.heap.size ≤ c)
    (hk : Kp (fun b => b ≠ l.b ∧ b ≠ m.b) w w') (hn : Nd w' c 0 (some l.b) (some m.b) none)
    (hl : ∀ x i j, Nd w l.b x i j none → Nd w' l.b x i j (some c)) (hm : ∀ x i j, Nd w m.b x i j none → Nd w' m.b x i j (some c)) : Lvl w' (Ds ++ .node c l m :: Rs) := by
  have il := h.is l (by simp)
  have im := h.is m (by simp)
  have e : alls (Ds ++ l :: m :: Rs) = alls Ds ++ (l.bs ++ (m.bs ++ alls Rs)) := by simp [alls]
  have e' : alls (Ds ++ .node c l m :: Rs) = alls Ds ++ (c :: (l.bs ++ m.bs) ++ alls Rs) := by simp [alls, T.bs]
  have hnd := h.nd
  rw [e] at hnd
  obtain ⟨n1, n2, n3⟩ := List.nodup_append.1 hnd
  obtain ⟨n4, n5, n6⟩ := List.nodup_append.1 n2
  obtain ⟨n7, n8, n9⟩ := List.nodup_append.1 n5
  have hlm : ∀ b, b ∈ l.bs → b ≠ m.b := fun b hb => n6 b hb m.b (List.mem_append_left _ m.b_mem)
  have hml : ∀ b, b ∈ m.bs → b ≠ l.b := fun b hb e => n6 l.b l.b_mem b (List.mem_append_left _ hb) e.symm
  have blt := h.lt
  rw [e] at blt
  refine ⟨fun t ht => ?_, ?_⟩
  · rcases List.mem_append.1 ht with ht | ht
    · refine (h.is t (List.mem_append_left _ ht)).keep (hk.mono fun b hb => ?_)
      have hb' := mem_alls ht hb
      exact ⟨n3 b hb' l.b (List.mem_append_left _ l.b_mem), n3 b hb' m.b (List.mem_append_right _ (List.mem_append_left _ m.b_mem))⟩
    · rcases List.mem_cons.1 ht with rfl | ht
      · refine ⟨hn, by simp, hlm l.b l.b_mem, il.move n4 ?_ (hk.mono fun b hb => ⟨hb.2, hlm b hb.1⟩) hl, im.move n7 ?_ (hk.mono fun b hb => ⟨hml b hb.1, hb.2⟩) hm⟩
        · have := il.lt _ l.b_mem
          omega
        · have := im.lt _ m.b_mem
          omega
      · refine (h.is t (List.mem_append_right _ (List.mem_cons_of_mem _ (List.mem_cons_of_mem _ ht)))).keep (hk.mono fun b hb => ?_)
        have hb' := mem_alls ht hb
        exact ⟨fun e => n6 l.b l.b_mem b (List.mem_append_right _ hb') e.symm, fun e => n9 m.b m.b_mem b hb' e.symm⟩
  · rw [e']
    have hcn : ∀ b, b ∈ alls Ds ++ (l.bs ++ (m.bs ++ alls Rs)) → b ≠ c := fun b hb => by have := blt b hb; omega
    have n10 : (l.bs ++ m.bs ++ alls Rs).Nodup := by rw [List.append_assoc]; exact n2
    refine List.nodup_append.2 ⟨n1, ?_, fun a ha b hb => ?_⟩
    · rw [List.cons_append]
      refine List.nodup_cons.2 ⟨fun hc' => ?_, n10⟩
      rw [List.append_assoc] at hc'
      exact hcn c (List.mem_append_right _ hc') rfl
    · rw [List.cons_append] at hb
      rcases List.mem_cons.1 hb with rfl | hb
      · exact hcn a (List.mem_append_left _ ha)
      · rw [List.append_assoc] at hb
        exact n3 a ha b hb
/-- a level all of whose upper levels are in place -/
inductive Lv (w : World) : List T → Prop
  | top {Ts : List T} : Ts.length ≤ 1 → (∀ t, t ∈ Ts → IsT w t none) → Lv w Ts
  | up {Ts Us : List T} : 1 < Ts.length → Up Ts Us → Lv w Us → Lv w Ts
theorem Lv.is {w : World} {Ts : List T} (h : Lv w Ts) : ∀ {k : Nat} {t : T}, Ts[k]? = some t → ∃ a, IsT w t a := by
  induction h with
  | @top Ts h1 h2 => intro k t hk; exact ⟨none, h2 t (List.mem_of_getElem? hk)⟩
  | @up Ts Us h1 h2 h3 ih =>
    intro k t hk
    rcases h2.get k t hk with ⟨b, u, e1, e2, e3⟩ | ⟨b, u, e1, e2, e3⟩ | ⟨e1, e2, e3⟩
    · obtain ⟨a, hi⟩ := ih e3
      exact ⟨_, hi.2.2.2.1⟩
    · obtain ⟨a, hi⟩ := ih e3
      exact ⟨_, hi.2.2.2.2⟩
    · exact ih e3
theorem Lv.keep {w w' : World} {Ts : List T} (h : Lv w Ts) (hk : Kp (fun _ => True) w w') : Lv w' Ts := by
  induction h with
  | top h1 h2 => exact .top h1 fun t ht => (h2 t ht).keep (hk.mono fun _ _ => trivial)
  | up h1 h2 h3 ih => exact .up h1 h2 ih
/-- one step up from the element k of a level -/
theorem Lv.step {w : World} {Ts : List T} (h : Lv w Ts) : ∀ (k : Nat) (t : T), Ts[k]? = some t →
    (IsT w t none ∧ pathW (vals Ts) k = [] ∧ topW (vals Ts) = t.val ∧ ∀ lf p, tfW lf k Ts.length p = if p = [] then some lf else none) ∨
    ∃ b L R a Us k', IsT w (.node b L R) a ∧ Lv w Us ∧ Us[k']? = some (.node b L R) ∧ topW (vals Ts) = topW (vals Us) ∧ (∀ lf, tfW lf k Ts.length [] = none) ∧
      ((t = L ∧ pathW (vals Ts) k = R.val :: pathW (vals Us) k' ∧ ∀ lf x p, tfW lf k Ts.length (x :: p) = tfW (nodeOf lf x) k' Us.length p) ∨
       (t = R ∧ L.b ≠ R.b ∧ pathW (vals Ts) k = L.val :: pathW (vals Us) k' ∧ ∀ lf x p, tfW lf k Ts.length (x :: p) = tfW (nodeOf x lf) k' Us.length p)) := by
  induction h with
  | @top Ts h1 h2 =>
    intro k t hk
    have hlt := (List.getElem?_eq_some_iff.1 hk).1
    have hk0 : k = 0 := by omega
    subst hk0
    refine .inl ⟨h2 t (List.mem_of_getElem? hk), pathW_one (by rw [vals_len]; omega), by rw [topW_one (by rw [vals_len]; omega), vals_get hk], fun lf p => tf_end (by omega)⟩
  | @up Ts Us h1 h2 h3 ih =>
    intro k t hk
    have hlt := (List.getElem?_eq_some_iff.1 hk).1
    have hv1 : 1 < (vals Ts).length := by rw [vals_len]; exact h1
    have hpu := pathW_up (i := k) hv1
    have htu := topW_up hv1
    rw [← h2.vals] at hpu htu
    rw [vals_len] at hpu
    have hlen := h2.len
    have hsk : ∀ s, s = sib k → (if sib k < Ts.length then [(vals Ts).getD (sib k) 0] else []) = if s < Ts.length then [(vals Ts).getD s 0] else [] := fun s e => by rw [e]
    rcases h2.get k t hk with ⟨b, u, e1, e2, e3⟩ | ⟨b, u, e1, e2, e3⟩ | ⟨e1, e2, e3⟩
    · have hu := (List.getElem?_eq_some_iff.1 e2).1
      rw [hsk (k + 1) (by unfold sib; rw [if_neg (by omega)]), if_pos hu, vals_get e2] at hpu
      have hi : ∃ a, IsT w (.node b t u) a := Lv.is h3 e3
      obtain ⟨a, hi⟩ := hi
      refine .inr ⟨b, t, u, a, Us, k / 2, hi, h3, e3, htu.symm, fun lf => tf_none h1 (.inr hu), .inl ⟨rfl, hpu, fun lf x p => ?_⟩⟩
      rw [tf_step h1 (.inr hu), if_neg (by omega), hlen]
    · have hu := (List.getElem?_eq_some_iff.1 e2).1
      rw [hsk (k - 1) (by unfold sib; rw [if_pos e1]), if_pos hu, vals_get e2] at hpu
      have hi : ∃ a, IsT w (.node b u t) a := Lv.is h3 e3
      obtain ⟨a, hi⟩ := hi
      refine .inr ⟨b, u, t, a, Us, k / 2, hi, h3, e3, htu.symm, fun lf => tf_none h1 (.inl e1), .inr ⟨rfl, hi.2.2.1, hpu, fun lf x p => ?_⟩⟩
      rw [tf_step h1 (.inl e1), if_pos e1, hlen]
    · rw [hsk (k + 1) (by unfold sib; rw [if_neg (by omega)]), if_neg (by omega), List.nil_append] at hpu
      have hts : ∀ lf p, tfW lf k Ts.length p = tfW lf (k / 2) Us.length p := fun lf p => by rw [tf_skip h1 (by omega), hlen]
      rcases ih (k / 2) t e3 with ⟨i1, i2, i3, i4⟩ | ⟨b, L, R, a, Vs, k', i1, i2, i3, i4, i5, i6⟩
      · exact .inl ⟨i1, hpu.trans i2, htu.symm.trans i3, fun lf p => (hts lf p).trans (i4 lf p)⟩
      · refine .inr ⟨b, L, R, a, Vs, k', i1, i2, i3, htu.symm.trans i4, fun lf => (hts lf []).trans (i5 lf), ?_⟩
        rcases i6 with ⟨j1, j2, j3⟩ | ⟨j1, j0, j2, j3⟩
        · exact .inl ⟨j1, hpu.trans j2, fun lf x p => (hts lf _).trans (j3 lf x p)⟩
        · exact .inr ⟨j1, j0, hpu.trans j2, fun lf x p => (hts lf _).trans (j3 lf x p)⟩
end Go.Proofs.YthhmhcmlbpdlbaaGreat.C10T
namespace Go.Proofs.YthhmhcmlbpdlbaaGreat.C10V
open Go.RowKit Mem MemS M02 M03 M05 M08 M10 M10T C01 C02 C03S C03H C08I Rep RepA RW R08 Q08 RKA C10T
set_option linter.unusedVariables false
set_option maxRecDepth 100000
theorem own_lit (k : IntKind) (w : World) {lo b n : Nat} {zs : List Int} {cs : Array Value} {ty : TypeId} (hb : b = w.heap.size) (hc : cs = (zs.map (Value.int k)).toArray) (hty : ty = ety k) (hn : zs.length = n) (hz : ∀ z ∈ zs, In k z) (hl : lo ≤ w.heap.size) (hm : n ≤ maxLen) :
    Own k (w.alloc (.cells cs ty)) lo (b + 1) (some ⟨b, 0, none⟩) n n zs := by
  subst hb hc hty hn
  exact ⟨rfl, hz, by have := World.ownsRow_lit (base := lo) (e := ety k) (size := 1) w (zs.map (Value.int k)).toArray zs.length hl hm (by simp); simpa using this, fun a e => by injection e with e; subst e; simp⟩
def slLen : Value → Nat
  | .slice _ n _ => n
  | _ => 0
theorem iNodeOf_any (a b : Int) (w : World) (ha : In .i64 a) (hb : In .i64 b) : Calls Tryz.prog 148 #[.int .i64 a, .int .i64 b] w fun e w' => e = .returned (.int .i64 (nodeOf a b)) ∧ Below w.heap.size w w' := by
  have H0 := Lib.hid (own_lit .i64 w (b := w.heap.size) (cs := #[.int .i64 229, .int .i64 a, .int .i64 b]) (ty := 3) (zs := [229, a, b]) (n := 3) (lo := w.heap.size) rfl rfl rfl rfl (by
    intro z hz
    simp only [List.mem_cons, List.not_mem_nil, or_false] at hz
    rcases hz with rfl | rfl | rfl
    · exact inI64 (by omega) (by omega)
    · exact ha
    · exact hb) (Nat.le_refl _) (by simp [maxLen]))
  have HB := Lib.hid ((Below.refl w.heap.size w).alloc (Nat.le_refl _) (.cells #[.int .i64 229, .int .i64 a, .int .i64 b] 3))
  have HR := Lib.hid H0.out.rd
  go_enter Tryz.func148, Tryz.ntmps148
  go_wp2_with fail
  refine (iHash_any _ _ _ _ _ (HR.out.more (by simp)) (by omega)).mono ?_
  rintro e w1 ⟨rfl, hbq⟩; have HB := Lib.hid (HB.out.trans (hbq.mono (by simp))); clear hbq
  go_wp2
  go_ret
  exact ⟨rfl, HB.out⟩
theorem node_in (a b : Int) : In .i64 (nodeOf a b) := by have := hsh_range [229, a, b]; unfold nodeOf; exact inI64 (by omega) (by omega)

theorem val_in {w : World} : ∀ {t : T} {a : Option Nat}, IsT w t a → In .i64 t.val
  | .leaf _ _, _, h => h.1
  | .node _ _ _, _, _ => node_in _ _
set_option maxHeartbeats 1000000 in
theorem inumber_any : ∀ (t : T) (a : Option Nat) (w : World), IsT w t a → Calls Tryz.prog 115 #[.pointer (some ⟨t.b, 0, none⟩)] w fun e w' => e = .returned (.int .i64 t.val) ∧ Below w.heap.size w w' := by
  intro t
  induction t with
  | leaf b x =>
    rintro a w ⟨hi, hn, _⟩
    obtain ⟨c0, c1, c2, c3⟩ := hn.cells
    rw [pv_none] at c1
    show Calls Tryz.prog 115 #[.pointer (some ⟨b, 0, none⟩)] w fun e w' => e = .returned (.int .i64 x) ∧ Below w.heap.size w w'
    clear hn hi c2 c3
    go_enter Tryz.func115, Tryz.ntmps115
    go_wp2
    go_ret
    exact ⟨rfl, Below.refl _ _⟩
  | node b l r ihl ihr =>
    rintro a w ⟨hn, _, _, hl, hr⟩
    obtain ⟨c0, c1, c2, c3⟩ := hn.cells
    have hlt := hn.lt
    rw [pv_some] at c1 c2
    show Calls Tryz.prog 115 #[.pointer (some ⟨b, 0, none⟩)] w fun e w' => e = .returned (.int .i64 (nodeOf l.val r.val)) ∧ Below w.heap.size w w'
    have HL := Lib.hid (ihl _ w.drew (hl.keep fun _ _ _ h => h))
    have HR := Lib.hid (fun w2 (hb : Below w.drew.heap.size w.drew w2) => ihr _ w2 (hr.keep (Kp.below (w := w.drew) hb _)))
    have HN := Lib.hid (fun w3 => iNodeOf_any l.val r.val w3 (val_in hl) (val_in hr))
    clear hn hl hr ihl ihr c3 c0
    generalize l.val = x at *
    generalize r.val = y at *
    generalize l.b = p at *
    generalize r.b = q at *
    have d1 : w.drew.cell? ⟨b, 1, none⟩ = some (.pointer (some ⟨p, 0, none⟩)) := c1
    have d2 : w.drew.cell? ⟨b, 2, none⟩ = some (.pointer (some ⟨q, 0, none⟩)) := c2
    go_enter Tryz.func115, Tryz.ntmps115
    go_wp2_with fail
    go_region_law ((first
      | (go_simp; go_at_call 115; refine HL.out.mono ?_; clear HL; rintro e w2 ⟨rfl, hb2⟩; have k1 := (hb2.cell (p := ⟨b, 1, none⟩) hlt).trans c1; have k2 := (hb2.cell (p := ⟨b, 2, none⟩) hlt).trans c2; have HB2 := Lib.hid hb2; clear hb2)
      | (go_simp; go_at_call 115; refine (HR.out _ HB2.out).mono ?_; clear HR; rintro e w3 ⟨rfl, hb3⟩; have HB3 := Lib.hid (HB2.out.trans (hb3.mono HB2.out.size)); clear hb3)
      | (go_simp; go_at_call 148; refine (HN.out _).mono ?_; clear HN; rintro e w4 ⟨rfl, hb4⟩; have HB4 := Lib.hid (HB3.out.trans (hb4.mono HB3.out.size)); clear hb4)))
    all_goals
      go_wp2
      go_ret
      exact ⟨rfl, (Below.refl w.heap.size w).drew.trans HB4.out⟩
theorem und_PT : Tryz.prog.underlying PT = some (.pointer NT) := by kernel_rfl
theorem size_NT : (Tryz.prog.info? NT).map (·.size) = some 4 := by kernel_rfl
theorem run_ptr_eqIn (d : Nat) (w : World) {a b : Nat} {x x' : Int} {l r c l' r' c' : Option Nat} (ha : Nd w a x l r c) (hb : Nd w b x' l' r' c') :
    (Op.equalIn (d + 1) PT (.pointer (some ⟨a, 0, none⟩)) (.pointer (some ⟨b, 0, none⟩))).run Tryz.prog w = .ok (decide (a = b)) w := by
  obtain ⟨j, hj, hj4⟩ : ∃ j, Tryz.prog.info? NT = some j ∧ j.size = 4 := by
    have h := size_NT
    cases hi : Tryz.prog.info? NT with
    | none => rw [hi] at h; cases h
    | some j => rw [hi] at h; exact ⟨j, rfl, by simpa using h⟩
  have hsz : j.size ≠ 0 := by omega
  have hu := run_underlying und_PT w
  by_cases h : a = b
  · subst h
    simp [Op.equalIn, hu, sizeOf, typeInfo, hj, run_sameAddr_same]
  · have hne : (⟨a, 0, none⟩ : Addr) ≠ ⟨b, 0, none⟩ := fun e => h (by injection e)
    have hs := run_sameAddr_other (P := Tryz.prog) w hne ha hb
    simp [Op.equalIn, hu, sizeOf, typeInfo, hj, hsz, hs, h]
/-- two addresses of nodes compared -/
theorem run_ptr_eq (w : World) {a b : Nat} {x x' : Int} {l r c l' r' c' : Option Nat} (ha : Nd w a x l r c) (hb : Nd w b x' l' r' c') :
    (binOp .eql PT (.pointer (some ⟨a, 0, none⟩)) (.pointer (some ⟨b, 0, none⟩))).run Tryz.prog w = .ok (.bool (decide (a = b))) w := by
  have h := run_ptr_eqIn 9999 w ha hb
  simp only [binOp]
  simp [Op.equal, Op.maxDepth, h]
def blkOf : Value → Nat
  | .pointer (some a) => a.block
  | _ => 0
set_option maxHeartbeats 1000000 in
/-- from an element of a level to the top -/
theorem itop_any (Ts : List T) (k : Nat) (t : T) (w : World) (h : Lv w Ts) (hk : Ts[k]? = some t) :
    Calls Tryz.prog 114 #[.pointer (some ⟨t.b, 0, none⟩)] w fun e w' => ∃ u, e = .returned (.pointer (some ⟨u.b, 0, none⟩)) ∧ IsT w u none ∧ u.val = topW (vals Ts) ∧ w' = w := by
  have HH := Lib.hid h
  have HK := Lib.hid hk
  clear h hk
  go_enter Tryz.func114, Tryz.ntmps114
  go_wp2
  go_loopw [0] (fun v wr => ∃ (Us : List T) (k : Nat) (u : T), Lv w Us ∧ Us[k]? = some u ∧ v = .pointer (some ⟨T.b u, 0, none⟩) ∧ topW (vals Us) = topW (vals Ts) ∧ wr = w) (fun v _ => w.heap.size - blkOf v)
  case atStart => exact ⟨Ts, k, t, HH.out, HK.out, rfl, rfl, rfl⟩
  case round =>
    obtain ⟨Us, k, u, hl, hk, rfl, ht, rfl⟩ := hrel
    rcases hl.step k u hk with ⟨i1, i2, i3, i4⟩ | ⟨b, L, R, a, Vs, k', i1, i2, i3, i4, i5, i6⟩
    · obtain ⟨⟨x, l, r, hn⟩, _⟩ := i1.root
      obtain ⟨_, _, _, c3⟩ := hn.cells
      rw [pv_none] at c3
      have HT := Lib.hid (i3.symm.trans ht)
      have HI := Lib.hid i1
      clear hn i1 i2 i3 i4 ht hk hl
      go_wp2
      go_ret
      exact ⟨u, rfl, HI.out, HT.out, by trivial⟩
    · have hu : IsT wr u (some b) := by
        rcases i6 with ⟨rfl, _⟩ | ⟨rfl, _⟩
        · exact i1.2.2.2.1
        · exact i1.2.2.2.2
      obtain ⟨⟨x, l, r, hn⟩, hlt⟩ := hu.root
      have hlt := hlt b rfl
      obtain ⟨_, _, _, c3⟩ := hn.cells
      rw [pv_some] at c3
      have hsz := i1.1.lt
      have H2 := Lib.hid i2
      have H3 := Lib.hid i3
      have HT := Lib.hid (i4.symm.trans ht)
      clear hn i1 i2 i3 i4 i5 i6 ht hk hl hu
      generalize T.b u = ub at *
      go_wp2
      go_roundw
      case rel => exact ⟨Vs, k', .node b L R, H2.out, H3.out, rfl, HT.out, by trivial⟩
      case measure => simp [blkOf]; omega
end Go.Proofs.YthhmhcmlbpdlbaaGreat.C10V
