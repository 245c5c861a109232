/- Chapter 10: trees of nodes: levels, and what climbing from a leaf yields. Plain facts. -/
import Derived.Test.YtcpfdhammhcoaaaM10
namespace Go.Proofs.Ytcpfdhammhcoaaa.M10T
open Go.RowKit M10
set_option linter.unusedVariables false
/-- a node: its block, and what is below it -/
inductive T where
  | leaf (b : Nat) (x : Int)
  | node (b : Nat) (l r : T)
def T.b : T → Nat
  | .leaf b _ => b
  | .node b _ _ => b
def T.val : T → Int
  | .leaf _ x => x
  | .node _ l r => nodeOf l.val r.val
def T.bs : T → List Nat
  | .leaf b _ => [b]
  | .node b l r => b :: (l.bs ++ r.bs)
theorem T.b_mem : ∀ t : T, t.b ∈ t.bs
  | .leaf _ _ => List.mem_cons_self ..
  | .node _ _ _ => List.mem_cons_self ..
def vals (Ts : List T) : List Int := Ts.map T.val
def heads (Ts : List T) : List Nat := Ts.map T.b
def alls (Ts : List T) : List Nat := Ts.flatMap T.bs
theorem vals_len (Ts : List T) : (vals Ts).length = Ts.length := by simp [vals]
theorem heads_len (Ts : List T) : (heads Ts).length = Ts.length := by simp [heads]
theorem vals_get {Ts : List T} {k : Nat} {t : T} (h : Ts[k]? = some t) : (vals Ts).getD k 0 = t.val := by simp [vals, List.getD, h]
/-- the level above a level -/
inductive Up : List T → List T → Prop
  | nil : Up [] []
  | one (t : T) : Up [t] [t]
  | two {l m : T} {r r' : List T} (b : Nat) : Up r r' → Up (l :: m :: r) (.node b l m :: r')
theorem Up.vals {Ts Us : List T} (h : Up Ts Us) : vals Us = up (vals Ts) := by
  induction h with
  | nil => rfl
  | one t => rfl
  | two b h ih =>
    simp only [M10T.vals, List.map_cons, up] at ih ⊢
    rw [ih]
    rfl
theorem Up.len {Ts Us : List T} (h : Up Ts Us) : Us.length = (Ts.length + 1) / 2 := by
  induction h with
  | nil => rfl
  | one t => simp
  | two b h ih =>
    simp only [List.length_cons, ih]
    omega
theorem Up.snoc2 {Ts Us : List T} (h : Up Ts Us) (he : Ts.length % 2 = 0) (b : Nat) (l m : T) : Up (Ts ++ [l, m]) (Us ++ [.node b l m]) := by
  induction h with
  | nil => exact .two b .nil
  | one t => simp at he
  | two b' h ih => exact .two b' (ih (by simp only [List.length_cons] at he; omega))
theorem Up.snoc1 {Ts Us : List T} (h : Up Ts Us) (he : Ts.length % 2 = 0) (t : T) : Up (Ts ++ [t]) (Us ++ [t]) := by
  induction h with
  | nil => exact .one t
  | one t => simp at he
  | two b' h ih => exact .two b' (ih (by simp only [List.length_cons] at he; omega))
theorem Up.get {Ts Us : List T} (h : Up Ts Us) : ∀ (k : Nat) (t : T), Ts[k]? = some t →
    (∃ b u, k % 2 = 0 ∧ Ts[k + 1]? = some u ∧ Us[k / 2]? = some (.node b t u)) ∨ (∃ b u, k % 2 = 1 ∧ Ts[k - 1]? = some u ∧ Us[k / 2]? = some (.node b u t)) ∨ (k % 2 = 0 ∧ k + 1 = Ts.length ∧ Us[k / 2]? = some t) := by
  induction h with
  | nil => intro k t h; simp at h
  | one u =>
    intro k t h
    cases k with
    | zero => exact .inr (.inr ⟨rfl, rfl, h⟩)
    | succ k => simp at h
  | @two l m r r' b h ih =>
    intro k t hk
    match k, hk with
    | 0, hk =>
      simp at hk
      subst hk
      exact .inl ⟨b, m, rfl, rfl, rfl⟩
    | 1, hk =>
      simp at hk
      subst hk
      exact .inr (.inl ⟨b, l, rfl, rfl, rfl⟩)
    | k + 2, hk =>
      have hk' : r[k]? = some t := by simpa using hk
      have hd : (k + 2) / 2 = k / 2 + 1 := by omega
      rw [hd]
      rcases ih k t hk' with ⟨b', u, h1, h2, h3⟩ | ⟨b', u, h1, h2, h3⟩ | ⟨h1, h2, h3⟩
      · exact .inl ⟨b', u, by omega, by simpa using h2, by simpa using h3⟩
      · refine .inr (.inl ⟨b', u, by omega, ?_, by simpa using h3⟩)
        have e : k + 2 - 1 = (k - 1) + 2 := by omega
        rw [e]
        simpa using h2
      · exact .inr (.inr ⟨by omega, by simp only [List.length_cons]; omega, by simpa using h3⟩)
end Go.Proofs.Ytcpfdhammhcoaaa.M10T
