/- Chapter 10: plain facts on hash trees. Chapter 10: trees of nodes: levels, and what climbing from a leaf yields. Plain facts. Chapter 10: plain facts that FnHashTrees says. -/
import Derived.Test.YthhmhcmlbpdlbaaGreatM08
import Derived.Test.YthhmhcmlbpdlbaaGreatC03H
import Derived.Test.YthhmhcmlbpdlbaaGreatC02B
namespace Go.Proofs.YthhmhcmlbpdlbaaGreat.M10
open Go.RowKit R08 M03 M08 C01
set_option linter.unusedVariables false
set_option maxRecDepth 100000
def nodeOf (a b : Int) : Int := hsh [229, a, b]
def up : List Int → List Int
  | [] => []
  | [a] => [a]
  | a :: b :: r => nodeOf a b :: up r
theorem up_len : ∀ l : List Int, (up l).length = (l.length + 1) / 2
  | [] => by simp [up]
  | [a] => by simp [up]
  | a :: b :: r => by
    simp only [up, List.length_cons, up_len r]
    omega
theorem up_app : ∀ (xs ys : List Int), xs.length % 2 = 0 → up (xs ++ ys) = up xs ++ up ys
  | [], ys, _ => by simp [up]
  | [a], ys, h => by simp at h
  | a :: b :: r, ys, h => by
    simp only [List.cons_append, up]
    rw [up_app r ys (by simp only [List.length_cons] at h; omega)]
theorem up_two {l : List Int} {i : Nat} (h : i + 1 < l.length) (h2 : i % 2 = 0) : up (l.take (i + 2)) = up (l.take i) ++ [nodeOf (l.getD i 0) (l.getD (i + 1) 0)] := by
  have e : l.take (i + 2) = l.take i ++ [l.getD i 0, l.getD (i + 1) 0] := by
    rw [show i + 2 = (i + 1) + 1 by omega, List.take_succ_eq_append_getElem h, List.take_succ_eq_append_getElem (show i < l.length by omega)]
    simp only [List.getD, List.getElem?_eq_getElem h, List.getElem?_eq_getElem (show i < l.length by omega), Option.getD_some, List.append_assoc, List.cons_append, List.nil_append]
  rw [e, up_app _ _ (by rw [List.length_take]; omega)]
  simp [up]
theorem up_one {l : List Int} {i : Nat} (h : i + 1 = l.length) (h2 : i % 2 = 0) : up (l.take (i + 2)) = up (l.take i) ++ [l.getD i 0] := by
  have e : l.take (i + 2) = l.take i ++ [l.getD i 0] := by
    rw [List.take_of_length_le (by omega)]
    conv => lhs; rw [← List.take_of_length_le (show l.length ≤ i + 1 by omega), List.take_succ_eq_append_getElem (show i < l.length by omega)]
    simp only [List.getD, List.getElem?_eq_getElem (show i < l.length by omega), Option.getD_some]
  rw [e, up_app _ _ (by rw [List.length_take]; omega)]
  simp [up]
def topW (l : List Int) : Int := if h : 1 < l.length then topW (up l) else l.getD 0 0
termination_by l.length
decreasing_by rw [up_len]; omega
theorem topW_up {l : List Int} (h : 1 < l.length) : topW (up l) = topW l := by
  conv => rhs; rw [topW, dif_pos h]
theorem topW_one {l : List Int} (h : ¬ 1 < l.length) : topW l = l.getD 0 0 := by rw [topW, dif_neg h]
def topOf (l : List Int) : Int := if l.length = 0 then hsh [229] else topW l
def leavesE (l : List Entry) : List Int := l.map leafOf
def rootN (n : Int) (t : Int) : Int := hsh [231, n, t]
def rootOf (l : List Entry) : Int := rootN l.length (topOf (leavesE l))
def sib (i : Nat) : Nat := if i % 2 = 1 then i - 1 else i + 1
def pathW (l : List Int) (i : Nat) : List Int := if h : 1 < l.length then (if sib i < l.length then [l.getD (sib i) 0] else []) ++ pathW (up l) (i / 2) else []
termination_by l.length
decreasing_by rw [up_len]; omega
theorem pathW_up {l : List Int} {i : Nat} (h : 1 < l.length) : pathW l i = (if sib i < l.length then [l.getD (sib i) 0] else []) ++ pathW (up l) (i / 2) := by
  rw [pathW, dif_pos h]
theorem pathW_one {l : List Int} {i : Nat} (h : ¬ 1 < l.length) : pathW l i = [] := by rw [pathW, dif_neg h]
def pathFor (l : List Int) (i : Int) : List Int := if inR i 0 ((l.length : Int) - 1) then pathW l i.toNat else []
def tfW (leaf : Int) (i n : Nat) (path : List Int) : Option Int :=
  if h : 1 < n then
    if i % 2 = 1 ∨ i + 1 < n then
      match path with
      | [] => none
      | p :: r => tfW (if i % 2 = 1 then nodeOf p leaf else nodeOf leaf p) (i / 2) ((n + 1) / 2) r
    else tfW leaf (i / 2) ((n + 1) / 2) path
  else if path = [] then some leaf else none
termination_by n
decreasing_by all_goals omega
def topFrom (leaf i n : Int) (path : List Int) : Int × Bool :=
  if inR n 1 12 && inR i 0 (n - 1) then
    match tfW leaf i.toNat n.toNat path with
    | some t => (t, true)
    | none => (0, false)
  else (0, false)
theorem tf_end {leaf : Int} {i n : Nat} {path : List Int} (h : ¬ 1 < n) : tfW leaf i n path = if path = [] then some leaf else none := by unfold tfW; rw [dif_neg h]
theorem tf_none {leaf : Int} {i n : Nat} (h : 1 < n) (h2 : i % 2 = 1 ∨ i + 1 < n) : tfW leaf i n [] = none := by unfold tfW; rw [dif_pos h, if_pos h2]
theorem tf_step {leaf p : Int} {i n : Nat} {r : List Int} (h : 1 < n) (h2 : i % 2 = 1 ∨ i + 1 < n) : tfW leaf i n (p :: r) = tfW (if i % 2 = 1 then nodeOf p leaf else nodeOf leaf p) (i / 2) ((n + 1) / 2) r := by
  conv => lhs; unfold tfW
  rw [dif_pos h, if_pos h2]
theorem tf_skip {leaf : Int} {i n : Nat} {path : List Int} (h : 1 < n) (h2 : ¬ (i % 2 = 1 ∨ i + 1 < n)) : tfW leaf i n path = tfW leaf (i / 2) ((n + 1) / 2) path := by
  conv => lhs; unfold tfW
  rw [dif_pos h, if_neg h2]
theorem pathW_len : ∀ (k : Nat) (l : List Int) (i : Nat), l.length ≤ k → (pathW l i).length ≤ l.length
  | 0, l, i, h => by
    rw [pathW_one (by omega)]
    simp
  | k + 1, l, i, h => by
    by_cases h1 : 1 < l.length
    · rw [pathW_up h1, List.length_append]
      have h2 := up_len l
      have h3 := pathW_len k (up l) (i / 2) (by omega)
      have h4 : (if sib i < l.length then [l.getD (sib i) 0] else ([] : List Int)).length ≤ 1 := by split <;> simp
      omega
    · rw [pathW_one h1]
      simp
theorem pathFor_len (l : List Int) (i : Int) : (pathFor l i).length ≤ l.length := by
  unfold pathFor
  split
  · exact pathW_len l.length l _ (Nat.le_refl _)
  · simp
end Go.Proofs.YthhmhcmlbpdlbaaGreat.M10
namespace Go.Proofs.YthhmhcmlbpdlbaaGreat.M10T
open Go.RowKit M10
set_option linter.unusedVariables false
/-- a node: its block, and what is below it -/
inductive T where
  | leaf (b : Nat) (x : Int)
  | node (b : Nat) (l r : T)
def T.b : T → Nat
  | .leaf b _ => b
  | .node b _ _ => b
def T.val : T → Int
  | .leaf _ x => x
  | .node _ l r => nodeOf l.val r.val
def T.bs : T → List Nat
  | .leaf b _ => [b]
  | .node b l r => b :: (l.bs ++ r.bs)
theorem T.b_mem : ∀ t : T, t.b ∈ t.bs
  | .leaf _ _ => List.mem_cons_self ..
  | .node _ _ _ => List.mem_cons_self ..
def vals (Ts : List T) : List Int := Ts.map T.val
def heads (Ts : List T) : List Nat := Ts.map T.b
def alls (Ts : List T) : List Nat := Ts.flatMap T.bs
theorem vals_len (Ts : List T) : (vals Ts).length = Ts.length := by simp [vals]
theorem heads_len (Ts : List T) : (heads Ts).length = Ts.length := by simp [heads]
theorem vals_get {Ts : List T} {k : Nat} {t : T} (h : Ts[k]? = some t) : (vals Ts).getD k 0 = t.val := by simp [vals, List.getD, h]
/-- the level above a level -/
inductive Up : List T → List T → Prop
  | nil : Up [] []
  | one (t : T) : Up [t] [t]
  | two {l m : T} {r r' : List T} (b : Nat) : Up r r' → Up (l :: m :: r) (.node b l m :: r')
theorem Up.vals {Ts Us : List T} (h : Up Ts Us) : vals Us = up (vals Ts) := by
  induction h with
  | nil => rfl
  | one t => rfl
  | two b h ih =>
    simp only [M10T.vals, List.map_cons, up] at ih ⊢
    rw [ih]
    rfl
theorem Up.len {Ts Us : List T} (h : Up Ts Us) : Us.length = (Ts.length + 1) / 2 := by
  induction h with
  | nil => rfl
  | one t => simp
  | two b h ih =>
    simp only [List.length_cons, ih]
    omega
theorem Up.snoc2 {Ts Us : List T} (h : Up Ts Us) (he : Ts.length % 2 = 0) (b : Nat) (l m : T) : Up (Ts ++ [l, m]) (Us ++ [.node b l m]) := by
  induction h with
  | nil => exact .two b .nil
  | one t => simp at he
  | two b' h ih => exact .two b' (ih (by simp only [List.length_cons] at he; omega))
theorem Up.snoc1 {Ts Us : List T} (h : Up Ts Us) (he : Ts.length % 2 = 0) (t : T) : Up (Ts ++ [t]) (Us ++ [t]) := by
  induction h with
  | nil => exact .one t
  | one t => simp at he
  | two b' h ih => exact .two b' (ih (by simp only [List.length_cons] at he; omega))
theorem Up.get {Ts Us : List T} (h : Up Ts Us) : ∀ (k : Nat) (t : T), Ts[k]? = some t →
    (∃ b u, k % 2 = 0 ∧ Ts[k + 1]? = some u ∧ Us[k / 2]? = some (.node b t u)) ∨ (∃ b u, k % 2 = 1 ∧ Ts[k - 1]? = some u ∧ Us[k / 2]? = some (.node b u t)) ∨ (k % 2 = 0 ∧ k + 1 = Ts.length ∧ Us[k / 2]? = some t) := by
  induction h with
  | nil => intro k t h; simp at h
  | one u =>
    intro k t h
    cases k with
    | zero => exact .inr (.inr ⟨rfl, rfl, h⟩)
    | succ k => simp at h
  | @two l m r r' b h ih =>
    intro k t hk
    match k, hk with
    | 0, hk =>
      simp at hk
      subst hk
      exact .inl ⟨b, m, rfl, rfl, rfl⟩
    | 1, hk =>
      simp at hk
      subst hk
      exact .inr (.inl ⟨b, l, rfl, rfl, rfl⟩)
    | k + 2, hk =>
      have hk' : r[k]? = some t := by simpa using hk
      have hd : (k + 2) / 2 = k / 2 + 1 := by omega
      rw [hd]
      rcases ih k t hk' with ⟨b', u, h1, h2, h3⟩ | ⟨b', u, h1, h2, h3⟩ | ⟨h1, h2, h3⟩
      · exact .inl ⟨b', u, by omega, by simpa using h2, by simpa using h3⟩
      · refine .inr (.inl ⟨b', u, by omega, ?_, by simpa using h3⟩)
        have e : k + 2 - 1 = (k - 1) + 2 := by omega
        rw [e]
        simpa using h2
      · exact .inr (.inr ⟨by omega, by simp only [List.length_cons]; omega, by simpa using h3⟩)
end Go.Proofs.YthhmhcmlbpdlbaaGreat.M10T
namespace Go.Proofs.YthhmhcmlbpdlbaaGreat.M10F
open Go.RowKit R08 M03 M08 M10 C01
set_option linter.unusedVariables false
set_option maxRecDepth 100000
def Rg (x : Int) : Prop := 0 ≤ x ∧ x < 2147483647
theorem node_rg (a b : Int) : Rg (nodeOf a b) := hsh_range _
theorem node_left {x y b : Int} (hx : Rg x) (hy : Rg y) (h : nodeOf x b = nodeOf y b) : x = y := by
  unfold nodeOf hsh at h
  simp only [List.foldl_cons, List.foldl_nil] at h
  have h1 := hstep_tells (hstep_inj (hstep_range _ _) (hstep_range _ _) h)
  obtain ⟨a1, a2⟩ := hx
  obtain ⟨b1, b2⟩ := hy
  omega
theorem node_right {x y b : Int} (hx : Rg x) (hy : Rg y) (h : nodeOf b x = nodeOf b y) : x = y := by
  unfold nodeOf hsh at h
  simp only [List.foldl_cons, List.foldl_nil] at h
  have h1 := hstep_tells h
  obtain ⟨a1, a2⟩ := hx
  obtain ⟨b1, b2⟩ := hy
  omega
theorem up_get : ∀ (l : List Int) (j : Nat), 2 * j < l.length → (up l).getD j 0 = if 2 * j + 1 < l.length then nodeOf (l.getD (2 * j) 0) (l.getD (2 * j + 1) 0) else l.getD (2 * j) 0
  | [], j, h => by simp at h
  | [a], j, h => by
    have : j = 0 := by simp at h; omega
    subst this
    simp [up]
  | a :: b :: r, 0, h => by simp [up]
  | a :: b :: r, j + 1, h => by
    have ih := up_get r j (by simp only [List.length_cons] at h; omega)
    simp only [up, List.getD_cons_succ, List.length_cons]
    rw [show 2 * (j + 1) = 2 * j + 1 + 1 by omega, ih]
    simp only [List.getD_cons_succ]
    by_cases h1 : 2 * j + 1 < r.length
    · rw [if_pos h1, if_pos (by omega)]
    · rw [if_neg h1, if_neg (by omega)]
theorem go_iff {i n : Nat} (hi : i < n) : (i % 2 = 1 ∨ i + 1 < n) ↔ sib i < n := by
  unfold sib
  split <;> omega
/-- the element above leaf i -/
theorem above {l : List Int} {i : Nat} (hi : i < l.length) : (up l).getD (i / 2) 0 = if sib i < l.length then (if i % 2 = 1 then nodeOf (l.getD (sib i) 0) (l.getD i 0) else nodeOf (l.getD i 0) (l.getD (sib i) 0)) else l.getD i 0 := by
  rw [up_get l (i / 2) (by omega)]
  unfold sib
  by_cases hp : i % 2 = 1
  · rw [if_pos hp, if_pos (by omega), if_pos (by omega), if_pos hp, show 2 * (i / 2) = i - 1 by omega, show i - 1 + 1 = i by omega]
  · rw [if_neg hp, if_neg hp, show 2 * (i / 2) = i by omega]
theorem tf_top : ∀ (k : Nat) (l : List Int) (i : Nat), l.length ≤ k → i < l.length → tfW (l.getD i 0) i l.length (pathW l i) = some (topW l)
  | 0, l, i, h, hi => absurd hi (by omega)
  | k + 1, l, i, h, hi => by
    by_cases h1 : 1 < l.length
    · have ih := tf_top k (up l) (i / 2) (by rw [up_len]; omega) (by rw [up_len]; omega)
      rw [above hi, up_len, topW_up h1] at ih
      rw [pathW_up h1]
      by_cases hs : sib i < l.length
      · rw [if_pos hs] at ih ⊢
        rw [List.cons_append, List.nil_append, tf_step h1 ((go_iff hi).2 hs)]
        exact ih
      · rw [if_neg hs] at ih ⊢
        rw [List.nil_append, tf_skip h1 (fun h => hs ((go_iff hi).1 h))]
        exact ih
    · rw [pathW_one h1, tf_end h1, if_pos rfl, topW_one h1, show i = 0 by omega]
theorem tf_long : ∀ (k : Nat) (l : List Int) (i : Nat) (x y : Int), l.length ≤ k → i < l.length → tfW x i l.length (pathW l i ++ [y]) = none
  | 0, l, i, x, y, h, hi => absurd hi (by omega)
  | k + 1, l, i, x, y, h, hi => by
    by_cases h1 : 1 < l.length
    · have ih := fun z => tf_long k (up l) (i / 2) z y (by rw [up_len]; omega) (by rw [up_len]; omega)
      rw [up_len] at ih
      rw [pathW_up h1]
      by_cases hs : sib i < l.length
      · rw [if_pos hs]
        rw [List.cons_append, List.nil_append, List.cons_append, tf_step h1 ((go_iff hi).2 hs)]
        exact ih _
      · rw [if_neg hs]
        rw [List.nil_append, tf_skip h1 (fun h => hs ((go_iff hi).1 h))]
        exact ih _
    · rw [pathW_one h1, tf_end h1, if_neg (by simp)]
theorem tf_apart : ∀ (k : Nat) (l : List Int) (i : Nat) (x y : Int), l.length ≤ k → i < l.length → Rg x → Rg y → x ≠ y → ∃ t u, tfW x i l.length (pathW l i) = some t ∧ tfW y i l.length (pathW l i) = some u ∧ t ≠ u
  | 0, l, i, x, y, h, hi, _, _, _ => absurd hi (by omega)
  | k + 1, l, i, x, y, h, hi, hx, hy, hne => by
    by_cases h1 : 1 < l.length
    · have ih := fun x y => tf_apart k (up l) (i / 2) x y (by rw [up_len]; omega) (by rw [up_len]; omega)
      rw [up_len] at ih
      rw [pathW_up h1]
      by_cases hs : sib i < l.length
      · rw [if_pos hs, List.cons_append, List.nil_append, tf_step h1 ((go_iff hi).2 hs), tf_step h1 ((go_iff hi).2 hs)]
        by_cases hp : i % 2 = 1
        · rw [if_pos hp, if_pos hp]
          exact ih _ _ (node_rg _ _) (node_rg _ _) fun e => hne (node_right hx hy e)
        · rw [if_neg hp, if_neg hp]
          exact ih _ _ (node_rg _ _) (node_rg _ _) fun e => hne (node_left hx hy e)
      · rw [if_neg hs, List.nil_append, tf_skip h1 (fun h => hs ((go_iff hi).1 h)), tf_skip h1 (fun h => hs ((go_iff hi).1 h))]
        exact ih _ _ hx hy hne
    · rw [pathW_one h1, tf_end h1, tf_end h1, if_pos rfl, if_pos rfl]
      exact ⟨x, y, rfl, rfl, hne⟩
theorem path_short : ∀ (k : Nat) (l : List Int) (i : Nat), l.length ≤ 2 ^ k → (pathW l i).length ≤ k
  | 0, l, i, h => by
    rw [pathW_one (by simp at h; omega)]
    simp
  | k + 1, l, i, h => by
    by_cases h1 : 1 < l.length
    · have ih := path_short k (up l) (i / 2) (by rw [up_len]; rw [Nat.pow_succ] at h; omega)
      rw [pathW_up h1, List.length_append]
      have h4 : (if sib i < l.length then [l.getD (sib i) 0] else ([] : List Int)).length ≤ 1 := by split <;> simp
      omega
    · rw [pathW_one h1]
      simp
/-- what the law asks where there is such a leaf -/
theorem trees {l : List Int} {i : Nat} (hi : i < l.length) (hn : l.length ≤ 12) (hr : ∀ z ∈ l, 0 ≤ z ∧ z ≤ 99) :
    ∃ u : Int, topFrom (l.getD i 0) i l.length (pathFor l i) = (topOf l, true) ∧ topFrom (l.getD i 0 + 1) i l.length (pathFor l i) = (u, true) ∧ u ≠ topOf l ∧ (topFrom (l.getD i 0) i l.length (pathFor l i ++ [1])).2 = false ∧ (pathFor l i).length ≤ 4 := by
  have hz := hr _ (show l.getD i 0 ∈ l by
    simp only [List.getD, List.getElem?_eq_getElem hi, Option.getD_some]
    exact List.getElem_mem hi)
  have h1 : inR (l.length : Int) 1 12 = true := by unfold inR; simp; omega
  have h2 : inR (i : Int) 0 ((l.length : Int) - 1) = true := by unfold inR; simp; omega
  have hp : pathFor l i = pathW l i := by unfold pathFor; rw [h2]; simp
  have ht : topOf l = topW l := by unfold topOf; rw [if_neg (by omega)]
  obtain ⟨t, u, e1, e2, e3⟩ := tf_apart l.length l i (l.getD i 0) (l.getD i 0 + 1) (Nat.le_refl _) hi ⟨by omega, by omega⟩ ⟨by omega, by omega⟩ (by omega)
  have e4 := tf_top l.length l i (Nat.le_refl _) hi
  rw [e4] at e1
  injection e1 with e1
  have e5 := tf_long l.length l i (l.getD i 0) 1 (Nat.le_refl _) hi
  rw [hp, ht]
  refine ⟨u, ?_, ?_, ?_, ?_, path_short 4 l i (by omega)⟩
  · unfold topFrom
    rw [h1, h2]
    simp only [Bool.and_self, if_true, Int.toNat_natCast, e4]
  · unfold topFrom
    rw [h1, h2]
    simp only [Bool.and_self, if_true, Int.toNat_natCast, e2]
  · rw [e1]
    exact fun h => e3 h.symm
  · unfold topFrom
    rw [h1, h2]
    simp only [Bool.and_self, if_true, Int.toNat_natCast, e5]
theorem node_12 : nodeOf 1 2 ≠ nodeOf 2 1 := by decide
end Go.Proofs.YthhmhcmlbpdlbaaGreat.M10F
