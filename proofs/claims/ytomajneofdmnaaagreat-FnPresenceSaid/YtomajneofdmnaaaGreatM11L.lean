/- Chapter 11: the same decision over the longer paths (a path of l5Path with two labels of l4Any behind it). -/
import Derived.Test.YtomajneofdmnaaaGreatM11E
namespace Go.Proofs.YtomajneofdmnaaaGreat.M11L
open Go.RowKit M03 M11E
set_option linter.unusedVariables false
set_option maxRecDepth 100000
/-- the value is computed before it is handed on: terms stay small in the kernel -/
def force (x : Nat) (k : Nat → Bool) : Bool := Nat.casesOn (motive := fun _ => Bool) x (k 0) (fun n => k (Nat.succ n))
theorem force_is (x : Nat) (k : Nat → Bool) : force x k = k x := by cases x <;> rfl
def wk : List Nat → Nat → (Nat → Bool) → Bool
  | [], x, k => k x
  | v :: l, x, k => force (nst x v) fun y => wk l y k
theorem wk_is : ∀ (l : List Nat) (x : Nat) (k : Nat → Bool), wk l x k = k (l.foldl nst x)
  | [], x, k => rfl
  | v :: l, x, k => by rw [wk, force_is, wk_is l, List.foldl_cons]
def chk (m F y : Nat) : Bool := decide (5000 ≤ (wOf m * F + (2147483647 - (wOf m * y) % 2147483647)) % 2147483647)
def long4 (h : Nat) : Bool :=
  force (nst (nst (nst h 1) 1) 0) fun F => force (nst (nst (nst h 3) 0) 4) fun x0 => lab4.all fun a => wk (bt a) x0 fun x1 => lab4.all fun b => wk (bt b) x1 fun x2 =>
    lab13.all fun c => wk (bt c) x2 fun x3 => force (a.length + b.length + c.length + 5) fun m => lab13.all fun d => wk (bt d) x3 fun y => chk (m + d.length) F y
def long3 (h : Nat) : Bool :=
  force (nst (nst (nst h 1) 1) 0) fun F => force (nst (nst (nst h 3) 0) 3) fun x0 => lab4.all fun a => wk (bt a) x0 fun x1 =>
    lab13.all fun c => wk (bt c) x1 fun x3 => force (a.length + c.length + 4) fun m => lab13.all fun d => wk (bt d) x3 fun y => chk (m + d.length) F y
theorem long4_is {h : Nat} (e : long4 h = true) {a b c d : List Nat} (ha : a ∈ lab4) (hb : b ∈ lab4) (hc : c ∈ lab13) (hd : d ∈ lab13) : 5000 ≤ rootAt h (pInts [a, b, c, d]) := by
  unfold long4 at e
  simp only [force_is, wk_is, List.all_eq_true] at e
  have e := e a ha b hb c hc d hd
  unfold chk at e
  have e := of_decide_eq_true e
  have hl : (pInts [a, b, c, d]).length = a.length + b.length + c.length + 5 + d.length := by simp [pInts, bt]; omega
  have hf : (pInts [a, b, c, d]).foldl nst (nst (nst h 3) 0) = (bt d).foldl nst ((bt c).foldl nst ((bt b).foldl nst ((bt a).foldl nst (nst (nst (nst h 3) 0) 4)))) := by simp [pInts, List.foldl_append]
  unfold rootAt
  rw [hl, hf]
  exact e
theorem long3_is {h : Nat} (e : long3 h = true) {a c d : List Nat} (ha : a ∈ lab4) (hc : c ∈ lab13) (hd : d ∈ lab13) : 5000 ≤ rootAt h (pInts [a, c, d]) := by
  unfold long3 at e
  simp only [force_is, wk_is, List.all_eq_true] at e
  have e := e a ha c hc d hd
  unfold chk at e
  have e := of_decide_eq_true e
  have hl : (pInts [a, c, d]).length = a.length + c.length + 4 + d.length := by simp [pInts, bt]; omega
  have hf : (pInts [a, c, d]).foldl nst (nst (nst h 3) 0) = (bt d).foldl nst ((bt c).foldl nst ((bt a).foldl nst (nst (nst (nst h 3) 0) 3))) := by simp [pInts, List.foldl_append]
  unfold rootAt
  rw [hl, hf]
  exact e
theorem all3 : (lab4.all fun s => long3 (hOf s)) = true := by decide +kernel
end Go.Proofs.YtomajneofdmnaaaGreat.M11L
