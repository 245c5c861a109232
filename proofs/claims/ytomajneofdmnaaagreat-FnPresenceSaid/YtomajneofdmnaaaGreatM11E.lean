/- Chapter 11: no drawable moved entry has the leaf of the value entry that FnPresence holds against it: a decision over all of them. -/
import Derived.Test.YtomajneofdmnaaaGreatM11P
namespace Go.Proofs.YtomajneofdmnaaaGreat.M11E
open Go.RowKit M03
set_option linter.unusedVariables false
set_option maxRecDepth 100000
def nst (a v : Nat) : Nat := (a * 1000003 + v + 13) % 2147483647
theorem nst_hst {a v : Nat} (hv : v < 2147483647) : hstep (a : Int) (v : Int) = (nst a v : Int) := by
  unfold hstep nst
  have : (v : Int) % 2147483647 = v := Int.emod_eq_of_lt (by omega) (by omega)
  rw [this]
  simp
theorem fold_hst : ∀ (l : List Nat) (a : Nat), (∀ v ∈ l, v < 2147483647) → (l.map fun (v : Nat) => (v : Int)).foldl hstep (a : Int) = (l.foldl nst a : Nat)
  | [], a, _ => rfl
  | v :: l, a, h => by
    rw [List.map_cons, List.foldl_cons, List.foldl_cons, nst_hst (h v (by simp))]
    exact fold_hst l _ fun x hx => h x (by simp [hx])
theorem nst_cong {a b v : Nat} (h : a % 2147483647 = b % 2147483647) : nst a v = nst b v := by
  unfold nst
  rw [Nat.add_assoc, Nat.add_assoc, Nat.add_mod, Nat.mul_mod, h, ← Nat.mul_mod, ← Nat.add_mod]
theorem fold_cong : ∀ (l : List Nat) {a b : Nat}, a % 2147483647 = b % 2147483647 → (l.foldl nst a) % 2147483647 = (l.foldl nst b) % 2147483647
  | [], a, b, h => h
  | v :: l, a, b, h => by rw [List.foldl_cons, List.foldl_cons, nst_cong h]
theorem nst_add (x y v : Nat) : nst (x + y) v % 2147483647 = (nst x v + y * 1000003) % 2147483647 := by
  unfold nst
  rw [Nat.mod_mod, Nat.mod_add_mod, Nat.add_mul]
  congr 1
  omega
theorem fold_add : ∀ (l : List Nat) (x y : Nat), (l.foldl nst (x + y)) % 2147483647 = (l.foldl nst x + y * 1000003 ^ l.length) % 2147483647
  | [], x, y => by simp
  | v :: l, x, y => by
    rw [List.foldl_cons, List.foldl_cons, fold_cong l (nst_add x y v), fold_add l, List.length_cons, Nat.pow_succ, Nat.mul_assoc, Nat.mul_comm 1000003]
theorem nst_r (x r : Nat) : nst x r % 2147483647 = (nst x 0 + r) % 2147483647 := by
  unfold nst
  omega
theorem nst_1 (x r : Nat) : nst x (r + 1) % 2147483647 = (nst x 1 + r) % 2147483647 := by
  unfold nst
  omega
/-- inverse of c^m - c, by m -/
def wtab : List Nat := [0, 0, 2058487184, 1753381083, 463959008, 321312697, 1717421155, 43036314, 46351190, 929816754, 561992160, 1232443390, 74364424, 450527512, 1074377814, 858379217, 384011902, 2021801970, 1191760175, 1100327128, 1764125585, 2071181486, 351987648, 132274590, 1778018275, 1781302757, 421036236, 868732671, 1299652727, 80888899, 2089139843, 877082193]
def wOf (m : Nat) : Nat := wtab.getD m 0
theorem w_ok : (List.range 32).all (fun m => decide (m < 2) || decide (wOf m * 1000003 ^ m % 2147483647 = (wOf m * 1000003 + 1) % 2147483647)) = true := by decide +kernel
/-- the one root at which the leaves are the same -/
def rootAt (h : Nat) (l : List Nat) : Nat :=
  let w := wOf l.length
  (w * nst (nst (nst h 1) 1) 0 + (2147483647 - (w * l.foldl nst (nst (nst h 3) 0)) % 2147483647)) % 2147483647
theorem root_is {h r : Nat} {l : List Nat} (h2 : 2 ≤ l.length) (h31 : l.length < 32) (hr : r < 2147483647) (he : l.foldl nst (nst (nst h 3) r) = nst (nst (nst h 1) (r + 1)) 0) : r = rootAt h l := by
  have hw := List.all_eq_true.1 w_ok l.length (List.mem_range.2 h31)
  rw [decide_eq_false (show ¬ l.length < 2 by omega), Bool.false_or] at hw
  have hw := of_decide_eq_true hw
  have e1 : l.foldl nst (nst (nst h 3) r) % 2147483647 = (l.foldl nst (nst (nst h 3) 0) + r * 1000003 ^ l.length) % 2147483647 := by
    rw [← fold_add]
    exact fold_cong l (nst_r _ _)
  have e2 : nst (nst (nst h 1) (r + 1)) 0 % 2147483647 = (nst (nst (nst h 1) 1) 0 + r * 1000003) % 2147483647 := by
    rw [← nst_add]
    rw [nst_cong (nst_1 (nst h 1) r)]
  rw [he, e2] at e1
  unfold rootAt
  generalize l.foldl nst (nst (nst h 3) 0) = E at e1
  generalize nst (nst (nst h 1) 1) 0 = F at e1
  generalize wOf l.length = w at hw
  generalize 1000003 ^ l.length = M at hw e1
  show r = (w * F + (2147483647 - (w * E) % 2147483647)) % 2147483647
  have e3 : (w * (F + r * 1000003)) % 2147483647 = (w * (E + r * M)) % 2147483647 := by
    rw [Nat.mul_mod, e1, ← Nat.mul_mod]
  have e4 : (w * E + r * (w * M)) % 2147483647 = (w * E + r * (w * 1000003 + 1)) % 2147483647 := by
    have e9 : (r * (w * M)) % 2147483647 = (r * (w * 1000003 + 1)) % 2147483647 := by rw [Nat.mul_mod, hw, ← Nat.mul_mod]
    rw [Nat.add_mod, e9, ← Nat.add_mod]
  have e5 : w * (E + r * M) = w * E + r * (w * M) := by rw [Nat.mul_add, Nat.mul_left_comm]
  have e6 : w * (F + r * 1000003) = w * F + r * (w * 1000003) := by rw [Nat.mul_add, Nat.mul_left_comm]
  rw [e5, e4, e6, Nat.mul_add, Nat.mul_one] at e3
  generalize r * (w * 1000003) = X at e3
  generalize w * F = Y at e3 ⊢
  generalize w * E = Z at e3 ⊢
  omega
def bt (s : List Nat) : List Nat := s.length :: s
def lab4 : List (List Nat) := [[97, 110, 110], [98, 111, 98], [98, 97, 110, 107], [115, 104, 111, 112], [115, 104, 48, 112], [53, 104, 111, 112], [109, 97, 105, 108], [109, 97, 45, 105, 108], [97]]
def lab13 : List (List Nat) := lab4 ++ [[97, 98, 99, 100, 101, 102, 103, 104], [49, 108], [108, 49], [48]]
def hOf (s : List Nat) : Nat := (227 :: bt s).foldl nst 11
def pInts (p : List (List Nat)) : List Nat := p.length :: (p.map bt).flatten
def okR (s : List Nat) (p : List (List Nat)) : Bool := decide (5000 ≤ rootAt (hOf s) (pInts p))
theorem short1 : (lab13.all fun s => lab4.all fun a => okR s [a]) = true := by decide +kernel
theorem short2 : (lab13.all fun s => lab4.all fun a => lab4.all fun b => okR s [a, b]) = true := by decide +kernel
theorem short3 : (lab13.all fun s => lab4.all fun a => lab4.all fun b => lab4.all fun c => okR s [a, b, c]) = true := by decide +kernel
end Go.Proofs.YtomajneofdmnaaaGreat.M11E
