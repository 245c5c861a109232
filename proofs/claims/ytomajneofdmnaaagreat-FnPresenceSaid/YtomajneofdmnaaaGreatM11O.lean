/- Chapter 11: moved entries whose value was changed. -/
import Derived.Test.YtomajneofdmnaaaGreatM11L
namespace Go.Proofs.YtomajneofdmnaaaGreat.M11O
open M11E M11L
set_option maxRecDepth 100000
def ne (x y : Nat) : Bool := decide (x ≠ y)
def odd (h r : Nat) : Bool :=
  force (nst (nst (nst h 1) (r % 999999 + 1)) 0) fun F => force (nst (nst h 3) r) fun x =>
    (lab4.all fun a => wk (1 :: bt a) x fun y => ne y F) &&
    (lab4.all fun a => wk (2 :: bt a) x fun y => lab4.all fun b => wk (bt b) y fun z => ne z F) &&
    (lab4.all fun a => wk (3 :: bt a) x fun y => lab4.all fun b => wk (bt b) y fun z => lab4.all fun c => wk (bt c) z fun u => ne u F)
theorem odd_is {h r : Nat} (e : odd h r = true) {p : List (List Nat)} (hp : ∀ a ∈ p, a ∈ lab4) (h0 : 0 < p.length) (h3 : p.length ≤ 3) : (pInts p).foldl nst (nst (nst h 3) r) ≠ nst (nst (nst h 1) (r % 999999 + 1)) 0 := by
  unfold odd at e
  simp only [force_is, wk_is, List.all_eq_true, Bool.and_eq_true, ne, decide_eq_true_eq] at e
  obtain ⟨⟨e1, e2⟩, e3⟩ := e
  match p, hp, h0, h3 with
  | [a], hp, _, _ =>
    have := e1 a (hp a (by simp))
    simpa [pInts, List.foldl_append] using this
  | [a, b], hp, _, _ =>
    have := e2 a (hp a (by simp)) b (hp b (by simp))
    simpa [pInts, List.foldl_append] using this
  | [a, b, c], hp, _, _ =>
    have := e3 a (hp a (by simp)) b (hp b (by simp)) c (hp c (by simp))
    simpa [pInts, List.foldl_append] using this
theorem odd_1 : (lab4.all fun s => odd (hOf s) 999999) = true := by decide +kernel
theorem odd_2 : (lab4.all fun s => odd (hOf s) 1000000) = true := by decide +kernel
theorem odd_3 : (lab4.all fun s => odd (hOf s) 2147483646) = true := by decide +kernel
end Go.Proofs.YtomajneofdmnaaaGreat.M11O
