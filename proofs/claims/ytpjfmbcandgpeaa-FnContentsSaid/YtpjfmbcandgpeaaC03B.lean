/- Chapter 3: the code's lists of bytes' numbers. -/
import Derived.Test.YtpjfmbcandgpeaaC03S
import Derived.Test.YtpjfmbcandgpeaaC03D
import Derived.Test.YtpjfmbcandgpeaaT01
namespace Go.Proofs.Ytpjfmbcandgpeaa.C03B
open Go.RowKit Mem M02 C01 C02 C02B M03 C03S C03D T01
set_option linter.unusedVariables false
set_option maxRecDepth 8000
/-- 'make([]T, 0, n)' -/
theorem wp_make0 {k : IntKind} (hk : BI k) {w : World} {ops : Array Oper} {rest : List Oper} {o : Oper} {a : Act} {Q : Exit → Act → World → Prop} (hgd : o.guard = none) (l c : Operand) (ho : o.op = Op.makeSlice (sty k) l c)
    {n : Nat} {C : Int} (hl : a.eval l = .int .i64 0) (hc : a.eval c = .int .i64 C) (hC : C = (n : Int)) (hb : n ≤ 8796093022208)
    (hK : ∀ w', Own k w' w.heap.size w'.heap.size (some ⟨w.heap.size, 0, none⟩) 0 n [] → Below w.heap.size w w' → wpList Try.prog ops Q rest (a.put o.dst (.slice (some ⟨w.heap.size, 0, none⟩) 0 n)) w') :
    wpList Try.prog ops Q (o :: rest) a w := by
  obtain ⟨i, h1, h2, h3, h4⟩ := info_of hk
  have hbb : i.bytes * n ≤ 8 * n := Nat.mul_le_mul_right _ h4
  refine wpList_make_own w hgd l c (sty k) ho w.heap.size (ety k) i (.int k 0) 1 (under_of hk) h1 h2 h3 .i64 .i64 C n hl hc hC (by omega) (by simp only [maxLen]; omega) (Nat.le_refl _) fun w' hown hg => hK w' ⟨by simp, by simp, hown, fun a e => (hown.lt a.block (by injection e with e; subst e; rfl)).2⟩ ((Below.refl _ _).grown hg (Nat.le_refl _) (by simp))
end Go.Proofs.Ytpjfmbcandgpeaa.C03B
