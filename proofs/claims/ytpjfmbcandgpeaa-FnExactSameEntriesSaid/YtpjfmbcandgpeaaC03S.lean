/- Chapter 3: what the model's functions return. -/
import Derived.Test.YtpjfmbcandgpeaaC02B
import Derived.Test.YtpjfmbcandgpeaaM03
namespace Go.Proofs.Ytpjfmbcandgpeaa.C03S
open Go.RowKit Mem M02 C01 C02 C02B M03
set_option linter.unusedVariables false
theorem modQ_M (v : Int) : modQ v 2147483647 = v % 2147483647 := by simp [modQ, inR]
theorem modQ_256 (v : Int) : modQ v 256 = v % 256 := by simp [modQ, inR]
theorem in_i64 {z : Int} (h0 : -9223372036854775808 ≤ z) (h1 : z ≤ 9223372036854775807) : In .i64 z := by constructor <;> simp [IntKind.min, IntKind.max, IntKind.signed, IntKind.bits] <;> omega
theorem in_i64_iff {z : Int} (h : In .i64 z) : -9223372036854775808 ≤ z ∧ z ≤ 9223372036854775807 := by
  have e1 : IntKind.i64.min = -9223372036854775808 := rfl
  have e2 : IntKind.i64.max = 9223372036854775807 := rfl
  unfold In at h
  omega
end Go.Proofs.Ytpjfmbcandgpeaa.C03S
