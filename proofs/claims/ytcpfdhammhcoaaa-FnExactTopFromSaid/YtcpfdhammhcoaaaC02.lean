/- Chapter 2: what the code's and the model's functions on byte strings return: appending. -/
import Derived.Test.YtcpfdhammhcoaaaMem
import Derived.Test.YtcpfdhammhcoaaaM02
import Derived.Test.YtcpfdhammhcoaaaC01
namespace Go.Proofs.Ytcpfdhammhcoaaa.C02
open Go.RowKit Mem M02 C01
set_option linter.unusedVariables false
theorem byt_in {zs : List Int} (h : ∀ z ∈ zs, In .u8 z) : Byt zs := fun z hz => by
  have := h z hz
  exact ⟨this.1, this.2⟩
theorem in_u8 {z : Int} (h0 : 0 ≤ z) (h1 : z ≤ 255) : In .u8 z := ⟨h0, h1⟩
theorem uv_go {m : Nat} {d u : List Int} (h : d ++ uv m = u) (hm : ¬ m ≤ 127) {x : Int} (hx : x = (m : Int) % 128 + 128) : (d ++ [x]) ++ uv (m / 128) = u := by
  rw [← h, uv_big hm, List.append_assoc, List.singleton_append, hx]
  congr 1
theorem uv_end {m : Nat} {d u : List Int} (h : d ++ uv m = u) (hm : m ≤ 127) {x : Int} (hx : x = m) : d ++ [x] = u := by rw [← h, uv_small hm, hx]
end Go.Proofs.Ytcpfdhammhcoaaa.C02
