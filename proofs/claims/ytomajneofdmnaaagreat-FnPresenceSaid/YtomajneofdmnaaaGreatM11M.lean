/- Chapter 11: the longest drawable paths. -/
import Derived.Test.YtomajneofdmnaaaGreatM11L
namespace Go.Proofs.YtomajneofdmnaaaGreat.M11M
open M11E M11L
set_option maxRecDepth 100000
theorem long_0 : long4 (hOf [97, 110, 110]) = true := by decide +kernel
theorem long_1 : long4 (hOf [98, 111, 98]) = true := by decide +kernel
theorem long_2 : long4 (hOf [98, 97, 110, 107]) = true := by decide +kernel
theorem long_3 : long4 (hOf [115, 104, 111, 112]) = true := by decide +kernel
theorem long_4 : long4 (hOf [115, 104, 48, 112]) = true := by decide +kernel
theorem long_5 : long4 (hOf [53, 104, 111, 112]) = true := by decide +kernel
theorem long_6 : long4 (hOf [109, 97, 105, 108]) = true := by decide +kernel
theorem long_7 : long4 (hOf [109, 97, 45, 105, 108]) = true := by decide +kernel
theorem long_8 : long4 (hOf [97]) = true := by decide +kernel
theorem all4 : ∀ s ∈ lab4, long4 (hOf s) = true := by
  intro s hs
  simp only [lab4, List.mem_cons, List.not_mem_nil, or_false] at hs
  rcases hs with rfl | rfl | rfl | rfl | rfl | rfl | rfl | rfl | rfl
  · exact long_0
  · exact long_1
  · exact long_2
  · exact long_3
  · exact long_4
  · exact long_5
  · exact long_6
  · exact long_7
  · exact long_8
end Go.Proofs.YtomajneofdmnaaaGreat.M11M
