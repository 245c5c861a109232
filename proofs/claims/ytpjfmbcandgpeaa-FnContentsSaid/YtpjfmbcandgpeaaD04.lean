/- The drawing functions of chapter 4: what they return, and that they write into nothing that was there. -/
import Derived.Test.YtpjfmbcandgpeaaD02
import Derived.Test.YtpjfmbcandgpeaaC04I
namespace Go.Proofs.Ytpjfmbcandgpeaa.D04
set_option linter.unusedVariables false
open Go.RowKit Mem MemS M02 M04 C01 C02 C02B D01 D02 SL C04I C04S
theorem ownS_kept {w w' : World} {g lo hi n c : Nat} {A : Option Addr} {zs : List ByteArray} (h : OwnS w lo hi A n c zs) (hk : Kept g w w') (hg : g < lo) : OwnS w' lo hi A n c zs :=
  h.keep fun i h0 h1 _ => hk.block i h0 (by omega)
def StrIn (m : Nat) (v : Value) : Prop := ∃ s : ByteArray, s.size ≤ m ∧ v = .string s
theorem l4Label_any (w : World) (B g : Nat) (hc : Cur w B g) : Calls Try.prog 90 #[.pointer (some ⟨g, 0, none⟩)] w (Dr B g (StrIn 16) w) := by
  go_enter Try.func90, Try.ntmps90
  go_wp2_with fail
  refine (l1Str_any _ _ _ 16 (by omega) _ B g ?_ ?_).mono ?_
  · exact hc.alloc _
  · exact SRow.new hc.lt (by decide +kernel) rfl
  rintro e w2 ⟨v, ⟨y, hy, rfl⟩, rfl, hc2, hk2⟩
  go_wp2
  go_ret
  exact ⟨_, ⟨y, hy, rfl⟩, rfl, hc2, ((Kept.refl _ _).alloc _).trans hk2⟩
theorem l4Any_any (w : World) (B g : Nat) (hc : Cur w B g) : Calls Try.prog 72 #[.pointer (some ⟨g, 0, none⟩)] w (Dr B g (StrIn 16) w) := by
  go_enter Try.func72, Try.ntmps72
  go_wp2_with fail
  refine (l1Once_any _ _ B g hc).mono ?_
  rintro e w1 ⟨v, ⟨b, rfl⟩, rfl, hc1, hk1⟩
  cases b
  · go_wp2_with fail
    refine (l4Label_any _ B g hc1).mono ?_
    rintro e w2 ⟨v, ⟨y, hy, rfl⟩, rfl, hc2, hk2⟩
    go_wp2
    go_ret
    exact ⟨_, ⟨y, hy, rfl⟩, rfl, hc2, hk1.trans hk2⟩
  · go_wp2_with fail
    refine (l1Str_any _ _ _ 16 (by omega) _ B g ?_ ?_).mono ?_
    · exact hc1.alloc _
    · exact SRow.new hc1.lt (by decide +kernel) rfl
    rintro e w2 ⟨v, ⟨y, hy, rfl⟩, rfl, hc2, hk2⟩
    go_wp2
    go_ret
    exact ⟨_, ⟨y, hy, rfl⟩, rfl, hc2, (hk1.alloc _).trans hk2⟩
end Go.Proofs.Ytpjfmbcandgpeaa.D04
