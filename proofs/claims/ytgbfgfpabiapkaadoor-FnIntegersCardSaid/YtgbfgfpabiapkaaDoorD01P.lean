/- The drawing functions of chapter 1 that take a byte string: what they return. -/
import Derived.Test.YtgbfgfpabiapkaaDoorD01
import Derived.Test.YtgbfgfpabiapkaaDoorC01S
namespace Go.Proofs.YtgbfgfpabiapkaaDoor.D01P
open Go.RowKit Go.Proofs.YtgbfgfpabiapkaaDoor.C01 Go.Proofs.YtgbfgfpabiapkaaDoor.C01S Go.Proofs.YtgbfgfpabiapkaaDoor.D01 Go.Proofs.YtgbfgfpabiapkaaDoor.SL
theorem wf_bounds {x : Int} (h : (Lit.int .i64 x).wf = true) : -9223372036854775808 ≤ x ∧ x ≤ 9223372036854775807 := by
  have e1 : IntKind.i64.min = -9223372036854775808 := rfl
  have e2 : IntKind.i64.max = 9223372036854775807 := rfl
  simpa [Lit.wf, e1, e2] using h
set_option maxHeartbeats 1000000 in
theorem drawFormatInt_any (w : World) (A : Option Addr) (n c : Nat) (hn : n ≤ maxLen) (hr : BRow w w.heap.size A n) :
    Calls Tryd.prog 9 #[.slice A n c] w fun e w' => ∃ x : Int, (Lit.int .i64 x).wf = true ∧ e = .returned (.int .i64 x) ∧ Below w.heap.size w w' := by
  go_enter Tryd.func9, Tryd.ntmps9
  go_wp2_with fail
  refine (l1New_any w A n c hn hr).mono ?_
  rintro e w1 ⟨g, rfl, hc1, hb1⟩
  go_wp2_with fail
  refine (l1One_any _ _ g hc1).mono ?_
  rintro e w2 ⟨v, ⟨y, hy, rfl⟩, rfl, hc2, hk2⟩
  go_wp2
  go_ret
  exact ⟨y, hy, rfl, hb1.trans (hk2.below hc1.1 hb1.size)⟩
set_option maxHeartbeats 1000000 in
theorem drawParseInt_any (w : World) (A : Option Addr) (n c : Nat) (hn : n ≤ maxLen) (hr : BRow w w.heap.size A n) :
    Calls Tryd.prog 7 #[.slice A n c] w fun e w' => ∃ s : ByteArray, s.size ≤ 100 ∧ e = .returned (.string s) ∧ Below w.heap.size w w' := by
  go_enter Tryd.func7, Tryd.ntmps7
  go_wp2_with fail
  refine (l1New_any w A n c hn hr).mono ?_
  rintro e w1 ⟨g, rfl, hc1, hb1⟩
  go_wp2_with fail
  refine (l1Once_any _ _ _ g hc1).mono ?_
  rintro e w2 ⟨v, ⟨b, rfl⟩, rfl, hc2, hk2⟩
  cases b
  · go_wp2_with fail
    refine (l1Num_any _ _ g hc2).mono ?_
    rintro e w3 ⟨v, ⟨y, hy, rfl⟩, rfl, hc3, hk3⟩
    go_wp2_with fail
    refine (sFormatInt_any y _ (wf_bounds hy).1 (wf_bounds hy).2).mono ?_
    rintro e w4 ⟨rfl, hb4⟩
    go_wp2
    go_ret
    have hl := Lib.itoa_length_le y (wf_bounds hy).1 (wf_bounds hy).2
    exact ⟨_, by simp [ByteArray.size]; omega, rfl, (hb1.trans ((hk2.trans hk3).below hc1.1 hb1.size)).trans (hb4.mono (by have := hb1.size; have := hk2.size; have := hk3.size; omega))⟩
  · go_wp2_with fail
    refine (l1Str_any _ _ _ 100 (by omega) _ w.heap.size g ?_ ?_).mono ?_
    · exact hc2.alloc _
    · exact SRow.new hc2.lt (by decide +kernel) rfl
    rintro e w3 ⟨v, ⟨s, hs, rfl⟩, rfl, hc3, hk3⟩
    go_wp2
    go_ret
    exact ⟨s, hs, rfl, hb1.trans (((hk2.alloc _).trans hk3).below hc1.1 hb1.size)⟩
set_option maxHeartbeats 1000000 in
theorem DrawCeilDiv_any (w : World) (A : Option Addr) (n c : Nat) (hn : n ≤ maxLen) (hr : BRow w w.heap.size A n) :
    Calls Tryd.prog 11 #[.slice A n c] w fun e w' => ∃ x y : Int, (Lit.int .i64 x).wf = true ∧ (Lit.int .i64 y).wf = true ∧ e = .returned (.tuple #[.int .i64 x, .int .i64 y]) ∧ Below w.heap.size w w' := by
  go_enter Tryd.func11, Tryd.ntmps11
  go_wp2_with fail
  refine (l1New_any w A n c hn hr).mono ?_
  rintro e w1 ⟨g, rfl, hc1, hb1⟩
  go_wp2_with fail
  refine (l1One_any _ _ g hc1).mono ?_
  rintro e w2 ⟨v, ⟨x, hx, rfl⟩, rfl, hc2, hk2⟩
  go_wp2_with fail
  refine (l1One_any _ _ g hc2).mono ?_
  rintro e w3 ⟨v, ⟨y, hy, rfl⟩, rfl, hc3, hk3⟩
  go_wp2
  go_ret2
  exact ⟨x, y, hx, hy, rfl, hb1.trans ((hk2.trans hk3).below hc1.1 hb1.size)⟩
end Go.Proofs.YtgbfgfpabiapkaaDoor.D01P
