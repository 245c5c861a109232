/- Contracts of the program's FormatInt and ParseInt (chapter 1). -/
import Derived.Test.YtgbfgfpabiapkaaDoorC01
import Derived.Test.YtgbfgfpabiapkaaDoorM01
import Derived.Test.YtgbfgfpabiapkaaDoorVars
import Derived.Test.YtgbfgfpabiapkaaDoorShelf
import Derived.Lib.AppendIntMem
import Derived.Lib.AtoiAllCases
import Derived.Laws.Concat
namespace Go.Proofs.YtgbfgfpabiapkaaDoor.C01I
open Go.RowKit Go.Proofs.YtgbfgfpabiapkaaDoor.C01 Go.Proofs.YtgbfgfpabiapkaaDoor.M01 Go.Proofs.YtgbfgfpabiapkaaDoor.VV
theorem iFormatInt_any (n : Int) (w : World) (h0 : -9223372036854775808 ≤ n) (h1 : n ≤ 9223372036854775807) (hv : Tab w) :
    Calls Tryd.prog 10 #[.int .i64 n] w fun e w' => e = .returned (.string ⟨(Lib.itoa n).toArray⟩) ∧ Below w.heap.size w w' := by
  have H0 := Lib.hid h0
  have H1 := Lib.hid h1
  clear h0 h1
  go_enter Tryd.func10, Tryd.ntmps10
  go_wp2_with (go_at_call 23; refine (Tryd.strconv_Itoa _ H0.out H1.out _ hv.tab).mono ?_; rintro e w' ⟨rfl, k, os, rfl⟩)
  go_ret
  exact ⟨rfl, Lib.below_grow _ _ (Nat.le_refl _) _ _⟩
theorem atoi_world {w w' : World} {T : TypeId} (h : w' = w ∨ ∃ t, w' = Lib.bytesWorld w T t) : Below w.heap.size w w' := by
  rcases h with rfl | ⟨t, rfl⟩
  · exact Below.refl _ _
  · exact ⟨rfl, rfl, rfl, by rw [Lib.bytesWorld_size]; omega, fun k hk => Lib.bytesWorld_at_old w T t k hk⟩
theorem atoi_none (s : ByteArray) (hlim : s.size ≤ 281474976710656) (h1 : ∀ v, Lib.atoiAll s.data.toList ≠ .ok v) (h2 : Lib.atoiAll s.data.toList ≠ .range) (tp : TypeId) (p : Value) (w : World) (hvar : w.var? Tryd.prog "strconv.ErrSyntax" = some #[.iface tp p]) :
    Calls Tryd.prog 20 #[.string s] w fun e w' => ∃ N, e = .returned (.tuple #[.int .i64 0, .iface 54 (.pointer (some ⟨N, 0, none⟩))]) ∧ Below w.heap.size w w' := by
  cases ha : Lib.atoiAll s.data.toList
  · exact absurd ha (h1 _)
  · exact (Any.strconv_Atoi_syntax_var Tryd.laysC172 s hlim ha tp p w hvar).mono fun e w' ⟨N, h, _, _, hb⟩ => ⟨N, h, hb⟩
  · exact absurd ha h2
set_option maxHeartbeats 800000 in
theorem iParseInt_any (s : ByteArray) (w : World) (hlim : s.size ≤ 281474976710656) (hv : Vars w) :
    Calls Tryd.prog 8 #[.string s] w fun e w' => e = .returned (.tuple #[.int .i64 (pI s.data.toList).1, .bool (pI s.data.toList).2]) ∧ Below w.heap.size w w' := by
  cases ha : Lib.atoiAll s.data.toList
  · rename_i v
    obtain ⟨hb1, hb2⟩ := Lib.atoiAll_bounds ha
    have hmax : s.size ≤ 9223372036854775806 := by omega
    by_cases hr : 0 ≤ v ∧ v ≤ 1000000000000
    · obtain ⟨hr1, hr2⟩ := hr
      have hin := inR_true hr1 hr2
      by_cases hs : s.data.toList = Lib.itoa v
      · have hp : pI s.data.toList = (v, true) := by
          obtain ⟨n, rfl⟩ : ∃ n : Nat, v = (n : Int) := ⟨v.toNat, by omega⟩
          rw [hs, itoa_nat]; exact pI_dec (by omega)
        obtain rfl : s = ⟨(Lib.itoa v).toArray⟩ := by cases s; simp at hs; rw [← hs]
        have HA := Lib.hid ha
        have HP := Lib.hid hp
        clear ha hp hs
        go_enter Tryd.func8, Tryd.ntmps8
        go_wp2_with (first | (go_at_call 20; refine (Tryd.strconv_Atoi_ok _ hmax v HA.out _).mono ?_; rintro e w1 ⟨rfl, hb⟩) | (go_at_call 21; refine (inRange_any _ _ _ _).mono ?_; rintro e w' ⟨rfl, rfl⟩))
        have hB := atoi_world hb
        clear hb
        refine (iFormatInt_any v _ hb1 hb2 (hv.tab.below hB hv.tab.size)).mono ?_
        rintro e w2 ⟨rfl, hB2⟩
        go_wp2
        go_ret2
        rw [HP.out]
        exact ⟨rfl, hB.trans (hB2.mono hB.size)⟩
      · have hp : pI s.data.toList = (0, false) := pI_no fun n h1 h2 => by
          rw [← h2, atoiAll_dec h1] at ha
          injection ha with ha
          subst ha
          exact hs (by rw [← h2, itoa_nat])
        have HA := Lib.hid ha
        have HP := Lib.hid hp
        have hne : (Lib.itoa v == s.toList) = false := by rw [beq_eq_false_iff_ne, ByteArray.toList_eq]; exact fun e => hs e.symm
        clear ha hp hs
        go_enter Tryd.func8, Tryd.ntmps8
        go_wp2_with (first | (go_at_call 20; refine (Tryd.strconv_Atoi_ok _ hmax v HA.out _).mono ?_; rintro e w1 ⟨rfl, hb⟩) | (go_at_call 21; refine (inRange_any _ _ _ _).mono ?_; rintro e w' ⟨rfl, rfl⟩))
        have hB := atoi_world hb
        clear hb
        refine (iFormatInt_any v _ hb1 hb2 (hv.tab.below hB hv.tab.size)).mono ?_
        rintro e w2 ⟨rfl, hB2⟩
        go_wp2
        go_ret2
        rw [HP.out]
        exact ⟨rfl, hB.trans (hB2.mono hB.size)⟩
    · have hin := inR_false (n := v) (a := 0) (b := 1000000000000) (by omega)
      have hp : pI s.data.toList = (0, false) := pI_no fun n h1 h2 => by
        rw [← h2, atoiAll_dec h1] at ha
        injection ha with ha
        omega
      have HA := Lib.hid ha
      have HP := Lib.hid hp
      clear ha hp hr
      go_enter Tryd.func8, Tryd.ntmps8
      go_wp2_with (first | (go_at_call 20; refine (Tryd.strconv_Atoi_ok _ hmax v HA.out _).mono ?_; rintro e w1 ⟨rfl, hb⟩) | (go_at_call 21; refine (inRange_any _ _ _ _).mono ?_; rintro e w' ⟨rfl, rfl⟩))
      go_ret2
      rw [HP.out]
      exact ⟨rfl, atoi_world hb⟩
  · obtain ⟨tp, p, hvar⟩ := hv.syn
    have hp : pI s.data.toList = (0, false) := pI_no fun n h1 h2 => by rw [← h2, atoiAll_dec h1] at ha; cases ha
    have HA := Lib.hid (show (∀ v, Lib.atoiAll s.data.toList ≠ .ok v) ∧ Lib.atoiAll s.data.toList ≠ .range by rw [ha]; exact ⟨(fun _ h => nomatch h), (fun h => nomatch h)⟩)
    have HP := Lib.hid hp
    have HV := Lib.hid hvar
    clear ha hp hvar
    go_enter Tryd.func8, Tryd.ntmps8
    go_wp2_with (go_at_call 20; refine (atoi_none s hlim HA.out.1 HA.out.2 tp p _ HV.out).mono ?_; rintro e w' ⟨N, rfl, hb⟩)
    go_ret2
    rw [HP.out]
    exact ⟨rfl, hb⟩
  · obtain ⟨tp, p, hvar⟩ := hv.rng
    have hp : pI s.data.toList = (0, false) := pI_no fun n h1 h2 => by rw [← h2, atoiAll_dec h1] at ha; cases ha
    have HA := Lib.hid ha
    have HP := Lib.hid hp
    have HV := Lib.hid hvar
    clear ha hp hvar
    go_enter Tryd.func8, Tryd.ntmps8
    go_wp2_with (go_at_call 20; refine (Tryd.strconv_Atoi_range_var s hlim HA.out tp p _ HV.out).mono ?_; rintro e w' ⟨N, rfl, hN, hC, hb⟩)
    go_ret2
    rw [HP.out]
    exact ⟨rfl, hb⟩
end Go.Proofs.YtgbfgfpabiapkaaDoor.C01I
