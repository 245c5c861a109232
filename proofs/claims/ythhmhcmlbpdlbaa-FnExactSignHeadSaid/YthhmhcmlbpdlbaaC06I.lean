/- Chapter 6: what the program's functions return. -/
import Derived.Deep.RegionHeld3
import Derived.Test.YthhmhcmlbpdlbaaC06C
namespace Go.Proofs.Ythhmhcmlbpdlbaa.C06I
open Go.RowKit Mem MemS Rep R06 M03 M06 C01 C03S C03D C03H C06S C06A C06B C06C
set_option linter.unusedVariables false
set_option maxRecDepth 100000
theorem arrK_cells (k : Keys) : ∃ a0 a1 a2 a3 a4 : Int, arrK k = [.int .i64 a0, .int .i64 a1, .int .i64 a2, .int .i64 a3, .int .i64 a4] := by
  unfold arrK
  cases isKeys k <;> exact ⟨_, _, _, _, _, rfl⟩
set_option maxHeartbeats 1000000 in
theorem iIsKeys_any (cs : List Value) (k : Keys) (w : World) (h : RKeys.rd w (Lt w.heap.size) cs k) (hn : k.list.length ≤ 1099511627776) :
    Calls Try.prog 93 #[.agg cs.toArray] w fun e w' => e = .returned (.bool (isKeys k)) ∧ Below w.heap.size w w' := by
  have hcl : ∃ v0 v1, cs = [v0, v1] := by
    obtain ⟨A, n, c, e, _⟩ := RKeys_rd.1 h
    exact ⟨_, _, e⟩
  obtain ⟨v0, v1, rfl⟩ := hcl
  have HB := Lib.hid ((Below.refl w.heap.size w).alloc (Nat.le_refl _) (.cells #[v0, v1] 27))
  have H := Lib.hid (RKeys.more (RKeys.keep h fun i hi => HB.out.block i hi) (P' := Lt (w.alloc (.cells #[v0, v1] 27)).heap.size) fun i hi => Nat.lt_of_lt_of_le hi HB.out.size)
  clear h
  have hk := keyArrayOf_any [v0, v1] k _ H.out hn
  obtain ⟨a0, a1, a2, a3, a4, ha⟩ := arrK_cells k
  rw [ha] at hk
  have HK := Lib.hid hk
  clear hk ha
  go_enter Try.func93, Try.ntmps93
  go_wp2_with fail
  refine HK.out.mono ?_
  rintro e w2 ⟨rfl, hb⟩
  have HB2 := Lib.hid (HB.out.trans (hb.mono (by simp)))
  clear hb
  go_wp2
  go_ret
  exact ⟨rfl, HB2.out.alloc HB2.out.size _⟩
theorem iKeysInts_any (cs : List Value) (k : Keys) (w : World) (h : RKeys.rd w (Lt w.heap.size) cs k) (hn : k.list.length ≤ 1099511627776) :
    Calls Try.prog 38 #[.agg cs.toArray] w fun e w' => ∃ A' c', e = .returned (.slice A' (k.list.length + 2) c') ∧ Own .i64 w' w.heap.size w'.heap.size A' (k.list.length + 2) c' (keysInts k) ∧ Below w.heap.size w w' := by
  obtain ⟨A, n, c, rfl, h1, h2, h3, h4⟩ := RKeys_rd.1 h
  obtain ⟨l, kn⟩ := k
  simp only at h3 h4 hn ⊢
  have hl := h3.len
  rw [hl] at hn ⊢
  have HW : keysInts ⟨l, kn⟩ = [kn, (n : Int)] ++ l := by unfold keysInts; rw [hl]; rfl
  rw [HW]
  have h0 : Own .i64 ((w.alloc (.cells #[.slice A n c, .int .i64 kn] 27)).alloc (.cells #[.int .i64 kn, .int .i64 (n : Int)] 3)) (w.heap.size + 1) (w.heap.size + 1 + 1) (some ⟨w.heap.size + 1, 0, none⟩) 2 2 [kn, (n : Int)] :=
    own_lit .i64 _ (by simp) rfl rfl rfl (by
      intro z hz
      rcases List.mem_cons.1 hz with rfl | hz
      · exact h4
      · rw [List.mem_singleton.1 hz]
        exact inI64 (by omega) (by omega)) (by simp) (by simp [maxLen])
  have H0 := Lib.hid h0
  have H3 := Lib.hid (h3.alloc (Nat.le_refl _) (.cells #[.slice A n c, .int .i64 kn] 27) |>.alloc (by simp) (.cells #[.int .i64 kn, .int .i64 (n : Int)] 3))
  have HB := Lib.hid ((Below.refl w.heap.size w).alloc (Nat.le_refl _) (.cells #[.slice A n c, .int .i64 kn] 27) |>.alloc (by simp) (.cells #[.int .i64 kn, .int .i64 (n : Int)] 3))
  clear h h3 h4 hl h0 HW h1 h2
  go_enter Try.func38, Try.ntmps38
  go_wp2_with (at_builtin; refine wp_app (k := .i64) (by unfold BI; decide) rfl _ _ rfl rfl H0.out rfl H3.out (by omega) (by simp) ?_; intro A2 c2 w2 hown hgr)
  have HO := Lib.hid hown
  have HB2 := Lib.hid (HB.out.trans (hgr.below (by simp; omega) (fun a e => by injection e with e; subst e; simp)))
  clear hown hgr
  rw [show n + 2 = 2 + n by omega]
  go_wp2
  go_ret
  exact ⟨A2, c2, rfl, HO.out.base (by omega), HB2.out⟩
end Go.Proofs.Ythhmhcmlbpdlbaa.C06I
