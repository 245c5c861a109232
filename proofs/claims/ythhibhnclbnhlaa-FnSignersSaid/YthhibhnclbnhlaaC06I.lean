/- Chapter 6: what the program's functions return. -/
import Derived.Deep.RegionHeld3
import Derived.Test.YthhibhnclbnhlaaC06C
namespace Go.Proofs.Ythhibhnclbnhlaa.C06I
open Go.RowKit Mem MemS Rep R06 M03 M06 C01 C03S C03D C03H C06S C06A C06B C06C
set_option linter.unusedVariables false
set_option maxRecDepth 100000
theorem arrK_cells (k : Keys) : ∃ a0 a1 a2 a3 a4 : Int, arrK k = [.int .i64 a0, .int .i64 a1, .int .i64 a2, .int .i64 a3, .int .i64 a4] := by
  unfold arrK
  cases isKeys k <;> exact ⟨_, _, _, _, _, rfl⟩
theorem iHasKey_any (cs : List Value) (k : Keys) (key : Int) (w : World) (h : RKeys.rd w (Lt w.heap.size) cs k) (hn : k.list.length ≤ 1099511627776) :
    Calls Try.prog 17 #[.agg cs.toArray, .int .i64 key] w fun e w' => e = .returned (.bool (hasK k.list key)) ∧ Below w.heap.size w w' := by
  obtain ⟨A, n, c, rfl, h1, h2, h3, h4⟩ := RKeys_rd.1 h
  have hl := h3.len
  have H3 := Lib.hid h3
  generalize k.need = kn
  clear h h3 h4
  go_enter Try.func17, Try.ntmps17
  go_wp2_with fail
  refine (contains_any _ A n c k.list key _ (H3.out.alloc (Nat.le_refl _) _) (by omega)).mono ?_
  rintro e w1 ⟨rfl, rfl⟩
  go_wp2
  go_ret
  exact ⟨rfl, (Below.refl _ _).alloc (Nat.le_refl _) _⟩
set_option maxHeartbeats 1000000 in
theorem iIsKeys_any (cs : List Value) (k : Keys) (w : World) (h : RKeys.rd w (Lt w.heap.size) cs k) (hn : k.list.length ≤ 1099511627776) :
    Calls Try.prog 16 #[.agg cs.toArray] w fun e w' => e = .returned (.bool (isKeys k)) ∧ Below w.heap.size w w' := by
  have hcl : ∃ v0 v1, cs = [v0, v1] := by
    obtain ⟨A, n, c, e, _⟩ := RKeys_rd.1 h
    exact ⟨_, _, e⟩
  obtain ⟨v0, v1, rfl⟩ := hcl
  have HB := Lib.hid ((Below.refl w.heap.size w).alloc (Nat.le_refl _) (.cells #[v0, v1] 26))
  have H := Lib.hid (RKeys.more (RKeys.keep h fun i hi => HB.out.block i hi) (P' := Lt (w.alloc (.cells #[v0, v1] 26)).heap.size) fun i hi => Nat.lt_of_lt_of_le hi HB.out.size)
  clear h
  have hk := keyArrayOf_any [v0, v1] k _ H.out hn
  obtain ⟨a0, a1, a2, a3, a4, ha⟩ := arrK_cells k
  rw [ha] at hk
  have HK := Lib.hid hk
  clear hk ha
  go_enter Try.func16, Try.ntmps16
  go_wp2_with fail
  refine HK.out.mono ?_
  rintro e w2 ⟨rfl, hb⟩
  have HB2 := Lib.hid (HB.out.trans (hb.mono (by simp)))
  clear hb
  go_wp2
  go_ret
  exact ⟨rfl, HB2.out.alloc HB2.out.size _⟩
theorem iOneKey_any (key : Int) (w : World) (hk : In .i64 key) :
    Calls Try.prog 25 #[.int .i64 key] w fun e w' => ∃ cs, e = .returned (.agg (List.toArray cs)) ∧ OwnI RKeys w' w.heap.size w'.heap.size cs (oneKey key) ∧ Below w.heap.size w w' := by
  have HO := Lib.hid fun o => (own_lit .i64 (w.alloc o) (b := w.heap.size + 1) (cs := #[.int .i64 key]) (ty := 3) (zs := [key]) (n := 1) (lo := w.heap.size + 1) (by simp) rfl rfl rfl (by intro z hz; rw [List.mem_singleton.1 hz]; exact hk) (by simp) (by simp [maxLen]))
  have HI := Lib.hid hk
  clear hk
  go_enter Try.func25, Try.ntmps25
  go_wp2
  refine bodyPost_ret (v := .agg #[.slice (some ⟨w.heap.size + 1, 0, none⟩) 1 1, .int .i64 1]) (by simp [results, Try.results25, go_sem]) rfl ⟨[.slice (some ⟨w.heap.size + 1, 0, none⟩) 1 1, .int .i64 1], rfl, ?_, ?_⟩
  · exact RKeys_own.2 ⟨_, 1, 1, rfl, (HO.out _).top.base (by omega), inI64 (by simp [oneKey]) (by simp [oneKey])⟩
  · exact ((Below.refl _ _).alloc (Nat.le_refl _) _).alloc (by simp) _
set_option maxHeartbeats 1000000 in
theorem iCanSign_any (cs : List Value) (k : Keys) (A2 : Option Addr) (m c2 : Nat) (held : List Int) (w : World) (h : RKeys.rd w (Lt w.heap.size) cs k) (h2 : Rd .i64 w w.heap.size A2 m held) (hn : k.list.length ≤ 1099511627776) (hm : m ≤ 1099511627776) :
    Calls Try.prog 15 #[.agg cs.toArray, .slice A2 m c2] w fun e w' => e = .returned (.bool (canSign k held)) ∧ Below w.heap.size w w' := by
  obtain ⟨A, n, c, rfl, h1, h2', h3, h4⟩ := RKeys_rd.1 h
  obtain ⟨l, kn⟩ := k
  simp only at h3 h4 hn
  obtain ⟨hl, hin, _⟩ := h3
  rw [hl] at hn
  have HL := Lib.hid hl
  have HIN := Lib.hid hin
  have HB := Lib.hid ((Below.refl w.heap.size w).alloc (Nat.le_refl _) (.cells #[.slice A n c, .int .i64 kn] 26))
  have HX := Lib.hid (show Box (w.alloc (.cells #[.slice A n c, .int .i64 kn] 26)) w.heap.size [.slice A n c, .int .i64 kn] from by
    have := Box.new w #[.slice A n c, .int .i64 kn] 26
    simpa using this)
  have H2 := Lib.hid (h2.below HB.out (Nat.le_refl _))
  have HK := Lib.hid (RKeys.more (RKeys.keep h fun i hi => HB.out.block i hi) (P' := Lt (w.alloc (.cells #[.slice A n c, .int .i64 kn] 26)).heap.size) fun i hi => Nat.lt_of_lt_of_le hi HB.out.size)
  have HE := Lib.hid (show canSign ⟨l, kn⟩ held = (isKeys ⟨l, kn⟩ && decide (kn ≤ (cntK held l : Int))) from rfl)
  clear h h2 h4 h1 h2' hin
  have hk := keyArrayOf_any _ _ _ HK.out (by simp only; omega)
  rcases hik : isKeys ⟨l, kn⟩ with _ | _
  · rw [hik] at hk HE
    obtain ⟨a0, a1, a2, a3, a4, ha⟩ := arrK_cells ⟨l, kn⟩
    rw [ha] at hk
    have HK2 := Lib.hid hk
    have HE2 := Lib.hid HE.out
    clear hk ha hik HE hl HX
    go_enter Try.func15, Try.ntmps15
    go_wp2_with fail
    refine HK2.out.mono ?_
    rintro e w2 ⟨rfl, hb⟩
    have HB2 := Lib.hid (HB.out.trans (hb.mono (by simp)))
    clear hb
    go_wp2_with fail
    go_quiet ((fail))
    go_wp2
    go_ret
    exact ⟨by rw [HE2.out]; rfl, (HB2.out.alloc HB2.out.size _).trans ((same_drewN (Same.refl _) nq).below _)⟩
  · have ha : arrK ⟨l, kn⟩ = arr5 l n := by
      unfold arrK
      rw [hik, ← hl]
      rfl
    have hn4 : n ≤ 4 := by
      have h5 := hik
      unfold isKeys at h5
      simp only [Bool.and_eq_true] at h5
      have h6 := inR_iff.1 h5.2.1
      have h7 := h6.2
      rw [hl] at h7
      omega
    rw [hik, ha] at hk
    rw [hik] at HE
    have HK2 := Lib.hid hk
    have HE2 := Lib.hid HE.out
    have hci := fun W (hr : Rd .i64 W W.heap.size A2 m held) => countIn_any l n A2 m c2 held W hl hn4 HIN.out hr hm
    unfold arr5 at HK2 hci
    generalize cz l n 0 = a0 at HK2 hci
    generalize cz l n 1 = a1 at HK2 hci
    generalize cz l n 2 = a2 at HK2 hci
    generalize cz l n 3 = a3 at HK2 hci
    generalize cntK held l = q at HE2 hci
    have HC := Lib.hid hci
    clear hk ha hik HE hl hci HIN HL HK hn4
    go_enter Try.func15, Try.ntmps15
    go_wp2_with fail
    refine HK2.out.mono ?_
    rintro e w2 ⟨rfl, hb⟩
    have HB2 := Lib.hid ((HB.out.trans (hb.mono (by simp))).alloc (Nat.le_trans (by simp) hb.size) (.cells #[.int .i64 a0, .int .i64 a1, .int .i64 a2, .int .i64 a3, .int .i64 n] 77))
    have HXk := Lib.hid ((HX.out.below hb (by simp)).alloc (.cells #[.int .i64 a0, .int .i64 a1, .int .i64 a2, .int .i64 a3, .int .i64 n] 77))
    have HXa := Lib.hid (show Box (w2.alloc (.cells #[.int .i64 a0, .int .i64 a1, .int .i64 a2, .int .i64 a3, .int .i64 n] 77)) w2.heap.size [.int .i64 a0, .int .i64 a1, .int .i64 a2, .int .i64 a3, .int .i64 n] from by
      have := Box.new w2 #[.int .i64 a0, .int .i64 a1, .int .i64 a2, .int .i64 a3, .int .i64 n] 77
      simpa using this)
    have H22 := Lib.hid ((H2.out.below hb (by simp)).alloc (Nat.le_trans (by simp) hb.size) (.cells #[.int .i64 a0, .int .i64 a1, .int .i64 a2, .int .i64 a3, .int .i64 n] 77))
    clear hb
    go_wp2_with fail
    generalize hW : w2.alloc (.cells #[.int .i64 a0, .int .i64 a1, .int .i64 a2, .int .i64 a3, .int .i64 n] 77) = W at HB2 HXk HXa H22
    have c0 := HXa.out.cell (j := 0) rfl
    have c1 := HXa.out.cell (j := 1) rfl
    have c2' := HXa.out.cell (j := 2) rfl
    have c3 := HXa.out.cell (j := 3) rfl
    have c4 := HXa.out.cell (j := 4) rfl
    have k1 := HXk.out.cell (j := 1) rfl
    have HW := Lib.hid hW
    clear hW
    have HD := Lib.hid (show Rd .i64 W.drew W.drew.heap.size A2 m held from (H22.out.more HB2.out.size).keep fun i hi => rfl)
    go_region_held3 (fun w' => w'.cell? ⟨w2.heap.size, 0, none⟩ = some (.int .i64 a0) ∧ w'.cell? ⟨w2.heap.size, 1, none⟩ = some (.int .i64 a1) ∧ w'.cell? ⟨w2.heap.size, 2, none⟩ = some (.int .i64 a2) ∧ w'.cell? ⟨w2.heap.size, 3, none⟩ = some (.int .i64 a3) ∧ w'.cell? ⟨w2.heap.size, 4, none⟩ = some (.int .i64 n) ∧ w'.cell? ⟨w.heap.size, 1, none⟩ = some (.int .i64 kn)) (first | exact ⟨c0, c1, c2', c3, c4, k1⟩ | exact ⟨d0, d1, d2, d3, d4, g1⟩) ((first
      | (go_at_call 56; refine (HC.out _ HD.out).mono ?_; rintro e w4 ⟨rfl, hb4⟩; have HB4 := Lib.hid (below_drew hb4); have HXa4 := Lib.hid (HXa.out.below HB4.out HXa.out.lt); have HXk4 := Lib.hid (HXk.out.below HB4.out HXk.out.lt); have d0 := HXa4.out.cell (j := 0) rfl; have d1 := HXa4.out.cell (j := 1) rfl; have d2 := HXa4.out.cell (j := 2) rfl; have d3 := HXa4.out.cell (j := 3) rfl; have d4 := HXa4.out.cell (j := 4) rfl; have g1 := HXk4.out.cell (j := 1) rfl; clear hb4)))
    clear c0 c1 c2' c3 c4 k1
    go_wp2
    go_ret
    exact ⟨by rw [HE2.out]; rfl, HB2.out.trans (HB4.out.mono HB2.out.size)⟩
end Go.Proofs.Ythhibhnclbnhlaa.C06I
