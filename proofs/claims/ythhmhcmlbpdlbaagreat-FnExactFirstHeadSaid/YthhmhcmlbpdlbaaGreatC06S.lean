/- Chapter 6: what the functions on sets of keys return. -/
import Derived.Test.YthhmhcmlbpdlbaaGreatM06
import Derived.Test.YthhmhcmlbpdlbaaGreatC03H
import Derived.RegionTactic
import Derived.IntWalk
import Derived.BigQuiet
import Derived.Deep.QuietTactic
namespace Go.Proofs.YthhmhcmlbpdlbaaGreat.C06S
open Go.RowKit Mem MemS Rep R06 M03 M06 C01 C03S C03D
set_option linter.unusedVariables false
set_option maxRecDepth 100000
theorem same_drewN {w w' : World} (h : Same w w') (n : Nat) : Same w (w'.drewN n) := ⟨h.os, h.tape, h.output, h.heap⟩
/-- '[]T{..}' -/
theorem own_lit (k : IntKind) (w : World) {lo b n : Nat} {zs : List Int} {cs : Array Value} {ty : TypeId} (hb : b = w.heap.size) (hc : cs = (zs.map (Value.int k)).toArray) (hty : ty = ety k) (hn : zs.length = n) (hz : ∀ z ∈ zs, In k z) (hl : lo ≤ w.heap.size) (hm : n ≤ maxLen) :
    Own k (w.alloc (.cells cs ty)) lo (b + 1) (some ⟨b, 0, none⟩) n n zs := by
  subst hb hc hty hn
  exact ⟨rfl, hz, by have := World.ownsRow_lit (base := lo) (e := ety k) (size := 1) w (zs.map (Value.int k)).toArray zs.length hl hm (by simp); simpa using this, fun a e => by injection e with e; subst e; simp⟩
theorem inI64 {z : Int} (h0 : -9223372036854775808 ≤ z) (h1 : z ≤ 9223372036854775807) : In .i64 z := ⟨h0, h1⟩
theorem sHas_any (B : Nat) (A : Option Addr) (n c : Nat) (l : List Int) (key : Int) (w : World) (h : Rd .i64 w B A n l) (hn : n ≤ 1099511627776) :
    Calls Tryz.prog 157 #[.slice A n c, .int .i64 key] w fun e w' => e = .returned (.bool (hasK l key)) ∧ w = w' := by
  have HL := Lib.hid h.len
  go_enter Tryz.func157, Tryz.ntmps157
  go_wp2
  go_loop [5] (fun i => ∃ j : Nat, j ≤ n ∧ i = .int .i64 j ∧ ∀ k, k < j → l.getD k 0 ≠ key) (fun i => n - (intOf i).toNat)
  case atStart => exact ⟨0, by omega, rfl, fun k hk => absurd hk (by omega)⟩
  case round =>
    obtain ⟨j, hj, rfl, hf⟩ := hrel
    have HF := Lib.hid hf
    clear hf
    by_cases hjn : j < n
    · obtain ⟨b, off, rfl, hlt, hc⟩ := h.cells (by omega)
      have hcj := hc j hjn
      have HX := Lib.hid (show ∀ x : Int, l.getD j 0 = x → j < l.length from fun _ _ => by rw [HL.out]; exact hjn)
      generalize hx : l.getD j 0 = x at hcj
      have HE := Lib.hid hx
      clear hc hx h
      by_cases hk : x = key
      · subst hk
        have HR := Lib.hid (hasK_at (HX.out _ HE.out) HE.out)
        go_wp2
        go_ret
        exact ⟨by rw [HR.out]; rfl, rfl⟩
      · have hkb : (x == key) = false := beq_eq_false_iff_ne.2 hk
        have HK := Lib.hid hk
        clear hk
        go_wp2
        go_round
        case rel => exact ⟨j + 1, by omega, by go_num, fun k hk => by
          rcases Nat.lt_or_ge k j with h1 | h1
          · exact HF.out k h1
          · obtain rfl : k = j := by omega
            rw [HE.out]
            exact HK.out⟩
        case measure => simp [intOf]; omega
    · have HR := Lib.hid (hasK_none (l := l) (key := key) fun j' hj' => HF.out j' (by have := HL.out; omega))
      clear h
      go_wp2
      go_ret
      exact ⟨by rw [HR.out]; rfl, rfl⟩
set_option maxHeartbeats 1000000 in
theorem sIsKeys_any (cs : List Value) (k : Keys) (w : World) (h : RKeys.rd w (Lt w.heap.size) cs k) (hn : k.list.length ≤ 1099511627776) :
    Calls Tryz.prog 87 #[.agg cs.toArray] w fun e w' => e = .returned (.bool (isKeys k)) ∧ Below w.heap.size w w' := by
  obtain ⟨A, n, c, rfl, h1, h2, h3, h4⟩ := RKeys_rd.1 h
  obtain ⟨l, kn⟩ := k
  simp only at h3 h4 hn
  have hl := h3.len
  rw [hl] at hn
  have HL := Lib.hid hl
  have H3 := Lib.hid (h3.alloc (Nat.le_refl _) (.cells #[.slice A n c, .int .i64 kn] 26))
  have HB := Lib.hid ((Below.refl w.heap.size w).alloc (Nat.le_refl _) (.cells #[.slice A n c, .int .i64 kn] 26))
  clear h h3 h4 hl h1 h2
  go_enter Tryz.func87, Tryz.ntmps87
  go_wp2
  go_loopw [3] (fun i wr => ∃ j : Nat, j ≤ n ∧ i = .int .i64 j ∧ (∀ k, k < j → okAt l k = true) ∧ Same (w.alloc (.cells #[.slice A n c, .int .i64 kn] 26)) wr) (fun i _ => n - (intOf i).toNat)
  case atStart => exact ⟨0, by omega, rfl, fun k hk => absurd hk (by omega), Same.refl _⟩
  case round =>
    obtain ⟨j, hj, rfl, hf, hsm⟩ := hrel
    have HF := Lib.hid hf
    have HS := Lib.hid hsm
    have hbx : ∀ o, wr.cell? ⟨w.heap.size, o, none⟩ = (w.alloc (.cells #[.slice A n c, .int .i64 kn] 26)).cell? ⟨w.heap.size, o, none⟩ := fun o => by simp [World.cell?, hsm.heap]
    have hc0 := hbx 0
    have hc1 := hbx 1
    rw [World.cell?_alloc_at _ _ _ _ rfl] at hc0 hc1
    simp at hc0 hc1
    have HR := Lib.hid (H3.out.same hsm)
    clear hf hsm hbx
    by_cases hjn : j < n
    · obtain ⟨b, off, rfl, hlt, hcc⟩ := HR.out.cells (by omega)
      have hcj := hcc j hjn
      have hjl : j < l.length := by rw [HL.out]; exact hjn
      rcases hin : inR (l.getD j 0) 1 99 with _ | _
      · have HP := Lib.hid (isKeys_bad (k := ⟨l, kn⟩) (isK_bad hjl (show okAt l j = false by unfold okAt; rw [hin]; rfl)))
        have hK := fun w => l1In_any (l.getD j 0) 1 99 w
        rw [hin] at hK
        generalize l.getD j 0 = x at hcj hK
        have HK := Lib.hid hK
        clear hcc hin hK hjl
        go_wp2_with fail
        go_quiet ((go_at_call 39; exact Calls.quiet_of_same ((HK.out _).mono fun e w' h => ⟨h.1, h.2.symm⟩)))
        go_wp2
        go_ret
        exact ⟨by rw [HP.out]; rfl, HB.out.trans ((same_drewN HS.out nq).below _)⟩
      · have hK := fun w => l1In_any (l.getD j 0) 1 99 w
        rw [hin] at hK
        have HK0 := Lib.hid hK
        rcases Nat.eq_zero_or_pos j with h0 | h0
        · have HO := Lib.hid (show okAt l j = true by unfold okAt; rw [hin, decide_eq_true h0]; rfl)
          have hg : decide (0 < j) = false := decide_eq_false (by omega)
          have HZ := Lib.hid h0
          generalize l.getD j 0 = x at hcj HK0
          have HK := Lib.hid HK0.out
          clear hcc hin hK hjl HK0 h0
          go_wp2_with fail
          go_quiet ((go_at_call 39; exact Calls.quiet_of_same ((HK.out _).mono fun e w' h => ⟨h.1, h.2.symm⟩)))
          go_wp2
          go_roundw
          case rel => exact ⟨j + 1, by omega, by go_num, fun k hk => by obtain rfl : k = j := by have := HZ.out; omega
                                                                        exact HO.out, same_drewN HS.out nq⟩
          case measure => simp [intOf]; omega
        · have hcp := hcc (j - 1) (by omega)
          have hg : decide ((0 : Int) < (j : Int)) = true := by simp; omega
          have hj0 : (0 : Int) < (j : Int) := by omega
          by_cases hlt2 : l.getD (j - 1) 0 < l.getD j 0
          · have HO := Lib.hid (show okAt l j = true by unfold okAt; rw [hin, decide_eq_true hlt2]; simp)
            generalize l.getD j 0 = x at hcj HK0 hlt2
            generalize l.getD (j - 1) 0 = y at hcp hlt2
            have HK := Lib.hid HK0.out
            have hge : ¬ x ≤ y := by omega
            have hi0 : (0 : Int) ≤ (j : Int) - 1 := by omega
            have hi1 : (j : Int) - 1 < n := by omega
            have hi2 : ((j : Int) - 1).toNat = j - 1 := by omega
            have hw : IntKind.i64.wrap ((j : Int) - 1) = (j : Int) - 1 := IntWalk.i64_in _ (by omega)
            clear hcc hin hK hjl HK0 hlt2
            go_wp2_with fail
            go_quiet ((go_at_call 39; exact Calls.quiet_of_same ((HK.out _).mono fun e w' h => ⟨h.1, h.2.symm⟩)))
            clear hw hi2
            go_wp2
            go_roundw
            case rel => exact ⟨j + 1, by omega, by go_num, fun k hk => by
              rcases Nat.lt_or_ge k j with h1 | h1
              · exact HF.out k h1
              · obtain rfl : k = j := by omega
                exact HO.out, same_drewN HS.out nq⟩
            case measure => simp [intOf]; omega
          · have HP := Lib.hid (isKeys_bad (k := ⟨l, kn⟩) (isK_bad hjl (show okAt l j = false by unfold okAt; rw [hin, decide_eq_false hlt2, decide_eq_false (by omega : ¬ j = 0)]; rfl)))
            generalize l.getD j 0 = x at hcj HK0 hlt2
            generalize l.getD (j - 1) 0 = y at hcp hlt2
            have HK := Lib.hid HK0.out
            have hge : x ≤ y := by omega
            have hi0 : (0 : Int) ≤ (j : Int) - 1 := by omega
            have hi1 : (j : Int) - 1 < n := by omega
            have hi2 : ((j : Int) - 1).toNat = j - 1 := by omega
            have hw : IntKind.i64.wrap ((j : Int) - 1) = (j : Int) - 1 := IntWalk.i64_in _ (by omega)
            clear hcc hin hK hjl HK0 hlt2
            go_wp2_with fail
            go_quiet ((go_at_call 39; exact Calls.quiet_of_same ((HK.out _).mono fun e w' h => ⟨h.1, h.2.symm⟩)))
            clear hw hi2
            go_wp2
            go_ret
            exact ⟨by rw [HP.out]; rfl, HB.out.trans ((same_drewN HS.out nq).below _)⟩
    · obtain rfl : j = n := by omega
      have hK : isKeys ⟨l, kn⟩ = (inR (j : Int) 1 4 && inR kn 1 (j : Int)) := by
        rw [isKeys_ok (k := ⟨l, kn⟩) (isK_all fun i hi => HF.out i (by have h5 := HL.out; have h6 : i < l.length := hi; omega))]
        simp only
        rw [HL.out]
      rcases h14 : inR (j : Int) 1 4 with _ | _
      · have HP := Lib.hid (show isKeys ⟨l, kn⟩ = false by rw [hK, h14]; rfl)
        have hK1 := fun w => l1In_any (j : Int) 1 4 w
        rw [h14] at hK1
        have HK1 := Lib.hid hK1
        clear hK hK1 h14 hjn
        go_wp2_with fail
        refine (HK1.out _).mono ?_
        rintro e w1 ⟨rfl, rfl⟩
        go_wp2
        go_ret
        exact ⟨by rw [HP.out]; rfl, HB.out.trans (HS.out.below _)⟩
      · have HP := Lib.hid (show isKeys ⟨l, kn⟩ = inR kn 1 (j : Int) by rw [hK, h14]; rfl)
        have hK1 := fun w => l1In_any (j : Int) 1 4 w
        rw [h14] at hK1
        have HK1 := Lib.hid hK1
        clear hK hK1 h14 hjn
        go_wp2_with fail
        refine (HK1.out _).mono ?_
        rintro e w1 ⟨rfl, rfl⟩
        go_wp2_with fail
        refine (l1In_any kn 1 (j : Int) _).mono ?_
        rintro e w1 ⟨rfl, rfl⟩
        go_wp2
        go_ret
        exact ⟨by rw [HP.out]; rfl, HB.out.trans (HS.out.below _)⟩
theorem sKeysInts_any (cs : List Value) (k : Keys) (w : World) (h : RKeys.rd w (Lt w.heap.size) cs k) (hn : k.list.length ≤ 1099511627776) :
    Calls Tryz.prog 57 #[.agg cs.toArray] w fun e w' => ∃ A' c', e = .returned (.slice A' (k.list.length + 2) c') ∧ Own .i64 w' w.heap.size w'.heap.size A' (k.list.length + 2) c' (keysInts k) ∧ Below w.heap.size w w' := by
  obtain ⟨A, n, c, rfl, h1, h2, h3, h4⟩ := RKeys_rd.1 h
  obtain ⟨l, kn⟩ := k
  simp only at h3 h4 hn ⊢
  have hl := h3.len
  rw [hl] at hn ⊢
  have HW : keysInts ⟨l, kn⟩ = [kn, (n : Int)] ++ l := by unfold keysInts; rw [hl]; rfl
  rw [HW]
  have h0 : Own .i64 ((w.alloc (.cells #[.slice A n c, .int .i64 kn] 26)).alloc (.cells #[.int .i64 kn, .int .i64 (n : Int)] 3)) (w.heap.size + 1) (w.heap.size + 1 + 1) (some ⟨w.heap.size + 1, 0, none⟩) 2 2 [kn, (n : Int)] :=
    own_lit .i64 _ (by simp) rfl rfl rfl (by
      intro z hz
      rcases List.mem_cons.1 hz with rfl | hz
      · exact h4
      · rw [List.mem_singleton.1 hz]
        exact inI64 (by omega) (by omega)) (by simp) (by simp [maxLen])
  have H0 := Lib.hid h0
  have H3 := Lib.hid (h3.alloc (Nat.le_refl _) (.cells #[.slice A n c, .int .i64 kn] 26) |>.alloc (by simp) (.cells #[.int .i64 kn, .int .i64 (n : Int)] 3))
  have HB := Lib.hid ((Below.refl w.heap.size w).alloc (Nat.le_refl _) (.cells #[.slice A n c, .int .i64 kn] 26) |>.alloc (by simp) (.cells #[.int .i64 kn, .int .i64 (n : Int)] 3))
  clear h h3 h4 hl h0 HW h1 h2
  go_enter Tryz.func57, Tryz.ntmps57
  go_wp2_with (at_builtin; refine wp_app (k := .i64) (by unfold BI; decide) rfl _ _ rfl rfl H0.out rfl H3.out (by omega) (by simp) ?_; intro A2 c2 w2 hown hgr)
  have HO := Lib.hid hown
  have HB2 := Lib.hid (HB.out.trans (hgr.below (by simp; omega) (fun a e => by injection e with e; subst e; simp)))
  clear hown hgr
  rw [show n + 2 = 2 + n by omega]
  go_wp2
  go_ret
  exact ⟨A2, c2, rfl, HO.out.base (by omega), HB2.out⟩
theorem sEqualKeys_any (cs cs' : List Value) (a b : Keys) (w : World) (h : RKeys.rd w (Lt w.heap.size) cs a) (h' : RKeys.rd w (Lt w.heap.size) cs' b) (hn : a.list.length ≤ 1099511627776) :
    Calls Tryz.prog 11 #[.agg cs.toArray, .agg cs'.toArray] w fun e w' => e = .returned (.bool (eqKeysB a b)) ∧ Below w.heap.size w w' := by
  obtain ⟨A, n, c, rfl, h1, h2, h3, h4⟩ := RKeys_rd.1 h
  obtain ⟨A', n', c', rfl, h1', h2', h3', h4'⟩ := RKeys_rd.1 h'
  obtain ⟨l, kn⟩ := a
  obtain ⟨l', kn'⟩ := b
  simp only at h3 h3' h4 h4' hn
  rw [h3.len] at hn
  have HB := Lib.hid ((Below.refl w.heap.size w).alloc (Nat.le_refl _) (.cells #[.slice A n c, .int .i64 kn] 26) |>.alloc (by simp) (.cells #[.slice A' n' c', .int .i64 kn'] 26))
  have H3 := Lib.hid (h3.below HB.out (Nat.le_refl _))
  have H3' := Lib.hid (h3'.below HB.out (Nat.le_refl _))
  clear h h' h3 h3' h4 h4' h1 h2 h1' h2'
  by_cases hk : kn = kn'
  · have HE := Lib.hid (show eqKeysB ⟨l, kn⟩ ⟨l', kn'⟩ = decide (l = l') by unfold eqKeysB; rw [decide_eq_true hk]; rfl)
    rw [HE.out]
    subst hk
    go_enter Tryz.func11, Tryz.ntmps11
    go_wp2_with fail
    refine (sEqualInts_any _ _ A A' n c n' c' l l' _ H3.out H3'.out hn).mono ?_
    rintro e w1 ⟨rfl, hs⟩
    have HB2 := Lib.hid (HB.out.trans (hs.below _))
    clear hs
    go_wp2
    go_ret
    exact ⟨rfl, HB2.out⟩
  · have HE := Lib.hid (show eqKeysB ⟨l, kn⟩ ⟨l', kn'⟩ = false by unfold eqKeysB; rw [decide_eq_false hk]; rfl)
    rw [HE.out]
    have hkb : (kn == kn') = false := beq_eq_false_iff_ne.2 hk
    clear hk
    go_enter Tryz.func11, Tryz.ntmps11
    go_wp2
    go_ret
    exact ⟨rfl, HB.out⟩
end Go.Proofs.YthhmhcmlbpdlbaaGreat.C06S
