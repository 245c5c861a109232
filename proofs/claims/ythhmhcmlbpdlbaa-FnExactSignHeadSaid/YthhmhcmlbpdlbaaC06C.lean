/- Chapter 6: a set of keys read into an array with a count. -/
import Derived.Test.YthhmhcmlbpdlbaaC06B
namespace Go.Proofs.Ythhmhcmlbpdlbaa.C06C
open Go.RowKit Mem MemS Rep R06 M03 M06 C01 C03S C03D C03H C06S C06A C06B
set_option linter.unusedVariables false
set_option maxRecDepth 100000
theorem inR_iff {n a b : Int} : inR n a b = true ↔ a ≤ n ∧ n ≤ b := by unfold inR; simp
/-- what comes back: the keys and their number where the set is valid, else zeros -/
def arrK (k : Keys) : List Value := if isKeys k then arr5 k.list k.list.length else arr5 [] 0
set_option maxHeartbeats 2000000 in
theorem keyArrayOf_any (cs : List Value) (k : Keys) (w : World) (h : RKeys.rd w (Lt w.heap.size) cs k) (hn : k.list.length ≤ 1099511627776) :
    Calls Try.prog 102 #[.agg cs.toArray] w fun e w' => e = .returned (.tuple #[.agg (arrK k).toArray, .bool (isKeys k)]) ∧ Below w.heap.size w w' := by
  obtain ⟨A, n, c, rfl, h1, h2, h3, h4⟩ := RKeys_rd.1 h
  obtain ⟨l, kn⟩ := k
  simp only at h3 h4 hn
  have hl := h3.len
  rw [hl] at hn
  have HL := Lib.hid hl
  have HB := Lib.hid (((Below.refl w.heap.size w).alloc (Nat.le_refl _) (.cells #[.slice A n c, .int .i64 kn] 27)).alloc (by simp) (.cells (arr5 [] 0).toArray 94))
  have HX := Lib.hid (show Box ((w.alloc (.cells #[.slice A n c, .int .i64 kn] 27)).alloc (.cells (arr5 [] 0).toArray 94)) (w.heap.size + 1) (arr5 [] 0) from by
    have := Box.new (w.alloc (.cells #[.slice A n c, .int .i64 kn] 27)) (arr5 [] 0).toArray 94
    simpa using this)
  have H3 := Lib.hid h3
  clear h h3 h4 hl h1 h2
  have hK : isKeys ⟨l, kn⟩ = (isK l && (inR (n : Int) 1 4 && inR kn 1 (n : Int))) := by
    unfold isKeys
    simp only
    rw [HL.out]
  rcases h14 : inR (n : Int) 1 4 with _ | _
  · have HP := Lib.hid (show isKeys ⟨l, kn⟩ = false by rw [hK, h14]; cases isK l <;> rfl)
    have HA := Lib.hid (show arrK ⟨l, kn⟩ = arr5 [] 0 by unfold arrK; rw [HP.out]; rfl)
    rw [HA.out, HP.out]
    have hK1 := fun w => inRange_any (n : Int) 1 4 w
    rw [h14] at hK1
    have HK1 := Lib.hid hK1
    clear hK hK1 h14
    go_enter Try.func102, Try.ntmps102
    go_wp2_with fail
    refine (HK1.out _).mono ?_
    rintro e w1 ⟨rfl, rfl⟩
    go_wp2
    exact bodyPost_ret (v := .tuple #[.agg (arr5 [] 0).toArray, .bool false]) (by simp [results, Try.results102, go_sem, arr5, cz]) rfl ⟨rfl, HB.out⟩
  · have hn4 := inR_iff.1 h14
    rcases hkn : inR kn 1 (n : Int) with _ | _
    · have HP := Lib.hid (show isKeys ⟨l, kn⟩ = false by rw [hK, h14, hkn]; cases isK l <;> rfl)
      have HA := Lib.hid (show arrK ⟨l, kn⟩ = arr5 [] 0 by unfold arrK; rw [HP.out]; rfl)
      rw [HA.out, HP.out]
      have hK1 := fun w => inRange_any (n : Int) 1 4 w
      rw [h14] at hK1
      have HK1 := Lib.hid hK1
      have hK2 := fun w => inRange_any kn 1 (n : Int) w
      rw [hkn] at hK2
      have HK2 := Lib.hid hK2
      clear hK hK1 h14 hK2 hkn
      go_enter Try.func102, Try.ntmps102
      go_wp2_with fail
      refine (HK1.out _).mono ?_
      rintro e w1 ⟨rfl, rfl⟩
      go_wp2_with fail
      refine (HK2.out _).mono ?_
      rintro e w1 ⟨rfl, rfl⟩
      go_wp2
      exact bodyPost_ret (v := .tuple #[.agg (arr5 [] 0).toArray, .bool false]) (by simp [results, Try.results102, go_sem, arr5, cz]) rfl ⟨rfl, HB.out⟩
    · have HP0 := Lib.hid (show isKeys ⟨l, kn⟩ = isK l by rw [hK, h14, hkn]; cases isK l <;> rfl)
      have hK1 := fun w => inRange_any (n : Int) 1 4 w
      rw [h14] at hK1
      have HK1 := Lib.hid hK1
      have hK2 := fun w => inRange_any kn 1 (n : Int) w
      rw [hkn] at hK2
      have HK2 := Lib.hid hK2
      clear hK hK1 h14 hK2 hkn
      have HX1 := Lib.hid (HX.out.alloc (.cells (arr5 l 0).toArray 94))
      have HX2 := Lib.hid (show Box (((w.alloc (.cells #[.slice A n c, .int .i64 kn] 27)).alloc (.cells (arr5 [] 0).toArray 94)).alloc (.cells (arr5 l 0).toArray 94)) (w.heap.size + 2) (arr5 l 0) from by
        have := Box.new ((w.alloc (.cells #[.slice A n c, .int .i64 kn] 27)).alloc (.cells (arr5 [] 0).toArray 94)) (arr5 l 0).toArray 94
        simpa using this)
      have HB3 := Lib.hid (HB.out.alloc (by simp; omega) (.cells (arr5 l 0).toArray 94))
      go_enter Try.func102, Try.ntmps102
      go_wp2_with fail
      refine (HK1.out _).mono ?_
      rintro e w1 ⟨rfl, rfl⟩
      go_wp2_with fail
      refine (HK2.out _).mono ?_
      rintro e w1 ⟨rfl, rfl⟩
      go_wp2
      go_loopw [5, 27] (fun v i wr => ∃ j : Nat, j ≤ n ∧ i = .int .i64 j ∧ v = .int .i64 (lstAt l j) ∧ (∀ k, k < j → okAt l k = true) ∧ Box wr (w.heap.size + 1) (arr5 [] 0) ∧ Box wr (w.heap.size + 2) (arr5 l j) ∧ Below w.heap.size w wr) (fun _ i _ => n - (intOf i).toNat)
      case atStart =>
        exact ⟨0, by omega, rfl, rfl, fun k hk => absurd hk (by omega), HX1.out, HX2.out, HB3.out⟩
      case round =>
        obtain ⟨j, hj, rfl, rfl, hf, hx1, hx2, hb⟩ := hrel
        have HF := Lib.hid hf
        have HX3 := Lib.hid hx1
        have HX4 := Lib.hid hx2
        have HB4 := Lib.hid hb
        have hr := H3.out.below hb (Nat.le_refl _)
        have HR := Lib.hid hr
        clear HX1 HX2 HB3 HX HB HK1 HK2
        by_cases hjn : j < n
        · obtain ⟨b, off, rfl, hlt, hcc⟩ := hr.cells (by omega)
          have hcj := hcc j hjn
          have hjl : j < l.length := by rw [HL.out]; exact hjn
          have hst := okAt_step hf
          have hK := fun w => inRange_any (l.getD j 0) (lstAt l j) 99 w
          rw [hst] at hK
          rcases hok : okAt l j with _ | _
          · have HP := Lib.hid (show isKeys ⟨l, kn⟩ = false by rw [HP0.out]; exact isK_bad hjl hok)
            have HA := Lib.hid (show arrK ⟨l, kn⟩ = arr5 [] 0 by unfold arrK; rw [HP.out]; rfl)
            rw [hok] at hK
            have HK := Lib.hid hK
            have z0 := hx1.cell (j := 0) rfl
            have z1 := hx1.cell (j := 1) rfl
            have z2 := hx1.cell (j := 2) rfl
            have z3 := hx1.cell (j := 3) rfl
            have z4 := hx1.cell (j := 4) rfl
            have y0 := hx1.warm (j := 0) rfl
            have y1 := hx1.warm (j := 1) rfl
            have y2 := hx1.warm (j := 2) rfl
            have y3 := hx1.warm (j := 3) rfl
            have y4 := hx1.warm (j := 4) rfl
            generalize l.getD j 0 = x at hcj HK
            generalize lstAt l j = q at HK
            clear hcc hr hf hx1 hx2 hb hst hK hok hjl
            go_wp2_with fail
            refine (HK.out _).mono ?_
            rintro e w1 ⟨rfl, rfl⟩
            go_wp2
            have hf5 := bx_five HX3.out rfl (.int .i64 0) (.int .i64 0) (.int .i64 0) (.int .i64 0) (.int .i64 0)
            have c0 := hf5.cell (j := 0) rfl
            have c1 := hf5.cell (j := 1) rfl
            have c2 := hf5.cell (j := 2) rfl
            have c3 := hf5.cell (j := 3) rfl
            have c4 := hf5.cell (j := 4) rfl
            refine bodyPost_ret (v := .tuple #[.agg (arr5 [] 0).toArray, .bool false]) (by simp [results, Try.results102, go_sem, c0, c1, c2, c3, c4, arr5, cz]) rfl ⟨by rw [HA.out, HP.out], ?_⟩
            exact bl_store (bl_store (bl_store (bl_store (bl_store HB4.out (by simp) _) (by simp) _) (by simp) _) (by simp) _) (by simp) _
          · rw [hok] at hK
            have HK := Lib.hid hK
            have htop := okAt_top hok
            have HS := Lib.hid (show lstAt l (j + 1) = l.getD j 0 + 1 by unfold lstAt; rw [if_neg (by omega)]; rfl)
            have HO := Lib.hid hok
            have HA5 := Lib.hid (arr5_step (l := l) (j := j) (by omega))
            have hj4 : j < 4 := by omega
            have y4 := hx2.cell (j := 4) rfl
            have y4' := hx2.warm (j := 4) rfl
            have yj : wr.frozen? ⟨w.heap.size + 2, j, none⟩ = false := by
              have e : j = 0 ∨ j = 1 ∨ j = 2 ∨ j = 3 := by omega
              rcases e with rfl | rfl | rfl | rfl <;> exact hx2.warm rfl
            have hzj : ∃ z : Int, wr.cell? ⟨w.heap.size + 2, j, none⟩ = some (.int .i64 z) := by
              have e : j = 0 ∨ j = 1 ∨ j = 2 ∨ j = 3 := by omega
              rcases e with rfl | rfl | rfl | rfl <;> exact ⟨_, hx2.cell rfl⟩
            obtain ⟨z, hzj⟩ := hzj
            generalize hxe : l.getD j 0 = x at hcj HK htop HS HA5
            generalize lstAt l j = q at HK
            clear hcc hr hf hx1 hx2 hb hst hK hok hjl hxe
            go_wp2_with fail
            refine (HK.out _).mono ?_
            rintro e w1 ⟨rfl, rfl⟩
            go_wp2
            have b2 := bx_set (bx_set HX4.out (j := j) (by simp [arr5]; omega) (.int .i64 x)) (j := 4) (by simp [arr5]) (.int .i64 ((j + 1 : Nat) : Int))
            rw [HA5.out] at b2
            refine ⟨⟨j + 1, by omega, by go_num, by rw [HS.out], fun k hk => ?_, bx_store (bx_store HX3.out (by simp) _) (by simp) _, b2, bl_store (bl_store HB4.out (by simp; omega) _) (by simp; omega) _⟩, by simp [intOf]; omega⟩
            rcases Nat.lt_or_ge k j with h9 | h9
            · exact HF.out k h9
            · obtain rfl : k = j := by omega
              exact HO.out
        · obtain rfl : j = n := by omega
          have hisK : isK l = true := isK_all fun j' hj' => hf j' (by rw [← HL.out]; exact hj')
          have HP := Lib.hid (show isKeys ⟨l, kn⟩ = true by rw [HP0.out]; exact hisK)
          have HA := Lib.hid (show arrK ⟨l, kn⟩ = arr5 l j by unfold arrK; rw [HP.out, HL.out]; rfl)
          have z0 := hx2.cell (j := 0) rfl
          have z1 := hx2.cell (j := 1) rfl
          have z2 := hx2.cell (j := 2) rfl
          have z3 := hx2.cell (j := 3) rfl
          have z4 := hx2.cell (j := 4) rfl
          have y0 := hx1.warm (j := 0) rfl
          have y1 := hx1.warm (j := 1) rfl
          have y2 := hx1.warm (j := 2) rfl
          have y3 := hx1.warm (j := 3) rfl
          have y4 := hx1.warm (j := 4) rfl
          have x0 := hx1.cell (j := 0) rfl
          have x1 := hx1.cell (j := 1) rfl
          have x2 := hx1.cell (j := 2) rfl
          have x3 := hx1.cell (j := 3) rfl
          have x4 := hx1.cell (j := 4) rfl
          clear hisK hf hx1 hx2 hb hr
          go_wp2
          have hf5 := bx_five HX3.out rfl (.int .i64 (cz l j 0)) (.int .i64 (cz l j 1)) (.int .i64 (cz l j 2)) (.int .i64 (cz l j 3)) (.int .i64 j)
          have c0 := hf5.cell (j := 0) rfl
          have c1 := hf5.cell (j := 1) rfl
          have c2 := hf5.cell (j := 2) rfl
          have c3 := hf5.cell (j := 3) rfl
          have c4 := hf5.cell (j := 4) rfl
          refine bodyPost_ret (v := .tuple #[.agg (arr5 l j).toArray, .bool true]) (by simp [results, Try.results102, go_sem, c0, c1, c2, c3, c4, arr5]) rfl ⟨by rw [HA.out, HP.out], ?_⟩
          exact bl_store (bl_store (bl_store (bl_store (bl_store HB4.out (by simp) _) (by simp) _) (by simp) _) (by simp) _) (by simp) _
end Go.Proofs.Ythhmhcmlbpdlbaa.C06C
