/- Chapter 6: membership by the library; a valid set as an array with a count. Chapter 6: a set of keys read into an array with a count; how many of its keys are held. Chapter 6: a set of keys read into an array with a count. Chapter 6: what the program's functions return. -/
import Derived.Test.YthhmhcmlbpdlbaaGreatC06S
import Derived.Test.YthhmhcmlbpdlbaaGreatC03H
import Derived.Deep.RegionHeld3
namespace Go.Proofs.YthhmhcmlbpdlbaaGreat.C06A
open Go.RowKit Mem MemS Rep R06 M03 M06 C01 C03S C03D C03H C06S
set_option linter.unusedVariables false
set_option maxRecDepth 100000
theorem index_any (B : Nat) (A : Option Addr) (n c : Nat) (l : List Int) (key : Int) (w : World) (h : Rd .i64 w B A n l) (hn : n ≤ 1099511627776) :
    Calls Tryz.prog 125 #[.slice A n c, .int .i64 key] w fun e w' => ∃ r : Int, e = .returned (.int .i64 r) ∧ decide (0 ≤ r) = hasK l key ∧ w = w' := by
  have HL := Lib.hid h.len
  go_enter Tryz.func125, Tryz.ntmps125
  go_wp2
  go_loop [8] (fun i => ∃ j : Nat, j ≤ n ∧ i = .int .i64 j ∧ ∀ k, k < j → l.getD k 0 ≠ key) (fun i => n - (intOf i).toNat)
  case atStart => exact ⟨0, by omega, rfl, fun k hk => absurd hk (by omega)⟩
  case round =>
    obtain ⟨j, hj, rfl, hf⟩ := hrel
    have HF := Lib.hid hf
    clear hf
    by_cases hjn : j < n
    · obtain ⟨b, off, rfl, hlt, hc⟩ := h.cells (by omega)
      have hcj := hc j hjn
      have HX := Lib.hid (show ∀ x : Int, l.getD j 0 = x → j < l.length from fun _ _ => by rw [HL.out]; exact hjn)
      generalize hx : l.getD j 0 = x at hcj
      have HE := Lib.hid hx
      clear hc hx h
      by_cases hk : x = key
      · subst hk
        have HR := Lib.hid (hasK_at (HX.out _ HE.out) HE.out)
        go_wp2
        go_ret
        exact ⟨_, rfl, by rw [HR.out]; exact decide_eq_true (by omega), rfl⟩
      · have hkb : (key == x) = false := beq_eq_false_iff_ne.2 fun e => hk e.symm
        have HK := Lib.hid hk
        clear hk
        go_wp2
        go_round
        case rel => exact ⟨j + 1, by omega, by go_num, fun k hk => by
          rcases Nat.lt_or_ge k j with h1 | h1
          · exact HF.out k h1
          · obtain rfl : k = j := by omega
            rw [HE.out]
            exact HK.out⟩
        case measure => simp [intOf]; omega
    · have HR := Lib.hid (hasK_none (l := l) (key := key) fun j' hj' => HF.out j' (by have := HL.out; omega))
      clear h
      go_wp2
      go_ret
      exact ⟨_, rfl, by rw [HR.out]; rfl, rfl⟩
theorem contains_any (B : Nat) (A : Option Addr) (n c : Nat) (l : List Int) (key : Int) (w : World) (h : Rd .i64 w B A n l) (hn : n ≤ 1099511627776) :
    Calls Tryz.prog 89 #[.slice A n c, .int .i64 key] w fun e w' => e = .returned (.bool (hasK l key)) ∧ w = w' := by
  have H := Lib.hid h
  clear h
  go_enter Tryz.func89, Tryz.ntmps89
  go_wp2_with fail
  refine (index_any B A n c l key _ H.out hn).mono ?_
  rintro e w1 ⟨r, rfl, hr, rfl⟩
  have HR := Lib.hid hr
  clear hr
  go_wp2
  go_ret
  exact ⟨by rw [← HR.out]; rfl, rfl⟩
def cz (l : List Int) (j i : Nat) : Int := if i < j then l.getD i 0 else 0
/-- the cells of an array with a count: the first j of l, then zeros -/
def arr5 (l : List Int) (j : Nat) : List Value := [.int .i64 (cz l j 0), .int .i64 (cz l j 1), .int .i64 (cz l j 2), .int .i64 (cz l j 3), .int .i64 j]
def lstAt (l : List Int) (j : Nat) : Int := if j = 0 then 1 else l.getD (j - 1) 0 + 1
theorem okAt_step {l : List Int} {j : Nat} (h : ∀ i, i < j → okAt l i = true) : inR (l.getD j 0) (lstAt l j) 99 = okAt l j := by
  unfold lstAt okAt
  rcases Nat.eq_zero_or_pos j with h0 | h0
  · subst h0
    simp
  · have h1 := h (j - 1) (by omega)
    unfold okAt at h1
    rw [Bool.and_eq_true] at h1
    have h2 := h1.1
    have hne : ¬ j = 0 := by omega
    rw [if_neg hne, decide_eq_false hne, Bool.false_or]
    generalize l.getD j 0 = x
    generalize l.getD (j - 1) 0 = y at h2
    unfold inR at h2 ⊢
    rw [Bool.and_eq_true] at h2
    obtain ⟨h3, h4⟩ := h2
    have h3 := of_decide_eq_true h3
    have h4 := of_decide_eq_true h4
    rw [Bool.eq_iff_iff]
    simp only [Bool.and_eq_true, decide_eq_true_eq]
    omega
theorem okAt_top {l : List Int} {j : Nat} (h : okAt l j = true) : 1 ≤ l.getD j 0 ∧ l.getD j 0 ≤ 99 := by
  unfold okAt at h
  rw [Bool.and_eq_true] at h
  have h := h.1
  unfold inR at h
  rw [Bool.and_eq_true] at h
  exact ⟨of_decide_eq_true h.1, of_decide_eq_true h.2⟩
theorem arr5_step {l : List Int} {j : Nat} (hj : j < 4) : ((arr5 l j).set j (.int .i64 (l.getD j 0))).set 4 (.int .i64 ((j + 1 : Nat) : Int)) = arr5 l (j + 1) := by
  have h4 : j = 0 ∨ j = 1 ∨ j = 2 ∨ j = 3 := by omega
  rcases h4 with rfl | rfl | rfl | rfl <;> simp [arr5, cz]
theorem bx_set {w : World} {b : Nat} {vs : List Value} (h : Box w b vs) {j : Nat} (hj : j < vs.length) (v : Value) : Box (w.setCell ⟨b, j, none⟩ v) b (vs.set j v) := by
  have hu : vs[j]? = some (vs[j]'hj) := List.getElem?_eq_getElem hj
  refine ⟨fun {i u} hi => ?_, fun {i u} hi => ?_, by first | (simp; done) | (simp; exact h.lt)⟩
  · rw [List.getElem?_set] at hi
    by_cases e : j = i
    · subst e
      simp [hj] at hi
      subst hi
      exact World.cell?_setCell_same _ _ _ (h.cell hu)
    · rw [if_neg e] at hi
      rw [World.cell?_setCell_other _ _ _ _ (fun h9 => e (by injection h9))]
      exact h.cell hi
  · rw [World.frozen?_setCell]
    have hi' : i < (vs.set j v).length := (List.getElem?_eq_some_iff.1 hi).1
    exact h.warm (List.getElem?_eq_getElem (show i < vs.length by simpa using hi'))
theorem bx_store {w : World} {b : Nat} {vs : List Value} (h : Box w b vs) {p : Addr} (hp : p.block ≠ b) (v : Value) : Box (w.setCell p v) b vs := h.keep (Below.heap_setCell w p v b (fun e => hp e.symm))
theorem bl_store {B : Nat} {w w' : World} (h : Below B w w') {p : Addr} (hp : B ≤ p.block) (v : Value) : Below B w (w'.setCell p v) :=
  ⟨h.os, h.tape, h.output, by simpa [World.setCell] using h.size, fun i hi => (Below.heap_setCell w' p v i (by omega)).trans (h.block i hi)⟩
/-- five cells written -/
theorem bx_five {w : World} {b : Nat} {vs : List Value} (h : Box w b vs) (hl : vs.length = 5) (v0 v1 v2 v3 v4 : Value) : Box (((((w.setCell ⟨b, 0, none⟩ v0).setCell ⟨b, 1, none⟩ v1).setCell ⟨b, 2, none⟩ v2).setCell ⟨b, 3, none⟩ v3).setCell ⟨b, 4, none⟩ v4) b [v0, v1, v2, v3, v4] := by
  have h5 := bx_set (bx_set (bx_set (bx_set (bx_set h (j := 0) (by omega) v0) (j := 1) (by simp; omega) v1) (j := 2) (by simp; omega) v2) (j := 3) (by simp; omega) v3) (j := 4) (by simp; omega) v4
  obtain ⟨a, b, c, d, e, rfl⟩ : ∃ a b c d e, vs = [a, b, c, d, e] := by
    match vs, hl with
    | [a, b, c, d, e], _ => exact ⟨a, b, c, d, e, rfl⟩
  exact h5
theorem rd_arr {w : World} {b n : Nat} {l : List Int} (hl : l.length = n) (hn : n ≤ 4) (hx : Box w b (arr5 l n)) (hi : ∀ z ∈ l, In .i64 z) : Rd .i64 w (b + 1) (some ⟨b, 0, none⟩) n l := by
  refine ⟨hl, hi, fun h => ⟨b, 0, rfl, by omega, fun j hj => ?_⟩⟩
  have e : (arr5 l n)[j]? = some (.int .i64 (l.getD j 0)) := by
    have h4 : j = 0 ∨ j = 1 ∨ j = 2 ∨ j = 3 := by omega
    rcases h4 with rfl | rfl | rfl | rfl <;> simp [arr5, cz] <;> omega
  have := hx.cell e
  rwa [Nat.zero_add]
end Go.Proofs.YthhmhcmlbpdlbaaGreat.C06A
namespace Go.Proofs.YthhmhcmlbpdlbaaGreat.C06B
open Go.RowKit Mem MemS Rep R06 M03 M06 C01 C03S C03D C03H C06S C06A
set_option linter.unusedVariables false
set_option maxRecDepth 100000
end Go.Proofs.YthhmhcmlbpdlbaaGreat.C06B
namespace Go.Proofs.YthhmhcmlbpdlbaaGreat.C06C
open Go.RowKit Mem MemS Rep R06 M03 M06 C01 C03S C03D C03H C06S C06A C06B
set_option linter.unusedVariables false
set_option maxRecDepth 100000
theorem inR_iff {n a b : Int} : inR n a b = true ↔ a ≤ n ∧ n ≤ b := by unfold inR; simp
/-- what comes back: the keys and their number where the set is valid, else zeros -/
def arrK (k : Keys) : List Value := if isKeys k then arr5 k.list k.list.length else arr5 [] 0
set_option maxHeartbeats 2000000 in
theorem keyArrayOf_any (cs : List Value) (k : Keys) (w : World) (h : RKeys.rd w (Lt w.heap.size) cs k) (hn : k.list.length ≤ 1099511627776) :
    Calls Tryz.prog 150 #[.agg cs.toArray] w fun e w' => e = .returned (.tuple #[.agg (arrK k).toArray, .bool (isKeys k)]) ∧ Below w.heap.size w w' := by
  obtain ⟨A, n, c, rfl, h1, h2, h3, h4⟩ := RKeys_rd.1 h
  obtain ⟨l, kn⟩ := k
  simp only at h3 h4 hn
  have hl := h3.len
  rw [hl] at hn
  have HL := Lib.hid hl
  have HB := Lib.hid (((Below.refl w.heap.size w).alloc (Nat.le_refl _) (.cells #[.slice A n c, .int .i64 kn] 26)).alloc (by simp) (.cells (arr5 [] 0).toArray 150))
  have HX := Lib.hid (show Box ((w.alloc (.cells #[.slice A n c, .int .i64 kn] 26)).alloc (.cells (arr5 [] 0).toArray 150)) (w.heap.size + 1) (arr5 [] 0) from by
    have := Box.new (w.alloc (.cells #[.slice A n c, .int .i64 kn] 26)) (arr5 [] 0).toArray 150
    simpa using this)
  have H3 := Lib.hid h3
  clear h h3 h4 hl h1 h2
  have hK : isKeys ⟨l, kn⟩ = (isK l && (inR (n : Int) 1 4 && inR kn 1 (n : Int))) := by
    unfold isKeys
    simp only
    rw [HL.out]
  rcases h14 : inR (n : Int) 1 4 with _ | _
  · have HP := Lib.hid (show isKeys ⟨l, kn⟩ = false by rw [hK, h14]; cases isK l <;> rfl)
    have HA := Lib.hid (show arrK ⟨l, kn⟩ = arr5 [] 0 by unfold arrK; rw [HP.out]; rfl)
    rw [HA.out, HP.out]
    have hK1 := fun w => inRange_any (n : Int) 1 4 w
    rw [h14] at hK1
    have HK1 := Lib.hid hK1
    clear hK hK1 h14
    go_enter Tryz.func150, Tryz.ntmps150
    go_wp2_with fail
    refine (HK1.out _).mono ?_
    rintro e w1 ⟨rfl, rfl⟩
    go_wp2
    exact bodyPost_ret (v := .tuple #[.agg (arr5 [] 0).toArray, .bool false]) (by simp [results, Tryz.results150, go_sem, arr5, cz]) rfl ⟨rfl, HB.out⟩
  · have hn4 := inR_iff.1 h14
    rcases hkn : inR kn 1 (n : Int) with _ | _
    · have HP := Lib.hid (show isKeys ⟨l, kn⟩ = false by rw [hK, h14, hkn]; cases isK l <;> rfl)
      have HA := Lib.hid (show arrK ⟨l, kn⟩ = arr5 [] 0 by unfold arrK; rw [HP.out]; rfl)
      rw [HA.out, HP.out]
      have hK1 := fun w => inRange_any (n : Int) 1 4 w
      rw [h14] at hK1
      have HK1 := Lib.hid hK1
      have hK2 := fun w => inRange_any kn 1 (n : Int) w
      rw [hkn] at hK2
      have HK2 := Lib.hid hK2
      clear hK hK1 h14 hK2 hkn
      go_enter Tryz.func150, Tryz.ntmps150
      go_wp2_with fail
      refine (HK1.out _).mono ?_
      rintro e w1 ⟨rfl, rfl⟩
      go_wp2_with fail
      refine (HK2.out _).mono ?_
      rintro e w1 ⟨rfl, rfl⟩
      go_wp2
      exact bodyPost_ret (v := .tuple #[.agg (arr5 [] 0).toArray, .bool false]) (by simp [results, Tryz.results150, go_sem, arr5, cz]) rfl ⟨rfl, HB.out⟩
    · have HP0 := Lib.hid (show isKeys ⟨l, kn⟩ = isK l by rw [hK, h14, hkn]; cases isK l <;> rfl)
      have hK1 := fun w => inRange_any (n : Int) 1 4 w
      rw [h14] at hK1
      have HK1 := Lib.hid hK1
      have hK2 := fun w => inRange_any kn 1 (n : Int) w
      rw [hkn] at hK2
      have HK2 := Lib.hid hK2
      clear hK hK1 h14 hK2 hkn
      have HX1 := Lib.hid (HX.out.alloc (.cells (arr5 l 0).toArray 150))
      have HX2 := Lib.hid (show Box (((w.alloc (.cells #[.slice A n c, .int .i64 kn] 26)).alloc (.cells (arr5 [] 0).toArray 150)).alloc (.cells (arr5 l 0).toArray 150)) (w.heap.size + 2) (arr5 l 0) from by
        have := Box.new ((w.alloc (.cells #[.slice A n c, .int .i64 kn] 26)).alloc (.cells (arr5 [] 0).toArray 150)) (arr5 l 0).toArray 150
        simpa using this)
      have HB3 := Lib.hid (HB.out.alloc (by simp; omega) (.cells (arr5 l 0).toArray 150))
      go_enter Tryz.func150, Tryz.ntmps150
      go_wp2_with fail
      refine (HK1.out _).mono ?_
      rintro e w1 ⟨rfl, rfl⟩
      go_wp2_with fail
      refine (HK2.out _).mono ?_
      rintro e w1 ⟨rfl, rfl⟩
      go_wp2
      go_loopw [5, 27] (fun v i wr => ∃ j : Nat, j ≤ n ∧ i = .int .i64 j ∧ v = .int .i64 (lstAt l j) ∧ (∀ k, k < j → okAt l k = true) ∧ Box wr (w.heap.size + 1) (arr5 [] 0) ∧ Box wr (w.heap.size + 2) (arr5 l j) ∧ Below w.heap.size w wr) (fun _ i _ => n - (intOf i).toNat)
      case atStart =>
        exact ⟨0, by omega, rfl, rfl, fun k hk => absurd hk (by omega), HX1.out, HX2.out, HB3.out⟩
      case round =>
        obtain ⟨j, hj, rfl, rfl, hf, hx1, hx2, hb⟩ := hrel
        have HF := Lib.hid hf
        have HX3 := Lib.hid hx1
        have HX4 := Lib.hid hx2
        have HB4 := Lib.hid hb
        have hr := H3.out.below hb (Nat.le_refl _)
        have HR := Lib.hid hr
        clear HX1 HX2 HB3 HX HB HK1 HK2
        by_cases hjn : j < n
        · obtain ⟨b, off, rfl, hlt, hcc⟩ := hr.cells (by omega)
          have hcj := hcc j hjn
          have hjl : j < l.length := by rw [HL.out]; exact hjn
          have hst := okAt_step hf
          have hK := fun w => inRange_any (l.getD j 0) (lstAt l j) 99 w
          rw [hst] at hK
          rcases hok : okAt l j with _ | _
          · have HP := Lib.hid (show isKeys ⟨l, kn⟩ = false by rw [HP0.out]; exact isK_bad hjl hok)
            have HA := Lib.hid (show arrK ⟨l, kn⟩ = arr5 [] 0 by unfold arrK; rw [HP.out]; rfl)
            rw [hok] at hK
            have HK := Lib.hid hK
            have z0 := hx1.cell (j := 0) rfl
            have z1 := hx1.cell (j := 1) rfl
            have z2 := hx1.cell (j := 2) rfl
            have z3 := hx1.cell (j := 3) rfl
            have z4 := hx1.cell (j := 4) rfl
            have y0 := hx1.warm (j := 0) rfl
            have y1 := hx1.warm (j := 1) rfl
            have y2 := hx1.warm (j := 2) rfl
            have y3 := hx1.warm (j := 3) rfl
            have y4 := hx1.warm (j := 4) rfl
            generalize l.getD j 0 = x at hcj HK
            generalize lstAt l j = q at HK
            clear hcc hr hf hx1 hx2 hb hst hK hok hjl
            go_wp2_with fail
            refine (HK.out _).mono ?_
            rintro e w1 ⟨rfl, rfl⟩
            go_wp2
            have hf5 := bx_five HX3.out rfl (.int .i64 0) (.int .i64 0) (.int .i64 0) (.int .i64 0) (.int .i64 0)
            have c0 := hf5.cell (j := 0) rfl
            have c1 := hf5.cell (j := 1) rfl
            have c2 := hf5.cell (j := 2) rfl
            have c3 := hf5.cell (j := 3) rfl
            have c4 := hf5.cell (j := 4) rfl
            refine bodyPost_ret (v := .tuple #[.agg (arr5 [] 0).toArray, .bool false]) (by simp [results, Tryz.results150, go_sem, c0, c1, c2, c3, c4, arr5, cz]) rfl ⟨by rw [HA.out, HP.out], ?_⟩
            exact bl_store (bl_store (bl_store (bl_store (bl_store HB4.out (by simp) _) (by simp) _) (by simp) _) (by simp) _) (by simp) _
          · rw [hok] at hK
            have HK := Lib.hid hK
            have htop := okAt_top hok
            have HS := Lib.hid (show lstAt l (j + 1) = l.getD j 0 + 1 by unfold lstAt; rw [if_neg (by omega)]; rfl)
            have HO := Lib.hid hok
            have HA5 := Lib.hid (arr5_step (l := l) (j := j) (by omega))
            have hj4 : j < 4 := by omega
            have y4 := hx2.cell (j := 4) rfl
            have y4' := hx2.warm (j := 4) rfl
            have yj : wr.frozen? ⟨w.heap.size + 2, j, none⟩ = false := by
              have e : j = 0 ∨ j = 1 ∨ j = 2 ∨ j = 3 := by omega
              rcases e with rfl | rfl | rfl | rfl <;> exact hx2.warm rfl
            have hzj : ∃ z : Int, wr.cell? ⟨w.heap.size + 2, j, none⟩ = some (.int .i64 z) := by
              have e : j = 0 ∨ j = 1 ∨ j = 2 ∨ j = 3 := by omega
              rcases e with rfl | rfl | rfl | rfl <;> exact ⟨_, hx2.cell rfl⟩
            obtain ⟨z, hzj⟩ := hzj
            generalize hxe : l.getD j 0 = x at hcj HK htop HS HA5
            generalize lstAt l j = q at HK
            clear hcc hr hf hx1 hx2 hb hst hK hok hjl hxe
            go_wp2_with fail
            refine (HK.out _).mono ?_
            rintro e w1 ⟨rfl, rfl⟩
            go_wp2
            have b2 := bx_set (bx_set HX4.out (j := j) (by simp [arr5]; omega) (.int .i64 x)) (j := 4) (by simp [arr5]) (.int .i64 ((j + 1 : Nat) : Int))
            rw [HA5.out] at b2
            refine ⟨⟨j + 1, by omega, by go_num, by rw [HS.out], fun k hk => ?_, bx_store (bx_store HX3.out (by simp) _) (by simp) _, b2, bl_store (bl_store HB4.out (by simp; omega) _) (by simp; omega) _⟩, by simp [intOf]; omega⟩
            rcases Nat.lt_or_ge k j with h9 | h9
            · exact HF.out k h9
            · obtain rfl : k = j := by omega
              exact HO.out
        · obtain rfl : j = n := by omega
          have hisK : isK l = true := isK_all fun j' hj' => hf j' (by rw [← HL.out]; exact hj')
          have HP := Lib.hid (show isKeys ⟨l, kn⟩ = true by rw [HP0.out]; exact hisK)
          have HA := Lib.hid (show arrK ⟨l, kn⟩ = arr5 l j by unfold arrK; rw [HP.out, HL.out]; rfl)
          have z0 := hx2.cell (j := 0) rfl
          have z1 := hx2.cell (j := 1) rfl
          have z2 := hx2.cell (j := 2) rfl
          have z3 := hx2.cell (j := 3) rfl
          have z4 := hx2.cell (j := 4) rfl
          have y0 := hx1.warm (j := 0) rfl
          have y1 := hx1.warm (j := 1) rfl
          have y2 := hx1.warm (j := 2) rfl
          have y3 := hx1.warm (j := 3) rfl
          have y4 := hx1.warm (j := 4) rfl
          have x0 := hx1.cell (j := 0) rfl
          have x1 := hx1.cell (j := 1) rfl
          have x2 := hx1.cell (j := 2) rfl
          have x3 := hx1.cell (j := 3) rfl
          have x4 := hx1.cell (j := 4) rfl
          clear hisK hf hx1 hx2 hb hr
          go_wp2
          have hf5 := bx_five HX3.out rfl (.int .i64 (cz l j 0)) (.int .i64 (cz l j 1)) (.int .i64 (cz l j 2)) (.int .i64 (cz l j 3)) (.int .i64 j)
          have c0 := hf5.cell (j := 0) rfl
          have c1 := hf5.cell (j := 1) rfl
          have c2 := hf5.cell (j := 2) rfl
          have c3 := hf5.cell (j := 3) rfl
          have c4 := hf5.cell (j := 4) rfl
          refine bodyPost_ret (v := .tuple #[.agg (arr5 l j).toArray, .bool true]) (by simp [results, Tryz.results150, go_sem, c0, c1, c2, c3, c4, arr5]) rfl ⟨by rw [HA.out, HP.out], ?_⟩
          exact bl_store (bl_store (bl_store (bl_store (bl_store HB4.out (by simp) _) (by simp) _) (by simp) _) (by simp) _) (by simp) _
end Go.Proofs.YthhmhcmlbpdlbaaGreat.C06C
namespace Go.Proofs.YthhmhcmlbpdlbaaGreat.C06I
open Go.RowKit Mem MemS Rep R06 M03 M06 C01 C03S C03D C03H C06S C06A C06B C06C
set_option linter.unusedVariables false
set_option maxRecDepth 100000
theorem arrK_cells (k : Keys) : ∃ a0 a1 a2 a3 a4 : Int, arrK k = [.int .i64 a0, .int .i64 a1, .int .i64 a2, .int .i64 a3, .int .i64 a4] := by
  unfold arrK
  cases isKeys k <;> exact ⟨_, _, _, _, _, rfl⟩
set_option maxHeartbeats 1000000 in
theorem iIsKeys_any (cs : List Value) (k : Keys) (w : World) (h : RKeys.rd w (Lt w.heap.size) cs k) (hn : k.list.length ≤ 1099511627776) :
    Calls Tryz.prog 117 #[.agg cs.toArray] w fun e w' => e = .returned (.bool (isKeys k)) ∧ Below w.heap.size w w' := by
  have hcl : ∃ v0 v1, cs = [v0, v1] := by
    obtain ⟨A, n, c, e, _⟩ := RKeys_rd.1 h
    exact ⟨_, _, e⟩
  obtain ⟨v0, v1, rfl⟩ := hcl
  have HB := Lib.hid ((Below.refl w.heap.size w).alloc (Nat.le_refl _) (.cells #[v0, v1] 26))
  have H := Lib.hid (RKeys.more (RKeys.keep h fun i hi => HB.out.block i hi) (P' := Lt (w.alloc (.cells #[v0, v1] 26)).heap.size) fun i hi => Nat.lt_of_lt_of_le hi HB.out.size)
  clear h
  have hk := keyArrayOf_any [v0, v1] k _ H.out hn
  obtain ⟨a0, a1, a2, a3, a4, ha⟩ := arrK_cells k
  rw [ha] at hk
  have HK := Lib.hid hk
  clear hk ha
  go_enter Tryz.func117, Tryz.ntmps117
  go_wp2_with fail
  refine HK.out.mono ?_
  rintro e w2 ⟨rfl, hb⟩
  have HB2 := Lib.hid (HB.out.trans (hb.mono (by simp)))
  clear hb
  go_wp2
  go_ret
  exact ⟨rfl, HB2.out.alloc HB2.out.size _⟩
theorem iKeysInts_any (cs : List Value) (k : Keys) (w : World) (h : RKeys.rd w (Lt w.heap.size) cs k) (hn : k.list.length ≤ 1099511627776) :
    Calls Tryz.prog 50 #[.agg cs.toArray] w fun e w' => ∃ A' c', e = .returned (.slice A' (k.list.length + 2) c') ∧ Own .i64 w' w.heap.size w'.heap.size A' (k.list.length + 2) c' (keysInts k) ∧ Below w.heap.size w w' := by
  obtain ⟨A, n, c, rfl, h1, h2, h3, h4⟩ := RKeys_rd.1 h
  obtain ⟨l, kn⟩ := k
  simp only at h3 h4 hn ⊢
  have hl := h3.len
  rw [hl] at hn ⊢
  have HW : keysInts ⟨l, kn⟩ = [kn, (n : Int)] ++ l := by unfold keysInts; rw [hl]; rfl
  rw [HW]
  have h0 : Own .i64 ((w.alloc (.cells #[.slice A n c, .int .i64 kn] 26)).alloc (.cells #[.int .i64 kn, .int .i64 (n : Int)] 3)) (w.heap.size + 1) (w.heap.size + 1 + 1) (some ⟨w.heap.size + 1, 0, none⟩) 2 2 [kn, (n : Int)] :=
    own_lit .i64 _ (by simp) rfl rfl rfl (by
      intro z hz
      rcases List.mem_cons.1 hz with rfl | hz
      · exact h4
      · rw [List.mem_singleton.1 hz]
        exact inI64 (by omega) (by omega)) (by simp) (by simp [maxLen])
  have H0 := Lib.hid h0
  have H3 := Lib.hid (h3.alloc (Nat.le_refl _) (.cells #[.slice A n c, .int .i64 kn] 26) |>.alloc (by simp) (.cells #[.int .i64 kn, .int .i64 (n : Int)] 3))
  have HB := Lib.hid ((Below.refl w.heap.size w).alloc (Nat.le_refl _) (.cells #[.slice A n c, .int .i64 kn] 26) |>.alloc (by simp) (.cells #[.int .i64 kn, .int .i64 (n : Int)] 3))
  clear h h3 h4 hl h0 HW h1 h2
  go_enter Tryz.func50, Tryz.ntmps50
  go_wp2_with (at_builtin; refine wp_app (k := .i64) (by unfold BI; decide) rfl _ _ rfl rfl H0.out rfl H3.out (by omega) (by simp) ?_; intro A2 c2 w2 hown hgr)
  have HO := Lib.hid hown
  have HB2 := Lib.hid (HB.out.trans (hgr.below (by simp; omega) (fun a e => by injection e with e; subst e; simp)))
  clear hown hgr
  rw [show n + 2 = 2 + n by omega]
  go_wp2
  go_ret
  exact ⟨A2, c2, rfl, HO.out.base (by omega), HB2.out⟩
theorem iOneKey_any (key : Int) (w : World) (hk : In .i64 key) :
    Calls Tryz.prog 10 #[.int .i64 key] w fun e w' => ∃ cs, e = .returned (.agg (List.toArray cs)) ∧ OwnI RKeys w' w.heap.size w'.heap.size cs (oneKey key) ∧ Below w.heap.size w w' := by
  have HO := Lib.hid fun o => (own_lit .i64 (w.alloc o) (b := w.heap.size + 1) (cs := #[.int .i64 key]) (ty := 3) (zs := [key]) (n := 1) (lo := w.heap.size + 1) (by simp) rfl rfl rfl (by intro z hz; rw [List.mem_singleton.1 hz]; exact hk) (by simp) (by simp [maxLen]))
  have HI := Lib.hid hk
  clear hk
  go_enter Tryz.func10, Tryz.ntmps10
  go_wp2
  refine bodyPost_ret (v := .agg #[.slice (some ⟨w.heap.size + 1, 0, none⟩) 1 1, .int .i64 1]) (by simp [results, Tryz.results10, go_sem]) rfl ⟨[.slice (some ⟨w.heap.size + 1, 0, none⟩) 1 1, .int .i64 1], rfl, ?_, ?_⟩
  · exact RKeys_own.2 ⟨_, 1, 1, rfl, (HO.out _).top.base (by omega), inI64 (by simp [oneKey]) (by simp [oneKey])⟩
  · exact ((Below.refl _ _).alloc (Nat.le_refl _) _).alloc (by simp) _
end Go.Proofs.YthhmhcmlbpdlbaaGreat.C06I
