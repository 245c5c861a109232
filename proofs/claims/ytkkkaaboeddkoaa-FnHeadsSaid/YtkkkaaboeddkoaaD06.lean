/- The drawing functions of chapter 6: what they return, and that they write into nothing that was there. -/
import Derived.Test.YtkkkaaboeddkoaaD02
import Derived.Test.YtkkkaaboeddkoaaC06S
import Derived.Deep.RegionHeld3
import Derived.Deep.AppendLies
import Derived.Deep.RegionLaw
namespace Go.Proofs.Ytkkkaaboeddkoaa.D06
set_option linter.unusedVariables false
set_option maxRecDepth 100000
open Go.RowKit Mem MemS M02 C01 C02 C02B D01 D02 SL Rep R06 M06 C06S
/-- the lists of n keys that are drawn -/
def base : Nat → List (List Int)
  | 0 => []
  | 1 => [[1], [2], [3], [4], [5], [6]]
  | n + 1 => (base n).flatMap fun l => [l ++ [l.getLastD 0 + 1], l ++ [l.getLastD 0 + 2], l ++ [l.getLastD 0 + 3]]
/-- as the loop goes: j keys, the last one 'last' -/
def Grow (j : Nat) (l : List Int) (last : Int) : Prop := l.length = j ∧ ((j = 0 ∧ 0 ≤ last ∧ last ≤ 3) ∨ (1 ≤ j ∧ l ∈ base j ∧ l.getLastD 0 = last))
theorem grow_step {j : Nat} {l : List Int} {last x : Int} (h : Grow j l last) (h0 : 0 ≤ x) (h2 : x ≤ 2) : Grow (j + 1) (l ++ [last + 1 + x]) (last + 1 + x) := by
  obtain ⟨hl, h | ⟨h1, hm, hg⟩⟩ := h
  · obtain ⟨rfl, h3, h4⟩ := h
    have : l = [] := List.eq_nil_of_length_eq_zero hl
    subst this
    refine ⟨rfl, .inr ⟨by omega, ?_, rfl⟩⟩
    have h5 : last + 1 + x = 1 ∨ last + 1 + x = 2 ∨ last + 1 + x = 3 ∨ last + 1 + x = 4 ∨ last + 1 + x = 5 ∨ last + 1 + x = 6 := by omega
    rcases h5 with h | h | h | h | h | h <;> rw [h] <;> decide
  · refine ⟨by simp [hl], .inr ⟨by omega, ?_, by simp⟩⟩
    obtain ⟨i, rfl⟩ : ∃ i, j = i + 1 := ⟨j - 1, by omega⟩
    show l ++ [last + 1 + x] ∈ (base (i + 1)).flatMap fun l => [l ++ [l.getLastD 0 + 1], l ++ [l.getLastD 0 + 2], l ++ [l.getLastD 0 + 3]]
    refine List.mem_flatMap.2 ⟨l, hm, ?_⟩
    rw [hg]
    have h5 : x = 0 ∨ x = 1 ∨ x = 2 := by omega
    rcases h5 with rfl | rfl | rfl
    · simp
    · rw [show last + 1 + 1 = last + 2 by omega]; simp
    · rw [show last + 1 + 2 = last + 3 by omega]; simp
/-- a drawn set of keys, before it may be bent -/
def Drawn (l : List Int) (nd : Int) : Prop := ∃ m : Nat, 1 ≤ m ∧ m ≤ 3 ∧ l ∈ base m ∧ l.length = m ∧ 1 ≤ nd ∧ nd ≤ m
theorem box_kept {w w' : World} {b g : Nat} {vs : List Value} (h : Box w b vs) (hk : Kept g w w') (hb : b ≠ g) : Box w' b vs := h.keep (hk.block b h.lt hb)
theorem box_set {w : World} {b : Nat} {vs : List Value} (h : Box w b vs) {j : Nat} (hj : j < vs.length) (v : Value) : Box (w.setCell ⟨b, j, none⟩ v) b (vs.set j v) := by
  have hu : vs[j]? = some (vs[j]'hj) := List.getElem?_eq_getElem hj
  refine ⟨fun {i u} hi => ?_, fun {i u} hi => ?_, by first | (simp; done) | (simp; exact h.lt)⟩
  · rw [List.getElem?_set] at hi
    by_cases e : j = i
    · subst e
      simp [hj] at hi
      subst hi
      exact World.cell?_setCell_same _ _ _ (h.cell hu)
    · rw [if_neg e] at hi
      rw [World.cell?_setCell_other _ _ _ _ (fun h9 => e (by injection h9))]
      exact h.cell hi
  · rw [World.frozen?_setCell]
    have hi' : i < (vs.set j v).length := (List.getElem?_eq_some_iff.1 hi).1
    exact h.warm (List.getElem?_eq_getElem (show i < vs.length by simpa using hi'))
theorem box_store {w : World} {b : Nat} {vs : List Value} (h : Box w b vs) {p : Addr} (hp : p.block ≠ b) (v : Value) : Box (w.setCell p v) b vs := h.keep (Below.heap_setCell w p v b (fun e => hp e.symm))
set_option maxHeartbeats 1000000 in
theorem l6Keys_any (w : World) (B g : Nat) (hc : Cur w B g) : Calls Try.prog 64 #[.pointer (some ⟨g, 0, none⟩)] w fun e w' =>
    ∃ A n c l nd, e = .returned (.agg #[.slice A n c, .int .i64 nd]) ∧ Drawn l nd ∧ Own .i64 w' (w.heap.size + 1) w'.heap.size A n c l ∧ Cur w' B g ∧ Kept g w w' := by
  have hgl := hc.lt
  have HC0 := Lib.hid (hc.alloc (.cells #[.slice none 0 0, .int .i64 0] 26))
  have HK0 := Lib.hid ((Kept.refl g w).alloc (.cells #[.slice none 0 0, .int .i64 0] 26))
  have HR0 := Lib.hid (Box.new w #[.slice none 0 0, .int .i64 0] 26)
  clear hc
  go_enter Try.func64, Try.ntmps64
  go_wp2_with fail
  refine (l1Below_any 3 _ B g HC0.out).mono ?_
  rintro e w1 ⟨v, ⟨x, hx0, hx1, rfl⟩, rfl, hc1, hk1⟩
  have hx2 : x ≤ 2 := by omega
  have hz1 : w.heap.size + 1 ≤ w1.heap.size := by have := hk1.size; simpa using this
  have hgz : g < w1.heap.size := by omega
  have HC1 := Lib.hid (hc1.alloc (.cells #[.slice none 0 0, .int .i64 0] 26))
  have HK1 := Lib.hid ((HK0.out.trans hk1).alloc (.cells #[.slice none 0 0, .int .i64 0] 26))
  have HR1 := Lib.hid ((box_kept HR0.out hk1 (by omega)).alloc (.cells #[.slice none 0 0, .int .i64 0] 26))
  have HX1 := Lib.hid (Box.new w1 #[.slice none 0 0, .int .i64 0] 26)
  clear hc1 hk1 hx1
  go_wp2_with fail
  refine (l1Below_any 4 _ B g HC1.out).mono ?_
  rintro e w2 ⟨v, ⟨y, hy0, hy1, rfl⟩, rfl, hc2, hk2⟩
  have hy3 : y ≤ 3 := by omega
  have hz2 : w1.heap.size + 1 ≤ w2.heap.size := by have := hk2.size; simpa using this
  have HC2 := Lib.hid hc2
  have HK2 := Lib.hid (HK1.out.trans hk2)
  have HR2 := Lib.hid (box_kept HR1.out hk2 (by omega))
  have HX2 := Lib.hid (box_kept HX1.out hk2 (by omega))
  clear hc2 hk2 hy1
  generalize hK : w1.heap.size = K at *
  have HKK := Lib.hid hK
  clear hK
  obtain ⟨N, rfl⟩ : ∃ N : Nat, x = (N : Int) := ⟨x.toNat, by omega⟩
  go_wp2
  go_loopw [5, 6] (fun a i wr => ∃ (j c1 : Nat) (A1 : Option Addr) (last : Int) (l : List Int), a = .int .i64 last ∧ i = .int .i64 j ∧ j ≤ 1 + N ∧ 0 ≤ last ∧ last ≤ 3 + 3 * j ∧ Grow j l last ∧ Box wr K [.slice A1 j c1, .int .i64 0] ∧ Box wr w.heap.size [.slice none 0 0, .int .i64 0] ∧ Own .i64 wr (K + 1) wr.heap.size A1 j c1 l ∧ Cur wr B g ∧ Kept g w wr ∧ K < wr.heap.size) (fun _ i _ => 1 + N - (intOf i).toNat)
  case atStart => exact ⟨0, 0, none, y, [], rfl, rfl, by omega, hy0, by omega, ⟨rfl, .inl ⟨rfl, hy0, hy3⟩⟩, HX2.out, HR2.out, Own.nil .i64 _ _ _, HC2.out, HK2.out, by omega⟩
  case round =>
    obtain ⟨j, c1, A1, last, l, rfl, rfl, hj, hl0, hl1, hgrow, hbx, hbr, hown, hcur, hkept, hKs⟩ := hrel
    have HG := Lib.hid hgrow
    have HBX := Lib.hid hbx
    have HBR := Lib.hid hbr
    have HO := Lib.hid hown
    have HC := Lib.hid hcur
    have HKr := Lib.hid hkept
    clear hgrow hbx hbr hown hcur hkept
    by_cases hjn : j < 1 + N
    · have hji : (j : Int) < 1 + (N : Int) := by omega
      go_wp2_with fail
      refine (l1Below_any 3 _ B g HC.out).mono ?_
      rintro e w3 ⟨v, ⟨z, hz0, hz1, rfl⟩, rfl, hc3, hk3⟩
      have hz3 : z ≤ 2 := by omega
      have HS3 := Lib.hid hk3.size
      have HC3 := Lib.hid hc3
      have HK3 := Lib.hid (HKr.out.trans hk3)
      have HBX3 := Lib.hid (box_kept HBX.out hk3 (by omega))
      have HBR3 := Lib.hid (box_kept HBR.out hk3 (by omega))
      have HO3 := Lib.hid (own_kept HO.out hk3 (by omega)).top
      have HG3 := Lib.hid (grow_step HG.out hz0 hz3)
      have c0 := HBX3.out.cell (j := 0) rfl
      clear hc3 hk3 hz1
      go_wp2_with (at_builtin; refine wp_push (k := .i64) (by unfold BI; decide) rfl _ _ rfl rfl HO3.out rfl (z := last + 1 + z) (inI64 (by omega) (by omega)) (by omega) (by have := HS3.out; omega) ?_; intro A4 c4 w4 hown4 hgr4; have HB4 := Lib.hid (hgr4.below (B := K + 1) (by have := HS3.out; omega) HO3.out.ge); have HO4 := Lib.hid hown4; have d0 := (HBX3.out.below HB4.out (by omega)).cell (j := 0) rfl; have f0 := (HBX3.out.below HB4.out (by omega)).warm (j := 0) rfl; clear hown4 hgr4)
      have hsz4 := HB4.out.size
      go_roundw
      case rel => exact ⟨j + 1, c4, A4, last + 1 + z, l ++ [last + 1 + z], rfl, by go_num, by omega, by omega, by omega, HG3.out,
        box_set (HBX3.out.below HB4.out (by omega)) (j := 0) (by simp) _, box_store (HBR3.out.below HB4.out (by omega)) (by simp; omega) _,
        (Own.store HO4.out _ (.inl (by simp))).top, cur_low HC3.out ((HB4.out.mono (by omega)).setCell (by simp; omega) _), kept_then HK3.out ((HB4.out.mono (by omega)).setCell (by simp; omega) _), by have := HS3.out; simp; omega⟩
      case measure => simp [intOf]; omega
    · obtain rfl : j = 1 + N := by omega
      have HN := Lib.hid HG.out
      go_wp2_with fail
      refine (l1Below_any _ _ B g HC.out).mono ?_
      rintro e w5 ⟨v, ⟨z, hz0, hz1, rfl⟩, rfl, hc5, hk5⟩
      have hz2 : z ≤ N := by omega
      have HC5 := Lib.hid hc5
      have HK5 := Lib.hid (HKr.out.trans hk5)
      have HBX5 := Lib.hid (box_kept HBX.out hk5 (by omega))
      have HBR5 := Lib.hid (box_kept HBR.out hk5 (by omega))
      have HO5 := Lib.hid (own_kept HO.out hk5 (by omega)).top
      have hs5 := hk5.size
      have c0 := HBX5.out.cell (j := 0) rfl
      have c1' := HBX5.out.cell (j := 1) rfl
      have f1 := HBX5.out.warm (j := 1) rfl
      have r0 := HBR5.out.cell (j := 0) rfl
      have r1 := HBR5.out.cell (j := 1) rfl
      have g0 := HBR5.out.warm (j := 0) rfl
      have g1 := HBR5.out.warm (j := 1) rfl
      have hKw : K ≠ w.heap.size := by omega
      have hKw2 : w.heap.size ≠ K := by omega
      clear hc5 hk5 hz1
      go_wp2
      refine bodyPost_ret (v := .agg #[.slice A1 (1 + N) c1, .int .i64 (1 + z)]) (by simp [results, Try.results64, go_sem, r0, r1]) rfl ⟨A1, 1 + N, c1, l, 1 + z, rfl, ?_, ?_, ?_, ?_⟩
      · obtain ⟨hl, h | ⟨h1, hm, _⟩⟩ := HN.out
        · omega
        · exact ⟨1 + N, h1, by omega, hm, hl, by omega, by omega⟩
      · refine (Own.top (hi := w5.heap.size) ?_).base (show w.heap.size + 1 ≤ K + 1 by omega)
        repeat refine Own.store ?_ _ (.inl (by simp; try omega))
        exact HO5.out
      · refine cur_low HC5.out (Below.setCell (Below.setCell ((Below.refl _ _).setCell ?_ _) ?_ _) ?_ _) <;> (simp; omega)
      · refine kept_then HK5.out (Below.setCell (Below.setCell ((Below.refl _ _).setCell ?_ _) ?_ _) ?_ _) <;> simp
        omega
theorem own_store_ne {k : IntKind} {w : World} {lo hi n c : Nat} {A : Option Addr} {zs : List Int} (h : Own k w lo hi A n c zs) {p : Addr} (v : Value) (hp : ∀ a, A = some a → a.block ≠ p.block) : Own k (w.setCell p v) lo hi A n c zs := by
  refine ⟨h.len, h.wf, ⟨h.row.1, ?_⟩, h.hi⟩
  rcases h.row.2 with hn | ⟨g, cap, cur, h1, h2, h3, r⟩
  · exact .inl hn
  · refine .inr ⟨g, cap, cur, h1, h2, ?_, r⟩
    injection h1 with e1 e2 e3
    rw [Below.heap_setCell w p v g (hp _ e1)]
    exact h3
/-- a draw out of a list that lies in a block -/
theorem l1Int_in (w : World) {zs : List Int} {b n c : Nat} {B g : Nat} (hcell : ∀ j, j < n → w.cell? ⟨b, j, none⟩ = some (.int .i64 (zs.getD j 0))) (hn : zs.length = n) (h0 : 0 < n) (hm : n ≤ maxLen) (hb : b < w.heap.size) (hbg : b ≠ g) (hc : Cur w B g) :
    Calls Try.prog 61 #[.pointer (some ⟨g, 0, none⟩), .slice (some ⟨b, 0, none⟩) n c] w (Dr B g (fun v => ∃ x : Int, x ∈ zs ∧ v = .int .i64 x) w) := by
  have hni : (0 : Int) < (n : Int) := by omega
  have HN := Lib.hid hn
  have HL := Lib.hid hcell
  clear hn hcell
  go_enter Try.func61, Try.ntmps61
  go_wp2_with fail
  refine (l1Below_pos _ _ B g hni hc).mono ?_
  rintro e w1 ⟨v, ⟨k, hk, rfl⟩, rfl, hc1, hk1⟩
  have hkn : k < n := by omega
  have hx := (World.cell?_of_block (w := w) (a := ⟨b, k, none⟩) (hk1.block b hb hbg)).trans (HL.out k hkn)
  have hmem : zs.getD k 0 ∈ zs := by
    rw [List.getD, List.getElem?_eq_getElem (show k < zs.length by rw [HN.out]; exact hkn)]
    exact List.getElem_mem _
  generalize zs.getD k 0 = x at hx hmem
  go_wp2
  go_ret
  exact ⟨_, ⟨x, hmem, rfl⟩, rfl, hc1, hk1⟩
/-- the same, where the list was just laid -/
theorem l1Int_of (w0 : World) {zs : List Int} {cs : Array Value} {ty : TypeId} {n c : Nat} (hcs : cs = (zs.map (Value.int .i64)).toArray) (hty : ty = ety .i64) (hz : ∀ z ∈ zs, In .i64 z) (hn : zs.length = n) (h0 : 0 < n) (hm : n ≤ maxLen) {B g : Nat} (hc : Cur (w0.alloc (.cells cs ty)) B g) (hg : g < w0.heap.size) :
    Calls Try.prog 61 #[.pointer (some ⟨g, 0, none⟩), .slice (some ⟨w0.heap.size, 0, none⟩) n c] (w0.alloc (.cells cs ty)) (Dr B g (fun v => ∃ x : Int, x ∈ zs ∧ v = .int .i64 x) (w0.alloc (.cells cs ty))) := by
  refine l1Int_in _ (fun j hj => ?_) hn h0 hm (by simp) (by omega) hc
  obtain ⟨b, off, e0, hlt, hcell⟩ := (own_lit .i64 w0 (lo := w0.heap.size) rfl hcs hty hn hz (Nat.le_refl _) hm).rd.cells h0
  injection e0 with e0
  injection e0 with e1 e2 e3
  subst e1 e2
  simpa using hcell j hj
/-- a drawn set of keys, which may be bent -/
def AnyK (l : List Int) (nd : Int) : Prop :=
  Drawn l nd ∨ (∃ nd0, Drawn l nd0 ∧ (nd = 0 ∨ nd = -1 ∨ nd = 5)) ∨ (∃ l0 x, Drawn l0 nd ∧ (x = 1 ∨ x = 99 ∨ x = 100) ∧ l = l0 ++ [x]) ∨ (l = [] ∧ ∃ l0, Drawn l0 nd)
theorem drawn_len {l : List Int} {nd : Int} (h : Drawn l nd) : l.length ≤ 3 ∧ 1 ≤ nd ∧ nd ≤ 3 := by
  obtain ⟨m, h1, h2, _, h4, h5, h6⟩ := h
  omega
set_option maxHeartbeats 1000000 in
theorem l6Any_any (w : World) (B g : Nat) (hc : Cur w B g) : Calls Try.prog 42 #[.pointer (some ⟨g, 0, none⟩)] w fun e w' =>
    ∃ A n c l nd, e = .returned (.agg #[.slice A n c, .int .i64 nd]) ∧ AnyK l nd ∧ Own .i64 w' (w.heap.size + 1) w'.heap.size A n c l ∧ Cur w' B g ∧ Kept g w w' := by
  have hgl := hc.lt
  have HC0 := Lib.hid (hc.alloc (.cells #[.slice none 0 0, .int .i64 0] 26))
  have HK0 := Lib.hid ((Kept.refl g w).alloc (.cells #[.slice none 0 0, .int .i64 0] 26))
  have HR0 := Lib.hid (Box.new w #[.slice none 0 0, .int .i64 0] 26)
  clear hc
  go_enter Try.func42, Try.ntmps42
  go_wp2_with fail
  refine (l6Keys_any _ B g HC0.out).mono ?_
  rintro e w1 ⟨A, n, c, l, nd, rfl, hd, hown, hc1, hk1⟩
  have hz1 : w.heap.size + 1 ≤ w1.heap.size := by have := hk1.size; simpa using this
  have hgz : g < w1.heap.size := by omega
  have HD := Lib.hid hd
  have HC1 := Lib.hid (hc1.alloc (.cells #[.slice A n c, .int .i64 nd] 26))
  have HK1 := Lib.hid ((HK0.out.trans hk1).alloc (.cells #[.slice A n c, .int .i64 nd] 26))
  have HR1 := Lib.hid ((box_kept HR0.out hk1 (by omega)).alloc (.cells #[.slice A n c, .int .i64 nd] 26))
  have HX1 := Lib.hid (Box.new w1 #[.slice A n c, .int .i64 nd] 26)
  have HO1 := Lib.hid ((hown.base (show w.heap.size + 1 ≤ _ by simp)).alloc (.cells #[.slice A n c, .int .i64 nd] 26))
  have hln := hown.len
  clear hc1 hk1 hd hown
  have hn3 : n ≤ 3 := by have := drawn_len HD.out; omega
  have HLN := Lib.hid hln
  clear hln
  go_wp2_with fail
  refine (l1Below_any 10 _ B g HC1.out).mono ?_
  rintro e w2 ⟨v, ⟨y, hy0, hy1, rfl⟩, rfl, hc2, hk2⟩
  have hz2 : w1.heap.size + 1 ≤ w2.heap.size := by have := hk2.size; simpa using this
  have HC2 := Lib.hid hc2
  have HK2 := Lib.hid (HK1.out.trans hk2)
  have HR2 := Lib.hid (box_kept HR1.out hk2 (by omega))
  have HX2 := Lib.hid (box_kept HX1.out hk2 (by omega))
  have HO2 := Lib.hid (own_kept HO1.out hk2 (by omega))
  clear hc2 hk2 hy1
  generalize hK : w1.heap.size = K at *
  have HKK := Lib.hid hK
  clear hK
  have hKw : K ≠ w.heap.size := by omega
  have hKw2 : w.heap.size ≠ K := by omega
  have hk2 : K < w2.heap.size := by omega
  have hw2 : w.heap.size < w2.heap.size := by omega
  have c0 := HX2.out.cell (j := 0) rfl
  have c1 := HX2.out.cell (j := 1) rfl
  have f0 := HX2.out.warm (j := 0) rfl
  have f1 := HX2.out.warm (j := 1) rfl
  have r0 := HR2.out.cell (j := 0) rfl
  have r1 := HR2.out.cell (j := 1) rfl
  have g0 := HR2.out.warm (j := 0) rfl
  have g1 := HR2.out.warm (j := 1) rfl
  by_cases h0 : y = 0
  · subst h0
    go_wp2_with fail
    refine (l1Int_of w2 (zs := [0, -1, 5]) rfl rfl (by intro z hz; simp at hz; rcases hz with rfl | rfl | rfl <;> exact inI64 (by omega) (by omega)) rfl (by decide) (by simp [maxLen]) (HC2.out.alloc _) (by omega)).mono ?_
    rintro e w3 ⟨v, ⟨x, hx, rfl⟩, rfl, hc3, hk3⟩
    have HX3 := Lib.hid (box_kept (HX2.out.alloc _) hk3 (by omega))
    have HR3 := Lib.hid (box_kept (HR2.out.alloc _) hk3 (by omega))
    have HO3 := Lib.hid (own_kept (HO2.out.alloc _) hk3 (by omega))
    have HC3 := Lib.hid hc3
    have HK3 := Lib.hid (((HK2.out).alloc _).trans hk3)
    have HXX := Lib.hid hx
    have hs3 : w2.heap.size + 1 ≤ w3.heap.size := by have := hk3.size; simpa using this
    clear hc3 hk3 hx c0 c1 f0 f1 r0 r1 g0 g1
    have c0 := HX3.out.cell (j := 0) rfl
    have c1 := HX3.out.cell (j := 1) rfl
    have f1 := HX3.out.warm (j := 1) rfl
    have r0 := HR3.out.cell (j := 0) rfl
    have r1 := HR3.out.cell (j := 1) rfl
    have g0 := HR3.out.warm (j := 0) rfl
    have g1 := HR3.out.warm (j := 1) rfl
    go_wp2
    refine bodyPost_ret (v := .agg #[.slice A n c, .int .i64 x]) (by simp [results, Try.results42, go_sem, r0, r1]) rfl ⟨A, n, c, l, x, rfl, ?_, ?_, ?_, ?_⟩
    · refine .inr (.inl ⟨nd, HD.out, ?_⟩)
      have := HXX.out
      simp at this
      omega
    · refine (Own.top (hi := K) ?_)
      refine Own.store (Own.store (Own.store HO3.out _ ?_) _ ?_) _ ?_ <;> simp
    · refine cur_low HC3.out (Below.setCell (Below.setCell ((Below.refl _ _).setCell ?_ _) ?_ _) ?_ _) <;> (simp; omega)
    · refine kept_then HK3.out (Below.setCell (Below.setCell ((Below.refl _ _).setCell ?_ _) ?_ _) ?_ _) <;> simp
      omega
  by_cases h1 : y = 1
  · subst h1
    have HO2' := Lib.hid HO2.out
    have hrow : ∀ j, j < 3 → ((w2.alloc (.cells #[.int .i64 1, .int .i64 99, .int .i64 100] 3)).drew).cell? ⟨w2.heap.size, j, none⟩ = some (.int .i64 ([1, 99, 100].getD j 0)) := fun j hj => by
      show (w2.alloc (.cells #[.int .i64 1, .int .i64 99, .int .i64 100] 3)).cell? ⟨w2.heap.size, j, none⟩ = _
      rw [World.cell?_alloc_at _ _ _ _ rfl]
      match j, hj with
      | 0, _ => rfl
      | 1, _ => rfl
      | 2, _ => rfl
    have HL := Lib.hid (fun c => l1Int_in (c := c) _ hrow rfl (by decide) (by simp [maxLen]) (show w2.heap.size < (w2.alloc (.cells #[.int .i64 1, .int .i64 99, .int .i64 100] 3)).drew.heap.size by simp [World.drew]) (show w2.heap.size ≠ g by omega) (HC2.out.below (((Below.refl _ _).alloc (Nat.le_refl _) (.cells #[.int .i64 1, .int .i64 99, .int .i64 100] 3)).drew)))
    have HKd := Lib.hid (Kept.of_below (g := g) (((Below.refl w2.heap.size w2).alloc (Nat.le_refl _) (.cells #[.int .i64 1, .int .i64 99, .int .i64 100] 3)).drew))
    clear hrow
    have HIN := Lib.hid (show ∀ x : Int, x ∈ [(1 : Int), 99, 100] → In .i64 x from fun x hx => by simp at hx; rcases hx with rfl | rfl | rfl <;> exact inI64 (by omega) (by omega))
    have hnn : n + 1 ≤ 8796093022208 := by omega
    have hkg : K ≠ g := by omega
    have hwg : w.heap.size ≠ g := by omega
    have HLE := Lib.hid (show ∀ s : Nat, w2.heap.size ≤ s → w.heap.size + 1 ≤ s + 1 from fun s hs => by omega)
    have hgw : g < w.heap.size + 1 := by omega
    have HNB := Lib.hid (show ∀ b : Nat, b < K → b ≠ K from fun b hb => by omega)
    have HSm := Lib.hid (show (A.map (·.block)) = none ∨ ∃ b, A.map (·.block) = some b ∧ b < K ∧ w.heap.size < b by
      cases A with
      | none => exact .inl rfl
      | some a => exact .inr ⟨a.block, rfl, HO2.out.hi a rfl, by have := HO2.out.ge a rfl; omega⟩)
    go_wp2_with fail
    go_region_law ((first
      | (go_simp; go_at_call 61; refine (HL.out _).mono ?_; rintro e w3 ⟨v, ⟨x, hx, rfl⟩, rfl, hc3, hk3⟩; have HX3 := Lib.hid (box_kept HX2.out (HKd.out.trans hk3) hkg); have HR3 := Lib.hid (box_kept HR2.out (HKd.out.trans hk3) hwg); have HO3 := Lib.hid (own_kept HO2.out (HKd.out.trans hk3) hgw); have HC3 := Lib.hid hc3; have HK3 := Lib.hid (HK2.out.trans (HKd.out.trans hk3)); have HXX := Lib.hid hx; have HS3 := Lib.hid (HKd.out.trans hk3).size; have hxi : In .i64 x := HIN.out x hx; have c0' := HX3.out.cell (j := 0) rfl; have hKw3 : K < w3.heap.size := Nat.lt_of_lt_of_le hk2 HS3.out; clear hc3 hk3 hx)
      | (refine step_app (k := .i64) (by unfold BI; decide) rfl (.tmp 17) (.tmp 21) rfl rfl (HO3.out.alloc _) rfl (rd_new .i64 w3 hxi) hnn (by simp; have := HS3.out; omega) ?_; intro A4 c4 w4 hown4 hgr4; have HO4 := Lib.hid hown4; have HG4 := Lib.hid hgr4; have HX4 := Lib.hid ((HX3.out.alloc (.cells #[.int .i64 x] 3)).keep (RepA.Gr.kept hgr4 (HX3.out.alloc _).lt (fun a e => HNB.out _ (HO3.out.hi a e)))); have d0 := HX4.out.cell (j := 0) rfl; have d1 := HX4.out.cell (j := 1) rfl; have p0 := HX4.out.warm (j := 0) rfl; clear hown4 hgr4)))
    all_goals
      have hbl := HG4.out.below (B := w.heap.size + 1) (by have := HS3.out; simp; omega) HO3.out.ge
      have HBl := Lib.hid ((((Below.refl (w.heap.size + 1) w3).alloc (by have := HS3.out; omega) _).trans hbl))
      have HR4 := Lib.hid (HR3.out.below HBl.out (by omega))
      have hs4 := HBl.out.size
      have hs3 := HS3.out
      have r0' := HR4.out.cell (j := 0) rfl
      have r1' := HR4.out.cell (j := 1) rfl
      have p2 := HR4.out.warm (j := 0) rfl
      have p3 := HR4.out.warm (j := 1) rfl
      have HNE := Lib.hid (show ∀ a, A4 = some a → a.block ≠ K from fun a e => by
        rcases HG4.out.2 a e with h | h
        · rcases HSm.out with h5 | ⟨b, h5, h6, _⟩
          · rw [h5] at h; cases h
          · rw [h5] at h
            injection h with h
            omega
        · simp at h; omega)
      clear hbl c0 c1 f0 f1 r0 r1 g0 g1 c0'
      go_wp2
      refine bodyPost_ret (v := .agg #[.slice A4 (n + 1) c4, .int .i64 nd]) (by simp [results, Try.results42, go_sem, r0', r1']) rfl ⟨A4, n + 1, c4, l ++ [x], nd, rfl, ?_, ?_, ?_, ?_⟩
      · refine .inr (.inr (.inl ⟨l, x, HD.out, ?_, rfl⟩))
        have := HXX.out
        simpa using this
      · refine Own.top (hi := w4.heap.size) ?_
        refine Own.store (Own.store (own_store_ne HO4.out _ HNE.out) _ (.inl ?_)) _ (.inl ?_) <;> simp
      · refine cur_low HC3.out (Below.setCell (Below.setCell (Below.setCell (HBl.out.mono (by omega)) ?_ _) ?_ _) ?_ _) <;> (simp; try omega)
      · refine kept_then HK3.out (Below.setCell (Below.setCell (Below.setCell (HBl.out.mono (by omega)) ?_ _) ?_ _) ?_ _) <;> simp <;> omega
  by_cases h2 : y = 2
  · subst h2
    go_wp2
    refine bodyPost_ret (v := .agg #[.slice (some (⟨w2.heap.size, 0, none⟩ : Addr)) 0 0, .int .i64 nd]) (by simp [results, Try.results42, go_sem, r0, r1, hw2]) rfl ⟨some ⟨w2.heap.size, 0, none⟩, 0, 0, [], nd, rfl, ?_, ?_, ?_, ?_⟩
    · exact .inr (.inr (.inr ⟨rfl, l, HD.out⟩))
    · exact (own_lit .i64 _ (b := w2.heap.size) (zs := []) (n := 0) (cs := #[]) (lo := w.heap.size + 1) (by simp) rfl rfl rfl (by simp) (by simp; omega) (by simp [maxLen])).top
    · refine cur_low HC2.out (Below.alloc (Below.setCell (Below.setCell ((Below.refl _ _).setCell ?_ _) ?_ _) ?_ _) ?_ _) <;> (simp; try omega)
    · refine kept_then HK2.out (Below.alloc (Below.setCell (Below.setCell ((Below.refl _ _).setCell ?_ _) ?_ _) ?_ _) ?_ _) <;> simp <;> omega
  · go_wp2
    refine bodyPost_ret (v := .agg #[.slice A n c, .int .i64 nd]) (by simp [results, Try.results42, go_sem, r0, r1]) rfl ⟨A, n, c, l, nd, rfl, .inl HD.out, ?_, ?_, ?_⟩
    · refine (Own.top (hi := K) ?_)
      refine Own.store (Own.store HO2.out _ ?_) _ ?_ <;> simp
    · refine cur_low HC2.out (Below.setCell ((Below.refl _ _).setCell ?_ _) ?_ _) <;> (simp; try omega)
    · refine kept_then HK2.out (Below.setCell ((Below.refl _ _).setCell ?_ _) ?_ _) <;> simp
theorem l6Copy_any (w : World) (A : Option Addr) (n c : Nat) (l : List Int) (nd : Int) (h : Rd .i64 w w.heap.size A n l) (hn : n ≤ 1099511627776) : Calls Try.prog 62 #[.agg #[.slice A n c, .int .i64 nd]] w fun e w' =>
    ∃ A' c', e = .returned (.agg #[.slice A' n c', .int .i64 nd]) ∧ Own .i64 w' w.heap.size w'.heap.size A' n c' l ∧ Below w.heap.size w w' := by
  have HB := Lib.hid ((Below.refl w.heap.size w).alloc (Nat.le_refl _) (.cells #[.slice A n c, .int .i64 nd] 26) |>.alloc (by simp) (.cells #[.slice none 0 0, .int .i64 0] 26))
  generalize hW : ((w.alloc (.cells #[.slice A n c, .int .i64 nd] 26)).alloc (.cells #[.slice none 0 0, .int .i64 0] 26)) = W at HB
  have HBX := Lib.hid (show Box W w.heap.size [.slice A n c, .int .i64 nd] by rw [← hW]; exact (Box.new w #[.slice A n c, .int .i64 nd] 26).alloc _)
  have HBR := Lib.hid (show Box W (w.heap.size + 1) [.slice none 0 0, .int .i64 0] by rw [← hW]; have h := Box.new (w.alloc (.cells #[.slice A n c, .int .i64 nd] 26)) #[.slice none 0 0, .int .i64 0] 26; simpa using h)
  have hsz : W.heap.size = w.heap.size + 2 := by rw [← hW]; simp
  have HSZ := Lib.hid hsz
  have HR := Lib.hid (h.below HB.out (Nat.le_refl _))
  have HW := Lib.hid hW
  clear hW h hsz
  go_enter Try.func62, Try.ntmps62
  go_wp2_with fail
  rw [HW.out]
  have HL0 := Lib.hid ((Own.lit0 .i64 (lo := W.heap.size) W (Nat.le_refl _)).same (w' := (W.alloc (.cells #[] 3)).drew) ⟨rfl, rfl, rfl, rfl⟩)
  have HR0 := Lib.hid ((HR.out.alloc HB.out.size (.cells #[] 3)).same (w' := (W.alloc (.cells #[] 3)).drew) ⟨rfl, rfl, rfl, rfl⟩)
  have HBd := Lib.hid (((Below.refl W.heap.size W).alloc (Nat.le_refl _) (.cells #[] 3)).drew)
  have c0 := HBX.out.cell (j := 0) rfl
  have c1 := HBX.out.cell (j := 1) rfl
  have r0 := HBR.out.cell (j := 0) rfl
  have r1 := HBR.out.cell (j := 1) rfl
  have hn2 : 0 + n ≤ 8796093022208 := by omega
  have hlt0 : w.heap.size < W.heap.size := by have := HSZ.out; omega
  have hlt1 : w.heap.size + 1 < W.heap.size := by have := HSZ.out; omega
  have HSd := Lib.hid (show W.heap.size ≤ (W.alloc (.cells #[] 3)).drew.heap.size by simp [World.drew])
  go_region_law ((first
    | (refine step_app (k := .i64) (by unfold BI; decide) rfl (.tmp 3) (.tmp 5) rfl rfl HL0.out rfl HR0.out hn2 HSd.out ?_; intro A4 c4 w4 hown4 hgr4; have HO4 := Lib.hid hown4; have HB4 := Lib.hid (HBd.out.trans (hgr4.below HSd.out HL0.out.ge)); have HX4 := Lib.hid (HBX.out.below HB4.out hlt0); have HR4 := Lib.hid (HBR.out.below HB4.out hlt1); have d1 := HX4.out.cell (j := 1) rfl; have e0 := HR4.out.cell (j := 0) rfl; have e1 := HR4.out.cell (j := 1) rfl; have f0 := HR4.out.warm (j := 0) rfl; have f1 := HR4.out.warm (j := 1) rfl; clear hown4 hgr4)))
  all_goals
    have HO5 := HO4.out
    simp only [Nat.zero_add, List.nil_append] at HO5
    have HO6 := Lib.hid HO5
    have hs4 := HB4.out.size
    clear HO5 c0 c1 r0 r1
    go_wp2
    refine bodyPost_ret (v := .agg #[.slice A4 n c4, .int .i64 nd]) (by simp [results, Try.results62, go_sem, e0, e1]) rfl ⟨A4, c4, rfl, ?_, ?_⟩
    · refine (Own.top (hi := w4.heap.size) ?_).base (show w.heap.size ≤ W.heap.size by omega)
      refine Own.store (Own.store HO6.out _ (.inl ?_)) _ (.inl ?_) <;> simp <;> omega
    · refine Below.setCell (Below.setCell (HB.out.trans (HB4.out.mono (by omega))) ?_ _) ?_ _ <;> simp
end Go.Proofs.Ytkkkaaboeddkoaa.D06
