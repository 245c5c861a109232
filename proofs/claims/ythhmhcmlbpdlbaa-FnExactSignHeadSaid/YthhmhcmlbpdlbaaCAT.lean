/- The library's slices.Concat of rows of numbers: one new row of them all, one behind the other. -/
import Derived.Lib.AppendZeros
import Derived.Lib.Hide
import Derived.Test.YthhmhcmlbpdlbaaRep
namespace Go.Proofs.Ythhmhcmlbpdlbaa.CAT
open Go.RowKit Mem Rep
set_option linter.unusedVariables false
set_option linter.unusedSimpArgs false
set_option maxRecDepth 100000
/-- a row of rows of numbers -/
structure RowsI (w : World) (B : Nat) (A : Option Addr) (n : Nat) (zss : List (List Int)) : Prop where
  len : zss.length = n
  cells : 0 < n → ∃ b off, A = some ⟨b, off, none⟩ ∧ b < B ∧ ∀ i z, zss[i]? = some z → ∃ A' c', w.cell? ⟨b, off + i, none⟩ = some (.slice A' z.length c') ∧ Rd .i64 w B A' z.length z
theorem RowsI.below {w w' : World} {B B' : Nat} {A : Option Addr} {n : Nat} {zss : List (List Int)} (h : RowsI w B A n zss) (hb : Below B' w w') (hB : B ≤ B') : RowsI w' B A n zss :=
  ⟨h.len, fun hn => by
    obtain ⟨b, off, e, hlt, hc⟩ := h.cells hn
    refine ⟨b, off, e, hlt, fun i z hz => ?_⟩
    obtain ⟨A', c', h1, h2⟩ := hc i z hz
    exact ⟨A', c', (hb.cell (p := ⟨b, off + i, none⟩) (Nat.lt_of_lt_of_le hlt hB)).trans h1, h2.below hb hB⟩⟩
theorem RowsI.more {w : World} {B B' : Nat} {A : Option Addr} {n : Nat} {zss : List (List Int)} (h : RowsI w B A n zss) (hB : B ≤ B') : RowsI w B' A n zss :=
  ⟨h.len, fun hn => by
    obtain ⟨b, off, e, hlt, hc⟩ := h.cells hn
    refine ⟨b, off, e, Nat.lt_of_lt_of_le hlt hB, fun i z hz => ?_⟩
    obtain ⟨A', c', h1, h2⟩ := hc i z hz
    exact ⟨A', c', h1, h2.more hB⟩⟩
/-- what the cells of a literal hold -/
inductive Ls (w : World) (B : Nat) : List Value → List (List Int) → Prop
  | nil : Ls w B [] []
  | cons {A : Option Addr} {c : Nat} {z : List Int} {vs : List Value} {zss : List (List Int)} : Rd .i64 w B A z.length z → Ls w B vs zss → Ls w B (.slice A z.length c :: vs) (z :: zss)
theorem Ls.len {w : World} {B : Nat} {vs : List Value} {zss : List (List Int)} (h : Ls w B vs zss) : vs.length = zss.length := by
  induction h with
  | nil => rfl
  | cons _ _ ih => simp [ih]
theorem Ls.get {w : World} {B : Nat} {vs : List Value} {zss : List (List Int)} (h : Ls w B vs zss) : ∀ (i : Nat) (z : List Int), zss[i]? = some z → ∃ A c, vs[i]? = some (.slice A z.length c) ∧ Rd .i64 w B A z.length z := by
  induction h with
  | nil => intro i z hz; simp at hz
  | cons h1 _ ih =>
    intro i z hz
    rcases i with _ | i
    · simp only [List.getElem?_cons_zero, Option.some.injEq] at hz
      subst hz
      exact ⟨_, _, rfl, h1⟩
    · exact ih i z (by simpa using hz)
/-- '[][]int{a, b, ..}' -/
theorem rows_new {w : World} {vs : List Value} {zss : List (List Int)} (ty : TypeId) (h : Ls w w.heap.size vs zss) : RowsI (w.alloc (.cells vs.toArray ty)) (w.heap.size + 1) (some ⟨w.heap.size, 0, none⟩) zss.length zss :=
  ⟨rfl, fun _ => ⟨_, _, rfl, by omega, fun i z hz => by
    obtain ⟨A, c, h1, h2⟩ := h.get i z hz
    refine ⟨A, c, ?_, (h2.alloc (Nat.le_refl _) _).more (by omega)⟩
    rw [Nat.zero_add, World.cell?_alloc_at _ _ _ _ rfl]
    simpa using h1⟩⟩
theorem grow_any (n : Nat) (w : World) (hn : n ≤ 1099511627776) :
    Calls Try.prog 91 #[.slice none 0 0, .int .i64 n] w fun e w' => ∃ A c, e = .returned (.slice A 0 c) ∧ Mem.Own .i64 w' w.heap.size w'.heap.size A 0 c [] ∧ Below w.heap.size w w' := by
  rcases Nat.eq_zero_or_pos n with rfl | h0
  · go_enter Try.func91, Try.ntmps91
    go_wp2
    go_ret
    exact ⟨none, 0, rfl, Own.nil _ _ _ _, Below.refl _ _⟩
  · obtain ⟨i, h1, h2, h3, h4⟩ := info_parts info_int
    have happ := Lib.run_append_nil_zeros (P := Try.prog) w 22 3 22 3 i (.int .i64 0) .i64 .i64 under_int (by kernel_rfl) h1 h2 n h0 (by omega) (by omega) (by rw [h4]; omega)
    generalize hcap : grownCap w n 0 3 = cap2 at happ
    have hge : n ≤ cap2 := by rw [← hcap]; exact grownCap_ge w _ 0 _
    have hle : cap2 ≤ maxLen := by rw [← hcap]; exact grownCap_le_maxLen w _ 0 _ (by unfold maxLen; omega)
    generalize hZ : (Builtin.zeroCells (Value.int .i64 0).cells n ++ Builtin.zeroCells (Value.int .i64 0).cells (cap2 - n)) = Z at happ
    have hZs : Z.size = cap2 := by rw [← hZ]; simp [size_zeroCells, Value.cells]; omega
    have HO := Lib.hid (show Mem.Own .i64 (w.alloc (.cells Z 3)).drew w.heap.size ((w.alloc (.cells Z 3)).drew).heap.size (some ⟨w.heap.size, 0, none⟩) 0 cap2 [] from
      ⟨rfl, by simp, (World.ownsRow_made (e := 3) (size := 1) w Z cap2 (Nat.le_refl _) hle (by omega)).drew, fun a e => by injection e with e; subst e; simp [World.drew]⟩)
    have HB := Lib.hid (show Below w.heap.size w (w.alloc (.cells Z 3)).drew from ((Below.refl _ _).alloc (Nat.le_refl _) _).drew)
    clear hcap hZ hZs
    go_enter Try.func91, Try.ntmps91
    go_wp2_with (at_builtin; refine Lib.wpList_append_run _ rfl _ _ _ _ rfl _ _ rfl rfl _ _ happ ?_)
    go_ret
    exact ⟨_, _, rfl, HO.out, HB.out⟩
theorem getD_some {l : List (List Int)} {j : Nat} (h : j < l.length) : l[j]? = some (l.getD j default) := by simp [List.getD, List.getElem?_eq_getElem h]
theorem flat_take {l : List (List Int)} {j : Nat} (h : j < l.length) : (l.take (j + 1)).flatten = (l.take j).flatten ++ l.getD j default := by
  rw [List.take_add_one, List.flatten_append]
  simp [List.getD, List.getElem?_eq_getElem h]
theorem flat_le (l : List (List Int)) (j : Nat) : (l.take j).flatten.length ≤ l.flatten.length := by
  conv => rhs; rw [← List.take_append_drop j l]
  rw [List.flatten_append, List.length_append]
  omega
set_option maxHeartbeats 2000000 in
theorem concat_any (A : Option Addr) (n c : Nat) (zss : List (List Int)) (w : World) (h : RowsI w w.heap.size A n zss) (hn : zss.flatten.length ≤ 1099511627776) (hm : n ≤ 1099511627776) :
    Calls Try.prog 69 #[.slice A n c] w fun e w' => ∃ A' c', e = .returned (.slice A' zss.flatten.length c') ∧ Mem.Own .i64 w' w.heap.size w'.heap.size A' zss.flatten.length c' zss.flatten ∧ Below w.heap.size w w' := by
  have HL := Lib.hid h.len
  have H := Lib.hid h
  have HT := Lib.hid (flat_le zss)
  obtain ⟨N, hN⟩ : ∃ N, N = zss.flatten.length := ⟨_, rfl⟩
  rw [← hN] at hn HT ⊢
  have HN := Lib.hid hN
  clear h hN
  go_enter Try.func69, Try.ntmps69
  go_wp2
  go_loop [3, 11] (fun v i => ∃ j s : Nat, j ≤ n ∧ i = .int .i64 j ∧ v = .int .i64 s ∧ s = (zss.take j).flatten.length) (fun _ i => n - (intOf i).toNat)
  case atStart => exact ⟨0, 0, by omega, rfl, rfl, by simp⟩
  case round =>
    obtain ⟨j, s, hj, rfl, rfl, hs⟩ := hrel
    have hsN : s ≤ N := by rw [hs]; exact HT.out j
    by_cases hjn : j < n
    · obtain ⟨b, off, rfl, hlt, hc⟩ := H.out.cells (by omega)
      obtain ⟨A1, c1, hcell, h3⟩ := hc j (zss.getD j default) (getD_some (by have := HL.out; omega))
      generalize hn1 : (zss.getD j default).length = n1 at hcell h3
      have hlen := hn1
      have hst := flat_take (l := zss) (j := j) (by have := HL.out; omega)
      have hs2 : s + n1 = (zss.take (j + 1)).flatten.length := by rw [hst, List.length_append, hs, hlen]
      have hsN2 : s + n1 ≤ N := by rw [hs2]; exact HT.out (j + 1)
      have HS := Lib.hid hs2
      clear hs hs2 hst h3 hc hlen hn1
      have hpos : ¬ ((s : Int) + (n1 : Int) < 0) := by omega
      go_wp2
      go_round
      case rel => exact ⟨j + 1, s + n1, by omega, by go_num, by go_num, HS.out⟩
      case measure => simp [intOf]; omega
    · have hsN' : s = N := by
        rw [hs, HN.out, List.take_of_length_le (by have := HL.out; omega)]
      subst hsN'
      clear hs hsN
      go_wp2_with fail
      refine (grow_any s _ hn).mono ?_
      rintro e w1 ⟨A2, c2, rfl, hown, hbel⟩
      have HO := Lib.hid hown
      have HB := Lib.hid hbel
      clear hown hbel
      go_wp2
      go_loopw [6, 27] (fun v i wr => ∃ (A1 : Option Addr) (n1 c1 j : Nat), v = .slice A1 n1 c1 ∧ i = .int .i64 j ∧ j ≤ n ∧ n1 = (zss.take j).flatten.length ∧ Mem.Own .i64 wr w.heap.size wr.heap.size A1 n1 c1 (zss.take j).flatten ∧ Below w.heap.size w wr) (fun _ i _ => n - (intOf i).toNat)
      case atStart => exact ⟨_, 0, _, 0, rfl, rfl, by omega, by simp, by simpa using HO.out, HB.out⟩
      case round =>
        obtain ⟨A1, n1, c1, j2, rfl, rfl, hj2, hn1, hown, hbel⟩ := hrel
        have hlo := hbel.size
        have hnb : n1 ≤ s := by rw [hn1]; exact HT.out j2
        have HN1 := Lib.hid hn1
        have HO := Lib.hid hown
        have HX := Lib.hid hbel
        clear hn1 hown hbel
        by_cases hjn2 : j2 < n
        · obtain ⟨b, off, rfl, hlt, hc⟩ := (H.out.below HX.out (Nat.le_refl _)).cells (by omega)
          obtain ⟨A3, c3, hcell, h3⟩ := hc j2 (zss.getD j2 default) (getD_some (by have := HL.out; omega))
          generalize hn3 : (zss.getD j2 default).length = n3 at hcell h3
          have hlen := hn3
          have hst := flat_take (l := zss) (j := j2) (by have := HL.out; omega)
          have hs2 : n1 + n3 = (zss.take (j2 + 1)).flatten.length := by rw [hst, List.length_append, HN1.out, hlen]
          have hsN2 : n1 + n3 ≤ s := by rw [hs2]; exact HT.out (j2 + 1)
          have HR := Lib.hid h3
          have HS := Lib.hid hs2
          have HST := Lib.hid hst
          clear h3 hc hlen hs2 hst hn3
          go_wp2_with (at_builtin; refine wp_app (k := .i64) (by unfold BI; decide) rfl _ _ rfl rfl HO.out rfl HR.out (by omega) hlo ?_; intro A4 c4 w4 hown4 hgr4)
          go_roundw
          case rel => exact ⟨A4, n1 + n3, c4, j2 + 1, rfl, by go_num, by omega, HS.out, by rw [HST.out]; exact hown4, HX.out.trans (hgr4.below hlo HO.out.ge)⟩
          case measure => simp [intOf]; omega
        · have e : zss.take j2 = zss := List.take_of_length_le (by have := HL.out; omega)
          go_wp2
          go_ret
          have hN := HN1.out
          have hO := HO.out
          rw [e] at hN hO
          have e2 : n1 = s := hN.trans HN.out.symm
          subst e2
          exact ⟨_, _, rfl, hO, HX.out⟩
end Go.Proofs.Ythhmhcmlbpdlbaa.CAT
