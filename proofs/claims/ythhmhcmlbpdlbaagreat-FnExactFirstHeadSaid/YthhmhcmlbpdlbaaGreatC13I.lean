/- The library's slices.Concat of rows of numbers: one new row of them all, one behind the other. Chapter 13: heads: what the program's functions return. -/
import Derived.Lib.AppendZeros
import Derived.Lib.Hide
import Derived.Test.YthhmhcmlbpdlbaaGreatRep
import Derived.Test.YthhmhcmlbpdlbaaGreatC13S
import Derived.Test.YthhmhcmlbpdlbaaGreatC06I
import Derived.Test.YthhmhcmlbpdlbaaGreatLD
import Derived.Test.YthhmhcmlbpdlbaaGreatRKA
namespace Go.Proofs.YthhmhcmlbpdlbaaGreat.CAT
open Go.RowKit Mem Rep
set_option linter.unusedVariables false
set_option linter.unusedSimpArgs false
set_option maxRecDepth 100000
/-- a row of rows of numbers -/
structure RowsI (w : World) (B : Nat) (A : Option Addr) (n : Nat) (zss : List (List Int)) : Prop where
  len : zss.length = n
  cells : 0 < n → ∃ b off, A = some ⟨b, off, none⟩ ∧ b < B ∧ ∀ i z, zss[i]? = some z → ∃ A' c', w.cell? ⟨b, off + i, none⟩ = some (.slice A' z.length c') ∧ Rd .i64 w B A' z.length z
theorem RowsI.below {w w' : World} {B B' : Nat} {A : Option Addr} {n : Nat} {zss : List (List Int)} (h : RowsI w B A n zss) (hb : Below B' w w') (hB : B ≤ B') : RowsI w' B A n zss :=
  ⟨h.len, fun hn => by
    obtain ⟨b, off, e, hlt, hc⟩ := h.cells hn
    refine ⟨b, off, e, hlt, fun i z hz => ?_⟩
    obtain ⟨A', c', h1, h2⟩ := hc i z hz
    exact ⟨A', c', (hb.cell (p := ⟨b, off + i, none⟩) (Nat.lt_of_lt_of_le hlt hB)).trans h1, h2.below hb hB⟩⟩
theorem RowsI.more {w : World} {B B' : Nat} {A : Option Addr} {n : Nat} {zss : List (List Int)} (h : RowsI w B A n zss) (hB : B ≤ B') : RowsI w B' A n zss :=
  ⟨h.len, fun hn => by
    obtain ⟨b, off, e, hlt, hc⟩ := h.cells hn
    refine ⟨b, off, e, Nat.lt_of_lt_of_le hlt hB, fun i z hz => ?_⟩
    obtain ⟨A', c', h1, h2⟩ := hc i z hz
    exact ⟨A', c', h1, h2.more hB⟩⟩
/-- what the cells of a literal hold -/
inductive Ls (w : World) (B : Nat) : List Value → List (List Int) → Prop
  | nil : Ls w B [] []
  | cons {A : Option Addr} {c : Nat} {z : List Int} {vs : List Value} {zss : List (List Int)} : Rd .i64 w B A z.length z → Ls w B vs zss → Ls w B (.slice A z.length c :: vs) (z :: zss)
theorem Ls.len {w : World} {B : Nat} {vs : List Value} {zss : List (List Int)} (h : Ls w B vs zss) : vs.length = zss.length := by
  induction h with
  | nil => rfl
  | cons _ _ ih => simp [ih]
theorem Ls.get {w : World} {B : Nat} {vs : List Value} {zss : List (List Int)} (h : Ls w B vs zss) : ∀ (i : Nat) (z : List Int), zss[i]? = some z → ∃ A c, vs[i]? = some (.slice A z.length c) ∧ Rd .i64 w B A z.length z := by
  induction h with
  | nil => intro i z hz; simp at hz
  | cons h1 _ ih =>
    intro i z hz
    rcases i with _ | i
    · simp only [List.getElem?_cons_zero, Option.some.injEq] at hz
      subst hz
      exact ⟨_, _, rfl, h1⟩
    · exact ih i z (by simpa using hz)
/-- '[][]int{a, b, ..}' -/
theorem rows_new {w : World} {vs : List Value} {zss : List (List Int)} (ty : TypeId) (h : Ls w w.heap.size vs zss) : RowsI (w.alloc (.cells vs.toArray ty)) (w.heap.size + 1) (some ⟨w.heap.size, 0, none⟩) zss.length zss :=
  ⟨rfl, fun _ => ⟨_, _, rfl, by omega, fun i z hz => by
    obtain ⟨A, c, h1, h2⟩ := h.get i z hz
    refine ⟨A, c, ?_, (h2.alloc (Nat.le_refl _) _).more (by omega)⟩
    rw [Nat.zero_add, World.cell?_alloc_at _ _ _ _ rfl]
    simpa using h1⟩⟩
theorem grow_any (n : Nat) (w : World) (hn : n ≤ 1099511627776) :
    Calls Tryz.prog 127 #[.slice none 0 0, .int .i64 n] w fun e w' => ∃ A c, e = .returned (.slice A 0 c) ∧ Mem.Own .i64 w' w.heap.size w'.heap.size A 0 c [] ∧ Below w.heap.size w w' := by
  rcases Nat.eq_zero_or_pos n with rfl | h0
  · go_enter Tryz.func127, Tryz.ntmps127
    go_wp2
    go_ret
    exact ⟨none, 0, rfl, Own.nil _ _ _ _, Below.refl _ _⟩
  · obtain ⟨i, h1, h2, h3, h4⟩ := info_parts info_int
    have happ := Lib.run_append_nil_zeros (P := Tryz.prog) w 24 3 24 3 i (.int .i64 0) .i64 .i64 under_int (by kernel_rfl) h1 h2 n h0 (by omega) (by omega) (by rw [h4]; omega)
    generalize hcap : grownCap w n 0 3 = cap2 at happ
    have hge : n ≤ cap2 := by rw [← hcap]; exact grownCap_ge w _ 0 _
    have hle : cap2 ≤ maxLen := by rw [← hcap]; exact grownCap_le_maxLen w _ 0 _ (by unfold maxLen; omega)
    generalize hZ : (Builtin.zeroCells (Value.int .i64 0).cells n ++ Builtin.zeroCells (Value.int .i64 0).cells (cap2 - n)) = Z at happ
    have hZs : Z.size = cap2 := by rw [← hZ]; simp [size_zeroCells, Value.cells]; omega
    have HO := Lib.hid (show Mem.Own .i64 (w.alloc (.cells Z 3)).drew w.heap.size ((w.alloc (.cells Z 3)).drew).heap.size (some ⟨w.heap.size, 0, none⟩) 0 cap2 [] from
      ⟨rfl, by simp, (World.ownsRow_made (e := 3) (size := 1) w Z cap2 (Nat.le_refl _) hle (by omega)).drew, fun a e => by injection e with e; subst e; simp [World.drew]⟩)
    have HB := Lib.hid (show Below w.heap.size w (w.alloc (.cells Z 3)).drew from ((Below.refl _ _).alloc (Nat.le_refl _) _).drew)
    clear hcap hZ hZs
    go_enter Tryz.func127, Tryz.ntmps127
    go_wp2_with (at_builtin; refine Lib.wpList_append_run _ rfl _ _ _ _ rfl _ _ rfl rfl _ _ happ ?_)
    go_ret
    exact ⟨_, _, rfl, HO.out, HB.out⟩
theorem getD_some {l : List (List Int)} {j : Nat} (h : j < l.length) : l[j]? = some (l.getD j default) := by simp [List.getD, List.getElem?_eq_getElem h]
theorem flat_take {l : List (List Int)} {j : Nat} (h : j < l.length) : (l.take (j + 1)).flatten = (l.take j).flatten ++ l.getD j default := by
  rw [List.take_add_one, List.flatten_append]
  simp [List.getD, List.getElem?_eq_getElem h]
theorem flat_le (l : List (List Int)) (j : Nat) : (l.take j).flatten.length ≤ l.flatten.length := by
  conv => rhs; rw [← List.take_append_drop j l]
  rw [List.flatten_append, List.length_append]
  omega
set_option maxHeartbeats 2000000 in
theorem concat_any (A : Option Addr) (n c : Nat) (zss : List (List Int)) (w : World) (h : RowsI w w.heap.size A n zss) (hn : zss.flatten.length ≤ 1099511627776) (hm : n ≤ 1099511627776) :
    Calls Tryz.prog 91 #[.slice A n c] w fun e w' => ∃ A' c', e = .returned (.slice A' zss.flatten.length c') ∧ Mem.Own .i64 w' w.heap.size w'.heap.size A' zss.flatten.length c' zss.flatten ∧ Below w.heap.size w w' := by
  have HL := Lib.hid h.len
  have H := Lib.hid h
  have HT := Lib.hid (flat_le zss)
  obtain ⟨N, hN⟩ : ∃ N, N = zss.flatten.length := ⟨_, rfl⟩
  rw [← hN] at hn HT ⊢
  have HN := Lib.hid hN
  clear h hN
  go_enter Tryz.func91, Tryz.ntmps91
  go_wp2
  go_loop [3, 11] (fun v i => ∃ j s : Nat, j ≤ n ∧ i = .int .i64 j ∧ v = .int .i64 s ∧ s = (zss.take j).flatten.length) (fun _ i => n - (intOf i).toNat)
  case atStart => exact ⟨0, 0, by omega, rfl, rfl, by simp⟩
  case round =>
    obtain ⟨j, s, hj, rfl, rfl, hs⟩ := hrel
    have hsN : s ≤ N := by rw [hs]; exact HT.out j
    by_cases hjn : j < n
    · obtain ⟨b, off, rfl, hlt, hc⟩ := H.out.cells (by omega)
      obtain ⟨A1, c1, hcell, h3⟩ := hc j (zss.getD j default) (getD_some (by have := HL.out; omega))
      generalize hn1 : (zss.getD j default).length = n1 at hcell h3
      have hlen := hn1
      have hst := flat_take (l := zss) (j := j) (by have := HL.out; omega)
      have hs2 : s + n1 = (zss.take (j + 1)).flatten.length := by rw [hst, List.length_append, hs, hlen]
      have hsN2 : s + n1 ≤ N := by rw [hs2]; exact HT.out (j + 1)
      have HS := Lib.hid hs2
      clear hs hs2 hst h3 hc hlen hn1
      have hpos : ¬ ((s : Int) + (n1 : Int) < 0) := by omega
      go_wp2
      go_round
      case rel => exact ⟨j + 1, s + n1, by omega, by go_num, by go_num, HS.out⟩
      case measure => simp [intOf]; omega
    · have hsN' : s = N := by
        rw [hs, HN.out, List.take_of_length_le (by have := HL.out; omega)]
      subst hsN'
      clear hs hsN
      go_wp2_with fail
      refine (grow_any s _ hn).mono ?_
      rintro e w1 ⟨A2, c2, rfl, hown, hbel⟩
      have HO := Lib.hid hown
      have HB := Lib.hid hbel
      clear hown hbel
      go_wp2
      go_loopw [6, 27] (fun v i wr => ∃ (A1 : Option Addr) (n1 c1 j : Nat), v = .slice A1 n1 c1 ∧ i = .int .i64 j ∧ j ≤ n ∧ n1 = (zss.take j).flatten.length ∧ Mem.Own .i64 wr w.heap.size wr.heap.size A1 n1 c1 (zss.take j).flatten ∧ Below w.heap.size w wr) (fun _ i _ => n - (intOf i).toNat)
      case atStart => exact ⟨_, 0, _, 0, rfl, rfl, by omega, by simp, by simpa using HO.out, HB.out⟩
      case round =>
        obtain ⟨A1, n1, c1, j2, rfl, rfl, hj2, hn1, hown, hbel⟩ := hrel
        have hlo := hbel.size
        have hnb : n1 ≤ s := by rw [hn1]; exact HT.out j2
        have HN1 := Lib.hid hn1
        have HO := Lib.hid hown
        have HX := Lib.hid hbel
        clear hn1 hown hbel
        by_cases hjn2 : j2 < n
        · obtain ⟨b, off, rfl, hlt, hc⟩ := (H.out.below HX.out (Nat.le_refl _)).cells (by omega)
          obtain ⟨A3, c3, hcell, h3⟩ := hc j2 (zss.getD j2 default) (getD_some (by have := HL.out; omega))
          generalize hn3 : (zss.getD j2 default).length = n3 at hcell h3
          have hlen := hn3
          have hst := flat_take (l := zss) (j := j2) (by have := HL.out; omega)
          have hs2 : n1 + n3 = (zss.take (j2 + 1)).flatten.length := by rw [hst, List.length_append, HN1.out, hlen]
          have hsN2 : n1 + n3 ≤ s := by rw [hs2]; exact HT.out (j2 + 1)
          have HR := Lib.hid h3
          have HS := Lib.hid hs2
          have HST := Lib.hid hst
          clear h3 hc hlen hs2 hst hn3
          go_wp2_with (at_builtin; refine wp_app (k := .i64) (by unfold BI; decide) rfl _ _ rfl rfl HO.out rfl HR.out (by omega) hlo ?_; intro A4 c4 w4 hown4 hgr4)
          go_roundw
          case rel => exact ⟨A4, n1 + n3, c4, j2 + 1, rfl, by go_num, by omega, HS.out, by rw [HST.out]; exact hown4, HX.out.trans (hgr4.below hlo HO.out.ge)⟩
          case measure => simp [intOf]; omega
        · have e : zss.take j2 = zss := List.take_of_length_le (by have := HL.out; omega)
          go_wp2
          go_ret
          have hN := HN1.out
          have hO := HO.out
          rw [e] at hN hO
          have e2 : n1 = s := hN.trans HN.out.symm
          subst e2
          exact ⟨_, _, rfl, hO, HX.out⟩
end Go.Proofs.YthhmhcmlbpdlbaaGreat.CAT
namespace Go.Proofs.YthhmhcmlbpdlbaaGreat.C13I
open Go.RowKit Mem MemS Rep R06 R13 M03 M06 M13 C01 C03S C03H C03D C06S C06I CAT BX RG RGS
open RKA hiding inI64
set_option linter.unusedVariables false
set_option linter.unusedSimpArgs false
set_option maxRecDepth 100000
theorem upK {w w' : World} {cs : List Value} {k : Keys} (h : RKeys.rd w (Lt w.heap.size) cs k) (hb : Below w.heap.size w w') : RKeys.rd w' (Lt w'.heap.size) cs k := RKeys.more (RKeys.keep h fun i hi => hb.block i hi) fun i hi => Nat.lt_of_lt_of_le hi hb.size
theorem upH {w w' : World} {cs : List Value} {k : Head} (h : RHead.rd w (Lt w.heap.size) cs k) (hb : Below w.heap.size w w') : RHead.rd w' (Lt w'.heap.size) cs k := RHead.more (RHead.keep h fun i hi => hb.block i hi) fun i hi => Nat.lt_of_lt_of_le hi hb.size
/-- what a head's cells are, part by part -/
theorem head_parts {w : World} {B : Nat} {cs : List Value} {k : Head} (h : RHead.rd w (Lt B) cs k) : ∃ A0 n0 c0 A1 n1 c1 A2 n2 c2, cs = [.int .i64 k.zone, .int .i64 k.epoch, .int .i64 k.kind, .int .i64 k.time, .int .i64 k.until_, .int .i64 k.count, .int .i64 k.root, .int .i64 k.prev, .slice A0 n0 c0, .int .i64 k.keys.need, .slice A1 n1 c1, .int .i64 k.heirs.need, .int .i64 k.wait, .slice A2 n2 c2, .int .i64 k.judge.need, .bool k.frozen] ∧ (In .i64 k.zone ∧ In .i64 k.epoch ∧ In .i64 k.kind ∧ In .i64 k.time ∧ In .i64 k.until_ ∧ In .i64 k.count ∧ In .i64 k.root ∧ In .i64 k.prev ∧ In .i64 k.wait) ∧
    RKeys.rd w (Lt B) [.slice A0 n0 c0, .int .i64 k.keys.need] k.keys ∧ RKeys.rd w (Lt B) [.slice A1 n1 c1, .int .i64 k.heirs.need] k.heirs ∧ RKeys.rd w (Lt B) [.slice A2 n2 c2, .int .i64 k.judge.need] k.judge := by
  obtain ⟨A0, n0, c0, A1, n1, c1, A2, n2, c2, rfl, a1, a2, a3, a4, a5, a6, a7, a8, b1, b2, a9, b3⟩ := RHead_rd.1 h
  exact ⟨A0, n0, c0, A1, n1, c1, A2, n2, c2, rfl, ⟨a1, a2, a3, a4, a5, a6, a7, a8, a9⟩, b1, b2, b3⟩
/-- a row of the call's own, in a region that draws its order -/
def sown9 (lo : Nat) (zs : List Int) : Sy := ⟨fun w x => ∃ A c, x = .slice A zs.length c ∧ Mem.Own .i64 w lo w.heap.size A zs.length c zs ∧ lo ≤ w.heap.size,
  fun u u' x hb ⟨A, c, h1, h2, h3⟩ => ⟨A, c, h1, (h2.below hb (Nat.le_refl _)).top, Nat.le_trans h3 hb.size⟩⟩
theorem sown9_own {w : World} {lo lo' n c : Nat} {A : Option Addr} {zs : List Int} (h : Mem.Own .i64 w lo' w.heap.size A n c zs) (hl : lo ≤ lo') (hh : lo ≤ w.heap.size) : (sown9 lo zs).p w (.slice A n c) := by
  have := h.len
  subst this
  exact ⟨A, c, rfl, h.base hl, hh⟩
/-- a row of rows, in a region that draws its order -/
def srows (zss : List (List Int)) : Sy := ⟨fun w x => ∃ A c, x = .slice A zss.length c ∧ RowsI w w.heap.size A zss.length zss,
  fun u u' x hb ⟨A, c, h1, h2⟩ => ⟨A, c, h1, (h2.below hb (Nat.le_refl _)).more hb.size⟩⟩
theorem srows_new {w : World} {vs : List Value} {zss : List (List Int)} (ty : TypeId) (h : Ls w w.heap.size vs zss) : (srows zss).p (w.alloc (.cells vs.toArray ty)) (.slice (some ⟨w.heap.size, 0, none⟩) zss.length zss.length) :=
  ⟨_, _, rfl, by have := rows_new ty h; simpa using this⟩
theorem iNoKeys_any (cs : List Value) (k : Keys) (w : World) (h : RKeys.rd w (Lt w.heap.size) cs k) :
    Calls Tryz.prog 151 #[.agg cs.toArray] w fun e w' => e = .returned (.bool (noK k)) ∧ Below w.heap.size w w' := by
  obtain ⟨A, n, c, rfl, h1, h2, h3, h4⟩ := RKeys_rd.1 h
  have hl := h3.len
  unfold noK
  rw [hl]
  obtain ⟨l, kn⟩ := k
  simp only
  clear h h3 h4 hl
  have hq : ((n : Int) == 0) = decide (n = 0) := by
    by_cases g : n = 0
    · subst g; rfl
    · rw [decide_eq_false g, beq_eq_false_iff_ne]; omega
  by_cases hk : kn = 0
  all_goals
    go_enter Tryz.func151, Tryz.ntmps151
    go_wp2
    go_ret
    exact ⟨by first | rfl | (simp [hk]; done) | (simp [hk, hq]; done) | (subst hk; simp [hq]), (Below.refl _ _).alloc (Nat.le_refl _) _⟩
theorem iisZoneNumber_any (z : Int) (w : World) : Calls Tryz.prog 77 #[.int .i64 z] w fun e w' => e = .returned (.bool (inR z 0 2147483646)) ∧ w = w' := by
  have HI := Lib.hid (fun w1 => inRange_any z 0 2147483646 w1)
  generalize inR z 0 2147483646 = b at HI ⊢
  go_enter Tryz.func77, Tryz.ntmps77
  go_wp2_with fail
  refine (HI.out _).mono ?_
  rintro e w1 ⟨rfl, rfl⟩
  go_wp2
  go_ret
  exact ⟨rfl, rfl⟩
theorem iisHashValue_any (z : Int) (w : World) : Calls Tryz.prog 78 #[.int .i64 z] w fun e w' => e = .returned (.bool (inR z 0 2147483646)) ∧ w = w' := by
  have HI := Lib.hid (fun w1 => inRange_any z 0 2147483646 w1)
  generalize inR z 0 2147483646 = b at HI ⊢
  go_enter Tryz.func78, Tryz.ntmps78
  go_wp2_with fail
  refine (HI.out _).mono ?_
  rintro e w1 ⟨rfl, rfl⟩
  go_wp2
  go_ret
  exact ⟨rfl, rfl⟩
def termB (t u : Int) : Bool := inR t 0 u && (decide (u ≤ 100000) && decide (u - t ≤ 200))
theorem iisTerm_any (t u : Int) (w : World) (ht : In .i64 t) (hu : In .i64 u) : Calls Tryz.prog 80 #[.int .i64 t, .int .i64 u] w fun e w' => e = .returned (.bool (termB t u)) ∧ w = w' := by
  have ht2 : -9223372036854775808 ≤ t ∧ t ≤ 9223372036854775807 := ht
  have hu2 : -9223372036854775808 ≤ u ∧ u ≤ 9223372036854775807 := hu
  have HI := Lib.hid (fun w1 => inRange_any t 0 u w1)
  unfold termB
  rcases hb : inR t 0 u with _ | _
  · rw [hb] at HI
    clear hb
    go_enter Tryz.func80, Tryz.ntmps80
    go_wp2_with fail
    refine (HI.out _).mono ?_
    rintro e w1 ⟨rfl, rfl⟩
    go_wp2
    go_ret
    exact ⟨by simp, rfl⟩
  · rw [hb] at HI
    have h0 : 0 ≤ t ∧ t ≤ u := by unfold inR at hb; simp at hb; exact hb
    obtain ⟨h0, h1⟩ := h0
    clear hb
    by_cases h2 : u ≤ 100000
    · have d2 : decide (u ≤ 100000) = true := decide_eq_true h2
      have hs : -9223372036854775808 ≤ u - t ∧ u - t ≤ 9223372036854775807 := by omega
      go_enter Tryz.func80, Tryz.ntmps80
      go_wp2_with fail
      refine (HI.out _).mono ?_
      rintro e w1 ⟨rfl, rfl⟩
      go_wp2
      go_ret
      exact ⟨by first | rfl | (simp [d2]; done), rfl⟩
    · have d2 : decide (u ≤ 100000) = false := decide_eq_false h2
      go_enter Tryz.func80, Tryz.ntmps80
      go_wp2_with fail
      refine (HI.out _).mono ?_
      rintro e w1 ⟨rfl, rfl⟩
      go_wp2
      go_ret
      exact ⟨by first | rfl | (simp [d2]; done), rfl⟩
theorem isKeys_noK {k : Keys} (h : isKeys k = true) : noK k = false := by
  unfold isKeys at h
  unfold noK
  simp only [Bool.and_eq_true] at h
  obtain ⟨h1, h2, h3⟩ := h
  unfold inR at h2
  simp at h2
  simp
  intro _ e
  rw [e] at h2
  simp at h2
def roleB (k : Keys) : Bool := noK k || isKeys k
def waitB (h : Head) : Bool := if noK h.heirs = true then decide (h.wait = 0) else inR h.wait 1 500
def freeB (h : Head) : Bool := !h.frozen || !noK h.judge
def rolesB (h : Head) : Bool := isKeys h.keys && (roleB h.heirs && (roleB h.judge && (waitB h && freeB h)))
def isHdI (h : Head) : Bool := inR h.zone 0 2147483646 && (inR h.root 0 2147483646 && (inR h.prev 0 2147483646 && (inR h.epoch 0 200 && (inR h.kind 1 3 && (inR h.count 0 12 && (termB h.time h.until_ && rolesB h))))))
theorem term_eq (t u : Int) : termB t u = (inR t 0 100000 && (inR u t 100000 && decide (u - t ≤ 200))) := by
  unfold termB inR
  rw [Bool.eq_iff_iff]
  simp only [Bool.and_eq_true, decide_eq_true_eq]
  omega
theorem and_all (b1 b2 b3 b4 b5 b6 t t' b10 X J L : Bool) (ht : t = t') (h : (X && J) = L) :
    (b1 && (b2 && (b3 && (b4 && (b5 && (b6 && (t && (b10 && L)))))))) = ((b1 && b2 && b3 && b4 && b5 && (t' && b6 && b10) && X) && J) := by
  subst ht h
  simp only [Bool.and_assoc, Bool.and_comm, Bool.and_left_comm]
theorem isHdI_eq (h : Head) : isHdI h = isHd h := by
  have hn := @isKeys_noK h.judge
  unfold isHdI isHd rolesB roleB waitB freeB
  rw [term_eq]
  generalize inR h.zone 0 2147483646 = b1
  generalize inR h.root 0 2147483646 = b2
  generalize inR h.prev 0 2147483646 = b3
  generalize inR h.epoch 0 200 = b4
  generalize inR h.kind 1 3 = b5
  generalize inR h.count 0 12 = b6
  generalize inR h.time 0 100000 = b7
  generalize inR h.until_ h.time 100000 = b8
  generalize decide (h.until_ - h.time ≤ 200) = b9
  generalize isKeys h.keys = b10
  generalize isKeys h.judge = b11 at hn ⊢
  generalize noK h.judge = b12 at hn ⊢
  have hr : ((if noK h.heirs = true then decide (h.wait = 0) else isKeys h.heirs && inR h.wait 1 500) && (b11 || (b12 && !h.frozen))) = ((noK h.heirs || isKeys h.heirs) && ((b12 || b11) && ((if noK h.heirs = true then decide (h.wait = 0) else inR h.wait 1 500) && (!h.frozen || !b12)))) := by
    generalize isKeys h.heirs = x1
    generalize inR h.wait 1 500 = x2
    generalize decide (h.wait = 0) = x3
    generalize h.frozen = x4
    generalize noK h.heirs = x5
    revert hn
    revert b11 b12 x1 x2 x3 x4 x5
    decide
  exact and_all b1 b2 b3 b4 b5 b6 (b7 && (b8 && b9)) (b7 && b8 && b9) b10 _ _ _ (by rw [Bool.and_assoc]) hr
theorem iisRole_any (cs : List Value) (k : Keys) (w : World) (h : RKeys.rd w (Lt w.heap.size) cs k) (hn : k.list.length ≤ 1048576) :
    Calls Tryz.prog 118 #[.agg cs.toArray] w fun e w' => e = .returned (.bool (roleB k)) ∧ Below w.heap.size w w' := by
  obtain ⟨A, n, c, rfl, -⟩ := RKeys_rd.1 h
  have HK := Lib.hid (fun w1 (hb : Below w.heap.size w w1) => iIsKeys_any [.slice A n c, .int .i64 k.need] k w1 (upK h hb) (by omega))
  have HN := Lib.hid (fun w1 (hb : Below w.heap.size w w1) => iNoKeys_any [.slice A n c, .int .i64 k.need] k w1 (upK h hb))
  unfold roleB
  generalize isKeys k = b1 at HK ⊢
  generalize noK k = b2 at HN ⊢
  clear h
  obtain ⟨V, hV⟩ : ∃ V, V = w.alloc (.cells #[.slice A n c, .int .i64 k.need] 26) := ⟨_, rfl⟩
  have HB_1 := Lib.hid (show Below w.heap.size w V from by
    rw [hV]
    exact (Below.refl _ _).alloc (by first | (simp; done) | (simp; omega)) _)
  have HX_1 := Lib.hid (show Box V (w.heap.size) [.slice A n c, .int .i64 k.need] from by
    rw [hV]
    have := (Box.new w #[.slice A n c, .int .i64 k.need] 26)
    simpa using this)
  have HV := Lib.hid hV
  clear hV
  go_enter Tryz.func118, Tryz.ntmps118
  go_wp2_with fail
  rw [show w.alloc (.cells #[.slice A n c, .int .i64 k.need] 26) = V from HV.out.symm]
  refine (HN.out _ HB_1.out).mono ?_
  rintro e W2 ⟨rfl, hb⟩
  have HB_2 := Lib.hid (HB_1.out.trans (hb.mono HB_1.out.size))
  have HX_2 := Lib.hid (HX_1.out.below hb HX_1.out.lt)
  clear hb
  rcases b2 with _ | _
  · skip
    have zX0 := HX_2.out.cell (j := 0) rfl
    have zX1 := HX_2.out.cell (j := 1) rfl
    go_wp2_with fail
    clear zX0 zX1
    refine (HK.out _ HB_2.out).mono ?_
    rintro e W3 ⟨rfl, hb⟩
    have HB_3 := Lib.hid (HB_2.out.trans (hb.mono HB_2.out.size))
    have HX_3 := Lib.hid (HX_2.out.below hb HX_2.out.lt)
    clear hb
    go_wp2
    go_ret
    exact ⟨by first | rfl | (simp; done), HB_3.out⟩
  · skip
    have zX0 := HX_2.out.cell (j := 0) rfl
    have zX1 := HX_2.out.cell (j := 1) rfl
    go_wp2
    go_ret
    exact ⟨by first | rfl | (simp; done), HB_2.out⟩
set_option maxHeartbeats 1000000 in
theorem iisWait_any (cs : List Value) (k : Head) (w : World) (h : RHead.rd w (Lt w.heap.size) cs k) :
    Calls Tryz.prog 119 #[.agg cs.toArray] w fun e w' => e = .returned (.bool (waitB k)) ∧ Below w.heap.size w w' := by
  obtain ⟨A0, n0, c0, A1, n1, c1, A2, n2, c2, rfl, ⟨i1, i2, i3, i4, i5, i6, i7, i8, i9⟩, h1, h2, h3⟩ := head_parts h
  have HN := Lib.hid (fun w1 (hb : Below w.heap.size w w1) => iNoKeys_any [.slice A1 n1 c1, .int .i64 k.heirs.need] k.heirs w1 (upK h2 hb))
  have HI := Lib.hid (fun w1 => inRange_any k.wait 1 500 w1)
  unfold waitB
  generalize noK k.heirs = b1 at HN ⊢
  generalize inR k.wait 1 500 = b2 at HI ⊢
  clear h h1 h2 h3 i1 i2 i3 i4 i5 i6 i7 i8 i9
  obtain ⟨V, hV⟩ : ∃ V, V = w.alloc (.cells #[.int .i64 k.zone, .int .i64 k.epoch, .int .i64 k.kind, .int .i64 k.time, .int .i64 k.until_, .int .i64 k.count, .int .i64 k.root, .int .i64 k.prev, .slice A0 n0 c0, .int .i64 k.keys.need, .slice A1 n1 c1, .int .i64 k.heirs.need, .int .i64 k.wait, .slice A2 n2 c2, .int .i64 k.judge.need, .bool k.frozen] 31) := ⟨_, rfl⟩
  have HB_1 := Lib.hid (show Below w.heap.size w V from by
    rw [hV]
    exact (Below.refl _ _).alloc (by first | (simp; done) | (simp; omega)) _)
  have HX_1 := Lib.hid (show Box V (w.heap.size) [.int .i64 k.zone, .int .i64 k.epoch, .int .i64 k.kind, .int .i64 k.time, .int .i64 k.until_, .int .i64 k.count, .int .i64 k.root, .int .i64 k.prev, .slice A0 n0 c0, .int .i64 k.keys.need, .slice A1 n1 c1, .int .i64 k.heirs.need, .int .i64 k.wait, .slice A2 n2 c2, .int .i64 k.judge.need, .bool k.frozen] from by
    rw [hV]
    have := (Box.new w #[.int .i64 k.zone, .int .i64 k.epoch, .int .i64 k.kind, .int .i64 k.time, .int .i64 k.until_, .int .i64 k.count, .int .i64 k.root, .int .i64 k.prev, .slice A0 n0 c0, .int .i64 k.keys.need, .slice A1 n1 c1, .int .i64 k.heirs.need, .int .i64 k.wait, .slice A2 n2 c2, .int .i64 k.judge.need, .bool k.frozen] 31)
    simpa using this)
  have HV := Lib.hid hV
  clear hV
  go_enter Tryz.func119, Tryz.ntmps119
  go_wp2_with fail
  rw [show w.alloc (.cells #[.int .i64 k.zone, .int .i64 k.epoch, .int .i64 k.kind, .int .i64 k.time, .int .i64 k.until_, .int .i64 k.count, .int .i64 k.root, .int .i64 k.prev, .slice A0 n0 c0, .int .i64 k.keys.need, .slice A1 n1 c1, .int .i64 k.heirs.need, .int .i64 k.wait, .slice A2 n2 c2, .int .i64 k.judge.need, .bool k.frozen] 31) = V from HV.out.symm]
  refine (HN.out _ HB_1.out).mono ?_
  rintro e W2 ⟨rfl, hb⟩
  have HB_2 := Lib.hid (HB_1.out.trans (hb.mono HB_1.out.size))
  have HX_2 := Lib.hid (HX_1.out.below hb HX_1.out.lt)
  clear hb
  rcases b1 with _ | _
  · skip
    have zX0 := HX_2.out.cell (j := 0) rfl
    have zX1 := HX_2.out.cell (j := 1) rfl
    have zX2 := HX_2.out.cell (j := 2) rfl
    have zX3 := HX_2.out.cell (j := 3) rfl
    have zX4 := HX_2.out.cell (j := 4) rfl
    have zX5 := HX_2.out.cell (j := 5) rfl
    have zX6 := HX_2.out.cell (j := 6) rfl
    have zX7 := HX_2.out.cell (j := 7) rfl
    have zX8 := HX_2.out.cell (j := 8) rfl
    have zX9 := HX_2.out.cell (j := 9) rfl
    have zX10 := HX_2.out.cell (j := 10) rfl
    have zX11 := HX_2.out.cell (j := 11) rfl
    have zX12 := HX_2.out.cell (j := 12) rfl
    have zX13 := HX_2.out.cell (j := 13) rfl
    have zX14 := HX_2.out.cell (j := 14) rfl
    have zX15 := HX_2.out.cell (j := 15) rfl
    go_wp2_with (refine LD.wp_ld LD.big_Head rfl _ rfl rfl HX_2.out rfl ?_)
    clear zX0 zX1 zX2 zX3 zX4 zX5 zX6 zX7 zX8 zX9 zX10 zX11 zX12 zX13 zX14 zX15
    refine (HI.out _).mono ?_
    rintro e wq ⟨rfl, rfl⟩
    go_wp2
    go_ret
    exact ⟨by first | rfl | (simp; done), HB_2.out⟩
  · skip
    have zX0 := HX_2.out.cell (j := 0) rfl
    have zX1 := HX_2.out.cell (j := 1) rfl
    have zX2 := HX_2.out.cell (j := 2) rfl
    have zX3 := HX_2.out.cell (j := 3) rfl
    have zX4 := HX_2.out.cell (j := 4) rfl
    have zX5 := HX_2.out.cell (j := 5) rfl
    have zX6 := HX_2.out.cell (j := 6) rfl
    have zX7 := HX_2.out.cell (j := 7) rfl
    have zX8 := HX_2.out.cell (j := 8) rfl
    have zX9 := HX_2.out.cell (j := 9) rfl
    have zX10 := HX_2.out.cell (j := 10) rfl
    have zX11 := HX_2.out.cell (j := 11) rfl
    have zX12 := HX_2.out.cell (j := 12) rfl
    have zX13 := HX_2.out.cell (j := 13) rfl
    have zX14 := HX_2.out.cell (j := 14) rfl
    have zX15 := HX_2.out.cell (j := 15) rfl
    go_wp2
    go_ret
    exact ⟨by first | rfl | (simp; done), HB_2.out⟩
set_option maxHeartbeats 1000000 in
theorem iisFreezable_any (cs : List Value) (k : Head) (w : World) (h : RHead.rd w (Lt w.heap.size) cs k) :
    Calls Tryz.prog 120 #[.agg cs.toArray] w fun e w' => e = .returned (.bool (freeB k)) ∧ Below w.heap.size w w' := by
  obtain ⟨A0, n0, c0, A1, n1, c1, A2, n2, c2, rfl, ⟨i1, i2, i3, i4, i5, i6, i7, i8, i9⟩, h1, h2, h3⟩ := head_parts h
  have HN := Lib.hid (fun w1 (hb : Below w.heap.size w w1) => iNoKeys_any [.slice A2 n2 c2, .int .i64 k.judge.need] k.judge w1 (upK h3 hb))
  unfold freeB
  generalize noK k.judge = b1 at HN ⊢
  clear h h1 h2 h3 i1 i2 i3 i4 i5 i6 i7 i8 i9
  rcases hf : k.frozen with _ | _
  · clear hf
    obtain ⟨V, hV⟩ : ∃ V, V = w.alloc (.cells #[.int .i64 k.zone, .int .i64 k.epoch, .int .i64 k.kind, .int .i64 k.time, .int .i64 k.until_, .int .i64 k.count, .int .i64 k.root, .int .i64 k.prev, .slice A0 n0 c0, .int .i64 k.keys.need, .slice A1 n1 c1, .int .i64 k.heirs.need, .int .i64 k.wait, .slice A2 n2 c2, .int .i64 k.judge.need, .bool false] 31) := ⟨_, rfl⟩
    have HB_1 := Lib.hid (show Below w.heap.size w V from by
      rw [hV]
      exact (Below.refl _ _).alloc (by first | (simp; done) | (simp; omega)) _)
    have HX_1 := Lib.hid (show Box V (w.heap.size) [.int .i64 k.zone, .int .i64 k.epoch, .int .i64 k.kind, .int .i64 k.time, .int .i64 k.until_, .int .i64 k.count, .int .i64 k.root, .int .i64 k.prev, .slice A0 n0 c0, .int .i64 k.keys.need, .slice A1 n1 c1, .int .i64 k.heirs.need, .int .i64 k.wait, .slice A2 n2 c2, .int .i64 k.judge.need, .bool false] from by
      rw [hV]
      have := (Box.new w #[.int .i64 k.zone, .int .i64 k.epoch, .int .i64 k.kind, .int .i64 k.time, .int .i64 k.until_, .int .i64 k.count, .int .i64 k.root, .int .i64 k.prev, .slice A0 n0 c0, .int .i64 k.keys.need, .slice A1 n1 c1, .int .i64 k.heirs.need, .int .i64 k.wait, .slice A2 n2 c2, .int .i64 k.judge.need, .bool false] 31)
      simpa using this)
    have HV := Lib.hid hV
    clear hV
    go_enter Tryz.func120, Tryz.ntmps120
    go_wp2_with fail
    rw [show w.alloc (.cells #[.int .i64 k.zone, .int .i64 k.epoch, .int .i64 k.kind, .int .i64 k.time, .int .i64 k.until_, .int .i64 k.count, .int .i64 k.root, .int .i64 k.prev, .slice A0 n0 c0, .int .i64 k.keys.need, .slice A1 n1 c1, .int .i64 k.heirs.need, .int .i64 k.wait, .slice A2 n2 c2, .int .i64 k.judge.need, .bool false] 31) = V from HV.out.symm]
    go_ret
    exact ⟨by first | rfl | (simp; done), HB_1.out⟩
  · clear hf
    obtain ⟨V, hV⟩ : ∃ V, V = w.alloc (.cells #[.int .i64 k.zone, .int .i64 k.epoch, .int .i64 k.kind, .int .i64 k.time, .int .i64 k.until_, .int .i64 k.count, .int .i64 k.root, .int .i64 k.prev, .slice A0 n0 c0, .int .i64 k.keys.need, .slice A1 n1 c1, .int .i64 k.heirs.need, .int .i64 k.wait, .slice A2 n2 c2, .int .i64 k.judge.need, .bool true] 31) := ⟨_, rfl⟩
    have HB_1 := Lib.hid (show Below w.heap.size w V from by
      rw [hV]
      exact (Below.refl _ _).alloc (by first | (simp; done) | (simp; omega)) _)
    have HX_1 := Lib.hid (show Box V (w.heap.size) [.int .i64 k.zone, .int .i64 k.epoch, .int .i64 k.kind, .int .i64 k.time, .int .i64 k.until_, .int .i64 k.count, .int .i64 k.root, .int .i64 k.prev, .slice A0 n0 c0, .int .i64 k.keys.need, .slice A1 n1 c1, .int .i64 k.heirs.need, .int .i64 k.wait, .slice A2 n2 c2, .int .i64 k.judge.need, .bool true] from by
      rw [hV]
      have := (Box.new w #[.int .i64 k.zone, .int .i64 k.epoch, .int .i64 k.kind, .int .i64 k.time, .int .i64 k.until_, .int .i64 k.count, .int .i64 k.root, .int .i64 k.prev, .slice A0 n0 c0, .int .i64 k.keys.need, .slice A1 n1 c1, .int .i64 k.heirs.need, .int .i64 k.wait, .slice A2 n2 c2, .int .i64 k.judge.need, .bool true] 31)
      simpa using this)
    have HV := Lib.hid hV
    clear hV
    go_enter Tryz.func120, Tryz.ntmps120
    go_wp2_with fail
    rw [show w.alloc (.cells #[.int .i64 k.zone, .int .i64 k.epoch, .int .i64 k.kind, .int .i64 k.time, .int .i64 k.until_, .int .i64 k.count, .int .i64 k.root, .int .i64 k.prev, .slice A0 n0 c0, .int .i64 k.keys.need, .slice A1 n1 c1, .int .i64 k.heirs.need, .int .i64 k.wait, .slice A2 n2 c2, .int .i64 k.judge.need, .bool true] 31) = V from HV.out.symm]
    refine (HN.out _ HB_1.out).mono ?_
    rintro e W2 ⟨rfl, hb⟩
    have HB_2 := Lib.hid (HB_1.out.trans (hb.mono HB_1.out.size))
    have HX_2 := Lib.hid (HX_1.out.below hb HX_1.out.lt)
    clear hb
    go_wp2
    go_ret
    exact ⟨by first | rfl | (simp; done), HB_2.out⟩
set_option maxHeartbeats 4000000 in
theorem ihasRoles_any (cs : List Value) (k : Head) (w : World) (h : RHead.rd w (Lt w.heap.size) cs k) (hn : totHead k ≤ 1048576) :
    Calls Tryz.prog 81 #[.agg cs.toArray] w fun e w' => e = .returned (.bool (rolesB k)) ∧ Below w.heap.size w w' := by
  have H := Lib.hid h
  obtain ⟨A0, n0, c0, A1, n1, c1, A2, n2, c2, rfl, ⟨i1, i2, i3, i4, i5, i6, i7, i8, i9⟩, h1, h2, h3⟩ := head_parts h
  unfold totHead totKeys at hn
  have HK := Lib.hid (fun w1 (hb : Below w.heap.size w w1) => iIsKeys_any [.slice A0 n0 c0, .int .i64 k.keys.need] k.keys w1 (upK h1 hb) (by omega))
  have HR1 := Lib.hid (fun w1 (hb : Below w.heap.size w w1) => iisRole_any [.slice A1 n1 c1, .int .i64 k.heirs.need] k.heirs w1 (upK h2 hb) (by omega))
  have HR2 := Lib.hid (fun w1 (hb : Below w.heap.size w w1) => iisRole_any [.slice A2 n2 c2, .int .i64 k.judge.need] k.judge w1 (upK h3 hb) (by omega))
  have HW := Lib.hid (fun w1 (hb : Below w.heap.size w w1) => iisWait_any _ k w1 (upH H.out hb))
  have HF := Lib.hid (fun w1 (hb : Below w.heap.size w w1) => iisFreezable_any _ k w1 (upH H.out hb))
  unfold rolesB
  generalize isKeys k.keys = b1 at HK ⊢
  generalize roleB k.heirs = b2 at HR1 ⊢
  generalize roleB k.judge = b3 at HR2 ⊢
  generalize waitB k = b4 at HW ⊢
  generalize freeB k = b5 at HF ⊢
  clear h h1 h2 h3 i1 i2 i3 i4 i5 i6 i7 i8 i9 hn
  obtain ⟨V, hV⟩ : ∃ V, V = w.alloc (.cells #[.int .i64 k.zone, .int .i64 k.epoch, .int .i64 k.kind, .int .i64 k.time, .int .i64 k.until_, .int .i64 k.count, .int .i64 k.root, .int .i64 k.prev, .slice A0 n0 c0, .int .i64 k.keys.need, .slice A1 n1 c1, .int .i64 k.heirs.need, .int .i64 k.wait, .slice A2 n2 c2, .int .i64 k.judge.need, .bool k.frozen] 31) := ⟨_, rfl⟩
  have HB_1 := Lib.hid (show Below w.heap.size w V from by
    rw [hV]
    exact (Below.refl _ _).alloc (by first | (simp; done) | (simp; omega)) _)
  have HX_1 := Lib.hid (show Box V (w.heap.size) [.int .i64 k.zone, .int .i64 k.epoch, .int .i64 k.kind, .int .i64 k.time, .int .i64 k.until_, .int .i64 k.count, .int .i64 k.root, .int .i64 k.prev, .slice A0 n0 c0, .int .i64 k.keys.need, .slice A1 n1 c1, .int .i64 k.heirs.need, .int .i64 k.wait, .slice A2 n2 c2, .int .i64 k.judge.need, .bool k.frozen] from by
    rw [hV]
    have := (Box.new w #[.int .i64 k.zone, .int .i64 k.epoch, .int .i64 k.kind, .int .i64 k.time, .int .i64 k.until_, .int .i64 k.count, .int .i64 k.root, .int .i64 k.prev, .slice A0 n0 c0, .int .i64 k.keys.need, .slice A1 n1 c1, .int .i64 k.heirs.need, .int .i64 k.wait, .slice A2 n2 c2, .int .i64 k.judge.need, .bool k.frozen] 31)
    simpa using this)
  have HV := Lib.hid hV
  clear hV
  go_enter Tryz.func81, Tryz.ntmps81
  go_wp2_with fail
  rw [show w.alloc (.cells #[.int .i64 k.zone, .int .i64 k.epoch, .int .i64 k.kind, .int .i64 k.time, .int .i64 k.until_, .int .i64 k.count, .int .i64 k.root, .int .i64 k.prev, .slice A0 n0 c0, .int .i64 k.keys.need, .slice A1 n1 c1, .int .i64 k.heirs.need, .int .i64 k.wait, .slice A2 n2 c2, .int .i64 k.judge.need, .bool k.frozen] 31) = V from HV.out.symm]
  refine (HK.out _ HB_1.out).mono ?_
  rintro e W2 ⟨rfl, hb⟩
  have HB_2 := Lib.hid (HB_1.out.trans (hb.mono HB_1.out.size))
  have HX_2 := Lib.hid (HX_1.out.below hb HX_1.out.lt)
  clear hb
  rcases b1 with _ | _
  · skip
    have zX0 := HX_2.out.cell (j := 0) rfl
    have zX1 := HX_2.out.cell (j := 1) rfl
    have zX2 := HX_2.out.cell (j := 2) rfl
    have zX3 := HX_2.out.cell (j := 3) rfl
    have zX4 := HX_2.out.cell (j := 4) rfl
    have zX5 := HX_2.out.cell (j := 5) rfl
    have zX6 := HX_2.out.cell (j := 6) rfl
    have zX7 := HX_2.out.cell (j := 7) rfl
    have zX8 := HX_2.out.cell (j := 8) rfl
    have zX9 := HX_2.out.cell (j := 9) rfl
    have zX10 := HX_2.out.cell (j := 10) rfl
    have zX11 := HX_2.out.cell (j := 11) rfl
    have zX12 := HX_2.out.cell (j := 12) rfl
    have zX13 := HX_2.out.cell (j := 13) rfl
    have zX14 := HX_2.out.cell (j := 14) rfl
    have zX15 := HX_2.out.cell (j := 15) rfl
    go_wp2
    go_ret
    exact ⟨by first | rfl | (simp; done), HB_2.out⟩
  · skip
    have zX0 := HX_2.out.cell (j := 0) rfl
    have zX1 := HX_2.out.cell (j := 1) rfl
    have zX2 := HX_2.out.cell (j := 2) rfl
    have zX3 := HX_2.out.cell (j := 3) rfl
    have zX4 := HX_2.out.cell (j := 4) rfl
    have zX5 := HX_2.out.cell (j := 5) rfl
    have zX6 := HX_2.out.cell (j := 6) rfl
    have zX7 := HX_2.out.cell (j := 7) rfl
    have zX8 := HX_2.out.cell (j := 8) rfl
    have zX9 := HX_2.out.cell (j := 9) rfl
    have zX10 := HX_2.out.cell (j := 10) rfl
    have zX11 := HX_2.out.cell (j := 11) rfl
    have zX12 := HX_2.out.cell (j := 12) rfl
    have zX13 := HX_2.out.cell (j := 13) rfl
    have zX14 := HX_2.out.cell (j := 14) rfl
    have zX15 := HX_2.out.cell (j := 15) rfl
    go_wp2_with (refine LD.wp_ld LD.big_Head rfl _ rfl rfl HX_2.out rfl ?_)
    clear zX0 zX1 zX2 zX3 zX4 zX5 zX6 zX7 zX8 zX9 zX10 zX11 zX12 zX13 zX14 zX15
    refine (HR1.out _ HB_2.out).mono ?_
    rintro e W3 ⟨rfl, hb⟩
    have HB_3 := Lib.hid (HB_2.out.trans (hb.mono HB_2.out.size))
    have HX_3 := Lib.hid (HX_2.out.below hb HX_2.out.lt)
    clear hb
    rcases b2 with _ | _
    · skip
      have zX0 := HX_3.out.cell (j := 0) rfl
      have zX1 := HX_3.out.cell (j := 1) rfl
      have zX2 := HX_3.out.cell (j := 2) rfl
      have zX3 := HX_3.out.cell (j := 3) rfl
      have zX4 := HX_3.out.cell (j := 4) rfl
      have zX5 := HX_3.out.cell (j := 5) rfl
      have zX6 := HX_3.out.cell (j := 6) rfl
      have zX7 := HX_3.out.cell (j := 7) rfl
      have zX8 := HX_3.out.cell (j := 8) rfl
      have zX9 := HX_3.out.cell (j := 9) rfl
      have zX10 := HX_3.out.cell (j := 10) rfl
      have zX11 := HX_3.out.cell (j := 11) rfl
      have zX12 := HX_3.out.cell (j := 12) rfl
      have zX13 := HX_3.out.cell (j := 13) rfl
      have zX14 := HX_3.out.cell (j := 14) rfl
      have zX15 := HX_3.out.cell (j := 15) rfl
      go_wp2
      go_ret
      exact ⟨by first | rfl | (simp; done), HB_3.out⟩
    · skip
      have zX0 := HX_3.out.cell (j := 0) rfl
      have zX1 := HX_3.out.cell (j := 1) rfl
      have zX2 := HX_3.out.cell (j := 2) rfl
      have zX3 := HX_3.out.cell (j := 3) rfl
      have zX4 := HX_3.out.cell (j := 4) rfl
      have zX5 := HX_3.out.cell (j := 5) rfl
      have zX6 := HX_3.out.cell (j := 6) rfl
      have zX7 := HX_3.out.cell (j := 7) rfl
      have zX8 := HX_3.out.cell (j := 8) rfl
      have zX9 := HX_3.out.cell (j := 9) rfl
      have zX10 := HX_3.out.cell (j := 10) rfl
      have zX11 := HX_3.out.cell (j := 11) rfl
      have zX12 := HX_3.out.cell (j := 12) rfl
      have zX13 := HX_3.out.cell (j := 13) rfl
      have zX14 := HX_3.out.cell (j := 14) rfl
      have zX15 := HX_3.out.cell (j := 15) rfl
      go_wp2_with (refine LD.wp_ld LD.big_Head rfl _ rfl rfl HX_3.out rfl ?_)
      clear zX0 zX1 zX2 zX3 zX4 zX5 zX6 zX7 zX8 zX9 zX10 zX11 zX12 zX13 zX14 zX15
      refine (HR2.out _ HB_3.out).mono ?_
      rintro e W4 ⟨rfl, hb⟩
      have HB_4 := Lib.hid (HB_3.out.trans (hb.mono HB_3.out.size))
      have HX_4 := Lib.hid (HX_3.out.below hb HX_3.out.lt)
      clear hb
      rcases b3 with _ | _
      · skip
        have zX0 := HX_4.out.cell (j := 0) rfl
        have zX1 := HX_4.out.cell (j := 1) rfl
        have zX2 := HX_4.out.cell (j := 2) rfl
        have zX3 := HX_4.out.cell (j := 3) rfl
        have zX4 := HX_4.out.cell (j := 4) rfl
        have zX5 := HX_4.out.cell (j := 5) rfl
        have zX6 := HX_4.out.cell (j := 6) rfl
        have zX7 := HX_4.out.cell (j := 7) rfl
        have zX8 := HX_4.out.cell (j := 8) rfl
        have zX9 := HX_4.out.cell (j := 9) rfl
        have zX10 := HX_4.out.cell (j := 10) rfl
        have zX11 := HX_4.out.cell (j := 11) rfl
        have zX12 := HX_4.out.cell (j := 12) rfl
        have zX13 := HX_4.out.cell (j := 13) rfl
        have zX14 := HX_4.out.cell (j := 14) rfl
        have zX15 := HX_4.out.cell (j := 15) rfl
        go_wp2
        go_ret
        exact ⟨by first | rfl | (simp; done), HB_4.out⟩
      · skip
        have zX0 := HX_4.out.cell (j := 0) rfl
        have zX1 := HX_4.out.cell (j := 1) rfl
        have zX2 := HX_4.out.cell (j := 2) rfl
        have zX3 := HX_4.out.cell (j := 3) rfl
        have zX4 := HX_4.out.cell (j := 4) rfl
        have zX5 := HX_4.out.cell (j := 5) rfl
        have zX6 := HX_4.out.cell (j := 6) rfl
        have zX7 := HX_4.out.cell (j := 7) rfl
        have zX8 := HX_4.out.cell (j := 8) rfl
        have zX9 := HX_4.out.cell (j := 9) rfl
        have zX10 := HX_4.out.cell (j := 10) rfl
        have zX11 := HX_4.out.cell (j := 11) rfl
        have zX12 := HX_4.out.cell (j := 12) rfl
        have zX13 := HX_4.out.cell (j := 13) rfl
        have zX14 := HX_4.out.cell (j := 14) rfl
        have zX15 := HX_4.out.cell (j := 15) rfl
        go_wp2_with (refine LD.wp_ld LD.big_Head rfl _ rfl rfl HX_4.out rfl ?_)
        clear zX0 zX1 zX2 zX3 zX4 zX5 zX6 zX7 zX8 zX9 zX10 zX11 zX12 zX13 zX14 zX15
        refine (HW.out _ HB_4.out).mono ?_
        rintro e W5 ⟨rfl, hb⟩
        have HB_5 := Lib.hid (HB_4.out.trans (hb.mono HB_4.out.size))
        have HX_5 := Lib.hid (HX_4.out.below hb HX_4.out.lt)
        clear hb
        rcases b4 with _ | _
        · skip
          have zX0 := HX_5.out.cell (j := 0) rfl
          have zX1 := HX_5.out.cell (j := 1) rfl
          have zX2 := HX_5.out.cell (j := 2) rfl
          have zX3 := HX_5.out.cell (j := 3) rfl
          have zX4 := HX_5.out.cell (j := 4) rfl
          have zX5 := HX_5.out.cell (j := 5) rfl
          have zX6 := HX_5.out.cell (j := 6) rfl
          have zX7 := HX_5.out.cell (j := 7) rfl
          have zX8 := HX_5.out.cell (j := 8) rfl
          have zX9 := HX_5.out.cell (j := 9) rfl
          have zX10 := HX_5.out.cell (j := 10) rfl
          have zX11 := HX_5.out.cell (j := 11) rfl
          have zX12 := HX_5.out.cell (j := 12) rfl
          have zX13 := HX_5.out.cell (j := 13) rfl
          have zX14 := HX_5.out.cell (j := 14) rfl
          have zX15 := HX_5.out.cell (j := 15) rfl
          go_wp2
          go_ret
          exact ⟨by first | rfl | (simp; done), HB_5.out⟩
        · skip
          have zX0 := HX_5.out.cell (j := 0) rfl
          have zX1 := HX_5.out.cell (j := 1) rfl
          have zX2 := HX_5.out.cell (j := 2) rfl
          have zX3 := HX_5.out.cell (j := 3) rfl
          have zX4 := HX_5.out.cell (j := 4) rfl
          have zX5 := HX_5.out.cell (j := 5) rfl
          have zX6 := HX_5.out.cell (j := 6) rfl
          have zX7 := HX_5.out.cell (j := 7) rfl
          have zX8 := HX_5.out.cell (j := 8) rfl
          have zX9 := HX_5.out.cell (j := 9) rfl
          have zX10 := HX_5.out.cell (j := 10) rfl
          have zX11 := HX_5.out.cell (j := 11) rfl
          have zX12 := HX_5.out.cell (j := 12) rfl
          have zX13 := HX_5.out.cell (j := 13) rfl
          have zX14 := HX_5.out.cell (j := 14) rfl
          have zX15 := HX_5.out.cell (j := 15) rfl
          go_wp2_with (refine LD.wp_ld LD.big_Head rfl _ rfl rfl HX_5.out rfl ?_)
          clear zX0 zX1 zX2 zX3 zX4 zX5 zX6 zX7 zX8 zX9 zX10 zX11 zX12 zX13 zX14 zX15
          refine (HF.out _ HB_5.out).mono ?_
          rintro e W6 ⟨rfl, hb⟩
          have HB_6 := Lib.hid (HB_5.out.trans (hb.mono HB_5.out.size))
          have HX_6 := Lib.hid (HX_5.out.below hb HX_5.out.lt)
          clear hb
          go_wp2
          go_ret
          exact ⟨by first | rfl | (simp; done), HB_6.out⟩
set_option maxHeartbeats 4000000 in
theorem iIsHead_any (cs : List Value) (k : Head) (w : World) (h : RHead.rd w (Lt w.heap.size) cs k) (hn : totHead k ≤ 1048576) :
    Calls Tryz.prog 37 #[.agg cs.toArray] w fun e w' => e = .returned (.bool (isHd k)) ∧ Below w.heap.size w w' := by
  have H := Lib.hid h
  rw [← isHdI_eq]
  obtain ⟨A0, n0, c0, A1, n1, c1, A2, n2, c2, rfl, ⟨i1, i2, i3, i4, i5, i6, i7, i8, i9⟩, h1, h2, h3⟩ := head_parts h
  have HZ := Lib.hid (fun w1 => iisZoneNumber_any k.zone w1)
  have HR := Lib.hid (fun w1 => iisHashValue_any k.root w1)
  have HP := Lib.hid (fun w1 => iisHashValue_any k.prev w1)
  have HE := Lib.hid (fun w1 => inRange_any k.epoch 0 200 w1)
  have HQ := Lib.hid (fun w1 => inRange_any k.kind 1 3 w1)
  have HC := Lib.hid (fun w1 => inRange_any k.count 0 12 w1)
  have HT := Lib.hid (fun w1 => iisTerm_any k.time k.until_ w1 i4 i5)
  have HO := Lib.hid (fun w1 (hb : Below w.heap.size w w1) => ihasRoles_any _ k w1 (upH H.out hb) hn)
  unfold isHdI
  generalize inR k.zone 0 2147483646 = b1 at HZ ⊢
  generalize inR k.root 0 2147483646 = b2 at HR ⊢
  generalize inR k.prev 0 2147483646 = b3 at HP ⊢
  generalize inR k.epoch 0 200 = b4 at HE ⊢
  generalize inR k.kind 1 3 = b5 at HQ ⊢
  generalize inR k.count 0 12 = b6 at HC ⊢
  generalize termB k.time k.until_ = b7 at HT ⊢
  generalize rolesB k = b8 at HO ⊢
  clear h h1 h2 h3 i1 i2 i3 i4 i5 i6 i7 i8 i9 hn
  obtain ⟨V, hV⟩ : ∃ V, V = w.alloc (.cells #[.int .i64 k.zone, .int .i64 k.epoch, .int .i64 k.kind, .int .i64 k.time, .int .i64 k.until_, .int .i64 k.count, .int .i64 k.root, .int .i64 k.prev, .slice A0 n0 c0, .int .i64 k.keys.need, .slice A1 n1 c1, .int .i64 k.heirs.need, .int .i64 k.wait, .slice A2 n2 c2, .int .i64 k.judge.need, .bool k.frozen] 31) := ⟨_, rfl⟩
  have HB_1 := Lib.hid (show Below w.heap.size w V from by
    rw [hV]
    exact (Below.refl _ _).alloc (by first | (simp; done) | (simp; omega)) _)
  have HX_1 := Lib.hid (show Box V (w.heap.size) [.int .i64 k.zone, .int .i64 k.epoch, .int .i64 k.kind, .int .i64 k.time, .int .i64 k.until_, .int .i64 k.count, .int .i64 k.root, .int .i64 k.prev, .slice A0 n0 c0, .int .i64 k.keys.need, .slice A1 n1 c1, .int .i64 k.heirs.need, .int .i64 k.wait, .slice A2 n2 c2, .int .i64 k.judge.need, .bool k.frozen] from by
    rw [hV]
    have := (Box.new w #[.int .i64 k.zone, .int .i64 k.epoch, .int .i64 k.kind, .int .i64 k.time, .int .i64 k.until_, .int .i64 k.count, .int .i64 k.root, .int .i64 k.prev, .slice A0 n0 c0, .int .i64 k.keys.need, .slice A1 n1 c1, .int .i64 k.heirs.need, .int .i64 k.wait, .slice A2 n2 c2, .int .i64 k.judge.need, .bool k.frozen] 31)
    simpa using this)
  have HV := Lib.hid hV
  clear hV
  go_enter Tryz.func37, Tryz.ntmps37
  go_wp2_with fail
  rw [show w.alloc (.cells #[.int .i64 k.zone, .int .i64 k.epoch, .int .i64 k.kind, .int .i64 k.time, .int .i64 k.until_, .int .i64 k.count, .int .i64 k.root, .int .i64 k.prev, .slice A0 n0 c0, .int .i64 k.keys.need, .slice A1 n1 c1, .int .i64 k.heirs.need, .int .i64 k.wait, .slice A2 n2 c2, .int .i64 k.judge.need, .bool k.frozen] 31) = V from HV.out.symm]
  refine (HZ.out _).mono ?_
  rintro e wq ⟨rfl, rfl⟩
  rcases b1 with _ | _
  · skip
    have zX0 := HX_1.out.cell (j := 0) rfl
    have zX1 := HX_1.out.cell (j := 1) rfl
    have zX2 := HX_1.out.cell (j := 2) rfl
    have zX3 := HX_1.out.cell (j := 3) rfl
    have zX4 := HX_1.out.cell (j := 4) rfl
    have zX5 := HX_1.out.cell (j := 5) rfl
    have zX6 := HX_1.out.cell (j := 6) rfl
    have zX7 := HX_1.out.cell (j := 7) rfl
    have zX8 := HX_1.out.cell (j := 8) rfl
    have zX9 := HX_1.out.cell (j := 9) rfl
    have zX10 := HX_1.out.cell (j := 10) rfl
    have zX11 := HX_1.out.cell (j := 11) rfl
    have zX12 := HX_1.out.cell (j := 12) rfl
    have zX13 := HX_1.out.cell (j := 13) rfl
    have zX14 := HX_1.out.cell (j := 14) rfl
    have zX15 := HX_1.out.cell (j := 15) rfl
    go_wp2
    go_ret
    exact ⟨by first | rfl | (simp; done), HB_1.out⟩
  · skip
    have zX0 := HX_1.out.cell (j := 0) rfl
    have zX1 := HX_1.out.cell (j := 1) rfl
    have zX2 := HX_1.out.cell (j := 2) rfl
    have zX3 := HX_1.out.cell (j := 3) rfl
    have zX4 := HX_1.out.cell (j := 4) rfl
    have zX5 := HX_1.out.cell (j := 5) rfl
    have zX6 := HX_1.out.cell (j := 6) rfl
    have zX7 := HX_1.out.cell (j := 7) rfl
    have zX8 := HX_1.out.cell (j := 8) rfl
    have zX9 := HX_1.out.cell (j := 9) rfl
    have zX10 := HX_1.out.cell (j := 10) rfl
    have zX11 := HX_1.out.cell (j := 11) rfl
    have zX12 := HX_1.out.cell (j := 12) rfl
    have zX13 := HX_1.out.cell (j := 13) rfl
    have zX14 := HX_1.out.cell (j := 14) rfl
    have zX15 := HX_1.out.cell (j := 15) rfl
    go_wp2_with (refine LD.wp_ld LD.big_Head rfl _ rfl rfl HX_1.out rfl ?_)
    clear zX0 zX1 zX2 zX3 zX4 zX5 zX6 zX7 zX8 zX9 zX10 zX11 zX12 zX13 zX14 zX15
    refine (HR.out _).mono ?_
    rintro e wq ⟨rfl, rfl⟩
    rcases b2 with _ | _
    · skip
      have zX0 := HX_1.out.cell (j := 0) rfl
      have zX1 := HX_1.out.cell (j := 1) rfl
      have zX2 := HX_1.out.cell (j := 2) rfl
      have zX3 := HX_1.out.cell (j := 3) rfl
      have zX4 := HX_1.out.cell (j := 4) rfl
      have zX5 := HX_1.out.cell (j := 5) rfl
      have zX6 := HX_1.out.cell (j := 6) rfl
      have zX7 := HX_1.out.cell (j := 7) rfl
      have zX8 := HX_1.out.cell (j := 8) rfl
      have zX9 := HX_1.out.cell (j := 9) rfl
      have zX10 := HX_1.out.cell (j := 10) rfl
      have zX11 := HX_1.out.cell (j := 11) rfl
      have zX12 := HX_1.out.cell (j := 12) rfl
      have zX13 := HX_1.out.cell (j := 13) rfl
      have zX14 := HX_1.out.cell (j := 14) rfl
      have zX15 := HX_1.out.cell (j := 15) rfl
      go_wp2
      go_ret
      exact ⟨by first | rfl | (simp; done), HB_1.out⟩
    · skip
      have zX0 := HX_1.out.cell (j := 0) rfl
      have zX1 := HX_1.out.cell (j := 1) rfl
      have zX2 := HX_1.out.cell (j := 2) rfl
      have zX3 := HX_1.out.cell (j := 3) rfl
      have zX4 := HX_1.out.cell (j := 4) rfl
      have zX5 := HX_1.out.cell (j := 5) rfl
      have zX6 := HX_1.out.cell (j := 6) rfl
      have zX7 := HX_1.out.cell (j := 7) rfl
      have zX8 := HX_1.out.cell (j := 8) rfl
      have zX9 := HX_1.out.cell (j := 9) rfl
      have zX10 := HX_1.out.cell (j := 10) rfl
      have zX11 := HX_1.out.cell (j := 11) rfl
      have zX12 := HX_1.out.cell (j := 12) rfl
      have zX13 := HX_1.out.cell (j := 13) rfl
      have zX14 := HX_1.out.cell (j := 14) rfl
      have zX15 := HX_1.out.cell (j := 15) rfl
      go_wp2_with (refine LD.wp_ld LD.big_Head rfl _ rfl rfl HX_1.out rfl ?_)
      clear zX0 zX1 zX2 zX3 zX4 zX5 zX6 zX7 zX8 zX9 zX10 zX11 zX12 zX13 zX14 zX15
      refine (HP.out _).mono ?_
      rintro e wq ⟨rfl, rfl⟩
      rcases b3 with _ | _
      · skip
        have zX0 := HX_1.out.cell (j := 0) rfl
        have zX1 := HX_1.out.cell (j := 1) rfl
        have zX2 := HX_1.out.cell (j := 2) rfl
        have zX3 := HX_1.out.cell (j := 3) rfl
        have zX4 := HX_1.out.cell (j := 4) rfl
        have zX5 := HX_1.out.cell (j := 5) rfl
        have zX6 := HX_1.out.cell (j := 6) rfl
        have zX7 := HX_1.out.cell (j := 7) rfl
        have zX8 := HX_1.out.cell (j := 8) rfl
        have zX9 := HX_1.out.cell (j := 9) rfl
        have zX10 := HX_1.out.cell (j := 10) rfl
        have zX11 := HX_1.out.cell (j := 11) rfl
        have zX12 := HX_1.out.cell (j := 12) rfl
        have zX13 := HX_1.out.cell (j := 13) rfl
        have zX14 := HX_1.out.cell (j := 14) rfl
        have zX15 := HX_1.out.cell (j := 15) rfl
        go_wp2
        go_ret
        exact ⟨by first | rfl | (simp; done), HB_1.out⟩
      · skip
        have zX0 := HX_1.out.cell (j := 0) rfl
        have zX1 := HX_1.out.cell (j := 1) rfl
        have zX2 := HX_1.out.cell (j := 2) rfl
        have zX3 := HX_1.out.cell (j := 3) rfl
        have zX4 := HX_1.out.cell (j := 4) rfl
        have zX5 := HX_1.out.cell (j := 5) rfl
        have zX6 := HX_1.out.cell (j := 6) rfl
        have zX7 := HX_1.out.cell (j := 7) rfl
        have zX8 := HX_1.out.cell (j := 8) rfl
        have zX9 := HX_1.out.cell (j := 9) rfl
        have zX10 := HX_1.out.cell (j := 10) rfl
        have zX11 := HX_1.out.cell (j := 11) rfl
        have zX12 := HX_1.out.cell (j := 12) rfl
        have zX13 := HX_1.out.cell (j := 13) rfl
        have zX14 := HX_1.out.cell (j := 14) rfl
        have zX15 := HX_1.out.cell (j := 15) rfl
        go_wp2_with (refine LD.wp_ld LD.big_Head rfl _ rfl rfl HX_1.out rfl ?_)
        clear zX0 zX1 zX2 zX3 zX4 zX5 zX6 zX7 zX8 zX9 zX10 zX11 zX12 zX13 zX14 zX15
        refine (HE.out _).mono ?_
        rintro e wq ⟨rfl, rfl⟩
        rcases b4 with _ | _
        · skip
          have zX0 := HX_1.out.cell (j := 0) rfl
          have zX1 := HX_1.out.cell (j := 1) rfl
          have zX2 := HX_1.out.cell (j := 2) rfl
          have zX3 := HX_1.out.cell (j := 3) rfl
          have zX4 := HX_1.out.cell (j := 4) rfl
          have zX5 := HX_1.out.cell (j := 5) rfl
          have zX6 := HX_1.out.cell (j := 6) rfl
          have zX7 := HX_1.out.cell (j := 7) rfl
          have zX8 := HX_1.out.cell (j := 8) rfl
          have zX9 := HX_1.out.cell (j := 9) rfl
          have zX10 := HX_1.out.cell (j := 10) rfl
          have zX11 := HX_1.out.cell (j := 11) rfl
          have zX12 := HX_1.out.cell (j := 12) rfl
          have zX13 := HX_1.out.cell (j := 13) rfl
          have zX14 := HX_1.out.cell (j := 14) rfl
          have zX15 := HX_1.out.cell (j := 15) rfl
          go_wp2
          go_ret
          exact ⟨by first | rfl | (simp; done), HB_1.out⟩
        · skip
          have zX0 := HX_1.out.cell (j := 0) rfl
          have zX1 := HX_1.out.cell (j := 1) rfl
          have zX2 := HX_1.out.cell (j := 2) rfl
          have zX3 := HX_1.out.cell (j := 3) rfl
          have zX4 := HX_1.out.cell (j := 4) rfl
          have zX5 := HX_1.out.cell (j := 5) rfl
          have zX6 := HX_1.out.cell (j := 6) rfl
          have zX7 := HX_1.out.cell (j := 7) rfl
          have zX8 := HX_1.out.cell (j := 8) rfl
          have zX9 := HX_1.out.cell (j := 9) rfl
          have zX10 := HX_1.out.cell (j := 10) rfl
          have zX11 := HX_1.out.cell (j := 11) rfl
          have zX12 := HX_1.out.cell (j := 12) rfl
          have zX13 := HX_1.out.cell (j := 13) rfl
          have zX14 := HX_1.out.cell (j := 14) rfl
          have zX15 := HX_1.out.cell (j := 15) rfl
          go_wp2_with (refine LD.wp_ld LD.big_Head rfl _ rfl rfl HX_1.out rfl ?_)
          clear zX0 zX1 zX2 zX3 zX4 zX5 zX6 zX7 zX8 zX9 zX10 zX11 zX12 zX13 zX14 zX15
          refine (HQ.out _).mono ?_
          rintro e wq ⟨rfl, rfl⟩
          rcases b5 with _ | _
          · skip
            have zX0 := HX_1.out.cell (j := 0) rfl
            have zX1 := HX_1.out.cell (j := 1) rfl
            have zX2 := HX_1.out.cell (j := 2) rfl
            have zX3 := HX_1.out.cell (j := 3) rfl
            have zX4 := HX_1.out.cell (j := 4) rfl
            have zX5 := HX_1.out.cell (j := 5) rfl
            have zX6 := HX_1.out.cell (j := 6) rfl
            have zX7 := HX_1.out.cell (j := 7) rfl
            have zX8 := HX_1.out.cell (j := 8) rfl
            have zX9 := HX_1.out.cell (j := 9) rfl
            have zX10 := HX_1.out.cell (j := 10) rfl
            have zX11 := HX_1.out.cell (j := 11) rfl
            have zX12 := HX_1.out.cell (j := 12) rfl
            have zX13 := HX_1.out.cell (j := 13) rfl
            have zX14 := HX_1.out.cell (j := 14) rfl
            have zX15 := HX_1.out.cell (j := 15) rfl
            go_wp2
            go_ret
            exact ⟨by first | rfl | (simp; done), HB_1.out⟩
          · skip
            have zX0 := HX_1.out.cell (j := 0) rfl
            have zX1 := HX_1.out.cell (j := 1) rfl
            have zX2 := HX_1.out.cell (j := 2) rfl
            have zX3 := HX_1.out.cell (j := 3) rfl
            have zX4 := HX_1.out.cell (j := 4) rfl
            have zX5 := HX_1.out.cell (j := 5) rfl
            have zX6 := HX_1.out.cell (j := 6) rfl
            have zX7 := HX_1.out.cell (j := 7) rfl
            have zX8 := HX_1.out.cell (j := 8) rfl
            have zX9 := HX_1.out.cell (j := 9) rfl
            have zX10 := HX_1.out.cell (j := 10) rfl
            have zX11 := HX_1.out.cell (j := 11) rfl
            have zX12 := HX_1.out.cell (j := 12) rfl
            have zX13 := HX_1.out.cell (j := 13) rfl
            have zX14 := HX_1.out.cell (j := 14) rfl
            have zX15 := HX_1.out.cell (j := 15) rfl
            go_wp2_with (refine LD.wp_ld LD.big_Head rfl _ rfl rfl HX_1.out rfl ?_)
            clear zX0 zX1 zX2 zX3 zX4 zX5 zX6 zX7 zX8 zX9 zX10 zX11 zX12 zX13 zX14 zX15
            refine (HC.out _).mono ?_
            rintro e wq ⟨rfl, rfl⟩
            rcases b6 with _ | _
            · skip
              have zX0 := HX_1.out.cell (j := 0) rfl
              have zX1 := HX_1.out.cell (j := 1) rfl
              have zX2 := HX_1.out.cell (j := 2) rfl
              have zX3 := HX_1.out.cell (j := 3) rfl
              have zX4 := HX_1.out.cell (j := 4) rfl
              have zX5 := HX_1.out.cell (j := 5) rfl
              have zX6 := HX_1.out.cell (j := 6) rfl
              have zX7 := HX_1.out.cell (j := 7) rfl
              have zX8 := HX_1.out.cell (j := 8) rfl
              have zX9 := HX_1.out.cell (j := 9) rfl
              have zX10 := HX_1.out.cell (j := 10) rfl
              have zX11 := HX_1.out.cell (j := 11) rfl
              have zX12 := HX_1.out.cell (j := 12) rfl
              have zX13 := HX_1.out.cell (j := 13) rfl
              have zX14 := HX_1.out.cell (j := 14) rfl
              have zX15 := HX_1.out.cell (j := 15) rfl
              go_wp2
              go_ret
              exact ⟨by first | rfl | (simp; done), HB_1.out⟩
            · skip
              have zX0 := HX_1.out.cell (j := 0) rfl
              have zX1 := HX_1.out.cell (j := 1) rfl
              have zX2 := HX_1.out.cell (j := 2) rfl
              have zX3 := HX_1.out.cell (j := 3) rfl
              have zX4 := HX_1.out.cell (j := 4) rfl
              have zX5 := HX_1.out.cell (j := 5) rfl
              have zX6 := HX_1.out.cell (j := 6) rfl
              have zX7 := HX_1.out.cell (j := 7) rfl
              have zX8 := HX_1.out.cell (j := 8) rfl
              have zX9 := HX_1.out.cell (j := 9) rfl
              have zX10 := HX_1.out.cell (j := 10) rfl
              have zX11 := HX_1.out.cell (j := 11) rfl
              have zX12 := HX_1.out.cell (j := 12) rfl
              have zX13 := HX_1.out.cell (j := 13) rfl
              have zX14 := HX_1.out.cell (j := 14) rfl
              have zX15 := HX_1.out.cell (j := 15) rfl
              go_wp2_with (refine LD.wp_ld LD.big_Head rfl _ rfl rfl HX_1.out rfl ?_)
              clear zX0 zX1 zX2 zX3 zX4 zX5 zX6 zX7 zX8 zX9 zX10 zX11 zX12 zX13 zX14 zX15
              refine (HT.out _).mono ?_
              rintro e wq ⟨rfl, rfl⟩
              rcases b7 with _ | _
              · skip
                have zX0 := HX_1.out.cell (j := 0) rfl
                have zX1 := HX_1.out.cell (j := 1) rfl
                have zX2 := HX_1.out.cell (j := 2) rfl
                have zX3 := HX_1.out.cell (j := 3) rfl
                have zX4 := HX_1.out.cell (j := 4) rfl
                have zX5 := HX_1.out.cell (j := 5) rfl
                have zX6 := HX_1.out.cell (j := 6) rfl
                have zX7 := HX_1.out.cell (j := 7) rfl
                have zX8 := HX_1.out.cell (j := 8) rfl
                have zX9 := HX_1.out.cell (j := 9) rfl
                have zX10 := HX_1.out.cell (j := 10) rfl
                have zX11 := HX_1.out.cell (j := 11) rfl
                have zX12 := HX_1.out.cell (j := 12) rfl
                have zX13 := HX_1.out.cell (j := 13) rfl
                have zX14 := HX_1.out.cell (j := 14) rfl
                have zX15 := HX_1.out.cell (j := 15) rfl
                go_wp2
                go_ret
                exact ⟨by first | rfl | (simp; done), HB_1.out⟩
              · skip
                have zX0 := HX_1.out.cell (j := 0) rfl
                have zX1 := HX_1.out.cell (j := 1) rfl
                have zX2 := HX_1.out.cell (j := 2) rfl
                have zX3 := HX_1.out.cell (j := 3) rfl
                have zX4 := HX_1.out.cell (j := 4) rfl
                have zX5 := HX_1.out.cell (j := 5) rfl
                have zX6 := HX_1.out.cell (j := 6) rfl
                have zX7 := HX_1.out.cell (j := 7) rfl
                have zX8 := HX_1.out.cell (j := 8) rfl
                have zX9 := HX_1.out.cell (j := 9) rfl
                have zX10 := HX_1.out.cell (j := 10) rfl
                have zX11 := HX_1.out.cell (j := 11) rfl
                have zX12 := HX_1.out.cell (j := 12) rfl
                have zX13 := HX_1.out.cell (j := 13) rfl
                have zX14 := HX_1.out.cell (j := 14) rfl
                have zX15 := HX_1.out.cell (j := 15) rfl
                go_wp2_with (refine LD.wp_ld LD.big_Head rfl _ rfl rfl HX_1.out rfl ?_)
                clear zX0 zX1 zX2 zX3 zX4 zX5 zX6 zX7 zX8 zX9 zX10 zX11 zX12 zX13 zX14 zX15
                refine (HO.out _ HB_1.out).mono ?_
                rintro e W2 ⟨rfl, hb⟩
                have HB_2 := Lib.hid (HB_1.out.trans (hb.mono HB_1.out.size))
                have HX_2 := Lib.hid (HX_1.out.below hb HX_1.out.lt)
                clear hb
                go_wp2
                go_ret
                exact ⟨by first | rfl | (simp; done), HB_2.out⟩
set_option maxHeartbeats 4000000 in
theorem iHeadInts_any (cs : List Value) (k : Head) (w : World) (h : RHead.rd w (Lt w.heap.size) cs k) (hn : totHead k ≤ 1048576) :
    Calls Tryz.prog 45 #[.agg cs.toArray] w fun e w' => ∃ A' c', e = .returned (.slice A' (headInts k).length c') ∧ Mem.Own .i64 w' w.heap.size w'.heap.size A' (headInts k).length c' (headInts k) ∧ Below w.heap.size w w' := by
  have hlen := headInts_len k
  obtain ⟨A0, n0, c0, A1, n1, c1, A2, n2, c2, rfl, ⟨i1, i2, i3, i4, i5, i6, i7, i8, i9⟩, h1, h2, h3⟩ := head_parts h
  unfold totHead totKeys at hn
  have HK0 := Lib.hid (fun w1 (hb : Below w.heap.size w w1) => iKeysInts_any [.slice A0 n0 c0, .int .i64 k.keys.need] k.keys w1 (upK h1 hb) (by omega))
  have HK1 := Lib.hid (fun w1 (hb : Below w.heap.size w w1) => iKeysInts_any [.slice A1 n1 c1, .int .i64 k.heirs.need] k.heirs w1 (upK h2 hb) (by omega))
  have HK2 := Lib.hid (fun w1 (hb : Below w.heap.size w w1) => iKeysInts_any [.slice A2 n2 c2, .int .i64 k.judge.need] k.judge w1 (upK h3 hb) (by omega))
  have HL8 := Lib.hid (show ∀ z ∈ [k.zone, k.epoch, k.kind, k.time, k.until_, k.count, k.root, k.prev], In .i64 z from fun z hz => by
    simp only [List.mem_cons, List.not_mem_nil, or_false] at hz
    rcases hz with rfl | rfl | rfl | rfl | rfl | rfl | rfl | rfl <;> assumption)
  have HL1 := Lib.hid (show ∀ z ∈ [k.wait], In .i64 z from fun z hz => by rw [List.mem_singleton.1 hz]; exact i9)
  have HNL := Lib.hid (show (headInts k).length ≤ 1099511627776 by omega)
  have HF := Lib.hid (show headInts k = [[k.zone, k.epoch, k.kind, k.time, k.until_, k.count, k.root, k.prev], keysInts k.keys, keysInts k.heirs, [k.wait], keysInts k.judge, [if k.frozen then 1 else 0]].flatten by
    unfold headInts
    simp)
  clear h h1 h2 h3 i1 i2 i3 i4 i5 i6 i7 i8 i9 hlen hn
  generalize keysInts k.keys = z0 at HK0 HF
  generalize keysInts k.heirs = z1 at HK1 HF
  generalize keysInts k.judge = z2 at HK2 HF
  generalize headInts k = zz at HF HNL ⊢
  rcases hf : k.frozen with _ | _
  · have HF := Lib.hid (show zz = [[k.zone, k.epoch, k.kind, k.time, k.until_, k.count, k.root, k.prev], z0, z1, [k.wait], z2, [0]].flatten from by have h9 := HF.out; rw [hf] at h9; exact h9)
    clear hf
    have HLF := Lib.hid (show ∀ z ∈ [(0 : Int)], In .i64 z from fun z hz => by rw [List.mem_singleton.1 hz]; exact inI64 (by omega) (by omega))
    have HC := Lib.hid (fun (A : Option Addr) (c : Nat) (w1 : World) (h : RowsI w1 w1.heap.size A 6 [[k.zone, k.epoch, k.kind, k.time, k.until_, k.count, k.root, k.prev], z0, z1, [k.wait], z2, [0]]) => concat_any A 6 c [[k.zone, k.epoch, k.kind, k.time, k.until_, k.count, k.root, k.prev], z0, z1, [k.wait], z2, [0]] w1 h (by rw [← show zz = _ from HF.out]; exact HNL.out) (by omega))
    obtain ⟨V, hV⟩ : ∃ V, V = w.alloc (.cells #[.int .i64 k.zone, .int .i64 k.epoch, .int .i64 k.kind, .int .i64 k.time, .int .i64 k.until_, .int .i64 k.count, .int .i64 k.root, .int .i64 k.prev, .slice A0 n0 c0, .int .i64 k.keys.need, .slice A1 n1 c1, .int .i64 k.heirs.need, .int .i64 k.wait, .slice A2 n2 c2, .int .i64 k.judge.need, .bool false] 31) := ⟨_, rfl⟩
    have HB_1 := Lib.hid (show Below w.heap.size w V from by
      rw [hV]
      exact (Below.refl _ _).alloc (by first | (simp; done) | (simp; omega)) _)
    have HX_1 := Lib.hid (show Box V (w.heap.size) [.int .i64 k.zone, .int .i64 k.epoch, .int .i64 k.kind, .int .i64 k.time, .int .i64 k.until_, .int .i64 k.count, .int .i64 k.root, .int .i64 k.prev, .slice A0 n0 c0, .int .i64 k.keys.need, .slice A1 n1 c1, .int .i64 k.heirs.need, .int .i64 k.wait, .slice A2 n2 c2, .int .i64 k.judge.need, .bool false] from by
      rw [hV]
      have := (Box.new w #[.int .i64 k.zone, .int .i64 k.epoch, .int .i64 k.kind, .int .i64 k.time, .int .i64 k.until_, .int .i64 k.count, .int .i64 k.root, .int .i64 k.prev, .slice A0 n0 c0, .int .i64 k.keys.need, .slice A1 n1 c1, .int .i64 k.heirs.need, .int .i64 k.wait, .slice A2 n2 c2, .int .i64 k.judge.need, .bool false] 31)
      simpa using this)
    have HV := Lib.hid hV
    clear hV
    go_enter Tryz.func45, Tryz.ntmps45
    go_wp2_with fail
    rw [show w.alloc (.cells #[.int .i64 k.zone, .int .i64 k.epoch, .int .i64 k.kind, .int .i64 k.time, .int .i64 k.until_, .int .i64 k.count, .int .i64 k.root, .int .i64 k.prev, .slice A0 n0 c0, .int .i64 k.keys.need, .slice A1 n1 c1, .int .i64 k.heirs.need, .int .i64 k.wait, .slice A2 n2 c2, .int .i64 k.judge.need, .bool false] 31) = V from HV.out.symm]
    have zX0 := HX_1.out.cell (j := 0) rfl
    have zX1 := HX_1.out.cell (j := 1) rfl
    have zX2 := HX_1.out.cell (j := 2) rfl
    have zX3 := HX_1.out.cell (j := 3) rfl
    have zX4 := HX_1.out.cell (j := 4) rfl
    have zX5 := HX_1.out.cell (j := 5) rfl
    have zX6 := HX_1.out.cell (j := 6) rfl
    have zX7 := HX_1.out.cell (j := 7) rfl
    have zX8 := HX_1.out.cell (j := 8) rfl
    have zX9 := HX_1.out.cell (j := 9) rfl
    have zX10 := HX_1.out.cell (j := 10) rfl
    have zX11 := HX_1.out.cell (j := 11) rfl
    have zX12 := HX_1.out.cell (j := 12) rfl
    have zX13 := HX_1.out.cell (j := 13) rfl
    have zX14 := HX_1.out.cell (j := 14) rfl
    have zX15 := HX_1.out.cell (j := 15) rfl
    go_wp2_with fail
    refine RG.region (tabP [sv (.pointer (some ⟨w.heap.size, 0, none⟩)), sv (.int .i64 (k.zone)), sv (.pointer (some ⟨w.heap.size, 1, none⟩)), sv (.int .i64 (k.epoch)), sv (.pointer (some ⟨w.heap.size, 2, none⟩)), sv (.int .i64 (k.kind)), sv (.pointer (some ⟨w.heap.size, 3, none⟩)), sv (.int .i64 (k.time)), sv (.pointer (some ⟨w.heap.size, 4, none⟩)), sv (.int .i64 (k.until_)), sv (.pointer (some ⟨w.heap.size, 5, none⟩)), sv (.int .i64 (k.count)), sv (.pointer (some ⟨w.heap.size, 6, none⟩)), sv (.int .i64 (k.root)), sv (.pointer (some ⟨w.heap.size, 7, none⟩)), sv (.int .i64 (k.prev)), snums .i64 ([k.zone, k.epoch, k.kind, k.time, k.until_, k.count, k.root, k.prev]), sv (.pointer (some ⟨w.heap.size, 8, none⟩)), sv (.agg #[.slice A0 n0 c0, .int .i64 k.keys.need]), snums .i64 (z0), sv (.pointer (some ⟨w.heap.size, 10, none⟩)), sv (.agg #[.slice A1 n1 c1, .int .i64 k.heirs.need]), snums .i64 (z1), sv (.pointer (some ⟨w.heap.size, 12, none⟩)), sv (.int .i64 (k.wait)), snums .i64 ([k.wait]), sv (.pointer (some ⟨w.heap.size, 13, none⟩)), sv (.agg #[.slice A2 n2 c2, .int .i64 k.judge.need]), snums .i64 (z2), sv (.int .i64 (0)), snums .i64 ([0]), srows ([[k.zone, k.epoch, k.kind, k.time, k.until_, k.count, k.root, k.prev], z0, z1, [k.wait], z2, [0]]), sown9 w.heap.size (zz), sown9 w.heap.size (zz)]) (by kernel_rfl) (by kernel_rfl) (tab_keep _) ?_ ?_
    · refine steps_cons ?_ (steps_cons ?_ (steps_cons ?_ (steps_cons ?_ (steps_cons ?_ (steps_cons ?_ (steps_cons ?_ (steps_cons ?_ (steps_cons ?_ (steps_cons ?_ (steps_cons ?_ (steps_cons ?_ (steps_cons ?_ (steps_cons ?_ (steps_cons ?_ (steps_cons ?_ (steps_cons ?_ (steps_cons ?_ (steps_cons ?_ (steps_cons ?_ (steps_cons ?_ (steps_cons ?_ (steps_cons ?_ (steps_cons ?_ (steps_cons ?_ (steps_cons ?_ (steps_cons ?_ (steps_cons ?_ (steps_cons ?_ (steps_cons ?_ (steps_cons ?_ (steps_cons ?_ (steps_cons ?_ (steps_cons ?_ (steps_nil))))))))))))))))))))))))))))))))))
      · intro aa ww hA K hK
        refine free rfl ?_
        have e1 : aa.tmps.getD 1 undef = .pointer (some ⟨w.heap.size, 0, none⟩) := hA.old 1 (by kernel_rfl)
        exact gives hK (v := .pointer (some ⟨w.heap.size, 0, none⟩)) (by simp [execOp, Act.eval, e1, go_sem]) rfl
      · intro aa ww hA K hK
        refine free rfl ?_
        have e6 : aa.tmps.getD 6 undef = .pointer (some ⟨w.heap.size, 0, none⟩) := hA.got 0 6 (by kernel_rfl)
        have cqHX_10 := (hA.bel.cell (p := ⟨w.heap.size, 0, none⟩) HX_1.out.lt).trans (HX_1.out.cell (j := 0) rfl)
        exact gives hK (v := .int .i64 k.zone) (by simp [execOp, Act.eval, e6, cqHX_10, go_sem]) rfl
      · intro aa ww hA K hK
        refine free rfl ?_
        have e1 : aa.tmps.getD 1 undef = .pointer (some ⟨w.heap.size, 0, none⟩) := hA.old 1 (by kernel_rfl)
        exact gives hK (v := .pointer (some ⟨w.heap.size, 1, none⟩)) (by simp [execOp, Act.eval, e1, go_sem]) rfl
      · intro aa ww hA K hK
        refine free rfl ?_
        have e8 : aa.tmps.getD 8 undef = .pointer (some ⟨w.heap.size, 1, none⟩) := hA.got 2 8 (by kernel_rfl)
        have cqHX_11 := (hA.bel.cell (p := ⟨w.heap.size, 1, none⟩) HX_1.out.lt).trans (HX_1.out.cell (j := 1) rfl)
        exact gives hK (v := .int .i64 k.epoch) (by simp [execOp, Act.eval, e8, cqHX_11, go_sem]) rfl
      · intro aa ww hA K hK
        refine free rfl ?_
        have e1 : aa.tmps.getD 1 undef = .pointer (some ⟨w.heap.size, 0, none⟩) := hA.old 1 (by kernel_rfl)
        exact gives hK (v := .pointer (some ⟨w.heap.size, 2, none⟩)) (by simp [execOp, Act.eval, e1, go_sem]) rfl
      · intro aa ww hA K hK
        refine free rfl ?_
        have e10 : aa.tmps.getD 10 undef = .pointer (some ⟨w.heap.size, 2, none⟩) := hA.got 4 10 (by kernel_rfl)
        have cqHX_12 := (hA.bel.cell (p := ⟨w.heap.size, 2, none⟩) HX_1.out.lt).trans (HX_1.out.cell (j := 2) rfl)
        exact gives hK (v := .int .i64 k.kind) (by simp [execOp, Act.eval, e10, cqHX_12, go_sem]) rfl
      · intro aa ww hA K hK
        refine free rfl ?_
        have e1 : aa.tmps.getD 1 undef = .pointer (some ⟨w.heap.size, 0, none⟩) := hA.old 1 (by kernel_rfl)
        exact gives hK (v := .pointer (some ⟨w.heap.size, 3, none⟩)) (by simp [execOp, Act.eval, e1, go_sem]) rfl
      · intro aa ww hA K hK
        refine free rfl ?_
        have e12 : aa.tmps.getD 12 undef = .pointer (some ⟨w.heap.size, 3, none⟩) := hA.got 6 12 (by kernel_rfl)
        have cqHX_13 := (hA.bel.cell (p := ⟨w.heap.size, 3, none⟩) HX_1.out.lt).trans (HX_1.out.cell (j := 3) rfl)
        exact gives hK (v := .int .i64 k.time) (by simp [execOp, Act.eval, e12, cqHX_13, go_sem]) rfl
      · intro aa ww hA K hK
        refine free rfl ?_
        have e1 : aa.tmps.getD 1 undef = .pointer (some ⟨w.heap.size, 0, none⟩) := hA.old 1 (by kernel_rfl)
        exact gives hK (v := .pointer (some ⟨w.heap.size, 4, none⟩)) (by simp [execOp, Act.eval, e1, go_sem]) rfl
      · intro aa ww hA K hK
        refine free rfl ?_
        have e14 : aa.tmps.getD 14 undef = .pointer (some ⟨w.heap.size, 4, none⟩) := hA.got 8 14 (by kernel_rfl)
        have cqHX_14 := (hA.bel.cell (p := ⟨w.heap.size, 4, none⟩) HX_1.out.lt).trans (HX_1.out.cell (j := 4) rfl)
        exact gives hK (v := .int .i64 k.until_) (by simp [execOp, Act.eval, e14, cqHX_14, go_sem]) rfl
      · intro aa ww hA K hK
        refine free rfl ?_
        have e1 : aa.tmps.getD 1 undef = .pointer (some ⟨w.heap.size, 0, none⟩) := hA.old 1 (by kernel_rfl)
        exact gives hK (v := .pointer (some ⟨w.heap.size, 5, none⟩)) (by simp [execOp, Act.eval, e1, go_sem]) rfl
      · intro aa ww hA K hK
        refine free rfl ?_
        have e16 : aa.tmps.getD 16 undef = .pointer (some ⟨w.heap.size, 5, none⟩) := hA.got 10 16 (by kernel_rfl)
        have cqHX_15 := (hA.bel.cell (p := ⟨w.heap.size, 5, none⟩) HX_1.out.lt).trans (HX_1.out.cell (j := 5) rfl)
        exact gives hK (v := .int .i64 k.count) (by simp [execOp, Act.eval, e16, cqHX_15, go_sem]) rfl
      · intro aa ww hA K hK
        refine free rfl ?_
        have e1 : aa.tmps.getD 1 undef = .pointer (some ⟨w.heap.size, 0, none⟩) := hA.old 1 (by kernel_rfl)
        exact gives hK (v := .pointer (some ⟨w.heap.size, 6, none⟩)) (by simp [execOp, Act.eval, e1, go_sem]) rfl
      · intro aa ww hA K hK
        refine free rfl ?_
        have e18 : aa.tmps.getD 18 undef = .pointer (some ⟨w.heap.size, 6, none⟩) := hA.got 12 18 (by kernel_rfl)
        have cqHX_16 := (hA.bel.cell (p := ⟨w.heap.size, 6, none⟩) HX_1.out.lt).trans (HX_1.out.cell (j := 6) rfl)
        exact gives hK (v := .int .i64 k.root) (by simp [execOp, Act.eval, e18, cqHX_16, go_sem]) rfl
      · intro aa ww hA K hK
        refine free rfl ?_
        have e1 : aa.tmps.getD 1 undef = .pointer (some ⟨w.heap.size, 0, none⟩) := hA.old 1 (by kernel_rfl)
        exact gives hK (v := .pointer (some ⟨w.heap.size, 7, none⟩)) (by simp [execOp, Act.eval, e1, go_sem]) rfl
      · intro aa ww hA K hK
        refine free rfl ?_
        have e20 : aa.tmps.getD 20 undef = .pointer (some ⟨w.heap.size, 7, none⟩) := hA.got 14 20 (by kernel_rfl)
        have cqHX_17 := (hA.bel.cell (p := ⟨w.heap.size, 7, none⟩) HX_1.out.lt).trans (HX_1.out.cell (j := 7) rfl)
        exact gives hK (v := .int .i64 k.prev) (by simp [execOp, Act.eval, e20, cqHX_17, go_sem]) rfl
      · intro aa ww hA K hK
        refine free rfl ?_
        have e7 : aa.tmps.getD 7 undef = .int .i64 (k.zone) := hA.got 1 7 (by kernel_rfl)
        have e9 : aa.tmps.getD 9 undef = .int .i64 (k.epoch) := hA.got 3 9 (by kernel_rfl)
        have e11 : aa.tmps.getD 11 undef = .int .i64 (k.kind) := hA.got 5 11 (by kernel_rfl)
        have e13 : aa.tmps.getD 13 undef = .int .i64 (k.time) := hA.got 7 13 (by kernel_rfl)
        have e15 : aa.tmps.getD 15 undef = .int .i64 (k.until_) := hA.got 9 15 (by kernel_rfl)
        have e17 : aa.tmps.getD 17 undef = .int .i64 (k.count) := hA.got 11 17 (by kernel_rfl)
        have e19 : aa.tmps.getD 19 undef = .int .i64 (k.root) := hA.got 13 19 (by kernel_rfl)
        have e21 : aa.tmps.getD 21 undef = .int .i64 (k.prev) := hA.got 15 21 (by kernel_rfl)
        exact lays hK (v := .slice (some ⟨ww.heap.size, 0, none⟩) 8 8) (w' := ww.alloc (.cells #[.int .i64 (k.zone), .int .i64 (k.epoch), .int .i64 (k.kind), .int .i64 (k.time), .int .i64 (k.until_), .int .i64 (k.count), .int .i64 (k.root), .int .i64 (k.prev)] 3)) (by simp only [execOp, List.map_toArray, List.map_cons, List.map_nil, Act.eval, e7, e9, e11, e13, e15, e17, e19, e21]; simp [go_sem]) ((Below.refl _ _).alloc (Nat.le_refl _) _) (snums_lit (zs := [k.zone, k.epoch, k.kind, k.time, k.until_, k.count, k.root, k.prev]) HL8.out)
      · intro aa ww hA K hK
        refine free rfl ?_
        have e1 : aa.tmps.getD 1 undef = .pointer (some ⟨w.heap.size, 0, none⟩) := hA.old 1 (by kernel_rfl)
        exact gives hK (v := .pointer (some ⟨w.heap.size, 8, none⟩)) (by simp [execOp, Act.eval, e1, go_sem]) rfl
      · intro aa ww hA K hK
        refine free rfl ?_
        have e23 : aa.tmps.getD 23 undef = .pointer (some ⟨w.heap.size, 8, none⟩) := hA.got 17 23 (by kernel_rfl)
        have cqHX_18 := (hA.bel.cell (p := ⟨w.heap.size, 8, none⟩) HX_1.out.lt).trans (HX_1.out.cell (j := 8) rfl)
        have cqHX_19 := (hA.bel.cell (p := ⟨w.heap.size, 9, none⟩) HX_1.out.lt).trans (HX_1.out.cell (j := 9) rfl)
        exact gives hK (v := .agg #[.slice A0 n0 c0, .int .i64 k.keys.need]) (by simp [execOp, Act.eval, e23, cqHX_18, cqHX_19, go_sem]) rfl
      · intro aa ww hA K hK
        refine free rfl ?_
        have e24 : aa.tmps.getD 24 undef = .agg #[.slice A0 n0 c0, .int .i64 k.keys.need] := hA.got 18 24 (by kernel_rfl)
        refine calls hK (by simp [Act.eval, e24, go_sem]) (HK0.out ww (HB_1.out.trans ((RKA.below_drew hA.bel).mono HB_1.out.size))) ?_
        rintro e w1 ⟨A9, c9, rfl, hop, hb⟩
        exact ⟨_, rfl, hb, snums_own hop⟩
      · intro aa ww hA K hK
        refine free rfl ?_
        have e1 : aa.tmps.getD 1 undef = .pointer (some ⟨w.heap.size, 0, none⟩) := hA.old 1 (by kernel_rfl)
        exact gives hK (v := .pointer (some ⟨w.heap.size, 10, none⟩)) (by simp [execOp, Act.eval, e1, go_sem]) rfl
      · intro aa ww hA K hK
        refine free rfl ?_
        have e26 : aa.tmps.getD 26 undef = .pointer (some ⟨w.heap.size, 10, none⟩) := hA.got 20 26 (by kernel_rfl)
        have cqHX_110 := (hA.bel.cell (p := ⟨w.heap.size, 10, none⟩) HX_1.out.lt).trans (HX_1.out.cell (j := 10) rfl)
        have cqHX_111 := (hA.bel.cell (p := ⟨w.heap.size, 11, none⟩) HX_1.out.lt).trans (HX_1.out.cell (j := 11) rfl)
        exact gives hK (v := .agg #[.slice A1 n1 c1, .int .i64 k.heirs.need]) (by simp [execOp, Act.eval, e26, cqHX_110, cqHX_111, go_sem]) rfl
      · intro aa ww hA K hK
        refine free rfl ?_
        have e27 : aa.tmps.getD 27 undef = .agg #[.slice A1 n1 c1, .int .i64 k.heirs.need] := hA.got 21 27 (by kernel_rfl)
        refine calls hK (by simp [Act.eval, e27, go_sem]) (HK1.out ww (HB_1.out.trans ((RKA.below_drew hA.bel).mono HB_1.out.size))) ?_
        rintro e w1 ⟨A9, c9, rfl, hop, hb⟩
        exact ⟨_, rfl, hb, snums_own hop⟩
      · intro aa ww hA K hK
        refine free rfl ?_
        have e1 : aa.tmps.getD 1 undef = .pointer (some ⟨w.heap.size, 0, none⟩) := hA.old 1 (by kernel_rfl)
        exact gives hK (v := .pointer (some ⟨w.heap.size, 12, none⟩)) (by simp [execOp, Act.eval, e1, go_sem]) rfl
      · intro aa ww hA K hK
        refine free rfl ?_
        have e29 : aa.tmps.getD 29 undef = .pointer (some ⟨w.heap.size, 12, none⟩) := hA.got 23 29 (by kernel_rfl)
        have cqHX_112 := (hA.bel.cell (p := ⟨w.heap.size, 12, none⟩) HX_1.out.lt).trans (HX_1.out.cell (j := 12) rfl)
        exact gives hK (v := .int .i64 k.wait) (by simp [execOp, Act.eval, e29, cqHX_112, go_sem]) rfl
      · intro aa ww hA K hK
        refine free rfl ?_
        have e30 : aa.tmps.getD 30 undef = .int .i64 (k.wait) := hA.got 24 30 (by kernel_rfl)
        exact lays hK (v := .slice (some ⟨ww.heap.size, 0, none⟩) 1 1) (w' := ww.alloc (.cells #[.int .i64 (k.wait)] 3)) (by simp only [execOp, List.map_toArray, List.map_cons, List.map_nil, Act.eval, e30]; simp [go_sem]) ((Below.refl _ _).alloc (Nat.le_refl _) _) (snums_lit (zs := [k.wait]) HL1.out)
      · intro aa ww hA K hK
        refine free rfl ?_
        have e1 : aa.tmps.getD 1 undef = .pointer (some ⟨w.heap.size, 0, none⟩) := hA.old 1 (by kernel_rfl)
        exact gives hK (v := .pointer (some ⟨w.heap.size, 13, none⟩)) (by simp [execOp, Act.eval, e1, go_sem]) rfl
      · intro aa ww hA K hK
        refine free rfl ?_
        have e32 : aa.tmps.getD 32 undef = .pointer (some ⟨w.heap.size, 13, none⟩) := hA.got 26 32 (by kernel_rfl)
        have cqHX_113 := (hA.bel.cell (p := ⟨w.heap.size, 13, none⟩) HX_1.out.lt).trans (HX_1.out.cell (j := 13) rfl)
        have cqHX_114 := (hA.bel.cell (p := ⟨w.heap.size, 14, none⟩) HX_1.out.lt).trans (HX_1.out.cell (j := 14) rfl)
        exact gives hK (v := .agg #[.slice A2 n2 c2, .int .i64 k.judge.need]) (by simp [execOp, Act.eval, e32, cqHX_113, cqHX_114, go_sem]) rfl
      · intro aa ww hA K hK
        refine free rfl ?_
        have e33 : aa.tmps.getD 33 undef = .agg #[.slice A2 n2 c2, .int .i64 k.judge.need] := hA.got 27 33 (by kernel_rfl)
        refine calls hK (by simp [Act.eval, e33, go_sem]) (HK2.out ww (HB_1.out.trans ((RKA.below_drew hA.bel).mono HB_1.out.size))) ?_
        rintro e w1 ⟨A9, c9, rfl, hop, hb⟩
        exact ⟨_, rfl, hb, snums_own hop⟩
      · intro aa ww hA K hK
        refine free rfl ?_
        exact gives hK rfl (hA.old 3 (by kernel_rfl))
      · intro aa ww hA K hK
        refine free rfl ?_
        have e35 : aa.tmps.getD 35 undef = .int .i64 (0) := hA.got 29 35 (by kernel_rfl)
        exact lays hK (v := .slice (some ⟨ww.heap.size, 0, none⟩) 1 1) (w' := ww.alloc (.cells #[.int .i64 (0)] 3)) (by simp only [execOp, List.map_toArray, List.map_cons, List.map_nil, Act.eval, e35]; simp [go_sem]) ((Below.refl _ _).alloc (Nat.le_refl _) _) (snums_lit (zs := [0]) HLF.out)
      · intro aa ww hA K hK
        refine free rfl ?_
        obtain ⟨A22, c22, e22, hc22, h22⟩ := hA.got 16 22 (by kernel_rfl)
        obtain ⟨A25, c25, e25, hc25, h25⟩ := hA.got 19 25 (by kernel_rfl)
        obtain ⟨A28, c28, e28, hc28, h28⟩ := hA.got 22 28 (by kernel_rfl)
        obtain ⟨A31, c31, e31, hc31, h31⟩ := hA.got 25 31 (by kernel_rfl)
        obtain ⟨A34, c34, e34, hc34, h34⟩ := hA.got 28 34 (by kernel_rfl)
        obtain ⟨A36, c36, e36, hc36, h36⟩ := hA.got 30 36 (by kernel_rfl)
        exact lays hK (v := .slice (some ⟨ww.heap.size, 0, none⟩) 6 6) (w' := ww.alloc (.cells #[.slice A22 ([k.zone, k.epoch, k.kind, k.time, k.until_, k.count, k.root, k.prev]).length c22, .slice A25 (z0).length c25, .slice A28 (z1).length c28, .slice A31 ([k.wait]).length c31, .slice A34 (z2).length c34, .slice A36 ([0]).length c36] 24)) (by simp only [execOp, List.map_toArray, List.map_cons, List.map_nil, Act.eval, e22, e25, e28, e31, e34, e36]; simp [go_sem]) ((Below.refl _ _).alloc (Nat.le_refl _) _) (srows_new (zss := [[k.zone, k.epoch, k.kind, k.time, k.until_, k.count, k.root, k.prev], z0, z1, [k.wait], z2, [0]]) _ (.cons h22 (.cons h25 (.cons h28 (.cons h31 (.cons h34 (.cons h36 .nil)))))))
      · intro aa ww hA K hK
        refine free rfl ?_
        obtain ⟨A37, c37, e37, h37⟩ := hA.got 31 37 (by kernel_rfl)
        have hlow : w.heap.size ≤ ww.heap.size := (HB_1.out.trans ((RKA.below_drew hA.bel).mono HB_1.out.size)).size
        refine calls hK (by simp [Act.eval, e37, go_sem]) (HC.out A37 c37 ww h37) ?_
        rintro e w1 ⟨A9, c9, rfl, hop, hb⟩
        exact ⟨_, rfl, hb, by have hz := HF.out; rw [← hz] at hop ⊢; exact sown9_own hop hlow (Nat.le_trans hlow hb.size)⟩
      · intro aa ww hA K hK
        refine free rfl ?_
        exact gives hK rfl (hA.got 32 38 (by kernel_rfl))
    · intro a1 w1 hb hd hsz hold hgot
      obtain ⟨B2, d2, e2, ho2, hl2⟩ := hgot 33 2 (by kernel_rfl)
      rename_i K9 hK9
      refine hK9 a1 w1 (wp_ret ?_)
      exact bodyPost_ret (v := .slice B2 zz.length d2) (by simp [results, Tryz.results45, go_sem]; rw [← Array.getD_eq_getD_getElem?]; exact e2) (hd.trans rfl) ⟨B2, d2, rfl, ho2, HB_1.out.trans ((RKA.below_drew hb).mono HB_1.out.size)⟩
  · have HF := Lib.hid (show zz = [[k.zone, k.epoch, k.kind, k.time, k.until_, k.count, k.root, k.prev], z0, z1, [k.wait], z2, [1]].flatten from by have h9 := HF.out; rw [hf] at h9; exact h9)
    clear hf
    have HLF := Lib.hid (show ∀ z ∈ [(1 : Int)], In .i64 z from fun z hz => by rw [List.mem_singleton.1 hz]; exact inI64 (by omega) (by omega))
    have HC := Lib.hid (fun (A : Option Addr) (c : Nat) (w1 : World) (h : RowsI w1 w1.heap.size A 6 [[k.zone, k.epoch, k.kind, k.time, k.until_, k.count, k.root, k.prev], z0, z1, [k.wait], z2, [1]]) => concat_any A 6 c [[k.zone, k.epoch, k.kind, k.time, k.until_, k.count, k.root, k.prev], z0, z1, [k.wait], z2, [1]] w1 h (by rw [← show zz = _ from HF.out]; exact HNL.out) (by omega))
    obtain ⟨V, hV⟩ : ∃ V, V = w.alloc (.cells #[.int .i64 k.zone, .int .i64 k.epoch, .int .i64 k.kind, .int .i64 k.time, .int .i64 k.until_, .int .i64 k.count, .int .i64 k.root, .int .i64 k.prev, .slice A0 n0 c0, .int .i64 k.keys.need, .slice A1 n1 c1, .int .i64 k.heirs.need, .int .i64 k.wait, .slice A2 n2 c2, .int .i64 k.judge.need, .bool true] 31) := ⟨_, rfl⟩
    have HB_1 := Lib.hid (show Below w.heap.size w V from by
      rw [hV]
      exact (Below.refl _ _).alloc (by first | (simp; done) | (simp; omega)) _)
    have HX_1 := Lib.hid (show Box V (w.heap.size) [.int .i64 k.zone, .int .i64 k.epoch, .int .i64 k.kind, .int .i64 k.time, .int .i64 k.until_, .int .i64 k.count, .int .i64 k.root, .int .i64 k.prev, .slice A0 n0 c0, .int .i64 k.keys.need, .slice A1 n1 c1, .int .i64 k.heirs.need, .int .i64 k.wait, .slice A2 n2 c2, .int .i64 k.judge.need, .bool true] from by
      rw [hV]
      have := (Box.new w #[.int .i64 k.zone, .int .i64 k.epoch, .int .i64 k.kind, .int .i64 k.time, .int .i64 k.until_, .int .i64 k.count, .int .i64 k.root, .int .i64 k.prev, .slice A0 n0 c0, .int .i64 k.keys.need, .slice A1 n1 c1, .int .i64 k.heirs.need, .int .i64 k.wait, .slice A2 n2 c2, .int .i64 k.judge.need, .bool true] 31)
      simpa using this)
    have HV := Lib.hid hV
    clear hV
    go_enter Tryz.func45, Tryz.ntmps45
    go_wp2_with fail
    rw [show w.alloc (.cells #[.int .i64 k.zone, .int .i64 k.epoch, .int .i64 k.kind, .int .i64 k.time, .int .i64 k.until_, .int .i64 k.count, .int .i64 k.root, .int .i64 k.prev, .slice A0 n0 c0, .int .i64 k.keys.need, .slice A1 n1 c1, .int .i64 k.heirs.need, .int .i64 k.wait, .slice A2 n2 c2, .int .i64 k.judge.need, .bool true] 31) = V from HV.out.symm]
    have zX0 := HX_1.out.cell (j := 0) rfl
    have zX1 := HX_1.out.cell (j := 1) rfl
    have zX2 := HX_1.out.cell (j := 2) rfl
    have zX3 := HX_1.out.cell (j := 3) rfl
    have zX4 := HX_1.out.cell (j := 4) rfl
    have zX5 := HX_1.out.cell (j := 5) rfl
    have zX6 := HX_1.out.cell (j := 6) rfl
    have zX7 := HX_1.out.cell (j := 7) rfl
    have zX8 := HX_1.out.cell (j := 8) rfl
    have zX9 := HX_1.out.cell (j := 9) rfl
    have zX10 := HX_1.out.cell (j := 10) rfl
    have zX11 := HX_1.out.cell (j := 11) rfl
    have zX12 := HX_1.out.cell (j := 12) rfl
    have zX13 := HX_1.out.cell (j := 13) rfl
    have zX14 := HX_1.out.cell (j := 14) rfl
    have zX15 := HX_1.out.cell (j := 15) rfl
    go_wp2_with fail
    refine RG.region (tabP [sv (.pointer (some ⟨w.heap.size, 0, none⟩)), sv (.int .i64 (k.zone)), sv (.pointer (some ⟨w.heap.size, 1, none⟩)), sv (.int .i64 (k.epoch)), sv (.pointer (some ⟨w.heap.size, 2, none⟩)), sv (.int .i64 (k.kind)), sv (.pointer (some ⟨w.heap.size, 3, none⟩)), sv (.int .i64 (k.time)), sv (.pointer (some ⟨w.heap.size, 4, none⟩)), sv (.int .i64 (k.until_)), sv (.pointer (some ⟨w.heap.size, 5, none⟩)), sv (.int .i64 (k.count)), sv (.pointer (some ⟨w.heap.size, 6, none⟩)), sv (.int .i64 (k.root)), sv (.pointer (some ⟨w.heap.size, 7, none⟩)), sv (.int .i64 (k.prev)), snums .i64 ([k.zone, k.epoch, k.kind, k.time, k.until_, k.count, k.root, k.prev]), sv (.pointer (some ⟨w.heap.size, 8, none⟩)), sv (.agg #[.slice A0 n0 c0, .int .i64 k.keys.need]), snums .i64 (z0), sv (.pointer (some ⟨w.heap.size, 10, none⟩)), sv (.agg #[.slice A1 n1 c1, .int .i64 k.heirs.need]), snums .i64 (z1), sv (.pointer (some ⟨w.heap.size, 12, none⟩)), sv (.int .i64 (k.wait)), snums .i64 ([k.wait]), sv (.pointer (some ⟨w.heap.size, 13, none⟩)), sv (.agg #[.slice A2 n2 c2, .int .i64 k.judge.need]), snums .i64 (z2), sv (.int .i64 (1)), snums .i64 ([1]), srows ([[k.zone, k.epoch, k.kind, k.time, k.until_, k.count, k.root, k.prev], z0, z1, [k.wait], z2, [1]]), sown9 w.heap.size (zz), sown9 w.heap.size (zz)]) (by kernel_rfl) (by kernel_rfl) (tab_keep _) ?_ ?_
    · refine steps_cons ?_ (steps_cons ?_ (steps_cons ?_ (steps_cons ?_ (steps_cons ?_ (steps_cons ?_ (steps_cons ?_ (steps_cons ?_ (steps_cons ?_ (steps_cons ?_ (steps_cons ?_ (steps_cons ?_ (steps_cons ?_ (steps_cons ?_ (steps_cons ?_ (steps_cons ?_ (steps_cons ?_ (steps_cons ?_ (steps_cons ?_ (steps_cons ?_ (steps_cons ?_ (steps_cons ?_ (steps_cons ?_ (steps_cons ?_ (steps_cons ?_ (steps_cons ?_ (steps_cons ?_ (steps_cons ?_ (steps_cons ?_ (steps_cons ?_ (steps_cons ?_ (steps_cons ?_ (steps_cons ?_ (steps_cons ?_ (steps_nil))))))))))))))))))))))))))))))))))
      · intro aa ww hA K hK
        refine free rfl ?_
        have e1 : aa.tmps.getD 1 undef = .pointer (some ⟨w.heap.size, 0, none⟩) := hA.old 1 (by kernel_rfl)
        exact gives hK (v := .pointer (some ⟨w.heap.size, 0, none⟩)) (by simp [execOp, Act.eval, e1, go_sem]) rfl
      · intro aa ww hA K hK
        refine free rfl ?_
        have e6 : aa.tmps.getD 6 undef = .pointer (some ⟨w.heap.size, 0, none⟩) := hA.got 0 6 (by kernel_rfl)
        have cqHX_10 := (hA.bel.cell (p := ⟨w.heap.size, 0, none⟩) HX_1.out.lt).trans (HX_1.out.cell (j := 0) rfl)
        exact gives hK (v := .int .i64 k.zone) (by simp [execOp, Act.eval, e6, cqHX_10, go_sem]) rfl
      · intro aa ww hA K hK
        refine free rfl ?_
        have e1 : aa.tmps.getD 1 undef = .pointer (some ⟨w.heap.size, 0, none⟩) := hA.old 1 (by kernel_rfl)
        exact gives hK (v := .pointer (some ⟨w.heap.size, 1, none⟩)) (by simp [execOp, Act.eval, e1, go_sem]) rfl
      · intro aa ww hA K hK
        refine free rfl ?_
        have e8 : aa.tmps.getD 8 undef = .pointer (some ⟨w.heap.size, 1, none⟩) := hA.got 2 8 (by kernel_rfl)
        have cqHX_11 := (hA.bel.cell (p := ⟨w.heap.size, 1, none⟩) HX_1.out.lt).trans (HX_1.out.cell (j := 1) rfl)
        exact gives hK (v := .int .i64 k.epoch) (by simp [execOp, Act.eval, e8, cqHX_11, go_sem]) rfl
      · intro aa ww hA K hK
        refine free rfl ?_
        have e1 : aa.tmps.getD 1 undef = .pointer (some ⟨w.heap.size, 0, none⟩) := hA.old 1 (by kernel_rfl)
        exact gives hK (v := .pointer (some ⟨w.heap.size, 2, none⟩)) (by simp [execOp, Act.eval, e1, go_sem]) rfl
      · intro aa ww hA K hK
        refine free rfl ?_
        have e10 : aa.tmps.getD 10 undef = .pointer (some ⟨w.heap.size, 2, none⟩) := hA.got 4 10 (by kernel_rfl)
        have cqHX_12 := (hA.bel.cell (p := ⟨w.heap.size, 2, none⟩) HX_1.out.lt).trans (HX_1.out.cell (j := 2) rfl)
        exact gives hK (v := .int .i64 k.kind) (by simp [execOp, Act.eval, e10, cqHX_12, go_sem]) rfl
      · intro aa ww hA K hK
        refine free rfl ?_
        have e1 : aa.tmps.getD 1 undef = .pointer (some ⟨w.heap.size, 0, none⟩) := hA.old 1 (by kernel_rfl)
        exact gives hK (v := .pointer (some ⟨w.heap.size, 3, none⟩)) (by simp [execOp, Act.eval, e1, go_sem]) rfl
      · intro aa ww hA K hK
        refine free rfl ?_
        have e12 : aa.tmps.getD 12 undef = .pointer (some ⟨w.heap.size, 3, none⟩) := hA.got 6 12 (by kernel_rfl)
        have cqHX_13 := (hA.bel.cell (p := ⟨w.heap.size, 3, none⟩) HX_1.out.lt).trans (HX_1.out.cell (j := 3) rfl)
        exact gives hK (v := .int .i64 k.time) (by simp [execOp, Act.eval, e12, cqHX_13, go_sem]) rfl
      · intro aa ww hA K hK
        refine free rfl ?_
        have e1 : aa.tmps.getD 1 undef = .pointer (some ⟨w.heap.size, 0, none⟩) := hA.old 1 (by kernel_rfl)
        exact gives hK (v := .pointer (some ⟨w.heap.size, 4, none⟩)) (by simp [execOp, Act.eval, e1, go_sem]) rfl
      · intro aa ww hA K hK
        refine free rfl ?_
        have e14 : aa.tmps.getD 14 undef = .pointer (some ⟨w.heap.size, 4, none⟩) := hA.got 8 14 (by kernel_rfl)
        have cqHX_14 := (hA.bel.cell (p := ⟨w.heap.size, 4, none⟩) HX_1.out.lt).trans (HX_1.out.cell (j := 4) rfl)
        exact gives hK (v := .int .i64 k.until_) (by simp [execOp, Act.eval, e14, cqHX_14, go_sem]) rfl
      · intro aa ww hA K hK
        refine free rfl ?_
        have e1 : aa.tmps.getD 1 undef = .pointer (some ⟨w.heap.size, 0, none⟩) := hA.old 1 (by kernel_rfl)
        exact gives hK (v := .pointer (some ⟨w.heap.size, 5, none⟩)) (by simp [execOp, Act.eval, e1, go_sem]) rfl
      · intro aa ww hA K hK
        refine free rfl ?_
        have e16 : aa.tmps.getD 16 undef = .pointer (some ⟨w.heap.size, 5, none⟩) := hA.got 10 16 (by kernel_rfl)
        have cqHX_15 := (hA.bel.cell (p := ⟨w.heap.size, 5, none⟩) HX_1.out.lt).trans (HX_1.out.cell (j := 5) rfl)
        exact gives hK (v := .int .i64 k.count) (by simp [execOp, Act.eval, e16, cqHX_15, go_sem]) rfl
      · intro aa ww hA K hK
        refine free rfl ?_
        have e1 : aa.tmps.getD 1 undef = .pointer (some ⟨w.heap.size, 0, none⟩) := hA.old 1 (by kernel_rfl)
        exact gives hK (v := .pointer (some ⟨w.heap.size, 6, none⟩)) (by simp [execOp, Act.eval, e1, go_sem]) rfl
      · intro aa ww hA K hK
        refine free rfl ?_
        have e18 : aa.tmps.getD 18 undef = .pointer (some ⟨w.heap.size, 6, none⟩) := hA.got 12 18 (by kernel_rfl)
        have cqHX_16 := (hA.bel.cell (p := ⟨w.heap.size, 6, none⟩) HX_1.out.lt).trans (HX_1.out.cell (j := 6) rfl)
        exact gives hK (v := .int .i64 k.root) (by simp [execOp, Act.eval, e18, cqHX_16, go_sem]) rfl
      · intro aa ww hA K hK
        refine free rfl ?_
        have e1 : aa.tmps.getD 1 undef = .pointer (some ⟨w.heap.size, 0, none⟩) := hA.old 1 (by kernel_rfl)
        exact gives hK (v := .pointer (some ⟨w.heap.size, 7, none⟩)) (by simp [execOp, Act.eval, e1, go_sem]) rfl
      · intro aa ww hA K hK
        refine free rfl ?_
        have e20 : aa.tmps.getD 20 undef = .pointer (some ⟨w.heap.size, 7, none⟩) := hA.got 14 20 (by kernel_rfl)
        have cqHX_17 := (hA.bel.cell (p := ⟨w.heap.size, 7, none⟩) HX_1.out.lt).trans (HX_1.out.cell (j := 7) rfl)
        exact gives hK (v := .int .i64 k.prev) (by simp [execOp, Act.eval, e20, cqHX_17, go_sem]) rfl
      · intro aa ww hA K hK
        refine free rfl ?_
        have e7 : aa.tmps.getD 7 undef = .int .i64 (k.zone) := hA.got 1 7 (by kernel_rfl)
        have e9 : aa.tmps.getD 9 undef = .int .i64 (k.epoch) := hA.got 3 9 (by kernel_rfl)
        have e11 : aa.tmps.getD 11 undef = .int .i64 (k.kind) := hA.got 5 11 (by kernel_rfl)
        have e13 : aa.tmps.getD 13 undef = .int .i64 (k.time) := hA.got 7 13 (by kernel_rfl)
        have e15 : aa.tmps.getD 15 undef = .int .i64 (k.until_) := hA.got 9 15 (by kernel_rfl)
        have e17 : aa.tmps.getD 17 undef = .int .i64 (k.count) := hA.got 11 17 (by kernel_rfl)
        have e19 : aa.tmps.getD 19 undef = .int .i64 (k.root) := hA.got 13 19 (by kernel_rfl)
        have e21 : aa.tmps.getD 21 undef = .int .i64 (k.prev) := hA.got 15 21 (by kernel_rfl)
        exact lays hK (v := .slice (some ⟨ww.heap.size, 0, none⟩) 8 8) (w' := ww.alloc (.cells #[.int .i64 (k.zone), .int .i64 (k.epoch), .int .i64 (k.kind), .int .i64 (k.time), .int .i64 (k.until_), .int .i64 (k.count), .int .i64 (k.root), .int .i64 (k.prev)] 3)) (by simp only [execOp, List.map_toArray, List.map_cons, List.map_nil, Act.eval, e7, e9, e11, e13, e15, e17, e19, e21]; simp [go_sem]) ((Below.refl _ _).alloc (Nat.le_refl _) _) (snums_lit (zs := [k.zone, k.epoch, k.kind, k.time, k.until_, k.count, k.root, k.prev]) HL8.out)
      · intro aa ww hA K hK
        refine free rfl ?_
        have e1 : aa.tmps.getD 1 undef = .pointer (some ⟨w.heap.size, 0, none⟩) := hA.old 1 (by kernel_rfl)
        exact gives hK (v := .pointer (some ⟨w.heap.size, 8, none⟩)) (by simp [execOp, Act.eval, e1, go_sem]) rfl
      · intro aa ww hA K hK
        refine free rfl ?_
        have e23 : aa.tmps.getD 23 undef = .pointer (some ⟨w.heap.size, 8, none⟩) := hA.got 17 23 (by kernel_rfl)
        have cqHX_18 := (hA.bel.cell (p := ⟨w.heap.size, 8, none⟩) HX_1.out.lt).trans (HX_1.out.cell (j := 8) rfl)
        have cqHX_19 := (hA.bel.cell (p := ⟨w.heap.size, 9, none⟩) HX_1.out.lt).trans (HX_1.out.cell (j := 9) rfl)
        exact gives hK (v := .agg #[.slice A0 n0 c0, .int .i64 k.keys.need]) (by simp [execOp, Act.eval, e23, cqHX_18, cqHX_19, go_sem]) rfl
      · intro aa ww hA K hK
        refine free rfl ?_
        have e24 : aa.tmps.getD 24 undef = .agg #[.slice A0 n0 c0, .int .i64 k.keys.need] := hA.got 18 24 (by kernel_rfl)
        refine calls hK (by simp [Act.eval, e24, go_sem]) (HK0.out ww (HB_1.out.trans ((RKA.below_drew hA.bel).mono HB_1.out.size))) ?_
        rintro e w1 ⟨A9, c9, rfl, hop, hb⟩
        exact ⟨_, rfl, hb, snums_own hop⟩
      · intro aa ww hA K hK
        refine free rfl ?_
        have e1 : aa.tmps.getD 1 undef = .pointer (some ⟨w.heap.size, 0, none⟩) := hA.old 1 (by kernel_rfl)
        exact gives hK (v := .pointer (some ⟨w.heap.size, 10, none⟩)) (by simp [execOp, Act.eval, e1, go_sem]) rfl
      · intro aa ww hA K hK
        refine free rfl ?_
        have e26 : aa.tmps.getD 26 undef = .pointer (some ⟨w.heap.size, 10, none⟩) := hA.got 20 26 (by kernel_rfl)
        have cqHX_110 := (hA.bel.cell (p := ⟨w.heap.size, 10, none⟩) HX_1.out.lt).trans (HX_1.out.cell (j := 10) rfl)
        have cqHX_111 := (hA.bel.cell (p := ⟨w.heap.size, 11, none⟩) HX_1.out.lt).trans (HX_1.out.cell (j := 11) rfl)
        exact gives hK (v := .agg #[.slice A1 n1 c1, .int .i64 k.heirs.need]) (by simp [execOp, Act.eval, e26, cqHX_110, cqHX_111, go_sem]) rfl
      · intro aa ww hA K hK
        refine free rfl ?_
        have e27 : aa.tmps.getD 27 undef = .agg #[.slice A1 n1 c1, .int .i64 k.heirs.need] := hA.got 21 27 (by kernel_rfl)
        refine calls hK (by simp [Act.eval, e27, go_sem]) (HK1.out ww (HB_1.out.trans ((RKA.below_drew hA.bel).mono HB_1.out.size))) ?_
        rintro e w1 ⟨A9, c9, rfl, hop, hb⟩
        exact ⟨_, rfl, hb, snums_own hop⟩
      · intro aa ww hA K hK
        refine free rfl ?_
        have e1 : aa.tmps.getD 1 undef = .pointer (some ⟨w.heap.size, 0, none⟩) := hA.old 1 (by kernel_rfl)
        exact gives hK (v := .pointer (some ⟨w.heap.size, 12, none⟩)) (by simp [execOp, Act.eval, e1, go_sem]) rfl
      · intro aa ww hA K hK
        refine free rfl ?_
        have e29 : aa.tmps.getD 29 undef = .pointer (some ⟨w.heap.size, 12, none⟩) := hA.got 23 29 (by kernel_rfl)
        have cqHX_112 := (hA.bel.cell (p := ⟨w.heap.size, 12, none⟩) HX_1.out.lt).trans (HX_1.out.cell (j := 12) rfl)
        exact gives hK (v := .int .i64 k.wait) (by simp [execOp, Act.eval, e29, cqHX_112, go_sem]) rfl
      · intro aa ww hA K hK
        refine free rfl ?_
        have e30 : aa.tmps.getD 30 undef = .int .i64 (k.wait) := hA.got 24 30 (by kernel_rfl)
        exact lays hK (v := .slice (some ⟨ww.heap.size, 0, none⟩) 1 1) (w' := ww.alloc (.cells #[.int .i64 (k.wait)] 3)) (by simp only [execOp, List.map_toArray, List.map_cons, List.map_nil, Act.eval, e30]; simp [go_sem]) ((Below.refl _ _).alloc (Nat.le_refl _) _) (snums_lit (zs := [k.wait]) HL1.out)
      · intro aa ww hA K hK
        refine free rfl ?_
        have e1 : aa.tmps.getD 1 undef = .pointer (some ⟨w.heap.size, 0, none⟩) := hA.old 1 (by kernel_rfl)
        exact gives hK (v := .pointer (some ⟨w.heap.size, 13, none⟩)) (by simp [execOp, Act.eval, e1, go_sem]) rfl
      · intro aa ww hA K hK
        refine free rfl ?_
        have e32 : aa.tmps.getD 32 undef = .pointer (some ⟨w.heap.size, 13, none⟩) := hA.got 26 32 (by kernel_rfl)
        have cqHX_113 := (hA.bel.cell (p := ⟨w.heap.size, 13, none⟩) HX_1.out.lt).trans (HX_1.out.cell (j := 13) rfl)
        have cqHX_114 := (hA.bel.cell (p := ⟨w.heap.size, 14, none⟩) HX_1.out.lt).trans (HX_1.out.cell (j := 14) rfl)
        exact gives hK (v := .agg #[.slice A2 n2 c2, .int .i64 k.judge.need]) (by simp [execOp, Act.eval, e32, cqHX_113, cqHX_114, go_sem]) rfl
      · intro aa ww hA K hK
        refine free rfl ?_
        have e33 : aa.tmps.getD 33 undef = .agg #[.slice A2 n2 c2, .int .i64 k.judge.need] := hA.got 27 33 (by kernel_rfl)
        refine calls hK (by simp [Act.eval, e33, go_sem]) (HK2.out ww (HB_1.out.trans ((RKA.below_drew hA.bel).mono HB_1.out.size))) ?_
        rintro e w1 ⟨A9, c9, rfl, hop, hb⟩
        exact ⟨_, rfl, hb, snums_own hop⟩
      · intro aa ww hA K hK
        refine free rfl ?_
        exact gives hK rfl (hA.old 3 (by kernel_rfl))
      · intro aa ww hA K hK
        refine free rfl ?_
        have e35 : aa.tmps.getD 35 undef = .int .i64 (1) := hA.got 29 35 (by kernel_rfl)
        exact lays hK (v := .slice (some ⟨ww.heap.size, 0, none⟩) 1 1) (w' := ww.alloc (.cells #[.int .i64 (1)] 3)) (by simp only [execOp, List.map_toArray, List.map_cons, List.map_nil, Act.eval, e35]; simp [go_sem]) ((Below.refl _ _).alloc (Nat.le_refl _) _) (snums_lit (zs := [1]) HLF.out)
      · intro aa ww hA K hK
        refine free rfl ?_
        obtain ⟨A22, c22, e22, hc22, h22⟩ := hA.got 16 22 (by kernel_rfl)
        obtain ⟨A25, c25, e25, hc25, h25⟩ := hA.got 19 25 (by kernel_rfl)
        obtain ⟨A28, c28, e28, hc28, h28⟩ := hA.got 22 28 (by kernel_rfl)
        obtain ⟨A31, c31, e31, hc31, h31⟩ := hA.got 25 31 (by kernel_rfl)
        obtain ⟨A34, c34, e34, hc34, h34⟩ := hA.got 28 34 (by kernel_rfl)
        obtain ⟨A36, c36, e36, hc36, h36⟩ := hA.got 30 36 (by kernel_rfl)
        exact lays hK (v := .slice (some ⟨ww.heap.size, 0, none⟩) 6 6) (w' := ww.alloc (.cells #[.slice A22 ([k.zone, k.epoch, k.kind, k.time, k.until_, k.count, k.root, k.prev]).length c22, .slice A25 (z0).length c25, .slice A28 (z1).length c28, .slice A31 ([k.wait]).length c31, .slice A34 (z2).length c34, .slice A36 ([1]).length c36] 24)) (by simp only [execOp, List.map_toArray, List.map_cons, List.map_nil, Act.eval, e22, e25, e28, e31, e34, e36]; simp [go_sem]) ((Below.refl _ _).alloc (Nat.le_refl _) _) (srows_new (zss := [[k.zone, k.epoch, k.kind, k.time, k.until_, k.count, k.root, k.prev], z0, z1, [k.wait], z2, [1]]) _ (.cons h22 (.cons h25 (.cons h28 (.cons h31 (.cons h34 (.cons h36 .nil)))))))
      · intro aa ww hA K hK
        refine free rfl ?_
        obtain ⟨A37, c37, e37, h37⟩ := hA.got 31 37 (by kernel_rfl)
        have hlow : w.heap.size ≤ ww.heap.size := (HB_1.out.trans ((RKA.below_drew hA.bel).mono HB_1.out.size)).size
        refine calls hK (by simp [Act.eval, e37, go_sem]) (HC.out A37 c37 ww h37) ?_
        rintro e w1 ⟨A9, c9, rfl, hop, hb⟩
        exact ⟨_, rfl, hb, by have hz := HF.out; rw [← hz] at hop ⊢; exact sown9_own hop hlow (Nat.le_trans hlow hb.size)⟩
      · intro aa ww hA K hK
        refine free rfl ?_
        exact gives hK rfl (hA.got 32 38 (by kernel_rfl))
    · intro a1 w1 hb hd hsz hold hgot
      obtain ⟨B2, d2, e2, ho2, hl2⟩ := hgot 33 2 (by kernel_rfl)
      rename_i K9 hK9
      refine hK9 a1 w1 (wp_ret ?_)
      exact bodyPost_ret (v := .slice B2 zz.length d2) (by simp [results, Tryz.results45, go_sem]; rw [← Array.getD_eq_getD_getElem?]; exact e2) (hd.trans rfl) ⟨B2, d2, rfl, ho2, HB_1.out.trans ((RKA.below_drew hb).mono HB_1.out.size)⟩
end Go.Proofs.YthhmhcmlbpdlbaaGreat.C13I
