/- Rows of Entry: what owns what; the laws' own helpers on rows of it. -/
import Derived.Test.YthhmhcmlbpdlbaaGreatRW
import Derived.Test.YthhmhcmlbpdlbaaGreatM08
import Derived.Test.YthhmhcmlbpdlbaaGreatT08
namespace Go.Proofs.YthhmhcmlbpdlbaaGreat.Q08
open Go.RowKit Mem MemS Rep RepA RW R08 T04 T05 T08 M04
set_option linter.unusedVariables false
set_option maxRecDepth 100000
theorem REntry_n : REntry.n = 4 := rfl
theorem REntry_ownF {w : World} {F : List Nat} {cs : List Value} {k : Entry} : REntry.own w F cs k ↔ ∃ (A3 : Option Addr) (n3 c3 : Nat), cs = [.string k.label, .int .i64 k.kind, .int .i64 k.value, .slice A3 n3 c3] ∧ InS k.label ∧ In .i64 k.kind ∧ In .i64 k.value ∧ OwnF RS w F A3 n3 c3 k.path := by
  constructor
  · rintro ⟨G0, H0, d0, e0, rfl, rfl, ⟨rfl, rfl, h0⟩, ⟨G1, H1, d1, e1, rfl, rfl, ⟨rfl, rfl, h1⟩, ⟨G2, H2, d2, e2, rfl, rfl, ⟨rfl, rfl, h2⟩, ⟨A3, n3, c3, rfl, h3⟩⟩⟩⟩
    exact ⟨A3, n3, c3, rfl, h0, h1, h2, h3⟩
  · rintro ⟨A3, n3, c3, rfl, h0, h1, h2, h3⟩
    exact ⟨[], F, _, _, rfl, rfl, ⟨rfl, rfl, h0⟩, ⟨[], F, _, _, rfl, rfl, ⟨rfl, rfl, h1⟩, ⟨[], F, _, _, rfl, rfl, ⟨rfl, rfl, h2⟩, ⟨A3, n3, c3, rfl, h3⟩⟩⟩⟩
theorem REntry_set0 {w : World} {F : List Nat} {cs : List Value} {k : Entry} (h : REntry.own w F cs k) {v : ByteArray} (hv : InS v) : REntry.own w F (cs.set 0 (.string v)) ⟨v, k.kind, k.value, k.path⟩ := by
  obtain ⟨A3, n3, c3, rfl, h0, h1, h2, h3⟩ := REntry_ownF.1 h
  exact REntry_ownF.2 ⟨_, _, _, rfl, hv, h1, h2, h3⟩
theorem REntry_set1 {w : World} {F : List Nat} {cs : List Value} {k : Entry} (h : REntry.own w F cs k) {v : Int} (hv : In .i64 v) : REntry.own w F (cs.set 1 (.int .i64 v)) ⟨k.label, v, k.value, k.path⟩ := by
  obtain ⟨A3, n3, c3, rfl, h0, h1, h2, h3⟩ := REntry_ownF.1 h
  exact REntry_ownF.2 ⟨_, _, _, rfl, h0, hv, h2, h3⟩
theorem REntry_set2 {w : World} {F : List Nat} {cs : List Value} {k : Entry} (h : REntry.own w F cs k) {v : Int} (hv : In .i64 v) : REntry.own w F (cs.set 2 (.int .i64 v)) ⟨k.label, k.kind, v, k.path⟩ := by
  obtain ⟨A3, n3, c3, rfl, h0, h1, h2, h3⟩ := REntry_ownF.1 h
  exact REntry_ownF.2 ⟨_, _, _, rfl, h0, h1, hv, h3⟩
theorem ownS_ex {w : World} {F : List Nat} {A : Option Addr} {n c : Nat} {zs : List ByteArray} (h : OwnF RS w F A n c zs) : ∃ lo hi, OwnS w lo hi A n c zs ∧ (∀ x, lo ≤ x → x < hi → x ∈ F) ∧ ∀ w' ys, OwnS w' lo hi A n c ys → OwnF RS w' F A n c ys := by
  have h' := h
  obtain ⟨raw, Fe, h1, rfl, h3, h4⟩ := h'
  obtain ⟨rfl, _, _⟩ := els_leaf h4
  rw [List.append_nil] at h ⊢
  cases A with
  | none => exact ⟨0, 0, h.strs (fun b hb => by cases hb), fun x _ h => absurd h (by omega), fun w' ys hy => OwnF.of_strs hy⟩
  | some a => exact ⟨a.block, a.block + 1, h.strs (fun b hb => by have : b = a.block := by simpa [blk] using hb
                                                                  omega), fun x h1 h2 => by have : x = a.block := by omega
                                                                                            simp [blk, this], fun w' ys hy => OwnF.of_strs hy⟩
theorem fr_sub {lo hi lo' hi' : Nat} {w w' : World} (h : Fr lo' hi' w w') (hs : ∀ x, lo' ≤ x → x < hi' → lo ≤ x ∧ x < hi) : Fr lo hi w w' :=
  ⟨h.os, h.tape, h.output, h.size, fun k hk ho => h.block k hk (by
    by_cases h1 : lo' ≤ k ∧ k < hi'
    · have := hs k h1.1 h1.2
      omega
    · omega)⟩
theorem getD_set {α : Type} [Inhabited α] {ys : List α} {j : Nat} {z : α} (h : j < ys.length) : (ys.set j z).getD j default = z := by
  simp [List.getD, h]
abbrev FRdEntry (w : World) (B : Nat) (A : Option Addr) (n : Nat) (zs : List Entry) : Prop := Rds REntry w (Lt B) A n zs
abbrev FOwnEntry (w : World) (lo hi : Nat) (A : Option Addr) (n c : Nat) (zs : List Entry) : Prop := Owns REntry w lo hi A n c zs
theorem szEntryS_any (B : Nat) (A : Option Addr) (n c : Nat) (zs : List Entry) (q : Int) (w : World) (h : Rds REntry w (Lt B) A n zs) (hB : B ≤ w.heap.size) (hq0 : 0 ≤ q) (hq1 : q ≤ 1048576) (hn : n ≤ maxLen) :
    Calls Tryz.prog 20 #[.slice A n c, .int .i64 q] w fun e w' => e = .returned (.int .i64 (if q < (totR totEntry zs : Int) then -1 else q - (totR totEntry zs : Int))) ∧ Below w.heap.size w w' := by
  unfold maxLen at hn
  obtain ⟨r, hr⟩ : ∃ r, r = (if q < (totR totEntry zs : Int) then -1 else q - (totR totEntry zs : Int)) := ⟨_, rfl⟩
  rw [← hr]
  have HRr := Lib.hid hr
  clear hr
  have HL := Lib.hid h.len
  have HT := Lib.hid (show totR totEntry zs = n + (zs.map totEntry).sum from by rw [← h.len]; rfl)
  by_cases h0 : q - n < 0
  · have HQ := Lib.hid (show q < (totR totEntry zs : Int) from by have := HT.out; omega)
    clear h
    go_enter Tryz.func20, Tryz.ntmps20
    go_wp2
    go_ret
    exact ⟨by rw [HRr.out, if_pos HQ.out]; rfl, Below.refl _ _⟩
  · have HR := Lib.hid h
    clear h
    go_enter Tryz.func20, Tryz.ntmps20
    go_wp2
    go_loopw [1, 5] (fun l i wr => ∃ (j : Nat) (v : Int), j ≤ n ∧ i = .int .i64 j ∧ l = .int .i64 v ∧ 0 ≤ v ∧ v = q - n - (((zs.take j).map totEntry).sum : Int) ∧ Below w.heap.size w wr) (fun _ i _ => n - (intOf i).toNat)
    case atStart => exact ⟨0, q - n, by omega, rfl, rfl, by omega, by simp, Below.refl _ _⟩
    case round =>
      obtain ⟨j, v, hj, rfl, rfl, hv0, hv, hbel⟩ := hrel
      have HX := Lib.hid hbel
      have HV0 := Lib.hid hv
      clear hbel
      by_cases hjn : j < n
      · obtain ⟨b, off, cs, rfl, hlt, hrd, hcc⟩ := (HR.out.below HX.out hB).at hjn
        have hst := sumR_snoc totEntry (zs := zs) (j := j) (by rw [HL.out]; exact hjn)
        have htk := sumR_take totEntry zs (j + 1)
        obtain ⟨z, hz⟩ : ∃ z, z = zs.getD j default := ⟨_, rfl⟩
        rw [← hz] at hrd hst
        have hK := szEntry_any cs z v wr (REntry.more hrd fun i hi => Nat.lt_of_lt_of_le hi (Nat.le_trans hB HX.out.size)) hv0 (by omega)
        obtain ⟨A3, n3, c3, rfl, g0, g1, g2, p3, q3, s3⟩ := REntry_rd.1 hrd
        have d0 : wr.cell? ⟨b, off + j * 4, none⟩ = some (.string z.label) := hcc 0 (by decide)
        have d1 : wr.cell? ⟨b, off + j * 4 + 1, none⟩ = some (.int .i64 z.kind) := hcc 1 (by decide)
        have d2 : wr.cell? ⟨b, off + j * 4 + 2, none⟩ = some (.int .i64 z.value) := hcc 2 (by decide)
        have d3 : wr.cell? ⟨b, off + j * 4 + 3, none⟩ = some (.slice A3 n3 c3) := hcc 3 (by decide)
        clear hcc hrd hz g0 g1 g2 p3 q3 s3
        generalize totEntry z = tz at hK hst
        generalize hs1 : ((zs.take (j + 1)).map totEntry).sum = s1 at hst htk
        obtain ⟨z0, z1, z2, z3⟩ := z
        simp only at hK d0 d1 d2 d3
        have hvs : q - n - (s1 : Int) = v - (tz : Int) := by omega
        have hvt : (s1 : Int) ≤ ((zs.map totEntry).sum : Int) := by omega
        rw [← hs1] at hvs hvt
        clear hst htk hv hs1
        by_cases hx : v < (tz : Int)
        · rw [if_pos hx] at hK
          have HK := Lib.hid hK
          have HQ := Lib.hid (show q < (totR totEntry zs : Int) from by have := HT.out; omega)
          clear hK hvs hvt
          go_wp2_with fail
          refine HK.out.mono ?_
          rintro e w2 ⟨rfl, hb2⟩
          have HX2 := Lib.hid (HX.out.trans (hb2.mono HX.out.size))
          clear hb2 d0 d1 d2 d3
          go_wp2
          go_ret
          exact ⟨by rw [HRr.out, if_pos HQ.out]; rfl, HX2.out⟩
        · rw [if_neg hx] at hK
          have hx0 : ¬ v - (tz : Int) < 0 := by omega
          have HK := Lib.hid hK
          have HS := Lib.hid hvs
          clear hK hvs hvt
          go_wp2_with fail
          refine HK.out.mono ?_
          rintro e w2 ⟨rfl, hb2⟩
          have HX2 := Lib.hid (HX.out.trans (hb2.mono HX.out.size))
          clear hb2 d0 d1 d2 d3
          go_wp2
          go_roundw
          case rel => exact ⟨j + 1, v - (tz : Int), by omega, by go_num, rfl, by omega, HS.out.symm, HX2.out⟩
          case measure => simp [intOf]; omega
      · obtain rfl : j = n := by omega
        rw [List.take_of_length_le (by rw [HL.out]; omega)] at hv
        have hv2 : v = q - (totR totEntry zs : Int) := by have := HT.out; omega
        have HV := Lib.hid hv2
        have HQ := Lib.hid (show ¬ q < (totR totEntry zs : Int) from by omega)
        clear hv hv2
        go_wp2
        go_ret
        exact ⟨by rw [HRr.out, if_neg (Int.not_lt.2 HQ.out), ← HV.out]; rfl, HX.out⟩
def zeroEntry : Entry := ⟨.empty, 0, 0, []⟩
theorem tiEntry : Ti REntry 27 := by
  refine ⟨by kernel_rfl, by decide, ?_⟩
  obtain ⟨i, h1, h2, h3, h4⟩ := info_parts (show (Tryz.prog.info? 84).map (fun i => (i.zero, i.size, i.bytes)) = some (some (.agg #[.string .empty, .int .i64 0, .int .i64 0, .slice none 0 0]), 4, 56) by kernel_rfl)
  exact ⟨i, _, h1, h2, rfl, h3, by omega⟩
theorem REntry_zero (w : World) : REntry.own w [] [.string .empty, .int .i64 0, .int .i64 0, .slice none 0 0] zeroEntry := REntry_ownF.2 ⟨none, 0, 0, rfl, by unfold InS maxLen; decide, by unfold In; decide, by unfold In; decide, OwnF.nil _ _⟩
theorem toEntryS_b (B : Nat) (A : Option Addr) (n c : Nat) (zs : List Entry) (w : World) (h : Rds REntry w (Lt B) A n zs) (hB : B ≤ w.heap.size) (hn : n ≤ 68719476736) (ht : ∀ j, j < n → totEntry (zs.getD j default) ≤ 1048576) :
    Calls Tryz.prog 22 #[.slice A n c] w fun e w' => ∃ A' c', e = .returned (.slice A' n c') ∧ Owns REntry w' w.heap.size w'.heap.size A' n c' zs ∧ Below w.heap.size w w' := by
  have HL := Lib.hid h.len
  have HR := Lib.hid h
  have HT := Lib.hid ht
  clear h ht
  go_enter Tryz.func22, Tryz.ntmps22
  go_wp2_with (first | (at_make; refine wp_makeR (st := 27) (dz := zeroEntry) REntry tiEntry (z := .agg #[.string .empty, .int .i64 0, .int .i64 0, .slice none 0 0]) (by kernel_rfl) REntry_zero rfl _ _ rfl rfl rfl (by omega) ?_; intro w1 hown1 hb1) | go_in)
  have HB := Lib.hid hb1
  clear hb1
  go_loopw [4] (fun i wr => ∃ j : Nat, j ≤ n ∧ i = .int .i64 j ∧ Owns REntry wr w.heap.size wr.heap.size (some ⟨w.heap.size, 0, none⟩) n n (zs.take j ++ List.replicate (n - j) zeroEntry) ∧ Below w.heap.size w wr) (fun i _ => n - (intOf i).toNat)
  case atStart => exact ⟨0, by omega, rfl, by simpa using hown1, HB.out⟩
  case round =>
    clear hown1
    obtain ⟨j, hj, rfl, hown, hbel⟩ := hrel
    have HX := Lib.hid hbel
    have HO := Lib.hid hown
    clear hbel hown
    by_cases hjn : j < n
    · obtain ⟨b, off, cs, rfl, hlt, hrd, hcc⟩ := (HR.out.below HX.out hB).at hjn
      have hcp := copy_setR (d := zeroEntry) (zs := zs) HL.out hjn
      have ht := HT.out j hjn
      obtain ⟨z, hz⟩ : ∃ z, z = zs.getD j default := ⟨_, rfl⟩
      rw [← hz] at hrd hcp ht
      have hK := toEntry_any cs z wr (REntry.more hrd fun i hi => Nat.lt_of_lt_of_le hi (Nat.le_trans hB HX.out.size)) ht
      obtain ⟨A3, n3, c3, rfl, g0, g1, g2, p3, q3, s3⟩ := REntry_rd.1 hrd
      have d0 : wr.cell? ⟨b, off + j * 4, none⟩ = some (.string z.label) := hcc 0 (by decide)
      have d1 : wr.cell? ⟨b, off + j * 4 + 1, none⟩ = some (.int .i64 z.kind) := hcc 1 (by decide)
      have d2 : wr.cell? ⟨b, off + j * 4 + 2, none⟩ = some (.int .i64 z.value) := hcc 2 (by decide)
      have d3 : wr.cell? ⟨b, off + j * 4 + 3, none⟩ = some (.slice A3 n3 c3) := hcc 3 (by decide)
      have HC := Lib.hid hcp
      have HK := Lib.hid hK
      clear hcc hrd hz ht hcp hK g0 g1 g2 p3 q3 s3
      generalize hzz : z = zz at HC HK
      obtain ⟨z0, z1, z2, z3⟩ := z
      subst hzz
      simp only at d0 d1 d2 d3
      simp only at HK
      go_wp2_with fail
      refine HK.out.mono ?_
      rintro e w2 ⟨cs2, rfl, hown2, hb2⟩
      obtain ⟨F2, ho2, hnd2, hF2⟩ := hown2
      have HO2 := HO.out.below hb2 (Nat.le_refl _)
      have HX2 := Lib.hid (HX.out.trans (hb2.mono HX.out.size))
      obtain ⟨g, cs0, F0, e, hg1, hg2, ho0, -, -, hc0, -, -, hstore⟩ := elem HO2 hjn
      injection e with e
      injection e with e
      subst e
      have hs2 := hstore w2.heap.size F2 cs2 _ hb2.size ho2 hnd2 hF2
      rw [HC.out] at hs2
      obtain ⟨Aa3, na3, ca3, rfl, -⟩ := REntry_ownF.1 ho2
      obtain ⟨Ab3, nb3, cb3, rfl, -⟩ := REntry_ownF.1 ho0
      have HS := Lib.hid hs2
      clear hs2 hstore hb2 ho2 ho0 hnd2 hF2 HO2 d0 d1 d2 d3
      have x0 : w2.cell? ⟨w.heap.size, j * 4, none⟩ = some (.string ((zs.take j ++ List.replicate (n - j) zeroEntry).getD j default).label) := (hc0 0 (by decide)).1
      have y0 : w2.frozen? ⟨w.heap.size, j * 4, none⟩ = false := (hc0 0 (by decide)).2
      have x1 : w2.cell? ⟨w.heap.size, j * 4 + 1, none⟩ = some (.int .i64 ((zs.take j ++ List.replicate (n - j) zeroEntry).getD j default).kind) := (hc0 1 (by decide)).1
      have y1 : w2.frozen? ⟨w.heap.size, j * 4 + 1, none⟩ = false := (hc0 1 (by decide)).2
      have x2 : w2.cell? ⟨w.heap.size, j * 4 + 2, none⟩ = some (.int .i64 ((zs.take j ++ List.replicate (n - j) zeroEntry).getD j default).value) := (hc0 2 (by decide)).1
      have y2 : w2.frozen? ⟨w.heap.size, j * 4 + 2, none⟩ = false := (hc0 2 (by decide)).2
      have x3 : w2.cell? ⟨w.heap.size, j * 4 + 3, none⟩ = some (.slice Ab3 nb3 cb3) := (hc0 3 (by decide)).1
      have y3 : w2.frozen? ⟨w.heap.size, j * 4 + 3, none⟩ = false := (hc0 3 (by decide)).2
      clear hc0
      generalize ((zs.take j ++ List.replicate (n - j) zeroEntry).getD j default).label = o0 at x0
      generalize ((zs.take j ++ List.replicate (n - j) zeroEntry).getD j default).kind = o1 at x1
      generalize ((zs.take j ++ List.replicate (n - j) zeroEntry).getD j default).value = o2 at x2
      have x1a : (w2.setCell ⟨w.heap.size, j * 4, none⟩ (.string z0)).cell? ⟨w.heap.size, j * 4 + 1, none⟩ = some (.int .i64 o1) := by
        rw [World.cell?_setCell_other _ _ _ _ (fun e => by injection e with _ e _; omega)]
        exact x1
      have x2a : ((w2.setCell ⟨w.heap.size, j * 4, none⟩ (.string z0)).setCell ⟨w.heap.size, j * 4 + 1, none⟩ (.int .i64 z1)).cell? ⟨w.heap.size, j * 4 + 2, none⟩ = some (.int .i64 o2) := by
        rw [World.cell?_setCell_other _ _ _ _ (fun e => by injection e with _ e _; omega)]
        rw [World.cell?_setCell_other _ _ _ _ (fun e => by injection e with _ e _; omega)]
        exact x2
      have x3a : (((w2.setCell ⟨w.heap.size, j * 4, none⟩ (.string z0)).setCell ⟨w.heap.size, j * 4 + 1, none⟩ (.int .i64 z1)).setCell ⟨w.heap.size, j * 4 + 2, none⟩ (.int .i64 z2)).cell? ⟨w.heap.size, j * 4 + 3, none⟩ = some (.slice Ab3 nb3 cb3) := by
        rw [World.cell?_setCell_other _ _ _ _ (fun e => by injection e with _ e _; omega)]
        rw [World.cell?_setCell_other _ _ _ _ (fun e => by injection e with _ e _; omega)]
        rw [World.cell?_setCell_other _ _ _ _ (fun e => by injection e with _ e _; omega)]
        exact x3
      clear hg1 hg2
      go_wp2
      go_roundw
      case rel => exact ⟨j + 1, by omega, by go_num, HS.out.top, ((((HX2.out.setCell (p := ⟨w.heap.size, j * 4, none⟩) (Nat.le_refl _) _).setCell (p := ⟨w.heap.size, j * 4 + 1, none⟩) (Nat.le_refl _) _).setCell (p := ⟨w.heap.size, j * 4 + 2, none⟩) (Nat.le_refl _) _).setCell (p := ⟨w.heap.size, j * 4 + 3, none⟩) (Nat.le_refl _) _)⟩
      case measure => simp [intOf]; omega
    · have e : zs.take j ++ List.replicate (n - j) zeroEntry = zs := by
        have : j = n := by omega
        subst this
        rw [← HL.out]
        simp
      rw [e] at HO
      clear e
      go_wp2
      go_ret
      exact ⟨_, _, rfl, HO.out, HX.out⟩
theorem toEntryS_any (A : Option Addr) (n c : Nat) (zs : List Entry) (w : World) (h : FRdEntry w w.heap.size A n zs) (hn : totR totEntry zs ≤ 1048576) :
    Calls Tryz.prog 22 #[.slice A n c] w fun e w' => ∃ A' c', e = .returned (.slice A' n c') ∧ FOwnEntry w' w.heap.size w'.heap.size A' n c' zs ∧ Below w.heap.size w w' :=
  toEntryS_b _ A n c zs w h (Nat.le_refl _) (by have := totR_len totEntry zs; have := h.len; omega) fun j hj => by have := totR_mem totEntry (zs := zs) (j := j) (by rw [h.len]; exact hj); omega
theorem eqEntryS_same (B B' : Nat) (A A' : Option Addr) (n c c' : Nat) (zs : List Entry) (w : World) (h : FRdEntry w B A n zs) (h' : FRdEntry w B' A' n zs) (hB : B ≤ w.heap.size) (hB' : B' ≤ w.heap.size) (hn : totR totEntry zs ≤ 1099511627776) :
    Calls Tryz.prog 25 #[.slice A n c, .slice A' n c'] w fun e w' => e = .returned (.bool true) ∧ Below w.heap.size w w' := by
  have HL := Lib.hid h.len
  have HT := Lib.hid (fun j (hj : j < n) => totR_mem totEntry (zs := zs) (j := j) (by rw [h.len]; exact hj))
  have hn2 : n ≤ 1099511627776 := by have := totR_len totEntry zs; have := h.len; omega
  have HR := Lib.hid h
  have HR' := Lib.hid h'
  clear h h'
  go_enter Tryz.func25, Tryz.ntmps25
  go_wp2
  go_loopw [5] (fun i wr => ∃ j : Nat, j ≤ n ∧ i = .int .i64 j ∧ Below w.heap.size w wr) (fun i _ => n - (intOf i).toNat)
  case atStart => exact ⟨0, by omega, rfl, Below.refl _ _⟩
  case round =>
    obtain ⟨j, hj, rfl, hbel⟩ := hrel
    have HX := Lib.hid hbel
    clear hbel
    by_cases hjn : j < n
    · obtain ⟨b, off, cs, rfl, hlt, hrd, hcc⟩ := (HR.out.below HX.out hB).at hjn
      obtain ⟨b', off', cs', rfl, hlt', hrd', hcc'⟩ := (HR'.out.below HX.out hB').at hjn
      have ht := HT.out j hjn
      obtain ⟨z, hz⟩ : ∃ z, z = zs.getD j default := ⟨_, rfl⟩
      rw [← hz] at hrd hrd' ht
      have hK := eqEntry_same wr.heap.size wr.heap.size cs cs' z wr.drew (REntry.keep (REntry.more hrd fun i hi => Nat.lt_of_lt_of_le hi (Nat.le_trans hB HX.out.size)) fun i _ => rfl) (REntry.keep (REntry.more hrd' fun i hi => Nat.lt_of_lt_of_le hi (Nat.le_trans hB' HX.out.size)) fun i _ => rfl) (Nat.le_refl _) (Nat.le_refl _) (by omega)
      obtain ⟨A3, n3, c3, rfl, g0, g1, g2, p3, q3, s3⟩ := REntry_rd.1 hrd
      obtain ⟨Ab3, nb3, cb3, rfl, -⟩ := REntry_rd.1 hrd'
      have d0 : wr.drew.cell? ⟨b, off + j * 4, none⟩ = some (.string z.label) := hcc 0 (by decide)
      have e0 : wr.drew.cell? ⟨b', off' + j * 4, none⟩ = some (.string z.label) := hcc' 0 (by decide)
      have d1 : wr.drew.cell? ⟨b, off + j * 4 + 1, none⟩ = some (.int .i64 z.kind) := hcc 1 (by decide)
      have e1 : wr.drew.cell? ⟨b', off' + j * 4 + 1, none⟩ = some (.int .i64 z.kind) := hcc' 1 (by decide)
      have d2 : wr.drew.cell? ⟨b, off + j * 4 + 2, none⟩ = some (.int .i64 z.value) := hcc 2 (by decide)
      have e2 : wr.drew.cell? ⟨b', off' + j * 4 + 2, none⟩ = some (.int .i64 z.value) := hcc' 2 (by decide)
      have d3 : wr.drew.cell? ⟨b, off + j * 4 + 3, none⟩ = some (.slice A3 n3 c3) := hcc 3 (by decide)
      have e3 : wr.drew.cell? ⟨b', off' + j * 4 + 3, none⟩ = some (.slice Ab3 nb3 cb3) := hcc' 3 (by decide)
      have HK := Lib.hid hK
      clear hcc hcc' hrd hrd' hz ht hK hlt hlt' g0 g1 g2 p3 q3 s3
      obtain ⟨z0, z1, z2, z3⟩ := z
      simp only at d0 e0 d1 e1 d2 e2 d3 e3
      simp only at HK
      go_wp2
      go_region_with (go_at_call 63; refine HK.out.mono ?_; rintro e w2 ⟨rfl, hb2⟩)
      all_goals
        have HX2 := Lib.hid (HX.out.trans ((below_drew hb2).mono HX.out.size))
        clear hb2
        go_wp2
        go_roundw
        case rel => exact ⟨j + 1, by omega, by go_num, HX2.out⟩
        case measure => simp [intOf]; omega
    · go_wp2
      go_ret
      exact ⟨rfl, HX.out⟩
def fullEntry (z : Entry) : Nat := 3 + z.path.length
def mkEEntry (q : Int) (z : Entry) : Entry := ⟨mkT (q), q + 1, q + 1 + 1, marksS (q + 1 + 1 + 1) z.path.length⟩
theorem fullEntry_le (z : Entry) : fullEntry z ≤ 16 * (totEntry z + 1) := by
  unfold fullEntry totEntry
  have := totSS_len z.path
  omega
theorem markEntryS_any (lo hi : Nat) (A : Option Addr) (n c : Nat) (zs : List Entry) (k : Int) (w : World) (h : FOwnEntry w lo hi A n c zs) (hn : cntR fullEntry zs ≤ 1099511627776) (hk0 : 0 ≤ k) (hk1 : k ≤ 1152919305583591424) :
    Calls Tryz.prog 27 #[.slice A n c, .int .i64 k] w fun e w' => e = .returned (.int .i64 (k + (cntR fullEntry zs : Int))) ∧ FOwnEntry w' lo hi A n c (mkR fullEntry mkEEntry k zs) ∧ Fr lo hi w w' := by
  have HL := Lib.hid h.len
  have HN := Lib.hid (show n ≤ cntR fullEntry zs from by
    rw [← h.len]
    clear h HL hn
    induction zs with
    | nil => simp
    | cons z r ih =>
      unfold cntR at *
      simp only [List.map_cons, List.sum_cons, List.length_cons]
      have : 1 ≤ fullEntry z := by unfold fullEntry; omega
      omega)
  have HO0 := Lib.hid h
  clear h
  have hn2 : n ≤ 1099511627776 := by have := HN.out; omega
  go_enter Tryz.func27, Tryz.ntmps27
  go_wp2
  go_loopw [1, 5] (fun v i wr => ∃ (j : Nat) (q : Int), j ≤ n ∧ i = .int .i64 j ∧ v = .int .i64 q ∧ q = k + (cntR fullEntry (zs.take j) : Int) ∧ FOwnEntry wr lo hi A n c (mkR fullEntry mkEEntry k (zs.take j) ++ zs.drop j) ∧ Fr lo hi w wr) (fun _ i _ => n - (intOf i).toNat)
  case atStart => exact ⟨0, k, by omega, rfl, rfl, by simp [cntR], by simpa [mkR] using HO0.out, Fr.refl _ _ _⟩
  case round =>
    obtain ⟨j, q, hj, rfl, rfl, hq, hown, hfr⟩ := hrel
    have HR := Lib.hid hown
    have HX := Lib.hid hfr
    clear hown hfr
    by_cases hjn : j < n
    · have hjl : j < zs.length := by rw [HL.out]; exact hjn
      have hset := mkR_set fullEntry mkEEntry (q := k) hjl
      have hat := mkR_at fullEntry mkEEntry (q := k) hjl
      have hsn := cntR_snoc fullEntry hjl
      have htk := cntR_take fullEntry zs j
      have htk1 := cntR_take fullEntry zs (j + 1)
      have hyl : (mkR fullEntry mkEEntry k (zs.take j) ++ zs.drop j).length = n := by simp [mkR_len]; have := HL.out; omega
      rw [← hq] at hset
      obtain ⟨z, hz⟩ : ∃ z, z = zs.getD j default := ⟨_, rfl⟩
      rw [← hz] at hset hat hsn
      clear hz
      generalize mkR fullEntry mkEEntry k (zs.take j) ++ zs.drop j = ys at hset hat hyl HR
      generalize hy2 : mkR fullEntry mkEEntry k (zs.take (j + 1)) ++ zs.drop (j + 1) = ys2 at hset
      have HY2 := Lib.hid hy2
      clear hy2
      obtain ⟨z0, z1, z2, z3⟩ := z
      have hfz : fullEntry ⟨z0, z1, z2, z3⟩ = 3 + z3.length := rfl
      rw [hfz] at hsn
      clear hfz
      unfold mkEEntry at hset
      simp only at hset
      have hq0 : 0 ≤ q := by omega
      have hq1 : q ≤ 1152920405095219200 := by omega
      have hzl : z3.length ≤ 1099511627776 := by omega
      have HSN := Lib.hid (show q + 1 + 1 + 1 + (z3.length : Int) = k + (cntR fullEntry (zs.take (j + 1)) : Int) from by omega)
      have HYL := Lib.hid (show j < ys.length from by omega)
      clear hq hsn htk htk1 hyl hjl
      have hM0 := fun w => markText_any (q) w (by omega)
      have hT0 := mkT_size (q) (by omega)
      have hI0 : InS (mkT (q)) := by unfold InS maxLen; omega
      generalize mkT (q) = m0 at hM0 hI0 hset hT0
      have HM0 := Lib.hid hM0
      have HI0 := Lib.hid hI0
      clear hM0 hI0 hT0
      have HI1 := Lib.hid (show In .i64 (q + 1) from ⟨show -9223372036854775808 ≤ q + 1 by omega, show q + 1 ≤ 9223372036854775807 by omega⟩)
      have HI2 := Lib.hid (show In .i64 (q + 1 + 1) from ⟨show -9223372036854775808 ≤ q + 1 + 1 by omega, show q + 1 + 1 ≤ 9223372036854775807 by omega⟩)
      have HSET := Lib.hid hset
      have HAT := Lib.hid hat
      clear hset hat
      go_wp2_with fail
      refine (HM0.out _).mono ?_
      rintro e wa ⟨rfl, hba⟩
      have HRa := Lib.hid (HR.out.keep (w' := wa) fun i h0 _ _ => hba.block i h0)
      have HXa := Lib.hid (HX.out.trans (Fr.of_new hba lo hi))
      clear hba
      obtain ⟨ga, csa, Fa, ega, hloa, hhia, hoa, -, hFa, hca, hputa, hinna, -⟩ := elem HRa.out hjn
      rw [HAT.out] at hoa
      subst ega
      obtain ⟨Aa_3, na_3, ca_3, rfl, -, -, -, hsla_3⟩ := REntry_ownF.1 hoa
      have x0 : wa.cell? ⟨ga, j * 4, none⟩ = some (.string z0) := (hca 0 (by decide)).1
      have y0 : wa.frozen? ⟨ga, j * 4, none⟩ = false := (hca 0 (by decide)).2
      have hsa := hputa 0 (.string m0) ⟨m0, z1, z2, z3⟩ (by decide) (REntry_set0 hoa HI0.out)
      have HRa2 := Lib.hid (show FOwnEntry (wa.setCell ⟨ga, j * 4, none⟩ (.string m0)) lo hi (some ⟨ga, 0, none⟩) n c (ys.set j ⟨m0, z1, z2, z3⟩) from hsa)
      have HXa2 := Lib.hid (show Fr lo hi w (wa.setCell ⟨ga, j * 4, none⟩ (.string m0)) from HXa.out.setCell hloa hhia _ _)
      clear hoa hFa hca hputa hinna hsa hsla_3 hloa hhia
      obtain ⟨gb, csb, Fb, egb, hlob, hhib, hob, -, hFb, hcb, hputb, hinnb, -⟩ := elem HRa2.out hjn
      rw [(getD_set HYL.out)] at hob
      injection egb with egb
      injection egb with egb
      subst egb
      obtain ⟨Ab_3, nb_3, cb_3, rfl, -, -, -, hslb_3⟩ := REntry_ownF.1 hob
      have x1 : (wa.setCell ⟨ga, j * 4, none⟩ (.string m0)).cell? ⟨ga, j * 4 + 1, none⟩ = some (.int .i64 z1) := (hcb 1 (by decide)).1
      have y1 : (wa.setCell ⟨ga, j * 4, none⟩ (.string m0)).frozen? ⟨ga, j * 4 + 1, none⟩ = false := (hcb 1 (by decide)).2
      have hsb := hputb 1 (.int .i64 (q + 1)) ⟨m0, q + 1, z2, z3⟩ (by decide) (REntry_set1 hob HI1.out)
      rw [List.set_set] at hsb
      have HRb2 := Lib.hid (show FOwnEntry ((wa.setCell ⟨ga, j * 4, none⟩ (.string m0)).setCell ⟨ga, j * 4 + 1, none⟩ (.int .i64 (q + 1))) lo hi (some ⟨ga, 0, none⟩) n c (ys.set j ⟨m0, q + 1, z2, z3⟩) from hsb)
      have HXb2 := Lib.hid (show Fr lo hi w ((wa.setCell ⟨ga, j * 4, none⟩ (.string m0)).setCell ⟨ga, j * 4 + 1, none⟩ (.int .i64 (q + 1))) from HXa2.out.setCell hlob hhib _ _)
      clear hob hFb hcb hputb hinnb hsb hslb_3 hlob hhib
      obtain ⟨gc, csc, Fc, egc, hloc, hhic, hoc, -, hFc, hcc, hputc, hinnc, -⟩ := elem HRb2.out hjn
      rw [(getD_set HYL.out)] at hoc
      injection egc with egc
      injection egc with egc
      subst egc
      obtain ⟨Ac_3, nc_3, cc_3, rfl, -, -, -, hslc_3⟩ := REntry_ownF.1 hoc
      have x2 : ((wa.setCell ⟨ga, j * 4, none⟩ (.string m0)).setCell ⟨ga, j * 4 + 1, none⟩ (.int .i64 (q + 1))).cell? ⟨ga, j * 4 + 2, none⟩ = some (.int .i64 z2) := (hcc 2 (by decide)).1
      have y2 : ((wa.setCell ⟨ga, j * 4, none⟩ (.string m0)).setCell ⟨ga, j * 4 + 1, none⟩ (.int .i64 (q + 1))).frozen? ⟨ga, j * 4 + 2, none⟩ = false := (hcc 2 (by decide)).2
      have hsc := hputc 2 (.int .i64 (q + 1 + 1)) ⟨m0, q + 1, q + 1 + 1, z3⟩ (by decide) (REntry_set2 hoc HI2.out)
      rw [List.set_set] at hsc
      have HRc2 := Lib.hid (show FOwnEntry (((wa.setCell ⟨ga, j * 4, none⟩ (.string m0)).setCell ⟨ga, j * 4 + 1, none⟩ (.int .i64 (q + 1))).setCell ⟨ga, j * 4 + 2, none⟩ (.int .i64 (q + 1 + 1))) lo hi (some ⟨ga, 0, none⟩) n c (ys.set j ⟨m0, q + 1, q + 1 + 1, z3⟩) from hsc)
      have HXc2 := Lib.hid (show Fr lo hi w (((wa.setCell ⟨ga, j * 4, none⟩ (.string m0)).setCell ⟨ga, j * 4 + 1, none⟩ (.int .i64 (q + 1))).setCell ⟨ga, j * 4 + 2, none⟩ (.int .i64 (q + 1 + 1))) from HXb2.out.setCell hloc hhic _ _)
      clear hoc hFc hcc hputc hinnc hsc hslc_3 hloc hhic
      obtain ⟨gd, csd, Fd, egd, hlod, hhid, hod, -, hFd, hcd, hputd, hinnd, -⟩ := elem HRc2.out hjn
      rw [(getD_set HYL.out)] at hod
      injection egd with egd
      injection egd with egd
      subst egd
      obtain ⟨Ad_3, nd_3, cd_3, rfl, -, -, -, hsld_3⟩ := REntry_ownF.1 hod
      have x3 : (((wa.setCell ⟨ga, j * 4, none⟩ (.string m0)).setCell ⟨ga, j * 4 + 1, none⟩ (.int .i64 (q + 1))).setCell ⟨ga, j * 4 + 2, none⟩ (.int .i64 (q + 1 + 1))).cell? ⟨ga, j * 4 + 3, none⟩ = some (.slice Ad_3 nd_3 cd_3) := (hcd 3 (by decide)).1
      obtain ⟨lod, hid, hosd, hsubd, hbackd⟩ := ownS_ex hsld_3
      have hlnd : z3.length = nd_3 := hosd.len
      have HCd := Lib.hid (markStringS_any lod hid Ad_3 nd_3 cd_3 z3 (q + 1 + 1 + 1) _ hosd (by omega) (by omega) (by omega))
      have HFd := Lib.hid hFd
      have HId := Lib.hid hinnd
      have HSBd := Lib.hid hsubd
      have HBKd := Lib.hid hbackd
      have HOOd := Lib.hid hod
      have HLNd := Lib.hid hlnd
      clear hod hFd hcd hputd hinnd hosd hsubd hbackd hsld_3 hlnd hlod hhid
      go_wp2_with fail
      refine HCd.out.mono ?_
      rintro e wd ⟨rfl, hozd, hfzd⟩
      have HRd := Lib.hid (HId.out wd ⟨m0, q + 1, q + 1 + 1, (marksS (q + 1 + 1 + 1) nd_3)⟩ (fun b hbs _ _ hnb => hfzd.block b hbs (by
        by_cases h9 : lod ≤ b ∧ b < hid
        · exact absurd (HSBd.out b h9.1 h9.2) hnb
        · omega)) (by
        obtain ⟨_, _, _, e9, i0, i1, i2, _⟩ := REntry_ownF.1 HOOd.out
        exact REntry_ownF.2 ⟨_, _, _, rfl, i0, i1, i2, HBKd.out _ _ hozd⟩))
      have HXd := Lib.hid (HXc2.out.trans (fr_sub hfzd fun x h1 h2 => ⟨(HFd.out x (HSBd.out x h1 h2)).1, (HFd.out x (HSBd.out x h1 h2)).2.1⟩))
      rw [List.set_set, ← HLNd.out, HSET.out] at HRd
      clear hozd hfzd
      have hrv := HSN.out
      rw [HLNd.out] at hrv
      have HRV := Lib.hid hrv
      clear hrv
      clear x0 x1 x2 x3 y0 y1 y2
      go_wp2
      go_roundw
      case rel => exact ⟨j + 1, q + 1 + 1 + 1 + (nd_3 : Int), by omega, by go_num, by go_num, HRV.out, by rw [HY2.out]; exact HRd.out, HXd.out⟩
      case measure => simp [intOf]; omega
    · obtain rfl : j = n := by omega
      rw [mkR_end fullEntry mkEEntry HL.out] at HR
      rw [List.take_of_length_le (by rw [HL.out]; omega)] at hq
      subst hq
      go_wp2
      go_ret
      exact ⟨rfl, HR.out, HX.out⟩
end Go.Proofs.YthhmhcmlbpdlbaaGreat.Q08
