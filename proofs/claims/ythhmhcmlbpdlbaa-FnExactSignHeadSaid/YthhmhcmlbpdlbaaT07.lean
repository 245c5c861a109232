/- The laws' own helpers on signatures. -/
import Derived.Test.YthhmhcmlbpdlbaaR07
import Derived.Test.YthhmhcmlbpdlbaaT01
import Derived.Test.YthhmhcmlbpdlbaaR06
import Derived.RegionTactic
import Derived.Deep.RegionWith
namespace Go.Proofs.Ythhmhcmlbpdlbaa.T07
open Go.RowKit Mem MemS Rep RepA Flat R07 T01
set_option linter.unusedVariables false
set_option maxRecDepth 100000
theorem in_zero : In .i64 0 := by unfold In; decide
theorem szSigS_any (A : Option Addr) (n c : Nat) (q : Int) (w : World) (hq0 : 0 ≤ q) (hq1 : q ≤ 1048576) (hn : n ≤ maxLen) :
    Calls Try.prog 49 #[.slice A n c, .int .i64 q] w fun e w' => e = .returned (.int .i64 (if q < n then -1 else q - n)) ∧ w = w' := by
  unfold maxLen at hn
  by_cases h : q < n
  · rw [if_pos h]
    have h1 : q - n < 0 := by omega
    go_enter Try.func49, Try.ntmps49
    go_wp2
    go_ret
    exact ⟨rfl, rfl⟩
  · rw [if_neg h]
    have h1 : ¬ q - n < 0 := by omega
    go_enter Try.func49, Try.ntmps49
    go_wp2
    go_ret
    exact ⟨rfl, rfl⟩
theorem toSig_f (P : Nat → Prop) (cs : List Value) (s : Sig) (w : World) (h : RSig.rd w P cs s) :
    Calls Try.prog 75 #[.agg cs.toArray] w fun e w' => e = .returned (.agg (fSig s).toArray) ∧ Below w.heap.size w w' := by
  obtain ⟨rfl, hq⟩ := flSig.rd.1 h
  clear h hq
  obtain ⟨x0, x1⟩ := s
  unfold fSig
  simp only
  go_enter Try.func75, Try.ntmps75
  go_wp2
  refine bodyPost_ret (v := .agg #[.int .i64 x0, .int .i64 x1]) (by simp [results, Try.results75, go_sem]) rfl ⟨rfl, ?_⟩
  repeat' refine Below.setCell ?_ ?_ _
  all_goals first | exact (((Below.refl _ _).alloc (Nat.le_refl _) _).alloc (by simp) _).alloc (by simp; omega) _ | (simp; done) | (simp; omega)
theorem toSig_any (cs : List Value) (s : Sig) (w : World) (h : RSig.rd w (Lt w.heap.size) cs s) (hn : totSig s ≤ 1048576) :
    Calls Try.prog 75 #[.agg cs.toArray] w fun e w' => ∃ cs', e = .returned (.agg (List.toArray cs')) ∧ OwnI RSig w' w.heap.size w'.heap.size cs' s ∧ Below w.heap.size w w' :=
  (toSig_f _ cs s w h).mono fun e w' q => ⟨fSig s, q.1, ⟨[], flSig.own.2 ⟨rfl, rfl, (flSig.rd.1 h).2⟩, .nil, by simp⟩, q.2⟩
theorem eqSig_any (s t : Sig) (w : World) :
    Calls Try.prog 70 #[.agg (fSig s).toArray, .agg (fSig t).toArray] w fun e w' => e = .returned (.bool (decide (s = t))) ∧ Below w.heap.size w w' := by
  obtain ⟨x0, x1⟩ := s
  obtain ⟨y0, y1⟩ := t
  unfold fSig
  simp only [Sig.mk.injEq]
  by_cases h0 : x0 = y0
  · by_cases h1 : x1 = y1
    · rw [decide_eq_true ⟨h0, h1⟩]
      go_enter Try.func70, Try.ntmps70
      go_wp2
      go_ret
      exact ⟨rfl, ((Below.refl _ _).alloc (Nat.le_refl _) _).alloc (by simp) _⟩
    · rw [decide_eq_false fun h => h1 h.2]
      go_enter Try.func70, Try.ntmps70
      go_wp2
      go_ret
      exact ⟨rfl, ((Below.refl _ _).alloc (Nat.le_refl _) _).alloc (by simp) _⟩
  · rw [decide_eq_false fun h => h0 h.1]
    go_enter Try.func70, Try.ntmps70
    go_wp2
    go_ret
    exact ⟨rfl, ((Below.refl _ _).alloc (Nat.le_refl _) _).alloc (by simp) _⟩
/-- an element is written -/
theorem put_Sig {w : World} {lo hi n c i : Nat} {A : Option Addr} {zs : List Sig} (h : FOwnSig w lo hi A n c zs) (hi' : i < n) : ∃ g, A = some ⟨g, 0, none⟩ ∧ lo ≤ g ∧ g < hi ∧
    w.cell? ⟨g, i * 2, none⟩ = some (.int .i64 (zs.getD i default).key) ∧ w.cell? ⟨g, i * 2 + 1, none⟩ = some (.int .i64 (zs.getD i default).tag) ∧ w.frozen? ⟨g, i * 2, none⟩ = false ∧ w.frozen? ⟨g, i * 2 + 1, none⟩ = false ∧
    (∀ x, In .i64 x → FOwnSig (w.setCell ⟨g, i * 2, none⟩ (.int .i64 x)) lo hi A n c (zs.set i ⟨x, (zs.getD i default).tag⟩)) ∧
    (∀ x, In .i64 x → FOwnSig (w.setCell ⟨g, i * 2 + 1, none⟩ (.int .i64 x)) lo hi A n c (zs.set i ⟨(zs.getD i default).key, x⟩)) ∧
    (∀ z, QSig z → FOwnSig ((w.setCell ⟨g, i * 2, none⟩ (.int .i64 z.key)).setCell ⟨g, i * 2 + 1, none⟩ (.int .i64 z.tag)) lo hi A n c (zs.set i z)) := by
  have hq := (h.rd).getQ hi'
  have hil : i < zs.length := by rw [h.len]; exact hi'
  obtain ⟨g, e, h1, h2, hc0, hf0, hs0⟩ := h.set fSig_len hi' (show 0 < 2 by decide)
  obtain ⟨g', e', -, -, hc1, hf1, hs1⟩ := h.set fSig_len hi' (show 1 < 2 by decide)
  subst e
  injection e' with e'
  injection e' with e'
  subst e'
  refine ⟨g, rfl, h1, h2, hc0, hc1, hf0, hf1, fun x hx => hs0 _ _ ⟨hx, hq.2⟩ rfl, fun x hx => hs1 _ _ ⟨hq.1, hx⟩ rfl, fun z hz => ?_⟩
  have h3 := hs0 (.int .i64 z.key) ⟨z.key, (zs.getD i default).tag⟩ ⟨hz.1, hq.2⟩ rfl
  obtain ⟨g', e', -, -, -, -, hs2⟩ := h3.set fSig_len hi' (show 1 < 2 by decide)
  injection e' with e'
  injection e' with e'
  subst e'
  have h4 := hs2 (.int .i64 z.tag) z hz (by simp [List.getD, hil, fSig])
  rwa [List.set_set] at h4
theorem toSigS_b (B : Nat) (A : Option Addr) (n c : Nat) (zs : List Sig) (w : World) (h : FRdSig w B A n zs) (hB : B ≤ w.heap.size) (hn : n ≤ 68719476736) :
    Calls Try.prog 52 #[.slice A n c] w fun e w' => ∃ A' c', e = .returned (.slice A' n c') ∧ FOwnSig w' w.heap.size w'.heap.size A' n c' zs ∧ Below w.heap.size w w' := by
  have HL := Lib.hid h.len
  have HR := Lib.hid h
  obtain ⟨i, h1, h2, h3, h4⟩ := info_parts (show (Try.prog.info? 73).map (fun i => (i.zero, i.size, i.bytes)) = some (some (.agg #[.int .i64 0, .int .i64 0]), 2, 16) by kernel_rfl)
  have hq0 : QSig default := ⟨in_zero, in_zero⟩
  clear h
  go_enter Try.func52, Try.ntmps52
  go_wp2_with (first | (at_make; refine wp_makeF (st := 36) (ty := 73) (k := 2) (f := fSig) (Q := QSig) (dz := default) (by kernel_rfl) h1 h2 h3 (by omega) (by decide) rfl rfl hq0 rfl _ _ rfl rfl rfl (by omega) ?_; intro w1 hown1 hb1) | go_in)
  have HB := Lib.hid hb1
  clear hb1 h1 h2 h3 h4
  go_loopw [4] (fun i wr => ∃ j : Nat, j ≤ n ∧ i = .int .i64 j ∧ FOwnSig wr w.heap.size wr.heap.size (some ⟨w.heap.size, 0, none⟩) n n (zs.take j ++ List.replicate (n - j) default) ∧ Below w.heap.size w wr) (fun i _ => n - (intOf i).toNat)
  case atStart => exact ⟨0, by omega, rfl, by simpa using hown1, HB.out⟩
  case round =>
    clear hown1
    obtain ⟨j, hj, rfl, hown, hbel⟩ := hrel
    have HX := Lib.hid hbel
    have HO := Lib.hid hown
    clear hbel hown
    by_cases hjn : j < n
    · obtain ⟨b, off, rfl, hlt, hc⟩ := (HR.out.below HX.out hB).cell_at hjn
      have hq := HR.out.getQ hjn
      have hcp := copy_setF (d := default) (zs := zs) HL.out hjn
      obtain ⟨z, hz⟩ : ∃ z, z = zs.getD j default := ⟨_, rfl⟩
      rw [← hz] at hc hq hcp
      have hc0 : wr.cell? ⟨b, off + j * 2, none⟩ = (fSig z)[0]? := hc 0 (by decide)
      have hc1 : wr.cell? ⟨b, off + j * 2 + 1, none⟩ = (fSig z)[1]? := hc 1 (by decide)
      have HQ := Lib.hid hq
      have HC := Lib.hid hcp
      clear hc hq hcp hz
      obtain ⟨x0, x1⟩ := z
      simp only [fSig, List.getElem?_cons_zero, List.getElem?_cons_succ] at hc0 hc1
      have hK := fun w => toSig_f (fun _ => True) (fSig ⟨x0, x1⟩) ⟨x0, x1⟩ w (flSig.rd.2 ⟨rfl, HQ.out⟩)
      simp only [fSig] at hK
      have HK := Lib.hid hK
      clear hK
      go_wp2_with fail
      refine (HK.out _).mono ?_
      rintro e w2 ⟨rfl, hb2⟩
      have HX2 := Lib.hid (HX.out.trans (hb2.mono HX.out.size))
      have HO2 := Lib.hid (HO.out.below hb2 (Nat.le_refl _)).top
      clear hb2 hc0 hc1
      obtain ⟨g, e, hg1, hg2, hcg0, hcg1, hfg0, hfg1, -, -, hset⟩ := put_Sig HO2.out hjn
      injection e with e
      injection e with e
      subst e
      have hset1 := hset ⟨x0, x1⟩ HQ.out
      rw [HC.out] at hset1
      have HS := Lib.hid hset1
      have HH := Lib.hid HX2.out.size
      clear hset hset1 hg1 hg2
      generalize ((zs.take j ++ List.replicate (n - j) default).getD j default).key = o0 at hcg0
      generalize ((zs.take j ++ List.replicate (n - j) default).getD j default).tag = o1 at hcg1
      go_wp2
      go_roundw
      case rel => exact ⟨j + 1, by omega, by go_num, HS.out.top, (HX2.out.setCell (p := ⟨w.heap.size, j * 2, none⟩) (Nat.le_refl _) _).setCell (p := ⟨w.heap.size, j * 2 + 1, none⟩) (Nat.le_refl _) _⟩
      case measure => simp [intOf]; omega
    · have e : zs.take j ++ List.replicate (n - j) default = zs := by
        have : j = n := by omega
        subst this
        rw [← HL.out]
        simp
      rw [e] at HO
      clear e
      go_wp2
      go_ret
      exact ⟨_, _, rfl, HO.out, HX.out⟩
theorem toSigS_any (A : Option Addr) (n c : Nat) (zs : List Sig) (w : World) (h : FRdSig w w.heap.size A n zs) (hn : n ≤ 1048576) :
    Calls Try.prog 52 #[.slice A n c] w fun e w' => ∃ A' c', e = .returned (.slice A' n c') ∧ FOwnSig w' w.heap.size w'.heap.size A' n c' zs ∧ Below w.heap.size w w' :=
  toSigS_b _ A n c zs w h (Nat.le_refl _) (by omega)
theorem eqSigS_same (B B' : Nat) (A A' : Option Addr) (n c c' : Nat) (zs : List Sig) (w : World) (h : FRdSig w B A n zs) (h' : FRdSig w B' A' n zs) (hB : B ≤ w.heap.size) (hB' : B' ≤ w.heap.size) (hn : n ≤ 68719476736) :
    Calls Try.prog 45 #[.slice A n c, .slice A' n c'] w fun e w' => e = .returned (.bool true) ∧ Below w.heap.size w w' := by
  have HL := Lib.hid h.len
  have HR := Lib.hid h
  have HR' := Lib.hid h'
  clear h h'
  go_enter Try.func45, Try.ntmps45
  go_wp2
  go_loopw [5] (fun i wr => ∃ j : Nat, j ≤ n ∧ i = .int .i64 j ∧ Below w.heap.size w wr) (fun i _ => n - (intOf i).toNat)
  case atStart => exact ⟨0, by omega, rfl, Below.refl _ _⟩
  case round =>
    obtain ⟨j, hj, rfl, hbel⟩ := hrel
    have HX := Lib.hid hbel
    clear hbel
    by_cases hjn : j < n
    · obtain ⟨b, off, rfl, hlt, hc⟩ := (HR.out.below HX.out hB).cell_at hjn
      obtain ⟨b', off', rfl, hlt', hc'⟩ := (HR'.out.below HX.out hB').cell_at hjn
      obtain ⟨z, hz⟩ : ∃ z, z = zs.getD j default := ⟨_, rfl⟩
      rw [← hz] at hc hc'
      have hc0 : wr.drew.cell? ⟨b, off + j * 2, none⟩ = (fSig z)[0]? := hc 0 (by decide)
      have hc1 : wr.drew.cell? ⟨b, off + j * 2 + 1, none⟩ = (fSig z)[1]? := hc 1 (by decide)
      have hd0 : wr.drew.cell? ⟨b', off' + j * 2, none⟩ = (fSig z)[0]? := hc' 0 (by decide)
      have hd1 : wr.drew.cell? ⟨b', off' + j * 2 + 1, none⟩ = (fSig z)[1]? := hc' 1 (by decide)
      clear hc hc' hz
      obtain ⟨x0, x1⟩ := z
      simp only [fSig, List.getElem?_cons_zero, List.getElem?_cons_succ] at hc0 hc1 hd0 hd1
      have hK := fun w => eqSig_any ⟨x0, x1⟩ ⟨x0, x1⟩ w
      rw [decide_eq_true rfl] at hK
      simp only [fSig] at hK
      have HK := Lib.hid hK
      clear hK
      go_wp2
      go_region_with (go_at_call 70; refine (HK.out _).mono ?_; rintro e w2 ⟨rfl, hb2⟩)
      all_goals
        have HX2 := Lib.hid (HX.out.trans ((R06.below_drew hb2).mono HX.out.size))
        clear hb2
        go_wp2
        go_roundw
        case rel => exact ⟨j + 1, by omega, by go_num, HX2.out⟩
        case measure => simp [intOf]; omega
    · go_wp2
      go_ret
      exact ⟨rfl, HX.out⟩
def mkSigS (q : Int) (n : Nat) : List Sig := (List.range n).map fun (i : Nat) => ⟨q + 2 * (i : Int), q + 2 * (i : Int) + 1⟩
theorem mkSigS_len (q : Int) (n : Nat) : (mkSigS q n).length = n := by simp [mkSigS]
theorem mkSigS_get (q : Int) {n j : Nat} (h : j < n) : (mkSigS q n).getD j default = ⟨q + 2 * (j : Int), q + 2 * (j : Int) + 1⟩ := by
  simp [mkSigS, List.getD, h]
theorem mkSigS_set (q : Int) {zs : List Sig} {n j : Nat} (hl : zs.length = n) (hj : j < n) : (mkSigS q j ++ zs.drop j).set j ⟨q + 2 * (j : Int), q + 2 * (j : Int) + 1⟩ = mkSigS q (j + 1) ++ zs.drop (j + 1) := by
  subst hl
  have hm := mkSigS_len q j
  rw [List.set_append_right _ _ (by omega), hm, Nat.sub_self, List.drop_eq_getElem_cons hj, List.set_cons_zero]
  unfold mkSigS
  rw [List.range_succ, List.map_append, List.append_assoc]
  rfl
theorem markSigS_any (lo hi : Nat) (A : Option Addr) (n c : Nat) (zs : List Sig) (k : Int) (w : World) (h : FOwnSig w lo hi A n c zs) (hn : n ≤ 68719476736) (hk0 : 0 ≤ k) (hk1 : k ≤ 1152921504606846976) :
    Calls Try.prog 46 #[.slice A n c, .int .i64 k] w fun e w' => e = .returned (.int .i64 (k + 2 * n)) ∧ FOwnSig w' lo hi A n c (mkSigS k n) ∧ Fr lo hi w w' := by
  have HL := Lib.hid h.len
  have HO0 := Lib.hid h
  clear h
  go_enter Try.func46, Try.ntmps46
  go_wp2
  go_loopw [1, 5] (fun q i wr => ∃ j : Nat, j ≤ n ∧ i = .int .i64 j ∧ q = .int .i64 (k + 2 * j) ∧ FOwnSig wr lo hi A n c (mkSigS k j ++ zs.drop j) ∧ Fr lo hi w wr) (fun _ i _ => n - (intOf i).toNat)
  case atStart => exact ⟨0, by omega, rfl, by simp, by simpa [mkSigS] using HO0.out, Fr.refl _ _ _⟩
  case round =>
    obtain ⟨j, hj, rfl, rfl, hown, hfr⟩ := hrel
    have HX := Lib.hid hfr
    have HO := Lib.hid hown
    clear hfr hown
    by_cases hjn : j < n
    · obtain ⟨g, rfl, hg1, hg2, hcg0, hcg1, hfg0, hfg1, -, -, hset⟩ := put_Sig HO.out hjn
      have hi1 : In .i64 (k + 2 * (j : Int)) := ⟨show -9223372036854775808 ≤ k + 2 * (j : Int) by omega, show k + 2 * (j : Int) ≤ 9223372036854775807 by omega⟩
      have hi2 : In .i64 (k + 2 * (j : Int) + 1) := ⟨show -9223372036854775808 ≤ k + 2 * (j : Int) + 1 by omega, show k + 2 * (j : Int) + 1 ≤ 9223372036854775807 by omega⟩
      have hset1 := hset ⟨k + 2 * (j : Int), k + 2 * (j : Int) + 1⟩ ⟨hi1, hi2⟩
      rw [mkSigS_set k HL.out hjn] at hset1
      have HS := Lib.hid hset1
      have hcell1 : (wr.setCell ⟨g, j * 2, none⟩ (.int .i64 (k + 2 * (j : Int)))).cell? ⟨g, j * 2 + 1, none⟩ = some (.int .i64 ((mkSigS k j ++ zs.drop j).getD j default).tag) := by
        rw [← hcg1]
        exact World.cell?_setCell_other _ _ _ _ (fun e => by injection e with _ e _; omega)
      clear hset hset1 hi1 hi2
      generalize ((mkSigS k j ++ zs.drop j).getD j default).key = o0 at hcg0
      generalize ((mkSigS k j ++ zs.drop j).getD j default).tag = o1 at hcg1 hcell1
      go_wp2
      go_roundw
      case rel => exact ⟨j + 1, by omega, by go_num, by go_num, HS.out, (HX.out.setCell hg1 hg2 _ _).setCell hg1 hg2 _ _⟩
      case measure => simp [intOf]; omega
    · have e : mkSigS k j ++ zs.drop j = mkSigS k n := by
        have : j = n := by omega
        subst this
        rw [← HL.out]
        simp
      rw [e] at HO
      have e2 : j = n := by omega
      subst e2
      clear e
      go_wp2
      go_ret
      exact ⟨rfl, HO.out, HX.out⟩
theorem heldSigS_marks (B : Nat) (A : Option Addr) (n c : Nat) (k : Int) (w : World) (h : FRdSig w B A n (mkSigS k n)) (hn : n ≤ 68719476736) (hk0 : 0 ≤ k) (hk1 : k ≤ 1152921504606846976) :
    Calls Try.prog 48 #[.slice A n c, .int .i64 k] w fun e w' => e = .returned (.int .i64 (k + 2 * n)) ∧ w = w' := by
  have HR := Lib.hid h
  clear h
  go_enter Try.func48, Try.ntmps48
  go_wp2
  go_loop [1, 5] (fun q i => ∃ j : Nat, j ≤ n ∧ i = .int .i64 j ∧ q = .int .i64 (k + 2 * j)) (fun _ i => n - (intOf i).toNat)
  case atStart => exact ⟨0, by omega, rfl, by simp⟩
  case round =>
    obtain ⟨j, hj, rfl, rfl⟩ := hrel
    by_cases hjn : j < n
    · obtain ⟨b, off, rfl, _, hc⟩ := HR.out.cell_at hjn
      rw [mkSigS_get k hjn] at hc
      have hc0 : w.cell? ⟨b, off + j * 2, none⟩ = some (.int .i64 (k + 2 * (j : Int))) := hc 0 (by decide)
      have hc1 : w.cell? ⟨b, off + j * 2 + 1, none⟩ = some (.int .i64 (k + 2 * (j : Int) + 1)) := hc 1 (by decide)
      clear hc
      go_wp2
      go_round
      case rel => exact ⟨j + 1, by omega, by go_num, by go_num⟩
      case measure => simp [intOf]; omega
    · have e2 : j = n := by omega
      subst e2
      go_wp2
      go_ret
      exact ⟨rfl, rfl⟩
end Go.Proofs.Ythhmhcmlbpdlbaa.T07
