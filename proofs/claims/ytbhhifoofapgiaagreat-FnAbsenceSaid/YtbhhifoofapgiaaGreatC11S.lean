/- Chapter 11: proofs of presence: what the model's functions return. -/
import Derived.Test.YtbhhifoofapgiaaGreatM11
import Derived.Test.YtbhhifoofapgiaaGreatC10S
import Derived.Test.YtbhhifoofapgiaaGreatC09SP
import Derived.Test.YtbhhifoofapgiaaGreatC08S
import Derived.Test.YtbhhifoofapgiaaGreatR11
import Derived.Deep.RegionHeld3
namespace Go.Proofs.YtbhhifoofapgiaaGreat.C11S
open Go.RowKit Mem MemS M02 M03 M05 M08 M09 M10 M10F M11 C01 C02 C03S C03H C03D C08S C09S C09SP C10S Rep RW R08 Q08 R11 RKA
set_option linter.unusedVariables false
set_option maxRecDepth 100000
theorem fup {w w' : World} {A : Option Addr} {n : Nat} {l : List Entry} (h : FRdEntry w w.heap.size A n l) (hb : Below w.heap.size w w') : FRdEntry w' w'.heap.size A n l := (Rds.below h hb (Nat.le_refl _)).more hb.size
theorem sFind_b (A : Option Addr) (n c : Nat) (l : List Entry) (s : ByteArray) (w : World) (h : FRdEntry w w.heap.size A n l) (hn : n ≤ 1099511627776) :
    Calls Tryz.prog 22 #[.slice A n c, .string s] w fun e w' => e = .returned (.int .i64 (fndE l s)) ∧ Below w.heap.size w w' :=
  (sFindEntry_any A n c l s w h hn).mono fun e w' ⟨g1, g2⟩ => ⟨g1, by subst g2; exact Below.refl _ _⟩
set_option maxHeartbeats 1000000 in
theorem sProveEntry_any (A : Option Addr) (n c : Nat) (l : List Entry) (s : ByteArray) (w : World) (h : FRdEntry w w.heap.size A n l) (hn : totR totEntry l ≤ 1048576) :
    Calls Tryz.prog 25 #[.slice A n c, .string s] w fun e w' => ∃ cs, e = .returned (.tuple #[.agg (List.toArray cs), .bool (proveE l s).2]) ∧ OwnI RProof w' w.heap.size w'.heap.size cs (proveE l s).1 ∧ Below w.heap.size w w' := by
  have hl := h.len
  have hn2 : n ≤ 1048576 := by have := totR_len totEntry l; omega
  have hfr : -1 ≤ fndE l s ∧ fndE l s ≤ 1048576 := by have := fnd_range l s; omega
  have HR := Lib.hid h
  have HN := Lib.hid hn
  have HF := Lib.hid (fun w1 (hb : Below w.heap.size w w1) => sFind_b A n c l s w1 (fup h hb) (by omega))
  by_cases hk : fndE l s < 0
  · rw [proveE_no hk]
    generalize fndE l s = k at *
    clear h hn hl
    go_enter Tryz.func25, Tryz.ntmps25
    go_wp2_with fail
    refine (HF.out _ ((Below.refl _ _).alloc (Nat.le_refl _) _)).mono ?_
    rintro e w1 ⟨rfl, hb⟩
    have HB := Lib.hid (((Below.refl w.heap.size w).alloc (Nat.le_refl _) _).trans (hb.mono (by simp)))
    obtain ⟨hc, hf⟩ := bcell hb
    clear hb
    go_wp2
    refine bodyPost_ret (v := .tuple #[.agg #[.int .i64 0, .slice none 0 0], .bool false]) (by simp [results, Tryz.results25, go_sem, hc]) rfl ⟨[.int .i64 0, .slice none 0 0], rfl, ?_, ?_⟩
    · exact RProof_own.2 ⟨none, 0, 0, rfl, inI64 (by simp) (by simp), Mem.Own.nil _ _ _ _⟩
    · repeat' refine Below.setCell ?_ ?_ _
      all_goals first | exact HB.out | (simp; done) | (simp; omega)
  · rw [proveE_yes hk]
    obtain ⟨lv, hlv⟩ : ∃ lv, lv = leavesE l := ⟨_, rfl⟩
    have hll : lv.length = n := by rw [hlv, leavesE_len]; exact hl
    have HLV := Lib.hid (fun w1 (hb : Below w.heap.size w w1) => sLeavesOf_any A n c l w1 (fup h hb) hn)
    rw [← hlv] at HLV ⊢
    generalize fndE l s = k at *
    have HKB := Lib.hid hfr
    have hpl := pathFor_len lv k
    have HP := Lib.hid (fun A1 c1 w1 (hr : Rd .i64 w1 w1.heap.size A1 n lv) => sPathFor_any A1 n c1 lv k w1 hr (by omega))
    generalize pathFor lv k = pf at *
    have HPL := Lib.hid hpl
    clear h hn hl hlv hpl hll
    go_enter Tryz.func25, Tryz.ntmps25
    go_wp2_with fail
    refine (HF.out _ ((Below.refl _ _).alloc (Nat.le_refl _) _)).mono ?_
    rintro e w1 ⟨rfl, hb⟩
    have HB := Lib.hid (((Below.refl w.heap.size w).alloc (Nat.le_refl _) (.cells #[.int .i64 0, .slice none 0 0] 32)).trans (hb.mono (by simp)))
    obtain ⟨hc, hf⟩ := bcell hb
    have hs1 := hb.size
    simp only [World.size_alloc] at hs1
    clear hb
    go_wp2_with fail
    refine (HLV.out _ HB.out).mono ?_
    rintro e w2 ⟨A2, c2, rfl, ho2, hb2⟩
    have HB2 := Lib.hid (HB.out.trans (hb2.mono HB.out.size))
    obtain ⟨hc2, hf2⟩ := bcell hb2
    have hs2 := hb2.size
    have HR2 := Lib.hid ho2.rd
    clear hb2 ho2
    go_wp2_with fail
    refine (HP.out _ _ _ HR2.out).mono ?_
    rintro e w3 ⟨A3, c3, rfl, ho3, hb3⟩
    have HB3 := Lib.hid (HB2.out.trans (hb3.mono HB2.out.size))
    obtain ⟨hc3, hf3⟩ := bcell hb3
    have HO3 := Lib.hid ho3
    clear hb3 ho3
    have hw1 : w.heap.size < w1.heap.size := by omega
    have hw2 : w.heap.size < w2.heap.size := by omega
    go_wp2
    refine bodyPost_ret (v := .tuple #[.agg #[.int .i64 k, .slice A3 pf.length c3], .bool true]) (by simp [results, Tryz.results25, go_sem, hc, hc2, hc3, hw1, hw2]) rfl ⟨[.int .i64 k, .slice A3 pf.length c3], rfl, ?_, ?_⟩
    · refine RProof_own.2 ⟨A3, pf.length, c3, rfl, (show In .i64 k from inI64 (by have := HKB.out; omega) (by have := HKB.out; omega)), ?_⟩
      refine Mem.Own.base (lo := w2.heap.size) (Mem.Own.top (hi := w3.heap.size) ?_) (by omega)
      repeat refine Own.store ?_ _ (.inl (by first | (simp; done) | (simp; omega)))
      exact HO3.out
    · repeat' refine Below.setCell ?_ ?_ _
      all_goals first | exact HB3.out | (simp; done) | (simp; omega)
set_option maxHeartbeats 4000000 in
theorem sCheckEntry_any (root count : Int) (cs : List Value) (k : Entry) (ds : List Value) (p : Proof) (w : World) (hr0 : In .i64 root) (hc0 : In .i64 count) (h : REntry.rd w (Lt w.heap.size) cs k) (h' : RProof.rd w (Lt w.heap.size) ds p) (hn : totEntry k ≤ 1048576) (hm : totProof p ≤ 1048576) :
    Calls Tryz.prog 46 #[.int .i64 root, .int .i64 count, .agg cs.toArray, .agg ds.toArray] w fun e w' => e = .returned (.bool (checkE root count k p)) ∧ Below w.heap.size w w' := by
  obtain ⟨A, n, c, hcs, -⟩ := REntry_rd.1 h
  obtain ⟨A2, n2, c2, hds, g1, g2, g3, g4⟩ := RProof_rd.1 h'
  have hl2 := g4.len
  unfold totProof at hm
  have eup : ∀ w1, Below w.heap.size w w1 → REntry.rd w1 (Lt w1.heap.size) cs k := fun w1 hb => REntry.more (REntry.keep h fun i hi => hb.block i hi) fun i hi => Nat.lt_of_lt_of_le hi hb.size
  have HLF := Lib.hid (fun w1 hb => sLeafOf_any cs k w1 (eup w1 hb) hn)
  have HIS := Lib.hid (fun w1 hb => sIsEntry_any cs k w1 (eup w1 hb) (by omega))
  have hlr := leafRg k
  have HTF := Lib.hid (fun w1 (hb : Below w.heap.size w w1) => sTopFrom_any (leafOf k) p.at_ count A2 n2 c2 p.path w1 (inI64 (rg_in hlr).1 (rg_in hlr).2) g1 hc0 ((g4.below hb (Nat.le_refl _)).more hb.size) (by omega))
  have htr := topFrom_rg (i := p.at_) (n := count) (p := p.path) hlr
  have HRT := Lib.hid (fun w1 => sl10Root_any count (topFrom (leafOf k) p.at_ count p.path).1 w1 hc0 (inI64 (rg_in htr).1 (rg_in htr).2))
  unfold checkE
  subst hcs hds
  obtain ⟨kl, kk, kv, kp⟩ := k
  obtain ⟨pa, pp⟩ := p
  simp only at *
  generalize leafOf ⟨kl, kk, kv, kp⟩ = lf at *
  generalize topFrom lf pa count pp = tf at *
  obtain ⟨tt, tb⟩ := tf
  simp only at *
  generalize isEntry ⟨kl, kk, kv, kp⟩ = ie at *
  clear h h' eup g1 g2 g3 g4 hlr htr hl2 hn hm hr0 hc0
  obtain ⟨W, hW⟩ : ∃ W, W = (w.alloc (.cells #[.string kl, .int .i64 kk, .int .i64 kv, .slice A n c] 29)).alloc (.cells #[.int .i64 pa, .slice A2 n2 c2] 32) := ⟨_, rfl⟩
  have HXa := Lib.hid (show Box W w.heap.size [.string kl, .int .i64 kk, .int .i64 kv, .slice A n c] from by
    rw [hW]
    exact (Box.new w #[.string kl, .int .i64 kk, .int .i64 kv, .slice A n c] 29).alloc _)
  have HXb := Lib.hid (show Box W (w.heap.size + 1) [.int .i64 pa, .slice A2 n2 c2] from by
    rw [hW]
    have := Box.new (w.alloc (.cells #[.string kl, .int .i64 kk, .int .i64 kv, .slice A n c] 29)) #[.int .i64 pa, .slice A2 n2 c2] 32
    simpa using this)
  have HB0 := Lib.hid (show Below w.heap.size w W from by rw [hW]; exact ((Below.refl _ _).alloc (Nat.le_refl _) _).alloc (by simp) _)
  have hws : w.heap.size + 1 < W.heap.size := by rw [hW]; simp
  have HW := Lib.hid hW
  clear hW
  have c0 := HXa.out.cell (j := 0) rfl
  have c1 := HXa.out.cell (j := 1) rfl
  have c2_ := HXa.out.cell (j := 2) rfl
  have c3 := HXa.out.cell (j := 3) rfl
  have d0 := HXb.out.cell (j := 0) rfl
  have d1 := HXb.out.cell (j := 1) rfl
  rcases ie with _ | _ <;> rcases tb with _ | _
  all_goals
    go_enter Tryz.func46, Tryz.ntmps46
    go_wp2_with fail
    rw [show (w.alloc (.cells #[.string kl, .int .i64 kk, .int .i64 kv, .slice A n c] 29)).alloc (.cells #[.int .i64 pa, .slice A2 n2 c2] 32) = W from HW.out.symm]
    go_region_held3 (fun w' => w'.cell? ⟨w.heap.size, 0, none⟩ = some (.string kl) ∧ w'.cell? ⟨w.heap.size, 1, none⟩ = some (.int .i64 kk) ∧ w'.cell? ⟨w.heap.size, 2, none⟩ = some (.int .i64 kv) ∧ w'.cell? ⟨w.heap.size, 3, none⟩ = some (.slice A n c) ∧ w'.cell? ⟨w.heap.size + 1, 0, none⟩ = some (.int .i64 pa) ∧ w'.cell? ⟨w.heap.size + 1, 1, none⟩ = some (.slice A2 n2 c2)) (go_keep) ((first
      | (go_at_call 82; refine (HLF.out W.drew HB0.out.drew).mono ?_; rintro e w2 ⟨rfl, hb2⟩; have HB2 := Lib.hid (HB0.out.drew.trans (hb2.mono HB0.out.size)); have HX2a := Lib.hid (HXa.out.below (RKA.below_drew hb2) HXa.out.lt); have HX2b := Lib.hid (HXb.out.below (RKA.below_drew hb2) HXb.out.lt); have k0 := HX2a.out.cell (j := 0) rfl; have k1 := HX2a.out.cell (j := 1) rfl; have k2 := HX2a.out.cell (j := 2) rfl; have k3 := HX2a.out.cell (j := 3) rfl; have m0 := HX2b.out.cell (j := 0) rfl; have m1 := HX2b.out.cell (j := 1) rfl; clear hb2)
      | (go_at_call 81; refine (HTF.out w2 HB2.out).mono ?_; rintro e w3 ⟨rfl, hb3⟩; have HB3 := Lib.hid (HB2.out.trans (hb3.mono HB2.out.size)); have HX3a := Lib.hid (HX2a.out.below hb3 HX2a.out.lt); have HX3b := Lib.hid (HX2b.out.below hb3 HX2b.out.lt); have l0 := HX3a.out.cell (j := 0) rfl; have l1 := HX3a.out.cell (j := 1) rfl; have l2 := HX3a.out.cell (j := 2) rfl; have l3 := HX3a.out.cell (j := 3) rfl; have p0 := HX3b.out.cell (j := 0) rfl; have p1 := HX3b.out.cell (j := 1) rfl; clear hb3)))
    clear c0 c1 c2_ c3 d0 d1 k0 k1 k2 k3 m0 m1
    go_wp2_with fail
    refine (HIS.out _ HB3.out).mono ?_
    rintro e w4 ⟨rfl, hb4⟩
    have HB4 := Lib.hid (HB3.out.trans (hb4.mono HB3.out.size))
    clear hb4 l0 l1 l2 l3 p0 p1
    first
    | (go_wp2; go_ret; exact ⟨by simp, HB4.out⟩)
    | (go_wp2_with fail
       refine (HRT.out _).mono ?_
       rintro e w5 ⟨rfl, hb5⟩
       have HB5 := Lib.hid (HB4.out.trans (hb5.mono HB4.out.size))
       clear hb5
       go_wp2
       go_ret
       exact ⟨by first | rfl | (simp; done) | (simp; rfl), HB5.out⟩)
theorem sEqualProofs_any (ds ds' : List Value) (p p' : Proof) (w : World) (h : RProof.rd w (Lt w.heap.size) ds p) (h' : RProof.rd w (Lt w.heap.size) ds' p') (hm : totProof p ≤ 1048576) :
    Calls Tryz.prog 80 #[.agg ds.toArray, .agg ds'.toArray] w fun e w' => e = .returned (.bool (eqP p p')) ∧ Below w.heap.size w w' := by
  obtain ⟨A, n, c, rfl, g1, g2, g3, g4⟩ := RProof_rd.1 h
  obtain ⟨A', n', c', rfl, g1', g2', g3', g4'⟩ := RProof_rd.1 h'
  have hl := g4.len
  unfold totProof at hm
  obtain ⟨pa, pp⟩ := p
  obtain ⟨pa', pp'⟩ := p'
  simp only at *
  unfold eqP
  simp only
  have HE := Lib.hid (fun w1 (hb : Below w.heap.size w w1) => sEqualInts_any _ _ A A' n c n' c' pp pp' w1 ((g4.below hb (Nat.le_refl _)).more hb.size) ((g4'.below hb (Nat.le_refl _)).more hb.size) (by omega))
  generalize decide (pp = pp') = eqb at *
  have HB := Lib.hid (show Below w.heap.size w ((w.alloc (.cells #[.int .i64 pa, .slice A n c] 32)).alloc (.cells #[.int .i64 pa', .slice A' n' c'] 32)) from ((Below.refl _ _).alloc (Nat.le_refl _) _).alloc (by simp) _)
  clear h h' g1 g2 g3 g4 g1' g2' g3' g4' hl hm
  by_cases hp : pa = pa'
  · subst hp
    go_enter Tryz.func80, Tryz.ntmps80
    go_wp2_with fail
    refine (HE.out _ HB.out).mono ?_
    rintro e w1 ⟨rfl, hs⟩
    have HB1 := Lib.hid (HB.out.trans (hs.below _))
    clear hs
    go_wp2
    go_ret
    exact ⟨by simp, HB1.out⟩
  · have hd : decide (pa = pa') = false := decide_eq_false hp
    rw [hd]
    go_enter Tryz.func80, Tryz.ntmps80
    go_wp2
    go_ret
    exact ⟨rfl, HB.out⟩
end Go.Proofs.YtbhhifoofapgiaaGreat.C11S
