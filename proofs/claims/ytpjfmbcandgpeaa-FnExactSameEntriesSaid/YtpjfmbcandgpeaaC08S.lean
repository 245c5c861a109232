/- Chapter 8: entries, what the model's functions return. -/
import Derived.Test.YtpjfmbcandgpeaaM08
import Derived.Test.YtpjfmbcandgpeaaC03H
import Derived.Test.YtpjfmbcandgpeaaC05I
import Derived.Test.YtpjfmbcandgpeaaRKA
import Derived.Deep.RegionHeld3
namespace Go.Proofs.Ytpjfmbcandgpeaa.C08S
open Go.RowKit Mem MemS M02 M03 M04 M05 M08 C01 C02 C03S C03D C03H C04S C04I C05S C05I Rep RepA R08 RG RGS RKA
set_option linter.unusedVariables false
set_option maxRecDepth 100000
set_option maxHeartbeats 4000000 in
theorem sIsEntry_any (cs : List Value) (k : Entry) (w : World) (h : REntry.rd w (Lt w.heap.size) cs k) (hn : totEntry k ≤ 1099511627776) :
    Calls Try.prog 62 #[.agg cs.toArray] w fun e w' => e = .returned (.bool (isEntry k)) ∧ Below w.heap.size w w' := by
  obtain ⟨A, n, c, rfl, h0, h1, h2, h3, h4, h5⟩ := REntry_rd.1 h
  obtain ⟨kl, kk, kv, kp⟩ := k
  simp only at h0 h1 h2 h5
  have hl := h5.len
  have hlen : kl.size ≤ 1099511627776 ∧ n ≤ 1099511627776 := by
    have := totSS_len kp
    unfold totEntry at hn
    simp only at hn
    omega
  have hss : ∀ s ∈ kp, s.size ≤ 1099511627776 := fun s hs => by
    have := totSS_mem hs
    unfold totEntry at hn
    simp only at hn
    omega
  have HB := Lib.hid ((Below.refl w.heap.size w).alloc (Nat.le_refl _) (.cells #[.string kl, .int .i64 kk, .int .i64 kv, .slice A n c] 27))
  have hL := fun w1 => sIsLabel_b kl w1 hlen.1
  have hP := fun w1 (hb : Below w.heap.size w w1) => sIsPath_any w.heap.size A n c kp w1 (h5.below hb (Nat.le_refl _)) hb.size hlen.2 hss
  have HN := Lib.hid hlen.2
  unfold isEntry
  simp only
  clear h h0 h1 h2 h3 h4 h5 hn hss hlen
  have hcase : kk = 1 ∨ kk = 2 ∨ kk = 3 ∨ (kk ≠ 1 ∧ kk ≠ 2 ∧ kk ≠ 3) := by omega
  rcases hcase with rfl | rfl | rfl | ⟨k1, k2, k3⟩
  · rw [if_pos rfl, hl]
    have hI := fun w1 => l1In_any kv 0 999999 w1
    clear hP hl
    rcases hbl : isLab kl with _ | _ <;> rcases hin : inR kv 0 999999 with _ | _ <;> rcases Nat.eq_zero_or_pos n with hz | hz
    all_goals
      rw [hbl] at hL
      rw [hin] at hI
      have HLb := Lib.hid hL
      have HI := Lib.hid hI
      have HZ := Lib.hid hz
      have hzi : ((n : Int) == 0) = decide (n = 0) := by first | (subst hz; rfl) | (rw [decide_eq_false (by omega)]; exact beq_eq_false_iff_ne.2 (by omega))
      clear hL hI hbl hin hz
      go_enter Try.func62, Try.ntmps62
      go_wp2_with fail
      refine (HLb.out _).mono ?_
      rintro e w1 ⟨rfl, hb⟩
      have HB2 := Lib.hid (HB.out.trans (hb.mono (by simp)))
      obtain ⟨hc, hf⟩ := bcell hb
      clear hb
      first
        | (go_wp2_with fail; go_ret; exact ⟨rfl, HB2.out⟩; done)
        | (go_wp2_with fail
           refine (HI.out _).mono ?_
           rintro e w2 ⟨rfl, rfl⟩
           go_wp2
           go_ret
           exact ⟨by first | rfl | (rw [hzi]; rfl), HB2.out⟩
           done)
  · rw [if_neg (by decide), if_pos rfl, hl]
    have hI := fun w1 => l1In_any kv 0 2147483646 w1
    clear hP hl
    rcases hbl : isLab kl with _ | _ <;> rcases hin : inR kv 0 2147483646 with _ | _ <;> rcases Nat.eq_zero_or_pos n with hz | hz
    all_goals
      rw [hbl] at hL
      rw [hin] at hI
      have HLb := Lib.hid hL
      have HI := Lib.hid hI
      have HZ := Lib.hid hz
      have hzi : ((n : Int) == 0) = decide (n = 0) := by first | (subst hz; rfl) | (rw [decide_eq_false (by omega)]; exact beq_eq_false_iff_ne.2 (by omega))
      clear hL hI hbl hin hz
      go_enter Try.func62, Try.ntmps62
      go_wp2_with fail
      refine (HLb.out _).mono ?_
      rintro e w1 ⟨rfl, hb⟩
      have HB2 := Lib.hid (HB.out.trans (hb.mono (by simp)))
      obtain ⟨hc, hf⟩ := bcell hb
      clear hb
      first
        | (go_wp2_with fail; go_ret; exact ⟨rfl, HB2.out⟩; done)
        | (go_wp2_with fail
           refine (HI.out _).mono ?_
           rintro e w2 ⟨rfl, rfl⟩
           go_wp2
           go_ret
           exact ⟨by first | rfl | (rw [hzi]; rfl), HB2.out⟩
           done)
  · rw [if_neg (by decide), if_neg (by decide), if_pos rfl]
    have hI := fun w1 => l1In_any kv 0 2147483646 w1
    clear hl
    rcases hbl : isLab kl with _ | _ <;> rcases hin : inR kv 0 2147483646 with _ | _
    all_goals
      rw [hbl] at hL
      rw [hin] at hI
      have HLb := Lib.hid hL
      have HI := Lib.hid hI
      have HP := Lib.hid hP
      clear hL hI hbl hin hP
      go_enter Try.func62, Try.ntmps62
      go_wp2_with fail
      refine (HLb.out _).mono ?_
      rintro e w1 ⟨rfl, hb⟩
      have HB2 := Lib.hid (HB.out.trans (hb.mono (by simp)))
      obtain ⟨hc, hf⟩ := bcell hb
      clear hb
      first
        | (go_wp2_with fail; go_ret; exact ⟨rfl, HB2.out⟩; done)
        | (go_wp2_with fail
           refine (HI.out _).mono ?_
           rintro e w2 ⟨rfl, rfl⟩
           go_wp2_with fail
           go_ret
           exact ⟨rfl, HB2.out⟩
           done)
        | (go_wp2_with fail
           refine (HI.out _).mono ?_
           rintro e w2 ⟨rfl, rfl⟩
           go_wp2_with fail
           refine (HP.out _ HB2.out).mono ?_
           rintro e w3 ⟨rfl, hb3⟩
           have HB3 := Lib.hid (HB2.out.trans (hb3.mono HB2.out.size))
           clear hb3
           go_wp2
           go_ret
           exact ⟨rfl, HB3.out⟩)
  · rw [if_neg k1, if_neg k2, if_neg k3]
    have e1 : (kk == 1) = false := beq_eq_false_iff_ne.2 k1
    have e2 : (kk == 2) = false := beq_eq_false_iff_ne.2 k2
    have e3 : (kk == 3) = false := beq_eq_false_iff_ne.2 k3
    clear hL hP
    go_enter Try.func62, Try.ntmps62
    go_wp2
    go_ret
    exact ⟨rfl, HB.out⟩
theorem sValueEntry_any (s : ByteArray) (x : Int) (w : World) (hs : InS s) (hx : In .i64 x) :
    Calls Try.prog 69 #[.string s, .int .i64 x] w fun e w' => ∃ cs, e = .returned (.agg (List.toArray cs)) ∧ OwnI REntry w' w.heap.size w'.heap.size cs ⟨s, 1, x, []⟩ ∧ Below w.heap.size w w' := by
  have HS := Lib.hid hs
  have HX := Lib.hid hx
  clear hs hx
  go_enter Try.func69, Try.ntmps69
  go_wp2
  refine bodyPost_ret (v := .agg #[.string s, .int .i64 1, .int .i64 x, .slice none 0 0]) (by simp [results, Try.results69, go_sem]) rfl ⟨[.string s, .int .i64 1, .int .i64 x, .slice none 0 0], rfl, ?_, ?_⟩
  · exact REntry_own.2 ⟨none, 0, 0, rfl, HS.out, inI64 (by simp) (by simp), HX.out, OwnS.nil _ _ _⟩
  · exact (Below.refl _ _).alloc (Nat.le_refl _) _
theorem sZoneEntry_any (s : ByteArray) (x : Int) (w : World) (hs : InS s) (hx : In .i64 x) :
    Calls Try.prog 91 #[.string s, .int .i64 x] w fun e w' => ∃ cs, e = .returned (.agg (List.toArray cs)) ∧ OwnI REntry w' w.heap.size w'.heap.size cs ⟨s, 2, x, []⟩ ∧ Below w.heap.size w w' := by
  have HS := Lib.hid hs
  have HX := Lib.hid hx
  clear hs hx
  go_enter Try.func91, Try.ntmps91
  go_wp2
  refine bodyPost_ret (v := .agg #[.string s, .int .i64 2, .int .i64 x, .slice none 0 0]) (by simp [results, Try.results91, go_sem]) rfl ⟨[.string s, .int .i64 2, .int .i64 x, .slice none 0 0], rfl, ?_, ?_⟩
  · exact REntry_own.2 ⟨none, 0, 0, rfl, HS.out, inI64 (by simp) (by simp), HX.out, OwnS.nil _ _ _⟩
  · exact (Below.refl _ _).alloc (Nat.le_refl _) _
theorem sMovedEntry_any (s : ByteArray) (x : Int) (A : Option Addr) (n c : Nat) (p : List ByteArray) (w : World) (hs : InS s) (hx : In .i64 x) (hp : RdS w w.heap.size A n p) (hn : n ≤ 1099511627776) :
    Calls Try.prog 92 #[.string s, .int .i64 x, .slice A n c] w fun e w' => ∃ cs, e = .returned (.agg (List.toArray cs)) ∧ OwnI REntry w' w.heap.size w'.heap.size cs ⟨s, 3, x, p⟩ ∧ Below w.heap.size w w' := by
  have HS := Lib.hid hs
  have HX := Lib.hid hx
  have HP := Lib.hid ((hp.alloc (Nat.le_refl _) (.cells #[.string .empty, .int .i64 0, .int .i64 0, .slice none 0 0] 27)).more (show w.heap.size ≤ (w.alloc (.cells #[.string .empty, .int .i64 0, .int .i64 0, .slice none 0 0] 27)).heap.size by simp))
  clear hs hx hp
  go_enter Try.func92, Try.ntmps92
  go_wp2_with fail
  refine (l5Copy_any A n c p _ HP.out hn).mono ?_
  rintro e w2 ⟨A2, c2, rfl, hown, hb⟩
  have HO := Lib.hid hown
  have HB := Lib.hid (((Below.refl w.heap.size w).alloc (Nat.le_refl _) _).trans (hb.mono (by simp)))
  obtain ⟨hc, hf⟩ := bcell hb
  clear hown hb
  go_wp2
  refine bodyPost_ret (v := .agg #[.string s, .int .i64 3, .int .i64 x, .slice A2 n c2]) (by simp [results, Try.results92, go_sem, hc]) rfl ⟨[.string s, .int .i64 3, .int .i64 x, .slice A2 n c2], rfl, ?_, ?_⟩
  · refine REntry_own.2 ⟨A2, n, c2, rfl, HS.out, inI64 (by simp) (by simp), HX.out, ?_⟩
    refine OwnS.base (lo := w.heap.size + 1) (OwnS.top (hi := w2.heap.size) ?_) (by omega)
    repeat refine OwnS.store ?_ _ (.inl (by simp))
    exact HO.out.base (by simp)
  · repeat' refine Below.setCell ?_ ?_ _
    all_goals first | exact HB.out | (simp; done) | (simp; omega)
theorem sEqualEntries_any (cs cs' : List Value) (a b : Entry) (w : World) (h : REntry.rd w (Lt w.heap.size) cs a) (h' : REntry.rd w (Lt w.heap.size) cs' b) (hn : totEntry a ≤ 1099511627776) (hn' : totEntry b ≤ 1099511627776) :
    Calls Try.prog 66 #[.agg cs.toArray, .agg cs'.toArray] w fun e w' => e = .returned (.bool (eqEntryB a b)) ∧ Below w.heap.size w w' := by
  obtain ⟨A, n, c, rfl, _, _, _, _, _, h5⟩ := REntry_rd.1 h
  obtain ⟨A', n', c', rfl, _, _, _, _, _, h5'⟩ := REntry_rd.1 h'
  obtain ⟨l, k, v, p⟩ := a
  obtain ⟨l', k', v', p'⟩ := b
  simp only at h5 h5'
  have hl := h5.len
  have hl' := h5'.len
  have hm : n ≤ 1099511627776 ∧ n' ≤ 1099511627776 := by
    have := totSS_len p
    have := totSS_len p'
    unfold totEntry at hn hn'
    simp only at hn hn'
    omega
  have HB := Lib.hid ((Below.refl w.heap.size w).alloc (Nat.le_refl _) (.cells #[.string l, .int .i64 k, .int .i64 v, .slice A n c] 27) |>.alloc (by simp) (.cells #[.string l', .int .i64 k', .int .i64 v', .slice A' n' c'] 27))
  have H5 := Lib.hid (h5.below HB.out (Nat.le_refl _))
  have H5' := Lib.hid (h5'.below HB.out (Nat.le_refl _))
  have HM := Lib.hid hm
  clear h h' h5 h5' hl hl' hn hn' hm
  unfold eqEntryB
  simp only
  by_cases hs : l = l'
  · subst hs
    by_cases hk : k = k'
    · subst hk
      by_cases hv : v = v'
      · subst hv
        simp only [decide_true, Bool.true_and]
        go_enter Try.func66, Try.ntmps66
        go_wp2_with fail
        refine (sSamePath_any _ _ A A' n c n' c' p p' _ H5.out H5'.out HM.out.1 HM.out.2).mono ?_
        rintro e w1 ⟨rfl, hs⟩
        have HB2 := Lib.hid (HB.out.trans (hs.below _))
        clear hs
        go_wp2
        go_ret
        exact ⟨rfl, HB2.out⟩
      · rw [decide_eq_false hv]
        have hb : (v == v') = false := beq_eq_false_iff_ne.2 hv
        go_enter Try.func66, Try.ntmps66
        go_wp2
        go_ret
        exact ⟨by simp, HB.out⟩
    · rw [decide_eq_false hk]
      have hb : (k == k') = false := beq_eq_false_iff_ne.2 hk
      go_enter Try.func66, Try.ntmps66
      go_wp2
      go_ret
      exact ⟨by simp, HB.out⟩
  · rw [decide_eq_false hs]
    have hb : (l.toList == l'.toList) = false := by rw [toList_beq, decide_eq_false hs]
    go_enter Try.func66, Try.ntmps66
    go_wp2
    go_ret
    exact ⟨by simp, HB.out⟩
theorem l8Copy_any (cs : List Value) (k : Entry) (w : World) (h : REntry.rd w (Lt w.heap.size) cs k) (hn : totEntry k ≤ 1099511627776) :
    Calls Try.prog 51 #[.agg cs.toArray] w fun e w' => ∃ cs, e = .returned (.agg (List.toArray cs)) ∧ OwnI REntry w' w.heap.size w'.heap.size cs k ∧ Below w.heap.size w w' := by
  obtain ⟨A, n, c, rfl, h0, h1, h2, h3, h4, h5⟩ := REntry_rd.1 h
  obtain ⟨kl, kk, kv, kp⟩ := k
  simp only at h0 h1 h2 h5
  have hl := h5.len
  have hn' : n ≤ 1099511627776 := by
    have := totSS_len kp
    unfold totEntry at hn
    simp only at hn
    omega
  have H0 := Lib.hid h0
  have H1 := Lib.hid h1
  have H2 := Lib.hid h2
  have H5 := Lib.hid h5
  clear h h3 h4 h5 hl hn h0 h1 h2
  have HXa := Lib.hid (show Box ((w.alloc (.cells #[.string kl, .int .i64 kk, .int .i64 kv, .slice A n c] 27)).alloc (.cells #[.string ⟨#[]⟩, .int .i64 0, .int .i64 0, .slice none 0 0] 27)) w.heap.size [.string kl, .int .i64 kk, .int .i64 kv, .slice A n c] from by
    have := (Box.new w #[.string kl, .int .i64 kk, .int .i64 kv, .slice A n c] 27).alloc (.cells #[.string ⟨#[]⟩, .int .i64 0, .int .i64 0, .slice none 0 0] 27)
    simpa using this)
  have HXb := Lib.hid (show Box ((w.alloc (.cells #[.string kl, .int .i64 kk, .int .i64 kv, .slice A n c] 27)).alloc (.cells #[.string ⟨#[]⟩, .int .i64 0, .int .i64 0, .slice none 0 0] 27)) (w.heap.size + 1) [.string ⟨#[]⟩, .int .i64 0, .int .i64 0, .slice none 0 0] from by
    have := Box.new (w.alloc (.cells #[.string kl, .int .i64 kk, .int .i64 kv, .slice A n c] 27)) #[.string ⟨#[]⟩, .int .i64 0, .int .i64 0, .slice none 0 0] 27
    simpa using this)
  have HB0 := Lib.hid ((Below.refl w.heap.size w).alloc (Nat.le_refl _) (.cells #[.string kl, .int .i64 kk, .int .i64 kv, .slice A n c] 27) |>.alloc (by simp) (.cells #[.string ⟨#[]⟩, .int .i64 0, .int .i64 0, .slice none 0 0] 27))
  have H5a := Lib.hid ((H5.out.below HB0.out (Nat.le_refl _)).more HB0.out.size)
  obtain ⟨W, hW⟩ : ∃ W, W = (w.alloc (.cells #[.string kl, .int .i64 kk, .int .i64 kv, .slice A n c] 27)).alloc (.cells #[.string ⟨#[]⟩, .int .i64 0, .int .i64 0, .slice none 0 0] 27) := ⟨_, rfl⟩
  rw [← hW] at HXa HXb HB0 H5a
  have HW := Lib.hid hW
  have hws : w.heap.size + 1 < W.heap.size := by rw [hW]; simp
  have H5d := Lib.hid (show RdS W.drew W.drew.heap.size A n kp from H5a.out.keep fun i hi => rfl)
  clear hW H5 H5a
  go_enter Try.func51, Try.ntmps51
  go_wp2_with fail
  have c0 := HXa.out.cell (j := 0) rfl
  have c1 := HXa.out.cell (j := 1) rfl
  have c2 := HXa.out.cell (j := 2) rfl
  have c3 := HXa.out.cell (j := 3) rfl
  rw [show ((w.alloc (.cells #[.string kl, .int .i64 kk, .int .i64 kv, .slice A n c] 27)).alloc (.cells #[.string ⟨#[]⟩, .int .i64 0, .int .i64 0, .slice none 0 0] 27)) = W from HW.out.symm]
  go_region_held3 (fun w' => w'.cell? ⟨w.heap.size, 0, none⟩ = some (.string kl) ∧ w'.cell? ⟨w.heap.size, 1, none⟩ = some (.int .i64 kk) ∧ w'.cell? ⟨w.heap.size, 2, none⟩ = some (.int .i64 kv) ∧ w'.cell? ⟨w.heap.size, 3, none⟩ = some (.slice A n c)) (go_keep) ((first
    | (go_at_call 79; refine (l5Copy_any A n c kp W.drew H5d.out hn').mono ?_; rintro e w2 ⟨A', c', rfl, hown, hb⟩; have HB2 := Lib.hid (HB0.out.trans ((RKA.below_drew hb).mono HB0.out.size)); have HO := Lib.hid (hown.base (show w.heap.size + 2 ≤ _ from hws)); have HXa2 := Lib.hid (HXa.out.below (RKA.below_drew hb) (by omega)); have HXb2 := Lib.hid (HXb.out.below (RKA.below_drew hb) (by omega)); have d0 := HXa2.out.cell (j := 0) rfl; have d1 := HXa2.out.cell (j := 1) rfl; have d2 := HXa2.out.cell (j := 2) rfl; have d3 := HXa2.out.cell (j := 3) rfl; have r0 := HXb2.out.cell (j := 0) rfl; have r1 := HXb2.out.cell (j := 1) rfl; have r2 := HXb2.out.cell (j := 2) rfl; have r3 := HXb2.out.cell (j := 3) rfl; have f0 := HXb2.out.warm (j := 0) rfl; have f1 := HXb2.out.warm (j := 1) rfl; have f2 := HXb2.out.warm (j := 2) rfl; have f3 := HXb2.out.warm (j := 3) rfl; clear hb hown)))
  clear c0 c1 c2 c3
  go_wp2
  refine bodyPost_ret (v := .agg #[.string kl, .int .i64 kk, .int .i64 kv, .slice A' n c']) (by simp [results, Try.results51, go_sem, r0, r1, r2, r3]) rfl ⟨[.string kl, .int .i64 kk, .int .i64 kv, .slice A' n c'], rfl, ?_, ?_⟩
  · refine REntry_own.2 ⟨A', n, c', rfl, H0.out, H1.out, H2.out, ?_⟩
    refine OwnS.base (lo := w.heap.size + 2) (OwnS.top (hi := w2.heap.size) ?_) (by omega)
    repeat refine OwnS.store ?_ _ (.inl (by simp))
    exact HO.out
  · repeat' refine Below.setCell ?_ ?_ _
    all_goals first | exact HB2.out | (simp; done) | (simp; omega)
end Go.Proofs.Ytpjfmbcandgpeaa.C08S
