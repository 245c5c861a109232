/- Chapter 8: entries, what the program's functions return. -/
import Derived.Test.YtpjfmbcandgpeaaM08
import Derived.Test.YtpjfmbcandgpeaaC03H
import Derived.Test.YtpjfmbcandgpeaaC05I
import Derived.Test.YtpjfmbcandgpeaaRKA
import Derived.Deep.RegionHeld3
namespace Go.Proofs.Ytpjfmbcandgpeaa.C08I
open Go.RowKit Mem MemS M02 M03 M04 M05 M08 C01 C02 C03S C03D C03H C04S C04I C05S C05I Rep RepA R08 RG RGS RKA
set_option linter.unusedVariables false
set_option maxRecDepth 100000
theorem iEqualEntries_any (cs cs' : List Value) (a b : Entry) (w : World) (h : REntry.rd w (Lt w.heap.size) cs a) (h' : REntry.rd w (Lt w.heap.size) cs' b) (hn : totEntry a ≤ 1099511627776) (hn' : totEntry b ≤ 1099511627776) :
    Calls Try.prog 17 #[.agg cs.toArray, .agg cs'.toArray] w fun e w' => e = .returned (.bool (eqEntryB a b)) ∧ Below w.heap.size w w' := by
  obtain ⟨A, n, c, rfl, _, _, _, _, _, h5⟩ := REntry_rd.1 h
  obtain ⟨A', n', c', rfl, _, _, _, _, _, h5'⟩ := REntry_rd.1 h'
  obtain ⟨l, k, v, p⟩ := a
  obtain ⟨l', k', v', p'⟩ := b
  simp only at h5 h5'
  have hl := h5.len
  have hl' := h5'.len
  have hm : n ≤ 1099511627776 ∧ n' ≤ 1099511627776 := by
    have := totSS_len p
    have := totSS_len p'
    unfold totEntry at hn hn'
    simp only at hn hn'
    omega
  have HB := Lib.hid ((Below.refl w.heap.size w).alloc (Nat.le_refl _) (.cells #[.string l, .int .i64 k, .int .i64 v, .slice A n c] 27) |>.alloc (by simp) (.cells #[.string l', .int .i64 k', .int .i64 v', .slice A' n' c'] 27))
  have H5 := Lib.hid (h5.below HB.out (Nat.le_refl _))
  have H5' := Lib.hid (h5'.below HB.out (Nat.le_refl _))
  have HM := Lib.hid hm
  clear h h' h5 h5' hl hl' hn hn' hm
  unfold eqEntryB
  simp only
  by_cases hs : l = l'
  · subst hs
    by_cases hk : k = k'
    · subst hk
      by_cases hv : v = v'
      · subst hv
        simp only [decide_true, Bool.true_and]
        go_enter Try.func17, Try.ntmps17
        go_wp2_with fail
        refine (iSamePath_any _ _ A A' n c n' c' p p' _ H5.out H5'.out HM.out.1 HM.out.2).mono ?_
        rintro e w1 ⟨rfl, hs⟩
        have HB2 := Lib.hid (HB.out.trans (hs.below _))
        clear hs
        go_wp2
        go_ret
        exact ⟨rfl, HB2.out⟩
      · rw [decide_eq_false hv]
        have hb : (v == v') = false := beq_eq_false_iff_ne.2 hv
        go_enter Try.func17, Try.ntmps17
        go_wp2
        go_ret
        exact ⟨by simp, HB.out⟩
    · rw [decide_eq_false hk]
      have hb : (k == k') = false := beq_eq_false_iff_ne.2 hk
      go_enter Try.func17, Try.ntmps17
      go_wp2
      go_ret
      exact ⟨by simp, HB.out⟩
  · rw [decide_eq_false hs]
    have hb : (l.toList == l'.toList) = false := by rw [toList_beq, decide_eq_false hs]
    go_enter Try.func17, Try.ntmps17
    go_wp2
    go_ret
    exact ⟨by simp, HB.out⟩
theorem iisZoneNumber_any (x : Int) (w : World) : Calls Try.prog 140 #[.int .i64 x] w fun e w' => e = .returned (.bool (inR x 0 2147483646)) ∧ w' = w := by
  have HI := Lib.hid (inRange_any x 0 2147483646 w)
  go_enter Try.func140, Try.ntmps140
  go_wp2_with fail
  refine HI.out.mono ?_
  rintro e w1 ⟨rfl, rfl⟩
  go_wp2
  go_ret
  exact ⟨rfl, rfl⟩
theorem ivaluePossible_any (x : Int) (w : World) : Calls Try.prog 138 #[.agg #[.int .i64 x]] w fun e w' => e = .returned (.bool (inR x 0 999999)) ∧ Below w.heap.size w w' := by
  have HI := fun w1 => Lib.hid (inRange_any x 0 999999 w1)
  have HB := Lib.hid ((Below.refl w.heap.size w).alloc (Nat.le_refl _) (.cells #[.int .i64 x] 102))
  go_enter Try.func138, Try.ntmps138
  go_wp2_with fail
  refine (HI _).out.mono ?_
  rintro e w1 ⟨rfl, rfl⟩
  go_wp2
  go_ret
  exact ⟨rfl, HB.out⟩
theorem izonePossible_any (x : Int) (w : World) : Calls Try.prog 139 #[.agg #[.int .i64 x]] w fun e w' => e = .returned (.bool (inR x 0 2147483646)) ∧ Below w.heap.size w w' := by
  have HI := fun w1 => Lib.hid (iisZoneNumber_any x w1)
  have HB := Lib.hid ((Below.refl w.heap.size w).alloc (Nat.le_refl _) (.cells #[.int .i64 x] 104))
  go_enter Try.func139, Try.ntmps139
  go_wp2_with fail
  refine (HI _).out.mono ?_
  rintro e w1 ⟨rfl, rfl⟩
  go_wp2
  go_ret
  exact ⟨rfl, HB.out⟩
theorem imovedPossible_any (x : Int) (A : Option Addr) (n c : Nat) (p : List ByteArray) (w : World) (h : RdS w w.heap.size A n p) (hn : n ≤ 1099511627776) (hss : ∀ s ∈ p, s.size ≤ 1099511627776) :
    Calls Try.prog 142 #[.agg #[.int .i64 x, .slice A n c]] w fun e w' => e = .returned (.bool (inR x 0 2147483646 && isPth p)) ∧ Below w.heap.size w w' := by
  have HB := Lib.hid ((Below.refl w.heap.size w).alloc (Nat.le_refl _) (.cells #[.int .i64 x, .slice A n c] 107))
  have hK := iisPath_any w.heap.size A n c p _ (h.alloc (Nat.le_refl _) (.cells #[.int .i64 x, .slice A n c] 107)) (by simp) hn hss
  have hI := fun w1 => iisZoneNumber_any x w1
  clear h hss
  rcases hin : inR x 0 2147483646 with _ | _
  all_goals
    rw [hin] at hI
    have HI := Lib.hid hI
    have HK := Lib.hid hK
    clear hI hK hin
    go_enter Try.func142, Try.ntmps142
    go_wp2_with fail
    refine (HI.out _).mono ?_
    rintro e w1 ⟨rfl, rfl⟩
    first
      | (go_wp2_with fail; go_ret; exact ⟨rfl, HB.out⟩; done)
      | (go_wp2_with fail
         refine HK.out.mono ?_
         rintro e w2 ⟨rfl, hb2⟩
         have HB2 := Lib.hid (HB.out.trans (hb2.mono (by simp)))
         clear hb2
         go_wp2
         go_ret
         exact ⟨rfl, HB2.out⟩
         done)
/- what an entry's kind gives: the meaning and whether there is one -/
def Mng (kk kv : Int) (A : Option Addr) (n c : Nat) (v : Value) (b : Bool) : Prop :=
  (kk = 1 ∧ n = 0 ∧ v = .iface 102 (.agg #[.int .i64 kv]) ∧ b = true) ∨ (kk = 2 ∧ n = 0 ∧ v = .iface 104 (.agg #[.int .i64 kv]) ∧ b = true) ∨
  (kk = 3 ∧ v = .iface 107 (.agg #[.int .i64 kv, .slice A n c]) ∧ b = true) ∨ (kk ≠ 3 ∧ 0 < n ∧ v = .nilIface ∧ b = false) ∨ (kk ≠ 1 ∧ kk ≠ 2 ∧ kk ≠ 3 ∧ n = 0 ∧ v = .nilIface ∧ b = false)
theorem mng_cases (kk kv : Int) (A : Option Addr) (n c : Nat) : ∃ v b, Mng kk kv A n c v b := by
  unfold Mng
  by_cases h3 : kk = 3
  · exact ⟨_, _, .inr (.inr (.inl ⟨h3, rfl, rfl⟩))⟩
  · by_cases hn : 0 < n
    · exact ⟨_, _, .inr (.inr (.inr (.inl ⟨h3, hn, rfl, rfl⟩)))⟩
    · by_cases h1 : kk = 1
      · exact ⟨_, _, .inl ⟨h1, by omega, rfl, rfl⟩⟩
      · by_cases h2 : kk = 2
        · exact ⟨_, _, .inr (.inl ⟨h2, by omega, rfl, rfl⟩)⟩
        · exact ⟨_, _, .inr (.inr (.inr (.inr ⟨h1, h2, h3, by omega, rfl, rfl⟩)))⟩
theorem imeaningOf_any (kl : ByteArray) (kk kv : Int) (A : Option Addr) (n c : Nat) (v : Value) (b : Bool) (w : World) (hn : n ≤ 1099511627776) (hM : Mng kk kv A n c v b) :
    Calls Try.prog 75 #[.agg #[.string kl, .int .i64 kk, .int .i64 kv, .slice A n c]] w fun e w' => e = .returned (.tuple #[v, .bool b]) ∧ Below w.heap.size w w' := by
  have HB := Lib.hid ((Below.refl w.heap.size w).alloc (Nat.le_refl _) (.cells #[.string kl, .int .i64 kk, .int .i64 kv, .slice A n c] 27))
  rcases hM with ⟨rfl, rfl, rfl, rfl⟩ | ⟨rfl, rfl, rfl, rfl⟩ | ⟨rfl, rfl, rfl⟩ | ⟨h3, h0, rfl, rfl⟩ | ⟨h1, h2, h3, rfl, rfl, rfl⟩
  · go_enter Try.func75, Try.ntmps75
    go_wp2
    go_ret2
    exact ⟨rfl, HB.out⟩
  · go_enter Try.func75, Try.ntmps75
    go_wp2
    go_ret2
    exact ⟨rfl, HB.out⟩
  · go_enter Try.func75, Try.ntmps75
    go_wp2
    go_ret2
    exact ⟨rfl, HB.out⟩
  · have e3 : (kk == 3) = false := beq_eq_false_iff_ne.2 h3
    have e0 : decide ((0 : Int) < n) = true := decide_eq_true (by omega)
    go_enter Try.func75, Try.ntmps75
    go_wp2
    go_ret2
    exact ⟨rfl, HB.out⟩
  · have e1 : (kk == 1) = false := beq_eq_false_iff_ne.2 h1
    have e2 : (kk == 2) = false := beq_eq_false_iff_ne.2 h2
    have e3 : (kk == 3) = false := beq_eq_false_iff_ne.2 h3
    go_enter Try.func75, Try.ntmps75
    go_wp2
    go_ret2
    exact ⟨rfl, HB.out⟩
theorem meth_value (x : Int) (w : World) : (method 254 102 (.agg #[.int .i64 x]) "loop.example/g00588/impl.isPossible").run Try.prog w = .ok (138, .agg #[.int .i64 x]) w := by kernel_rfl
theorem meth_zone (x : Int) (w : World) : (method 254 104 (.agg #[.int .i64 x]) "loop.example/g00588/impl.isPossible").run Try.prog w = .ok (139, .agg #[.int .i64 x]) w := by kernel_rfl
theorem meth_moved (x : Int) (A : Option Addr) (n c : Nat) (w : World) : (method 254 107 (.agg #[.int .i64 x, .slice A n c]) "loop.example/g00588/impl.isPossible").run Try.prog w = .ok (142, .agg #[.int .i64 x, .slice A n c]) w := by kernel_rfl
set_option maxHeartbeats 4000000 in
theorem iIsEntry_any (cs : List Value) (k : Entry) (w : World) (h : REntry.rd w (Lt w.heap.size) cs k) (hn : totEntry k ≤ 1099511627776) :
    Calls Try.prog 46 #[.agg cs.toArray] w fun e w' => e = .returned (.bool (isEntry k)) ∧ Below w.heap.size w w' := by
  obtain ⟨A, n, c, rfl, h0, h1, h2, h3, h4, h5⟩ := REntry_rd.1 h
  obtain ⟨kl, kk, kv, kp⟩ := k
  simp only at h0 h1 h2 h5
  have hl := h5.len
  have hlen : kl.size ≤ 1099511627776 ∧ n ≤ 1099511627776 := by
    have := totSS_len kp
    unfold totEntry at hn
    simp only at hn
    omega
  have hss : ∀ s ∈ kp, s.size ≤ 1099511627776 := fun s hs => by
    have := totSS_mem hs
    unfold totEntry at hn
    simp only at hn
    omega
  have HB := Lib.hid ((Below.refl w.heap.size w).alloc (Nat.le_refl _) (.cells #[.string kl, .int .i64 kk, .int .i64 kv, .slice A n c] 27))
  have hL := fun w1 => iIsLabel_b kl w1 hlen.1
  have HP := fun w1 (hb : Below w.heap.size w w1) => Lib.hid (imovedPossible_any kv A n c kp w1 ((h5.below hb (Nat.le_refl _)).more hb.size) hlen.2 hss)
  have HN := Lib.hid hlen.2
  obtain ⟨v, b, hM⟩ := mng_cases kk kv A n c
  have HM := fun w1 => Lib.hid (imeaningOf_any kl kk kv A n c v b w1 hlen.2 hM)
  have heq : isEntry ⟨kl, kk, kv, kp⟩ = (b && isLab kl && (if kk = 1 then inR kv 0 999999 else if kk = 2 then inR kv 0 2147483646 else inR kv 0 2147483646 && isPth kp)) := by
    rcases hM with ⟨rfl, rfl, rfl, rfl⟩ | ⟨rfl, rfl, rfl, rfl⟩ | ⟨rfl, rfl, rfl⟩ | ⟨k3, k0, rfl, rfl⟩ | ⟨k1, k2, k3, rfl, rfl, rfl⟩
    · unfold isEntry
      simp [hl, Bool.and_comm]
    · unfold isEntry
      simp [hl, Bool.and_comm]
    · unfold isEntry
      simp
      cases isLab kl <;> cases inR kv 0 2147483646 <;> cases isPth kp <;> rfl
    · unfold isEntry
      have : n ≠ 0 := by omega
      simp [hl, k3, this]
    · unfold isEntry
      simp [k1, k2, k3]
  obtain ⟨r, hr⟩ : ∃ r, r = isEntry ⟨kl, kk, kv, kp⟩ := ⟨_, rfl⟩
  rw [← hr]
  rw [heq] at hr
  clear heq
  clear h h0 h1 h2 h3 h4 h5 hn hss hlen hl
  rcases hbl : isLab kl with _ | _
  · rw [hbl] at hL hr
    obtain rfl : r = false := by rw [hr]; simp
    have HLb := Lib.hid hL
    clear hL hbl hM hr
    rcases b with _ | _
    all_goals
      go_enter Try.func46, Try.ntmps46
      go_wp2_with fail
      refine (HM _).out.mono ?_
      rintro e w1 ⟨rfl, hb⟩
      have HB2 := Lib.hid (HB.out.trans (hb.mono (by simp)))
      obtain ⟨hc, hf⟩ := bcell hb
      clear hb
      first
        | (go_wp2_with fail; go_ret; exact ⟨rfl, HB2.out⟩; done)
        | (go_wp2_with fail
           refine (HLb.out _).mono ?_
           rintro e w2 ⟨rfl, hb⟩
           have HB3 := Lib.hid (HB2.out.trans (hb.mono HB2.out.size))
           clear hb
           go_wp2
           go_ret
           exact ⟨rfl, HB3.out⟩
           done)
  · rw [hbl] at hL hr
    have HLb := Lib.hid hL
    clear hL hbl
    rcases hM with ⟨rfl, rfl, rfl, rfl⟩ | ⟨rfl, rfl, rfl, rfl⟩ | ⟨rfl, rfl, rfl⟩ | ⟨k3, k0, rfl, rfl⟩ | ⟨k1, k2, k3, rfl, rfl, rfl⟩
    · have hm := fun w1 => meth_value kv w1
      obtain rfl : r = inR kv 0 999999 := by rw [hr]; simp
      clear hr
      go_enter Try.func46, Try.ntmps46
      go_wp2_with fail
      refine (HM _).out.mono ?_
      rintro e w1 ⟨rfl, hb⟩
      have HB2 := Lib.hid (HB.out.trans (hb.mono (by simp)))
      obtain ⟨hc, hf⟩ := bcell hb
      clear hb
      go_wp2_with fail
      refine (HLb.out _).mono ?_
      rintro e w2 ⟨rfl, hb⟩
      have HB3 := Lib.hid (HB2.out.trans (hb.mono HB2.out.size))
      clear hb hc hf
      go_wp2_with fail
      refine (ivaluePossible_any kv w2).mono ?_
      rintro e w3 ⟨rfl, hb⟩
      have HB4 := Lib.hid (HB3.out.trans (hb.mono HB3.out.size))
      clear hb
      go_wp2
      go_ret
      exact ⟨rfl, HB4.out⟩
    · have hm := fun w1 => meth_zone kv w1
      obtain rfl : r = inR kv 0 2147483646 := by rw [hr]; simp
      clear hr
      go_enter Try.func46, Try.ntmps46
      go_wp2_with fail
      refine (HM _).out.mono ?_
      rintro e w1 ⟨rfl, hb⟩
      have HB2 := Lib.hid (HB.out.trans (hb.mono (by simp)))
      obtain ⟨hc, hf⟩ := bcell hb
      clear hb
      go_wp2_with fail
      refine (HLb.out _).mono ?_
      rintro e w2 ⟨rfl, hb⟩
      have HB3 := Lib.hid (HB2.out.trans (hb.mono HB2.out.size))
      clear hb hc hf
      go_wp2_with fail
      refine (izonePossible_any kv w2).mono ?_
      rintro e w3 ⟨rfl, hb⟩
      have HB4 := Lib.hid (HB3.out.trans (hb.mono HB3.out.size))
      clear hb
      go_wp2
      go_ret
      exact ⟨rfl, HB4.out⟩
    · have hm := fun w1 => meth_moved kv A n c w1
      obtain rfl : r = (inR kv 0 2147483646 && isPth kp) := by rw [hr]; simp
      clear hr
      go_enter Try.func46, Try.ntmps46
      go_wp2_with fail
      refine (HM _).out.mono ?_
      rintro e w1 ⟨rfl, hb⟩
      have HB2 := Lib.hid (HB.out.trans (hb.mono (by simp)))
      obtain ⟨hc, hf⟩ := bcell hb
      clear hb
      go_wp2_with fail
      refine (HLb.out _).mono ?_
      rintro e w2 ⟨rfl, hb⟩
      have HB3 := Lib.hid (HB2.out.trans (hb.mono HB2.out.size))
      clear hb hc hf
      go_wp2_with fail
      refine ((HP _ HB3.out).out).mono ?_
      rintro e w3 ⟨rfl, hb⟩
      have HB4 := Lib.hid (HB3.out.trans (hb.mono HB3.out.size))
      clear hb
      go_wp2
      go_ret
      exact ⟨rfl, HB4.out⟩
    · obtain rfl : r = false := by rw [hr]; rfl
      clear hr
      go_enter Try.func46, Try.ntmps46
      go_wp2_with fail
      refine (HM _).out.mono ?_
      rintro e w1 ⟨rfl, hb⟩
      have HB2 := Lib.hid (HB.out.trans (hb.mono (by simp)))
      obtain ⟨hc, hf⟩ := bcell hb
      clear hb
      go_wp2
      go_ret
      exact ⟨rfl, HB2.out⟩
    · obtain rfl : r = false := by rw [hr]; rfl
      clear hr
      go_enter Try.func46, Try.ntmps46
      go_wp2_with fail
      refine (HM _).out.mono ?_
      rintro e w1 ⟨rfl, hb⟩
      have HB2 := Lib.hid (HB.out.trans (hb.mono (by simp)))
      obtain ⟨hc, hf⟩ := bcell hb
      clear hb
      go_wp2
      go_ret
      exact ⟨rfl, HB2.out⟩
end Go.Proofs.Ytpjfmbcandgpeaa.C08I
