/- Chapter 9: contents of zones, what the program's functions return. -/
import Derived.Test.YtpjfmbcandgpeaaC08I
import Derived.Test.YtpjfmbcandgpeaaC04I
import Derived.Test.YtpjfmbcandgpeaaC05I
import Derived.Test.YtpjfmbcandgpeaaC09N
import Derived.Test.YtpjfmbcandgpeaaRGS
import Derived.Deep.RegionWith
import Derived.Deep.RegionLaw
import Derived.BigQuiet
import Derived.Deep.QuietTactic
namespace Go.Proofs.Ytpjfmbcandgpeaa.C09I
open Go.RowKit Mem MemS M02 M04 M05 M08 M09 M09F C01 C02 C04S C04I C05I C08I C09M C09K C09N Rep RepA RW R08 Q08 RG RGS
set_option linter.unusedVariables false
set_option maxRecDepth 100000
theorem ihas_any (base b : Nat) (l : List Entry) (s : ByteArray) (w : World) (h : MapE w base b l) (hs : InS s) :
    Calls Try.prog 57 #[.map (some b), .string s] w fun e w' => e = .returned (.bool (hasE l s)) ∧ Below w.heap.size w w' := by
  obtain ⟨x, i, j, A, n, c, hrun⟩ := h.ask hs
  have HB := Lib.hid ((Below.refl w.heap.size w).alloc (Nat.le_refl _) (.cells #[.string x, .int .i64 i, .int .i64 j, .slice A n c] 27))
  clear h hs
  generalize hasE l s = r at hrun ⊢
  go_enter Try.func57, Try.ntmps57
  go_wp2
  go_ret
  exact ⟨rfl, HB.out⟩
theorem iroom_any (base b : Nat) (l : List Entry) (s : ByteArray) (w : World) (h : MapE w base b l) (hs : InS s) :
    Calls Try.prog 47 #[.map (some b), .string s] w fun e w' => e = .returned (.bool (hasE l s || decide (l.length < 12))) ∧ Below w.heap.size w w' := by
  have HH := Lib.hid (ihas_any base b l s w h hs)
  have HM := Lib.hid h
  have HLT := Lib.hid h.lt
  clear h hs
  go_enter Try.func47, Try.ntmps47
  go_wp2_with fail
  refine HH.out.mono ?_
  rintro e w2 ⟨rfl, hb⟩
  have hln := (HM.out.below hb HLT.out).len
  have HB := Lib.hid hb
  clear hb
  cases hh : hasE l s
  · go_wp2
    go_ret
    exact ⟨by rw [hh]; simp; omega, HB.out⟩
  · clear hln
    go_wp2
    go_ret
    exact ⟨by rw [hh]; rfl, HB.out⟩
theorem icopyEntry_any (cs : List Value) (k : Entry) (w : World) (h : REntry.rd w (Lt w.heap.size) cs k) (hn : totEntry k ≤ 1099511627776) :
    Calls Try.prog 76 #[.agg cs.toArray] w fun e w' => ∃ cs, e = .returned (.agg (List.toArray cs)) ∧ OwnI REntry w' w.heap.size w'.heap.size cs k ∧ Below w.heap.size w w' := by
  obtain ⟨A, n, c, rfl, h0, h1, h2, h3, h4, h5⟩ := REntry_rd.1 h
  obtain ⟨kl, kk, kv, kp⟩ := k
  simp only at h0 h1 h2 h5
  have hl := h5.len
  have hn' : n ≤ 1099511627776 := by
    have := totSS_len kp
    unfold totEntry at hn
    simp only at hn
    omega
  have H0 := Lib.hid h0
  have H1 := Lib.hid h1
  have H2 := Lib.hid h2
  have H5 := Lib.hid h5
  clear h h3 h4 h5 hl hn h0 h1 h2
  have HXa := Lib.hid (show Box ((w.alloc (.cells #[.string kl, .int .i64 kk, .int .i64 kv, .slice A n c] 27)).alloc (.cells #[.string ⟨#[]⟩, .int .i64 0, .int .i64 0, .slice none 0 0] 27)) w.heap.size [.string kl, .int .i64 kk, .int .i64 kv, .slice A n c] from by
    have := (Box.new w #[.string kl, .int .i64 kk, .int .i64 kv, .slice A n c] 27).alloc (.cells #[.string ⟨#[]⟩, .int .i64 0, .int .i64 0, .slice none 0 0] 27)
    simpa using this)
  have HXb := Lib.hid (show Box ((w.alloc (.cells #[.string kl, .int .i64 kk, .int .i64 kv, .slice A n c] 27)).alloc (.cells #[.string ⟨#[]⟩, .int .i64 0, .int .i64 0, .slice none 0 0] 27)) (w.heap.size + 1) [.string ⟨#[]⟩, .int .i64 0, .int .i64 0, .slice none 0 0] from by
    have := Box.new (w.alloc (.cells #[.string kl, .int .i64 kk, .int .i64 kv, .slice A n c] 27)) #[.string ⟨#[]⟩, .int .i64 0, .int .i64 0, .slice none 0 0] 27
    simpa using this)
  have HB0 := Lib.hid ((Below.refl w.heap.size w).alloc (Nat.le_refl _) (.cells #[.string kl, .int .i64 kk, .int .i64 kv, .slice A n c] 27) |>.alloc (by simp) (.cells #[.string ⟨#[]⟩, .int .i64 0, .int .i64 0, .slice none 0 0] 27))
  have H5a := Lib.hid ((H5.out.below HB0.out (Nat.le_refl _)).more HB0.out.size)
  obtain ⟨W, hW⟩ : ∃ W, W = (w.alloc (.cells #[.string kl, .int .i64 kk, .int .i64 kv, .slice A n c] 27)).alloc (.cells #[.string ⟨#[]⟩, .int .i64 0, .int .i64 0, .slice none 0 0] 27) := ⟨_, rfl⟩
  rw [← hW] at HXa HXb HB0 H5a
  have HW := Lib.hid hW
  have hws : w.heap.size + 1 < W.heap.size := by rw [hW]; simp
  clear hW H5
  go_enter Try.func76, Try.ntmps76
  go_wp2_with fail
  rw [show ((w.alloc (.cells #[.string kl, .int .i64 kk, .int .i64 kv, .slice A n c] 27)).alloc (.cells #[.string ⟨#[]⟩, .int .i64 0, .int .i64 0, .slice none 0 0] 27)) = W from HW.out.symm]
  refine (ilabels_any A n c kp W H5a.out hn').mono ?_
  rintro e w2 ⟨A', c', rfl, hown, hb⟩
  have HB2 := Lib.hid (HB0.out.trans (hb.mono HB0.out.size))
  have HO := Lib.hid (hown.base (show w.heap.size + 2 ≤ _ from hws))
  have HA2 := Lib.hid (HXa.out.below hb (by omega))
  have HR2 := Lib.hid (HXb.out.below hb (by omega))
  have HS := Lib.hid (show W.heap.size ≤ w2.heap.size from hb.size)
  have HA3 := Lib.hid (bx_set HA2.out (j := 3) (by simp) (.slice A' n c'))
  have HR3 := Lib.hid (bx_store HR2.out (p := ⟨w.heap.size, 3, none⟩) (by simp) (.slice A' n c'))
  have f3 := HA2.out.warm (j := 3) rfl
  have a0 := HA3.out.cell (j := 0) rfl
  have a1 := HA3.out.cell (j := 1) rfl
  have a2 := HA3.out.cell (j := 2) rfl
  have a3 := HA3.out.cell (j := 3) rfl
  have x3 := HA2.out.cell (j := 3) rfl
  have r0 := HR3.out.cell (j := 0) rfl
  have r1 := HR3.out.cell (j := 1) rfl
  have r2 := HR3.out.cell (j := 2) rfl
  have r3 := HR3.out.cell (j := 3) rfl
  have y0 := HR3.out.warm (j := 0) rfl
  have y1 := HR3.out.warm (j := 1) rfl
  have y2 := HR3.out.warm (j := 2) rfl
  have y3 := HR3.out.warm (j := 3) rfl
  have HR7 := Lib.hid (bx_set (bx_set (bx_set (bx_set HR3.out (j := 0) (by simp) (.string kl)) (j := 1) (by simp) (.int .i64 kk)) (j := 2) (by simp) (.int .i64 kv)) (j := 3) (by simp) (.slice A' n c'))
  clear hown hb
  go_wp2
  have z0 := HR7.out.cell (j := 0) rfl
  have z1 := HR7.out.cell (j := 1) rfl
  have z2 := HR7.out.cell (j := 2) rfl
  have z3 := HR7.out.cell (j := 3) rfl
  refine bodyPost_ret (v := .agg #[.string kl, .int .i64 kk, .int .i64 kv, .slice A' n c']) (by simp [results, Try.results76, go_sem, z0, z1, z2, z3]) rfl ⟨[.string kl, .int .i64 kk, .int .i64 kv, .slice A' n c'], rfl, ?_, ?_⟩
  · refine REntry_own.2 ⟨A', n, c', rfl, H0.out, H1.out, H2.out, ?_⟩
    refine OwnS.base (lo := w.heap.size + 2) (OwnS.top (hi := w2.heap.size) ?_) (by omega)
    repeat refine OwnS.store ?_ _ (.inl (by simp))
    exact HO.out
  · exact bl_store (bl_store (bl_store (bl_store (bl_store HB2.out (by simp) _) (by simp) _) (by simp) _) (by simp) _) (by simp) _
theorem icopyEntries_any (A : Option Addr) (n c : Nat) (l : List Entry) (w : World) (h : FRdEntry w w.heap.size A n l) (hn : totR totEntry l ≤ 34359738368) :
    Calls Try.prog 48 #[.slice A n c] w fun e w' => ∃ A' c', e = .returned (.slice A' n c') ∧ FOwnEntry w' w.heap.size w'.heap.size A' n c' l ∧ Below w.heap.size w w' := by
  have HL := Lib.hid h.len
  have HT := Lib.hid hn
  have hn2 : n ≤ 34359738368 := by have := totR_len totEntry l; have := h.len; omega
  have HR := Lib.hid h
  clear h hn
  go_enter Try.func48, Try.ntmps48
  go_wp2_with (at_make; refine wp_make0R tiEntry rfl _ _ rfl (n := n) rfl rfl (by omega) ?_; intro w1 hown1 hb1; have HO := Lib.hid hown1; have HB := Lib.hid hb1; clear hown1 hb1; go_frame)
  go_loopw [3, 11] (fun o i wr => ∃ (j : Nat) (A1 : Option Addr) (c1 : Nat), j ≤ n ∧ i = .int .i64 j ∧ o = .slice A1 j c1 ∧ FOwnEntry wr w.heap.size wr.heap.size A1 j c1 (l.take j) ∧ Below w.heap.size w wr) (fun _ i _ => n - (intOf i).toNat)
  case atStart => exact ⟨0, _, n, by omega, rfl, rfl, HO.out, HB.out⟩
  case round =>
    obtain ⟨j, A1, c1, hj, rfl, rfl, hown, hbel⟩ := hrel
    have HX := Lib.hid hbel
    have HO1 := Lib.hid hown
    clear hbel hown
    by_cases hjn : j < n
    · obtain ⟨b, off, cs, rfl, hlt, hrd, hcc⟩ := (HR.out.below HX.out (Nat.le_refl _)).at hjn
      obtain ⟨z, hz⟩ : ∃ z, z = at0 l j := ⟨_, rfl⟩
      rw [show l.getD j default = z from hz.symm] at hrd
      have htz : totEntry z ≤ totR totEntry l := by rw [hz]; exact totR_mem totEntry (by rw [HL.out]; exact hjn)
      have hrd2 := REntry.more hrd fun i hi => Nat.lt_of_lt_of_le hi HX.out.size
      obtain ⟨A3, n3, c3, rfl, g0, g1, g2, p3, q3, s3⟩ := REntry_rd.1 hrd
      have d0 : wr.cell? ⟨b, off + j * 4, none⟩ = some (.string z.label) := hcc 0 (by decide)
      have d1 : wr.cell? ⟨b, off + j * 4 + 1, none⟩ = some (.int .i64 z.kind) := hcc 1 (by decide)
      have d2 : wr.cell? ⟨b, off + j * 4 + 2, none⟩ = some (.int .i64 z.value) := hcc 2 (by decide)
      have d3 : wr.cell? ⟨b, off + j * 4 + 3, none⟩ = some (.slice A3 n3 c3) := hcc 3 (by decide)
      have HZB := Lib.hid (Box.new wr #[.string z.label, .int .i64 z.kind, .int .i64 z.value, .slice A3 n3 c3] 27)
      have HXB := Lib.hid (HX.out.alloc HX.out.size (.cells #[.string z.label, .int .i64 z.kind, .int .i64 z.value, .slice A3 n3 c3] 27))
      have HSN := Lib.hid (show l.take (j + 1) = l.take j ++ [z] from by rw [hz]; exact take_snocE (by rw [HL.out]; exact hjn))
      have HK := Lib.hid (icopyEntry_any [.string z.label, .int .i64 z.kind, .int .i64 z.value, .slice A3 n3 c3] z (wr.alloc (.cells #[.string z.label, .int .i64 z.kind, .int .i64 z.value, .slice A3 n3 c3] 27)) (REntry.more (REntry.keep hrd2 fun i hi => Below.heap_alloc wr _ i hi) fun i hi => Nat.lt_of_lt_of_le hi (by simp)) (by have := HT.out; omega))
      have HOA := Lib.hid (HO1.out.alloc (.cells #[.string z.label, .int .i64 z.kind, .int .i64 z.value, .slice A3 n3 c3] 27))
      clear hcc hrd hrd2 hz htz g0 g1 g2 p3 q3 s3 hlt
      obtain ⟨z0, z1, z2, z3⟩ := z
      simp only at d0 d1 d2 HK HOA HXB
      go_wp2_with fail
      refine HK.out.mono ?_
      rintro e w2 ⟨cs2, rfl, hown2, hb2⟩
      have HO2 := Lib.hid ((HOA.out.below hb2 (by simp)).wide (Nat.le_refl _) (show wr.heap.size ≤ wr.heap.size + 1 by omega))
      have HZ2 := Lib.hid (show OwnI REntry w2 (wr.heap.size + 1) w2.heap.size cs2 _ from by have := hown2; simpa using this)
      have HX2 := Lib.hid (HXB.out.trans (hb2.mono HXB.out.size))
      have HS2 := Lib.hid (show wr.heap.size + 1 ≤ w2.heap.size from by have := hb2.size; simpa using this)
      obtain ⟨Aa, na, ca, rfl, _⟩ := REntry_own.1 hown2
      clear hb2 hown2 d0 d1 d2 d3
      go_wp2_with (at_builtin; refine wp_pushR (st := 24) (mid := wr.heap.size + 1) (hi := w2.heap.size) (lo := w.heap.size) REntry tiEntry rfl _ _ rfl rfl HO2.out rfl HZ2.out (by omega) (by have := HX.out.size; omega) HX2.out.size ?_; intro A4 c4 w4 hown4 hgr4)
      have HB4 := Lib.hid (HX2.out.trans (hgr4.below HX2.out.size HO2.out.ge))
      have HO4 := Lib.hid hown4
      clear hown4 hgr4
      go_wp2
      go_roundw
      case rel => exact ⟨j + 1, A4, c4, by omega, by go_num, rfl, by rw [HSN.out]; exact HO4.out, HB4.out⟩
      case measure => simp [intOf]; omega
    · obtain rfl : j = n := by omega
      rw [List.take_of_length_le (by rw [HL.out]; omega)] at HO1
      go_wp2
      go_ret
      exact ⟨A1, c1, rfl, HO1.out, HX.out⟩
theorem okc (e : Bool) (j : Nat) (cm : Int) (h : cm = -1 ∨ cm = 0 ∨ cm = 1) : ((!e) || (decide ((0 : Int) < (j : Int)) && decide ((0 : Int) ≤ cm))) = !(e && (decide (j = 0) || decide (cm = -1))) := by
  have h1 : decide ((0 : Int) < (j : Int)) = !decide (j = 0) := by by_cases h0 : j = 0 <;> simp [h0] <;> omega
  have h2 : decide ((0 : Int) ≤ cm) = !decide (cm = -1) := by rcases h with rfl | rfl | rfl <;> decide
  rw [h1, h2]
  cases e <;> cases decide (j = 0) <;> cases decide (cm = -1) <;> rfl
set_option maxHeartbeats 4000000 in
theorem icontentsOf_any (A : Option Addr) (n c : Nat) (l : List Entry) (w : World) (h : FRdEntry w w.heap.size A n l) (hn : totR totEntry l ≤ 1099511627776) :
    Calls Try.prog 45 #[.slice A n c] w fun e w' => ∃ mb, e = .returned (.tuple #[.map mb, .bool (areE l)]) ∧ Below w.heap.size w w' ∧ (areE l = true → mb = some w.heap.size ∧ MapE w' w.heap.size w.heap.size l) := by
  have HL := Lib.hid h.len
  have HT := Lib.hid hn
  have hn2 : n ≤ 1099511627776 := by have := totR_len totEntry l; have := h.len; omega
  have HR := Lib.hid h
  have hmm := @run_makeMap Try.prog
  have HM0 := Lib.hid (MapE.made (w := w) (Nat.le_refl w.heap.size))
  have HB0 := Lib.hid ((Below.refl w.heap.size w).alloc (Nat.le_refl _) (.map #[] 0))
  clear h hn
  by_cases hn12 : (12 : Int) < n
  · have HF := Lib.hid (show areE l = false from by
      cases ha : areE l with
      | false => rfl
      | true => have := areE_len ha; have := HL.out; omega)
    go_enter Try.func45, Try.ntmps45
    go_wp2
    go_ret2
    exact ⟨none, by rw [HF.out]; rfl, Below.refl _ _, fun h => by rw [HF.out] at h; cases h⟩
  have HN := Lib.hid (show l.length ≤ 12 by rw [HL.out]; omega)
  go_enter Try.func45, Try.ntmps45
  go_wp2
  go_loopw [13] (fun i wr => ∃ j : Nat, j ≤ n ∧ i = .int .i64 j ∧ Below w.heap.size w wr ∧ (∀ k, k < j → okE l k = true) ∧ MapE wr w.heap.size w.heap.size (l.take j)) (fun i _ => n - (intOf i).toNat)
  case atStart => exact ⟨0, by omega, rfl, HB0.out, fun k hk => absurd hk (by omega), HM0.out⟩
  case round =>
    obtain ⟨j, hj, rfl, hbel, hok, hmap⟩ := hrel
    have HX := Lib.hid hbel
    have HB := Lib.hid hok
    have HM := Lib.hid hmap
    clear hbel hok hmap
    by_cases hjn : j < n
    · obtain ⟨jm, hjm⟩ : ∃ jm, jm = j - 1 := ⟨_, rfl⟩
      have hprev : 0 < j → ∃ b off, A = some ⟨b, off, none⟩ ∧ wr.cell? ⟨b, off + jm * 4, none⟩ = some (.string (at0 l jm).label) := fun h0 => by
        obtain ⟨b, off, cs, rfl, hlt, hrd, hcc⟩ := (HR.out.below HX.out (Nat.le_refl _)).at (show jm < n by omega)
        obtain ⟨A3, n3, c3, rfl, _⟩ := REntry_rd.1 hrd
        exact ⟨b, off, rfl, hcc 0 (by decide)⟩
      obtain ⟨b, off, cs, rfl, hlt, hrd, hcc⟩ := (HR.out.below HX.out (Nat.le_refl _)).at hjn
      obtain ⟨z, hz⟩ : ∃ z, z = at0 l j := ⟨_, rfl⟩
      rw [show l.getD j default = z from hz.symm] at hrd
      have htz : totEntry z ≤ totR totEntry l := by rw [hz]; exact totR_mem totEntry (by rw [HL.out]; exact hjn)
      have hrd2 := REntry.more hrd fun i hi => Nat.lt_of_lt_of_le hi HX.out.size
      obtain ⟨A3, n3, c3, rfl, g0, g1, g2, p3, q3, s3⟩ := REntry_rd.1 hrd
      have d0 : wr.cell? ⟨b, off + j * 4, none⟩ = some (.string z.label) := hcc 0 (by decide)
      have d1 : wr.cell? ⟨b, off + j * 4 + 1, none⟩ = some (.int .i64 z.kind) := hcc 1 (by decide)
      have d2 : wr.cell? ⟨b, off + j * 4 + 2, none⟩ = some (.int .i64 z.value) := hcc 2 (by decide)
      have d3 : wr.cell? ⟨b, off + j * 4 + 3, none⟩ = some (.slice A3 n3 c3) := hcc 3 (by decide)
      have HZB := Lib.hid (Box.new wr #[.string z.label, .int .i64 z.kind, .int .i64 z.value, .slice A3 n3 c3] 27)
      have HXB := Lib.hid (HX.out.alloc HX.out.size (.cells #[.string z.label, .int .i64 z.kind, .int .i64 z.value, .slice A3 n3 c3] 27))
      have hpv : 0 < j → wr.cell? ⟨b, off + jm * 4, none⟩ = some (.string (at0 l jm).label) := fun h0 => by
        obtain ⟨b', off', e, hc⟩ := hprev h0
        injection e with e
        injection e with e1 e2 _
        subst e1 e2
        exact hc
      have HOK := Lib.hid (show okE l j = (isEntry z && (decide (j = 0) || decide (cmpS (at0 l jm).label z.label = -1))) from by unfold okE; rw [hz, hjm])
      have HSN := Lib.hid (show l.take (j + 1) = l.take j ++ [z] from by rw [hz]; exact take_snocE (by rw [HL.out]; exact hjn))
      generalize (at0 l jm).label = y at hpv HOK
      have HA1 := Lib.hid (show Below wr.heap.size wr (wr.alloc (.cells #[.string z.label, .int .i64 z.kind, .int .i64 z.value, .slice A3 n3 c3] 27)).drew from ((Below.refl wr.heap.size wr).alloc (Nat.le_refl _) _).drew)
      have HD0 := Lib.hid (show (wr.alloc (.cells #[.string z.label, .int .i64 z.kind, .int .i64 z.value, .slice A3 n3 c3] 27)).drew.cell? ⟨wr.heap.size, 0, none⟩ = some (.string z.label) from HZB.out.cell (j := 0) rfl)
      have HD1 := Lib.hid (show (wr.alloc (.cells #[.string z.label, .int .i64 z.kind, .int .i64 z.value, .slice A3 n3 c3] 27)).drew.cell? ⟨wr.heap.size, 1, none⟩ = some (.int .i64 z.kind) from HZB.out.cell (j := 1) rfl)
      have HD2 := Lib.hid (show (wr.alloc (.cells #[.string z.label, .int .i64 z.kind, .int .i64 z.value, .slice A3 n3 c3] 27)).drew.cell? ⟨wr.heap.size, 2, none⟩ = some (.int .i64 z.value) from HZB.out.cell (j := 2) rfl)
      have HD3 := Lib.hid (show (wr.alloc (.cells #[.string z.label, .int .i64 z.kind, .int .i64 z.value, .slice A3 n3 c3] 27)).drew.cell? ⟨wr.heap.size, 3, none⟩ = some (.slice A3 n3 c3) from HZB.out.cell (j := 3) rfl)
      have hbw : b < wr.heap.size := Nat.lt_of_lt_of_le hlt HX.out.size
      have HD9 := Lib.hid (fun h0 : 0 < j => (HA1.out.cell (p := ⟨b, off + jm * 4, none⟩) hbw).trans (hpv h0))
      have HBW := Lib.hid (show b < (wr.alloc (.cells #[.string z.label, .int .i64 z.kind, .int .i64 z.value, .slice A3 n3 c3] 27)).drew.heap.size from Nat.lt_of_lt_of_le hbw HA1.out.size)
      have HKW := Lib.hid (show wr.heap.size < (wr.alloc (.cells #[.string z.label, .int .i64 z.kind, .int .i64 z.value, .slice A3 n3 c3] 27)).drew.heap.size from HZB.out.lt)
      have HRD := Lib.hid (show REntry.rd (wr.alloc (.cells #[.string z.label, .int .i64 z.kind, .int .i64 z.value, .slice A3 n3 c3] 27)).drew (Lt (wr.alloc (.cells #[.string z.label, .int .i64 z.kind, .int .i64 z.value, .slice A3 n3 c3] 27)).drew.heap.size) [.string z.label, .int .i64 z.kind, .int .i64 z.value, .slice A3 n3 c3] z from REntry.more (REntry.keep hrd2 fun i hi => HA1.out.block i hi) fun i hi => Nat.lt_of_lt_of_le hi HA1.out.size)
      have HRD0 := Lib.hid hrd
      have HMA := Lib.hid (HM.out.alloc (.cells #[.string z.label, .int .i64 z.kind, .int .i64 z.value, .slice A3 n3 c3] 27)).drew
      have HG0 := Lib.hid (show InS z.label from g0)
      have HTZ := Lib.hid (show totEntry z ≤ 1099511627776 from by have := HT.out; omega)
      have HJM := Lib.hid (fun (h : 0 < j) => show (j : Int) - 1 = (jm : Int) by omega)
      have HJN := Lib.hid (fun (h : 0 < j) => show (jm : Int) < n by omega)
      have hj2 : (j : Int) < n := by omega
      have HXD := Lib.hid (show Below w.heap.size w (wr.alloc (.cells #[.string z.label, .int .i64 z.kind, .int .i64 z.value, .slice A3 n3 c3] 27)).drew from HXB.out.drew)
      clear hcc hrd hrd2 hz htz g0 g1 g2 p3 q3 s3 hpv hprev hjm hlt hbw
      go_wp2_with fail
      clear d0 d1 d2 d3
      obtain ⟨z3, hz3⟩ : ∃ zz : Bool, zz = (!(isEntry z)) := ⟨_, rfl⟩
      have Hz3 := Lib.hid hz3
      clear hz3
      obtain ⟨z6, hz6⟩ : ∃ zz : Bool, zz = (decide ((0 : Int) < ((j : Int) : Int))) := ⟨_, rfl⟩
      have Hz6 := Lib.hid hz6
      clear hz6
      have HPOS := Lib.hid (show ∀ (x : Bool), (x && (z6 == true)) = true → 0 < j from fun x h => by rw [Hz6.out, Bool.and_eq_true] at h; simpa using h.2)
      refine RG.region (tabP [sv (.agg #[.string z.label, .int .i64 z.kind, .int .i64 z.value, .slice A3 n3 c3]), sv (.bool (isEntry z)), sv (.bool (!(isEntry z))), sv (.bool (z3)), swhen (z3 == false) (sv (.int .i64 ((j : Int)))), swhen (z3 == false) (sv (.bool (decide ((0 : Int) < ((j : Int) : Int))))), swhen (z3 == false) (sv (.bool (z6))), swhen ((z3 == false) && (z6 == true)) (sv (.slice (some ⟨b, off, none⟩) n c)), swhen ((z3 == false) && (z6 == true)) (sv (.int .i64 ((j : Int)))), swhen ((z3 == false) && (z6 == true)) (sv (.int .i64 ((jm : Int)))), swhen ((z3 == false) && (z6 == true)) (sv (.pointer (some ⟨b, off + jm * 4, none⟩))), swhen ((z3 == false) && (z6 == true)) (sv (.pointer (some ⟨b, off + jm * 4, none⟩))), swhen ((z3 == false) && (z6 == true)) (sv (.string (y))), swhen ((z3 == false) && (z6 == true)) (sv (.pointer (some ⟨wr.heap.size, 0, none⟩))), swhen ((z3 == false) && (z6 == true)) (sv (.string (z.label))), swhen ((z3 == false) && (z6 == true)) (sv (.int .i64 (cmpS (y) (z.label)))), swhen ((z3 == false) && (z6 == true)) (sv (.bool (decide ((0 : Int) ≤ (cmpS (y) (z.label) : Int))))), swhen (z3 == false) (sv (.bool ((z6) && (decide ((0 : Int) ≤ (cmpS (y) (z.label) : Int)))))), sv (.bool ((z3) || ((z6) && (decide ((0 : Int) ≤ (cmpS (y) (z.label) : Int))))))]) (by kernel_rfl) (by kernel_rfl) (tab_keep _) ?_ ?_
      · refine steps_cons ?_ (steps_cons ?_ (steps_cons ?_ (steps_cons ?_ (steps_cons ?_ (steps_cons ?_ (steps_cons ?_ (steps_cons ?_ (steps_cons ?_ (steps_cons ?_ (steps_cons ?_ (steps_cons ?_ (steps_cons ?_ (steps_cons ?_ (steps_cons ?_ (steps_cons ?_ (steps_cons ?_ (steps_cons ?_ (steps_cons ?_ (steps_nil)))))))))))))))))))
        · intro aa ww hA K hK
          refine free rfl ?_
          have e6 : aa.tmps.getD 6 undef = .pointer (some ⟨wr.heap.size, 0, none⟩) := hA.old 6 (by kernel_rfl)
          have k0 := (hA.bel.cell (p := ⟨wr.heap.size, 0, none⟩) HKW.out).trans HD0.out
          have k1 := (hA.bel.cell (p := ⟨wr.heap.size, 1, none⟩) HKW.out).trans HD1.out
          have k2 := (hA.bel.cell (p := ⟨wr.heap.size, 2, none⟩) HKW.out).trans HD2.out
          have k3 := (hA.bel.cell (p := ⟨wr.heap.size, 3, none⟩) HKW.out).trans HD3.out
          exact gives hK (v := .agg #[.string z.label, .int .i64 z.kind, .int .i64 z.value, .slice A3 n3 c3]) (by simp [execOp, Act.eval, e6, k0, k1, k2, k3, go_sem]) rfl
        · intro aa ww hA K hK
          refine free rfl ?_
          have e18 : aa.tmps.getD 18 undef = .agg #[.string z.label, .int .i64 z.kind, .int .i64 z.value, .slice A3 n3 c3] := hA.got 0 18 (by kernel_rfl)
          refine calls hK (by simp [Act.eval, e18, go_sem]) (iIsEntry_any _ z ww (REntry.more (REntry.keep HRD.out fun i hi => hA.bel.block i hi) fun i hi => Nat.lt_of_lt_of_le hi hA.bel.size) HTZ.out) ?_
          rintro e w1 ⟨rfl, hb⟩
          exact ⟨_, rfl, hb, rfl⟩
        · intro aa ww hA K hK
          refine free rfl ?_
          have e19 : aa.tmps.getD 19 undef = .bool (isEntry z) := hA.got 1 19 (by kernel_rfl)
          exact gives hK (v := .bool (!(isEntry z))) (by simp [execOp, Act.eval, e19, Op.unary, go_sem]) rfl
        · intro aa ww hA K hK
          refine free rfl ?_
          have e20 : aa.tmps.getD 20 undef = .bool (!(isEntry z)) := hA.got 2 20 (by kernel_rfl)
          exact gives hK rfl (show aa.tmps.getD 20 undef = .bool z3 from by rw [e20, Hz3.out])
        · intro aa ww hA K hK
          refine guarded (s := sv (.int .i64 ((j : Int)))) rfl rfl (hA.got 3 21 (by kernel_rfl)) hK fun hB hK => ?_
          exact gives hK rfl (hA.old 5 (by kernel_rfl))
        · intro aa ww hA K hK
          refine guarded (s := sv (.bool (decide ((0 : Int) < ((j : Int) : Int))))) rfl rfl (hA.got 3 21 (by kernel_rfl)) hK fun hB hK => ?_
          have e22 : aa.tmps.getD 22 undef = .int .i64 ((j : Int)) := (hA.got 4 22 (by kernel_rfl)).1 hB
          exact gives hK (v := .bool (decide ((0 : Int) < ((j : Int) : Int)))) (by simp [execOp, Act.eval, e22, binOp, eqGuard, go_sem]) rfl
        · intro aa ww hA K hK
          refine guarded (s := sv (.bool (z6))) rfl rfl (hA.got 3 21 (by kernel_rfl)) hK fun hB hK => ?_
          have e23 : aa.tmps.getD 23 undef = .bool (decide ((0 : Int) < ((j : Int) : Int))) := (hA.got 5 23 (by kernel_rfl)).1 hB
          exact gives hK rfl (show aa.tmps.getD 23 undef = .bool z6 from by rw [e23, Hz6.out])
        · intro aa ww hA K hK
          refine guarded2 (s := sv (.slice (some ⟨b, off, none⟩) n c)) rfl rfl (hA.got 6 24 (by kernel_rfl)) hK fun hB hK => ?_
          exact gives hK rfl (hA.old 0 (by kernel_rfl))
        · intro aa ww hA K hK
          refine guarded2 (s := sv (.int .i64 ((j : Int)))) rfl rfl (hA.got 6 24 (by kernel_rfl)) hK fun hB hK => ?_
          exact gives hK rfl (hA.old 5 (by kernel_rfl))
        · intro aa ww hA K hK
          refine guarded2 (s := sv (.int .i64 ((jm : Int)))) rfl rfl (hA.got 6 24 (by kernel_rfl)) hK fun hB hK => ?_
          have e26 : aa.tmps.getD 26 undef = .int .i64 ((j : Int)) := (hA.got 8 26 (by kernel_rfl)).1 hB
          have hj1 : 0 < j := HPOS.out _ hB
          have hjm := HJM.out hj1
          exact gives hK (v := .int .i64 ((jm : Int))) (by simp [execOp, Act.eval, e26, binOp, eqGuard, go_sem]; rw [hjm, IntKind.wrap_i64]; have := HJN.out hj1; omega) rfl
        · intro aa ww hA K hK
          refine guarded2 (s := sv (.pointer (some ⟨b, off + jm * 4, none⟩))) rfl rfl (hA.got 6 24 (by kernel_rfl)) hK fun hB hK => ?_
          have hj1 : 0 < j := HPOS.out _ hB
          have hjm2 := HJN.out hj1
          have e25 : aa.tmps.getD 25 undef = .slice (some ⟨b, off, none⟩) n c := (hA.got 7 25 (by kernel_rfl)).1 hB
          have e27 : aa.tmps.getD 27 undef = .int .i64 ((jm : Int)) := (hA.got 9 27 (by kernel_rfl)).1 hB
          exact gives hK (v := .pointer (some ⟨b, off + jm * 4, none⟩)) (by simp [execOp, Act.eval, e25, e27, go_sem, hjm2]) rfl
        · intro aa ww hA K hK
          refine guarded2 (s := sv (.pointer (some ⟨b, off + jm * 4, none⟩))) rfl rfl (hA.got 6 24 (by kernel_rfl)) hK fun hB hK => ?_
          have e28 : aa.tmps.getD 28 undef = .pointer (some ⟨b, off + jm * 4, none⟩) := (hA.got 10 28 (by kernel_rfl)).1 hB
          exact gives hK (v := .pointer (some ⟨b, off + jm * 4, none⟩)) (by simp [execOp, Act.eval, e28, go_sem]) rfl
        · intro aa ww hA K hK
          refine guarded2 (s := sv (.string (y))) rfl rfl (hA.got 6 24 (by kernel_rfl)) hK fun hB hK => ?_
          have hj1 : 0 < j := HPOS.out _ hB
          have e29 : aa.tmps.getD 29 undef = .pointer (some ⟨b, off + jm * 4, none⟩) := (hA.got 11 29 (by kernel_rfl)).1 hB
          have k9 := (hA.bel.cell (p := ⟨b, off + jm * 4, none⟩) HBW.out).trans (HD9.out hj1)
          exact gives hK (v := .string y) (by simp [execOp, Act.eval, e29, k9, go_sem]) rfl
        · intro aa ww hA K hK
          refine guarded2 (s := sv (.pointer (some ⟨wr.heap.size, 0, none⟩))) rfl rfl (hA.got 6 24 (by kernel_rfl)) hK fun hB hK => ?_
          have e6 : aa.tmps.getD 6 undef = .pointer (some ⟨wr.heap.size, 0, none⟩) := hA.old 6 (by kernel_rfl)
          exact gives hK (v := .pointer (some ⟨wr.heap.size, 0, none⟩)) (by simp [execOp, Act.eval, e6, go_sem]) rfl
        · intro aa ww hA K hK
          refine guarded2 (s := sv (.string (z.label))) rfl rfl (hA.got 6 24 (by kernel_rfl)) hK fun hB hK => ?_
          have e31 : aa.tmps.getD 31 undef = .pointer (some ⟨wr.heap.size, 0, none⟩) := (hA.got 13 31 (by kernel_rfl)).1 hB
          have k0 := (hA.bel.cell (p := ⟨wr.heap.size, 0, none⟩) HKW.out).trans HD0.out
          exact gives hK (v := .string z.label) (by simp [execOp, Act.eval, e31, k0, go_sem]) rfl
        · intro aa ww hA K hK
          refine guarded2 (s := sv (.int .i64 (cmpS (y) (z.label)))) rfl rfl (hA.got 6 24 (by kernel_rfl)) hK fun hB hK => ?_
          have e30 : aa.tmps.getD 30 undef = .string (y) := (hA.got 12 30 (by kernel_rfl)).1 hB
          have e32 : aa.tmps.getD 32 undef = .string (z.label) := (hA.got 14 32 (by kernel_rfl)).1 hB
          refine calls hK (by simp [Act.eval, e30, e32, go_sem]) (iCompareLabels_any (y) (z.label) ww) ?_
          rintro e w1 ⟨rfl, rfl⟩
          exact ⟨_, rfl, (Below.refl _ _), rfl⟩
        · intro aa ww hA K hK
          refine guarded2 (s := sv (.bool (decide ((0 : Int) ≤ (cmpS (y) (z.label) : Int))))) rfl rfl (hA.got 6 24 (by kernel_rfl)) hK fun hB hK => ?_
          have e33 : aa.tmps.getD 33 undef = .int .i64 (cmpS (y) (z.label)) := (hA.got 15 33 (by kernel_rfl)).1 hB
          exact gives hK (v := .bool (decide ((0 : Int) ≤ (cmpS (y) (z.label) : Int)))) (by simp [execOp, Act.eval, e33, binOp, eqGuard, go_sem]) rfl
        · intro aa ww hA K hK
          refine guarded (s := sv (.bool ((z6) && (decide ((0 : Int) ≤ (cmpS (y) (z.label) : Int)))))) rfl rfl (hA.got 3 21 (by kernel_rfl)) hK fun hB hK => ?_
          have e24 : aa.tmps.getD 24 undef = .bool (z6) := (hA.got 6 24 (by kernel_rfl)).1 hB
          rcases hq : (z6) with _ | _
          · rw [hq] at e24
            exact gives hK (v := .bool false) (by simp [execOp, Act.eval, e24, asBool, go_sem]) (show Value.bool _ = .bool _ by rw [hq]; simp)
          · have ex : aa.tmps.getD 34 undef = .bool (decide ((0 : Int) ≤ (cmpS (y) (z.label) : Int))) := (hA.got 16 34 (by kernel_rfl)).1 (and_i hB (by rw [hq]; rfl))
            rw [hq] at e24
            exact gives hK (v := .bool (decide ((0 : Int) ≤ (cmpS (y) (z.label) : Int)))) (by simp [execOp, Act.eval, e24, ex, asBool, go_sem]) (show Value.bool _ = .bool _ by rw [hq]; simp)
        · intro aa ww hA K hK
          refine free rfl ?_
          have e21 : aa.tmps.getD 21 undef = .bool (z3) := hA.got 3 21 (by kernel_rfl)
          rcases hq : (z3) with _ | _
          · have ex : aa.tmps.getD 35 undef = .bool ((z6) && (decide ((0 : Int) ≤ (cmpS (y) (z.label) : Int)))) := (hA.got 17 35 (by kernel_rfl)).1 (by rw [hq]; rfl)
            rw [hq] at e21
            exact gives hK (v := .bool ((z6) && (decide ((0 : Int) ≤ (cmpS (y) (z.label) : Int))))) (by simp [execOp, Act.eval, e21, ex, asBool, go_sem]) (show Value.bool _ = .bool _ by rw [hq]; simp)
          · rw [hq] at e21
            exact gives hK (v := .bool true) (by simp [execOp, Act.eval, e21, asBool, go_sem]) (show Value.bool _ = .bool _ by rw [hq]; simp)
      · intro a1 w1 hb hd hsz hold hgot
        have g36 : a1.tmps.getD 36 undef = .bool ((z3) || ((z6) && (decide ((0 : Int) ≤ (cmpS (y) (z.label) : Int))))) := hgot 18 36 (by kernel_rfl)
        have ea := act_put hd hsz hold [18, 19, 20, 21, 22, 23, 24, 25, 26, 27, 28, 29, 30, 31, 32, 33, 34, 35, 36] rfl
        simp only [List.foldl_cons, List.foldl_nil, g36] at ea
        rename_i K9 hK9
        refine hK9 a1 w1 ?_
        generalize a1.tmps.getD 18 undef = v18 at ea
        generalize a1.tmps.getD 19 undef = v19 at ea
        generalize a1.tmps.getD 20 undef = v20 at ea
        generalize a1.tmps.getD 21 undef = v21 at ea
        generalize a1.tmps.getD 22 undef = v22 at ea
        generalize a1.tmps.getD 23 undef = v23 at ea
        generalize a1.tmps.getD 24 undef = v24 at ea
        generalize a1.tmps.getD 25 undef = v25 at ea
        generalize a1.tmps.getD 26 undef = v26 at ea
        generalize a1.tmps.getD 27 undef = v27 at ea
        generalize a1.tmps.getD 28 undef = v28 at ea
        generalize a1.tmps.getD 29 undef = v29 at ea
        generalize a1.tmps.getD 30 undef = v30 at ea
        generalize a1.tmps.getD 31 undef = v31 at ea
        generalize a1.tmps.getD 32 undef = v32 at ea
        generalize a1.tmps.getD 33 undef = v33 at ea
        generalize a1.tmps.getD 34 undef = v34 at ea
        generalize a1.tmps.getD 35 undef = v35 at ea
        clear hgot hold hsz hd g36
        simp only [Act.put, List.setIfInBounds_toArray, List.set_cons_succ, List.set_cons_zero] at ea
        subst ea
        have HX9 := Lib.hid (HXD.out.trans (hb.mono HXD.out.size))
        have HM9 := Lib.hid (HMA.out.below hb HMA.out.lt)
        have HR9 := Lib.hid (REntry.keep HRD0.out fun i hi => (HX9.out.block i hi).trans (HX.out.block i hi).symm)
        have e0 := (hb.cell (p := ⟨wr.heap.size, 0, none⟩) HKW.out).trans HD0.out
        have e1 := (hb.cell (p := ⟨wr.heap.size, 1, none⟩) HKW.out).trans HD1.out
        have e2 := (hb.cell (p := ⟨wr.heap.size, 2, none⟩) HKW.out).trans HD2.out
        have e3 := (hb.cell (p := ⟨wr.heap.size, 3, none⟩) HKW.out).trans HD3.out
        clear hb
        cases hv : okE l j with
        | false =>
          rw [show ((z3) || ((z6) && (decide ((0 : Int) ≤ (cmpS (y) (z.label) : Int))))) = true from by rw [Hz3.out, Hz6.out, okc _ _ _ (cmpS_range _ _), ← HOK.out, hv]; rfl]
          have HF := Lib.hid (areE_bad (by rw [HL.out]; exact hjn) hv)
          clear hv e0 e1 e2 e3
          go_wp2
          go_ret2
          exact ⟨none, by rw [HF.out]; rfl, HX9.out, fun h => by rw [HF.out] at h; cases h⟩
        | true =>
          rw [show ((z3) || ((z6) && (decide ((0 : Int) ≤ (cmpS (y) (z.label) : Int))))) = false from by rw [Hz3.out, Hz6.out, okc _ _ _ (cmpS_range _ _), ← HOK.out, hv]; rfl]
          have HF := Lib.hid (show ∀ k, k < j + 1 → okE l k = true from fun k hk => by
            rcases Nat.lt_or_ge k j with h1 | h1
            · exact HB.out k h1
            · obtain rfl : k = j := by omega
              exact hv)
          have HLS := Lib.hid (show lessE (l.take j) z.label = l.take j from less_last (by rw [← HSN.out]; exact take_are (by rw [HL.out]; omega) HN.out HF.out))
          have HLT := Lib.hid (show (l.take j).length < maxLen from by rw [List.length_take]; have := HN.out; unfold maxLen; omega)
          clear hv
          go_wp2_with (at_mapUpdate; refine wp_put (z := z) (cs := [.string z.label, .int .i64 z.kind, .int .i64 z.value, .slice A3 n3 c3]) rfl _ _ _ rfl rfl rfl rfl HM9.out HR9.out HG0.out HLT.out ?_; intro w4 hm4 ht4; have HM4 := Lib.hid hm4; have HX4 := Lib.hid (HX9.out.grown ht4.grown HX9.out.size fun k hk => by cases hk; exact Nat.le_refl _); clear hm4 ht4)
          go_wp2
          go_roundw
          case rel => exact ⟨j + 1, by omega, by go_num, HX4.out, HF.out, by rw [HSN.out]; have h := HM4.out; rw [HLS.out] at h; exact h⟩
          case measure => simp [intOf]; omega
    · obtain rfl : j = n := by omega
      have HF := Lib.hid (show areE l = true from by rw [areE_all (l := l) fun k hk => HB.out k (by have := HL.out; omega)]; exact decide_eq_true HN.out)
      rw [List.take_of_length_le (by rw [HL.out]; omega)] at HM
      go_wp2
      go_ret2
      exact ⟨some w.heap.size, by rw [HF.out]; rfl, HX.out, fun _ => ⟨rfl, HM.out⟩⟩
theorem iAreEntries_any (A : Option Addr) (n c : Nat) (l : List Entry) (w : World) (h : FRdEntry w w.heap.size A n l) (hn : totR totEntry l ≤ 1099511627776) :
    Calls Try.prog 18 #[.slice A n c] w fun e w' => e = .returned (.bool (areE l)) ∧ Below w.heap.size w w' := by
  have HK := Lib.hid (icontentsOf_any A n c l w h hn)
  clear h hn
  generalize areE l = r at HK ⊢
  go_enter Try.func18, Try.ntmps18
  go_wp2_with fail
  refine HK.out.mono ?_
  rintro e w2 ⟨mb, rfl, hb, -⟩
  have HB := Lib.hid hb
  clear hb
  go_wp2
  go_ret
  exact ⟨rfl, HB.out⟩
theorem ikeys_any (mb : Option Nat) (w : World) : Calls Try.prog 78 #[.map mb] w fun e w' => e = .returned (.func (.func 100) #[] #[.pointer (some ⟨w.heap.size, 0, none⟩)]) ∧ w' = w.alloc (.cells #[.map mb] MT) :=
  (callsIn_wide (n := 5)).1 (AnyZ.keys_in Try.keysA Fence.wide 5 trivial rfl mb w)
theorem iinOrder_any (base b : Nat) (m : List Entry) (w : World) (h : MapE w base b m) (hbs : base ≤ w.heap.size) (hs : (labelsE m).Pairwise ltS) (hm : m.length ≤ 1048576) (ht : totR totEntry m ≤ 34359738368) :
    Calls Try.prog 49 #[.map (some b)] w fun e w' => ∃ A' c', e = .returned (.slice A' m.length c') ∧ FOwnEntry w' w.heap.size w'.heap.size A' m.length c' m ∧ Below w.heap.size w w' := by
  have HM := Lib.hid h
  have HLT := Lib.hid h.lt
  have HT := Lib.hid ht
  have HS := Lib.hid (List.pairwise_map.1 hs)
  have hln := h.len
  have HBS := Lib.hid hbs
  clear h hs ht hbs
  go_enter Try.func49, Try.ntmps49
  go_wp2_with (at_make; refine wp_make0R tiEntry rfl _ _ rfl (n := m.length) rfl rfl (by omega) ?_; intro w1 hown1 hb1; have HO1 := Lib.hid hown1; have HB1 := Lib.hid hb1; clear hown1 hb1 hln; go_frame)
  go_wp2_with fail
  refine (ikeys_any (some b) w1).mono ?_
  rintro e w2 ⟨rfl, hw2⟩
  have HC2 := Lib.hid (show w2.cell? ⟨w1.heap.size, 0, none⟩ = some (.map (some b)) ∧ w1.heap.size < w2.heap.size ∧ Below w1.heap.size w1 w2 from by
    rw [hw2]
    exact ⟨(Box.new w1 #[.map (some b)] MT).cell (j := 0) rfl, by simp, (Below.refl _ _).alloc (Nat.le_refl _) _⟩)
  have HM2 := Lib.hid ((HM.out.below HB1.out HLT.out).below HC2.out.2.2 (by have := HB1.out.size; have := HLT.out; omega))
  clear hw2
  go_wp2_with fail
  refine (iSortedFunc_any w1.heap.size b base m w2 HC2.out.1 HC2.out.2.1 HM2.out HS.out hm).mono ?_
  rintro e w3 ⟨Ak, ck, rfl, hown3, hb3⟩
  have HB2 := Lib.hid (HB1.out.trans (HC2.out.2.2.mono HB1.out.size))
  have HB3 := Lib.hid (HB2.out.trans (hb3.mono HB2.out.size))
  have HK := Lib.hid hown3
  have HO3 := Lib.hid ((HO1.out.below HC2.out.2.2 (Nat.le_refl _)).below hb3 (by have := HC2.out.2.2.size; omega))
  have HS2 := Lib.hid (show w.heap.size < w2.heap.size ∧ w1.heap.size < w2.heap.size ∧ w2.heap.size ≤ w3.heap.size from ⟨by have := HB1.out.size; have := HC2.out.2.1; omega, HC2.out.2.1, hb3.size⟩)
  clear hown3 hb3
  go_wp2
  go_loopw [3, 13] (fun o i wr => ∃ (j : Nat) (A1 : Option Addr) (c1 : Nat), j ≤ m.length ∧ i = .int .i64 j ∧ o = .slice A1 j c1 ∧ FOwnEntry wr w.heap.size wr.heap.size A1 j c1 (m.take j) ∧ Below w.heap.size w wr ∧ w3.heap.size ≤ wr.heap.size ∧ (∀ k, w2.heap.size ≤ k → k < w3.heap.size → wr.heap[k]? = w3.heap[k]?) ∧ (∀ a, A1 = some a → a.block < w2.heap.size ∨ w3.heap.size ≤ a.block)) (fun _ i _ => m.length - (intOf i).toNat)
  case atStart => exact ⟨0, _, m.length, by omega, rfl, rfl, HO3.out.wide (Nat.le_refl _) (by have := HS2.out; omega), HB3.out, Nat.le_refl _, fun k _ _ => rfl, fun a e => by
    injection e with e
    subst e
    exact .inl HS2.out.1⟩
  case round =>
    obtain ⟨j, A1, c1, hj, rfl, rfl, hown, hbel, hsz, hkp, hap⟩ := hrel
    have HX := Lib.hid hbel
    have HO4 := Lib.hid hown
    have HSZ := Lib.hid hsz
    have HKP := Lib.hid hkp
    have HAP := Lib.hid hap
    clear hbel hown hsz hkp hap
    by_cases hjn : j < m.length
    · obtain ⟨kb, ko, rfl, hkl, hkc⟩ := HK.out.rd.cells (by omega)
      have hkg : w2.heap.size ≤ kb := HK.out.ge _ rfl
      obtain ⟨z, hz⟩ : ∃ z, z = at0 m j := ⟨_, rfl⟩
      have d0 : wr.cell? ⟨kb, ko + j, none⟩ = some (.string z.label) := by
        rw [hz, ← lab_at hjn]
        exact (World.cell?_of_block (a := ⟨kb, ko + j, none⟩) (HKP.out kb hkg hkl)).trans (hkc j hjn)
      obtain ⟨cs, hrun, hrd⟩ := (HM.out.below HX.out HLT.out).get (z := z) (by rw [hz]; exact at_mem hjn)
      have htz : totEntry z ≤ totR totEntry m := by rw [hz]; exact totR_mem totEntry hjn
      have hK := icopyEntry_any cs z wr (REntry.more hrd fun i hi => Nat.lt_of_lt_of_le hi (Nat.le_trans HBS.out HX.out.size)) (by have := HT.out; omega)
      have HSN := Lib.hid (show m.take (j + 1) = m.take j ++ [z] from by rw [hz]; exact take_snocE hjn)
      obtain ⟨Aa, na, ca, rfl, -⟩ := REntry_rd.1 hrd
      have HKK := Lib.hid hK
      clear hz hrd htz hK hkc hkl hkg
      obtain ⟨z0, z1, z2, z3⟩ := z
      simp only at d0 hrun HKK
      go_wp2_with fail
      refine HKK.out.mono ?_
      rintro e w4 ⟨cs2, rfl, hown2, hb2⟩
      have HO5 := Lib.hid (HO4.out.below hb2 (Nat.le_refl _))
      have HZ2 := Lib.hid hown2
      have HX2 := Lib.hid (HX.out.trans (hb2.mono HX.out.size))
      have HS4 := Lib.hid (show wr.heap.size ≤ w4.heap.size from hb2.size)
      have HKP4 := Lib.hid (fun k h1 h2 => (hb2.block k (Nat.lt_of_lt_of_le h2 HSZ.out)).trans (HKP.out k h1 h2))
      obtain ⟨Ab, nb, cb, rfl, _⟩ := REntry_own.1 hown2
      clear hb2 hown2 d0 hrun
      go_wp2_with (at_builtin; refine wp_pushR (st := 24) (mid := wr.heap.size) (hi := w4.heap.size) (lo := w.heap.size) REntry tiEntry rfl _ _ rfl rfl HO5.out rfl HZ2.out (by omega) HX.out.size HX2.out.size ?_; intro A4 c4 w5 hown4 hgr4)
      have HB4 := Lib.hid (HX2.out.trans (hgr4.below HX2.out.size HO5.out.ge))
      have HO6 := Lib.hid hown4
      have HG4 := Lib.hid hgr4
      clear hown4 hgr4
      go_wp2
      go_roundw
      case rel =>
        refine ⟨j + 1, A4, c4, by omega, by go_num, rfl, by rw [HSN.out]; exact HO6.out, HB4.out, Nat.le_trans (Nat.le_trans HSZ.out HS4.out) HG4.out.1.size, fun k h1 h2 => ?_, fun a e => ?_⟩
        · rw [← HKP4.out k h1 h2]
          refine HG4.out.1.block k (Nat.lt_of_lt_of_le h2 (Nat.le_trans HSZ.out HS4.out)) fun e => ?_
          cases A1 with
          | none => simp at e
          | some a =>
            simp at e
            have := HAP.out a rfl
            omega
        · rcases HG4.out.2 a e with h1 | h1
          · cases A1 with
            | none => simp at h1
            | some a1 =>
              simp at h1
              have := HAP.out a1 rfl
              omega
          · exact .inr (Nat.le_trans (Nat.le_trans HSZ.out HS4.out) h1)
      case measure => simp [intOf]; omega
    · obtain rfl : j = m.length := by omega
      rw [List.take_of_length_le (Nat.le_refl _)] at HO4
      go_wp2
      go_ret
      exact ⟨A1, c1, rfl, HO4.out, HX.out⟩
theorem ifindBy_any (Bs : Nat) (s : ByteArray) (x : ByteArray) (i j : Int) (A : Option Addr) (n c : Nat) (w : World) (hc : w.cell? ⟨Bs, 0, none⟩ = some (.string s)) (hB : Bs < w.heap.size) :
    Calls Try.prog 55 #[.agg #[.string x, .int .i64 i, .int .i64 j, .slice A n c], .pointer (some ⟨Bs, 0, none⟩)] w fun e w' => e = .returned (.bool (decide (x = s))) ∧ Below w.heap.size w w' := by
  have HB := Lib.hid ((Below.refl w.heap.size w).alloc (Nat.le_refl _) (.cells #[.string x, .int .i64 i, .int .i64 j, .slice A n c] 27))
  have hc2 : (w.alloc (.cells #[.string x, .int .i64 i, .int .i64 j, .slice A n c] 27)).cell? ⟨Bs, 0, none⟩ = some (.string s) := (HB.out.cell (p := ⟨Bs, 0, none⟩) hB).trans hc
  have hd : (x.toList == s.toList) = decide (x = s) := toList_beq ..
  go_enter Try.func55, Try.ntmps55
  go_wp2
  go_ret
  exact ⟨by first | rfl | (rw [hd]; rfl) | (simp [hd]; done), HB.out⟩
theorem iindexFunc_any (Bs : Nat) (A : Option Addr) (n c : Nat) (l : List Entry) (s : ByteArray) (w : World) (h : FRdEntry w w.heap.size A n l) (hn : n ≤ 1099511627776) (hc : w.cell? ⟨Bs, 0, none⟩ = some (.string s)) (hB : Bs < w.heap.size) :
    Calls Try.prog 54 #[.slice A n c, .func (.func 55) #[] #[.pointer (some ⟨Bs, 0, none⟩)]] w fun e w' => e = .returned (.int .i64 (fndE l s)) ∧ Below w.heap.size w w' := by
  have HL := Lib.hid h.len
  have HR := Lib.hid h
  have HC := Lib.hid hc
  clear h hc
  go_enter Try.func54, Try.ntmps54
  go_wp2
  go_loopw [8] (fun i wr => ∃ j : Nat, j ≤ n ∧ i = .int .i64 j ∧ Below w.heap.size w wr ∧ ∀ k, k < j → (at0 l k).label ≠ s) (fun i _ => n - (intOf i).toNat)
  case atStart => exact ⟨0, by omega, rfl, Below.refl _ _, fun k hk => absurd hk (by omega)⟩
  case round =>
    obtain ⟨j, hj, rfl, hbel, hb⟩ := hrel
    have HX := Lib.hid hbel
    have HB := Lib.hid hb
    clear hb hbel
    by_cases hjn : j < n
    · obtain ⟨b, off, cs, rfl, hlt, hrd, hcc⟩ := (HR.out.below HX.out (Nat.le_refl _)).at hjn
      obtain ⟨z, hz⟩ : ∃ z, z = at0 l j := ⟨_, rfl⟩
      rw [show l.getD j default = z from hz.symm] at hrd
      obtain ⟨A3, n3, c3, rfl, g0, g1, g2, p3, q3, s3⟩ := REntry_rd.1 hrd
      have d0 : wr.cell? ⟨b, off + j * 4, none⟩ = some (.string z.label) := hcc 0 (by decide)
      have d1 : wr.cell? ⟨b, off + j * 4 + 1, none⟩ = some (.int .i64 z.kind) := hcc 1 (by decide)
      have d2 : wr.cell? ⟨b, off + j * 4 + 2, none⟩ = some (.int .i64 z.value) := hcc 2 (by decide)
      have d3 : wr.cell? ⟨b, off + j * 4 + 3, none⟩ = some (.slice A3 n3 c3) := hcc 3 (by decide)
      have hK := ifindBy_any Bs s z.label z.kind z.value A3 n3 c3 wr ((HX.out.cell (p := ⟨Bs, 0, none⟩) hB).trans HC.out) (Nat.lt_of_lt_of_le hB HX.out.size)
      have HZ := Lib.hid hz
      clear hcc hrd g0 g1 g2 p3 q3 s3 hlt hz
      by_cases hs : z.label = s
      · have HF := Lib.hid (fndE_hit (s := s) (by rw [HL.out]; exact hjn) HB.out (by rw [← HZ.out]; exact hs))
        rw [decide_eq_true hs] at hK
        have HK := Lib.hid hK
        clear hs hK
        go_wp2_with fail
        refine HK.out.mono ?_
        rintro e w2 ⟨rfl, hb2⟩
        have HX2 := Lib.hid (HX.out.trans (hb2.mono HX.out.size))
        clear hb2
        go_wp2
        go_ret
        exact ⟨by rw [HF.out]; rfl, HX2.out⟩
      · have HF := Lib.hid (show ∀ k, k < j + 1 → (at0 l k).label ≠ s from fun k hk => by
          rcases Nat.lt_or_ge k j with h1 | h1
          · exact HB.out k h1
          · obtain rfl : k = j := by omega
            rw [← HZ.out]
            exact hs)
        rw [decide_eq_false hs] at hK
        have HK := Lib.hid hK
        clear hs hK
        go_wp2_with fail
        refine HK.out.mono ?_
        rintro e w2 ⟨rfl, hb2⟩
        have HX2 := Lib.hid (HX.out.trans (hb2.mono HX.out.size))
        clear hb2
        go_wp2
        go_roundw
        case rel => exact ⟨j + 1, by omega, by go_num, HX2.out, HF.out⟩
        case measure => simp [intOf]; omega
    · have HF := Lib.hid (fndE_miss (l := l) (s := s) fun k hk => HB.out k (by have := HL.out; omega))
      go_wp2
      go_ret
      exact ⟨by rw [HF.out]; rfl, HX.out⟩
theorem iFindEntry_any (A : Option Addr) (n c : Nat) (l : List Entry) (s : ByteArray) (w : World) (h : FRdEntry w w.heap.size A n l) (hn : n ≤ 1099511627776) :
    Calls Try.prog 16 #[.slice A n c, .string s] w fun e w' => e = .returned (.int .i64 (fndE l s)) ∧ Below w.heap.size w w' := by
  have HB := Lib.hid ((Below.refl w.heap.size w).alloc (Nat.le_refl _) (.cells #[.string s] 9))
  have HK := Lib.hid (iindexFunc_any w.heap.size A n c l s (w.alloc (.cells #[.string s] 9)) ((h.below HB.out (Nat.le_refl _)).more HB.out.size) hn ((Box.new w #[.string s] 9).cell (j := 0) rfl) (by simp))
  clear h
  generalize fndE l s = r at HK ⊢
  go_enter Try.func16, Try.ntmps16
  go_wp2_with fail
  refine HK.out.mono ?_
  rintro e w2 ⟨rfl, hb2⟩
  have HX2 := Lib.hid (HB.out.trans (hb2.mono HB.out.size))
  clear hb2
  go_wp2
  go_ret
  exact ⟨rfl, HX2.out⟩
theorem iLabelsOf_any (A : Option Addr) (n c : Nat) (l : List Entry) (w : World) (h : FRdEntry w w.heap.size A n l) (hn : n ≤ 1099511627776) :
    Calls Try.prog 23 #[.slice A n c] w fun e w' => ∃ A' c', e = .returned (.slice A' n c') ∧ OwnS w' w.heap.size w'.heap.size A' n c' (labelsE l) ∧ Below w.heap.size w w' := by
  have HL := Lib.hid h.len
  have HR := Lib.hid h
  clear h
  go_enter Try.func23, Try.ntmps23
  go_wp2_with (at_make; refine wp_make0S rfl _ _ rfl (n := n) rfl rfl (by omega) ?_; intro w1 hown1 hb1; have HO := Lib.hid hown1; have HB := Lib.hid hb1; clear hown1 hb1; go_frame)
  go_loopw [3, 11] (fun o i wr => ∃ (j : Nat) (A1 : Option Addr) (c1 : Nat), j ≤ n ∧ i = .int .i64 j ∧ o = .slice A1 j c1 ∧ OwnS wr w.heap.size wr.heap.size A1 j c1 (labelsE (l.take j)) ∧ Below w.heap.size w wr) (fun _ i _ => n - (intOf i).toNat)
  case atStart => exact ⟨0, _, n, by omega, rfl, rfl, HO.out, HB.out⟩
  case round =>
    obtain ⟨j, A1, c1, hj, rfl, rfl, hown, hbel⟩ := hrel
    have HX := Lib.hid hbel
    have HO1 := Lib.hid hown
    clear hbel hown
    by_cases hjn : j < n
    · obtain ⟨b, off, cs, rfl, hlt, hrd, hcc⟩ := (HR.out.below HX.out (Nat.le_refl _)).at hjn
      have hst := labels_step (l := l) (j := j) (by rw [HL.out]; exact hjn)
      obtain ⟨z, hz⟩ : ∃ z, z = at0 l j := ⟨_, rfl⟩
      rw [show l.getD j default = z from hz.symm] at hrd
      rw [← hz] at hst
      obtain ⟨A3, n3, c3, rfl, g0, g1, g2, p3, q3, s3⟩ := REntry_rd.1 hrd
      have d0 : wr.cell? ⟨b, off + j * 4, none⟩ = some (.string z.label) := hcc 0 (by decide)
      have d1 : wr.cell? ⟨b, off + j * 4 + 1, none⟩ = some (.int .i64 z.kind) := hcc 1 (by decide)
      have d2 : wr.cell? ⟨b, off + j * 4 + 2, none⟩ = some (.int .i64 z.value) := hcc 2 (by decide)
      have d3 : wr.cell? ⟨b, off + j * 4 + 3, none⟩ = some (.slice A3 n3 c3) := hcc 3 (by decide)
      have HXB := Lib.hid (HX.out.alloc HX.out.size (.cells #[.string z.label, .int .i64 z.kind, .int .i64 z.value, .slice A3 n3 c3] 27))
      have HOB := Lib.hid (HO1.out.alloc (.cells #[.string z.label, .int .i64 z.kind, .int .i64 z.value, .slice A3 n3 c3] 27)).top
      have HZB := Lib.hid ((Box.new wr #[.string z.label, .int .i64 z.kind, .int .i64 z.value, .slice A3 n3 c3] 27).cell (j := 0) rfl)
      have HG := Lib.hid (show InS z.label from g0)
      have HS := Lib.hid hst
      clear hcc hrd g0 g1 g2 p3 q3 s3 hst hlt hz
      obtain ⟨x, z1, z2, z3⟩ := z
      simp only at d0 d1 d2 HG HS HXB HOB HZB
      go_wp2_with (at_builtin; refine wp_pushS (lo := w.heap.size) (z := x) rfl _ _ rfl rfl HOB.out (by rw [World.size_alloc]; rfl) HG.out (by omega) HXB.out.size ?_; intro A4 c4 w4 hown4 hgr4)
      have HB4 := Lib.hid (HXB.out.trans (hgr4.below HXB.out.size HOB.out.ge))
      have HO4 := Lib.hid hown4
      clear hown4 hgr4 d0 d1 d2 d3
      go_wp2
      go_roundw
      case rel => exact ⟨j + 1, A4, c4, by omega, by go_num, rfl, by rw [HS.out]; exact HO4.out, HB4.out⟩
      case measure => simp [intOf]; omega
    · obtain rfl : j = n := by omega
      rw [List.take_of_length_le (by rw [HL.out]; omega)] at HO1
      go_wp2
      go_ret
      exact ⟨A1, c1, rfl, HO1.out, HX.out⟩
set_option maxHeartbeats 1000000 in
theorem iAlikeIn_any (A : Option Addr) (n c : Nat) (l : List Entry) (s : ByteArray) (w : World) (h : FRdEntry w w.heap.size A n l) (hn : totR totEntry l ≤ 1099511627776) (hs : s.size ≤ 1099511627776) :
    Calls Try.prog 21 #[.slice A n c, .string s] w fun e w' => ∃ A' c', e = .returned (.slice A' (alikeE l s).length c') ∧ OwnS w' w.heap.size w'.heap.size A' (alikeE l s).length c' (alikeE l s) ∧ Below w.heap.size w w' := by
  have HL := Lib.hid h.len
  have HT := Lib.hid hn
  have HSZ := Lib.hid hs
  have hn2 : n ≤ 1099511627776 := by have := totR_len totEntry l; have := h.len; omega
  have HR := Lib.hid h
  have HO := Lib.hid (OwnS.lit0 (lo := w.heap.size) w (Nat.le_refl _))
  have HB := Lib.hid ((Below.refl w.heap.size w).alloc (Nat.le_refl _) (.cells #[] 9))
  have HLE := Lib.hid (fun j => alike_le (l.take j) s)
  clear h hn hs
  go_enter Try.func21, Try.ntmps21
  go_wp2
  go_loopw [5, 11] (fun o i wr => ∃ (j : Nat) (A1 : Option Addr) (c1 : Nat), j ≤ n ∧ i = .int .i64 j ∧ o = .slice A1 (alikeE (l.take j) s).length c1 ∧ OwnS wr w.heap.size wr.heap.size A1 (alikeE (l.take j) s).length c1 (alikeE (l.take j) s) ∧ Below w.heap.size w wr) (fun _ i _ => n - (intOf i).toNat)
  case atStart => exact ⟨0, _, 0, by omega, rfl, rfl, HO.out.top, HB.out⟩
  case round =>
    obtain ⟨j, A1, c1, hj, rfl, rfl, hown, hbel⟩ := hrel
    have HX := Lib.hid hbel
    have HO1 := Lib.hid hown
    clear hbel hown
    by_cases hjn : j < n
    · obtain ⟨b, off, cs, rfl, hlt, hrd, hcc⟩ := (HR.out.below HX.out (Nat.le_refl _)).at hjn
      have hst := alike_step (l := l) (s := s) (j := j) (by rw [HL.out]; exact hjn)
      have hle := HLE.out j
      rw [List.length_take] at hle
      have hsz : (at0 l j).label.size ≤ 1099511627776 := by
        have h1 := totR_mem totEntry (zs := l) (j := j) (by rw [HL.out]; exact hjn)
        have h2 : (at0 l j).label.size ≤ totEntry (l.getD j default) := Nat.le_add_right _ _
        have := HT.out
        omega
      obtain ⟨z, hz⟩ : ∃ z, z = at0 l j := ⟨_, rfl⟩
      rw [show l.getD j default = z from hz.symm] at hrd
      rw [← hz] at hst hsz
      obtain ⟨A3, n3, c3, rfl, g0, g1, g2, p3, q3, s3⟩ := REntry_rd.1 hrd
      have d0 : wr.cell? ⟨b, off + j * 4, none⟩ = some (.string z.label) := hcc 0 (by decide)
      have d1 : wr.cell? ⟨b, off + j * 4 + 1, none⟩ = some (.int .i64 z.kind) := hcc 1 (by decide)
      have d2 : wr.cell? ⟨b, off + j * 4 + 2, none⟩ = some (.int .i64 z.value) := hcc 2 (by decide)
      have d3 : wr.cell? ⟨b, off + j * 4 + 3, none⟩ = some (.slice A3 n3 c3) := hcc 3 (by decide)
      have HXB := Lib.hid (HX.out.alloc HX.out.size (.cells #[.string z.label, .int .i64 z.kind, .int .i64 z.value, .slice A3 n3 c3] 27))
      have HOB := Lib.hid (HO1.out.alloc (.cells #[.string z.label, .int .i64 z.kind, .int .i64 z.value, .slice A3 n3 c3] 27)).top
      have HZL := Lib.hid (Box.new wr #[.string z.label, .int .i64 z.kind, .int .i64 z.value, .slice A3 n3 c3] 27).lt
      have HZB := Lib.hid ((Box.new wr #[.string z.label, .int .i64 z.kind, .int .i64 z.value, .slice A3 n3 c3] 27).cell (j := 0) rfl)
      have HG := Lib.hid (show InS z.label from g0)
      clear hcc hrd g0 g1 g2 p3 q3 s3 hlt hz
      obtain ⟨x, z1, z2, z3⟩ := z
      simp only at d0 d1 d2 HG HXB HOB HZB hst hsz HZL
      have hK := fun w1 => iLooksLike_any x s w1 hsz HSZ.out
      generalize hsb : alikeE (l.take j) s = sb at HO1 HOB hst hle
      have hsl : sb.length ≤ 1099511627776 := by omega
      clear hsb hle hsz
      by_cases hx : x = s
      · subst hx
        have HS := Lib.hid (show alikeE (l.take (j + 1)) x = sb from by rw [hst]; simp [likeE])
        clear hst hK
        go_wp2
        go_roundw
        case rel => exact ⟨j + 1, A1, c1, by omega, by go_num, by rw [HS.out], by rw [HS.out]; exact HOB.out, HXB.out⟩
        case measure => simp [intOf]; omega
      · have hxb : (x.toList == s.toList) = false := by rw [toList_beq, decide_eq_false hx]
        rcases hlk : looks x s with _ | _
        · rw [hlk] at hK
          have HS := Lib.hid (show alikeE (l.take (j + 1)) s = sb from by rw [hst]; simp [likeE, hlk])
          have HK := Lib.hid hK
          clear hst hK hlk hx
          go_wp2_with fail
          refine (HK.out _).mono ?_
          rintro e w2 ⟨rfl, hb2⟩
          have HX2 := Lib.hid (HXB.out.trans (hb2.mono HXB.out.size))
          have HO2 := Lib.hid (HOB.out.below hb2 (Nat.le_refl _)).top
          clear hb2 d0 d1 d2 d3
          go_wp2
          go_roundw
          case rel => exact ⟨j + 1, A1, c1, by omega, by go_num, by rw [HS.out], by rw [HS.out]; exact HO2.out, HX2.out⟩
          case measure => simp [intOf]; omega
        · rw [hlk] at hK
          have HS := Lib.hid (show alikeE (l.take (j + 1)) s = sb ++ [x] from by rw [hst]; simp [likeE, hlk, hx])
          have HK := Lib.hid hK
          clear hst hK hlk hx
          go_wp2_with fail
          refine (HK.out _).mono ?_
          rintro e w2 ⟨rfl, hb2⟩
          have HX2 := Lib.hid (HXB.out.trans (hb2.mono HXB.out.size))
          have HO2 := Lib.hid (HOB.out.below hb2 (Nat.le_refl _)).top
          have x0 := (hb2.cell (p := ⟨wr.heap.size, 0, none⟩) HZL.out).trans HZB.out
          clear hb2 d0 d1 d2 d3
          go_wp2_with (at_builtin; refine wp_pushS (lo := w.heap.size) (z := x) rfl _ _ rfl rfl HO2.out rfl HG.out (by omega) HX2.out.size ?_; intro A4 c4 w4 hown4 hgr4)
          have HB4 := Lib.hid (HX2.out.trans (hgr4.below HX2.out.size HO2.out.ge))
          have HO4 := Lib.hid hown4
          clear hown4 hgr4 x0
          go_wp2
          go_roundw
          case rel => exact ⟨j + 1, A4, c4, by omega, by go_num, by rw [HS.out, List.length_append]; rfl, by rw [HS.out, List.length_append]; exact HO4.out, HB4.out⟩
          case measure => simp [intOf]; omega
    · obtain rfl : j = n := by omega
      rw [List.take_of_length_le (by rw [HL.out]; omega)] at HO1
      rw [List.take_of_length_le (by rw [HL.out]; omega)]
      go_wp2
      go_ret
      exact ⟨A1, c1, rfl, HO1.out, HX.out⟩
set_option maxHeartbeats 1000000 in
theorem iequalFunc_any (A A' : Option Addr) (n c n' c' : Nat) (l l' : List Entry) (w : World) (h : FRdEntry w w.heap.size A n l) (h' : FRdEntry w w.heap.size A' n' l') (hn : totR totEntry l ≤ 1099511627776) (hn' : totR totEntry l' ≤ 1099511627776) :
    Calls Try.prog 53 #[.slice A n c, .slice A' n' c', .func (.func 17) #[] #[]] w fun e w' => e = .returned (.bool (sameE l l')) ∧ Below w.heap.size w w' := by
  have HL := Lib.hid h.len
  have HL' := Lib.hid h'.len
  have hn2 : n ≤ 1099511627776 := by have := totR_len totEntry l; have := h.len; omega
  have hn3 : n' ≤ 1099511627776 := by have := totR_len totEntry l'; have := h'.len; omega
  have HT := Lib.hid (fun j (hj : j < n) => totR_mem totEntry (zs := l) (j := j) (by rw [h.len]; exact hj))
  have HT' := Lib.hid (fun j (hj : j < n') => totR_mem totEntry (zs := l') (j := j) (by rw [h'.len]; exact hj))
  have HN := Lib.hid hn
  have HN' := Lib.hid hn'
  by_cases hnn : n = n'
  · subst hnn
    have HR := Lib.hid h
    have HR' := Lib.hid h'
    clear h h' hn hn'
    go_enter Try.func53, Try.ntmps53
    go_wp2
    go_loopw [17] (fun i wr => ∃ j : Nat, j ≤ n ∧ i = .int .i64 j ∧ Below w.heap.size w wr ∧ ∀ k, k < j → eqEntryB (at0 l k) (at0 l' k) = true) (fun i _ => n - (intOf i).toNat)
    case atStart => exact ⟨0, by omega, rfl, Below.refl _ _, fun k hk => absurd hk (by omega)⟩
    case round =>
      obtain ⟨j, hj, rfl, hbel, hok⟩ := hrel
      have HX := Lib.hid hbel
      have HB := Lib.hid hok
      clear hbel hok
      by_cases hjn : j < n
      · obtain ⟨b, off, cs, rfl, hlt, hrd, hcc⟩ := (HR.out.below HX.out (Nat.le_refl _)).at hjn
        obtain ⟨b', off', cs', rfl, hlt', hrd', hcc'⟩ := (HR'.out.below HX.out (Nat.le_refl _)).at hjn
        have ht := HT.out j hjn
        have ht' := HT'.out j hjn
        obtain ⟨z, hz⟩ : ∃ z, z = at0 l j := ⟨_, rfl⟩
        obtain ⟨y, hy⟩ : ∃ y, y = at0 l' j := ⟨_, rfl⟩
        rw [show l.getD j default = z from hz.symm] at hrd ht
        rw [show l'.getD j default = y from hy.symm] at hrd' ht'
        obtain ⟨A3, n3, c3, rfl, -⟩ := REntry_rd.1 hrd
        obtain ⟨A4, n4, c4, rfl, -⟩ := REntry_rd.1 hrd'
        have d0 : wr.cell? ⟨b, off + j * 4, none⟩ = some (.string z.label) := hcc 0 (by decide)
        have d1 : wr.cell? ⟨b, off + j * 4 + 1, none⟩ = some (.int .i64 z.kind) := hcc 1 (by decide)
        have d2 : wr.cell? ⟨b, off + j * 4 + 2, none⟩ = some (.int .i64 z.value) := hcc 2 (by decide)
        have d3 : wr.cell? ⟨b, off + j * 4 + 3, none⟩ = some (.slice A3 n3 c3) := hcc 3 (by decide)
        have HA := Lib.hid ((Below.refl wr.heap.size wr).alloc (Nat.le_refl _) (.cells #[.string z.label, .int .i64 z.kind, .int .i64 z.value, .slice A3 n3 c3] 27))
        have hbw : b' < wr.heap.size := Nat.lt_of_lt_of_le hlt' HX.out.size
        have e0 : (wr.alloc (.cells #[.string z.label, .int .i64 z.kind, .int .i64 z.value, .slice A3 n3 c3] 27)).cell? ⟨b', off' + j * 4, none⟩ = some (.string y.label) := (HA.out.cell (p := ⟨b', off' + j * 4, none⟩) hbw).trans (hcc' 0 (by decide))
        have e1 : (wr.alloc (.cells #[.string z.label, .int .i64 z.kind, .int .i64 z.value, .slice A3 n3 c3] 27)).cell? ⟨b', off' + j * 4 + 1, none⟩ = some (.int .i64 y.kind) := (HA.out.cell (p := ⟨b', off' + j * 4 + 1, none⟩) hbw).trans (hcc' 1 (by decide))
        have e2 : (wr.alloc (.cells #[.string z.label, .int .i64 z.kind, .int .i64 z.value, .slice A3 n3 c3] 27)).cell? ⟨b', off' + j * 4 + 2, none⟩ = some (.int .i64 y.value) := (HA.out.cell (p := ⟨b', off' + j * 4 + 2, none⟩) hbw).trans (hcc' 2 (by decide))
        have e3 : (wr.alloc (.cells #[.string z.label, .int .i64 z.kind, .int .i64 z.value, .slice A3 n3 c3] 27)).cell? ⟨b', off' + j * 4 + 3, none⟩ = some (.slice A4 n4 c4) := (HA.out.cell (p := ⟨b', off' + j * 4 + 3, none⟩) hbw).trans (hcc' 3 (by decide))
        have HA2 := Lib.hid (HA.out.alloc HA.out.size (.cells #[.string y.label, .int .i64 y.kind, .int .i64 y.value, .slice A4 n4 c4] 27))
        have HX2 := Lib.hid (HX.out.trans (HA2.out.mono HX.out.size))
        have HZB := Lib.hid ((Box.new wr #[.string z.label, .int .i64 z.kind, .int .i64 z.value, .slice A3 n3 c3] 27).alloc (.cells #[.string y.label, .int .i64 y.kind, .int .i64 y.value, .slice A4 n4 c4] 27))
        have k0 := HZB.out.cell (j := 0) rfl
        have k1 := HZB.out.cell (j := 1) rfl
        have k2 := HZB.out.cell (j := 2) rfl
        have k3 := HZB.out.cell (j := 3) rfl
        have HYB := Lib.hid (Box.new (wr.alloc (.cells #[.string z.label, .int .i64 z.kind, .int .i64 z.value, .slice A3 n3 c3] 27)) #[.string y.label, .int .i64 y.kind, .int .i64 y.value, .slice A4 n4 c4] 27)
        have hK := iEqualEntries_any [.string z.label, .int .i64 z.kind, .int .i64 z.value, .slice A3 n3 c3] [.string y.label, .int .i64 y.kind, .int .i64 y.value, .slice A4 n4 c4] z y ((wr.alloc (.cells #[.string z.label, .int .i64 z.kind, .int .i64 z.value, .slice A3 n3 c3] 27)).alloc (.cells #[.string y.label, .int .i64 y.kind, .int .i64 y.value, .slice A4 n4 c4] 27)) (REntry.more (REntry.keep hrd fun i hi => HA2.out.block i (Nat.lt_of_lt_of_le hi HX.out.size)) fun i hi => Nat.lt_of_lt_of_le (Nat.lt_of_lt_of_le hi HX.out.size) HA2.out.size) (REntry.more (REntry.keep hrd' fun i hi => HA2.out.block i (Nat.lt_of_lt_of_le hi HX.out.size)) fun i hi => Nat.lt_of_lt_of_le (Nat.lt_of_lt_of_le hi HX.out.size) HA2.out.size) (by have := HN.out; omega) (by have := HN'.out; omega)
        have HZ := Lib.hid hz
        have HY := Lib.hid hy
        clear hcc hcc' hrd hrd' hz hy ht ht' hlt hlt' hbw
        obtain ⟨z0, z1, z2, z3⟩ := z
        obtain ⟨y0, y1, y2, y3⟩ := y
        simp only at d0 d1 d2 d3 e0 e1 e2 e3 hK k0 k1 k2 k3 HX2
        rcases hv : eqEntryB ⟨z0, z1, z2, z3⟩ ⟨y0, y1, y2, y3⟩ with _ | _
        · rw [hv] at hK
          have HF := Lib.hid (sameE_no (a := l) (b := l') (j := j) (by rw [HL.out]; exact hjn) (by rw [← HZ.out, ← HY.out]; exact hv))
          have HK := Lib.hid hK
          clear hK hv
          go_wp2_with fail
          refine HK.out.mono ?_
          rintro e w2 ⟨rfl, hb2⟩
          have HX3 := Lib.hid (HX2.out.trans (hb2.mono HX2.out.size))
          clear hb2 d0 d1 d2 d3 e0 e1 e2 e3 k0 k1 k2 k3
          go_wp2
          go_ret
          exact ⟨by rw [HF.out]; rfl, HX3.out⟩
        · rw [hv] at hK
          have HF := Lib.hid (show eqEntryB (at0 l j) (at0 l' j) = true from by rw [← HZ.out, ← HY.out]; exact hv)
          have HK := Lib.hid hK
          clear hK hv
          go_wp2_with fail
          refine HK.out.mono ?_
          rintro e w2 ⟨rfl, hb2⟩
          have HX3 := Lib.hid (HX2.out.trans (hb2.mono HX2.out.size))
          clear hb2 d0 d1 d2 d3 e0 e1 e2 e3 k0 k1 k2 k3
          go_wp2
          go_roundw
          case rel => exact ⟨j + 1, by omega, by go_num, HX3.out, fun k hk => by
            rcases Nat.lt_or_ge k j with h1 | h1
            · exact HB.out k h1
            · obtain rfl : k = j := by omega
              exact HF.out⟩
          case measure => simp [intOf]; omega
      · have HF := Lib.hid (sameE_all (by rw [HL.out, HL'.out]) fun k hk => HB.out k (by have := HL.out; omega))
        go_wp2
        go_ret
        exact ⟨by rw [HF.out]; rfl, HX.out⟩
  · have HF := Lib.hid (sameE_len (a := l) (b := l') (by rw [HL.out, HL'.out]; exact hnn))
    have hne : ¬ (n : Int) = n' := by omega
    clear h h' hn hn'
    go_enter Try.func53, Try.ntmps53
    go_wp2
    go_ret
    exact ⟨by rw [HF.out]; rfl, Below.refl _ _⟩
theorem iSameEntries_any (A A' : Option Addr) (n c n' c' : Nat) (l l' : List Entry) (w : World) (h : FRdEntry w w.heap.size A n l) (h' : FRdEntry w w.heap.size A' n' l') (hn : totR totEntry l ≤ 1099511627776) (hn' : totR totEntry l' ≤ 1099511627776) :
    Calls Try.prog 15 #[.slice A n c, .slice A' n' c'] w fun e w' => e = .returned (.bool (sameE l l')) ∧ Below w.heap.size w w' := by
  have HK := Lib.hid (iequalFunc_any A A' n c n' c' l l' w h h' hn hn')
  clear h h' hn hn'
  generalize sameE l l' = r at HK ⊢
  go_enter Try.func15, Try.ntmps15
  go_wp2_with fail
  refine HK.out.mono ?_
  rintro e w2 ⟨rfl, hb⟩
  have HB := Lib.hid hb
  clear hb
  go_wp2
  go_ret
  exact ⟨rfl, HB.out⟩
end Go.Proofs.Ytpjfmbcandgpeaa.C09I
