/- Chapter 14: the first head of a zone, the program's. -/
import Derived.Test.YthhmhcmlbpdlbaaGreatC14I
import Derived.Test.YthhmhcmlbpdlbaaGreatC14F
import Derived.Test.YthhmhcmlbpdlbaaGreatC09I
import Derived.Test.YthhmhcmlbpdlbaaGreatC10I
namespace Go.Proofs.YthhmhcmlbpdlbaaGreat.C14J
open Go.RowKit Mem MemS Rep RW R06 R08 R13 R14 Q08 M03 M05 M06 M07 M08 M09 M10 M13 M14 C01 C03S C03H C03D C06S C08S C09S C09SP C10S C13S C14S C14F C14I L13 BX RG RGS
open C13I (iIsHead_any)
open C09I (iAreEntries_any)
open C10I (iRootOf_any)
open RKA hiding inI64
set_option linter.unusedVariables false
set_option linter.unusedSimpArgs false
set_option maxRecDepth 100000
def fstU (q : Keys) (salt : Int) (l : List Entry) (now un : Int) : Head := ⟨zonOf q salt, 0, 1, now, un, (l.length : Int), rootOf l, salt, q, ⟨[], 0⟩, 0, ⟨[], 0⟩, false⟩
theorem isHd_term {h : Head} (hh : isHd h = true) : inR h.time 0 100000 = true ∧ inR h.until_ h.time 100000 = true ∧ h.until_ - h.time ≤ 200 := by
  unfold isHd at hh
  simp only [Bool.and_eq_true, decide_eq_true_eq] at hh
  exact ⟨hh.1.1.2.1.1.1.1, hh.1.1.2.1.1.1.2, hh.1.1.2.1.1.2⟩
theorem firstH_eq (q : Keys) (salt : Int) (l : List Entry) (now term : Int) (hn : In .i64 now) (ht : In .i64 term) :
    firstH q salt l now term = if (areE l && isHd (fstU q salt l now (IntKind.i64.wrap (now + term)))) = true then (fstU q salt l now (IntKind.i64.wrap (now + term)), true) else (zeroH, false) := by
  have hn2 : -9223372036854775808 ≤ now ∧ now ≤ 9223372036854775807 := hn
  have ht2 : -9223372036854775808 ≤ term ∧ term ≤ 9223372036854775807 := ht
  have hF : fstH q salt l now term = fstU q salt l now (now + term) := rfl
  by_cases h1 : isHd (fstU q salt l now (IntKind.i64.wrap (now + term))) = true
  · obtain ⟨a, b, c⟩ := isHd_term h1
    have a2 : 0 ≤ now ∧ now ≤ 100000 := by unfold inR fstU at a; simpa using a
    have b2 : now ≤ IntKind.i64.wrap (now + term) ∧ IntKind.i64.wrap (now + term) ≤ 100000 := by unfold inR fstU at b; simpa using b
    have c2 : IntKind.i64.wrap (now + term) - now ≤ 200 := c
    have hw : IntKind.i64.wrap (now + term) = now + term := by
      rw [IntKind.wrap_i64] at b2 c2 ⊢
      omega
    have hI : inR term 0 200 = true := by rw [hw] at b2 c2; unfold inR; simp; omega
    unfold firstH
    rw [hF, hw]
    rw [hw] at h1
    have hJ : inR now 0 100000 = true := a
    rw [h1, hI, hJ]
    simp only [Bool.and_true]
  · rw [if_neg (by rw [Bool.and_eq_true]; exact fun h => h1 h.2)]
    unfold firstH
    rw [if_neg]
    intro h
    simp only [Bool.and_eq_true] at h
    obtain ⟨_, g1, g2, g3⟩ := h
    have e1 : 0 ≤ now ∧ now ≤ 100000 := by unfold inR at g1; simpa using g1
    have e2 : 0 ≤ term ∧ term ≤ 200 := by unfold inR at g2; simpa using g2
    refine h1 ?_
    rw [show IntKind.i64.wrap (now + term) = now + term by rw [IntKind.wrap_i64]; omega]
    exact g3
theorem fst_ownU {w : World} {q : Keys} {salt now un r z : Int} {m : Nat} {A : Option Addr} {n c x y lo hi : Nat} (h : OwnI RKeys w x y [.slice A n c, .int .i64 q.need] q) (hi9 : In .i64 z ∧ In .i64 now ∧ In .i64 un ∧ In .i64 (m : Int) ∧ In .i64 r ∧ In .i64 salt) (d : lo ≤ x ∧ y ≤ hi) :
    OwnI RHead w lo hi [.int .i64 z, .int .i64 0, .int .i64 1, .int .i64 now, .int .i64 un, .int .i64 (m : Int), .int .i64 r, .int .i64 salt, .slice A n c, .int .i64 q.need, .slice none 0 0, .int .i64 0, .int .i64 0, .slice none 0 0, .int .i64 0, .bool false] ⟨z, 0, 1, now, un, (m : Int), r, salt, q, ⟨[], 0⟩, 0, ⟨[], 0⟩, false⟩ := by
  have e : now + (un - now) = un := by omega
  have g := fst_own (salt := salt) (now := now) (term := un - now) (r := r) (z := z) (m := m) (lo := lo) (hi := hi) h ⟨hi9.1, hi9.2.1, by rw [e]; exact hi9.2.2.1, hi9.2.2.2.1, hi9.2.2.2.2.1, hi9.2.2.2.2.2⟩ d
  rw [e] at g
  exact g
set_option maxHeartbeats 16000000 in
theorem iFirstHead_any (ks : List Value) (q : Keys) (salt : Int) (A : Option Addr) (n c : Nat) (l : List Entry) (now term : Int) (w : World) (hq : RKeys.rd w (Lt w.heap.size) ks q) (hs : In .i64 salt) (h : FRdEntry w w.heap.size A n l) (hnow : In .i64 now) (hterm : In .i64 term) (hn : totR totEntry l ≤ 1048576) (hm : totKeys q ≤ 1048576) :
    Calls Tryz.prog 7 #[.agg ks.toArray, .int .i64 salt, .slice A n c, .int .i64 now, .int .i64 term] w fun e w' => ∃ cs', e = .returned (.tuple #[.agg (List.toArray cs'), .bool (firstH q salt l now term).2]) ∧ OwnI RHead w' w.heap.size w'.heap.size cs' (firstH q salt l now term).1 ∧ Below w.heap.size w w' := by
  obtain ⟨qA, qn, qc, rfl, -⟩ := RKeys_rd.1 hq
  have hql : q.list.length ≤ 1048576 := hm
  have hln := h.len
  have htl := totR_len totEntry l
  have hnn : n ≤ 1048576 := by omega
  have hkr := keys_row hq
  have hqn := hkr.1.len
  have HQ := Lib.hid hq
  have HE := Lib.hid h
  have HKR := Lib.hid hkr.1
  have HKI := Lib.hid hkr.2
  have HS := Lib.hid hs
  have HNW := Lib.hid hnow
  have HLN := Lib.hid hln
  have HZI := Lib.hid (show In .i64 (zonOf q salt) from by have := hsh_range (239 :: salt :: keysInts q); unfold zonOf; exact inI64 (by omega) (by omega))
  have HRI := Lib.hid (show In .i64 (rootOf l) from by have := rootOf_in l; exact inI64 (by omega) (by omega))
  have HAE := Lib.hid (fun w1 (hb : Below w.heap.size w w1) => iAreEntries_any A n c l w1 ((HE.out.below hb (Nat.le_refl _)).more hb.size) (by omega))
  have HRO := Lib.hid (fun w1 (hb : Below w.heap.size w w1) => iRootOf_any A n c l w1 ((HE.out.below hb (Nat.le_refl _)).more hb.size) hn)
  have HZO := Lib.hid (fun w1 (hb : Below w.heap.size w w1) => iZoneOf_any _ q salt w1 (upK HQ.out hb) HS.out (by omega))
  obtain ⟨P, hP⟩ : ∃ P, firstH q salt l now term = P := ⟨_, rfl⟩
  rw [hP]
  rw [firstH_eq q salt l now term hnow hterm] at hP
  have HUI := Lib.hid (show In .i64 (IntKind.i64.wrap (now + term)) from by rw [IntKind.wrap_i64]; exact inI64 (by omega) (by omega))
  obtain ⟨un, hun⟩ : ∃ un, IntKind.i64.wrap (now + term) = un := ⟨_, rfl⟩
  rw [hun] at hP HUI
  have HP := Lib.hid hP
  obtain ⟨b1, hb1⟩ : ∃ b, areE l = b := ⟨_, rfl⟩
  rw [hb1] at HAE HP
  clear hq h hs hnow hterm hln hkr hP hb1
  obtain ⟨V, hV⟩ : ∃ V, V = (w.alloc (.cells #[.slice qA qn qc, .int .i64 q.need] 26)).alloc (.cells #[.int .i64 0, .int .i64 0, .int .i64 0, .int .i64 0, .int .i64 0, .int .i64 0, .int .i64 0, .int .i64 0, .slice none 0 0, .int .i64 0, .slice none 0 0, .int .i64 0, .int .i64 0, .slice none 0 0, .int .i64 0, .bool false] 31) := ⟨_, rfl⟩
  have HB_1 := Lib.hid (show Below w.heap.size w V from by
    rw [hV]
    exact ((Below.refl _ _).alloc (by first | (simp; done) | (simp; omega)) _).alloc (by first | (simp; done) | (simp; omega)) _)
  have HX_1 := Lib.hid (show Box V (w.heap.size) [.slice qA qn qc, .int .i64 q.need] from by
    rw [hV]
    have := ((Box.new w #[.slice qA qn qc, .int .i64 q.need] 26).alloc (.cells #[.int .i64 0, .int .i64 0, .int .i64 0, .int .i64 0, .int .i64 0, .int .i64 0, .int .i64 0, .int .i64 0, .slice none 0 0, .int .i64 0, .slice none 0 0, .int .i64 0, .int .i64 0, .slice none 0 0, .int .i64 0, .bool false] 31))
    simpa using this)
  have HR_1 := Lib.hid (show Box V (w.heap.size + 1) [.int .i64 0, .int .i64 0, .int .i64 0, .int .i64 0, .int .i64 0, .int .i64 0, .int .i64 0, .int .i64 0, .slice none 0 0, .int .i64 0, .slice none 0 0, .int .i64 0, .int .i64 0, .slice none 0 0, .int .i64 0, .bool false] from by
    rw [hV]
    have := (Box.new (w.alloc (.cells #[.slice qA qn qc, .int .i64 q.need] 26)) #[.int .i64 0, .int .i64 0, .int .i64 0, .int .i64 0, .int .i64 0, .int .i64 0, .int .i64 0, .int .i64 0, .slice none 0 0, .int .i64 0, .slice none 0 0, .int .i64 0, .int .i64 0, .slice none 0 0, .int .i64 0, .bool false] 31)
    simpa using this)
  have HV := Lib.hid hV
  have hsV : w.heap.size + 2 ≤ V.heap.size ∧ V.heap.size ≤ w.heap.size + 2 := by rw [hV]; simp
  clear hV
  go_enter Tryz.func7, Tryz.ntmps7
  go_wp2_with fail
  rw [show (w.alloc (.cells #[.slice qA qn qc, .int .i64 q.need] 26)).alloc (.cells #[.int .i64 0, .int .i64 0, .int .i64 0, .int .i64 0, .int .i64 0, .int .i64 0, .int .i64 0, .int .i64 0, .slice none 0 0, .int .i64 0, .slice none 0 0, .int .i64 0, .int .i64 0, .slice none 0 0, .int .i64 0, .bool false] 31) = V from HV.out.symm]
  refine (HAE.out _ HB_1.out).mono ?_
  rintro e W1 ⟨rfl, hb⟩
  have HB_2 := Lib.hid (HB_1.out.trans (hb.mono HB_1.out.size))
  have HX_2 := Lib.hid (HX_1.out.below hb HX_1.out.lt)
  have HR_2 := Lib.hid (HR_1.out.below hb HR_1.out.lt)
  clear hb
  have hsW1 := HR_2.out.lt
  rcases b1 with _ | _
  · skip
    obtain ⟨VZ, hVZ⟩ : ∃ u9, puts W1 (w.heap.size + 1) 0 [.int .i64 0, .int .i64 0, .int .i64 0, .int .i64 0, .int .i64 0, .int .i64 0, .int .i64 0, .int .i64 0, .slice none 0 0, .int .i64 0, .slice none 0 0, .int .i64 0, .int .i64 0, .slice none 0 0, .int .i64 0, .bool false] = u9 := ⟨_, rfl⟩
    have HB_3 := Lib.hid (pt_bel hVZ HB_2.out (show w.heap.size ≤ (w.heap.size + 1) by omega))
    have HX_3 := Lib.hid (pt_box hVZ HX_2.out (show (w.heap.size) ≠ (w.heap.size + 1) by omega))
    have HR_3 := Lib.hid (show Box VZ (w.heap.size + 1) [.int .i64 0, .int .i64 0, .int .i64 0, .int .i64 0, .int .i64 0, .int .i64 0, .int .i64 0, .int .i64 0, .slice none 0 0, .int .i64 0, .slice none 0 0, .int .i64 0, .int .i64 0, .slice none 0 0, .int .i64 0, .bool false] from (show Box VZ (w.heap.size + 1) ([] ++ [.int .i64 0, .int .i64 0, .int .i64 0, .int .i64 0, .int .i64 0, .int .i64 0, .int .i64 0, .int .i64 0, .slice none 0 0, .int .i64 0, .slice none 0 0, .int .i64 0, .int .i64 0, .slice none 0 0, .int .i64 0, .bool false] ++ []) from pt_mid hVZ (show Box W1 (w.heap.size + 1) ([] ++ [.int .i64 0, .int .i64 0, .int .i64 0, .int .i64 0, .int .i64 0, .int .i64 0, .int .i64 0, .int .i64 0, .slice none 0 0, .int .i64 0, .slice none 0 0, .int .i64 0, .int .i64 0, .slice none 0 0, .int .i64 0, .bool false] ++ []) from HR_2.out) rfl rfl))
    have HVZ := Lib.hid hVZ
    clear hVZ
    go_wp2_with (refine LD.wp_stV LD.big_Head rfl _ _ rfl rfl rfl HR_2.out rfl (by decide) rfl HVZ.out ?_)
    refine bodyPost_ret (v := .tuple #[.agg #[.int .i64 0, .int .i64 0, .int .i64 0, .int .i64 0, .int .i64 0, .int .i64 0, .int .i64 0, .int .i64 0, .slice none 0 0, .int .i64 0, .slice none 0 0, .int .i64 0, .int .i64 0, .slice none 0 0, .int .i64 0, .bool false], .bool false]) (LD.res_cell_tmp LD.big_Head Tryz.results7 rfl rfl HR_3.out rfl) rfl ⟨[.int .i64 0, .int .i64 0, .int .i64 0, .int .i64 0, .int .i64 0, .int .i64 0, .int .i64 0, .int .i64 0, .slice none 0 0, .int .i64 0, .slice none 0 0, .int .i64 0, .int .i64 0, .slice none 0 0, .int .i64 0, .bool false], by rw [← HP.out]; simp, by rw [← HP.out]; simp only [Bool.and_false, Bool.false_and, Bool.true_and, Bool.false_eq_true, if_false]; exact zero_ownH _ _ _, HB_3.out⟩
  · skip
    go_wp2_with fail
    refine OS.rest_first (fun a0 a v => ∃ (gY : Nat) (D0 : Option Addr) (e0 xl xh : Nat) (vv17 vv18 vv19 vv20 vv21 vv22 vv23 vv24 vv25 vv26 vv27 vv28 vv29 vv30 vv31 : Value), a = ((((((((((((((((a0.put (some 17) vv17).put (some 18) vv18).put (some 19) vv19).put (some 20) vv20).put (some 21) vv21).put (some 22) vv22).put (some 23) vv23).put (some 24) vv24).put (some 25) vv25).put (some 26) vv26).put (some 27) vv27).put (some 28) vv28).put (some 29) vv29).put (some 30) vv30).put (some 31) vv31).put (some 12) (.pointer (some ⟨gY, 0, none⟩))) ∧ Below w.heap.size w v ∧ Box v (w.heap.size) [.slice qA qn qc, .int .i64 q.need] ∧ Box v (w.heap.size + 1) [.int .i64 0, .int .i64 0, .int .i64 0, .int .i64 0, .int .i64 0, .int .i64 0, .int .i64 0, .int .i64 0, .slice none 0 0, .int .i64 0, .slice none 0 0, .int .i64 0, .int .i64 0, .slice none 0 0, .int .i64 0, .bool false] ∧ Box v gY [.int .i64 (zonOf q salt), .int .i64 0, .int .i64 1, .int .i64 now, .int .i64 un, .int .i64 (n : Int), .int .i64 (rootOf l), .int .i64 salt, .slice D0 qn e0, .int .i64 q.need, .slice none 0 0, .int .i64 0, .int .i64 0, .slice none 0 0, .int .i64 0, .bool false] ∧ (OwnI RKeys v xl xh [.slice D0 qn e0, .int .i64 q.need] q ∧ xh ≤ v.heap.size ∧ (w.heap.size + 2) ≤ xl) ∧ w.heap.size + 2 ≤ gY) ?_ ?_
    · skip
      rintro a9 VF ⟨gY, D0, e0, xl, xh, vv17, vv18, vv19, vv20, vv21, vv22, vv23, vv24, vv25, vv26, vv27, vv28, vv29, vv30, vv31, rfl, hB9, hX9, hR9, hY9, hP9, hgY⟩
      simp only [Act.put, List.setIfInBounds_toArray, List.set_cons_succ, List.set_cons_zero]
      rename_i K9 hK9
      refine hK9 _ _ ?_
      have HB_50 := Lib.hid hB9
      have HX_50 := Lib.hid hX9
      have HR_50 := Lib.hid hR9
      have HY_50 := Lib.hid hY9
      have HP_50 := Lib.hid hP9
      have hxl := hP9.2.2
      have hxh := hP9.2.1
      clear hB9 hX9 hR9 hY9 hP9
      have HO := Lib.hid (fst_ownU (salt := salt) (now := now) (un := un) (r := rootOf l) (z := zonOf q salt) (m := n) (lo := w.heap.size + 2) (hi := VF.heap.size) HP_50.out.1 ⟨HZI.out, HNW.out, HUI.out, inI64 (by omega) (by omega), HRI.out, HS.out⟩ ⟨HP_50.out.2.2, HP_50.out.2.1⟩)
      have HIH := Lib.hid (iIsHead_any [.int .i64 (zonOf q salt), .int .i64 0, .int .i64 1, .int .i64 now, .int .i64 un, .int .i64 (n : Int), .int .i64 (rootOf l), .int .i64 salt, .slice D0 qn e0, .int .i64 q.need, .slice none 0 0, .int .i64 0, .int .i64 0, .slice none 0 0, .int .i64 0, .bool false] (fstU q salt l now un) VF (by unfold fstU; rw [HLN.out]; exact RHead.more HO.out.rd fun i hi => hi) (by unfold totHead totKeys fstU; simp only [List.length_nil]; omega))
      obtain ⟨b4, hb4⟩ : ∃ b, isHd (fstU q salt l now un) = b := ⟨_, rfl⟩
      rw [hb4] at HIH HP
      clear hb4
      go_wp2_with (refine LD.wp_ld LD.big_Head rfl _ rfl rfl HY_50.out rfl ?_)
      refine HIH.out.mono ?_
      rintro e WE ⟨rfl, hb⟩
      have HB_51 := Lib.hid (HB_50.out.trans (hb.mono HB_50.out.size))
      have HX_51 := Lib.hid (HX_50.out.below hb HX_50.out.lt)
      have HR_51 := Lib.hid (HR_50.out.below hb HR_50.out.lt)
      have HY_51 := Lib.hid (HY_50.out.below hb HY_50.out.lt)
      have HP_51 := Lib.hid (show OwnI RKeys WE (xl) (xh) [.slice D0 qn e0, .int .i64 q.need] q ∧ (xh) ≤ WE.heap.size ∧ (w.heap.size + 2) ≤ (xl) from ⟨HP_50.out.1.below hb HP_50.out.2.1, Nat.le_trans HP_50.out.2.1 hb.size, HP_50.out.2.2⟩)
      have HO2 := Lib.hid ((HO.out.below hb (Nat.le_refl _)).wide (Nat.le_refl _) hb.size)
      have hsWE := hb.size
      clear hb
      rcases b4 with _ | _
      · skip
        obtain ⟨VZ, hVZ⟩ : ∃ u9, puts WE (w.heap.size + 1) 0 [.int .i64 0, .int .i64 0, .int .i64 0, .int .i64 0, .int .i64 0, .int .i64 0, .int .i64 0, .int .i64 0, .slice none 0 0, .int .i64 0, .slice none 0 0, .int .i64 0, .int .i64 0, .slice none 0 0, .int .i64 0, .bool false] = u9 := ⟨_, rfl⟩
        have HB_52 := Lib.hid (pt_bel hVZ HB_51.out (show w.heap.size ≤ (w.heap.size + 1) by omega))
        have HX_52 := Lib.hid (pt_box hVZ HX_51.out (show (w.heap.size) ≠ (w.heap.size + 1) by omega))
        have HR_52 := Lib.hid (show Box VZ (w.heap.size + 1) [.int .i64 0, .int .i64 0, .int .i64 0, .int .i64 0, .int .i64 0, .int .i64 0, .int .i64 0, .int .i64 0, .slice none 0 0, .int .i64 0, .slice none 0 0, .int .i64 0, .int .i64 0, .slice none 0 0, .int .i64 0, .bool false] from (show Box VZ (w.heap.size + 1) ([] ++ [.int .i64 0, .int .i64 0, .int .i64 0, .int .i64 0, .int .i64 0, .int .i64 0, .int .i64 0, .int .i64 0, .slice none 0 0, .int .i64 0, .slice none 0 0, .int .i64 0, .int .i64 0, .slice none 0 0, .int .i64 0, .bool false] ++ []) from pt_mid hVZ (show Box WE (w.heap.size + 1) ([] ++ [.int .i64 0, .int .i64 0, .int .i64 0, .int .i64 0, .int .i64 0, .int .i64 0, .int .i64 0, .int .i64 0, .slice none 0 0, .int .i64 0, .slice none 0 0, .int .i64 0, .int .i64 0, .slice none 0 0, .int .i64 0, .bool false] ++ []) from HR_51.out) rfl rfl))
        have HY_52 := Lib.hid (pt_box hVZ HY_51.out (show (gY) ≠ (w.heap.size + 1) by omega))
        have HVZ := Lib.hid hVZ
        clear hVZ
        have HP_52 := Lib.hid (show OwnI RKeys VZ (xl) (xh) [.slice D0 qn e0, .int .i64 q.need] q ∧ (xh) ≤ VZ.heap.size ∧ (w.heap.size + 2) ≤ (xl) from ⟨HP_51.out.1.keep fun i _ h1 h2 => by rw [← HVZ.out]; exact puts_keep (by omega) _ _, by rw [← HVZ.out, puts_size]; exact HP_51.out.2.1, HP_51.out.2.2⟩)
        go_wp2_with (refine LD.wp_stV LD.big_Head rfl _ _ rfl rfl rfl HR_51.out rfl (by decide) rfl HVZ.out ?_)
        refine bodyPost_ret (v := .tuple #[.agg #[.int .i64 0, .int .i64 0, .int .i64 0, .int .i64 0, .int .i64 0, .int .i64 0, .int .i64 0, .int .i64 0, .slice none 0 0, .int .i64 0, .slice none 0 0, .int .i64 0, .int .i64 0, .slice none 0 0, .int .i64 0, .bool false], .bool false]) (LD.res_cell_tmp LD.big_Head Tryz.results7 rfl rfl HR_52.out rfl) rfl ⟨[.int .i64 0, .int .i64 0, .int .i64 0, .int .i64 0, .int .i64 0, .int .i64 0, .int .i64 0, .int .i64 0, .slice none 0 0, .int .i64 0, .slice none 0 0, .int .i64 0, .int .i64 0, .slice none 0 0, .int .i64 0, .bool false], by rw [← HP.out]; simp, by rw [← HP.out]; simp only [Bool.and_false, Bool.false_and, Bool.true_and, Bool.false_eq_true, if_false]; exact zero_ownH _ _ _, HB_52.out⟩
      · skip
        obtain ⟨VR, hVR⟩ : ∃ u9, puts WE (w.heap.size + 1) 0 [.int .i64 (zonOf q salt), .int .i64 0, .int .i64 1, .int .i64 now, .int .i64 un, .int .i64 (n : Int), .int .i64 (rootOf l), .int .i64 salt, .slice D0 qn e0, .int .i64 q.need, .slice none 0 0, .int .i64 0, .int .i64 0, .slice none 0 0, .int .i64 0, .bool false] = u9 := ⟨_, rfl⟩
        have HB_52 := Lib.hid (pt_bel hVR HB_51.out (show w.heap.size ≤ (w.heap.size + 1) by omega))
        have HX_52 := Lib.hid (pt_box hVR HX_51.out (show (w.heap.size) ≠ (w.heap.size + 1) by omega))
        have HR_52 := Lib.hid (show Box VR (w.heap.size + 1) [.int .i64 (zonOf q salt), .int .i64 0, .int .i64 1, .int .i64 now, .int .i64 un, .int .i64 (n : Int), .int .i64 (rootOf l), .int .i64 salt, .slice D0 qn e0, .int .i64 q.need, .slice none 0 0, .int .i64 0, .int .i64 0, .slice none 0 0, .int .i64 0, .bool false] from (show Box VR (w.heap.size + 1) ([] ++ [.int .i64 (zonOf q salt), .int .i64 0, .int .i64 1, .int .i64 now, .int .i64 un, .int .i64 (n : Int), .int .i64 (rootOf l), .int .i64 salt, .slice D0 qn e0, .int .i64 q.need, .slice none 0 0, .int .i64 0, .int .i64 0, .slice none 0 0, .int .i64 0, .bool false] ++ []) from pt_mid hVR (show Box WE (w.heap.size + 1) ([] ++ [.int .i64 0, .int .i64 0, .int .i64 0, .int .i64 0, .int .i64 0, .int .i64 0, .int .i64 0, .int .i64 0, .slice none 0 0, .int .i64 0, .slice none 0 0, .int .i64 0, .int .i64 0, .slice none 0 0, .int .i64 0, .bool false] ++ []) from HR_51.out) rfl rfl))
        have HY_52 := Lib.hid (pt_box hVR HY_51.out (show (gY) ≠ (w.heap.size + 1) by omega))
        have HVR := Lib.hid hVR
        clear hVR
        go_wp2_with (first | (refine LD.wp_ld LD.big_Head rfl _ rfl rfl HY_51.out rfl ?_) | (refine LD.wp_stV LD.big_Head rfl _ _ rfl rfl rfl HR_51.out rfl (by decide) rfl HVR.out ?_))
        refine bodyPost_ret (v := .tuple #[.agg #[.int .i64 (zonOf q salt), .int .i64 0, .int .i64 1, .int .i64 now, .int .i64 un, .int .i64 (n : Int), .int .i64 (rootOf l), .int .i64 salt, .slice D0 qn e0, .int .i64 q.need, .slice none 0 0, .int .i64 0, .int .i64 0, .slice none 0 0, .int .i64 0, .bool false], .bool true]) (LD.res_cell_tmp LD.big_Head Tryz.results7 rfl rfl HR_52.out rfl) rfl ⟨[.int .i64 (zonOf q salt), .int .i64 0, .int .i64 1, .int .i64 now, .int .i64 un, .int .i64 (n : Int), .int .i64 (rootOf l), .int .i64 salt, .slice D0 qn e0, .int .i64 q.need, .slice none 0 0, .int .i64 0, .int .i64 0, .slice none 0 0, .int .i64 0, .bool false], by rw [← HP.out]; simp, ?_, HB_52.out⟩
        rw [← HP.out]
        simp only [Bool.and_self, if_true]
        unfold fstU
        rw [HLN.out]
        refine (HO2.out.keep (w' := VR) fun i _ h1 _ => by rw [← HVR.out]; exact puts_keep (by omega) _ _).wide (by omega) ?_
        rw [← HVR.out]
        exact Nat.le_of_eq (puts_size _ _).symm
    · intro J9 HJ9
      refine wp_region_held (S := (fun w9 => w9.rangeAt (w.heap.size) 0 [.slice qA qn qc, .int .i64 q.need])) (by kernel_rfl) ?_
      change wpAnyH _ _ _ _ _ _ _ _ (World.drew _)
      have hdr : Below W1.heap.size W1 W1.drew := (Below.refl _ _).drew
      have HB_3 := Lib.hid (HB_2.out.trans (hdr.mono HB_2.out.size))
      have HX_3 := Lib.hid (HX_2.out.below hdr HX_2.out.lt)
      have HR_3 := Lib.hid (HR_2.out.below hdr HR_2.out.lt)
      clear hdr
      have hsd : W1.drew.heap.size = W1.heap.size := rfl
      refine wpAnyH_take (i := 0) rfl (by kernel_rfl) (by kernel_rfl) (by kernel_rfl) (fun _ _ _ h => absurd h.1 (by simp)) (LD.yl LD.big_Keys (by rfl) _ rfl rfl (fun w9 h9 => h9) rfl) (LD.box_range HX_3.out) ?_
      simp only [Act.put, List.getElem_toArray, List.getElem_cons_zero, List.getElem_cons_succ, List.setIfInBounds_toArray, List.set_cons_succ, List.set_cons_zero]
      refine wpAnyH_take (i := 1) (v := .int .i64 salt) rfl (by kernel_rfl) (by kernel_rfl) (by kernel_rfl) (fun _ _ _ h => absurd h.1 (by simp)) (Or.inl ⟨by rfl, fun w h => ?_⟩) (LD.box_range HX_3.out) ?_
      · clear h
        go_simp
      simp only [Act.put, List.getElem_toArray, List.getElem_cons_zero, List.getElem_cons_succ, List.setIfInBounds_toArray, List.set_cons_succ, List.set_cons_zero]
      refine wpAnyH_take (i := 3) (v := .int .i64 now) rfl (by kernel_rfl) (by kernel_rfl) (by kernel_rfl) (fun _ _ _ h => absurd h.1 (by simp)) (Or.inl ⟨by rfl, fun w h => ?_⟩) (LD.box_range HX_3.out) ?_
      · clear h
        go_simp
      simp only [Act.put, List.getElem_toArray, List.getElem_cons_zero, List.getElem_cons_succ, List.setIfInBounds_toArray, List.set_cons_succ, List.set_cons_zero]
      refine wpAnyH_take (i := 4) (v := .int .i64 now) rfl (by kernel_rfl) (by kernel_rfl) (by kernel_rfl) (fun _ _ _ h => absurd h.1 (by simp)) (Or.inl ⟨by rfl, fun w h => ?_⟩) (LD.box_range HX_3.out) ?_
      · clear h
        go_simp
      simp only [Act.put, List.getElem_toArray, List.getElem_cons_zero, List.getElem_cons_succ, List.setIfInBounds_toArray, List.set_cons_succ, List.set_cons_zero]
      refine wpAnyH_take (i := 5) (v := .int .i64 term) rfl (by kernel_rfl) (by kernel_rfl) (by kernel_rfl) (fun _ _ _ h => absurd h.1 (by simp)) (Or.inl ⟨by rfl, fun w h => ?_⟩) (LD.box_range HX_3.out) ?_
      · clear h
        go_simp
      simp only [Act.put, List.getElem_toArray, List.getElem_cons_zero, List.getElem_cons_succ, List.setIfInBounds_toArray, List.set_cons_succ, List.set_cons_zero]
      refine wpAnyH_take (i := 6) (v := .int .i64 un) rfl (by kernel_rfl) (by kernel_rfl) (by kernel_rfl) (fun _ _ _ h => absurd h.1 (by simp)) (Or.inl ⟨by rfl, fun w h => ?_⟩) (LD.box_range HX_3.out) ?_
      · clear h
        go_simp
      simp only [Act.put, List.getElem_toArray, List.getElem_cons_zero, List.getElem_cons_succ, List.setIfInBounds_toArray, List.set_cons_succ, List.set_cons_zero]
      refine wpAnyH_take (i := 7) (v := .slice A n c) rfl (by kernel_rfl) (by kernel_rfl) (by kernel_rfl) (fun _ _ _ h => absurd h.1 (by simp)) (Or.inl ⟨by rfl, fun w h => ?_⟩) (LD.box_range HX_3.out) ?_
      · clear h
        go_simp
      simp only [Act.put, List.getElem_toArray, List.getElem_cons_zero, List.getElem_cons_succ, List.setIfInBounds_toArray, List.set_cons_succ, List.set_cons_zero]
      refine wpAnyH_take (i := 8) (v := .int .i64 (n : Int)) rfl (by kernel_rfl) (by kernel_rfl) (by kernel_rfl) (fun _ _ _ h => absurd h.1 (by simp)) (Or.inl ⟨by rfl, fun w h => ?_⟩) (LD.box_range HX_3.out) ?_
      · clear h
        go_simp
      simp only [Act.put, List.getElem_toArray, List.getElem_cons_zero, List.getElem_cons_succ, List.setIfInBounds_toArray, List.set_cons_succ, List.set_cons_zero]
      refine wpAnyH_take (i := 9) (v := .slice A n c) rfl (by kernel_rfl) (by kernel_rfl) (by kernel_rfl) (fun _ _ _ h => absurd h.1 (by simp)) (Or.inl ⟨by rfl, fun w h => ?_⟩) (LD.box_range HX_3.out) ?_
      · clear h
        go_simp
      simp only [Act.put, List.getElem_toArray, List.getElem_cons_zero, List.getElem_cons_succ, List.setIfInBounds_toArray, List.set_cons_succ, List.set_cons_zero]
      refine wpAnyH_take (i := 11) (v := .int .i64 salt) rfl (by kernel_rfl) (by kernel_rfl) (by kernel_rfl) (fun _ _ _ h => absurd h.1 (by simp)) (Or.inl ⟨by rfl, fun w h => ?_⟩) (LD.box_range HX_3.out) ?_
      · clear h
        go_simp
      simp only [Act.put, List.getElem_toArray, List.getElem_cons_zero, List.getElem_cons_succ, List.setIfInBounds_toArray, List.set_cons_succ, List.set_cons_zero]
      refine wpAnyH_take (i := 12) rfl (by kernel_rfl) (by kernel_rfl) (by kernel_rfl) (fun _ _ _ h => absurd h.1 (by simp)) (LD.yl LD.big_Keys (by rfl) _ rfl rfl (fun w9 h9 => h9) rfl) (LD.box_range HX_3.out) ?_
      simp only [Act.put, List.getElem_toArray, List.getElem_cons_zero, List.getElem_cons_succ, List.setIfInBounds_toArray, List.set_cons_succ, List.set_cons_zero]
      refine wpAnyH_ready (rs := [2, 15]) (by kernel_rfl) (by simp) ?_
      refine AllReadyH.cons rfl (fun K hK => ?_) ?_
      · refine RGS.free rfl ?_
        try simp only [List.getElem_toArray, List.getElem_cons_zero, List.getElem_cons_succ]
        go_simp
        go_at_call 13
        refine (HZO.out _ HB_3.out).mono ?_
        rintro e WZoneOf ⟨rfl, hb⟩
        have HB_4 := Lib.hid (HB_3.out.trans (hb.mono HB_3.out.size))
        have HX_4 := Lib.hid (HX_3.out.below hb HX_3.out.lt)
        have HR_4 := Lib.hid (HR_3.out.below hb HR_3.out.lt)
        have hsWZoneOf := hb.size
        clear hb
        go_simp
        refine hK.out _ _ (LD.box_range HX_4.out) (fun _ => ?_)
        clear hK K
        refine wpAnyH_ready (rs := [10, 15]) (by kernel_rfl) (by simp) ?_
        refine AllReadyH.cons rfl (fun K hK => ?_) ?_
        · refine RGS.free rfl ?_
          try simp only [List.getElem_toArray, List.getElem_cons_zero, List.getElem_cons_succ]
          go_simp
          go_at_call 35
          refine (HRO.out _ HB_4.out).mono ?_
          rintro e WRootOf ⟨rfl, hb⟩
          have HB_5 := Lib.hid (HB_4.out.trans (hb.mono HB_4.out.size))
          have HX_5 := Lib.hid (HX_4.out.below hb HX_4.out.lt)
          have HR_5 := Lib.hid (HR_4.out.below hb HR_4.out.lt)
          have hsWRootOf := hb.size
          clear hb
          go_simp
          refine hK.out _ _ (LD.box_range HX_5.out) (fun _ => ?_)
          clear hK K
          refine wpAnyH_ready (rs := [13, 15]) (by kernel_rfl) (by simp) ?_
          refine AllReadyH.cons rfl (fun K hK => ?_) ?_
          · refine RGS.free rfl ?_
            try simp only [List.getElem_toArray, List.getElem_cons_zero, List.getElem_cons_succ]
            go_simp
            go_at_call 36
            refine (icopyKeys_any _ qA qn qc q.list q.need ((HKR.out.below HB_5.out (Nat.le_refl _)).more HB_5.out.size) (by omega)).mono ?_
            rintro e WcopyKeys ⟨D0, e0, rfl, ho, hb⟩
            have HB_6 := Lib.hid (HB_5.out.trans (hb.mono HB_5.out.size))
            have HX_6 := Lib.hid (HX_5.out.below hb HX_5.out.lt)
            have HR_6 := Lib.hid (HR_5.out.below hb HR_5.out.lt)
            have hsWcopyKeys := hb.size
            have HP_6 := Lib.hid (show OwnI RKeys WcopyKeys (WRootOf.heap.size) (WcopyKeys.heap.size) [.slice D0 qn e0, .int .i64 q.need] q ∧ (WcopyKeys.heap.size) ≤ WcopyKeys.heap.size ∧ (w.heap.size + 2) ≤ (WRootOf.heap.size) from ⟨RKeys_own.2 ⟨D0, qn, e0, rfl, ho, HKI.out⟩, Nat.le_refl _, by omega⟩)
            clear ho
            clear hb
            go_simp
            refine hK.out _ _ (LD.box_range HX_6.out) (fun _ => ?_)
            clear hK K
            refine wpAnyH_ready (rs := [14, 15]) (by kernel_rfl) (by simp) ?_
            refine AllReadyH.cons rfl (fun K hK => ?_) ?_
            · refine RGS.free rfl ?_
              try simp only [List.getElem_toArray, List.getElem_cons_zero, List.getElem_cons_succ]
              go_simp
              refine hK.out _ _ (LD.box_range HX_6.out) (fun _ => ?_)
              clear hK K
              refine wpAnyH_ready (rs := [15]) (by kernel_rfl) (by simp) ?_
              refine AllReadyH.cons rfl (fun K hK => ?_) ?_
              · refine RGS.free rfl ?_
                try simp only [List.getElem_toArray, List.getElem_cons_zero, List.getElem_cons_succ]
                go_simp
                have hal : Below WcopyKeys.heap.size WcopyKeys (WcopyKeys.alloc (.cells #[.int .i64 0, .int .i64 0, .int .i64 0, .int .i64 0, .int .i64 0, .int .i64 0, .int .i64 0, .int .i64 0, .slice none 0 0, .int .i64 0, .slice none 0 0, .int .i64 0, .int .i64 0, .slice none 0 0, .int .i64 0, .bool false] 31)) := (Below.refl _ _).alloc (Nat.le_refl _) _
                have HB_7 := Lib.hid (HB_6.out.trans (hal.mono HB_6.out.size))
                have HX_7 := Lib.hid (HX_6.out.below hal HX_6.out.lt)
                have HR_7 := Lib.hid (HR_6.out.below hal HR_6.out.lt)
                have HP_7 := Lib.hid (show OwnI RKeys (WcopyKeys.alloc (.cells #[.int .i64 0, .int .i64 0, .int .i64 0, .int .i64 0, .int .i64 0, .int .i64 0, .int .i64 0, .int .i64 0, .slice none 0 0, .int .i64 0, .slice none 0 0, .int .i64 0, .int .i64 0, .slice none 0 0, .int .i64 0, .bool false] 31)) (WRootOf.heap.size) (WcopyKeys.heap.size) [.slice D0 qn e0, .int .i64 q.need] q ∧ (WcopyKeys.heap.size) ≤ (WcopyKeys.alloc (.cells #[.int .i64 0, .int .i64 0, .int .i64 0, .int .i64 0, .int .i64 0, .int .i64 0, .int .i64 0, .int .i64 0, .slice none 0 0, .int .i64 0, .slice none 0 0, .int .i64 0, .int .i64 0, .slice none 0 0, .int .i64 0, .bool false] 31)).heap.size ∧ (w.heap.size + 2) ≤ (WRootOf.heap.size) from ⟨HP_6.out.1.below hal HP_6.out.2.1, Nat.le_trans HP_6.out.2.1 hal.size, HP_6.out.2.2⟩)
                have HY_7 := Lib.hid (show Box (WcopyKeys.alloc (.cells #[.int .i64 0, .int .i64 0, .int .i64 0, .int .i64 0, .int .i64 0, .int .i64 0, .int .i64 0, .int .i64 0, .slice none 0 0, .int .i64 0, .slice none 0 0, .int .i64 0, .int .i64 0, .slice none 0 0, .int .i64 0, .bool false] 31)) (WcopyKeys.heap.size) [.int .i64 0, .int .i64 0, .int .i64 0, .int .i64 0, .int .i64 0, .int .i64 0, .int .i64 0, .int .i64 0, .slice none 0 0, .int .i64 0, .slice none 0 0, .int .i64 0, .int .i64 0, .slice none 0 0, .int .i64 0, .bool false] from Box.new WcopyKeys #[.int .i64 0, .int .i64 0, .int .i64 0, .int .i64 0, .int .i64 0, .int .i64 0, .int .i64 0, .int .i64 0, .slice none 0 0, .int .i64 0, .slice none 0 0, .int .i64 0, .int .i64 0, .slice none 0 0, .int .i64 0, .bool false] 31)
                obtain ⟨VY, hVY⟩ : ∃ u9, WcopyKeys.alloc (.cells #[.int .i64 0, .int .i64 0, .int .i64 0, .int .i64 0, .int .i64 0, .int .i64 0, .int .i64 0, .int .i64 0, .slice none 0 0, .int .i64 0, .slice none 0 0, .int .i64 0, .int .i64 0, .slice none 0 0, .int .i64 0, .bool false] 31) = u9 := ⟨_, rfl⟩
                rw [hVY] at HB_7 HX_7 HR_7 HP_7 HY_7
                have HVY := Lib.hid hVY
                clear hal
                have hsVY : WcopyKeys.heap.size + 1 ≤ VY.heap.size := by rw [← hVY]; simp
                clear hVY
                first | rw [HVY.out] | rw [show (WcopyKeys.alloc (.cells #[.int .i64 0, .int .i64 0, .int .i64 0, .int .i64 0, .int .i64 0, .int .i64 0, .int .i64 0, .int .i64 0, .slice none 0 0, .int .i64 0, .slice none 0 0, .int .i64 0, .int .i64 0, .slice none 0 0, .int .i64 0, .bool false] 31)).drew = VY from HVY.out]
                refine hK.out _ _ (LD.box_range HX_7.out) (fun _ => ?_)
                clear hK K
                refine wpAnyH_ready (rs := [16]) (by kernel_rfl) (by simp) ?_
                refine AllReadyH.cons rfl (fun K hK => ?_) ?_
                · refine RGS.free rfl ?_
                  try simp only [List.getElem_toArray, List.getElem_cons_zero, List.getElem_cons_succ]
                  obtain ⟨VF, hVF⟩ : ∃ u9, puts VY (WcopyKeys.heap.size) 0 [.int .i64 (zonOf q salt), .int .i64 0, .int .i64 1, .int .i64 now, .int .i64 un, .int .i64 (n : Int), .int .i64 (rootOf l), .int .i64 salt, .slice D0 qn e0, .int .i64 q.need, .slice none 0 0, .int .i64 0, .int .i64 0, .slice none 0 0, .int .i64 0, .bool false] = u9 := ⟨_, rfl⟩
                  have HB_8 := Lib.hid (pt_bel hVF HB_7.out (show w.heap.size ≤ (WcopyKeys.heap.size) by omega))
                  have HX_8 := Lib.hid (pt_box hVF HX_7.out (show (w.heap.size) ≠ (WcopyKeys.heap.size) by omega))
                  have HR_8 := Lib.hid (pt_box hVF HR_7.out (show (w.heap.size + 1) ≠ (WcopyKeys.heap.size) by omega))
                  have HY_8 := Lib.hid (show Box VF (WcopyKeys.heap.size) [.int .i64 (zonOf q salt), .int .i64 0, .int .i64 1, .int .i64 now, .int .i64 un, .int .i64 (n : Int), .int .i64 (rootOf l), .int .i64 salt, .slice D0 qn e0, .int .i64 q.need, .slice none 0 0, .int .i64 0, .int .i64 0, .slice none 0 0, .int .i64 0, .bool false] from (show Box VF (WcopyKeys.heap.size) ([] ++ [.int .i64 (zonOf q salt), .int .i64 0, .int .i64 1, .int .i64 now, .int .i64 un, .int .i64 (n : Int), .int .i64 (rootOf l), .int .i64 salt, .slice D0 qn e0, .int .i64 q.need, .slice none 0 0, .int .i64 0, .int .i64 0, .slice none 0 0, .int .i64 0, .bool false] ++ []) from pt_mid hVF (show Box VY (WcopyKeys.heap.size) ([] ++ [.int .i64 0, .int .i64 0, .int .i64 0, .int .i64 0, .int .i64 0, .int .i64 0, .int .i64 0, .int .i64 0, .slice none 0 0, .int .i64 0, .slice none 0 0, .int .i64 0, .int .i64 0, .slice none 0 0, .int .i64 0, .bool false] ++ []) from HY_7.out) rfl rfl))
                  have HVF := Lib.hid hVF
                  clear hVF
                  have HP_8 := Lib.hid (show OwnI RKeys VF (WRootOf.heap.size) (WcopyKeys.heap.size) [.slice D0 qn e0, .int .i64 q.need] q ∧ (WcopyKeys.heap.size) ≤ VF.heap.size ∧ (w.heap.size + 2) ≤ (WRootOf.heap.size) from ⟨HP_7.out.1.keep fun i _ h1 h2 => by rw [← HVF.out]; exact puts_keep (by omega) _ _, by rw [← HVF.out, puts_size]; exact HP_7.out.2.1, HP_7.out.2.2⟩)
                  have hsVF : VY.heap.size ≤ VF.heap.size := by rw [← HVF.out]; exact Nat.le_of_eq (puts_size _ _).symm
                  refine LD.op_stV LD.big_Head _ _ rfl rfl rfl HY_7.out rfl (by decide) rfl HVF.out ?_
                  simp only [Act.put, List.getElem_toArray, List.getElem_cons_zero, List.getElem_cons_succ, List.setIfInBounds_toArray, List.set_cons_succ, List.set_cons_zero]
                  refine hK.out _ _ (LD.box_range HX_8.out) (fun _ => ?_)
                  clear hK K
                  refine wpAnyH_done (by kernel_rfl) ?_ _
                  exact ⟨rfl, HJ9.out _ _ ⟨WcopyKeys.heap.size, D0, e0, WRootOf.heap.size, WcopyKeys.heap.size, .agg #[.slice qA qn qc, .int .i64 q.need], .int .i64 salt, .int .i64 (zonOf q salt), .int .i64 now, .int .i64 now, .int .i64 term, .int .i64 un, .slice A n c, .int .i64 (n : Int), .slice A n c, .int .i64 (rootOf l), .int .i64 salt, .agg #[.slice qA qn qc, .int .i64 q.need], .agg #[.slice D0 qn e0, .int .i64 q.need], .agg #[.int .i64 (zonOf q salt), .int .i64 0, .int .i64 1, .int .i64 now, .int .i64 un, .int .i64 (n : Int), .int .i64 (rootOf l), .int .i64 salt, .slice D0 qn e0, .int .i64 q.need, .slice none 0 0, .int .i64 0, .int .i64 0, .slice none 0 0, .int .i64 0, .bool false], (by first | (simp only [Act.put, List.setIfInBounds_toArray, List.set_cons_succ, List.set_cons_zero] <;> rfl) | rfl), HB_8.out, HX_8.out, HR_8.out, HY_8.out, HP_8.out, by omega⟩⟩
                exact AllReadyH.nil
              exact AllReadyH.nil
            refine AllReadyH.cons rfl (fun K hK => ?_) ?_
            · refine RGS.free rfl ?_
              try simp only [List.getElem_toArray, List.getElem_cons_zero, List.getElem_cons_succ]
              go_simp
              have hal : Below WcopyKeys.heap.size WcopyKeys (WcopyKeys.alloc (.cells #[.int .i64 0, .int .i64 0, .int .i64 0, .int .i64 0, .int .i64 0, .int .i64 0, .int .i64 0, .int .i64 0, .slice none 0 0, .int .i64 0, .slice none 0 0, .int .i64 0, .int .i64 0, .slice none 0 0, .int .i64 0, .bool false] 31)) := (Below.refl _ _).alloc (Nat.le_refl _) _
              have HB_7 := Lib.hid (HB_6.out.trans (hal.mono HB_6.out.size))
              have HX_7 := Lib.hid (HX_6.out.below hal HX_6.out.lt)
              have HR_7 := Lib.hid (HR_6.out.below hal HR_6.out.lt)
              have HP_7 := Lib.hid (show OwnI RKeys (WcopyKeys.alloc (.cells #[.int .i64 0, .int .i64 0, .int .i64 0, .int .i64 0, .int .i64 0, .int .i64 0, .int .i64 0, .int .i64 0, .slice none 0 0, .int .i64 0, .slice none 0 0, .int .i64 0, .int .i64 0, .slice none 0 0, .int .i64 0, .bool false] 31)) (WRootOf.heap.size) (WcopyKeys.heap.size) [.slice D0 qn e0, .int .i64 q.need] q ∧ (WcopyKeys.heap.size) ≤ (WcopyKeys.alloc (.cells #[.int .i64 0, .int .i64 0, .int .i64 0, .int .i64 0, .int .i64 0, .int .i64 0, .int .i64 0, .int .i64 0, .slice none 0 0, .int .i64 0, .slice none 0 0, .int .i64 0, .int .i64 0, .slice none 0 0, .int .i64 0, .bool false] 31)).heap.size ∧ (w.heap.size + 2) ≤ (WRootOf.heap.size) from ⟨HP_6.out.1.below hal HP_6.out.2.1, Nat.le_trans HP_6.out.2.1 hal.size, HP_6.out.2.2⟩)
              have HY_7 := Lib.hid (show Box (WcopyKeys.alloc (.cells #[.int .i64 0, .int .i64 0, .int .i64 0, .int .i64 0, .int .i64 0, .int .i64 0, .int .i64 0, .int .i64 0, .slice none 0 0, .int .i64 0, .slice none 0 0, .int .i64 0, .int .i64 0, .slice none 0 0, .int .i64 0, .bool false] 31)) (WcopyKeys.heap.size) [.int .i64 0, .int .i64 0, .int .i64 0, .int .i64 0, .int .i64 0, .int .i64 0, .int .i64 0, .int .i64 0, .slice none 0 0, .int .i64 0, .slice none 0 0, .int .i64 0, .int .i64 0, .slice none 0 0, .int .i64 0, .bool false] from Box.new WcopyKeys #[.int .i64 0, .int .i64 0, .int .i64 0, .int .i64 0, .int .i64 0, .int .i64 0, .int .i64 0, .int .i64 0, .slice none 0 0, .int .i64 0, .slice none 0 0, .int .i64 0, .int .i64 0, .slice none 0 0, .int .i64 0, .bool false] 31)
              obtain ⟨VY, hVY⟩ : ∃ u9, WcopyKeys.alloc (.cells #[.int .i64 0, .int .i64 0, .int .i64 0, .int .i64 0, .int .i64 0, .int .i64 0, .int .i64 0, .int .i64 0, .slice none 0 0, .int .i64 0, .slice none 0 0, .int .i64 0, .int .i64 0, .slice none 0 0, .int .i64 0, .bool false] 31) = u9 := ⟨_, rfl⟩
              rw [hVY] at HB_7 HX_7 HR_7 HP_7 HY_7
              have HVY := Lib.hid hVY
              clear hal
              have hsVY : WcopyKeys.heap.size + 1 ≤ VY.heap.size := by rw [← hVY]; simp
              clear hVY
              first | rw [HVY.out] | rw [show (WcopyKeys.alloc (.cells #[.int .i64 0, .int .i64 0, .int .i64 0, .int .i64 0, .int .i64 0, .int .i64 0, .int .i64 0, .int .i64 0, .slice none 0 0, .int .i64 0, .slice none 0 0, .int .i64 0, .int .i64 0, .slice none 0 0, .int .i64 0, .bool false] 31)).drew = VY from HVY.out]
              refine hK.out _ _ (LD.box_range HX_7.out) (fun _ => ?_)
              clear hK K
              refine wpAnyH_ready (rs := [14]) (by kernel_rfl) (by simp) ?_
              refine AllReadyH.cons rfl (fun K hK => ?_) ?_
              · refine RGS.free rfl ?_
                try simp only [List.getElem_toArray, List.getElem_cons_zero, List.getElem_cons_succ]
                go_simp
                refine hK.out _ _ (LD.box_range HX_7.out) (fun _ => ?_)
                clear hK K
                refine wpAnyH_ready (rs := [16]) (by kernel_rfl) (by simp) ?_
                refine AllReadyH.cons rfl (fun K hK => ?_) ?_
                · refine RGS.free rfl ?_
                  try simp only [List.getElem_toArray, List.getElem_cons_zero, List.getElem_cons_succ]
                  obtain ⟨VF, hVF⟩ : ∃ u9, puts VY (WcopyKeys.heap.size) 0 [.int .i64 (zonOf q salt), .int .i64 0, .int .i64 1, .int .i64 now, .int .i64 un, .int .i64 (n : Int), .int .i64 (rootOf l), .int .i64 salt, .slice D0 qn e0, .int .i64 q.need, .slice none 0 0, .int .i64 0, .int .i64 0, .slice none 0 0, .int .i64 0, .bool false] = u9 := ⟨_, rfl⟩
                  have HB_8 := Lib.hid (pt_bel hVF HB_7.out (show w.heap.size ≤ (WcopyKeys.heap.size) by omega))
                  have HX_8 := Lib.hid (pt_box hVF HX_7.out (show (w.heap.size) ≠ (WcopyKeys.heap.size) by omega))
                  have HR_8 := Lib.hid (pt_box hVF HR_7.out (show (w.heap.size + 1) ≠ (WcopyKeys.heap.size) by omega))
                  have HY_8 := Lib.hid (show Box VF (WcopyKeys.heap.size) [.int .i64 (zonOf q salt), .int .i64 0, .int .i64 1, .int .i64 now, .int .i64 un, .int .i64 (n : Int), .int .i64 (rootOf l), .int .i64 salt, .slice D0 qn e0, .int .i64 q.need, .slice none 0 0, .int .i64 0, .int .i64 0, .slice none 0 0, .int .i64 0, .bool false] from (show Box VF (WcopyKeys.heap.size) ([] ++ [.int .i64 (zonOf q salt), .int .i64 0, .int .i64 1, .int .i64 now, .int .i64 un, .int .i64 (n : Int), .int .i64 (rootOf l), .int .i64 salt, .slice D0 qn e0, .int .i64 q.need, .slice none 0 0, .int .i64 0, .int .i64 0, .slice none 0 0, .int .i64 0, .bool false] ++ []) from pt_mid hVF (show Box VY (WcopyKeys.heap.size) ([] ++ [.int .i64 0, .int .i64 0, .int .i64 0, .int .i64 0, .int .i64 0, .int .i64 0, .int .i64 0, .int .i64 0, .slice none 0 0, .int .i64 0, .slice none 0 0, .int .i64 0, .int .i64 0, .slice none 0 0, .int .i64 0, .bool false] ++ []) from HY_7.out) rfl rfl))
                  have HVF := Lib.hid hVF
                  clear hVF
                  have HP_8 := Lib.hid (show OwnI RKeys VF (WRootOf.heap.size) (WcopyKeys.heap.size) [.slice D0 qn e0, .int .i64 q.need] q ∧ (WcopyKeys.heap.size) ≤ VF.heap.size ∧ (w.heap.size + 2) ≤ (WRootOf.heap.size) from ⟨HP_7.out.1.keep fun i _ h1 h2 => by rw [← HVF.out]; exact puts_keep (by omega) _ _, by rw [← HVF.out, puts_size]; exact HP_7.out.2.1, HP_7.out.2.2⟩)
                  have hsVF : VY.heap.size ≤ VF.heap.size := by rw [← HVF.out]; exact Nat.le_of_eq (puts_size _ _).symm
                  refine LD.op_stV LD.big_Head _ _ rfl rfl rfl HY_7.out rfl (by decide) rfl HVF.out ?_
                  simp only [Act.put, List.getElem_toArray, List.getElem_cons_zero, List.getElem_cons_succ, List.setIfInBounds_toArray, List.set_cons_succ, List.set_cons_zero]
                  refine hK.out _ _ (LD.box_range HX_8.out) (fun _ => ?_)
                  clear hK K
                  refine wpAnyH_done (by kernel_rfl) ?_ _
                  exact ⟨rfl, HJ9.out _ _ ⟨WcopyKeys.heap.size, D0, e0, WRootOf.heap.size, WcopyKeys.heap.size, .agg #[.slice qA qn qc, .int .i64 q.need], .int .i64 salt, .int .i64 (zonOf q salt), .int .i64 now, .int .i64 now, .int .i64 term, .int .i64 un, .slice A n c, .int .i64 (n : Int), .slice A n c, .int .i64 (rootOf l), .int .i64 salt, .agg #[.slice qA qn qc, .int .i64 q.need], .agg #[.slice D0 qn e0, .int .i64 q.need], .agg #[.int .i64 (zonOf q salt), .int .i64 0, .int .i64 1, .int .i64 now, .int .i64 un, .int .i64 (n : Int), .int .i64 (rootOf l), .int .i64 salt, .slice D0 qn e0, .int .i64 q.need, .slice none 0 0, .int .i64 0, .int .i64 0, .slice none 0 0, .int .i64 0, .bool false], (by first | (simp only [Act.put, List.setIfInBounds_toArray, List.set_cons_succ, List.set_cons_zero] <;> rfl) | rfl), HB_8.out, HX_8.out, HR_8.out, HY_8.out, HP_8.out, by omega⟩⟩
                exact AllReadyH.nil
              exact AllReadyH.nil
            exact AllReadyH.nil
          refine AllReadyH.cons rfl (fun K hK => ?_) ?_
          · refine RGS.free rfl ?_
            try simp only [List.getElem_toArray, List.getElem_cons_zero, List.getElem_cons_succ]
            go_simp
            have hal : Below WRootOf.heap.size WRootOf (WRootOf.alloc (.cells #[.int .i64 0, .int .i64 0, .int .i64 0, .int .i64 0, .int .i64 0, .int .i64 0, .int .i64 0, .int .i64 0, .slice none 0 0, .int .i64 0, .slice none 0 0, .int .i64 0, .int .i64 0, .slice none 0 0, .int .i64 0, .bool false] 31)) := (Below.refl _ _).alloc (Nat.le_refl _) _
            have HB_6 := Lib.hid (HB_5.out.trans (hal.mono HB_5.out.size))
            have HX_6 := Lib.hid (HX_5.out.below hal HX_5.out.lt)
            have HR_6 := Lib.hid (HR_5.out.below hal HR_5.out.lt)
            have HY_6 := Lib.hid (show Box (WRootOf.alloc (.cells #[.int .i64 0, .int .i64 0, .int .i64 0, .int .i64 0, .int .i64 0, .int .i64 0, .int .i64 0, .int .i64 0, .slice none 0 0, .int .i64 0, .slice none 0 0, .int .i64 0, .int .i64 0, .slice none 0 0, .int .i64 0, .bool false] 31)) (WRootOf.heap.size) [.int .i64 0, .int .i64 0, .int .i64 0, .int .i64 0, .int .i64 0, .int .i64 0, .int .i64 0, .int .i64 0, .slice none 0 0, .int .i64 0, .slice none 0 0, .int .i64 0, .int .i64 0, .slice none 0 0, .int .i64 0, .bool false] from Box.new WRootOf #[.int .i64 0, .int .i64 0, .int .i64 0, .int .i64 0, .int .i64 0, .int .i64 0, .int .i64 0, .int .i64 0, .slice none 0 0, .int .i64 0, .slice none 0 0, .int .i64 0, .int .i64 0, .slice none 0 0, .int .i64 0, .bool false] 31)
            obtain ⟨VY, hVY⟩ : ∃ u9, WRootOf.alloc (.cells #[.int .i64 0, .int .i64 0, .int .i64 0, .int .i64 0, .int .i64 0, .int .i64 0, .int .i64 0, .int .i64 0, .slice none 0 0, .int .i64 0, .slice none 0 0, .int .i64 0, .int .i64 0, .slice none 0 0, .int .i64 0, .bool false] 31) = u9 := ⟨_, rfl⟩
            rw [hVY] at HB_6 HX_6 HR_6 HY_6
            have HVY := Lib.hid hVY
            clear hal
            have hsVY : WRootOf.heap.size + 1 ≤ VY.heap.size := by rw [← hVY]; simp
            clear hVY
            first | rw [HVY.out] | rw [show (WRootOf.alloc (.cells #[.int .i64 0, .int .i64 0, .int .i64 0, .int .i64 0, .int .i64 0, .int .i64 0, .int .i64 0, .int .i64 0, .slice none 0 0, .int .i64 0, .slice none 0 0, .int .i64 0, .int .i64 0, .slice none 0 0, .int .i64 0, .bool false] 31)).drew = VY from HVY.out]
            refine hK.out _ _ (LD.box_range HX_6.out) (fun _ => ?_)
            clear hK K
            refine wpAnyH_ready (rs := [13]) (by kernel_rfl) (by simp) ?_
            refine AllReadyH.cons rfl (fun K hK => ?_) ?_
            · refine RGS.free rfl ?_
              try simp only [List.getElem_toArray, List.getElem_cons_zero, List.getElem_cons_succ]
              go_simp
              go_at_call 36
              refine (icopyKeys_any _ qA qn qc q.list q.need ((HKR.out.below HB_6.out (Nat.le_refl _)).more HB_6.out.size) (by omega)).mono ?_
              rintro e WcopyKeys ⟨D0, e0, rfl, ho, hb⟩
              have HB_7 := Lib.hid (HB_6.out.trans (hb.mono HB_6.out.size))
              have HX_7 := Lib.hid (HX_6.out.below hb HX_6.out.lt)
              have HR_7 := Lib.hid (HR_6.out.below hb HR_6.out.lt)
              have HY_7 := Lib.hid (HY_6.out.below hb HY_6.out.lt)
              have hsWcopyKeys := hb.size
              have HP_7 := Lib.hid (show OwnI RKeys WcopyKeys (VY.heap.size) (WcopyKeys.heap.size) [.slice D0 qn e0, .int .i64 q.need] q ∧ (WcopyKeys.heap.size) ≤ WcopyKeys.heap.size ∧ (w.heap.size + 2) ≤ (VY.heap.size) from ⟨RKeys_own.2 ⟨D0, qn, e0, rfl, ho, HKI.out⟩, Nat.le_refl _, by omega⟩)
              clear ho
              clear hb
              go_simp
              refine hK.out _ _ (LD.box_range HX_7.out) (fun _ => ?_)
              clear hK K
              refine wpAnyH_ready (rs := [14]) (by kernel_rfl) (by simp) ?_
              refine AllReadyH.cons rfl (fun K hK => ?_) ?_
              · refine RGS.free rfl ?_
                try simp only [List.getElem_toArray, List.getElem_cons_zero, List.getElem_cons_succ]
                go_simp
                refine hK.out _ _ (LD.box_range HX_7.out) (fun _ => ?_)
                clear hK K
                refine wpAnyH_ready (rs := [16]) (by kernel_rfl) (by simp) ?_
                refine AllReadyH.cons rfl (fun K hK => ?_) ?_
                · refine RGS.free rfl ?_
                  try simp only [List.getElem_toArray, List.getElem_cons_zero, List.getElem_cons_succ]
                  obtain ⟨VF, hVF⟩ : ∃ u9, puts WcopyKeys (WRootOf.heap.size) 0 [.int .i64 (zonOf q salt), .int .i64 0, .int .i64 1, .int .i64 now, .int .i64 un, .int .i64 (n : Int), .int .i64 (rootOf l), .int .i64 salt, .slice D0 qn e0, .int .i64 q.need, .slice none 0 0, .int .i64 0, .int .i64 0, .slice none 0 0, .int .i64 0, .bool false] = u9 := ⟨_, rfl⟩
                  have HB_8 := Lib.hid (pt_bel hVF HB_7.out (show w.heap.size ≤ (WRootOf.heap.size) by omega))
                  have HX_8 := Lib.hid (pt_box hVF HX_7.out (show (w.heap.size) ≠ (WRootOf.heap.size) by omega))
                  have HR_8 := Lib.hid (pt_box hVF HR_7.out (show (w.heap.size + 1) ≠ (WRootOf.heap.size) by omega))
                  have HY_8 := Lib.hid (show Box VF (WRootOf.heap.size) [.int .i64 (zonOf q salt), .int .i64 0, .int .i64 1, .int .i64 now, .int .i64 un, .int .i64 (n : Int), .int .i64 (rootOf l), .int .i64 salt, .slice D0 qn e0, .int .i64 q.need, .slice none 0 0, .int .i64 0, .int .i64 0, .slice none 0 0, .int .i64 0, .bool false] from (show Box VF (WRootOf.heap.size) ([] ++ [.int .i64 (zonOf q salt), .int .i64 0, .int .i64 1, .int .i64 now, .int .i64 un, .int .i64 (n : Int), .int .i64 (rootOf l), .int .i64 salt, .slice D0 qn e0, .int .i64 q.need, .slice none 0 0, .int .i64 0, .int .i64 0, .slice none 0 0, .int .i64 0, .bool false] ++ []) from pt_mid hVF (show Box WcopyKeys (WRootOf.heap.size) ([] ++ [.int .i64 0, .int .i64 0, .int .i64 0, .int .i64 0, .int .i64 0, .int .i64 0, .int .i64 0, .int .i64 0, .slice none 0 0, .int .i64 0, .slice none 0 0, .int .i64 0, .int .i64 0, .slice none 0 0, .int .i64 0, .bool false] ++ []) from HY_7.out) rfl rfl))
                  have HVF := Lib.hid hVF
                  clear hVF
                  have HP_8 := Lib.hid (show OwnI RKeys VF (VY.heap.size) (WcopyKeys.heap.size) [.slice D0 qn e0, .int .i64 q.need] q ∧ (WcopyKeys.heap.size) ≤ VF.heap.size ∧ (w.heap.size + 2) ≤ (VY.heap.size) from ⟨HP_7.out.1.keep fun i _ h1 h2 => by rw [← HVF.out]; exact puts_keep (by omega) _ _, by rw [← HVF.out, puts_size]; exact HP_7.out.2.1, HP_7.out.2.2⟩)
                  have hsVF : WcopyKeys.heap.size ≤ VF.heap.size := by rw [← HVF.out]; exact Nat.le_of_eq (puts_size _ _).symm
                  refine LD.op_stV LD.big_Head _ _ rfl rfl rfl HY_7.out rfl (by decide) rfl HVF.out ?_
                  simp only [Act.put, List.getElem_toArray, List.getElem_cons_zero, List.getElem_cons_succ, List.setIfInBounds_toArray, List.set_cons_succ, List.set_cons_zero]
                  refine hK.out _ _ (LD.box_range HX_8.out) (fun _ => ?_)
                  clear hK K
                  refine wpAnyH_done (by kernel_rfl) ?_ _
                  exact ⟨rfl, HJ9.out _ _ ⟨WRootOf.heap.size, D0, e0, VY.heap.size, WcopyKeys.heap.size, .agg #[.slice qA qn qc, .int .i64 q.need], .int .i64 salt, .int .i64 (zonOf q salt), .int .i64 now, .int .i64 now, .int .i64 term, .int .i64 un, .slice A n c, .int .i64 (n : Int), .slice A n c, .int .i64 (rootOf l), .int .i64 salt, .agg #[.slice qA qn qc, .int .i64 q.need], .agg #[.slice D0 qn e0, .int .i64 q.need], .agg #[.int .i64 (zonOf q salt), .int .i64 0, .int .i64 1, .int .i64 now, .int .i64 un, .int .i64 (n : Int), .int .i64 (rootOf l), .int .i64 salt, .slice D0 qn e0, .int .i64 q.need, .slice none 0 0, .int .i64 0, .int .i64 0, .slice none 0 0, .int .i64 0, .bool false], (by first | (simp only [Act.put, List.setIfInBounds_toArray, List.set_cons_succ, List.set_cons_zero] <;> rfl) | rfl), HB_8.out, HX_8.out, HR_8.out, HY_8.out, HP_8.out, by omega⟩⟩
                exact AllReadyH.nil
              exact AllReadyH.nil
            exact AllReadyH.nil
          exact AllReadyH.nil
        refine AllReadyH.cons rfl (fun K hK => ?_) ?_
        · refine RGS.free rfl ?_
          try simp only [List.getElem_toArray, List.getElem_cons_zero, List.getElem_cons_succ]
          go_simp
          have hal : Below WZoneOf.heap.size WZoneOf (WZoneOf.alloc (.cells #[.int .i64 0, .int .i64 0, .int .i64 0, .int .i64 0, .int .i64 0, .int .i64 0, .int .i64 0, .int .i64 0, .slice none 0 0, .int .i64 0, .slice none 0 0, .int .i64 0, .int .i64 0, .slice none 0 0, .int .i64 0, .bool false] 31)) := (Below.refl _ _).alloc (Nat.le_refl _) _
          have HB_5 := Lib.hid (HB_4.out.trans (hal.mono HB_4.out.size))
          have HX_5 := Lib.hid (HX_4.out.below hal HX_4.out.lt)
          have HR_5 := Lib.hid (HR_4.out.below hal HR_4.out.lt)
          have HY_5 := Lib.hid (show Box (WZoneOf.alloc (.cells #[.int .i64 0, .int .i64 0, .int .i64 0, .int .i64 0, .int .i64 0, .int .i64 0, .int .i64 0, .int .i64 0, .slice none 0 0, .int .i64 0, .slice none 0 0, .int .i64 0, .int .i64 0, .slice none 0 0, .int .i64 0, .bool false] 31)) (WZoneOf.heap.size) [.int .i64 0, .int .i64 0, .int .i64 0, .int .i64 0, .int .i64 0, .int .i64 0, .int .i64 0, .int .i64 0, .slice none 0 0, .int .i64 0, .slice none 0 0, .int .i64 0, .int .i64 0, .slice none 0 0, .int .i64 0, .bool false] from Box.new WZoneOf #[.int .i64 0, .int .i64 0, .int .i64 0, .int .i64 0, .int .i64 0, .int .i64 0, .int .i64 0, .int .i64 0, .slice none 0 0, .int .i64 0, .slice none 0 0, .int .i64 0, .int .i64 0, .slice none 0 0, .int .i64 0, .bool false] 31)
          obtain ⟨VY, hVY⟩ : ∃ u9, WZoneOf.alloc (.cells #[.int .i64 0, .int .i64 0, .int .i64 0, .int .i64 0, .int .i64 0, .int .i64 0, .int .i64 0, .int .i64 0, .slice none 0 0, .int .i64 0, .slice none 0 0, .int .i64 0, .int .i64 0, .slice none 0 0, .int .i64 0, .bool false] 31) = u9 := ⟨_, rfl⟩
          rw [hVY] at HB_5 HX_5 HR_5 HY_5
          have HVY := Lib.hid hVY
          clear hal
          have hsVY : WZoneOf.heap.size + 1 ≤ VY.heap.size := by rw [← hVY]; simp
          clear hVY
          first | rw [HVY.out] | rw [show (WZoneOf.alloc (.cells #[.int .i64 0, .int .i64 0, .int .i64 0, .int .i64 0, .int .i64 0, .int .i64 0, .int .i64 0, .int .i64 0, .slice none 0 0, .int .i64 0, .slice none 0 0, .int .i64 0, .int .i64 0, .slice none 0 0, .int .i64 0, .bool false] 31)).drew = VY from HVY.out]
          refine hK.out _ _ (LD.box_range HX_5.out) (fun _ => ?_)
          clear hK K
          refine wpAnyH_ready (rs := [10]) (by kernel_rfl) (by simp) ?_
          refine AllReadyH.cons rfl (fun K hK => ?_) ?_
          · refine RGS.free rfl ?_
            try simp only [List.getElem_toArray, List.getElem_cons_zero, List.getElem_cons_succ]
            go_simp
            go_at_call 35
            refine (HRO.out _ HB_5.out).mono ?_
            rintro e WRootOf ⟨rfl, hb⟩
            have HB_6 := Lib.hid (HB_5.out.trans (hb.mono HB_5.out.size))
            have HX_6 := Lib.hid (HX_5.out.below hb HX_5.out.lt)
            have HR_6 := Lib.hid (HR_5.out.below hb HR_5.out.lt)
            have HY_6 := Lib.hid (HY_5.out.below hb HY_5.out.lt)
            have hsWRootOf := hb.size
            clear hb
            go_simp
            refine hK.out _ _ (LD.box_range HX_6.out) (fun _ => ?_)
            clear hK K
            refine wpAnyH_ready (rs := [13]) (by kernel_rfl) (by simp) ?_
            refine AllReadyH.cons rfl (fun K hK => ?_) ?_
            · refine RGS.free rfl ?_
              try simp only [List.getElem_toArray, List.getElem_cons_zero, List.getElem_cons_succ]
              go_simp
              go_at_call 36
              refine (icopyKeys_any _ qA qn qc q.list q.need ((HKR.out.below HB_6.out (Nat.le_refl _)).more HB_6.out.size) (by omega)).mono ?_
              rintro e WcopyKeys ⟨D0, e0, rfl, ho, hb⟩
              have HB_7 := Lib.hid (HB_6.out.trans (hb.mono HB_6.out.size))
              have HX_7 := Lib.hid (HX_6.out.below hb HX_6.out.lt)
              have HR_7 := Lib.hid (HR_6.out.below hb HR_6.out.lt)
              have HY_7 := Lib.hid (HY_6.out.below hb HY_6.out.lt)
              have hsWcopyKeys := hb.size
              have HP_7 := Lib.hid (show OwnI RKeys WcopyKeys (WRootOf.heap.size) (WcopyKeys.heap.size) [.slice D0 qn e0, .int .i64 q.need] q ∧ (WcopyKeys.heap.size) ≤ WcopyKeys.heap.size ∧ (w.heap.size + 2) ≤ (WRootOf.heap.size) from ⟨RKeys_own.2 ⟨D0, qn, e0, rfl, ho, HKI.out⟩, Nat.le_refl _, by omega⟩)
              clear ho
              clear hb
              go_simp
              refine hK.out _ _ (LD.box_range HX_7.out) (fun _ => ?_)
              clear hK K
              refine wpAnyH_ready (rs := [14]) (by kernel_rfl) (by simp) ?_
              refine AllReadyH.cons rfl (fun K hK => ?_) ?_
              · refine RGS.free rfl ?_
                try simp only [List.getElem_toArray, List.getElem_cons_zero, List.getElem_cons_succ]
                go_simp
                refine hK.out _ _ (LD.box_range HX_7.out) (fun _ => ?_)
                clear hK K
                refine wpAnyH_ready (rs := [16]) (by kernel_rfl) (by simp) ?_
                refine AllReadyH.cons rfl (fun K hK => ?_) ?_
                · refine RGS.free rfl ?_
                  try simp only [List.getElem_toArray, List.getElem_cons_zero, List.getElem_cons_succ]
                  obtain ⟨VF, hVF⟩ : ∃ u9, puts WcopyKeys (WZoneOf.heap.size) 0 [.int .i64 (zonOf q salt), .int .i64 0, .int .i64 1, .int .i64 now, .int .i64 un, .int .i64 (n : Int), .int .i64 (rootOf l), .int .i64 salt, .slice D0 qn e0, .int .i64 q.need, .slice none 0 0, .int .i64 0, .int .i64 0, .slice none 0 0, .int .i64 0, .bool false] = u9 := ⟨_, rfl⟩
                  have HB_8 := Lib.hid (pt_bel hVF HB_7.out (show w.heap.size ≤ (WZoneOf.heap.size) by omega))
                  have HX_8 := Lib.hid (pt_box hVF HX_7.out (show (w.heap.size) ≠ (WZoneOf.heap.size) by omega))
                  have HR_8 := Lib.hid (pt_box hVF HR_7.out (show (w.heap.size + 1) ≠ (WZoneOf.heap.size) by omega))
                  have HY_8 := Lib.hid (show Box VF (WZoneOf.heap.size) [.int .i64 (zonOf q salt), .int .i64 0, .int .i64 1, .int .i64 now, .int .i64 un, .int .i64 (n : Int), .int .i64 (rootOf l), .int .i64 salt, .slice D0 qn e0, .int .i64 q.need, .slice none 0 0, .int .i64 0, .int .i64 0, .slice none 0 0, .int .i64 0, .bool false] from (show Box VF (WZoneOf.heap.size) ([] ++ [.int .i64 (zonOf q salt), .int .i64 0, .int .i64 1, .int .i64 now, .int .i64 un, .int .i64 (n : Int), .int .i64 (rootOf l), .int .i64 salt, .slice D0 qn e0, .int .i64 q.need, .slice none 0 0, .int .i64 0, .int .i64 0, .slice none 0 0, .int .i64 0, .bool false] ++ []) from pt_mid hVF (show Box WcopyKeys (WZoneOf.heap.size) ([] ++ [.int .i64 0, .int .i64 0, .int .i64 0, .int .i64 0, .int .i64 0, .int .i64 0, .int .i64 0, .int .i64 0, .slice none 0 0, .int .i64 0, .slice none 0 0, .int .i64 0, .int .i64 0, .slice none 0 0, .int .i64 0, .bool false] ++ []) from HY_7.out) rfl rfl))
                  have HVF := Lib.hid hVF
                  clear hVF
                  have HP_8 := Lib.hid (show OwnI RKeys VF (WRootOf.heap.size) (WcopyKeys.heap.size) [.slice D0 qn e0, .int .i64 q.need] q ∧ (WcopyKeys.heap.size) ≤ VF.heap.size ∧ (w.heap.size + 2) ≤ (WRootOf.heap.size) from ⟨HP_7.out.1.keep fun i _ h1 h2 => by rw [← HVF.out]; exact puts_keep (by omega) _ _, by rw [← HVF.out, puts_size]; exact HP_7.out.2.1, HP_7.out.2.2⟩)
                  have hsVF : WcopyKeys.heap.size ≤ VF.heap.size := by rw [← HVF.out]; exact Nat.le_of_eq (puts_size _ _).symm
                  refine LD.op_stV LD.big_Head _ _ rfl rfl rfl HY_7.out rfl (by decide) rfl HVF.out ?_
                  simp only [Act.put, List.getElem_toArray, List.getElem_cons_zero, List.getElem_cons_succ, List.setIfInBounds_toArray, List.set_cons_succ, List.set_cons_zero]
                  refine hK.out _ _ (LD.box_range HX_8.out) (fun _ => ?_)
                  clear hK K
                  refine wpAnyH_done (by kernel_rfl) ?_ _
                  exact ⟨rfl, HJ9.out _ _ ⟨WZoneOf.heap.size, D0, e0, WRootOf.heap.size, WcopyKeys.heap.size, .agg #[.slice qA qn qc, .int .i64 q.need], .int .i64 salt, .int .i64 (zonOf q salt), .int .i64 now, .int .i64 now, .int .i64 term, .int .i64 un, .slice A n c, .int .i64 (n : Int), .slice A n c, .int .i64 (rootOf l), .int .i64 salt, .agg #[.slice qA qn qc, .int .i64 q.need], .agg #[.slice D0 qn e0, .int .i64 q.need], .agg #[.int .i64 (zonOf q salt), .int .i64 0, .int .i64 1, .int .i64 now, .int .i64 un, .int .i64 (n : Int), .int .i64 (rootOf l), .int .i64 salt, .slice D0 qn e0, .int .i64 q.need, .slice none 0 0, .int .i64 0, .int .i64 0, .slice none 0 0, .int .i64 0, .bool false], (by first | (simp only [Act.put, List.setIfInBounds_toArray, List.set_cons_succ, List.set_cons_zero] <;> rfl) | rfl), HB_8.out, HX_8.out, HR_8.out, HY_8.out, HP_8.out, by omega⟩⟩
                exact AllReadyH.nil
              exact AllReadyH.nil
            exact AllReadyH.nil
          exact AllReadyH.nil
        exact AllReadyH.nil
      refine AllReadyH.cons rfl (fun K hK => ?_) ?_
      · refine RGS.free rfl ?_
        try simp only [List.getElem_toArray, List.getElem_cons_zero, List.getElem_cons_succ]
        go_simp
        have hal : Below W1.drew.heap.size W1.drew (W1.drew.alloc (.cells #[.int .i64 0, .int .i64 0, .int .i64 0, .int .i64 0, .int .i64 0, .int .i64 0, .int .i64 0, .int .i64 0, .slice none 0 0, .int .i64 0, .slice none 0 0, .int .i64 0, .int .i64 0, .slice none 0 0, .int .i64 0, .bool false] 31)) := (Below.refl _ _).alloc (Nat.le_refl _) _
        have HB_4 := Lib.hid (HB_3.out.trans (hal.mono HB_3.out.size))
        have HX_4 := Lib.hid (HX_3.out.below hal HX_3.out.lt)
        have HR_4 := Lib.hid (HR_3.out.below hal HR_3.out.lt)
        have HY_4 := Lib.hid (show Box (W1.drew.alloc (.cells #[.int .i64 0, .int .i64 0, .int .i64 0, .int .i64 0, .int .i64 0, .int .i64 0, .int .i64 0, .int .i64 0, .slice none 0 0, .int .i64 0, .slice none 0 0, .int .i64 0, .int .i64 0, .slice none 0 0, .int .i64 0, .bool false] 31)) (W1.drew.heap.size) [.int .i64 0, .int .i64 0, .int .i64 0, .int .i64 0, .int .i64 0, .int .i64 0, .int .i64 0, .int .i64 0, .slice none 0 0, .int .i64 0, .slice none 0 0, .int .i64 0, .int .i64 0, .slice none 0 0, .int .i64 0, .bool false] from Box.new W1.drew #[.int .i64 0, .int .i64 0, .int .i64 0, .int .i64 0, .int .i64 0, .int .i64 0, .int .i64 0, .int .i64 0, .slice none 0 0, .int .i64 0, .slice none 0 0, .int .i64 0, .int .i64 0, .slice none 0 0, .int .i64 0, .bool false] 31)
        obtain ⟨VY, hVY⟩ : ∃ u9, W1.drew.alloc (.cells #[.int .i64 0, .int .i64 0, .int .i64 0, .int .i64 0, .int .i64 0, .int .i64 0, .int .i64 0, .int .i64 0, .slice none 0 0, .int .i64 0, .slice none 0 0, .int .i64 0, .int .i64 0, .slice none 0 0, .int .i64 0, .bool false] 31) = u9 := ⟨_, rfl⟩
        rw [hVY] at HB_4 HX_4 HR_4 HY_4
        have HVY := Lib.hid hVY
        clear hal
        have hsVY : W1.drew.heap.size + 1 ≤ VY.heap.size := by rw [← hVY]; simp
        clear hVY
        first | rw [HVY.out] | rw [show (W1.alloc (.cells #[.int .i64 0, .int .i64 0, .int .i64 0, .int .i64 0, .int .i64 0, .int .i64 0, .int .i64 0, .int .i64 0, .slice none 0 0, .int .i64 0, .slice none 0 0, .int .i64 0, .int .i64 0, .slice none 0 0, .int .i64 0, .bool false] 31)).drew = VY from HVY.out]
        refine hK.out _ _ (LD.box_range HX_4.out) (fun _ => ?_)
        clear hK K
        refine wpAnyH_ready (rs := [2]) (by kernel_rfl) (by simp) ?_
        refine AllReadyH.cons rfl (fun K hK => ?_) ?_
        · refine RGS.free rfl ?_
          try simp only [List.getElem_toArray, List.getElem_cons_zero, List.getElem_cons_succ]
          go_simp
          go_at_call 13
          refine (HZO.out _ HB_4.out).mono ?_
          rintro e WZoneOf ⟨rfl, hb⟩
          have HB_5 := Lib.hid (HB_4.out.trans (hb.mono HB_4.out.size))
          have HX_5 := Lib.hid (HX_4.out.below hb HX_4.out.lt)
          have HR_5 := Lib.hid (HR_4.out.below hb HR_4.out.lt)
          have HY_5 := Lib.hid (HY_4.out.below hb HY_4.out.lt)
          have hsWZoneOf := hb.size
          clear hb
          go_simp
          refine hK.out _ _ (LD.box_range HX_5.out) (fun _ => ?_)
          clear hK K
          refine wpAnyH_ready (rs := [10]) (by kernel_rfl) (by simp) ?_
          refine AllReadyH.cons rfl (fun K hK => ?_) ?_
          · refine RGS.free rfl ?_
            try simp only [List.getElem_toArray, List.getElem_cons_zero, List.getElem_cons_succ]
            go_simp
            go_at_call 35
            refine (HRO.out _ HB_5.out).mono ?_
            rintro e WRootOf ⟨rfl, hb⟩
            have HB_6 := Lib.hid (HB_5.out.trans (hb.mono HB_5.out.size))
            have HX_6 := Lib.hid (HX_5.out.below hb HX_5.out.lt)
            have HR_6 := Lib.hid (HR_5.out.below hb HR_5.out.lt)
            have HY_6 := Lib.hid (HY_5.out.below hb HY_5.out.lt)
            have hsWRootOf := hb.size
            clear hb
            go_simp
            refine hK.out _ _ (LD.box_range HX_6.out) (fun _ => ?_)
            clear hK K
            refine wpAnyH_ready (rs := [13]) (by kernel_rfl) (by simp) ?_
            refine AllReadyH.cons rfl (fun K hK => ?_) ?_
            · refine RGS.free rfl ?_
              try simp only [List.getElem_toArray, List.getElem_cons_zero, List.getElem_cons_succ]
              go_simp
              go_at_call 36
              refine (icopyKeys_any _ qA qn qc q.list q.need ((HKR.out.below HB_6.out (Nat.le_refl _)).more HB_6.out.size) (by omega)).mono ?_
              rintro e WcopyKeys ⟨D0, e0, rfl, ho, hb⟩
              have HB_7 := Lib.hid (HB_6.out.trans (hb.mono HB_6.out.size))
              have HX_7 := Lib.hid (HX_6.out.below hb HX_6.out.lt)
              have HR_7 := Lib.hid (HR_6.out.below hb HR_6.out.lt)
              have HY_7 := Lib.hid (HY_6.out.below hb HY_6.out.lt)
              have hsWcopyKeys := hb.size
              have HP_7 := Lib.hid (show OwnI RKeys WcopyKeys (WRootOf.heap.size) (WcopyKeys.heap.size) [.slice D0 qn e0, .int .i64 q.need] q ∧ (WcopyKeys.heap.size) ≤ WcopyKeys.heap.size ∧ (w.heap.size + 2) ≤ (WRootOf.heap.size) from ⟨RKeys_own.2 ⟨D0, qn, e0, rfl, ho, HKI.out⟩, Nat.le_refl _, by omega⟩)
              clear ho
              clear hb
              go_simp
              refine hK.out _ _ (LD.box_range HX_7.out) (fun _ => ?_)
              clear hK K
              refine wpAnyH_ready (rs := [14]) (by kernel_rfl) (by simp) ?_
              refine AllReadyH.cons rfl (fun K hK => ?_) ?_
              · refine RGS.free rfl ?_
                try simp only [List.getElem_toArray, List.getElem_cons_zero, List.getElem_cons_succ]
                go_simp
                refine hK.out _ _ (LD.box_range HX_7.out) (fun _ => ?_)
                clear hK K
                refine wpAnyH_ready (rs := [16]) (by kernel_rfl) (by simp) ?_
                refine AllReadyH.cons rfl (fun K hK => ?_) ?_
                · refine RGS.free rfl ?_
                  try simp only [List.getElem_toArray, List.getElem_cons_zero, List.getElem_cons_succ]
                  obtain ⟨VF, hVF⟩ : ∃ u9, puts WcopyKeys (W1.drew.heap.size) 0 [.int .i64 (zonOf q salt), .int .i64 0, .int .i64 1, .int .i64 now, .int .i64 un, .int .i64 (n : Int), .int .i64 (rootOf l), .int .i64 salt, .slice D0 qn e0, .int .i64 q.need, .slice none 0 0, .int .i64 0, .int .i64 0, .slice none 0 0, .int .i64 0, .bool false] = u9 := ⟨_, rfl⟩
                  have HB_8 := Lib.hid (pt_bel hVF HB_7.out (show w.heap.size ≤ (W1.drew.heap.size) by omega))
                  have HX_8 := Lib.hid (pt_box hVF HX_7.out (show (w.heap.size) ≠ (W1.drew.heap.size) by omega))
                  have HR_8 := Lib.hid (pt_box hVF HR_7.out (show (w.heap.size + 1) ≠ (W1.drew.heap.size) by omega))
                  have HY_8 := Lib.hid (show Box VF (W1.drew.heap.size) [.int .i64 (zonOf q salt), .int .i64 0, .int .i64 1, .int .i64 now, .int .i64 un, .int .i64 (n : Int), .int .i64 (rootOf l), .int .i64 salt, .slice D0 qn e0, .int .i64 q.need, .slice none 0 0, .int .i64 0, .int .i64 0, .slice none 0 0, .int .i64 0, .bool false] from (show Box VF (W1.drew.heap.size) ([] ++ [.int .i64 (zonOf q salt), .int .i64 0, .int .i64 1, .int .i64 now, .int .i64 un, .int .i64 (n : Int), .int .i64 (rootOf l), .int .i64 salt, .slice D0 qn e0, .int .i64 q.need, .slice none 0 0, .int .i64 0, .int .i64 0, .slice none 0 0, .int .i64 0, .bool false] ++ []) from pt_mid hVF (show Box WcopyKeys (W1.drew.heap.size) ([] ++ [.int .i64 0, .int .i64 0, .int .i64 0, .int .i64 0, .int .i64 0, .int .i64 0, .int .i64 0, .int .i64 0, .slice none 0 0, .int .i64 0, .slice none 0 0, .int .i64 0, .int .i64 0, .slice none 0 0, .int .i64 0, .bool false] ++ []) from HY_7.out) rfl rfl))
                  have HVF := Lib.hid hVF
                  clear hVF
                  have HP_8 := Lib.hid (show OwnI RKeys VF (WRootOf.heap.size) (WcopyKeys.heap.size) [.slice D0 qn e0, .int .i64 q.need] q ∧ (WcopyKeys.heap.size) ≤ VF.heap.size ∧ (w.heap.size + 2) ≤ (WRootOf.heap.size) from ⟨HP_7.out.1.keep fun i _ h1 h2 => by rw [← HVF.out]; exact puts_keep (by omega) _ _, by rw [← HVF.out, puts_size]; exact HP_7.out.2.1, HP_7.out.2.2⟩)
                  have hsVF : WcopyKeys.heap.size ≤ VF.heap.size := by rw [← HVF.out]; exact Nat.le_of_eq (puts_size _ _).symm
                  refine LD.op_stV LD.big_Head _ _ rfl rfl rfl HY_7.out rfl (by decide) rfl HVF.out ?_
                  simp only [Act.put, List.getElem_toArray, List.getElem_cons_zero, List.getElem_cons_succ, List.setIfInBounds_toArray, List.set_cons_succ, List.set_cons_zero]
                  refine hK.out _ _ (LD.box_range HX_8.out) (fun _ => ?_)
                  clear hK K
                  refine wpAnyH_done (by kernel_rfl) ?_ _
                  exact ⟨rfl, HJ9.out _ _ ⟨W1.drew.heap.size, D0, e0, WRootOf.heap.size, WcopyKeys.heap.size, .agg #[.slice qA qn qc, .int .i64 q.need], .int .i64 salt, .int .i64 (zonOf q salt), .int .i64 now, .int .i64 now, .int .i64 term, .int .i64 un, .slice A n c, .int .i64 (n : Int), .slice A n c, .int .i64 (rootOf l), .int .i64 salt, .agg #[.slice qA qn qc, .int .i64 q.need], .agg #[.slice D0 qn e0, .int .i64 q.need], .agg #[.int .i64 (zonOf q salt), .int .i64 0, .int .i64 1, .int .i64 now, .int .i64 un, .int .i64 (n : Int), .int .i64 (rootOf l), .int .i64 salt, .slice D0 qn e0, .int .i64 q.need, .slice none 0 0, .int .i64 0, .int .i64 0, .slice none 0 0, .int .i64 0, .bool false], (by first | (simp only [Act.put, List.setIfInBounds_toArray, List.set_cons_succ, List.set_cons_zero] <;> rfl) | rfl), HB_8.out, HX_8.out, HR_8.out, HY_8.out, HP_8.out, by omega⟩⟩
                exact AllReadyH.nil
              exact AllReadyH.nil
            exact AllReadyH.nil
          exact AllReadyH.nil
        exact AllReadyH.nil
      exact AllReadyH.nil
end Go.Proofs.YthhmhcmlbpdlbaaGreat.C14J
