/- Chapter 14: the first head of a zone, the model's. -/
import Derived.Test.YthhmhcmlbpdlbaaGreatC14S
import Derived.Test.YthhmhcmlbpdlbaaGreatC09SP
import Derived.Test.YthhmhcmlbpdlbaaGreatC10S
import Derived.Test.YthhmhcmlbpdlbaaGreatLD
namespace Go.Proofs.YthhmhcmlbpdlbaaGreat.C14F
open Go.RowKit Mem MemS Rep RW R06 R08 R13 R14 Q08 M03 M05 M06 M07 M08 M09 M10 M13 M14 C01 C03S C03H C03D C06S C08S C09S C09SP C10S C13S C14S L13 BX RG RGS
open RKA hiding inI64
set_option linter.unusedVariables false
set_option linter.unusedSimpArgs false
set_option maxRecDepth 100000
def zeroH : Head := ⟨0, 0, 0, 0, 0, 0, 0, 0, ⟨[], 0⟩, ⟨[], 0⟩, 0, ⟨[], 0⟩, false⟩
def fstH (q : Keys) (salt : Int) (l : List Entry) (now term : Int) : Head := ⟨zonOf q salt, 0, 1, now, now + term, (l.length : Int), rootOf l, salt, q, ⟨[], 0⟩, 0, ⟨[], 0⟩, false⟩
def firstH (q : Keys) (salt : Int) (l : List Entry) (now term : Int) : Head × Bool :=
  if (areE l && (inR now 0 100000 && (inR term 0 200 && isHd (fstH q salt l now term)))) = true then (fstH q salt l now term, true) else (zeroH, false)
theorem rootOf_in (l : List Entry) : 0 ≤ rootOf l ∧ rootOf l < 2147483647 := hsh_range _
theorem zero_k (w : World) : RKeys.own w [] [.slice none 0 0, .int .i64 0] ⟨[], 0⟩ := by
  obtain ⟨F, h, _, hF⟩ := (show OwnI RKeys w 0 0 [.slice none 0 0, .int .i64 0] ⟨[], 0⟩ from RKeys_own.2 ⟨none, 0, 0, rfl, Mem.Own.nil _ _ _ _, (show In .i64 0 from inI64 (by omega) (by omega))⟩)
  have : F = [] := List.eq_nil_iff_forall_not_mem.2 fun b hb => by have := hF b hb; omega
  subst this
  exact h
theorem zero_ownH (w : World) (lo hi : Nat) : OwnI RHead w lo hi [.int .i64 0, .int .i64 0, .int .i64 0, .int .i64 0, .int .i64 0, .int .i64 0, .int .i64 0, .int .i64 0, .slice none 0 0, .int .i64 0, .slice none 0 0, .int .i64 0, .int .i64 0, .slice none 0 0, .int .i64 0, .bool false] zeroH :=
  have z : In .i64 0 := inI64 (by omega) (by omega)
  have k : RKeys.own w [] [.slice none 0 0, .int .i64 0] ⟨[], 0⟩ := zero_k w
  ⟨[], RHead_set.2 ⟨none, 0, 0, none, 0, 0, none, 0, 0, [], [], [], rfl, rfl, z, z, z, z, z, z, z, z, k, k, z, k⟩, .nil, by simp⟩
theorem fst_own {w : World} {q : Keys} {salt now term r z : Int} {m : Nat} {A : Option Addr} {n c x y lo hi : Nat} (h : OwnI RKeys w x y [.slice A n c, .int .i64 q.need] q) (hi9 : In .i64 z ∧ In .i64 now ∧ In .i64 (now + term) ∧ In .i64 (m : Int) ∧ In .i64 r ∧ In .i64 salt) (d : lo ≤ x ∧ y ≤ hi) :
    OwnI RHead w lo hi [.int .i64 z, .int .i64 0, .int .i64 1, .int .i64 now, .int .i64 (now + term), .int .i64 (m : Int), .int .i64 r, .int .i64 salt, .slice A n c, .int .i64 q.need, .slice none 0 0, .int .i64 0, .int .i64 0, .slice none 0 0, .int .i64 0, .bool false] ⟨z, 0, 1, now, now + term, (m : Int), r, salt, q, ⟨[], 0⟩, 0, ⟨[], 0⟩, false⟩ := by
  obtain ⟨F, a, u, e⟩ := h
  obtain ⟨F0, g, _, g0⟩ := zero_ownH w 0 0
  have z0 : In .i64 0 := inI64 (by omega) (by omega)
  have k : RKeys.own w [] [.slice none 0 0, .int .i64 0] ⟨[], 0⟩ := zero_k w
  exact ⟨F, RHead_set.2 ⟨A, n, c, none, 0, 0, none, 0, 0, F, [], [], rfl, by simp, hi9.1, z0, (show In .i64 1 from inI64 (by omega) (by omega)), hi9.2.1, hi9.2.2.1, hi9.2.2.2.1, hi9.2.2.2.2.1, hi9.2.2.2.2.2, a, k, z0, k⟩, u, fun b hb => by have := e b hb; omega⟩
set_option maxHeartbeats 16000000 in
theorem sFirstHead_any (ks : List Value) (q : Keys) (salt : Int) (A : Option Addr) (n c : Nat) (l : List Entry) (now term : Int) (w : World) (hq : RKeys.rd w (Lt w.heap.size) ks q) (hs : In .i64 salt) (h : FRdEntry w w.heap.size A n l) (hnow : In .i64 now) (hterm : In .i64 term) (hn : totR totEntry l ≤ 1048576) (hm : totKeys q ≤ 1048576) :
    Calls Tryz.prog 8 #[.agg ks.toArray, .int .i64 salt, .slice A n c, .int .i64 now, .int .i64 term] w fun e w' => ∃ cs', e = .returned (.tuple #[.agg (List.toArray cs'), .bool (firstH q salt l now term).2]) ∧ OwnI RHead w' w.heap.size w'.heap.size cs' (firstH q salt l now term).1 ∧ Below w.heap.size w w' := by
  obtain ⟨qA, qn, qc, rfl, -⟩ := RKeys_rd.1 hq
  have hql : q.list.length ≤ 1048576 := hm
  have hln := h.len
  have htl := totR_len totEntry l
  have hnn : n ≤ 1048576 := by omega
  have hkr := keys_row hq
  have hqn := hkr.1.len
  have HQ := Lib.hid hq
  have HE := Lib.hid h
  have HKR := Lib.hid hkr.1
  have HKI := Lib.hid hkr.2
  have HS := Lib.hid hs
  have HNW := Lib.hid hnow
  have HLN := Lib.hid hln
  have HZI := Lib.hid (show In .i64 (zonOf q salt) from by have := hsh_range (239 :: salt :: keysInts q); unfold zonOf; exact inI64 (by omega) (by omega))
  have HRI := Lib.hid (show In .i64 (rootOf l) from by have := rootOf_in l; exact inI64 (by omega) (by omega))
  have HAE := Lib.hid (fun w1 (hb : Below w.heap.size w w1) => sAreEntries_any A n c l w1 ((HE.out.below hb (Nat.le_refl _)).more hb.size) (by omega))
  have HRO := Lib.hid (fun w1 (hb : Below w.heap.size w w1) => sRootOf_any A n c l w1 ((HE.out.below hb (Nat.le_refl _)).more hb.size) hn)
  have HZO := Lib.hid (fun w1 (hb : Below w.heap.size w w1) => sZoneOf_any _ q salt w1 (upK HQ.out hb) HS.out (by omega))
  have HI1 := Lib.hid (fun w1 => C01.l1In_any now 0 100000 w1)
  have HI2 := Lib.hid (fun w1 => C01.l1In_any term 0 200 w1)
  obtain ⟨P, hP⟩ : ∃ P, firstH q salt l now term = P := ⟨_, rfl⟩
  rw [hP]
  unfold firstH at hP
  have HP := Lib.hid hP
  obtain ⟨b1, hb1⟩ : ∃ b, areE l = b := ⟨_, rfl⟩
  rw [hb1] at HAE HP
  obtain ⟨b2, hb2⟩ : ∃ b, inR now 0 100000 = b := ⟨_, rfl⟩
  rw [hb2] at HI1 HP
  obtain ⟨b3, hb3⟩ : ∃ b, inR term 0 200 = b := ⟨_, rfl⟩
  rw [hb3] at HI2 HP
  have HB2 := Lib.hid hb2
  have HB3 := Lib.hid hb3
  clear hq h hs hnow hterm hln hkr hP hb1 hb2 hb3
  obtain ⟨V, hV⟩ : ∃ V, V = (w.alloc (.cells #[.slice qA qn qc, .int .i64 q.need] 26)).alloc (.cells #[.int .i64 0, .int .i64 0, .int .i64 0, .int .i64 0, .int .i64 0, .int .i64 0, .int .i64 0, .int .i64 0, .slice none 0 0, .int .i64 0, .slice none 0 0, .int .i64 0, .int .i64 0, .slice none 0 0, .int .i64 0, .bool false] 31) := ⟨_, rfl⟩
  have HB_1 := Lib.hid (show Below w.heap.size w V from by
    rw [hV]
    exact ((Below.refl _ _).alloc (by first | (simp; done) | (simp; omega)) _).alloc (by first | (simp; done) | (simp; omega)) _)
  have HX_1 := Lib.hid (show Box V (w.heap.size) [.slice qA qn qc, .int .i64 q.need] from by
    rw [hV]
    have := ((Box.new w #[.slice qA qn qc, .int .i64 q.need] 26).alloc (.cells #[.int .i64 0, .int .i64 0, .int .i64 0, .int .i64 0, .int .i64 0, .int .i64 0, .int .i64 0, .int .i64 0, .slice none 0 0, .int .i64 0, .slice none 0 0, .int .i64 0, .int .i64 0, .slice none 0 0, .int .i64 0, .bool false] 31))
    simpa using this)
  have HR_1 := Lib.hid (show Box V (w.heap.size + 1) [.int .i64 0, .int .i64 0, .int .i64 0, .int .i64 0, .int .i64 0, .int .i64 0, .int .i64 0, .int .i64 0, .slice none 0 0, .int .i64 0, .slice none 0 0, .int .i64 0, .int .i64 0, .slice none 0 0, .int .i64 0, .bool false] from by
    rw [hV]
    have := (Box.new (w.alloc (.cells #[.slice qA qn qc, .int .i64 q.need] 26)) #[.int .i64 0, .int .i64 0, .int .i64 0, .int .i64 0, .int .i64 0, .int .i64 0, .int .i64 0, .int .i64 0, .slice none 0 0, .int .i64 0, .slice none 0 0, .int .i64 0, .int .i64 0, .slice none 0 0, .int .i64 0, .bool false] 31)
    simpa using this)
  have HV := Lib.hid hV
  have hsV : w.heap.size + 2 ≤ V.heap.size ∧ V.heap.size ≤ w.heap.size + 2 := by rw [hV]; simp
  clear hV
  go_enter Tryz.func8, Tryz.ntmps8
  go_wp2_with fail
  rw [show (w.alloc (.cells #[.slice qA qn qc, .int .i64 q.need] 26)).alloc (.cells #[.int .i64 0, .int .i64 0, .int .i64 0, .int .i64 0, .int .i64 0, .int .i64 0, .int .i64 0, .int .i64 0, .slice none 0 0, .int .i64 0, .slice none 0 0, .int .i64 0, .int .i64 0, .slice none 0 0, .int .i64 0, .bool false] 31) = V from HV.out.symm]
  refine (HAE.out _ HB_1.out).mono ?_
  rintro e W1 ⟨rfl, hb⟩
  have HB_2 := Lib.hid (HB_1.out.trans (hb.mono HB_1.out.size))
  have HX_2 := Lib.hid (HX_1.out.below hb HX_1.out.lt)
  have HR_2 := Lib.hid (HR_1.out.below hb HR_1.out.lt)
  clear hb
  have hsW1 := HR_2.out.lt
  rcases b1 with _ | _
  · skip
    obtain ⟨VZ, hVZ⟩ : ∃ u9, puts W1 (w.heap.size + 1) 0 [.int .i64 0, .int .i64 0, .int .i64 0, .int .i64 0, .int .i64 0, .int .i64 0, .int .i64 0, .int .i64 0, .slice none 0 0, .int .i64 0, .slice none 0 0, .int .i64 0, .int .i64 0, .slice none 0 0, .int .i64 0, .bool false] = u9 := ⟨_, rfl⟩
    have HB_3 := Lib.hid (pt_bel hVZ HB_2.out (show w.heap.size ≤ (w.heap.size + 1) by omega))
    have HX_3 := Lib.hid (pt_box hVZ HX_2.out (show (w.heap.size) ≠ (w.heap.size + 1) by omega))
    have HR_3 := Lib.hid (show Box VZ (w.heap.size + 1) [.int .i64 0, .int .i64 0, .int .i64 0, .int .i64 0, .int .i64 0, .int .i64 0, .int .i64 0, .int .i64 0, .slice none 0 0, .int .i64 0, .slice none 0 0, .int .i64 0, .int .i64 0, .slice none 0 0, .int .i64 0, .bool false] from (show Box VZ (w.heap.size + 1) ([] ++ [.int .i64 0, .int .i64 0, .int .i64 0, .int .i64 0, .int .i64 0, .int .i64 0, .int .i64 0, .int .i64 0, .slice none 0 0, .int .i64 0, .slice none 0 0, .int .i64 0, .int .i64 0, .slice none 0 0, .int .i64 0, .bool false] ++ []) from pt_mid hVZ (show Box W1 (w.heap.size + 1) ([] ++ [.int .i64 0, .int .i64 0, .int .i64 0, .int .i64 0, .int .i64 0, .int .i64 0, .int .i64 0, .int .i64 0, .slice none 0 0, .int .i64 0, .slice none 0 0, .int .i64 0, .int .i64 0, .slice none 0 0, .int .i64 0, .bool false] ++ []) from HR_2.out) rfl rfl))
    have HVZ := Lib.hid hVZ
    clear hVZ
    go_wp2_with (refine LD.wp_stV LD.big_Head rfl _ _ rfl rfl rfl HR_2.out rfl (by decide) rfl HVZ.out ?_)
    refine bodyPost_ret (v := .tuple #[.agg #[.int .i64 0, .int .i64 0, .int .i64 0, .int .i64 0, .int .i64 0, .int .i64 0, .int .i64 0, .int .i64 0, .slice none 0 0, .int .i64 0, .slice none 0 0, .int .i64 0, .int .i64 0, .slice none 0 0, .int .i64 0, .bool false], .bool false]) (LD.res_cell_tmp LD.big_Head Tryz.results8 rfl rfl HR_3.out rfl) rfl ⟨[.int .i64 0, .int .i64 0, .int .i64 0, .int .i64 0, .int .i64 0, .int .i64 0, .int .i64 0, .int .i64 0, .slice none 0 0, .int .i64 0, .slice none 0 0, .int .i64 0, .int .i64 0, .slice none 0 0, .int .i64 0, .bool false], by rw [← HP.out]; simp, by rw [← HP.out]; simp only [Bool.and_false, Bool.false_and, Bool.true_and, Bool.false_eq_true, if_false]; exact zero_ownH _ _ _, HB_3.out⟩
  · skip
    go_wp2_with fail
    refine (HI1.out _).mono ?_
    rintro e wq ⟨rfl, rfl⟩
    rcases b2 with _ | _
    · skip
      obtain ⟨VZ, hVZ⟩ : ∃ u9, puts W1 (w.heap.size + 1) 0 [.int .i64 0, .int .i64 0, .int .i64 0, .int .i64 0, .int .i64 0, .int .i64 0, .int .i64 0, .int .i64 0, .slice none 0 0, .int .i64 0, .slice none 0 0, .int .i64 0, .int .i64 0, .slice none 0 0, .int .i64 0, .bool false] = u9 := ⟨_, rfl⟩
      have HB_3 := Lib.hid (pt_bel hVZ HB_2.out (show w.heap.size ≤ (w.heap.size + 1) by omega))
      have HX_3 := Lib.hid (pt_box hVZ HX_2.out (show (w.heap.size) ≠ (w.heap.size + 1) by omega))
      have HR_3 := Lib.hid (show Box VZ (w.heap.size + 1) [.int .i64 0, .int .i64 0, .int .i64 0, .int .i64 0, .int .i64 0, .int .i64 0, .int .i64 0, .int .i64 0, .slice none 0 0, .int .i64 0, .slice none 0 0, .int .i64 0, .int .i64 0, .slice none 0 0, .int .i64 0, .bool false] from (show Box VZ (w.heap.size + 1) ([] ++ [.int .i64 0, .int .i64 0, .int .i64 0, .int .i64 0, .int .i64 0, .int .i64 0, .int .i64 0, .int .i64 0, .slice none 0 0, .int .i64 0, .slice none 0 0, .int .i64 0, .int .i64 0, .slice none 0 0, .int .i64 0, .bool false] ++ []) from pt_mid hVZ (show Box W1 (w.heap.size + 1) ([] ++ [.int .i64 0, .int .i64 0, .int .i64 0, .int .i64 0, .int .i64 0, .int .i64 0, .int .i64 0, .int .i64 0, .slice none 0 0, .int .i64 0, .slice none 0 0, .int .i64 0, .int .i64 0, .slice none 0 0, .int .i64 0, .bool false] ++ []) from HR_2.out) rfl rfl))
      have HVZ := Lib.hid hVZ
      clear hVZ
      go_wp2_with (refine LD.wp_stV LD.big_Head rfl _ _ rfl rfl rfl HR_2.out rfl (by decide) rfl HVZ.out ?_)
      refine bodyPost_ret (v := .tuple #[.agg #[.int .i64 0, .int .i64 0, .int .i64 0, .int .i64 0, .int .i64 0, .int .i64 0, .int .i64 0, .int .i64 0, .slice none 0 0, .int .i64 0, .slice none 0 0, .int .i64 0, .int .i64 0, .slice none 0 0, .int .i64 0, .bool false], .bool false]) (LD.res_cell_tmp LD.big_Head Tryz.results8 rfl rfl HR_3.out rfl) rfl ⟨[.int .i64 0, .int .i64 0, .int .i64 0, .int .i64 0, .int .i64 0, .int .i64 0, .int .i64 0, .int .i64 0, .slice none 0 0, .int .i64 0, .slice none 0 0, .int .i64 0, .int .i64 0, .slice none 0 0, .int .i64 0, .bool false], by rw [← HP.out]; simp, by rw [← HP.out]; simp only [Bool.and_false, Bool.false_and, Bool.true_and, Bool.false_eq_true, if_false]; exact zero_ownH _ _ _, HB_3.out⟩
    · skip
      go_wp2_with fail
      refine (HI2.out _).mono ?_
      rintro e wq ⟨rfl, rfl⟩
      rcases b3 with _ | _
      · skip
        obtain ⟨VZ, hVZ⟩ : ∃ u9, puts W1 (w.heap.size + 1) 0 [.int .i64 0, .int .i64 0, .int .i64 0, .int .i64 0, .int .i64 0, .int .i64 0, .int .i64 0, .int .i64 0, .slice none 0 0, .int .i64 0, .slice none 0 0, .int .i64 0, .int .i64 0, .slice none 0 0, .int .i64 0, .bool false] = u9 := ⟨_, rfl⟩
        have HB_3 := Lib.hid (pt_bel hVZ HB_2.out (show w.heap.size ≤ (w.heap.size + 1) by omega))
        have HX_3 := Lib.hid (pt_box hVZ HX_2.out (show (w.heap.size) ≠ (w.heap.size + 1) by omega))
        have HR_3 := Lib.hid (show Box VZ (w.heap.size + 1) [.int .i64 0, .int .i64 0, .int .i64 0, .int .i64 0, .int .i64 0, .int .i64 0, .int .i64 0, .int .i64 0, .slice none 0 0, .int .i64 0, .slice none 0 0, .int .i64 0, .int .i64 0, .slice none 0 0, .int .i64 0, .bool false] from (show Box VZ (w.heap.size + 1) ([] ++ [.int .i64 0, .int .i64 0, .int .i64 0, .int .i64 0, .int .i64 0, .int .i64 0, .int .i64 0, .int .i64 0, .slice none 0 0, .int .i64 0, .slice none 0 0, .int .i64 0, .int .i64 0, .slice none 0 0, .int .i64 0, .bool false] ++ []) from pt_mid hVZ (show Box W1 (w.heap.size + 1) ([] ++ [.int .i64 0, .int .i64 0, .int .i64 0, .int .i64 0, .int .i64 0, .int .i64 0, .int .i64 0, .int .i64 0, .slice none 0 0, .int .i64 0, .slice none 0 0, .int .i64 0, .int .i64 0, .slice none 0 0, .int .i64 0, .bool false] ++ []) from HR_2.out) rfl rfl))
        have HVZ := Lib.hid hVZ
        clear hVZ
        go_wp2_with (refine LD.wp_stV LD.big_Head rfl _ _ rfl rfl rfl HR_2.out rfl (by decide) rfl HVZ.out ?_)
        refine bodyPost_ret (v := .tuple #[.agg #[.int .i64 0, .int .i64 0, .int .i64 0, .int .i64 0, .int .i64 0, .int .i64 0, .int .i64 0, .int .i64 0, .slice none 0 0, .int .i64 0, .slice none 0 0, .int .i64 0, .int .i64 0, .slice none 0 0, .int .i64 0, .bool false], .bool false]) (LD.res_cell_tmp LD.big_Head Tryz.results8 rfl rfl HR_3.out rfl) rfl ⟨[.int .i64 0, .int .i64 0, .int .i64 0, .int .i64 0, .int .i64 0, .int .i64 0, .int .i64 0, .int .i64 0, .slice none 0 0, .int .i64 0, .slice none 0 0, .int .i64 0, .int .i64 0, .slice none 0 0, .int .i64 0, .bool false], by rw [← HP.out]; simp, by rw [← HP.out]; simp only [Bool.and_false, Bool.false_and, Bool.true_and, Bool.false_eq_true, if_false]; exact zero_ownH _ _ _, HB_3.out⟩
      · skip
        have hnt : 0 ≤ now ∧ now ≤ 100000 ∧ 0 ≤ term ∧ term ≤ 200 := by
          have g1 := HB2.out
          have g2 := HB3.out
          unfold inR at g1 g2
          simp at g1 g2
          omega
        have hw1 : IntKind.i64.wrap (now + term) = now + term := by rw [IntKind.wrap_i64]; omega
        go_wp2_with fail
        refine OS.rest_first (fun a0 a v => ∃ (gY : Nat) (D0 : Option Addr) (e0 xl xh : Nat) (vv27 vv28 vv29 vv30 vv31 vv32 vv33 vv34 vv35 vv36 vv37 vv38 vv39 vv40 vv41 : Value), a = ((((((((((((((((a0.put (some 27) vv27).put (some 28) vv28).put (some 29) vv29).put (some 30) vv30).put (some 31) vv31).put (some 32) vv32).put (some 33) vv33).put (some 34) vv34).put (some 35) vv35).put (some 36) vv36).put (some 37) vv37).put (some 38) vv38).put (some 39) vv39).put (some 40) vv40).put (some 41) vv41).put (some 12) (.pointer (some ⟨gY, 0, none⟩))) ∧ Below w.heap.size w v ∧ Box v (w.heap.size) [.slice qA qn qc, .int .i64 q.need] ∧ Box v (w.heap.size + 1) [.int .i64 0, .int .i64 0, .int .i64 0, .int .i64 0, .int .i64 0, .int .i64 0, .int .i64 0, .int .i64 0, .slice none 0 0, .int .i64 0, .slice none 0 0, .int .i64 0, .int .i64 0, .slice none 0 0, .int .i64 0, .bool false] ∧ Box v gY [.int .i64 (zonOf q salt), .int .i64 0, .int .i64 1, .int .i64 now, .int .i64 (now + term), .int .i64 (n : Int), .int .i64 (rootOf l), .int .i64 salt, .slice D0 qn e0, .int .i64 q.need, .slice none 0 0, .int .i64 0, .int .i64 0, .slice none 0 0, .int .i64 0, .bool false] ∧ (OwnI RKeys v xl xh [.slice D0 qn e0, .int .i64 q.need] q ∧ xh ≤ v.heap.size ∧ (w.heap.size + 2) ≤ xl) ∧ w.heap.size + 2 ≤ gY) ?_ ?_
        · skip
          rintro a9 VF ⟨gY, D0, e0, xl, xh, vv27, vv28, vv29, vv30, vv31, vv32, vv33, vv34, vv35, vv36, vv37, vv38, vv39, vv40, vv41, rfl, hB9, hX9, hR9, hY9, hP9, hgY⟩
          simp only [Act.put, List.setIfInBounds_toArray, List.set_cons_succ, List.set_cons_zero]
          rename_i K9 hK9
          refine hK9 _ _ ?_
          have HB_50 := Lib.hid hB9
          have HX_50 := Lib.hid hX9
          have HR_50 := Lib.hid hR9
          have HY_50 := Lib.hid hY9
          have HP_50 := Lib.hid hP9
          have hxl := hP9.2.2
          have hxh := hP9.2.1
          clear hB9 hX9 hR9 hY9 hP9
          have HO := Lib.hid (fst_own (salt := salt) (now := now) (term := term) (r := rootOf l) (z := zonOf q salt) (m := n) (lo := w.heap.size + 2) (hi := VF.heap.size) HP_50.out.1 ⟨HZI.out, HNW.out, inI64 (by omega) (by omega), inI64 (by omega) (by omega), HRI.out, HS.out⟩ ⟨HP_50.out.2.2, HP_50.out.2.1⟩)
          have HIH := Lib.hid (sIsHead_any [.int .i64 (zonOf q salt), .int .i64 0, .int .i64 1, .int .i64 now, .int .i64 (now + term), .int .i64 (n : Int), .int .i64 (rootOf l), .int .i64 salt, .slice D0 qn e0, .int .i64 q.need, .slice none 0 0, .int .i64 0, .int .i64 0, .slice none 0 0, .int .i64 0, .bool false] (fstH q salt l now term) VF (by unfold fstH; rw [HLN.out]; exact RHead.more HO.out.rd fun i hi => hi) (by unfold totHead totKeys fstH; simp only [List.length_nil]; omega))
          obtain ⟨b4, hb4⟩ : ∃ b, isHd (fstH q salt l now term) = b := ⟨_, rfl⟩
          rw [hb4] at HIH HP
          clear hb4
          go_wp2_with (refine LD.wp_ld LD.big_Head rfl _ rfl rfl HY_50.out rfl ?_)
          refine HIH.out.mono ?_
          rintro e WE ⟨rfl, hb⟩
          have HB_51 := Lib.hid (HB_50.out.trans (hb.mono HB_50.out.size))
          have HX_51 := Lib.hid (HX_50.out.below hb HX_50.out.lt)
          have HR_51 := Lib.hid (HR_50.out.below hb HR_50.out.lt)
          have HY_51 := Lib.hid (HY_50.out.below hb HY_50.out.lt)
          have HP_51 := Lib.hid (show OwnI RKeys WE (xl) (xh) [.slice D0 qn e0, .int .i64 q.need] q ∧ (xh) ≤ WE.heap.size ∧ (w.heap.size + 2) ≤ (xl) from ⟨HP_50.out.1.below hb HP_50.out.2.1, Nat.le_trans HP_50.out.2.1 hb.size, HP_50.out.2.2⟩)
          have HO2 := Lib.hid ((HO.out.below hb (Nat.le_refl _)).wide (Nat.le_refl _) hb.size)
          have hsWE := hb.size
          clear hb
          rcases b4 with _ | _
          · skip
            obtain ⟨VZ, hVZ⟩ : ∃ u9, puts WE (w.heap.size + 1) 0 [.int .i64 0, .int .i64 0, .int .i64 0, .int .i64 0, .int .i64 0, .int .i64 0, .int .i64 0, .int .i64 0, .slice none 0 0, .int .i64 0, .slice none 0 0, .int .i64 0, .int .i64 0, .slice none 0 0, .int .i64 0, .bool false] = u9 := ⟨_, rfl⟩
            have HB_52 := Lib.hid (pt_bel hVZ HB_51.out (show w.heap.size ≤ (w.heap.size + 1) by omega))
            have HX_52 := Lib.hid (pt_box hVZ HX_51.out (show (w.heap.size) ≠ (w.heap.size + 1) by omega))
            have HR_52 := Lib.hid (show Box VZ (w.heap.size + 1) [.int .i64 0, .int .i64 0, .int .i64 0, .int .i64 0, .int .i64 0, .int .i64 0, .int .i64 0, .int .i64 0, .slice none 0 0, .int .i64 0, .slice none 0 0, .int .i64 0, .int .i64 0, .slice none 0 0, .int .i64 0, .bool false] from (show Box VZ (w.heap.size + 1) ([] ++ [.int .i64 0, .int .i64 0, .int .i64 0, .int .i64 0, .int .i64 0, .int .i64 0, .int .i64 0, .int .i64 0, .slice none 0 0, .int .i64 0, .slice none 0 0, .int .i64 0, .int .i64 0, .slice none 0 0, .int .i64 0, .bool false] ++ []) from pt_mid hVZ (show Box WE (w.heap.size + 1) ([] ++ [.int .i64 0, .int .i64 0, .int .i64 0, .int .i64 0, .int .i64 0, .int .i64 0, .int .i64 0, .int .i64 0, .slice none 0 0, .int .i64 0, .slice none 0 0, .int .i64 0, .int .i64 0, .slice none 0 0, .int .i64 0, .bool false] ++ []) from HR_51.out) rfl rfl))
            have HY_52 := Lib.hid (pt_box hVZ HY_51.out (show (gY) ≠ (w.heap.size + 1) by omega))
            have HVZ := Lib.hid hVZ
            clear hVZ
            have HP_52 := Lib.hid (show OwnI RKeys VZ (xl) (xh) [.slice D0 qn e0, .int .i64 q.need] q ∧ (xh) ≤ VZ.heap.size ∧ (w.heap.size + 2) ≤ (xl) from ⟨HP_51.out.1.keep fun i _ h1 h2 => by rw [← HVZ.out]; exact puts_keep (by omega) _ _, by rw [← HVZ.out, puts_size]; exact HP_51.out.2.1, HP_51.out.2.2⟩)
            go_wp2_with (refine LD.wp_stV LD.big_Head rfl _ _ rfl rfl rfl HR_51.out rfl (by decide) rfl HVZ.out ?_)
            refine bodyPost_ret (v := .tuple #[.agg #[.int .i64 0, .int .i64 0, .int .i64 0, .int .i64 0, .int .i64 0, .int .i64 0, .int .i64 0, .int .i64 0, .slice none 0 0, .int .i64 0, .slice none 0 0, .int .i64 0, .int .i64 0, .slice none 0 0, .int .i64 0, .bool false], .bool false]) (LD.res_cell_tmp LD.big_Head Tryz.results8 rfl rfl HR_52.out rfl) rfl ⟨[.int .i64 0, .int .i64 0, .int .i64 0, .int .i64 0, .int .i64 0, .int .i64 0, .int .i64 0, .int .i64 0, .slice none 0 0, .int .i64 0, .slice none 0 0, .int .i64 0, .int .i64 0, .slice none 0 0, .int .i64 0, .bool false], by rw [← HP.out]; simp, by rw [← HP.out]; simp only [Bool.and_false, Bool.false_and, Bool.true_and, Bool.false_eq_true, if_false]; exact zero_ownH _ _ _, HB_52.out⟩
          · skip
            obtain ⟨VR, hVR⟩ : ∃ u9, puts WE (w.heap.size + 1) 0 [.int .i64 (zonOf q salt), .int .i64 0, .int .i64 1, .int .i64 now, .int .i64 (now + term), .int .i64 (n : Int), .int .i64 (rootOf l), .int .i64 salt, .slice D0 qn e0, .int .i64 q.need, .slice none 0 0, .int .i64 0, .int .i64 0, .slice none 0 0, .int .i64 0, .bool false] = u9 := ⟨_, rfl⟩
            have HB_52 := Lib.hid (pt_bel hVR HB_51.out (show w.heap.size ≤ (w.heap.size + 1) by omega))
            have HX_52 := Lib.hid (pt_box hVR HX_51.out (show (w.heap.size) ≠ (w.heap.size + 1) by omega))
            have HR_52 := Lib.hid (show Box VR (w.heap.size + 1) [.int .i64 (zonOf q salt), .int .i64 0, .int .i64 1, .int .i64 now, .int .i64 (now + term), .int .i64 (n : Int), .int .i64 (rootOf l), .int .i64 salt, .slice D0 qn e0, .int .i64 q.need, .slice none 0 0, .int .i64 0, .int .i64 0, .slice none 0 0, .int .i64 0, .bool false] from (show Box VR (w.heap.size + 1) ([] ++ [.int .i64 (zonOf q salt), .int .i64 0, .int .i64 1, .int .i64 now, .int .i64 (now + term), .int .i64 (n : Int), .int .i64 (rootOf l), .int .i64 salt, .slice D0 qn e0, .int .i64 q.need, .slice none 0 0, .int .i64 0, .int .i64 0, .slice none 0 0, .int .i64 0, .bool false] ++ []) from pt_mid hVR (show Box WE (w.heap.size + 1) ([] ++ [.int .i64 0, .int .i64 0, .int .i64 0, .int .i64 0, .int .i64 0, .int .i64 0, .int .i64 0, .int .i64 0, .slice none 0 0, .int .i64 0, .slice none 0 0, .int .i64 0, .int .i64 0, .slice none 0 0, .int .i64 0, .bool false] ++ []) from HR_51.out) rfl rfl))
            have HY_52 := Lib.hid (pt_box hVR HY_51.out (show (gY) ≠ (w.heap.size + 1) by omega))
            have HVR := Lib.hid hVR
            clear hVR
            go_wp2_with (first | (refine LD.wp_ld LD.big_Head rfl _ rfl rfl HY_51.out rfl ?_) | (refine LD.wp_stV LD.big_Head rfl _ _ rfl rfl rfl HR_51.out rfl (by decide) rfl HVR.out ?_))
            refine bodyPost_ret (v := .tuple #[.agg #[.int .i64 (zonOf q salt), .int .i64 0, .int .i64 1, .int .i64 now, .int .i64 (now + term), .int .i64 (n : Int), .int .i64 (rootOf l), .int .i64 salt, .slice D0 qn e0, .int .i64 q.need, .slice none 0 0, .int .i64 0, .int .i64 0, .slice none 0 0, .int .i64 0, .bool false], .bool true]) (LD.res_cell_tmp LD.big_Head Tryz.results8 rfl rfl HR_52.out rfl) rfl ⟨[.int .i64 (zonOf q salt), .int .i64 0, .int .i64 1, .int .i64 now, .int .i64 (now + term), .int .i64 (n : Int), .int .i64 (rootOf l), .int .i64 salt, .slice D0 qn e0, .int .i64 q.need, .slice none 0 0, .int .i64 0, .int .i64 0, .slice none 0 0, .int .i64 0, .bool false], by rw [← HP.out]; simp, ?_, HB_52.out⟩
            rw [← HP.out]
            simp only [Bool.and_self, if_true]
            unfold fstH
            rw [HLN.out]
            refine (HO2.out.keep (w' := VR) fun i _ h1 _ => by rw [← HVR.out]; exact puts_keep (by omega) _ _).wide (by omega) ?_
            rw [← HVR.out]
            exact Nat.le_of_eq (puts_size _ _).symm
        · intro J9 HJ9
          refine wp_region_held (S := (fun w9 => w9.rangeAt (w.heap.size) 0 [.slice qA qn qc, .int .i64 q.need])) (by kernel_rfl) ?_
          change wpAnyH _ _ _ _ _ _ _ _ (World.drew _)
          have hdr : Below W1.heap.size W1 W1.drew := (Below.refl _ _).drew
          have HB_3 := Lib.hid (HB_2.out.trans (hdr.mono HB_2.out.size))
          have HX_3 := Lib.hid (HX_2.out.below hdr HX_2.out.lt)
          have HR_3 := Lib.hid (HR_2.out.below hdr HR_2.out.lt)
          clear hdr
          have hsd : W1.drew.heap.size = W1.heap.size := rfl
          refine wpAnyH_take (i := 0) rfl (by kernel_rfl) (by kernel_rfl) (by kernel_rfl) (fun _ _ _ h => absurd h.1 (by simp)) (LD.yl LD.big_Keys (by rfl) _ rfl rfl (fun w9 h9 => h9) rfl) (LD.box_range HX_3.out) ?_
          simp only [Act.put, List.getElem_toArray, List.getElem_cons_zero, List.getElem_cons_succ, List.setIfInBounds_toArray, List.set_cons_succ, List.set_cons_zero]
          refine wpAnyH_take (i := 1) (v := .int .i64 salt) rfl (by kernel_rfl) (by kernel_rfl) (by kernel_rfl) (fun _ _ _ h => absurd h.1 (by simp)) (Or.inl ⟨by rfl, fun w h => ?_⟩) (LD.box_range HX_3.out) ?_
          · clear h
            go_simp
          simp only [Act.put, List.getElem_toArray, List.getElem_cons_zero, List.getElem_cons_succ, List.setIfInBounds_toArray, List.set_cons_succ, List.set_cons_zero]
          refine wpAnyH_take (i := 3) (v := .int .i64 now) rfl (by kernel_rfl) (by kernel_rfl) (by kernel_rfl) (fun _ _ _ h => absurd h.1 (by simp)) (Or.inl ⟨by rfl, fun w h => ?_⟩) (LD.box_range HX_3.out) ?_
          · clear h
            go_simp
          simp only [Act.put, List.getElem_toArray, List.getElem_cons_zero, List.getElem_cons_succ, List.setIfInBounds_toArray, List.set_cons_succ, List.set_cons_zero]
          refine wpAnyH_take (i := 4) (v := .int .i64 now) rfl (by kernel_rfl) (by kernel_rfl) (by kernel_rfl) (fun _ _ _ h => absurd h.1 (by simp)) (Or.inl ⟨by rfl, fun w h => ?_⟩) (LD.box_range HX_3.out) ?_
          · clear h
            go_simp
          simp only [Act.put, List.getElem_toArray, List.getElem_cons_zero, List.getElem_cons_succ, List.setIfInBounds_toArray, List.set_cons_succ, List.set_cons_zero]
          refine wpAnyH_take (i := 5) (v := .int .i64 term) rfl (by kernel_rfl) (by kernel_rfl) (by kernel_rfl) (fun _ _ _ h => absurd h.1 (by simp)) (Or.inl ⟨by rfl, fun w h => ?_⟩) (LD.box_range HX_3.out) ?_
          · clear h
            go_simp
          simp only [Act.put, List.getElem_toArray, List.getElem_cons_zero, List.getElem_cons_succ, List.setIfInBounds_toArray, List.set_cons_succ, List.set_cons_zero]
          refine wpAnyH_take (i := 6) (v := .int .i64 (now + term)) rfl (by kernel_rfl) (by kernel_rfl) (by kernel_rfl) (fun _ _ _ h => absurd h.1 (by simp)) (Or.inl ⟨by rfl, fun w h => ?_⟩) (LD.box_range HX_3.out) ?_
          · clear h
            go_simp
          simp only [Act.put, List.getElem_toArray, List.getElem_cons_zero, List.getElem_cons_succ, List.setIfInBounds_toArray, List.set_cons_succ, List.set_cons_zero]
          refine wpAnyH_take (i := 7) (v := .slice A n c) rfl (by kernel_rfl) (by kernel_rfl) (by kernel_rfl) (fun _ _ _ h => absurd h.1 (by simp)) (Or.inl ⟨by rfl, fun w h => ?_⟩) (LD.box_range HX_3.out) ?_
          · clear h
            go_simp
          simp only [Act.put, List.getElem_toArray, List.getElem_cons_zero, List.getElem_cons_succ, List.setIfInBounds_toArray, List.set_cons_succ, List.set_cons_zero]
          refine wpAnyH_take (i := 8) (v := .int .i64 (n : Int)) rfl (by kernel_rfl) (by kernel_rfl) (by kernel_rfl) (fun _ _ _ h => absurd h.1 (by simp)) (Or.inl ⟨by rfl, fun w h => ?_⟩) (LD.box_range HX_3.out) ?_
          · clear h
            go_simp
          simp only [Act.put, List.getElem_toArray, List.getElem_cons_zero, List.getElem_cons_succ, List.setIfInBounds_toArray, List.set_cons_succ, List.set_cons_zero]
          refine wpAnyH_take (i := 9) (v := .slice A n c) rfl (by kernel_rfl) (by kernel_rfl) (by kernel_rfl) (fun _ _ _ h => absurd h.1 (by simp)) (Or.inl ⟨by rfl, fun w h => ?_⟩) (LD.box_range HX_3.out) ?_
          · clear h
            go_simp
          simp only [Act.put, List.getElem_toArray, List.getElem_cons_zero, List.getElem_cons_succ, List.setIfInBounds_toArray, List.set_cons_succ, List.set_cons_zero]
          refine wpAnyH_take (i := 11) (v := .int .i64 salt) rfl (by kernel_rfl) (by kernel_rfl) (by kernel_rfl) (fun _ _ _ h => absurd h.1 (by simp)) (Or.inl ⟨by rfl, fun w h => ?_⟩) (LD.box_range HX_3.out) ?_
          · clear h
            go_simp
          simp only [Act.put, List.getElem_toArray, List.getElem_cons_zero, List.getElem_cons_succ, List.setIfInBounds_toArray, List.set_cons_succ, List.set_cons_zero]
          refine wpAnyH_take (i := 12) rfl (by kernel_rfl) (by kernel_rfl) (by kernel_rfl) (fun _ _ _ h => absurd h.1 (by simp)) (LD.yl LD.big_Keys (by rfl) _ rfl rfl (fun w9 h9 => h9) rfl) (LD.box_range HX_3.out) ?_
          simp only [Act.put, List.getElem_toArray, List.getElem_cons_zero, List.getElem_cons_succ, List.setIfInBounds_toArray, List.set_cons_succ, List.set_cons_zero]
          refine wpAnyH_ready (rs := [2, 15]) (by kernel_rfl) (by simp) ?_
          refine AllReadyH.cons rfl (fun K hK => ?_) ?_
          · refine RGS.free rfl ?_
            try simp only [List.getElem_toArray, List.getElem_cons_zero, List.getElem_cons_succ]
            go_simp
            go_at_call 18
            refine (HZO.out _ HB_3.out).mono ?_
            rintro e WZoneOf ⟨rfl, hb⟩
            have HB_4 := Lib.hid (HB_3.out.trans (hb.mono HB_3.out.size))
            have HX_4 := Lib.hid (HX_3.out.below hb HX_3.out.lt)
            have HR_4 := Lib.hid (HR_3.out.below hb HR_3.out.lt)
            have hsWZoneOf := hb.size
            clear hb
            go_simp
            refine hK.out _ _ (LD.box_range HX_4.out) (fun _ => ?_)
            clear hK K
            refine wpAnyH_ready (rs := [10, 15]) (by kernel_rfl) (by simp) ?_
            refine AllReadyH.cons rfl (fun K hK => ?_) ?_
            · refine RGS.free rfl ?_
              try simp only [List.getElem_toArray, List.getElem_cons_zero, List.getElem_cons_succ]
              go_simp
              go_at_call 40
              refine (HRO.out _ HB_4.out).mono ?_
              rintro e WRootOf ⟨rfl, hb⟩
              have HB_5 := Lib.hid (HB_4.out.trans (hb.mono HB_4.out.size))
              have HX_5 := Lib.hid (HX_4.out.below hb HX_4.out.lt)
              have HR_5 := Lib.hid (HR_4.out.below hb HR_4.out.lt)
              have hsWRootOf := hb.size
              clear hb
              go_simp
              refine hK.out _ _ (LD.box_range HX_5.out) (fun _ => ?_)
              clear hK K
              refine wpAnyH_ready (rs := [13, 15]) (by kernel_rfl) (by simp) ?_
              refine AllReadyH.cons rfl (fun K hK => ?_) ?_
              · refine RGS.free rfl ?_
                try simp only [List.getElem_toArray, List.getElem_cons_zero, List.getElem_cons_succ]
                go_simp
                go_at_call 41
                refine (l6Copy_any _ qA qn qc q.list q.need ((HKR.out.below HB_5.out (Nat.le_refl _)).more HB_5.out.size) (by omega)).mono ?_
                rintro e Wl6Copy ⟨D0, e0, rfl, ho, hb⟩
                have HB_6 := Lib.hid (HB_5.out.trans (hb.mono HB_5.out.size))
                have HX_6 := Lib.hid (HX_5.out.below hb HX_5.out.lt)
                have HR_6 := Lib.hid (HR_5.out.below hb HR_5.out.lt)
                have hsWl6Copy := hb.size
                have HP_6 := Lib.hid (show OwnI RKeys Wl6Copy (WRootOf.heap.size) (Wl6Copy.heap.size) [.slice D0 qn e0, .int .i64 q.need] q ∧ (Wl6Copy.heap.size) ≤ Wl6Copy.heap.size ∧ (w.heap.size + 2) ≤ (WRootOf.heap.size) from ⟨RKeys_own.2 ⟨D0, qn, e0, rfl, ho, HKI.out⟩, Nat.le_refl _, by omega⟩)
                clear ho
                clear hb
                go_simp
                refine hK.out _ _ (LD.box_range HX_6.out) (fun _ => ?_)
                clear hK K
                refine wpAnyH_ready (rs := [14, 15]) (by kernel_rfl) (by simp) ?_
                refine AllReadyH.cons rfl (fun K hK => ?_) ?_
                · refine RGS.free rfl ?_
                  try simp only [List.getElem_toArray, List.getElem_cons_zero, List.getElem_cons_succ]
                  go_simp
                  refine hK.out _ _ (LD.box_range HX_6.out) (fun _ => ?_)
                  clear hK K
                  refine wpAnyH_ready (rs := [15]) (by kernel_rfl) (by simp) ?_
                  refine AllReadyH.cons rfl (fun K hK => ?_) ?_
                  · refine RGS.free rfl ?_
                    try simp only [List.getElem_toArray, List.getElem_cons_zero, List.getElem_cons_succ]
                    go_simp
                    have hal : Below Wl6Copy.heap.size Wl6Copy (Wl6Copy.alloc (.cells #[.int .i64 0, .int .i64 0, .int .i64 0, .int .i64 0, .int .i64 0, .int .i64 0, .int .i64 0, .int .i64 0, .slice none 0 0, .int .i64 0, .slice none 0 0, .int .i64 0, .int .i64 0, .slice none 0 0, .int .i64 0, .bool false] 31)) := (Below.refl _ _).alloc (Nat.le_refl _) _
                    have HB_7 := Lib.hid (HB_6.out.trans (hal.mono HB_6.out.size))
                    have HX_7 := Lib.hid (HX_6.out.below hal HX_6.out.lt)
                    have HR_7 := Lib.hid (HR_6.out.below hal HR_6.out.lt)
                    have HP_7 := Lib.hid (show OwnI RKeys (Wl6Copy.alloc (.cells #[.int .i64 0, .int .i64 0, .int .i64 0, .int .i64 0, .int .i64 0, .int .i64 0, .int .i64 0, .int .i64 0, .slice none 0 0, .int .i64 0, .slice none 0 0, .int .i64 0, .int .i64 0, .slice none 0 0, .int .i64 0, .bool false] 31)) (WRootOf.heap.size) (Wl6Copy.heap.size) [.slice D0 qn e0, .int .i64 q.need] q ∧ (Wl6Copy.heap.size) ≤ (Wl6Copy.alloc (.cells #[.int .i64 0, .int .i64 0, .int .i64 0, .int .i64 0, .int .i64 0, .int .i64 0, .int .i64 0, .int .i64 0, .slice none 0 0, .int .i64 0, .slice none 0 0, .int .i64 0, .int .i64 0, .slice none 0 0, .int .i64 0, .bool false] 31)).heap.size ∧ (w.heap.size + 2) ≤ (WRootOf.heap.size) from ⟨HP_6.out.1.below hal HP_6.out.2.1, Nat.le_trans HP_6.out.2.1 hal.size, HP_6.out.2.2⟩)
                    have HY_7 := Lib.hid (show Box (Wl6Copy.alloc (.cells #[.int .i64 0, .int .i64 0, .int .i64 0, .int .i64 0, .int .i64 0, .int .i64 0, .int .i64 0, .int .i64 0, .slice none 0 0, .int .i64 0, .slice none 0 0, .int .i64 0, .int .i64 0, .slice none 0 0, .int .i64 0, .bool false] 31)) (Wl6Copy.heap.size) [.int .i64 0, .int .i64 0, .int .i64 0, .int .i64 0, .int .i64 0, .int .i64 0, .int .i64 0, .int .i64 0, .slice none 0 0, .int .i64 0, .slice none 0 0, .int .i64 0, .int .i64 0, .slice none 0 0, .int .i64 0, .bool false] from Box.new Wl6Copy #[.int .i64 0, .int .i64 0, .int .i64 0, .int .i64 0, .int .i64 0, .int .i64 0, .int .i64 0, .int .i64 0, .slice none 0 0, .int .i64 0, .slice none 0 0, .int .i64 0, .int .i64 0, .slice none 0 0, .int .i64 0, .bool false] 31)
                    obtain ⟨VY, hVY⟩ : ∃ u9, Wl6Copy.alloc (.cells #[.int .i64 0, .int .i64 0, .int .i64 0, .int .i64 0, .int .i64 0, .int .i64 0, .int .i64 0, .int .i64 0, .slice none 0 0, .int .i64 0, .slice none 0 0, .int .i64 0, .int .i64 0, .slice none 0 0, .int .i64 0, .bool false] 31) = u9 := ⟨_, rfl⟩
                    rw [hVY] at HB_7 HX_7 HR_7 HP_7 HY_7
                    have HVY := Lib.hid hVY
                    clear hal
                    have hsVY : Wl6Copy.heap.size + 1 ≤ VY.heap.size := by rw [← hVY]; simp
                    clear hVY
                    first | rw [HVY.out] | rw [show (Wl6Copy.alloc (.cells #[.int .i64 0, .int .i64 0, .int .i64 0, .int .i64 0, .int .i64 0, .int .i64 0, .int .i64 0, .int .i64 0, .slice none 0 0, .int .i64 0, .slice none 0 0, .int .i64 0, .int .i64 0, .slice none 0 0, .int .i64 0, .bool false] 31)).drew = VY from HVY.out]
                    refine hK.out _ _ (LD.box_range HX_7.out) (fun _ => ?_)
                    clear hK K
                    refine wpAnyH_ready (rs := [16]) (by kernel_rfl) (by simp) ?_
                    refine AllReadyH.cons rfl (fun K hK => ?_) ?_
                    · refine RGS.free rfl ?_
                      try simp only [List.getElem_toArray, List.getElem_cons_zero, List.getElem_cons_succ]
                      obtain ⟨VF, hVF⟩ : ∃ u9, puts VY (Wl6Copy.heap.size) 0 [.int .i64 (zonOf q salt), .int .i64 0, .int .i64 1, .int .i64 now, .int .i64 (now + term), .int .i64 (n : Int), .int .i64 (rootOf l), .int .i64 salt, .slice D0 qn e0, .int .i64 q.need, .slice none 0 0, .int .i64 0, .int .i64 0, .slice none 0 0, .int .i64 0, .bool false] = u9 := ⟨_, rfl⟩
                      have HB_8 := Lib.hid (pt_bel hVF HB_7.out (show w.heap.size ≤ (Wl6Copy.heap.size) by omega))
                      have HX_8 := Lib.hid (pt_box hVF HX_7.out (show (w.heap.size) ≠ (Wl6Copy.heap.size) by omega))
                      have HR_8 := Lib.hid (pt_box hVF HR_7.out (show (w.heap.size + 1) ≠ (Wl6Copy.heap.size) by omega))
                      have HY_8 := Lib.hid (show Box VF (Wl6Copy.heap.size) [.int .i64 (zonOf q salt), .int .i64 0, .int .i64 1, .int .i64 now, .int .i64 (now + term), .int .i64 (n : Int), .int .i64 (rootOf l), .int .i64 salt, .slice D0 qn e0, .int .i64 q.need, .slice none 0 0, .int .i64 0, .int .i64 0, .slice none 0 0, .int .i64 0, .bool false] from (show Box VF (Wl6Copy.heap.size) ([] ++ [.int .i64 (zonOf q salt), .int .i64 0, .int .i64 1, .int .i64 now, .int .i64 (now + term), .int .i64 (n : Int), .int .i64 (rootOf l), .int .i64 salt, .slice D0 qn e0, .int .i64 q.need, .slice none 0 0, .int .i64 0, .int .i64 0, .slice none 0 0, .int .i64 0, .bool false] ++ []) from pt_mid hVF (show Box VY (Wl6Copy.heap.size) ([] ++ [.int .i64 0, .int .i64 0, .int .i64 0, .int .i64 0, .int .i64 0, .int .i64 0, .int .i64 0, .int .i64 0, .slice none 0 0, .int .i64 0, .slice none 0 0, .int .i64 0, .int .i64 0, .slice none 0 0, .int .i64 0, .bool false] ++ []) from HY_7.out) rfl rfl))
                      have HVF := Lib.hid hVF
                      clear hVF
                      have HP_8 := Lib.hid (show OwnI RKeys VF (WRootOf.heap.size) (Wl6Copy.heap.size) [.slice D0 qn e0, .int .i64 q.need] q ∧ (Wl6Copy.heap.size) ≤ VF.heap.size ∧ (w.heap.size + 2) ≤ (WRootOf.heap.size) from ⟨HP_7.out.1.keep fun i _ h1 h2 => by rw [← HVF.out]; exact puts_keep (by omega) _ _, by rw [← HVF.out, puts_size]; exact HP_7.out.2.1, HP_7.out.2.2⟩)
                      have hsVF : VY.heap.size ≤ VF.heap.size := by rw [← HVF.out]; exact Nat.le_of_eq (puts_size _ _).symm
                      refine LD.op_stV LD.big_Head _ _ rfl rfl rfl HY_7.out rfl (by decide) rfl HVF.out ?_
                      simp only [Act.put, List.getElem_toArray, List.getElem_cons_zero, List.getElem_cons_succ, List.setIfInBounds_toArray, List.set_cons_succ, List.set_cons_zero]
                      refine hK.out _ _ (LD.box_range HX_8.out) (fun _ => ?_)
                      clear hK K
                      refine wpAnyH_done (by kernel_rfl) ?_ _
                      exact ⟨rfl, HJ9.out _ _ ⟨Wl6Copy.heap.size, D0, e0, WRootOf.heap.size, Wl6Copy.heap.size, .agg #[.slice qA qn qc, .int .i64 q.need], .int .i64 salt, .int .i64 (zonOf q salt), .int .i64 now, .int .i64 now, .int .i64 term, .int .i64 (now + term), .slice A n c, .int .i64 (n : Int), .slice A n c, .int .i64 (rootOf l), .int .i64 salt, .agg #[.slice qA qn qc, .int .i64 q.need], .agg #[.slice D0 qn e0, .int .i64 q.need], .agg #[.int .i64 (zonOf q salt), .int .i64 0, .int .i64 1, .int .i64 now, .int .i64 (now + term), .int .i64 (n : Int), .int .i64 (rootOf l), .int .i64 salt, .slice D0 qn e0, .int .i64 q.need, .slice none 0 0, .int .i64 0, .int .i64 0, .slice none 0 0, .int .i64 0, .bool false], (by first | (simp only [Act.put, List.setIfInBounds_toArray, List.set_cons_succ, List.set_cons_zero] <;> rfl) | rfl), HB_8.out, HX_8.out, HR_8.out, HY_8.out, HP_8.out, by omega⟩⟩
                    exact AllReadyH.nil
                  exact AllReadyH.nil
                refine AllReadyH.cons rfl (fun K hK => ?_) ?_
                · refine RGS.free rfl ?_
                  try simp only [List.getElem_toArray, List.getElem_cons_zero, List.getElem_cons_succ]
                  go_simp
                  have hal : Below Wl6Copy.heap.size Wl6Copy (Wl6Copy.alloc (.cells #[.int .i64 0, .int .i64 0, .int .i64 0, .int .i64 0, .int .i64 0, .int .i64 0, .int .i64 0, .int .i64 0, .slice none 0 0, .int .i64 0, .slice none 0 0, .int .i64 0, .int .i64 0, .slice none 0 0, .int .i64 0, .bool false] 31)) := (Below.refl _ _).alloc (Nat.le_refl _) _
                  have HB_7 := Lib.hid (HB_6.out.trans (hal.mono HB_6.out.size))
                  have HX_7 := Lib.hid (HX_6.out.below hal HX_6.out.lt)
                  have HR_7 := Lib.hid (HR_6.out.below hal HR_6.out.lt)
                  have HP_7 := Lib.hid (show OwnI RKeys (Wl6Copy.alloc (.cells #[.int .i64 0, .int .i64 0, .int .i64 0, .int .i64 0, .int .i64 0, .int .i64 0, .int .i64 0, .int .i64 0, .slice none 0 0, .int .i64 0, .slice none 0 0, .int .i64 0, .int .i64 0, .slice none 0 0, .int .i64 0, .bool false] 31)) (WRootOf.heap.size) (Wl6Copy.heap.size) [.slice D0 qn e0, .int .i64 q.need] q ∧ (Wl6Copy.heap.size) ≤ (Wl6Copy.alloc (.cells #[.int .i64 0, .int .i64 0, .int .i64 0, .int .i64 0, .int .i64 0, .int .i64 0, .int .i64 0, .int .i64 0, .slice none 0 0, .int .i64 0, .slice none 0 0, .int .i64 0, .int .i64 0, .slice none 0 0, .int .i64 0, .bool false] 31)).heap.size ∧ (w.heap.size + 2) ≤ (WRootOf.heap.size) from ⟨HP_6.out.1.below hal HP_6.out.2.1, Nat.le_trans HP_6.out.2.1 hal.size, HP_6.out.2.2⟩)
                  have HY_7 := Lib.hid (show Box (Wl6Copy.alloc (.cells #[.int .i64 0, .int .i64 0, .int .i64 0, .int .i64 0, .int .i64 0, .int .i64 0, .int .i64 0, .int .i64 0, .slice none 0 0, .int .i64 0, .slice none 0 0, .int .i64 0, .int .i64 0, .slice none 0 0, .int .i64 0, .bool false] 31)) (Wl6Copy.heap.size) [.int .i64 0, .int .i64 0, .int .i64 0, .int .i64 0, .int .i64 0, .int .i64 0, .int .i64 0, .int .i64 0, .slice none 0 0, .int .i64 0, .slice none 0 0, .int .i64 0, .int .i64 0, .slice none 0 0, .int .i64 0, .bool false] from Box.new Wl6Copy #[.int .i64 0, .int .i64 0, .int .i64 0, .int .i64 0, .int .i64 0, .int .i64 0, .int .i64 0, .int .i64 0, .slice none 0 0, .int .i64 0, .slice none 0 0, .int .i64 0, .int .i64 0, .slice none 0 0, .int .i64 0, .bool false] 31)
                  obtain ⟨VY, hVY⟩ : ∃ u9, Wl6Copy.alloc (.cells #[.int .i64 0, .int .i64 0, .int .i64 0, .int .i64 0, .int .i64 0, .int .i64 0, .int .i64 0, .int .i64 0, .slice none 0 0, .int .i64 0, .slice none 0 0, .int .i64 0, .int .i64 0, .slice none 0 0, .int .i64 0, .bool false] 31) = u9 := ⟨_, rfl⟩
                  rw [hVY] at HB_7 HX_7 HR_7 HP_7 HY_7
                  have HVY := Lib.hid hVY
                  clear hal
                  have hsVY : Wl6Copy.heap.size + 1 ≤ VY.heap.size := by rw [← hVY]; simp
                  clear hVY
                  first | rw [HVY.out] | rw [show (Wl6Copy.alloc (.cells #[.int .i64 0, .int .i64 0, .int .i64 0, .int .i64 0, .int .i64 0, .int .i64 0, .int .i64 0, .int .i64 0, .slice none 0 0, .int .i64 0, .slice none 0 0, .int .i64 0, .int .i64 0, .slice none 0 0, .int .i64 0, .bool false] 31)).drew = VY from HVY.out]
                  refine hK.out _ _ (LD.box_range HX_7.out) (fun _ => ?_)
                  clear hK K
                  refine wpAnyH_ready (rs := [14]) (by kernel_rfl) (by simp) ?_
                  refine AllReadyH.cons rfl (fun K hK => ?_) ?_
                  · refine RGS.free rfl ?_
                    try simp only [List.getElem_toArray, List.getElem_cons_zero, List.getElem_cons_succ]
                    go_simp
                    refine hK.out _ _ (LD.box_range HX_7.out) (fun _ => ?_)
                    clear hK K
                    refine wpAnyH_ready (rs := [16]) (by kernel_rfl) (by simp) ?_
                    refine AllReadyH.cons rfl (fun K hK => ?_) ?_
                    · refine RGS.free rfl ?_
                      try simp only [List.getElem_toArray, List.getElem_cons_zero, List.getElem_cons_succ]
                      obtain ⟨VF, hVF⟩ : ∃ u9, puts VY (Wl6Copy.heap.size) 0 [.int .i64 (zonOf q salt), .int .i64 0, .int .i64 1, .int .i64 now, .int .i64 (now + term), .int .i64 (n : Int), .int .i64 (rootOf l), .int .i64 salt, .slice D0 qn e0, .int .i64 q.need, .slice none 0 0, .int .i64 0, .int .i64 0, .slice none 0 0, .int .i64 0, .bool false] = u9 := ⟨_, rfl⟩
                      have HB_8 := Lib.hid (pt_bel hVF HB_7.out (show w.heap.size ≤ (Wl6Copy.heap.size) by omega))
                      have HX_8 := Lib.hid (pt_box hVF HX_7.out (show (w.heap.size) ≠ (Wl6Copy.heap.size) by omega))
                      have HR_8 := Lib.hid (pt_box hVF HR_7.out (show (w.heap.size + 1) ≠ (Wl6Copy.heap.size) by omega))
                      have HY_8 := Lib.hid (show Box VF (Wl6Copy.heap.size) [.int .i64 (zonOf q salt), .int .i64 0, .int .i64 1, .int .i64 now, .int .i64 (now + term), .int .i64 (n : Int), .int .i64 (rootOf l), .int .i64 salt, .slice D0 qn e0, .int .i64 q.need, .slice none 0 0, .int .i64 0, .int .i64 0, .slice none 0 0, .int .i64 0, .bool false] from (show Box VF (Wl6Copy.heap.size) ([] ++ [.int .i64 (zonOf q salt), .int .i64 0, .int .i64 1, .int .i64 now, .int .i64 (now + term), .int .i64 (n : Int), .int .i64 (rootOf l), .int .i64 salt, .slice D0 qn e0, .int .i64 q.need, .slice none 0 0, .int .i64 0, .int .i64 0, .slice none 0 0, .int .i64 0, .bool false] ++ []) from pt_mid hVF (show Box VY (Wl6Copy.heap.size) ([] ++ [.int .i64 0, .int .i64 0, .int .i64 0, .int .i64 0, .int .i64 0, .int .i64 0, .int .i64 0, .int .i64 0, .slice none 0 0, .int .i64 0, .slice none 0 0, .int .i64 0, .int .i64 0, .slice none 0 0, .int .i64 0, .bool false] ++ []) from HY_7.out) rfl rfl))
                      have HVF := Lib.hid hVF
                      clear hVF
                      have HP_8 := Lib.hid (show OwnI RKeys VF (WRootOf.heap.size) (Wl6Copy.heap.size) [.slice D0 qn e0, .int .i64 q.need] q ∧ (Wl6Copy.heap.size) ≤ VF.heap.size ∧ (w.heap.size + 2) ≤ (WRootOf.heap.size) from ⟨HP_7.out.1.keep fun i _ h1 h2 => by rw [← HVF.out]; exact puts_keep (by omega) _ _, by rw [← HVF.out, puts_size]; exact HP_7.out.2.1, HP_7.out.2.2⟩)
                      have hsVF : VY.heap.size ≤ VF.heap.size := by rw [← HVF.out]; exact Nat.le_of_eq (puts_size _ _).symm
                      refine LD.op_stV LD.big_Head _ _ rfl rfl rfl HY_7.out rfl (by decide) rfl HVF.out ?_
                      simp only [Act.put, List.getElem_toArray, List.getElem_cons_zero, List.getElem_cons_succ, List.setIfInBounds_toArray, List.set_cons_succ, List.set_cons_zero]
                      refine hK.out _ _ (LD.box_range HX_8.out) (fun _ => ?_)
                      clear hK K
                      refine wpAnyH_done (by kernel_rfl) ?_ _
                      exact ⟨rfl, HJ9.out _ _ ⟨Wl6Copy.heap.size, D0, e0, WRootOf.heap.size, Wl6Copy.heap.size, .agg #[.slice qA qn qc, .int .i64 q.need], .int .i64 salt, .int .i64 (zonOf q salt), .int .i64 now, .int .i64 now, .int .i64 term, .int .i64 (now + term), .slice A n c, .int .i64 (n : Int), .slice A n c, .int .i64 (rootOf l), .int .i64 salt, .agg #[.slice qA qn qc, .int .i64 q.need], .agg #[.slice D0 qn e0, .int .i64 q.need], .agg #[.int .i64 (zonOf q salt), .int .i64 0, .int .i64 1, .int .i64 now, .int .i64 (now + term), .int .i64 (n : Int), .int .i64 (rootOf l), .int .i64 salt, .slice D0 qn e0, .int .i64 q.need, .slice none 0 0, .int .i64 0, .int .i64 0, .slice none 0 0, .int .i64 0, .bool false], (by first | (simp only [Act.put, List.setIfInBounds_toArray, List.set_cons_succ, List.set_cons_zero] <;> rfl) | rfl), HB_8.out, HX_8.out, HR_8.out, HY_8.out, HP_8.out, by omega⟩⟩
                    exact AllReadyH.nil
                  exact AllReadyH.nil
                exact AllReadyH.nil
              refine AllReadyH.cons rfl (fun K hK => ?_) ?_
              · refine RGS.free rfl ?_
                try simp only [List.getElem_toArray, List.getElem_cons_zero, List.getElem_cons_succ]
                go_simp
                have hal : Below WRootOf.heap.size WRootOf (WRootOf.alloc (.cells #[.int .i64 0, .int .i64 0, .int .i64 0, .int .i64 0, .int .i64 0, .int .i64 0, .int .i64 0, .int .i64 0, .slice none 0 0, .int .i64 0, .slice none 0 0, .int .i64 0, .int .i64 0, .slice none 0 0, .int .i64 0, .bool false] 31)) := (Below.refl _ _).alloc (Nat.le_refl _) _
                have HB_6 := Lib.hid (HB_5.out.trans (hal.mono HB_5.out.size))
                have HX_6 := Lib.hid (HX_5.out.below hal HX_5.out.lt)
                have HR_6 := Lib.hid (HR_5.out.below hal HR_5.out.lt)
                have HY_6 := Lib.hid (show Box (WRootOf.alloc (.cells #[.int .i64 0, .int .i64 0, .int .i64 0, .int .i64 0, .int .i64 0, .int .i64 0, .int .i64 0, .int .i64 0, .slice none 0 0, .int .i64 0, .slice none 0 0, .int .i64 0, .int .i64 0, .slice none 0 0, .int .i64 0, .bool false] 31)) (WRootOf.heap.size) [.int .i64 0, .int .i64 0, .int .i64 0, .int .i64 0, .int .i64 0, .int .i64 0, .int .i64 0, .int .i64 0, .slice none 0 0, .int .i64 0, .slice none 0 0, .int .i64 0, .int .i64 0, .slice none 0 0, .int .i64 0, .bool false] from Box.new WRootOf #[.int .i64 0, .int .i64 0, .int .i64 0, .int .i64 0, .int .i64 0, .int .i64 0, .int .i64 0, .int .i64 0, .slice none 0 0, .int .i64 0, .slice none 0 0, .int .i64 0, .int .i64 0, .slice none 0 0, .int .i64 0, .bool false] 31)
                obtain ⟨VY, hVY⟩ : ∃ u9, WRootOf.alloc (.cells #[.int .i64 0, .int .i64 0, .int .i64 0, .int .i64 0, .int .i64 0, .int .i64 0, .int .i64 0, .int .i64 0, .slice none 0 0, .int .i64 0, .slice none 0 0, .int .i64 0, .int .i64 0, .slice none 0 0, .int .i64 0, .bool false] 31) = u9 := ⟨_, rfl⟩
                rw [hVY] at HB_6 HX_6 HR_6 HY_6
                have HVY := Lib.hid hVY
                clear hal
                have hsVY : WRootOf.heap.size + 1 ≤ VY.heap.size := by rw [← hVY]; simp
                clear hVY
                first | rw [HVY.out] | rw [show (WRootOf.alloc (.cells #[.int .i64 0, .int .i64 0, .int .i64 0, .int .i64 0, .int .i64 0, .int .i64 0, .int .i64 0, .int .i64 0, .slice none 0 0, .int .i64 0, .slice none 0 0, .int .i64 0, .int .i64 0, .slice none 0 0, .int .i64 0, .bool false] 31)).drew = VY from HVY.out]
                refine hK.out _ _ (LD.box_range HX_6.out) (fun _ => ?_)
                clear hK K
                refine wpAnyH_ready (rs := [13]) (by kernel_rfl) (by simp) ?_
                refine AllReadyH.cons rfl (fun K hK => ?_) ?_
                · refine RGS.free rfl ?_
                  try simp only [List.getElem_toArray, List.getElem_cons_zero, List.getElem_cons_succ]
                  go_simp
                  go_at_call 41
                  refine (l6Copy_any _ qA qn qc q.list q.need ((HKR.out.below HB_6.out (Nat.le_refl _)).more HB_6.out.size) (by omega)).mono ?_
                  rintro e Wl6Copy ⟨D0, e0, rfl, ho, hb⟩
                  have HB_7 := Lib.hid (HB_6.out.trans (hb.mono HB_6.out.size))
                  have HX_7 := Lib.hid (HX_6.out.below hb HX_6.out.lt)
                  have HR_7 := Lib.hid (HR_6.out.below hb HR_6.out.lt)
                  have HY_7 := Lib.hid (HY_6.out.below hb HY_6.out.lt)
                  have hsWl6Copy := hb.size
                  have HP_7 := Lib.hid (show OwnI RKeys Wl6Copy (VY.heap.size) (Wl6Copy.heap.size) [.slice D0 qn e0, .int .i64 q.need] q ∧ (Wl6Copy.heap.size) ≤ Wl6Copy.heap.size ∧ (w.heap.size + 2) ≤ (VY.heap.size) from ⟨RKeys_own.2 ⟨D0, qn, e0, rfl, ho, HKI.out⟩, Nat.le_refl _, by omega⟩)
                  clear ho
                  clear hb
                  go_simp
                  refine hK.out _ _ (LD.box_range HX_7.out) (fun _ => ?_)
                  clear hK K
                  refine wpAnyH_ready (rs := [14]) (by kernel_rfl) (by simp) ?_
                  refine AllReadyH.cons rfl (fun K hK => ?_) ?_
                  · refine RGS.free rfl ?_
                    try simp only [List.getElem_toArray, List.getElem_cons_zero, List.getElem_cons_succ]
                    go_simp
                    refine hK.out _ _ (LD.box_range HX_7.out) (fun _ => ?_)
                    clear hK K
                    refine wpAnyH_ready (rs := [16]) (by kernel_rfl) (by simp) ?_
                    refine AllReadyH.cons rfl (fun K hK => ?_) ?_
                    · refine RGS.free rfl ?_
                      try simp only [List.getElem_toArray, List.getElem_cons_zero, List.getElem_cons_succ]
                      obtain ⟨VF, hVF⟩ : ∃ u9, puts Wl6Copy (WRootOf.heap.size) 0 [.int .i64 (zonOf q salt), .int .i64 0, .int .i64 1, .int .i64 now, .int .i64 (now + term), .int .i64 (n : Int), .int .i64 (rootOf l), .int .i64 salt, .slice D0 qn e0, .int .i64 q.need, .slice none 0 0, .int .i64 0, .int .i64 0, .slice none 0 0, .int .i64 0, .bool false] = u9 := ⟨_, rfl⟩
                      have HB_8 := Lib.hid (pt_bel hVF HB_7.out (show w.heap.size ≤ (WRootOf.heap.size) by omega))
                      have HX_8 := Lib.hid (pt_box hVF HX_7.out (show (w.heap.size) ≠ (WRootOf.heap.size) by omega))
                      have HR_8 := Lib.hid (pt_box hVF HR_7.out (show (w.heap.size + 1) ≠ (WRootOf.heap.size) by omega))
                      have HY_8 := Lib.hid (show Box VF (WRootOf.heap.size) [.int .i64 (zonOf q salt), .int .i64 0, .int .i64 1, .int .i64 now, .int .i64 (now + term), .int .i64 (n : Int), .int .i64 (rootOf l), .int .i64 salt, .slice D0 qn e0, .int .i64 q.need, .slice none 0 0, .int .i64 0, .int .i64 0, .slice none 0 0, .int .i64 0, .bool false] from (show Box VF (WRootOf.heap.size) ([] ++ [.int .i64 (zonOf q salt), .int .i64 0, .int .i64 1, .int .i64 now, .int .i64 (now + term), .int .i64 (n : Int), .int .i64 (rootOf l), .int .i64 salt, .slice D0 qn e0, .int .i64 q.need, .slice none 0 0, .int .i64 0, .int .i64 0, .slice none 0 0, .int .i64 0, .bool false] ++ []) from pt_mid hVF (show Box Wl6Copy (WRootOf.heap.size) ([] ++ [.int .i64 0, .int .i64 0, .int .i64 0, .int .i64 0, .int .i64 0, .int .i64 0, .int .i64 0, .int .i64 0, .slice none 0 0, .int .i64 0, .slice none 0 0, .int .i64 0, .int .i64 0, .slice none 0 0, .int .i64 0, .bool false] ++ []) from HY_7.out) rfl rfl))
                      have HVF := Lib.hid hVF
                      clear hVF
                      have HP_8 := Lib.hid (show OwnI RKeys VF (VY.heap.size) (Wl6Copy.heap.size) [.slice D0 qn e0, .int .i64 q.need] q ∧ (Wl6Copy.heap.size) ≤ VF.heap.size ∧ (w.heap.size + 2) ≤ (VY.heap.size) from ⟨HP_7.out.1.keep fun i _ h1 h2 => by rw [← HVF.out]; exact puts_keep (by omega) _ _, by rw [← HVF.out, puts_size]; exact HP_7.out.2.1, HP_7.out.2.2⟩)
                      have hsVF : Wl6Copy.heap.size ≤ VF.heap.size := by rw [← HVF.out]; exact Nat.le_of_eq (puts_size _ _).symm
                      refine LD.op_stV LD.big_Head _ _ rfl rfl rfl HY_7.out rfl (by decide) rfl HVF.out ?_
                      simp only [Act.put, List.getElem_toArray, List.getElem_cons_zero, List.getElem_cons_succ, List.setIfInBounds_toArray, List.set_cons_succ, List.set_cons_zero]
                      refine hK.out _ _ (LD.box_range HX_8.out) (fun _ => ?_)
                      clear hK K
                      refine wpAnyH_done (by kernel_rfl) ?_ _
                      exact ⟨rfl, HJ9.out _ _ ⟨WRootOf.heap.size, D0, e0, VY.heap.size, Wl6Copy.heap.size, .agg #[.slice qA qn qc, .int .i64 q.need], .int .i64 salt, .int .i64 (zonOf q salt), .int .i64 now, .int .i64 now, .int .i64 term, .int .i64 (now + term), .slice A n c, .int .i64 (n : Int), .slice A n c, .int .i64 (rootOf l), .int .i64 salt, .agg #[.slice qA qn qc, .int .i64 q.need], .agg #[.slice D0 qn e0, .int .i64 q.need], .agg #[.int .i64 (zonOf q salt), .int .i64 0, .int .i64 1, .int .i64 now, .int .i64 (now + term), .int .i64 (n : Int), .int .i64 (rootOf l), .int .i64 salt, .slice D0 qn e0, .int .i64 q.need, .slice none 0 0, .int .i64 0, .int .i64 0, .slice none 0 0, .int .i64 0, .bool false], (by first | (simp only [Act.put, List.setIfInBounds_toArray, List.set_cons_succ, List.set_cons_zero] <;> rfl) | rfl), HB_8.out, HX_8.out, HR_8.out, HY_8.out, HP_8.out, by omega⟩⟩
                    exact AllReadyH.nil
                  exact AllReadyH.nil
                exact AllReadyH.nil
              exact AllReadyH.nil
            refine AllReadyH.cons rfl (fun K hK => ?_) ?_
            · refine RGS.free rfl ?_
              try simp only [List.getElem_toArray, List.getElem_cons_zero, List.getElem_cons_succ]
              go_simp
              have hal : Below WZoneOf.heap.size WZoneOf (WZoneOf.alloc (.cells #[.int .i64 0, .int .i64 0, .int .i64 0, .int .i64 0, .int .i64 0, .int .i64 0, .int .i64 0, .int .i64 0, .slice none 0 0, .int .i64 0, .slice none 0 0, .int .i64 0, .int .i64 0, .slice none 0 0, .int .i64 0, .bool false] 31)) := (Below.refl _ _).alloc (Nat.le_refl _) _
              have HB_5 := Lib.hid (HB_4.out.trans (hal.mono HB_4.out.size))
              have HX_5 := Lib.hid (HX_4.out.below hal HX_4.out.lt)
              have HR_5 := Lib.hid (HR_4.out.below hal HR_4.out.lt)
              have HY_5 := Lib.hid (show Box (WZoneOf.alloc (.cells #[.int .i64 0, .int .i64 0, .int .i64 0, .int .i64 0, .int .i64 0, .int .i64 0, .int .i64 0, .int .i64 0, .slice none 0 0, .int .i64 0, .slice none 0 0, .int .i64 0, .int .i64 0, .slice none 0 0, .int .i64 0, .bool false] 31)) (WZoneOf.heap.size) [.int .i64 0, .int .i64 0, .int .i64 0, .int .i64 0, .int .i64 0, .int .i64 0, .int .i64 0, .int .i64 0, .slice none 0 0, .int .i64 0, .slice none 0 0, .int .i64 0, .int .i64 0, .slice none 0 0, .int .i64 0, .bool false] from Box.new WZoneOf #[.int .i64 0, .int .i64 0, .int .i64 0, .int .i64 0, .int .i64 0, .int .i64 0, .int .i64 0, .int .i64 0, .slice none 0 0, .int .i64 0, .slice none 0 0, .int .i64 0, .int .i64 0, .slice none 0 0, .int .i64 0, .bool false] 31)
              obtain ⟨VY, hVY⟩ : ∃ u9, WZoneOf.alloc (.cells #[.int .i64 0, .int .i64 0, .int .i64 0, .int .i64 0, .int .i64 0, .int .i64 0, .int .i64 0, .int .i64 0, .slice none 0 0, .int .i64 0, .slice none 0 0, .int .i64 0, .int .i64 0, .slice none 0 0, .int .i64 0, .bool false] 31) = u9 := ⟨_, rfl⟩
              rw [hVY] at HB_5 HX_5 HR_5 HY_5
              have HVY := Lib.hid hVY
              clear hal
              have hsVY : WZoneOf.heap.size + 1 ≤ VY.heap.size := by rw [← hVY]; simp
              clear hVY
              first | rw [HVY.out] | rw [show (WZoneOf.alloc (.cells #[.int .i64 0, .int .i64 0, .int .i64 0, .int .i64 0, .int .i64 0, .int .i64 0, .int .i64 0, .int .i64 0, .slice none 0 0, .int .i64 0, .slice none 0 0, .int .i64 0, .int .i64 0, .slice none 0 0, .int .i64 0, .bool false] 31)).drew = VY from HVY.out]
              refine hK.out _ _ (LD.box_range HX_5.out) (fun _ => ?_)
              clear hK K
              refine wpAnyH_ready (rs := [10]) (by kernel_rfl) (by simp) ?_
              refine AllReadyH.cons rfl (fun K hK => ?_) ?_
              · refine RGS.free rfl ?_
                try simp only [List.getElem_toArray, List.getElem_cons_zero, List.getElem_cons_succ]
                go_simp
                go_at_call 40
                refine (HRO.out _ HB_5.out).mono ?_
                rintro e WRootOf ⟨rfl, hb⟩
                have HB_6 := Lib.hid (HB_5.out.trans (hb.mono HB_5.out.size))
                have HX_6 := Lib.hid (HX_5.out.below hb HX_5.out.lt)
                have HR_6 := Lib.hid (HR_5.out.below hb HR_5.out.lt)
                have HY_6 := Lib.hid (HY_5.out.below hb HY_5.out.lt)
                have hsWRootOf := hb.size
                clear hb
                go_simp
                refine hK.out _ _ (LD.box_range HX_6.out) (fun _ => ?_)
                clear hK K
                refine wpAnyH_ready (rs := [13]) (by kernel_rfl) (by simp) ?_
                refine AllReadyH.cons rfl (fun K hK => ?_) ?_
                · refine RGS.free rfl ?_
                  try simp only [List.getElem_toArray, List.getElem_cons_zero, List.getElem_cons_succ]
                  go_simp
                  go_at_call 41
                  refine (l6Copy_any _ qA qn qc q.list q.need ((HKR.out.below HB_6.out (Nat.le_refl _)).more HB_6.out.size) (by omega)).mono ?_
                  rintro e Wl6Copy ⟨D0, e0, rfl, ho, hb⟩
                  have HB_7 := Lib.hid (HB_6.out.trans (hb.mono HB_6.out.size))
                  have HX_7 := Lib.hid (HX_6.out.below hb HX_6.out.lt)
                  have HR_7 := Lib.hid (HR_6.out.below hb HR_6.out.lt)
                  have HY_7 := Lib.hid (HY_6.out.below hb HY_6.out.lt)
                  have hsWl6Copy := hb.size
                  have HP_7 := Lib.hid (show OwnI RKeys Wl6Copy (WRootOf.heap.size) (Wl6Copy.heap.size) [.slice D0 qn e0, .int .i64 q.need] q ∧ (Wl6Copy.heap.size) ≤ Wl6Copy.heap.size ∧ (w.heap.size + 2) ≤ (WRootOf.heap.size) from ⟨RKeys_own.2 ⟨D0, qn, e0, rfl, ho, HKI.out⟩, Nat.le_refl _, by omega⟩)
                  clear ho
                  clear hb
                  go_simp
                  refine hK.out _ _ (LD.box_range HX_7.out) (fun _ => ?_)
                  clear hK K
                  refine wpAnyH_ready (rs := [14]) (by kernel_rfl) (by simp) ?_
                  refine AllReadyH.cons rfl (fun K hK => ?_) ?_
                  · refine RGS.free rfl ?_
                    try simp only [List.getElem_toArray, List.getElem_cons_zero, List.getElem_cons_succ]
                    go_simp
                    refine hK.out _ _ (LD.box_range HX_7.out) (fun _ => ?_)
                    clear hK K
                    refine wpAnyH_ready (rs := [16]) (by kernel_rfl) (by simp) ?_
                    refine AllReadyH.cons rfl (fun K hK => ?_) ?_
                    · refine RGS.free rfl ?_
                      try simp only [List.getElem_toArray, List.getElem_cons_zero, List.getElem_cons_succ]
                      obtain ⟨VF, hVF⟩ : ∃ u9, puts Wl6Copy (WZoneOf.heap.size) 0 [.int .i64 (zonOf q salt), .int .i64 0, .int .i64 1, .int .i64 now, .int .i64 (now + term), .int .i64 (n : Int), .int .i64 (rootOf l), .int .i64 salt, .slice D0 qn e0, .int .i64 q.need, .slice none 0 0, .int .i64 0, .int .i64 0, .slice none 0 0, .int .i64 0, .bool false] = u9 := ⟨_, rfl⟩
                      have HB_8 := Lib.hid (pt_bel hVF HB_7.out (show w.heap.size ≤ (WZoneOf.heap.size) by omega))
                      have HX_8 := Lib.hid (pt_box hVF HX_7.out (show (w.heap.size) ≠ (WZoneOf.heap.size) by omega))
                      have HR_8 := Lib.hid (pt_box hVF HR_7.out (show (w.heap.size + 1) ≠ (WZoneOf.heap.size) by omega))
                      have HY_8 := Lib.hid (show Box VF (WZoneOf.heap.size) [.int .i64 (zonOf q salt), .int .i64 0, .int .i64 1, .int .i64 now, .int .i64 (now + term), .int .i64 (n : Int), .int .i64 (rootOf l), .int .i64 salt, .slice D0 qn e0, .int .i64 q.need, .slice none 0 0, .int .i64 0, .int .i64 0, .slice none 0 0, .int .i64 0, .bool false] from (show Box VF (WZoneOf.heap.size) ([] ++ [.int .i64 (zonOf q salt), .int .i64 0, .int .i64 1, .int .i64 now, .int .i64 (now + term), .int .i64 (n : Int), .int .i64 (rootOf l), .int .i64 salt, .slice D0 qn e0, .int .i64 q.need, .slice none 0 0, .int .i64 0, .int .i64 0, .slice none 0 0, .int .i64 0, .bool false] ++ []) from pt_mid hVF (show Box Wl6Copy (WZoneOf.heap.size) ([] ++ [.int .i64 0, .int .i64 0, .int .i64 0, .int .i64 0, .int .i64 0, .int .i64 0, .int .i64 0, .int .i64 0, .slice none 0 0, .int .i64 0, .slice none 0 0, .int .i64 0, .int .i64 0, .slice none 0 0, .int .i64 0, .bool false] ++ []) from HY_7.out) rfl rfl))
                      have HVF := Lib.hid hVF
                      clear hVF
                      have HP_8 := Lib.hid (show OwnI RKeys VF (WRootOf.heap.size) (Wl6Copy.heap.size) [.slice D0 qn e0, .int .i64 q.need] q ∧ (Wl6Copy.heap.size) ≤ VF.heap.size ∧ (w.heap.size + 2) ≤ (WRootOf.heap.size) from ⟨HP_7.out.1.keep fun i _ h1 h2 => by rw [← HVF.out]; exact puts_keep (by omega) _ _, by rw [← HVF.out, puts_size]; exact HP_7.out.2.1, HP_7.out.2.2⟩)
                      have hsVF : Wl6Copy.heap.size ≤ VF.heap.size := by rw [← HVF.out]; exact Nat.le_of_eq (puts_size _ _).symm
                      refine LD.op_stV LD.big_Head _ _ rfl rfl rfl HY_7.out rfl (by decide) rfl HVF.out ?_
                      simp only [Act.put, List.getElem_toArray, List.getElem_cons_zero, List.getElem_cons_succ, List.setIfInBounds_toArray, List.set_cons_succ, List.set_cons_zero]
                      refine hK.out _ _ (LD.box_range HX_8.out) (fun _ => ?_)
                      clear hK K
                      refine wpAnyH_done (by kernel_rfl) ?_ _
                      exact ⟨rfl, HJ9.out _ _ ⟨WZoneOf.heap.size, D0, e0, WRootOf.heap.size, Wl6Copy.heap.size, .agg #[.slice qA qn qc, .int .i64 q.need], .int .i64 salt, .int .i64 (zonOf q salt), .int .i64 now, .int .i64 now, .int .i64 term, .int .i64 (now + term), .slice A n c, .int .i64 (n : Int), .slice A n c, .int .i64 (rootOf l), .int .i64 salt, .agg #[.slice qA qn qc, .int .i64 q.need], .agg #[.slice D0 qn e0, .int .i64 q.need], .agg #[.int .i64 (zonOf q salt), .int .i64 0, .int .i64 1, .int .i64 now, .int .i64 (now + term), .int .i64 (n : Int), .int .i64 (rootOf l), .int .i64 salt, .slice D0 qn e0, .int .i64 q.need, .slice none 0 0, .int .i64 0, .int .i64 0, .slice none 0 0, .int .i64 0, .bool false], (by first | (simp only [Act.put, List.setIfInBounds_toArray, List.set_cons_succ, List.set_cons_zero] <;> rfl) | rfl), HB_8.out, HX_8.out, HR_8.out, HY_8.out, HP_8.out, by omega⟩⟩
                    exact AllReadyH.nil
                  exact AllReadyH.nil
                exact AllReadyH.nil
              exact AllReadyH.nil
            exact AllReadyH.nil
          refine AllReadyH.cons rfl (fun K hK => ?_) ?_
          · refine RGS.free rfl ?_
            try simp only [List.getElem_toArray, List.getElem_cons_zero, List.getElem_cons_succ]
            go_simp
            have hal : Below W1.drew.heap.size W1.drew (W1.drew.alloc (.cells #[.int .i64 0, .int .i64 0, .int .i64 0, .int .i64 0, .int .i64 0, .int .i64 0, .int .i64 0, .int .i64 0, .slice none 0 0, .int .i64 0, .slice none 0 0, .int .i64 0, .int .i64 0, .slice none 0 0, .int .i64 0, .bool false] 31)) := (Below.refl _ _).alloc (Nat.le_refl _) _
            have HB_4 := Lib.hid (HB_3.out.trans (hal.mono HB_3.out.size))
            have HX_4 := Lib.hid (HX_3.out.below hal HX_3.out.lt)
            have HR_4 := Lib.hid (HR_3.out.below hal HR_3.out.lt)
            have HY_4 := Lib.hid (show Box (W1.drew.alloc (.cells #[.int .i64 0, .int .i64 0, .int .i64 0, .int .i64 0, .int .i64 0, .int .i64 0, .int .i64 0, .int .i64 0, .slice none 0 0, .int .i64 0, .slice none 0 0, .int .i64 0, .int .i64 0, .slice none 0 0, .int .i64 0, .bool false] 31)) (W1.drew.heap.size) [.int .i64 0, .int .i64 0, .int .i64 0, .int .i64 0, .int .i64 0, .int .i64 0, .int .i64 0, .int .i64 0, .slice none 0 0, .int .i64 0, .slice none 0 0, .int .i64 0, .int .i64 0, .slice none 0 0, .int .i64 0, .bool false] from Box.new W1.drew #[.int .i64 0, .int .i64 0, .int .i64 0, .int .i64 0, .int .i64 0, .int .i64 0, .int .i64 0, .int .i64 0, .slice none 0 0, .int .i64 0, .slice none 0 0, .int .i64 0, .int .i64 0, .slice none 0 0, .int .i64 0, .bool false] 31)
            obtain ⟨VY, hVY⟩ : ∃ u9, W1.drew.alloc (.cells #[.int .i64 0, .int .i64 0, .int .i64 0, .int .i64 0, .int .i64 0, .int .i64 0, .int .i64 0, .int .i64 0, .slice none 0 0, .int .i64 0, .slice none 0 0, .int .i64 0, .int .i64 0, .slice none 0 0, .int .i64 0, .bool false] 31) = u9 := ⟨_, rfl⟩
            rw [hVY] at HB_4 HX_4 HR_4 HY_4
            have HVY := Lib.hid hVY
            clear hal
            have hsVY : W1.drew.heap.size + 1 ≤ VY.heap.size := by rw [← hVY]; simp
            clear hVY
            first | rw [HVY.out] | rw [show (W1.alloc (.cells #[.int .i64 0, .int .i64 0, .int .i64 0, .int .i64 0, .int .i64 0, .int .i64 0, .int .i64 0, .int .i64 0, .slice none 0 0, .int .i64 0, .slice none 0 0, .int .i64 0, .int .i64 0, .slice none 0 0, .int .i64 0, .bool false] 31)).drew = VY from HVY.out]
            refine hK.out _ _ (LD.box_range HX_4.out) (fun _ => ?_)
            clear hK K
            refine wpAnyH_ready (rs := [2]) (by kernel_rfl) (by simp) ?_
            refine AllReadyH.cons rfl (fun K hK => ?_) ?_
            · refine RGS.free rfl ?_
              try simp only [List.getElem_toArray, List.getElem_cons_zero, List.getElem_cons_succ]
              go_simp
              go_at_call 18
              refine (HZO.out _ HB_4.out).mono ?_
              rintro e WZoneOf ⟨rfl, hb⟩
              have HB_5 := Lib.hid (HB_4.out.trans (hb.mono HB_4.out.size))
              have HX_5 := Lib.hid (HX_4.out.below hb HX_4.out.lt)
              have HR_5 := Lib.hid (HR_4.out.below hb HR_4.out.lt)
              have HY_5 := Lib.hid (HY_4.out.below hb HY_4.out.lt)
              have hsWZoneOf := hb.size
              clear hb
              go_simp
              refine hK.out _ _ (LD.box_range HX_5.out) (fun _ => ?_)
              clear hK K
              refine wpAnyH_ready (rs := [10]) (by kernel_rfl) (by simp) ?_
              refine AllReadyH.cons rfl (fun K hK => ?_) ?_
              · refine RGS.free rfl ?_
                try simp only [List.getElem_toArray, List.getElem_cons_zero, List.getElem_cons_succ]
                go_simp
                go_at_call 40
                refine (HRO.out _ HB_5.out).mono ?_
                rintro e WRootOf ⟨rfl, hb⟩
                have HB_6 := Lib.hid (HB_5.out.trans (hb.mono HB_5.out.size))
                have HX_6 := Lib.hid (HX_5.out.below hb HX_5.out.lt)
                have HR_6 := Lib.hid (HR_5.out.below hb HR_5.out.lt)
                have HY_6 := Lib.hid (HY_5.out.below hb HY_5.out.lt)
                have hsWRootOf := hb.size
                clear hb
                go_simp
                refine hK.out _ _ (LD.box_range HX_6.out) (fun _ => ?_)
                clear hK K
                refine wpAnyH_ready (rs := [13]) (by kernel_rfl) (by simp) ?_
                refine AllReadyH.cons rfl (fun K hK => ?_) ?_
                · refine RGS.free rfl ?_
                  try simp only [List.getElem_toArray, List.getElem_cons_zero, List.getElem_cons_succ]
                  go_simp
                  go_at_call 41
                  refine (l6Copy_any _ qA qn qc q.list q.need ((HKR.out.below HB_6.out (Nat.le_refl _)).more HB_6.out.size) (by omega)).mono ?_
                  rintro e Wl6Copy ⟨D0, e0, rfl, ho, hb⟩
                  have HB_7 := Lib.hid (HB_6.out.trans (hb.mono HB_6.out.size))
                  have HX_7 := Lib.hid (HX_6.out.below hb HX_6.out.lt)
                  have HR_7 := Lib.hid (HR_6.out.below hb HR_6.out.lt)
                  have HY_7 := Lib.hid (HY_6.out.below hb HY_6.out.lt)
                  have hsWl6Copy := hb.size
                  have HP_7 := Lib.hid (show OwnI RKeys Wl6Copy (WRootOf.heap.size) (Wl6Copy.heap.size) [.slice D0 qn e0, .int .i64 q.need] q ∧ (Wl6Copy.heap.size) ≤ Wl6Copy.heap.size ∧ (w.heap.size + 2) ≤ (WRootOf.heap.size) from ⟨RKeys_own.2 ⟨D0, qn, e0, rfl, ho, HKI.out⟩, Nat.le_refl _, by omega⟩)
                  clear ho
                  clear hb
                  go_simp
                  refine hK.out _ _ (LD.box_range HX_7.out) (fun _ => ?_)
                  clear hK K
                  refine wpAnyH_ready (rs := [14]) (by kernel_rfl) (by simp) ?_
                  refine AllReadyH.cons rfl (fun K hK => ?_) ?_
                  · refine RGS.free rfl ?_
                    try simp only [List.getElem_toArray, List.getElem_cons_zero, List.getElem_cons_succ]
                    go_simp
                    refine hK.out _ _ (LD.box_range HX_7.out) (fun _ => ?_)
                    clear hK K
                    refine wpAnyH_ready (rs := [16]) (by kernel_rfl) (by simp) ?_
                    refine AllReadyH.cons rfl (fun K hK => ?_) ?_
                    · refine RGS.free rfl ?_
                      try simp only [List.getElem_toArray, List.getElem_cons_zero, List.getElem_cons_succ]
                      obtain ⟨VF, hVF⟩ : ∃ u9, puts Wl6Copy (W1.drew.heap.size) 0 [.int .i64 (zonOf q salt), .int .i64 0, .int .i64 1, .int .i64 now, .int .i64 (now + term), .int .i64 (n : Int), .int .i64 (rootOf l), .int .i64 salt, .slice D0 qn e0, .int .i64 q.need, .slice none 0 0, .int .i64 0, .int .i64 0, .slice none 0 0, .int .i64 0, .bool false] = u9 := ⟨_, rfl⟩
                      have HB_8 := Lib.hid (pt_bel hVF HB_7.out (show w.heap.size ≤ (W1.drew.heap.size) by omega))
                      have HX_8 := Lib.hid (pt_box hVF HX_7.out (show (w.heap.size) ≠ (W1.drew.heap.size) by omega))
                      have HR_8 := Lib.hid (pt_box hVF HR_7.out (show (w.heap.size + 1) ≠ (W1.drew.heap.size) by omega))
                      have HY_8 := Lib.hid (show Box VF (W1.drew.heap.size) [.int .i64 (zonOf q salt), .int .i64 0, .int .i64 1, .int .i64 now, .int .i64 (now + term), .int .i64 (n : Int), .int .i64 (rootOf l), .int .i64 salt, .slice D0 qn e0, .int .i64 q.need, .slice none 0 0, .int .i64 0, .int .i64 0, .slice none 0 0, .int .i64 0, .bool false] from (show Box VF (W1.drew.heap.size) ([] ++ [.int .i64 (zonOf q salt), .int .i64 0, .int .i64 1, .int .i64 now, .int .i64 (now + term), .int .i64 (n : Int), .int .i64 (rootOf l), .int .i64 salt, .slice D0 qn e0, .int .i64 q.need, .slice none 0 0, .int .i64 0, .int .i64 0, .slice none 0 0, .int .i64 0, .bool false] ++ []) from pt_mid hVF (show Box Wl6Copy (W1.drew.heap.size) ([] ++ [.int .i64 0, .int .i64 0, .int .i64 0, .int .i64 0, .int .i64 0, .int .i64 0, .int .i64 0, .int .i64 0, .slice none 0 0, .int .i64 0, .slice none 0 0, .int .i64 0, .int .i64 0, .slice none 0 0, .int .i64 0, .bool false] ++ []) from HY_7.out) rfl rfl))
                      have HVF := Lib.hid hVF
                      clear hVF
                      have HP_8 := Lib.hid (show OwnI RKeys VF (WRootOf.heap.size) (Wl6Copy.heap.size) [.slice D0 qn e0, .int .i64 q.need] q ∧ (Wl6Copy.heap.size) ≤ VF.heap.size ∧ (w.heap.size + 2) ≤ (WRootOf.heap.size) from ⟨HP_7.out.1.keep fun i _ h1 h2 => by rw [← HVF.out]; exact puts_keep (by omega) _ _, by rw [← HVF.out, puts_size]; exact HP_7.out.2.1, HP_7.out.2.2⟩)
                      have hsVF : Wl6Copy.heap.size ≤ VF.heap.size := by rw [← HVF.out]; exact Nat.le_of_eq (puts_size _ _).symm
                      refine LD.op_stV LD.big_Head _ _ rfl rfl rfl HY_7.out rfl (by decide) rfl HVF.out ?_
                      simp only [Act.put, List.getElem_toArray, List.getElem_cons_zero, List.getElem_cons_succ, List.setIfInBounds_toArray, List.set_cons_succ, List.set_cons_zero]
                      refine hK.out _ _ (LD.box_range HX_8.out) (fun _ => ?_)
                      clear hK K
                      refine wpAnyH_done (by kernel_rfl) ?_ _
                      exact ⟨rfl, HJ9.out _ _ ⟨W1.drew.heap.size, D0, e0, WRootOf.heap.size, Wl6Copy.heap.size, .agg #[.slice qA qn qc, .int .i64 q.need], .int .i64 salt, .int .i64 (zonOf q salt), .int .i64 now, .int .i64 now, .int .i64 term, .int .i64 (now + term), .slice A n c, .int .i64 (n : Int), .slice A n c, .int .i64 (rootOf l), .int .i64 salt, .agg #[.slice qA qn qc, .int .i64 q.need], .agg #[.slice D0 qn e0, .int .i64 q.need], .agg #[.int .i64 (zonOf q salt), .int .i64 0, .int .i64 1, .int .i64 now, .int .i64 (now + term), .int .i64 (n : Int), .int .i64 (rootOf l), .int .i64 salt, .slice D0 qn e0, .int .i64 q.need, .slice none 0 0, .int .i64 0, .int .i64 0, .slice none 0 0, .int .i64 0, .bool false], (by first | (simp only [Act.put, List.setIfInBounds_toArray, List.set_cons_succ, List.set_cons_zero] <;> rfl) | rfl), HB_8.out, HX_8.out, HR_8.out, HY_8.out, HP_8.out, by omega⟩⟩
                    exact AllReadyH.nil
                  exact AllReadyH.nil
                exact AllReadyH.nil
              exact AllReadyH.nil
            exact AllReadyH.nil
          exact AllReadyH.nil
end Go.Proofs.YthhmhcmlbpdlbaaGreat.C14F
