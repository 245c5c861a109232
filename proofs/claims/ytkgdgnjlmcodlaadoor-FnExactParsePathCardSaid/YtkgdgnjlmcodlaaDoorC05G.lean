/- Chapter 5: what strings.SplitN gives at the separator "/" and at most 5 parts. -/
import Derived.Test.YtkgdgnjlmcodlaaDoorC05S
import Derived.Test.YtkgdgnjlmcodlaaDoorShelf
import Derived.Lib.IndexLaws
namespace Go.Proofs.YtkgdgnjlmcodlaaDoor.C05G
open Go.RowKit Mem MemS M02 M04 M05 C01 C02 C04S C04I C05S
set_option linter.unusedVariables false
set_option maxRecDepth 100000
theorem idx_no {s : ByteArray} (h : Lib.indexByte s.data.toList 47 = -1) : splitS s = [s] := by
  have h1 : (47 : UInt8) ∉ bys s := fun hm => by
    obtain ⟨k, hk, e⟩ := List.mem_iff_getElem.1 hm
    exact Lib.indexByte_none h k (by rw [← e]; exact List.getElem?_eq_getElem hk)
  have h2 := split_free h1 []
  rw [List.append_nil] at h2
  rw [splitS, h2]
  simp [splitL, onH, ofL_bys]
theorem idx_at {s : ByteArray} {o : Nat} (h : Lib.indexByte s.data.toList 47 = o) : o < s.size ∧ splitS s = s.extract 0 o :: splitS (s.extract (o + 1) s.size) := by
  obtain ⟨h1, h2⟩ := Lib.indexByte_some h
  change (bys s)[o]? = _ at h1
  obtain ⟨h3, h4⟩ := List.getElem?_eq_some_iff.1 h1
  have h3' : o < s.size := by rw [← bys_len]; exact h3
  refine ⟨h3', ?_⟩
  have hfree : (47 : UInt8) ∉ (bys s).take o := fun hm => by
    obtain ⟨k, hk, e⟩ := List.mem_iff_getElem.1 hm
    have hk2 : k < o ∧ k < (bys s).length := by
      have := hk
      rw [List.length_take] at this
      omega
    rw [List.getElem_take] at e
    exact h2 k hk2.1 (by rw [← e]; exact List.getElem?_eq_getElem hk2.2)
  have hs : bys s = (bys s).take o ++ 47 :: (bys s).drop (o + 1) := by
    rw [← h4, ← List.drop_eq_getElem_cons h3, List.take_append_drop]
  rw [splitS, hs, split_free hfree, splitL_slash]
  rw [splitS, sub_eq s 0 o (by omega) (by omega), sub_eq s (o + 1) s.size (by omega) (by omega), bys_ofL]
  simp only [onH, List.map_cons, List.append_nil, List.drop_zero]
  rw [show (bys s).take s.size = bys s from List.take_of_length_le (by rw [bys_len]; omega)]
theorem sub_size2 (s : ByteArray) (a : Nat) (h : a ≤ s.size) : (s.extract a s.size).size = s.size - a := by
  rw [sub_eq s a s.size h (by omega), ofL_size, List.length_drop, List.length_take, bys_len]
  omega
theorem set_step {d : List ByteArray} {k N : Nat} (hd : d.length = k) (h : k + 1 ≤ N) (z : ByteArray) : (d ++ List.replicate (N - k) ByteArray.empty).set k z = (d ++ [z]) ++ List.replicate (N - (k + 1)) ByteArray.empty := by
  subst hd
  rw [show N - d.length = (N - (d.length + 1)) + 1 from by omega, List.replicate_succ, List.set_append_right _ _ (Nat.le_refl _)]
  simp
theorem take_step {d : List ByteArray} {k N : Nat} (hd : d.length = k) (z : ByteArray) : ((d ++ [z]) ++ List.replicate (N - (k + 1)) ByteArray.empty).take (k + 1) = d ++ [z] := by
  subst hd
  rw [List.take_append_of_le_length (by simp)]
  exact List.take_of_length_le (by simp)
theorem inS_of {s : ByteArray} (h : s.size ≤ 1099511627775) : InS s := by unfold InS maxLen; omega
set_option maxHeartbeats 2000000 in
theorem genSplit_any (s : ByteArray) (w : World) (hs : s.size ≤ 1099511627775) :
    Calls Tryd.prog 43 #[.string s, .string ⟨#[47]⟩, .int .i64 0, .int .i64 5] w fun e w' => ∃ (A' : Option Addr) (c' : Nat) (r : List ByteArray), e = .returned (.slice A' r.length c') ∧ RdS w' w'.heap.size A' r.length r ∧ Below w.heap.size w w' ∧ (r = splitS s ∨ r.length = 5 ∧ 5 ≤ (splitS s).length) ∧ (∀ x ∈ r, x.size ≤ s.size) := by
  obtain ⟨N, hN, hNc⟩ : ∃ N : Nat, min 5 ((s.size : Int) + 1) = (N : Int) ∧ 1 ≤ N ∧ N ≤ 5 ∧ (N = 5 ∧ 4 ≤ s.size ∨ N = s.size + 1 ∧ s.size < 4) := ⟨min 5 (s.size + 1), by omega, by omega, by omega, by omega⟩
  have hsz : (⟨#[47]⟩ : ByteArray).size = 1 := rfl
  have HNC := Lib.hid hNc
  clear hNc
  have hN1 : 1 ≤ N ∧ N ≤ 5 := by have := HNC.out; omega
  go_enter Tryd.func43, Tryd.ntmps43
  go_wp2_with (first | (at_make; refine wp_makeS (n := N) rfl _ _ rfl rfl rfl (by omega) ?_; intro w1 hown1 hb1))
  have HB := Lib.hid hb1
  have HO := Lib.hid hown1
  clear hb1 hown1
  go_loopw [0, 10, 11] (fun sv i m wr => ∃ (k : Nat) (t : ByteArray) (d : List ByteArray), sv = .string t ∧ k + 1 ≤ N ∧ i = .int .i64 k ∧ d.length = k ∧ k + t.size ≤ s.size ∧ d ++ splitS t = splitS s ∧ (∀ x ∈ d, x.size ≤ s.size) ∧ OwnS wr w.heap.size wr.heap.size (some ⟨w.heap.size, 0, none⟩) N N (d ++ List.replicate (N - k) ByteArray.empty) ∧ Below w.heap.size w wr) (fun _ i _ _ => N - (intOf i).toNat)
  case atStart => exact ⟨0, s, [], rfl, by omega, rfl, rfl, by omega, rfl, by simp, by simpa using HO.out, HB.out⟩
  case round =>
    obtain ⟨k, t, d, rfl, hk, rfl, hd, hkt, hsp, hdx, hown, hbel⟩ := hrel
    have HBr := Lib.hid hbel
    have HOr := Lib.hid hown
    have HD := Lib.hid hdx
    have HSP := Lib.hid hsp
    clear hbel hown hdx hsp
    have hfin : ∀ (c' : Nat) (wz : World), RdS wz wz.heap.size (some ⟨w.heap.size, 0, none⟩) (k + 1) (d ++ [t]) → Below w.heap.size w wz → (k + 1 = N ∨ splitS t = [t]) →
        ∃ (A' : Option Addr) (c1 : Nat) (r : List ByteArray), Ending.returned (.slice (some ⟨w.heap.size, 0, none⟩) (k + 1) c') = Ending.returned (.slice A' r.length c1) ∧ RdS wz wz.heap.size A' r.length r ∧ Below w.heap.size w wz ∧ (r = splitS s ∨ r.length = 5 ∧ 5 ≤ (splitS s).length) ∧ (∀ x ∈ r, x.size ≤ s.size) := by
      intro c' wz hr hb hc
      have hl : (d ++ [t]).length = k + 1 := by simp [hd]
      refine ⟨_, c', d ++ [t], by rw [hl], by rw [hl]; exact hr, hb, ?_, fun x hx => ?_⟩
      · rcases hc with hc | hc
        · rcases HNC.out.2.2 with ⟨h5, h4⟩ | ⟨h5, h4⟩
          · refine .inr ⟨by rw [hl]; omega, ?_⟩
            rw [← HSP.out, List.length_append, hd]
            have : splitS t ≠ [] := by
              unfold splitS
              simpa using splitL_ne (bys t)
            have := List.length_pos_iff.2 this
            omega
          · have ht : t.size = 0 := by omega
            have ht0 : t = .empty := by
              apply bys_inj
              have : (bys t).length = 0 := by rw [bys_len]; exact ht
              rw [List.length_eq_zero_iff.1 this]
              rfl
            refine .inl ?_
            rw [← HSP.out, ht0, split_empty]
        · refine .inl ?_
          rw [← HSP.out, hc]
      · rcases List.mem_append.1 hx with hx | hx
        · exact HD.out x hx
        · rw [List.mem_singleton.1 hx]
          omega
    have HF := Lib.hid hfin
    clear hfin
    by_cases hkN : k + 1 = N
    · have HKN := Lib.hid hkN
      clear hN
      have hkl : ¬ ((k : Int) < (N : Int) - 1) := by omega
      have hc1 : ((k : Int) + 1).toNat = k + 1 := by omega
      have hc2 : (k : Int) + 1 ≤ N := by omega
      clear hkN
      obtain ⟨g, e, hg1, hg2, hcg, hfg, hset⟩ := HOr.out.set (i := k) (by omega) t (inS_of (by omega))
      injection e with e
      injection e with e
      subst e
      rw [set_step hd hk] at hset
      have HS := Lib.hid hset
      clear hset
      go_wp2
      go_ret
      have HR := Lib.hid (rdS_take HS.out.rd (k := k + 1) hk)
      have HB2 := Lib.hid (HBr.out.setCell (p := ⟨w.heap.size, k, none⟩) (Nat.le_refl _) (.string t))
      have hr := HR.out
      rw [take_step hd] at hr
      exact HF.out _ _ (hr.more (by simp)) HB2.out (.inl HKN.out)
    · have hkl : (k : Int) < (N : Int) - 1 := by omega
      have HI := Lib.hid fun w => Tryd.strings_Index_one t 47 w
      have hge := Lib.indexByte_ge t.data.toList 47
      by_cases hno : Lib.indexByte t.data.toList 47 = -1
      · have HT := Lib.hid (idx_no hno)
        rw [hno] at HI
        clear hno hge
        obtain ⟨g, e, hg1, hg2, hcg, hfg, hset⟩ := HOr.out.set (i := k) (by omega) t (inS_of (by omega))
        injection e with e
        injection e with e
        subst e
        rw [set_step hd hk] at hset
        have HS := Lib.hid hset
        clear hset
        go_wp2_with fail
        refine (HI.out _).mono ?_
        rintro e w2 ⟨rfl, rfl⟩
        go_wp2
        go_ret
        have HR := Lib.hid (rdS_take HS.out.rd (k := k + 1) hk)
        have HB2 := Lib.hid (HBr.out.setCell (p := ⟨w.heap.size, k, none⟩) (Nat.le_refl _) (.string t))
        have hr := HR.out
        rw [take_step hd] at hr
        exact HF.out _ _ (hr.more (by simp)) HB2.out (.inr HT.out)
      · obtain ⟨o, ho⟩ : ∃ o : Nat, Lib.indexByte t.data.toList 47 = (o : Int) := ⟨(Lib.indexByte t.data.toList 47).toNat, by omega⟩
        have hat := idx_at ho
        rw [ho] at HI
        have HT := Lib.hid hat.2
        have hlt := hat.1
        have hx1 : (t.extract 0 o).size ≤ s.size := by
          have := sub_size t 0 o (by omega) (by omega)
          omega
        have hx2 := sub_size2 t (o + 1) (by omega)
        have HX1 := Lib.hid hx1
        have HX2 := Lib.hid hx2
        clear hno hge ho hat hx1 hx2
        obtain ⟨g, e, hg1, hg2, hcg, hfg, hset⟩ := HOr.out.set (i := k) (by omega) (t.extract 0 o) (inS_of (by have := HX1.out; omega))
        injection e with e
        injection e with e
        subst e
        rw [set_step hd hk] at hset
        have HS := Lib.hid hset
        clear hset
        go_wp2_with fail
        refine (HI.out _).mono ?_
        rintro e w2 ⟨rfl, rfl⟩
        go_wp2
        go_roundw
        case rel =>
          refine ⟨k + 1, t.extract (o + 1) t.size, d ++ [t.extract 0 o], by go_num, by omega, by go_num, by simp [hd], by rw [HX2.out]; omega, ?_, fun x hx => ?_, HS.out.top, HBr.out.setCell (p := ⟨w.heap.size, k, none⟩) (Nat.le_refl _) _⟩
          · rw [← HSP.out, HT.out, List.append_assoc]
            rfl
          · rcases List.mem_append.1 hx with hx | hx
            · exact HD.out x hx
            · rw [List.mem_singleton.1 hx]
              exact HX1.out
        case measure => simp [intOf]; omega
end Go.Proofs.YtkgdgnjlmcodlaaDoor.C05G
