/- Chapter 9: plain facts that FnContents says. -/
import Derived.Test.YtpjfmbcandgpeaaM09
namespace Go.Proofs.Ytpjfmbcandgpeaa.M09F
open Go.RowKit R08 M04 M05 M08 M09 RW
set_option linter.unusedVariables false
set_option maxRecDepth 100000
theorem cmpL_trans : ∀ {a b c : List UInt8}, Lib.compareBytes a b = -1 → Lib.compareBytes b c = -1 → Lib.compareBytes a c = -1
  | [], [], _, h, _ => by simp [Lib.compareBytes] at h
  | [], _ :: _, [], _, h => by simp [Lib.compareBytes] at h
  | [], _ :: _, _ :: _, _, _ => by simp [Lib.compareBytes]
  | _ :: _, [], _, h, _ => by simp [Lib.compareBytes] at h
  | _ :: _, _ :: _, [], _, h => by simp [Lib.compareBytes] at h
  | x :: a, y :: b, z :: c, h, h' => by
    have e1 : ∀ p q : UInt8, p < q ↔ p.toNat < q.toNat := fun p q => UInt8.lt_iff_toNat_lt
    simp only [Lib.compareBytes, e1] at h h' ⊢
    rcases Nat.lt_trichotomy x.toNat y.toNat with h1 | h1 | h1
    · rcases Nat.lt_trichotomy y.toNat z.toNat with h2 | h2 | h2
      · rw [if_pos (by omega)]
      · rw [if_pos (by omega)]
      · rw [if_neg (by omega), if_pos h2] at h'
        simp at h'
    · rcases Nat.lt_trichotomy y.toNat z.toNat with h2 | h2 | h2
      · rw [if_pos (by omega)]
      · rw [if_neg (by omega), if_neg (by omega)] at h h' ⊢
        exact cmpL_trans h h'
      · rw [if_neg (by omega), if_pos h2] at h'
        simp at h'
    · rw [if_neg (by omega), if_pos h1] at h
      simp at h
theorem cmpS_trans {a b c : ByteArray} (h : cmpS a b = -1) (h' : cmpS b c = -1) : cmpS a c = -1 := cmpL_trans h h'
theorem cmpS_self (a : ByteArray) : cmpS a a = 0 := cmp_self _
theorem cmpS_zero {a b : ByteArray} (h : cmpS a b = 0) : a = b := data_ext (cmp_zero _ _ h)
theorem areE_ok {m : List Entry} (h : areE m = true) {i : Nat} (hi : i < m.length) : okE m i = true := by
  unfold areE at h
  rw [Bool.and_eq_true, List.all_eq_true] at h
  exact h.1 i (List.mem_range.2 hi)
theorem srt {m : List Entry} (h : areE m = true) : ∀ {i j : Nat}, i < j → j < m.length → cmpS (at0 m i).label (at0 m j).label = -1
  | i, 0, h0, _ => absurd h0 (by omega)
  | i, j + 1, h0, hj => by
    have h1 := areE_ok h hj
    unfold okE at h1
    simp only [Nat.add_one_sub_one, Nat.add_eq_zero_iff, Nat.one_ne_zero, and_false, decide_false, Bool.false_or, Bool.and_eq_true, decide_eq_true_eq] at h1
    rcases Nat.lt_or_ge i j with h2 | h2
    · exact cmpS_trans (srt h h2 (by omega)) h1.2
    · obtain rfl : i = j := by omega
      exact h1.2
theorem uniq {m : List Entry} (h : areE m = true) {i j : Nat} (hi : i < m.length) (hj : j < m.length) (he : (at0 m i).label = (at0 m j).label) : i = j := by
  rcases Nat.lt_trichotomy i j with h1 | h1 | h1
  · have := srt h h1 hj
    rw [he, cmpS_self] at this
    cases this
  · exact h1
  · have := srt h h1 hi
    rw [he, cmpS_self] at this
    cases this
theorem fnd_at {m : List Entry} (h : areE m = true) {i : Nat} (hi : i < m.length) {s : ByteArray} (hs : (at0 m i).label = s) : fndE m s = i := by
  rcases fndE_cases m s with ⟨_, h2⟩ | ⟨j, hj, h2, h3, _⟩
  · exact absurd hs (h2 i hi)
  · rw [h2, uniq h hj hi (by rw [h3, hs])]
theorem mem_at {m : List Entry} {z : Entry} (h : z ∈ m) : ∃ i, i < m.length ∧ at0 m i = z := by
  obtain ⟨i, hi, e⟩ := List.mem_iff_getElem.1 h
  exact ⟨i, hi, by simp [at0, List.getD, hi, e]⟩
theorem at_mem {m : List Entry} {i : Nat} (h : i < m.length) : at0 m i ∈ m := by
  simp only [at0, List.getD, List.getElem?_eq_getElem h, Option.getD_some]
  exact List.getElem_mem h
theorem step_sub {e z x : Entry} {st : List Entry × Bool} (h : x ∈ st.1) : x ∈ (putStep e st z).1 := by
  unfold putStep
  simp [h]
theorem step_done {e z : Entry} {st : List Entry × Bool} (h : st.2 = true → e ∈ st.1) : (putStep e st z).2 = true → e ∈ (putStep e st z).1 := by
  intro hd
  cases hs : st.2 with
  | true => exact step_sub (h hs)
  | false =>
    unfold putStep at hd ⊢
    rw [hs] at hd ⊢
    simp only [Bool.false_or] at hd
    simp [hd]
theorem fold_sub {e x : Entry} : ∀ (l : List Entry) (st : List Entry × Bool), x ∈ st.1 → x ∈ (l.foldl (putStep e) st).1
  | [], st, h => h
  | z :: r, st, h => by
    rw [List.foldl_cons]
    exact fold_sub r _ (step_sub h)
theorem fold_done {e : Entry} : ∀ (l : List Entry) (st : List Entry × Bool), (st.2 = true → e ∈ st.1) → (l.foldl (putStep e) st).2 = true → e ∈ (l.foldl (putStep e) st).1
  | [], st, h => h
  | z :: r, st, h => by
    rw [List.foldl_cons]
    exact fold_done r _ (step_done h)
theorem fold_keep {e x : Entry} (hne : x.label ≠ e.label) : ∀ (l : List Entry) (st : List Entry × Bool), x ∈ l → x ∈ (l.foldl (putStep e) st).1
  | [], st, h => by simp at h
  | z :: r, st, h => by
    rw [List.foldl_cons]
    rcases List.mem_cons.1 h with rfl | h
    · refine fold_sub r _ ?_
      unfold putStep
      have hk : ¬ cmpS x.label e.label = 0 := fun h0 => hne (cmpS_zero h0)
      simp [hk]
    · exact fold_keep hne r _ h
theorem put_mem (e : Entry) (l : List Entry) : e ∈ putAll e l := by
  unfold putAll
  cases hd : (putSt e l).2 with
  | true => exact List.mem_append_left _ (fold_done l ([], false) (by simp) hd)
  | false => simp
theorem put_keep {e x : Entry} {l : List Entry} (hx : x ∈ l) (hne : x.label ≠ e.label) : x ∈ putAll e l := by
  unfold putAll
  exact List.mem_append_left _ (fold_keep hne l _ hx)
/-- what the law asks of a list that took an entry -/
theorem put_found {e : Entry} {l : List Entry} (h : areE (putAll e l) = true) : ∃ k : Nat, k < (putAll e l).length ∧ fndE (putAll e l) e.label = k ∧ at0 (putAll e l) k = e := by
  obtain ⟨k, hk, he⟩ := mem_at (put_mem e l)
  exact ⟨k, hk, fnd_at h hk (by rw [he]), he⟩
theorem put_other {e : Entry} {l : List Entry} (h : areE (putAll e l) = true) {i : Nat} (hi : i < l.length) :
    ∃ j : Nat, j < (putAll e l).length ∧ fndE (putAll e l) (at0 l i).label = j ∧ ((at0 l i).label ≠ e.label → at0 (putAll e l) j = at0 l i) := by
  by_cases hl : (at0 l i).label = e.label
  · obtain ⟨k, hk, h1, _⟩ := put_found h
    exact ⟨k, hk, by rw [hl]; exact h1, fun h => absurd hl h⟩
  · obtain ⟨j, hj, he⟩ := mem_at (put_keep (e := e) (at_mem hi) hl)
    exact ⟨j, hj, fnd_at h hj (by rw [he]), fun _ => he⟩
theorem drop_gone {m : List Entry} (h : areE m = true) {k : Nat} (hk : k < m.length) {s : ByteArray} (hs : (at0 m k).label = s) :
    dropE m s = (m.take k ++ m.drop (k + 1), true) ∧ fndE (m.take k ++ m.drop (k + 1)) s = -1 ∧ (m.take k ++ m.drop (k + 1)).length = m.length - 1 := by
  have hf := fnd_at h hk hs
  refine ⟨?_, ?_, by simp; omega⟩
  · unfold dropE
    rw [h, hf]
    simp
  · refine fndE_miss fun i hi he => ?_
    have hlen : (m.take k).length = k := by simp; omega
    rw [List.length_append, hlen, List.length_drop] at hi
    rcases Nat.lt_or_ge i k with h1 | h1
    · have e1 : at0 (m.take k ++ m.drop (k + 1)) i = at0 m i := by
        simp only [at0, List.getD]
        rw [List.getElem?_append_left (by omega), List.getElem?_take_of_lt h1]
      rw [e1] at he
      have := uniq h (show i < m.length by omega) hk (by rw [he, hs])
      omega
    · have e1 : at0 (m.take k ++ m.drop (k + 1)) i = at0 m (i + 1) := by
        simp only [at0, List.getD]
        rw [List.getElem?_append_right (by omega), hlen, List.getElem?_drop, show k + 1 + (i - k) = i + 1 by omega]
      rw [e1] at he
      have := uniq h (show i + 1 < m.length by omega) hk (by rw [he, hs])
      omega
theorem alike_get {l : List Entry} {s : ByteArray} {i : Nat} (hi : i < (alikeE l s).length) : (alikeE l s).getD i .empty ≠ s ∧ looks ((alikeE l s).getD i .empty) s = true := by
  have hm : (alikeE l s).getD i .empty ∈ alikeE l s := by
    simp only [List.getD, List.getElem?_eq_getElem hi, Option.getD_some]
    exact List.getElem_mem hi
  have := (List.mem_filter.1 hm).2
  unfold likeE at this
  rw [Bool.and_eq_true] at this
  exact ⟨of_decide_eq_true this.1, this.2⟩
theorem sameE_refl (a : List Entry) : sameE a a = true := sameE_iff.2 rfl
end Go.Proofs.Ytpjfmbcandgpeaa.M09F
