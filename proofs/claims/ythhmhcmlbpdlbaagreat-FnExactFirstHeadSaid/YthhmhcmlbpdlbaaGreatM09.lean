/- Chapter 9: plain facts on contents of zones. Chapter 9: plain facts that FnContents says. -/
import Derived.Test.YthhmhcmlbpdlbaaGreatM08
import Derived.Test.YthhmhcmlbpdlbaaGreatQ08
namespace Go.Proofs.YthhmhcmlbpdlbaaGreat.M09
open Go.RowKit R08 M04 M05 M08 RW
set_option linter.unusedVariables false
set_option maxRecDepth 100000
instance : DecidableEq Entry := fun a b => decidable_of_iff (a.label = b.label ∧ a.kind = b.kind ∧ a.value = b.value ∧ a.path = b.path) (by cases a; cases b; simp)
def at0 (l : List Entry) (i : Nat) : Entry := l.getD i default
def okE (l : List Entry) (i : Nat) : Bool := isEntry (at0 l i) && (decide (i = 0) || decide (cmpS (at0 l (i - 1)).label (at0 l i).label = -1))
def areE (l : List Entry) : Bool := (List.range l.length).all (okE l) && decide (l.length ≤ 12)
def fndFrom (s : ByteArray) : Int → List Entry → Int
  | _, [] => -1
  | i, z :: r => if z.label = s then i else fndFrom s (i + 1) r
def fndE (l : List Entry) (s : ByteArray) : Int := fndFrom s 0 l
def putStep (e : Entry) (st : List Entry × Bool) (z : Entry) : List Entry × Bool :=
  let k := cmpS z.label e.label
  let a := decide (0 ≤ k) && !st.2
  ((st.1 ++ (if a then [e] else [])) ++ (if k = 0 then [] else [z]), st.2 || decide (0 ≤ k))
def putSt (e : Entry) (l : List Entry) : List Entry × Bool := l.foldl (putStep e) ([], false)
def putAll (e : Entry) (l : List Entry) : List Entry := (putSt e l).1 ++ (if (putSt e l).2 then [] else [e])
def putE (l : List Entry) (e : Entry) : List Entry × Bool := if areE l && areE (putAll e l) then (putAll e l, true) else (l, false)
def dropE (l : List Entry) (s : ByteArray) : List Entry × Bool := if areE l && decide (0 ≤ fndE l s) then (l.take (fndE l s).toNat ++ l.drop ((fndE l s).toNat + 1), true) else (l, false)
def labelsE (l : List Entry) : List ByteArray := l.map Entry.label
def likeE (s x : ByteArray) : Bool := decide (x ≠ s) && looks x s
def alikeE (l : List Entry) (s : ByteArray) : List ByteArray := (labelsE l).filter (likeE s)
def sameE (a b : List Entry) : Bool := decide (a.length = b.length) && (List.range a.length).all fun i => eqEntryB (at0 a i) (at0 b i)
theorem areE_bad {l : List Entry} {j : Nat} (hj : j < l.length) (h : okE l j = false) : areE l = false := by
  unfold areE
  rw [Bool.and_eq_false_iff]
  left
  rw [List.all_eq_false]
  exact ⟨j, List.mem_range.2 hj, by simp [h]⟩
theorem areE_all {l : List Entry} (h : ∀ j, j < l.length → okE l j = true) : areE l = decide (l.length ≤ 12) := by
  unfold areE
  rw [show (List.range l.length).all (okE l) = true from List.all_eq_true.2 fun j hj => h j (List.mem_range.1 hj), Bool.true_and]
theorem areE_len {l : List Entry} (h : areE l = true) : l.length ≤ 12 := by
  unfold areE at h
  rw [Bool.and_eq_true] at h
  exact of_decide_eq_true h.2
theorem fndFrom_hit {s : ByteArray} : ∀ {l : List Entry} {i : Int} {j : Nat}, j < l.length → (∀ k, k < j → (at0 l k).label ≠ s) → (at0 l j).label = s → fndFrom s i l = i + j
  | [], i, j, h, _, _ => by simp at h
  | z :: r, i, 0, _, _, h => by
    unfold fndFrom
    rw [if_pos (by simpa [at0] using h)]
    simp
  | z :: r, i, j + 1, hj, hb, h => by
    unfold fndFrom
    have h0 := hb 0 (by omega)
    rw [if_neg (by simpa [at0] using h0), fndFrom_hit (j := j) (by simpa using hj) (fun k hk => by
      have := hb (k + 1) (by omega)
      simpa [at0] using this) (by simpa [at0] using h)]
    omega
theorem fndFrom_miss {s : ByteArray} : ∀ {l : List Entry} {i : Int}, (∀ k, k < l.length → (at0 l k).label ≠ s) → fndFrom s i l = -1
  | [], i, _ => rfl
  | z :: r, i, h => by
    unfold fndFrom
    have h0 := h 0 (by simp)
    rw [if_neg (by simpa [at0] using h0)]
    exact fndFrom_miss fun k hk => by
      have := h (k + 1) (by simpa using hk)
      simpa [at0] using this
theorem fndE_hit {l : List Entry} {s : ByteArray} {j : Nat} (hj : j < l.length) (hb : ∀ k, k < j → (at0 l k).label ≠ s) (h : (at0 l j).label = s) : fndE l s = j := by
  unfold fndE
  rw [fndFrom_hit hj hb h]
  omega
theorem fndE_miss {l : List Entry} {s : ByteArray} (h : ∀ k, k < l.length → (at0 l k).label ≠ s) : fndE l s = -1 := fndFrom_miss h
theorem fndE_cases (l : List Entry) (s : ByteArray) : (fndE l s = -1 ∧ ∀ k, k < l.length → (at0 l k).label ≠ s) ∨ ∃ j : Nat, j < l.length ∧ fndE l s = j ∧ (at0 l j).label = s ∧ ∀ k, k < j → (at0 l k).label ≠ s := by
  by_cases h : ∃ j, j < l.length ∧ (at0 l j).label = s
  · obtain ⟨j, hj⟩ : ∃ j, (j < l.length ∧ (at0 l j).label = s) ∧ ∀ k, k < j → ¬ (k < l.length ∧ (at0 l k).label = s) := by
      obtain ⟨j, hj⟩ := h
      induction j using Nat.strongRecOn with
      | _ j ih =>
        by_cases h' : ∃ k, k < j ∧ (k < l.length ∧ (at0 l k).label = s)
        · obtain ⟨k, hk, hk'⟩ := h'
          exact ih k hk hk'
        · exact ⟨j, hj, fun k hk hk' => h' ⟨k, hk, hk'⟩⟩
    have hb : ∀ k, k < j → (at0 l k).label ≠ s := fun k hk e => hj.2 k hk ⟨by have := hj.1.1; omega, e⟩
    exact .inr ⟨j, hj.1.1, fndE_hit hj.1.1 hb hj.1.2, hj.1.2, hb⟩
  · exact .inl ⟨fndE_miss fun k hk e => h ⟨k, hk, e⟩, fun k hk e => h ⟨k, hk, e⟩⟩
theorem take_snocE {l : List Entry} {j : Nat} (h : j < l.length) : l.take (j + 1) = l.take j ++ [at0 l j] := by
  rw [List.take_succ_eq_append_getElem h]
  simp [at0, List.getD, h]
theorem putSt_step {e : Entry} {l : List Entry} {j : Nat} (h : j < l.length) : putSt e (l.take (j + 1)) = putStep e (putSt e (l.take j)) (at0 l j) := by
  unfold putSt
  rw [take_snocE h, List.foldl_append]
  rfl
theorem labels_step {l : List Entry} {j : Nat} (h : j < l.length) : labelsE (l.take (j + 1)) = labelsE (l.take j) ++ [(at0 l j).label] := by
  unfold labelsE
  rw [take_snocE h, List.map_append]
  rfl
theorem alike_step {l : List Entry} {s : ByteArray} {j : Nat} (h : j < l.length) : alikeE (l.take (j + 1)) s = alikeE (l.take j) s ++ (if likeE s (at0 l j).label then [(at0 l j).label] else []) := by
  unfold alikeE
  rw [labels_step h, List.filter_append]
  cases hx : likeE s (at0 l j).label <;> simp [hx]
theorem alike_le (l : List Entry) (s : ByteArray) : (alikeE l s).length ≤ l.length := by
  unfold alikeE labelsE
  exact Nat.le_trans (List.length_filter_le _ _) (by simp)
theorem putStep_len (e : Entry) (st : List Entry × Bool) (z : Entry) : (putStep e st z).1.length ≤ st.1.length + (if st.2 then 0 else if (putStep e st z).2 then 1 else 0) + 1 := by
  unfold putStep
  cases hs : st.2 <;> cases hd : decide (0 ≤ cmpS z.label e.label) <;> by_cases hk : cmpS z.label e.label = 0 <;> simp [hk, hd]
theorem putSt_len (e : Entry) (l : List Entry) : (putSt e l).1.length + (if (putSt e l).2 then 0 else 1) ≤ l.length + 1 := by
  have key : ∀ (l : List Entry) (st : List Entry × Bool), (l.foldl (putStep e) st).1.length + (if (l.foldl (putStep e) st).2 then 0 else 1) ≤ st.1.length + (if st.2 then 0 else 1) + l.length := by
    intro l
    induction l with
    | nil => intro st; exact Nat.le_add_right _ _
    | cons z r ih =>
      intro st
      rw [List.foldl_cons]
      have h1 := ih (putStep e st z)
      have h2 := putStep_len e st z
      have h3 : st.2 = true → (putStep e st z).2 = true := fun h => by unfold putStep; simp [h]
      cases hs : st.2 <;> cases hd : (putStep e st z).2 <;> simp_all <;> omega
  have := key l ([], false)
  unfold putSt
  simp at this
  omega
theorem putAll_len (e : Entry) (l : List Entry) : (putAll e l).length ≤ l.length + 1 := by
  have h := putSt_len e l
  unfold putAll
  cases hd : (putSt e l).2 <;> simp [hd] at h ⊢ <;> omega
theorem totR_append (xs ys : List Entry) : totR totEntry (xs ++ ys) = totR totEntry xs + totR totEntry ys := by
  unfold totR
  simp only [List.length_append, List.map_append, List.sum_append]
  omega
theorem putStep_tot (e : Entry) (st : List Entry × Bool) (z : Entry) : totR totEntry (putStep e st z).1 + (if (putStep e st z).2 then 0 else totEntry e + 1) ≤ totR totEntry st.1 + (if st.2 then 0 else totEntry e + 1) + (totEntry z + 1) := by
  unfold putStep
  simp only [totR_append]
  cases hs : st.2 <;> by_cases hd : 0 ≤ cmpS z.label e.label <;> by_cases hk : cmpS z.label e.label = 0 <;> simp [hk, hd, totR] <;> omega
theorem putSt_tot (e : Entry) (l : List Entry) : totR totEntry (putSt e l).1 + (if (putSt e l).2 then 0 else totEntry e + 1) ≤ totR totEntry l + (totEntry e + 1) := by
  have key : ∀ (l : List Entry) (st : List Entry × Bool), totR totEntry (l.foldl (putStep e) st).1 + (if (l.foldl (putStep e) st).2 then 0 else totEntry e + 1) ≤ totR totEntry st.1 + (if st.2 then 0 else totEntry e + 1) + totR totEntry l := by
    intro l
    induction l with
    | nil => intro st; exact Nat.le_add_right _ _
    | cons z r ih =>
      intro st
      rw [List.foldl_cons]
      have h1 := ih (putStep e st z)
      have h2 := putStep_tot e st z
      have h3 : totR totEntry (z :: r) = totEntry z + 1 + totR totEntry r := by unfold totR; simp; omega
      omega
  have h := key l ([], false)
  have h0 : totR totEntry ([] : List Entry) = 0 := rfl
  simp only [Bool.false_eq_true, if_false, h0] at h
  unfold putSt
  omega
theorem putAll_tot (e : Entry) (l : List Entry) : totR totEntry (putAll e l) ≤ totR totEntry l + (totEntry e + 1) := by
  have h := putSt_tot e l
  unfold putAll
  rw [totR_append]
  cases hd : (putSt e l).2 <;> rw [hd] at h <;> simp [totR] at h ⊢ <;> omega
theorem putE_tot (l : List Entry) (e : Entry) : totR totEntry (putE l e).1 ≤ totR totEntry l + (totEntry e + 1) := by
  unfold putE
  split
  · exact putAll_tot e l
  · simp only
    omega
theorem totR_take (l : List Entry) (j : Nat) : totR totEntry (l.take j) ≤ totR totEntry l := by
  have h := congrArg (totR totEntry) (List.take_append_drop j l)
  rw [totR_append] at h
  omega
theorem totR_drop (l : List Entry) (j : Nat) : totR totEntry (l.drop j) ≤ totR totEntry l := by
  have h := congrArg (totR totEntry) (List.take_append_drop j l)
  rw [totR_append] at h
  omega
theorem dropE_tot (l : List Entry) (s : ByteArray) : totR totEntry (dropE l s).1 ≤ 2 * totR totEntry l := by
  unfold dropE
  split
  · simp only [totR_append]
    have h1 := totR_take l (fndE l s).toNat
    have h2 := totR_drop l ((fndE l s).toNat + 1)
    omega
  · simp only
    omega
theorem sameE_iff {a b : List Entry} : sameE a b = true ↔ a = b := by
  unfold sameE
  rw [Bool.and_eq_true, List.all_eq_true]
  constructor
  · rintro ⟨h1, h2⟩
    have h1 := of_decide_eq_true h1
    refine List.ext_getElem h1 fun i hi hi' => ?_
    have := eqEntryB_iff.1 (h2 i (List.mem_range.2 hi))
    simpa [at0, List.getD, hi, hi'] using this
  · rintro rfl
    exact ⟨decide_eq_true rfl, fun i _ => eqEntryB_refl _⟩
theorem sameE_no {a b : List Entry} {j : Nat} (hj : j < a.length) (h : eqEntryB (at0 a j) (at0 b j) = false) : sameE a b = false := by
  cases hs : sameE a b with
  | false => rfl
  | true =>
    rw [sameE_iff.1 hs, eqEntryB_refl] at h
    cases h
theorem sameE_all {a b : List Entry} (hl : a.length = b.length) (h : ∀ j, j < a.length → eqEntryB (at0 a j) (at0 b j) = true) : sameE a b = true := by
  unfold sameE
  rw [Bool.and_eq_true, List.all_eq_true]
  exact ⟨decide_eq_true hl, fun j hj => h j (List.mem_range.1 hj)⟩
theorem sameE_len {a b : List Entry} (hl : ¬ a.length = b.length) : sameE a b = false := by
  unfold sameE
  rw [decide_eq_false hl, Bool.false_and]
end Go.Proofs.YthhmhcmlbpdlbaaGreat.M09
namespace Go.Proofs.YthhmhcmlbpdlbaaGreat.M09F
open Go.RowKit R08 M04 M05 M08 M09 RW
set_option linter.unusedVariables false
set_option maxRecDepth 100000
theorem cmpL_trans : ∀ {a b c : List UInt8}, Lib.compareBytes a b = -1 → Lib.compareBytes b c = -1 → Lib.compareBytes a c = -1
  | [], [], _, h, _ => by simp [Lib.compareBytes] at h
  | [], _ :: _, [], _, h => by simp [Lib.compareBytes] at h
  | [], _ :: _, _ :: _, _, _ => by simp [Lib.compareBytes]
  | _ :: _, [], _, h, _ => by simp [Lib.compareBytes] at h
  | _ :: _, _ :: _, [], _, h => by simp [Lib.compareBytes] at h
  | x :: a, y :: b, z :: c, h, h' => by
    have e1 : ∀ p q : UInt8, p < q ↔ p.toNat < q.toNat := fun p q => UInt8.lt_iff_toNat_lt
    simp only [Lib.compareBytes, e1] at h h' ⊢
    rcases Nat.lt_trichotomy x.toNat y.toNat with h1 | h1 | h1
    · rcases Nat.lt_trichotomy y.toNat z.toNat with h2 | h2 | h2
      · rw [if_pos (by omega)]
      · rw [if_pos (by omega)]
      · rw [if_neg (by omega), if_pos h2] at h'
        simp at h'
    · rcases Nat.lt_trichotomy y.toNat z.toNat with h2 | h2 | h2
      · rw [if_pos (by omega)]
      · rw [if_neg (by omega), if_neg (by omega)] at h h' ⊢
        exact cmpL_trans h h'
      · rw [if_neg (by omega), if_pos h2] at h'
        simp at h'
    · rw [if_neg (by omega), if_pos h1] at h
      simp at h
theorem cmpS_trans {a b c : ByteArray} (h : cmpS a b = -1) (h' : cmpS b c = -1) : cmpS a c = -1 := cmpL_trans h h'
theorem cmpS_self (a : ByteArray) : cmpS a a = 0 := cmp_self _
theorem cmpS_zero {a b : ByteArray} (h : cmpS a b = 0) : a = b := data_ext (cmp_zero _ _ h)
theorem areE_ok {m : List Entry} (h : areE m = true) {i : Nat} (hi : i < m.length) : okE m i = true := by
  unfold areE at h
  rw [Bool.and_eq_true, List.all_eq_true] at h
  exact h.1 i (List.mem_range.2 hi)
theorem srt {m : List Entry} (h : areE m = true) : ∀ {i j : Nat}, i < j → j < m.length → cmpS (at0 m i).label (at0 m j).label = -1
  | i, 0, h0, _ => absurd h0 (by omega)
  | i, j + 1, h0, hj => by
    have h1 := areE_ok h hj
    unfold okE at h1
    simp only [Nat.add_one_sub_one, Nat.add_eq_zero_iff, Nat.one_ne_zero, and_false, decide_false, Bool.false_or, Bool.and_eq_true, decide_eq_true_eq] at h1
    rcases Nat.lt_or_ge i j with h2 | h2
    · exact cmpS_trans (srt h h2 (by omega)) h1.2
    · obtain rfl : i = j := by omega
      exact h1.2
theorem uniq {m : List Entry} (h : areE m = true) {i j : Nat} (hi : i < m.length) (hj : j < m.length) (he : (at0 m i).label = (at0 m j).label) : i = j := by
  rcases Nat.lt_trichotomy i j with h1 | h1 | h1
  · have := srt h h1 hj
    rw [he, cmpS_self] at this
    cases this
  · exact h1
  · have := srt h h1 hi
    rw [he, cmpS_self] at this
    cases this
theorem fnd_at {m : List Entry} (h : areE m = true) {i : Nat} (hi : i < m.length) {s : ByteArray} (hs : (at0 m i).label = s) : fndE m s = i := by
  rcases fndE_cases m s with ⟨_, h2⟩ | ⟨j, hj, h2, h3, _⟩
  · exact absurd hs (h2 i hi)
  · rw [h2, uniq h hj hi (by rw [h3, hs])]
theorem mem_at {m : List Entry} {z : Entry} (h : z ∈ m) : ∃ i, i < m.length ∧ at0 m i = z := by
  obtain ⟨i, hi, e⟩ := List.mem_iff_getElem.1 h
  exact ⟨i, hi, by simp [at0, List.getD, hi, e]⟩
theorem at_mem {m : List Entry} {i : Nat} (h : i < m.length) : at0 m i ∈ m := by
  simp only [at0, List.getD, List.getElem?_eq_getElem h, Option.getD_some]
  exact List.getElem_mem h
theorem step_sub {e z x : Entry} {st : List Entry × Bool} (h : x ∈ st.1) : x ∈ (putStep e st z).1 := by
  unfold putStep
  simp [h]
theorem step_done {e z : Entry} {st : List Entry × Bool} (h : st.2 = true → e ∈ st.1) : (putStep e st z).2 = true → e ∈ (putStep e st z).1 := by
  intro hd
  cases hs : st.2 with
  | true => exact step_sub (h hs)
  | false =>
    unfold putStep at hd ⊢
    rw [hs] at hd ⊢
    simp only [Bool.false_or] at hd
    simp [hd]
theorem fold_sub {e x : Entry} : ∀ (l : List Entry) (st : List Entry × Bool), x ∈ st.1 → x ∈ (l.foldl (putStep e) st).1
  | [], st, h => h
  | z :: r, st, h => by
    rw [List.foldl_cons]
    exact fold_sub r _ (step_sub h)
theorem fold_done {e : Entry} : ∀ (l : List Entry) (st : List Entry × Bool), (st.2 = true → e ∈ st.1) → (l.foldl (putStep e) st).2 = true → e ∈ (l.foldl (putStep e) st).1
  | [], st, h => h
  | z :: r, st, h => by
    rw [List.foldl_cons]
    exact fold_done r _ (step_done h)
theorem fold_keep {e x : Entry} (hne : x.label ≠ e.label) : ∀ (l : List Entry) (st : List Entry × Bool), x ∈ l → x ∈ (l.foldl (putStep e) st).1
  | [], st, h => by simp at h
  | z :: r, st, h => by
    rw [List.foldl_cons]
    rcases List.mem_cons.1 h with rfl | h
    · refine fold_sub r _ ?_
      unfold putStep
      have hk : ¬ cmpS x.label e.label = 0 := fun h0 => hne (cmpS_zero h0)
      simp [hk]
    · exact fold_keep hne r _ h
theorem put_mem (e : Entry) (l : List Entry) : e ∈ putAll e l := by
  unfold putAll
  cases hd : (putSt e l).2 with
  | true => exact List.mem_append_left _ (fold_done l ([], false) (by simp) hd)
  | false => simp
theorem put_keep {e x : Entry} {l : List Entry} (hx : x ∈ l) (hne : x.label ≠ e.label) : x ∈ putAll e l := by
  unfold putAll
  exact List.mem_append_left _ (fold_keep hne l _ hx)
/-- what the law asks of a list that took an entry -/
theorem put_found {e : Entry} {l : List Entry} (h : areE (putAll e l) = true) : ∃ k : Nat, k < (putAll e l).length ∧ fndE (putAll e l) e.label = k ∧ at0 (putAll e l) k = e := by
  obtain ⟨k, hk, he⟩ := mem_at (put_mem e l)
  exact ⟨k, hk, fnd_at h hk (by rw [he]), he⟩
theorem put_other {e : Entry} {l : List Entry} (h : areE (putAll e l) = true) {i : Nat} (hi : i < l.length) :
    ∃ j : Nat, j < (putAll e l).length ∧ fndE (putAll e l) (at0 l i).label = j ∧ ((at0 l i).label ≠ e.label → at0 (putAll e l) j = at0 l i) := by
  by_cases hl : (at0 l i).label = e.label
  · obtain ⟨k, hk, h1, _⟩ := put_found h
    exact ⟨k, hk, by rw [hl]; exact h1, fun h => absurd hl h⟩
  · obtain ⟨j, hj, he⟩ := mem_at (put_keep (e := e) (at_mem hi) hl)
    exact ⟨j, hj, fnd_at h hj (by rw [he]), fun _ => he⟩
theorem drop_gone {m : List Entry} (h : areE m = true) {k : Nat} (hk : k < m.length) {s : ByteArray} (hs : (at0 m k).label = s) :
    dropE m s = (m.take k ++ m.drop (k + 1), true) ∧ fndE (m.take k ++ m.drop (k + 1)) s = -1 ∧ (m.take k ++ m.drop (k + 1)).length = m.length - 1 := by
  have hf := fnd_at h hk hs
  refine ⟨?_, ?_, by simp; omega⟩
  · unfold dropE
    rw [h, hf]
    simp
  · refine fndE_miss fun i hi he => ?_
    have hlen : (m.take k).length = k := by simp; omega
    rw [List.length_append, hlen, List.length_drop] at hi
    rcases Nat.lt_or_ge i k with h1 | h1
    · have e1 : at0 (m.take k ++ m.drop (k + 1)) i = at0 m i := by
        simp only [at0, List.getD]
        rw [List.getElem?_append_left (by omega), List.getElem?_take_of_lt h1]
      rw [e1] at he
      have := uniq h (show i < m.length by omega) hk (by rw [he, hs])
      omega
    · have e1 : at0 (m.take k ++ m.drop (k + 1)) i = at0 m (i + 1) := by
        simp only [at0, List.getD]
        rw [List.getElem?_append_right (by omega), hlen, List.getElem?_drop, show k + 1 + (i - k) = i + 1 by omega]
      rw [e1] at he
      have := uniq h (show i + 1 < m.length by omega) hk (by rw [he, hs])
      omega
theorem alike_get {l : List Entry} {s : ByteArray} {i : Nat} (hi : i < (alikeE l s).length) : (alikeE l s).getD i .empty ≠ s ∧ looks ((alikeE l s).getD i .empty) s = true := by
  have hm : (alikeE l s).getD i .empty ∈ alikeE l s := by
    simp only [List.getD, List.getElem?_eq_getElem hi, Option.getD_some]
    exact List.getElem_mem hi
  have := (List.mem_filter.1 hm).2
  unfold likeE at this
  rw [Bool.and_eq_true] at this
  exact ⟨of_decide_eq_true this.1, this.2⟩
theorem sameE_refl (a : List Entry) : sameE a a = true := sameE_iff.2 rfl
end Go.Proofs.YthhmhcmlbpdlbaaGreat.M09F
