/- Chapter 5: plain facts on paths. -/
import Derived.Test.YtcpfdhammhcoaaaM04
import Derived.Test.YtcpfdhammhcoaaaMemS
namespace Go.Proofs.Ytcpfdhammhcoaaa.M05
open Go.RowKit M04 Mem MemS C03D
set_option linter.unusedVariables false
def ofL (l : List UInt8) : ByteArray := ⟨l.toArray⟩
def bys (s : ByteArray) : List UInt8 := s.data.toList
theorem bys_ofL (l : List UInt8) : bys (ofL l) = l := by simp [bys, ofL]
theorem ofL_bys (s : ByteArray) : ofL (bys s) = s := by
  apply data_ext
  simp [bys, ofL]
theorem ofL_size (l : List UInt8) : (ofL l).size = l.length := by simp [ofL, ByteArray.size]
theorem bys_len (s : ByteArray) : (bys s).length = s.size := by rw [bys, Array.length_toList]; rfl
theorem bys_inj {a b : ByteArray} (h : bys a = bys b) : a = b := by rw [← ofL_bys a, h, ofL_bys]
/-- the pieces between the slashes -/
def splitL : List UInt8 → List (List UInt8)
  | [] => [[]]
  | c :: r => if c = 47 then [] :: splitL r else
    match splitL r with
    | [] => [[c]]
    | h :: t => (c :: h) :: t
/-- the pieces with slashes between them -/
def jn : List (List UInt8) → List UInt8
  | [] => []
  | [x] => x
  | x :: y :: r => x ++ 47 :: jn (y :: r)
def onH (pre : List UInt8) : List (List UInt8) → List (List UInt8)
  | [] => [pre]
  | h :: t => (pre ++ h) :: t
theorem splitL_ne (l : List UInt8) : splitL l ≠ [] := by
  cases l with
  | nil => simp [splitL]
  | cons c r =>
    unfold splitL
    split
    · simp
    · split <;> simp
theorem splitL_other {c : UInt8} {r : List UInt8} (h : c ≠ 47) : splitL (c :: r) = onH [c] (splitL r) := by
  rw [splitL, if_neg h]
  cases hs : splitL r <;> simp [onH]
theorem splitL_slash (r : List UInt8) : splitL (47 :: r) = [] :: splitL r := by rw [splitL, if_pos rfl]
theorem onH_nil (l : List UInt8) : onH [] (splitL l) = splitL l := by
  cases h : splitL l with
  | nil => exact absurd h (splitL_ne l)
  | cons a t => rfl
theorem onH_onH (a b : List UInt8) (l : List (List UInt8)) : onH a (onH b l) = onH (a ++ b) l := by cases l <;> simp [onH]
theorem jn_cons (x : List UInt8) {l : List (List UInt8)} (h : l ≠ []) : jn (x :: l) = x ++ 47 :: jn l := by
  cases l with
  | nil => exact absurd rfl h
  | cons y r => rfl
theorem jn_onH (a : List UInt8) {l : List (List UInt8)} (h : l ≠ []) : jn (onH a l) = a ++ jn l := by
  cases l with
  | nil => exact absurd rfl h
  | cons y r =>
    cases r with
    | nil => rfl
    | cons z r => simp [onH, jn]
theorem jn_split (l : List UInt8) : jn (splitL l) = l := by
  induction l with
  | nil => rfl
  | cons c r ih =>
    by_cases h : c = 47
    · subst h
      rw [splitL_slash, jn_cons _ (splitL_ne r), ih]
      rfl
    · rw [splitL_other h, jn_onH _ (splitL_ne r), ih]
      rfl
theorem jn_snoc (x : List UInt8) : ∀ {l : List (List UInt8)}, l ≠ [] → jn (l ++ [x]) = jn l ++ 47 :: x
  | [], h => absurd rfl h
  | [a], _ => rfl
  | a :: b :: r, _ => by
    have ih := jn_snoc x (l := b :: r) (by simp)
    rw [List.cons_append, jn_cons a (by simp), ih, jn_cons a (l := b :: r) (by simp)]
    simp
theorem split_free {a : List UInt8} (h : 47 ∉ a) (l : List UInt8) : splitL (a ++ l) = onH a (splitL l) := by
  induction a with
  | nil => exact (onH_nil l).symm
  | cons c r ih =>
    have hc : c ≠ 47 := fun e => h (by simp [e])
    have hr : 47 ∉ r := fun e => h (List.mem_cons_of_mem _ e)
    rw [List.cons_append, splitL_other hc, ih hr, onH_onH]
    rfl
theorem split_jn : ∀ {xs : List (List UInt8)}, xs ≠ [] → (∀ x ∈ xs, 47 ∉ x) → splitL (jn xs) = xs
  | [], h, _ => absurd rfl h
  | [x], _, hx => by
    have := split_free (hx x (by simp)) []
    rw [List.append_nil] at this
    rw [jn, this]
    simp [splitL, onH]
  | x :: y :: r, _, hx => by
    have ih := split_jn (xs := y :: r) (by simp) fun z hz => hx z (List.mem_cons_of_mem _ hz)
    rw [jn_cons x (by simp), split_free (hx x (by simp)), splitL_slash, ih]
    simp [onH]

def isPth (p : List ByteArray) : Bool := p.all isLab && decide (1 ≤ p.length ∧ p.length ≤ 4)
def splitS (s : ByteArray) : List ByteArray := (splitL (bys s)).map ofL
def joinS (p : List ByteArray) : ByteArray := ofL (jn (p.map bys))
def fmtP (p : List ByteArray) : ByteArray := if isPth p then joinS p else .empty
def prsP (s : ByteArray) : List ByteArray × Bool := if isPth (splitS s) then (splitS s, true) else ([], false)
def parP (p : List ByteArray) : List ByteArray × Bool := if isPth p && decide (p.length ≠ 1) then (p.take (p.length - 1), true) else ([], false)
def joinP (p : List ByteArray) (s : ByteArray) : List ByteArray × Bool := if isPth (p ++ [s]) then (p ++ [s], true) else ([], false)
def belowP (p q : List ByteArray) : Bool := isPth p && isPth q && decide (q.length < p.length) && decide (p.take q.length = q)

theorem isPth_len {p : List ByteArray} (h : isPth p = true) : 1 ≤ p.length ∧ p.length ≤ 4 := by
  unfold isPth at h
  simp at h
  omega
theorem isPth_lab {p : List ByteArray} (h : isPth p = true) : ∀ s ∈ p, isLab s = true := by
  unfold isPth at h
  simp at h
  exact h.1
theorem isPth_long {p : List ByteArray} (h : p.length < 1 ∨ 4 < p.length) : isPth p = false := by
  unfold isPth
  have : ¬ (1 ≤ p.length ∧ p.length ≤ 4) := by omega
  simp [this]
theorem isPth_bad {p : List ByteArray} {j : Nat} (h : j < p.length) (hl : isLab (p.getD j .empty) = false) : isPth p = false := by
  unfold isPth
  have : p.all isLab = false := by
    rw [List.all_eq_false]
    exact ⟨p.getD j .empty, by simp [List.getD, List.getElem?_eq_getElem h], by rw [hl]; simp⟩
  rw [this]
  rfl
theorem isPth_all {p : List ByteArray} (h : ∀ j, j < p.length → isLab (p.getD j .empty) = true) : isPth p = decide (1 ≤ p.length ∧ p.length ≤ 4) := by
  unfold isPth
  have : p.all isLab = true := by
    rw [List.all_eq_true]
    intro s hs
    obtain ⟨i, hi, rfl⟩ := List.mem_iff_getElem.1 hs
    have := h i hi
    simpa [List.getD, List.getElem?_eq_getElem hi] using this
  rw [this, Bool.true_and]
theorem isLab_size {s : ByteArray} (h : isLab s = true) : 1 ≤ s.size ∧ s.size ≤ 8 := by
  by_cases hs : 1 ≤ s.size ∧ s.size ≤ 8
  · exact hs
  · rw [isLab_small hs] at h
    cases h
theorem isLab_empty : isLab .empty = false := isLab_small (by simp)
/-- a label holds no slash -/
theorem isLab_free {s : ByteArray} (h : isLab s = true) : (47 : UInt8) ∉ bys s := by
  have hs := isLab_size h
  intro hm
  obtain ⟨i, hi, he⟩ := List.mem_iff_getElem.1 hm
  rw [bys_len] at hi
  have h0 : ¬ ((s[0]'(by omega)).toNat : Int) = 45 := fun e => by rw [isLab_first (by omega) e] at h; cases h
  have h8 : ¬ ((s[s.size - 1]'(by omega)).toNat : Int) = 45 := fun e => by rw [isLab_last (by omega) e] at h; cases h
  rw [isLab_all hs (by omega) (by omega) h0 h8] at h
  have hn := nums_get s i hi
  have hl : i < (nums s).length := by
    rcases Nat.lt_or_ge i (nums s).length with h | h
    · exact h
    · have : (nums s).length = s.size := nums_len s
      omega
  have hz : labB ((nums s).getD i 0) = true := by
    rw [List.all_eq_true] at h
    refine h _ ?_
    rw [List.getD, List.getElem?_eq_getElem hl]
    exact List.getElem_mem hl
  rw [hn] at hz
  have hv : s[i]'hi = 47 := by
    have : (bys s)[i]'(by rw [bys_len]; exact hi) = s[i]'hi := rfl
    rw [← this, he]
  rw [hv] at hz
  revert hz
  decide
theorem split_join {p : List ByteArray} (h : isPth p = true) : splitS (joinS p) = p := by
  have hl := isPth_len h
  have hlab := isPth_lab h
  unfold splitS joinS
  rw [bys_ofL, split_jn (by intro e; have := congrArg List.length e; simp at this; rw [this] at hl; simp at hl) (fun x hx => by
    obtain ⟨s, hs, rfl⟩ := List.mem_map.1 hx
    exact isLab_free (hlab s hs))]
  rw [List.map_map]
  conv => rhs; rw [← List.map_id p]
  exact List.map_congr_left fun s _ => ofL_bys s
theorem join_split (s : ByteArray) : joinS (splitS s) = s := by
  unfold splitS joinS
  rw [List.map_map, show (bys ∘ ofL) = id from funext bys_ofL, List.map_id, jn_split, ofL_bys]
theorem split_empty : splitS .empty = [.empty] := rfl
theorem prs_fmt (p : List ByteArray) : prsP (fmtP p) = if isPth p then (p, true) else ([], false) := by
  unfold prsP fmtP
  cases h : isPth p
  · simp only [Bool.false_eq_true, if_false]
    rw [split_empty, isPth_bad (p := [.empty]) (j := 0) (by simp) isLab_empty]
    simp
  · simp only [if_true]
    rw [split_join h, h]
    simp
theorem fmt_prs (s : ByteArray) (h : isPth (splitS s) = true) : fmtP (splitS s) = s := by
  unfold fmtP
  rw [h, if_pos rfl, join_split]
theorem isPth_take {p : List ByteArray} (h : isPth p = true) (h1 : p.length ≠ 1) : isPth (p.take (p.length - 1)) = true := by
  have hl := isPth_len h
  have hlab := isPth_lab h
  unfold isPth
  simp only [Bool.and_eq_true, List.all_eq_true, decide_eq_true_eq, List.length_take]
  exact ⟨fun s hs => hlab s (List.mem_of_mem_take hs), by omega⟩
theorem take_last {p : List ByteArray} (h : 1 ≤ p.length) : p.take (p.length - 1) ++ [p.getD (p.length - 1) .empty] = p := by
  have h1 : p.length - 1 < p.length := by omega
  have := List.take_succ_eq_append_getElem h1
  rw [show p.length - 1 + 1 = p.length by omega, List.take_length] at this
  simp only [List.getD, List.getElem?_eq_getElem h1, Option.getD_some]
  exact this.symm
/-- a path of two labels and more is below its parent -/
theorem below_parent {p : List ByteArray} (h : isPth p = true) (h1 : p.length ≠ 1) : belowP p (p.take (p.length - 1)) = true ∧ belowP (p.take (p.length - 1)) p = false := by
  have hl := isPth_len h
  have ht := isPth_take h h1
  constructor
  · unfold belowP
    rw [h, ht]
    simp only [List.length_take, Bool.true_and, Bool.and_eq_true, decide_eq_true_eq]
    exact ⟨by omega, by congr 1; omega⟩
  · unfold belowP
    rw [h, ht]
    have : ¬ p.length < (p.take (p.length - 1)).length := by rw [List.length_take]; omega
    rw [decide_eq_false this]
    rfl
theorem joinP_parent {p : List ByteArray} (h : isPth p = true) : joinP (p.take (p.length - 1)) (p.getD (p.length - 1) .empty) = (p, true) := by
  have hl := isPth_len h
  unfold joinP
  rw [take_last hl.1, h]
  rfl
theorem fmtP_size (p : List ByteArray) : (fmtP p).size ≤ 35 := by
  unfold fmtP
  cases h : isPth p
  · simp
  · simp only [if_true]
    have hl := isPth_len h
    have hlab := isPth_lab h
    unfold joinS
    rw [ofL_size]
    have key : ∀ (l : List (List UInt8)), (∀ x ∈ l, x.length ≤ 8) → (jn l).length ≤ 9 * l.length := by
      intro l
      induction l with
      | nil => intro _; simp [jn]
      | cons x r ih =>
        intro hx
        have h1 := hx x (by simp)
        have h2 := ih fun y hy => hx y (List.mem_cons_of_mem _ hy)
        cases r with
        | nil => simp [jn]; omega
        | cons y r =>
          rw [jn_cons x (by simp)]
          simp only [List.length_append, List.length_cons] at *
          omega
    have h8 : ∀ x ∈ p.map bys, x.length ≤ 8 := fun x hx => by
      obtain ⟨s, hs, rfl⟩ := List.mem_map.1 hx
      rw [bys_len]
      exact (isLab_size (hlab s hs)).2
    have := key (p.map bys) h8
    have h35 : (p.map bys).length = p.length := by simp
    rw [h35] at this
    rcases Nat.lt_or_ge p.length 4 with h4 | h4
    · omega
    · have h44 : p.length = 4 := by omega
      match p, h44 with
      | [a, b, c, d], _ =>
        simp [jn] at h8 ⊢
        omega
theorem splitL_len (l : List UInt8) : (splitL l).length ≤ l.length + 1 ∧ ∀ x ∈ splitL l, x.length ≤ l.length := by
  induction l with
  | nil => simp [splitL]
  | cons c r ih =>
    by_cases h : c = 47
    · subst h
      rw [splitL_slash]
      refine ⟨by have := ih.1; simp; omega, fun x hx => ?_⟩
      rcases List.mem_cons.1 hx with rfl | hx
      · simp
      · have := ih.2 x hx
        simp
        omega
    · rw [splitL_other h]
      cases hs : splitL r with
      | nil => exact absurd hs (splitL_ne r)
      | cons a t =>
        rw [hs] at ih
        refine ⟨by have := ih.1; simp [onH] at this ⊢; omega, fun x hx => ?_⟩
        simp only [onH] at hx
        rcases List.mem_cons.1 hx with rfl | hx
        · have := ih.2 a (by simp)
          simp
          omega
        · have := ih.2 x (List.mem_cons_of_mem _ hx)
          simp
          omega
theorem splitS_len (s : ByteArray) : (splitS s).length ≤ s.size + 1 ∧ ∀ x ∈ splitS s, x.size ≤ s.size := by
  have h := splitL_len (bys s)
  rw [bys_len] at h
  refine ⟨by simpa [splitS] using h.1, fun x hx => ?_⟩
  obtain ⟨l, hl, rfl⟩ := List.mem_map.1 hx
  rw [ofL_size]
  exact h.2 l hl
theorem fmt_no {ss : List ByteArray} (h : isPth ss = false) : fmtP ss = .empty := by unfold fmtP; rw [h]; rfl
theorem fmt_yes {ss : List ByteArray} (h : isPth ss = true) : fmtP ss = ofL (jn ((ss.take ss.length).map bys)) := by
  unfold fmtP joinS
  rw [h, if_pos rfl, List.take_length]
theorem fmt_one {ss : List ByteArray} (h : 0 < ss.length) : ss.getD 0 .empty = ofL (jn ((ss.take 1).map bys)) := by
  match ss, h with
  | a :: r, _ => simp [jn, ofL_bys]
theorem fmt_step {ss : List ByteArray} {j : Nat} (h1 : 1 ≤ j) (hj : j < ss.length) : ofL (jn ((ss.take j).map bys)) ++ ⟨#[47]⟩ ++ ss.getD j .empty = ofL (jn ((ss.take (j + 1)).map bys)) := by
  apply bys_inj
  have hne : (ss.take j).map bys ≠ [] := by
    intro e
    have := congrArg List.length e
    rw [List.length_map, List.length_take, List.length_nil] at this
    omega
  rw [bys_ofL, List.take_succ_eq_append_getElem hj, List.map_append, List.map_singleton, jn_snoc _ hne]
  rw [List.getD, List.getElem?_eq_getElem hj, Option.getD_some]
  unfold bys
  rw [ByteArray.data_append, ByteArray.data_append, Array.toList_append, Array.toList_append]
  have := bys_ofL (jn ((ss.take j).map bys))
  unfold bys at this
  rw [this]
  simp
theorem fmt_part {ss : List ByteArray} (h : isPth ss = true) (j : Nat) : (ofL (jn ((ss.take j).map bys))).size ≤ 36 := by
  have hl := isPth_len h
  have hlab := isPth_lab h
  rw [ofL_size]
  have key : ∀ (l : List (List UInt8)), (∀ x ∈ l, x.length ≤ 8) → (jn l).length ≤ 9 * l.length := by
    intro l
    induction l with
    | nil => intro _; simp [jn]
    | cons x r ih =>
      intro hx
      have h1 := hx x (by simp)
      have h2 := ih fun y hy => hx y (List.mem_cons_of_mem _ hy)
      cases r with
      | nil => simp [jn]; omega
      | cons y r =>
        rw [jn_cons x (by simp)]
        simp only [List.length_append, List.length_cons] at *
        omega
  have := key ((ss.take j).map bys) fun x hx => by
    obtain ⟨s, hs, rfl⟩ := List.mem_map.1 hx
    rw [bys_len]
    exact (isLab_size (hlab s (List.mem_of_mem_take hs))).2
  rw [List.length_map, List.length_take] at this
  omega
end Go.Proofs.Ytcpfdhammhcoaaa.M05
