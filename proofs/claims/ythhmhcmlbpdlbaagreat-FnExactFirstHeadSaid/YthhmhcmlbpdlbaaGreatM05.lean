/- Plain facts on labels: what a label is, its plain form, the order of labels. Chapter 5: plain facts on paths. -/
import Derived.Test.YthhmhcmlbpdlbaaGreatC03H
import Derived.Lib.Bytealg
import Derived.Lib.Strings
import Derived.Lib.LazyBuf
import Derived.Laws.RangeAny
import Derived.Sort.Walk0
import Derived.Test.YthhmhcmlbpdlbaaGreatMem
namespace Go.Proofs.YthhmhcmlbpdlbaaGreat.M04
open Go.RowKit Mem M02 C03D
set_option linter.unusedVariables false
def labB (z : Int) : Bool := decide ((97 ≤ z ∧ z ≤ 122) ∨ (48 ≤ z ∧ z ≤ 57) ∨ z = 45)
def isLab (s : ByteArray) : Bool :=
  decide (1 ≤ s.size ∧ s.size ≤ 8) && (decide ((nums s).getD 0 0 ≠ 45) && (decide ((nums s).getD (s.size - 1) 0 ≠ 45) && (nums s).all labB))
def plB (z : Int) : List Int := if z = 48 then [111] else if z = 49 then [108] else if z = 53 then [115] else if z = 45 then [] else [z]
def plL (zs : List Int) : List Int := zs.flatMap plB
def plain (s : ByteArray) : ByteArray := strOfNums (plL (nums s))
def looks (a b : ByteArray) : Bool := isLab a && (isLab b && decide (plain a = plain b))
def cmpS (a b : ByteArray) : Int := Lib.compareBytes a.data.toList b.data.toList
def fstA (v : ByteArray) : Int → List ByteArray → Int
  | _, [] => -1
  | i, s :: r => if looks s v = true then i else fstA v (i + 1) r

theorem nums_get (s : ByteArray) (k : Nat) (h : k < s.size) : (nums s).getD k 0 = ((s[k]'h).toNat : Int) := by
  have h2 : k < s.data.size := h
  simp only [nums, List.getD, List.getElem?_map, Array.getElem?_toList, Array.getElem?_eq_getElem h2, Option.map_some, Option.getD_some]
  rfl
theorem isLab_small {s : ByteArray} (h : ¬ (1 ≤ s.size ∧ s.size ≤ 8)) : isLab s = false := by
  unfold isLab
  rw [decide_eq_false h, Bool.false_and]
theorem isLab_first {s : ByteArray} (h0 : 0 < s.size) (h : ((s[0]'h0).toNat : Int) = 45) : isLab s = false := by
  unfold isLab
  rw [nums_get s 0 h0, decide_eq_false (p := ((s[0]'h0).toNat : Int) ≠ 45) (fun c => c h), Bool.false_and, Bool.and_false]
theorem isLab_last {s : ByteArray} (h0 : s.size - 1 < s.size) (h : ((s[s.size - 1]'h0).toNat : Int) = 45) : isLab s = false := by
  unfold isLab
  rw [nums_get s (s.size - 1) h0, decide_eq_false (p := ((s[s.size - 1]'h0).toNat : Int) ≠ 45) (fun c => c h), Bool.false_and, Bool.and_false, Bool.and_false]
theorem isLab_all {s : ByteArray} (hn : 1 ≤ s.size ∧ s.size ≤ 8) (h0 : 0 < s.size) (h8 : s.size - 1 < s.size) (h : ¬ ((s[0]'h0).toNat : Int) = 45) (h' : ¬ ((s[s.size - 1]'h8).toNat : Int) = 45) : isLab s = (nums s).all labB := by
  unfold isLab
  rw [nums_get s 0 h0, nums_get s (s.size - 1) h8, decide_eq_true hn, decide_eq_true h, decide_eq_true h', Bool.true_and, Bool.true_and, Bool.true_and]
theorem byt_nums (s : ByteArray) : Byt (nums s) := fun z hz => by
  obtain ⟨b, _, rfl⟩ := List.mem_map.1 hz
  have := b.toNat_lt
  omega
theorem byte_lt (s : ByteArray) (k : Nat) (h : k < s.size) : ((s[k]'h).toNat : Int) ≤ 255 := by
  have := (s[k]'h).toNat_lt
  omega
theorem nums_strOf {zs : List Int} (h : Byt zs) : nums (strOfNums zs) = zs := by
  unfold nums
  rw [strOfNums_data]
  rw [List.map_map]
  conv => rhs; rw [← List.map_id zs]
  refine List.map_congr_left fun z hz => ?_
  have := h z hz
  simp only [Function.comp, UInt8.toNat_ofNat', id]
  omega
theorem strOf_nums (s : ByteArray) : strOfNums (nums s) = s := by
  unfold nums
  rw [Lib.Lz.strOfNums_map]
theorem data_ext {a b : ByteArray} (h : a.data.toList = b.data.toList) : a = b := by
  cases a; cases b
  congr 1
  exact Array.toList_inj.1 h
theorem toList_beq (a b : ByteArray) : (a.toList == b.toList) = decide (a = b) := by
  rw [Lib.toList_data, Lib.toList_data]
  by_cases e : a = b
  · subst e; simp
  · rw [decide_eq_false e]
    exact beq_eq_false_iff_ne.2 fun h => e (data_ext h)
theorem byt_plB {z : Int} (h : 0 ≤ z ∧ z ≤ 255) : Byt (plB z) := fun y hy => by
  unfold plB at hy
  repeat' split at hy
  all_goals simp at hy
  all_goals omega
theorem byt_plL {zs : List Int} (h : Byt zs) : Byt (plL zs) := fun y hy => by
  obtain ⟨z, hz, hy2⟩ := List.mem_flatMap.1 hy
  exact byt_plB (h z hz) y hy2
theorem plB_len (z : Int) : (plB z).length ≤ 1 := by
  unfold plB
  repeat' split
  all_goals simp
theorem plL_len (zs : List Int) : (plL zs).length ≤ zs.length := by
  induction zs with
  | nil => simp [plL]
  | cons z r ih =>
    have := plB_len z
    simp only [plL, List.flatMap_cons, List.length_append, List.length_cons] at *
    omega
theorem strOf_size (zs : List Int) : (strOfNums zs).size = zs.length := by
  have h := congrArg List.length (strOfNums_data zs)
  simpa using h
theorem plain_size (s : ByteArray) : (plain s).size ≤ s.size := by
  unfold plain
  rw [strOf_size]
  have := plL_len (nums s)
  rw [nums_len] at this
  exact this
theorem plL_idem (zs : List Int) : plL (plL zs) = plL zs := by
  induction zs with
  | nil => rfl
  | cons z r ih =>
    have e : plL (z :: r) = plB z ++ plL r := rfl
    have e2 : plL (plB z ++ plL r) = plL (plB z) ++ plL (plL r) := List.flatMap_append
    rw [e, e2, ih]
    congr 1
    unfold plB
    by_cases h1 : z = 48
    · simp [h1, plL, plB]
    by_cases h2 : z = 49
    · simp [h2, plL, plB]
    by_cases h3 : z = 53
    · simp [h3, plL, plB]
    by_cases h4 : z = 45
    · simp [h4, plL]
    · simp [h1, h2, h3, h4, plL, plB]
theorem plain_idem (s : ByteArray) : plain (plain s) = plain s := by
  unfold plain
  rw [nums_strOf (byt_plL (byt_nums s)), plL_idem]
theorem plL_step {zs : List Int} {k : Nat} (h : k < zs.length) : plL (zs.take (k + 1)) = plL (zs.take k) ++ plB (zs.getD k 0) := by
  rw [List.take_succ_eq_append_getElem h]
  unfold plL
  rw [List.flatMap_append]
  congr 1
  simp only [List.getD, List.getElem?_eq_getElem h, Option.getD_some, List.flatMap_cons, List.flatMap_nil, List.append_nil]
theorem all_step {zs : List Int} {k : Nat} (h : k < zs.length) (ha : (zs.take k).all labB = true) (hz : labB (zs.getD k 0) = true) : (zs.take (k + 1)).all labB = true := by
  rw [List.take_succ_eq_append_getElem h]
  rw [List.all_append, ha]
  simpa [List.getD, List.getElem?_eq_getElem h] using hz
theorem all_no {zs : List Int} {k : Nat} (h : k < zs.length) (hz : labB (zs.getD k 0) = false) : zs.all labB = false := by
  refine Bool.eq_false_iff.2 fun hc => ?_
  have := (List.all_eq_true.1 hc) zs[k] (List.getElem_mem h)
  simp only [List.getD, List.getElem?_eq_getElem h, Option.getD_some] at hz
  rw [hz] at this
  cases this
theorem looks_comm (a b : ByteArray) : looks a b = looks b a := by
  unfold looks
  cases isLab a <;> cases isLab b <;> simp [eq_comm]
theorem looks_self (a : ByteArray) : looks a a = isLab a := by
  unfold looks
  cases isLab a <;> simp
theorem cmp_neg : ∀ (a b : List UInt8), Lib.compareBytes a b = - Lib.compareBytes b a
  | [], [] => rfl
  | [], _ :: _ => rfl
  | _ :: _, [] => rfl
  | x :: l1, y :: l2 => by
    unfold Lib.compareBytes
    by_cases h1 : x < y
    · have h2 : ¬ y < x := UInt8.lt_asymm h1
      simp [h1, h2]
    · by_cases h2 : y < x
      · simp [h1, h2]
      · simp only [h1, h2, if_false]
        exact cmp_neg l1 l2
theorem cmpS_neg (a b : ByteArray) : cmpS a b = - cmpS b a := cmp_neg _ _
theorem cmp_range : ∀ (a b : List UInt8), Lib.compareBytes a b = -1 ∨ Lib.compareBytes a b = 0 ∨ Lib.compareBytes a b = 1
  | [], [] => .inr (.inl rfl)
  | [], _ :: _ => .inl rfl
  | _ :: _, [] => .inr (.inr rfl)
  | x :: l1, y :: l2 => by
    unfold Lib.compareBytes
    by_cases h1 : x < y
    · simp [h1]
    · by_cases h2 : y < x
      · simp [h1, h2]
      · simp only [h1, h2, if_false]
        exact cmp_range l1 l2
theorem cmpS_range (a b : ByteArray) : cmpS a b = -1 ∨ cmpS a b = 0 ∨ cmpS a b = 1 := cmp_range _ _
theorem less_cmp : ∀ (a b : List UInt8), Op.bytesLess a b = decide (Lib.compareBytes a b = -1) := by
  intro a b
  rw [Proofs.bytesLess_eq]
  induction a generalizing b with
  | nil => cases b <;> simp [Lib.compareBytes]
  | cons x l1 ih =>
    cases b with
    | nil => simp [Lib.compareBytes]
    | cons y l2 =>
      unfold Lib.compareBytes
      by_cases h1 : x < y
      · simp [h1, List.cons_lt_cons_iff]
      · by_cases h2 : y < x
        · have hne : x ≠ y := fun e => by subst e; exact h1 h2
          simp [h1, h2, List.cons_lt_cons_iff, hne]
        · have e : x = y := UInt8.le_antisymm (UInt8.not_lt.1 h2) (UInt8.not_lt.1 h1)
          subst e
          simp only [h1, if_false]
          rw [← ih l2]
          simp
theorem cmp_zero : ∀ (a b : List UInt8), Lib.compareBytes a b = 0 → a = b
  | [], [], _ => rfl
  | [], _ :: _, h => by simp [Lib.compareBytes] at h
  | _ :: _, [], h => by simp [Lib.compareBytes] at h
  | x :: l1, y :: l2, h => by
    unfold Lib.compareBytes at h
    by_cases h1 : x < y
    · simp [h1] at h
    · by_cases h2 : y < x
      · simp [h1, h2] at h
      · have e : x = y := UInt8.le_antisymm (UInt8.not_lt.1 h2) (UInt8.not_lt.1 h1)
        simp only [h1, h2, if_false] at h
        rw [e, cmp_zero l1 l2 h]
theorem cmp_self : ∀ (a : List UInt8), Lib.compareBytes a a = 0
  | [] => rfl
  | x :: l1 => by
    unfold Lib.compareBytes
    have h : ¬ x < x := UInt8.lt_irrefl x
    simp only [h, if_false]
    exact cmp_self l1
/-- what the order of two strings says of their comparisons -/
theorem cmp_cases (a b : ByteArray) :
    (cmpS a b = -1 ∧ Op.bytesLess a.toList b.toList = true) ∨
    (cmpS a b = 1 ∧ Op.bytesLess a.toList b.toList = false ∧ (a.toList == b.toList) = false) ∨
    (cmpS a b = 0 ∧ Op.bytesLess a.toList b.toList = false ∧ (a.toList == b.toList) = true) := by
  rw [Lib.toList_data, Lib.toList_data, less_cmp]
  rcases cmpS_range a b with h | h | h
  · exact .inl ⟨h, by unfold cmpS at h; simp [h]⟩
  · refine .inr (.inr ⟨h, by unfold cmpS at h; simp [h], ?_⟩)
    rw [cmp_zero _ _ h]
    simp
  · refine .inr (.inl ⟨h, by unfold cmpS at h; simp [h], ?_⟩)
    refine beq_eq_false_iff_ne.2 fun e => ?_
    unfold cmpS at h
    rw [e, cmp_self] at h
    cases h
theorem fstA_range (v : ByteArray) : ∀ (l : List ByteArray) (i : Int), fstA v i l = -1 ∨ (i ≤ fstA v i l ∧ fstA v i l < i + l.length)
  | [], i => .inl rfl
  | s :: r, i => by
    unfold fstA
    split
    · exact .inr ⟨by omega, by simp; omega⟩
    · rcases fstA_range v r (i + 1) with h | h
      · exact .inl h
      · exact .inr ⟨by omega, by simp only [List.length_cons]; omega⟩
theorem drop_step {ss : List ByteArray} {j : Nat} (h : j < ss.length) : ss.drop j = ss.getD j .empty :: ss.drop (j + 1) := by
  rw [List.drop_eq_getElem_cons h]
  simp [List.getD, List.getElem?_eq_getElem h]
/-- the elements before the first alike are not alike, and it is -/
theorem fstA_says (v : ByteArray) : ∀ (l : List ByteArray) (i : Int), 0 ≤ i →
    (∀ j, j < l.length → (fstA v i l < 0 ∨ i + j < fstA v i l) → looks (l.getD j .empty) v = false) ∧
    (∀ k : Nat, fstA v i l = i + k → k < l.length ∧ looks (l.getD k .empty) v = true)
  | [], i, hi => ⟨fun j hj => absurd hj (by simp), fun k hk => by unfold fstA at hk; omega⟩
  | s :: r, i, hi => by
    obtain ⟨h1, h2⟩ := fstA_says v r (i + 1) (by omega)
    have hr := fstA_range v r (i + 1)
    by_cases hl : looks s v = true
    · have e : fstA v i (s :: r) = i := by unfold fstA; rw [if_pos hl]
      rw [e]
      refine ⟨fun j hj h => absurd h (by omega), fun k hk => ?_⟩
      have : k = 0 := by omega
      subst this
      exact ⟨by simp, by simpa using hl⟩
    · have e : fstA v i (s :: r) = fstA v (i + 1) r := by rw [fstA, if_neg hl]
      rw [e]
      refine ⟨fun j hj h => ?_, fun k hk => ?_⟩
      · cases j with
        | zero => simpa using hl
        | succ j =>
          have := h1 j (by simpa using hj) (by omega)
          simpa using this
      · cases k with
        | zero => omega
        | succ k =>
          obtain ⟨h3, h4⟩ := h2 k (by omega)
          exact ⟨by simpa using h3, by simpa using h4⟩
/-- what is left of the budget -/
def szGo : Int → List ByteArray → Int
  | q, [] => q
  | q, s :: r => if q - s.size < 0 then -1 else szGo (q - s.size) r
def szS (q : Int) (ss : List ByteArray) : Int := if q - ss.length < 0 then -1 else szGo (q - ss.length) ss
theorem szGo_le : ∀ (ss : List ByteArray) (q : Int), 0 ≤ q → 0 ≤ szGo q ss → szGo q ss ≤ q ∧ ∀ s ∈ ss, (s.size : Int) ≤ q
  | [], q, _, h => ⟨Int.le_refl _, by simp⟩
  | s :: r, q, hq, h => by
    unfold szGo at h ⊢
    by_cases h0 : q - s.size < 0
    · rw [if_pos h0] at h; omega
    · rw [if_neg h0] at h ⊢
      obtain ⟨h1, h2⟩ := szGo_le r (q - s.size) (by omega) h
      refine ⟨by omega, fun t ht => ?_⟩
      rcases List.mem_cons.1 ht with rfl | ht
      · omega
      · have := h2 t ht; omega
theorem szGo_neg : ∀ (ss : List ByteArray) (q : Int), 0 ≤ q → szGo q ss < 0 → szGo q ss = -1
  | [], q, hq, h => by unfold szGo at h; omega
  | s :: r, q, hq, h => by
    unfold szGo at h ⊢
    by_cases h0 : q - s.size < 0
    · rw [if_pos h0]
    · rw [if_neg h0] at h ⊢
      exact szGo_neg r _ (by omega) h
theorem szS_le {q : Int} {ss : List ByteArray} (hq : 0 ≤ q) (h : 0 ≤ szS q ss) : szS q ss ≤ q ∧ (ss.length : Int) ≤ q ∧ ∀ s ∈ ss, (s.size : Int) ≤ q := by
  unfold szS at h ⊢
  by_cases h0 : q - ss.length < 0
  · rw [if_pos h0] at h; omega
  · rw [if_neg h0] at h ⊢
    obtain ⟨h1, h2⟩ := szGo_le ss _ (by omega) h
    exact ⟨by omega, by omega, fun s hs => by have := h2 s hs; omega⟩
end Go.Proofs.YthhmhcmlbpdlbaaGreat.M04
namespace Go.Proofs.YthhmhcmlbpdlbaaGreat.M05
open Go.RowKit M04 Mem MemS C03D
set_option linter.unusedVariables false
def ofL (l : List UInt8) : ByteArray := ⟨l.toArray⟩
def bys (s : ByteArray) : List UInt8 := s.data.toList
theorem bys_ofL (l : List UInt8) : bys (ofL l) = l := by simp [bys, ofL]
theorem ofL_bys (s : ByteArray) : ofL (bys s) = s := by
  apply data_ext
  simp [bys, ofL]
theorem ofL_size (l : List UInt8) : (ofL l).size = l.length := by simp [ofL, ByteArray.size]
theorem bys_len (s : ByteArray) : (bys s).length = s.size := by rw [bys, Array.length_toList]; rfl
theorem bys_inj {a b : ByteArray} (h : bys a = bys b) : a = b := by rw [← ofL_bys a, h, ofL_bys]
/-- the pieces between the slashes -/
def splitL : List UInt8 → List (List UInt8)
  | [] => [[]]
  | c :: r => if c = 47 then [] :: splitL r else
    match splitL r with
    | [] => [[c]]
    | h :: t => (c :: h) :: t
/-- the pieces with slashes between them -/
def jn : List (List UInt8) → List UInt8
  | [] => []
  | [x] => x
  | x :: y :: r => x ++ 47 :: jn (y :: r)
def onH (pre : List UInt8) : List (List UInt8) → List (List UInt8)
  | [] => [pre]
  | h :: t => (pre ++ h) :: t
theorem splitL_ne (l : List UInt8) : splitL l ≠ [] := by
  cases l with
  | nil => simp [splitL]
  | cons c r =>
    unfold splitL
    split
    · simp
    · split <;> simp
theorem splitL_other {c : UInt8} {r : List UInt8} (h : c ≠ 47) : splitL (c :: r) = onH [c] (splitL r) := by
  rw [splitL, if_neg h]
  cases hs : splitL r <;> simp [onH]
theorem splitL_slash (r : List UInt8) : splitL (47 :: r) = [] :: splitL r := by rw [splitL, if_pos rfl]
theorem onH_nil (l : List UInt8) : onH [] (splitL l) = splitL l := by
  cases h : splitL l with
  | nil => exact absurd h (splitL_ne l)
  | cons a t => rfl
theorem onH_onH (a b : List UInt8) (l : List (List UInt8)) : onH a (onH b l) = onH (a ++ b) l := by cases l <;> simp [onH]
theorem jn_cons (x : List UInt8) {l : List (List UInt8)} (h : l ≠ []) : jn (x :: l) = x ++ 47 :: jn l := by
  cases l with
  | nil => exact absurd rfl h
  | cons y r => rfl
theorem jn_onH (a : List UInt8) {l : List (List UInt8)} (h : l ≠ []) : jn (onH a l) = a ++ jn l := by
  cases l with
  | nil => exact absurd rfl h
  | cons y r =>
    cases r with
    | nil => rfl
    | cons z r => simp [onH, jn]
theorem jn_split (l : List UInt8) : jn (splitL l) = l := by
  induction l with
  | nil => rfl
  | cons c r ih =>
    by_cases h : c = 47
    · subst h
      rw [splitL_slash, jn_cons _ (splitL_ne r), ih]
      rfl
    · rw [splitL_other h, jn_onH _ (splitL_ne r), ih]
      rfl
theorem jn_snoc (x : List UInt8) : ∀ {l : List (List UInt8)}, l ≠ [] → jn (l ++ [x]) = jn l ++ 47 :: x
  | [], h => absurd rfl h
  | [a], _ => rfl
  | a :: b :: r, _ => by
    have ih := jn_snoc x (l := b :: r) (by simp)
    rw [List.cons_append, jn_cons a (by simp), ih, jn_cons a (l := b :: r) (by simp)]
    simp
theorem split_free {a : List UInt8} (h : 47 ∉ a) (l : List UInt8) : splitL (a ++ l) = onH a (splitL l) := by
  induction a with
  | nil => exact (onH_nil l).symm
  | cons c r ih =>
    have hc : c ≠ 47 := fun e => h (by simp [e])
    have hr : 47 ∉ r := fun e => h (List.mem_cons_of_mem _ e)
    rw [List.cons_append, splitL_other hc, ih hr, onH_onH]
    rfl
theorem split_jn : ∀ {xs : List (List UInt8)}, xs ≠ [] → (∀ x ∈ xs, 47 ∉ x) → splitL (jn xs) = xs
  | [], h, _ => absurd rfl h
  | [x], _, hx => by
    have := split_free (hx x (by simp)) []
    rw [List.append_nil] at this
    rw [jn, this]
    simp [splitL, onH]
  | x :: y :: r, _, hx => by
    have ih := split_jn (xs := y :: r) (by simp) fun z hz => hx z (List.mem_cons_of_mem _ hz)
    rw [jn_cons x (by simp), split_free (hx x (by simp)), splitL_slash, ih]
    simp [onH]

def isPth (p : List ByteArray) : Bool := p.all isLab && decide (1 ≤ p.length ∧ p.length ≤ 4)
def splitS (s : ByteArray) : List ByteArray := (splitL (bys s)).map ofL
def joinS (p : List ByteArray) : ByteArray := ofL (jn (p.map bys))
def fmtP (p : List ByteArray) : ByteArray := if isPth p then joinS p else .empty
def prsP (s : ByteArray) : List ByteArray × Bool := if isPth (splitS s) then (splitS s, true) else ([], false)
def parP (p : List ByteArray) : List ByteArray × Bool := if isPth p && decide (p.length ≠ 1) then (p.take (p.length - 1), true) else ([], false)
def joinP (p : List ByteArray) (s : ByteArray) : List ByteArray × Bool := if isPth (p ++ [s]) then (p ++ [s], true) else ([], false)
def belowP (p q : List ByteArray) : Bool := isPth p && isPth q && decide (q.length < p.length) && decide (p.take q.length = q)

theorem isPth_len {p : List ByteArray} (h : isPth p = true) : 1 ≤ p.length ∧ p.length ≤ 4 := by
  unfold isPth at h
  simp at h
  omega
theorem isPth_lab {p : List ByteArray} (h : isPth p = true) : ∀ s ∈ p, isLab s = true := by
  unfold isPth at h
  simp at h
  exact h.1
theorem isPth_long {p : List ByteArray} (h : p.length < 1 ∨ 4 < p.length) : isPth p = false := by
  unfold isPth
  have : ¬ (1 ≤ p.length ∧ p.length ≤ 4) := by omega
  simp [this]
theorem isPth_bad {p : List ByteArray} {j : Nat} (h : j < p.length) (hl : isLab (p.getD j .empty) = false) : isPth p = false := by
  unfold isPth
  have : p.all isLab = false := by
    rw [List.all_eq_false]
    exact ⟨p.getD j .empty, by simp [List.getD, List.getElem?_eq_getElem h], by rw [hl]; simp⟩
  rw [this]
  rfl
theorem isPth_all {p : List ByteArray} (h : ∀ j, j < p.length → isLab (p.getD j .empty) = true) : isPth p = decide (1 ≤ p.length ∧ p.length ≤ 4) := by
  unfold isPth
  have : p.all isLab = true := by
    rw [List.all_eq_true]
    intro s hs
    obtain ⟨i, hi, rfl⟩ := List.mem_iff_getElem.1 hs
    have := h i hi
    simpa [List.getD, List.getElem?_eq_getElem hi] using this
  rw [this, Bool.true_and]
theorem isLab_size {s : ByteArray} (h : isLab s = true) : 1 ≤ s.size ∧ s.size ≤ 8 := by
  by_cases hs : 1 ≤ s.size ∧ s.size ≤ 8
  · exact hs
  · rw [isLab_small hs] at h
    cases h
theorem isLab_empty : isLab .empty = false := isLab_small (by simp)
/-- a label holds no slash -/
theorem isLab_free {s : ByteArray} (h : isLab s = true) : (47 : UInt8) ∉ bys s := by
  have hs := isLab_size h
  intro hm
  obtain ⟨i, hi, he⟩ := List.mem_iff_getElem.1 hm
  rw [bys_len] at hi
  have h0 : ¬ ((s[0]'(by omega)).toNat : Int) = 45 := fun e => by rw [isLab_first (by omega) e] at h; cases h
  have h8 : ¬ ((s[s.size - 1]'(by omega)).toNat : Int) = 45 := fun e => by rw [isLab_last (by omega) e] at h; cases h
  rw [isLab_all hs (by omega) (by omega) h0 h8] at h
  have hn := nums_get s i hi
  have hl : i < (nums s).length := by
    rcases Nat.lt_or_ge i (nums s).length with h | h
    · exact h
    · have : (nums s).length = s.size := nums_len s
      omega
  have hz : labB ((nums s).getD i 0) = true := by
    rw [List.all_eq_true] at h
    refine h _ ?_
    rw [List.getD, List.getElem?_eq_getElem hl]
    exact List.getElem_mem hl
  rw [hn] at hz
  have hv : s[i]'hi = 47 := by
    have : (bys s)[i]'(by rw [bys_len]; exact hi) = s[i]'hi := rfl
    rw [← this, he]
  rw [hv] at hz
  revert hz
  decide
theorem split_join {p : List ByteArray} (h : isPth p = true) : splitS (joinS p) = p := by
  have hl := isPth_len h
  have hlab := isPth_lab h
  unfold splitS joinS
  rw [bys_ofL, split_jn (by intro e; have := congrArg List.length e; simp at this; rw [this] at hl; simp at hl) (fun x hx => by
    obtain ⟨s, hs, rfl⟩ := List.mem_map.1 hx
    exact isLab_free (hlab s hs))]
  rw [List.map_map]
  conv => rhs; rw [← List.map_id p]
  exact List.map_congr_left fun s _ => ofL_bys s
theorem join_split (s : ByteArray) : joinS (splitS s) = s := by
  unfold splitS joinS
  rw [List.map_map, show (bys ∘ ofL) = id from funext bys_ofL, List.map_id, jn_split, ofL_bys]
theorem split_empty : splitS .empty = [.empty] := rfl
theorem prs_fmt (p : List ByteArray) : prsP (fmtP p) = if isPth p then (p, true) else ([], false) := by
  unfold prsP fmtP
  cases h : isPth p
  · simp only [Bool.false_eq_true, if_false]
    rw [split_empty, isPth_bad (p := [.empty]) (j := 0) (by simp) isLab_empty]
    simp
  · simp only [if_true]
    rw [split_join h, h]
    simp
theorem fmt_prs (s : ByteArray) (h : isPth (splitS s) = true) : fmtP (splitS s) = s := by
  unfold fmtP
  rw [h, if_pos rfl, join_split]
theorem isPth_take {p : List ByteArray} (h : isPth p = true) (h1 : p.length ≠ 1) : isPth (p.take (p.length - 1)) = true := by
  have hl := isPth_len h
  have hlab := isPth_lab h
  unfold isPth
  simp only [Bool.and_eq_true, List.all_eq_true, decide_eq_true_eq, List.length_take]
  exact ⟨fun s hs => hlab s (List.mem_of_mem_take hs), by omega⟩
theorem take_last {p : List ByteArray} (h : 1 ≤ p.length) : p.take (p.length - 1) ++ [p.getD (p.length - 1) .empty] = p := by
  have h1 : p.length - 1 < p.length := by omega
  have := List.take_succ_eq_append_getElem h1
  rw [show p.length - 1 + 1 = p.length by omega, List.take_length] at this
  simp only [List.getD, List.getElem?_eq_getElem h1, Option.getD_some]
  exact this.symm
/-- a path of two labels and more is below its parent -/
theorem below_parent {p : List ByteArray} (h : isPth p = true) (h1 : p.length ≠ 1) : belowP p (p.take (p.length - 1)) = true ∧ belowP (p.take (p.length - 1)) p = false := by
  have hl := isPth_len h
  have ht := isPth_take h h1
  constructor
  · unfold belowP
    rw [h, ht]
    simp only [List.length_take, Bool.true_and, Bool.and_eq_true, decide_eq_true_eq]
    exact ⟨by omega, by congr 1; omega⟩
  · unfold belowP
    rw [h, ht]
    have : ¬ p.length < (p.take (p.length - 1)).length := by rw [List.length_take]; omega
    rw [decide_eq_false this]
    rfl
theorem joinP_parent {p : List ByteArray} (h : isPth p = true) : joinP (p.take (p.length - 1)) (p.getD (p.length - 1) .empty) = (p, true) := by
  have hl := isPth_len h
  unfold joinP
  rw [take_last hl.1, h]
  rfl
theorem fmtP_size (p : List ByteArray) : (fmtP p).size ≤ 35 := by
  unfold fmtP
  cases h : isPth p
  · simp
  · simp only [if_true]
    have hl := isPth_len h
    have hlab := isPth_lab h
    unfold joinS
    rw [ofL_size]
    have key : ∀ (l : List (List UInt8)), (∀ x ∈ l, x.length ≤ 8) → (jn l).length ≤ 9 * l.length := by
      intro l
      induction l with
      | nil => intro _; simp [jn]
      | cons x r ih =>
        intro hx
        have h1 := hx x (by simp)
        have h2 := ih fun y hy => hx y (List.mem_cons_of_mem _ hy)
        cases r with
        | nil => simp [jn]; omega
        | cons y r =>
          rw [jn_cons x (by simp)]
          simp only [List.length_append, List.length_cons] at *
          omega
    have h8 : ∀ x ∈ p.map bys, x.length ≤ 8 := fun x hx => by
      obtain ⟨s, hs, rfl⟩ := List.mem_map.1 hx
      rw [bys_len]
      exact (isLab_size (hlab s hs)).2
    have := key (p.map bys) h8
    have h35 : (p.map bys).length = p.length := by simp
    rw [h35] at this
    rcases Nat.lt_or_ge p.length 4 with h4 | h4
    · omega
    · have h44 : p.length = 4 := by omega
      match p, h44 with
      | [a, b, c, d], _ =>
        simp [jn] at h8 ⊢
        omega
theorem splitL_len (l : List UInt8) : (splitL l).length ≤ l.length + 1 ∧ ∀ x ∈ splitL l, x.length ≤ l.length := by
  induction l with
  | nil => simp [splitL]
  | cons c r ih =>
    by_cases h : c = 47
    · subst h
      rw [splitL_slash]
      refine ⟨by have := ih.1; simp; omega, fun x hx => ?_⟩
      rcases List.mem_cons.1 hx with rfl | hx
      · simp
      · have := ih.2 x hx
        simp
        omega
    · rw [splitL_other h]
      cases hs : splitL r with
      | nil => exact absurd hs (splitL_ne r)
      | cons a t =>
        rw [hs] at ih
        refine ⟨by have := ih.1; simp [onH] at this ⊢; omega, fun x hx => ?_⟩
        simp only [onH] at hx
        rcases List.mem_cons.1 hx with rfl | hx
        · have := ih.2 a (by simp)
          simp
          omega
        · have := ih.2 x (List.mem_cons_of_mem _ hx)
          simp
          omega
theorem splitS_len (s : ByteArray) : (splitS s).length ≤ s.size + 1 ∧ ∀ x ∈ splitS s, x.size ≤ s.size := by
  have h := splitL_len (bys s)
  rw [bys_len] at h
  refine ⟨by simpa [splitS] using h.1, fun x hx => ?_⟩
  obtain ⟨l, hl, rfl⟩ := List.mem_map.1 hx
  rw [ofL_size]
  exact h.2 l hl
theorem fmt_no {ss : List ByteArray} (h : isPth ss = false) : fmtP ss = .empty := by unfold fmtP; rw [h]; rfl
theorem fmt_yes {ss : List ByteArray} (h : isPth ss = true) : fmtP ss = ofL (jn ((ss.take ss.length).map bys)) := by
  unfold fmtP joinS
  rw [h, if_pos rfl, List.take_length]
theorem fmt_one {ss : List ByteArray} (h : 0 < ss.length) : ss.getD 0 .empty = ofL (jn ((ss.take 1).map bys)) := by
  match ss, h with
  | a :: r, _ => simp [jn, ofL_bys]
theorem fmt_step {ss : List ByteArray} {j : Nat} (h1 : 1 ≤ j) (hj : j < ss.length) : ofL (jn ((ss.take j).map bys)) ++ ⟨#[47]⟩ ++ ss.getD j .empty = ofL (jn ((ss.take (j + 1)).map bys)) := by
  apply bys_inj
  have hne : (ss.take j).map bys ≠ [] := by
    intro e
    have := congrArg List.length e
    rw [List.length_map, List.length_take, List.length_nil] at this
    omega
  rw [bys_ofL, List.take_succ_eq_append_getElem hj, List.map_append, List.map_singleton, jn_snoc _ hne]
  rw [List.getD, List.getElem?_eq_getElem hj, Option.getD_some]
  unfold bys
  rw [ByteArray.data_append, ByteArray.data_append, Array.toList_append, Array.toList_append]
  have := bys_ofL (jn ((ss.take j).map bys))
  unfold bys at this
  rw [this]
  simp
theorem fmt_part {ss : List ByteArray} (h : isPth ss = true) (j : Nat) : (ofL (jn ((ss.take j).map bys))).size ≤ 36 := by
  have hl := isPth_len h
  have hlab := isPth_lab h
  rw [ofL_size]
  have key : ∀ (l : List (List UInt8)), (∀ x ∈ l, x.length ≤ 8) → (jn l).length ≤ 9 * l.length := by
    intro l
    induction l with
    | nil => intro _; simp [jn]
    | cons x r ih =>
      intro hx
      have h1 := hx x (by simp)
      have h2 := ih fun y hy => hx y (List.mem_cons_of_mem _ hy)
      cases r with
      | nil => simp [jn]; omega
      | cons y r =>
        rw [jn_cons x (by simp)]
        simp only [List.length_append, List.length_cons] at *
        omega
  have := key ((ss.take j).map bys) fun x hx => by
    obtain ⟨s, hs, rfl⟩ := List.mem_map.1 hx
    rw [bys_len]
    exact (isLab_size (hlab s (List.mem_of_mem_take hs))).2
  rw [List.length_map, List.length_take] at this
  omega
end Go.Proofs.YthhmhcmlbpdlbaaGreat.M05
