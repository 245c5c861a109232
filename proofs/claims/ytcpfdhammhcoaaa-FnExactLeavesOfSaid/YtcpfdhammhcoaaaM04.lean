/- Plain facts on labels: what a label is, its plain form, the order of labels. -/
import Derived.Test.YtcpfdhammhcoaaaC03D
import Derived.Lib.Bytealg
import Derived.Lib.Strings
import Derived.Lib.LazyBuf
import Derived.Laws.RangeAny
import Derived.Sort.Walk0
namespace Go.Proofs.Ytcpfdhammhcoaaa.M04
open Go.RowKit Mem M02 C03D
set_option linter.unusedVariables false
def labB (z : Int) : Bool := decide ((97 ≤ z ∧ z ≤ 122) ∨ (48 ≤ z ∧ z ≤ 57) ∨ z = 45)
def isLab (s : ByteArray) : Bool :=
  decide (1 ≤ s.size ∧ s.size ≤ 8) && (decide ((nums s).getD 0 0 ≠ 45) && (decide ((nums s).getD (s.size - 1) 0 ≠ 45) && (nums s).all labB))
def plB (z : Int) : List Int := if z = 48 then [111] else if z = 49 then [108] else if z = 53 then [115] else if z = 45 then [] else [z]
def plL (zs : List Int) : List Int := zs.flatMap plB
def plain (s : ByteArray) : ByteArray := strOfNums (plL (nums s))
def looks (a b : ByteArray) : Bool := isLab a && (isLab b && decide (plain a = plain b))
def cmpS (a b : ByteArray) : Int := Lib.compareBytes a.data.toList b.data.toList
def fstA (v : ByteArray) : Int → List ByteArray → Int
  | _, [] => -1
  | i, s :: r => if looks s v = true then i else fstA v (i + 1) r

theorem nums_get (s : ByteArray) (k : Nat) (h : k < s.size) : (nums s).getD k 0 = ((s[k]'h).toNat : Int) := by
  have h2 : k < s.data.size := h
  simp only [nums, List.getD, List.getElem?_map, Array.getElem?_toList, Array.getElem?_eq_getElem h2, Option.map_some, Option.getD_some]
  rfl
theorem isLab_small {s : ByteArray} (h : ¬ (1 ≤ s.size ∧ s.size ≤ 8)) : isLab s = false := by
  unfold isLab
  rw [decide_eq_false h, Bool.false_and]
theorem isLab_first {s : ByteArray} (h0 : 0 < s.size) (h : ((s[0]'h0).toNat : Int) = 45) : isLab s = false := by
  unfold isLab
  rw [nums_get s 0 h0, decide_eq_false (p := ((s[0]'h0).toNat : Int) ≠ 45) (fun c => c h), Bool.false_and, Bool.and_false]
theorem isLab_last {s : ByteArray} (h0 : s.size - 1 < s.size) (h : ((s[s.size - 1]'h0).toNat : Int) = 45) : isLab s = false := by
  unfold isLab
  rw [nums_get s (s.size - 1) h0, decide_eq_false (p := ((s[s.size - 1]'h0).toNat : Int) ≠ 45) (fun c => c h), Bool.false_and, Bool.and_false, Bool.and_false]
theorem isLab_all {s : ByteArray} (hn : 1 ≤ s.size ∧ s.size ≤ 8) (h0 : 0 < s.size) (h8 : s.size - 1 < s.size) (h : ¬ ((s[0]'h0).toNat : Int) = 45) (h' : ¬ ((s[s.size - 1]'h8).toNat : Int) = 45) : isLab s = (nums s).all labB := by
  unfold isLab
  rw [nums_get s 0 h0, nums_get s (s.size - 1) h8, decide_eq_true hn, decide_eq_true h, decide_eq_true h', Bool.true_and, Bool.true_and, Bool.true_and]
theorem byt_nums (s : ByteArray) : Byt (nums s) := fun z hz => by
  obtain ⟨b, _, rfl⟩ := List.mem_map.1 hz
  have := b.toNat_lt
  omega
theorem byte_lt (s : ByteArray) (k : Nat) (h : k < s.size) : ((s[k]'h).toNat : Int) ≤ 255 := by
  have := (s[k]'h).toNat_lt
  omega
theorem nums_strOf {zs : List Int} (h : Byt zs) : nums (strOfNums zs) = zs := by
  unfold nums
  rw [strOfNums_data]
  rw [List.map_map]
  conv => rhs; rw [← List.map_id zs]
  refine List.map_congr_left fun z hz => ?_
  have := h z hz
  simp only [Function.comp, UInt8.toNat_ofNat', id]
  omega
theorem strOf_nums (s : ByteArray) : strOfNums (nums s) = s := by
  unfold nums
  rw [Lib.Lz.strOfNums_map]
theorem data_ext {a b : ByteArray} (h : a.data.toList = b.data.toList) : a = b := by
  cases a; cases b
  congr 1
  exact Array.toList_inj.1 h
theorem toList_beq (a b : ByteArray) : (a.toList == b.toList) = decide (a = b) := by
  rw [Lib.toList_data, Lib.toList_data]
  by_cases e : a = b
  · subst e; simp
  · rw [decide_eq_false e]
    exact beq_eq_false_iff_ne.2 fun h => e (data_ext h)
theorem byt_plB {z : Int} (h : 0 ≤ z ∧ z ≤ 255) : Byt (plB z) := fun y hy => by
  unfold plB at hy
  repeat' split at hy
  all_goals simp at hy
  all_goals omega
theorem byt_plL {zs : List Int} (h : Byt zs) : Byt (plL zs) := fun y hy => by
  obtain ⟨z, hz, hy2⟩ := List.mem_flatMap.1 hy
  exact byt_plB (h z hz) y hy2
theorem plB_len (z : Int) : (plB z).length ≤ 1 := by
  unfold plB
  repeat' split
  all_goals simp
theorem plL_len (zs : List Int) : (plL zs).length ≤ zs.length := by
  induction zs with
  | nil => simp [plL]
  | cons z r ih =>
    have := plB_len z
    simp only [plL, List.flatMap_cons, List.length_append, List.length_cons] at *
    omega
theorem strOf_size (zs : List Int) : (strOfNums zs).size = zs.length := by
  have h := congrArg List.length (strOfNums_data zs)
  simpa using h
theorem plain_size (s : ByteArray) : (plain s).size ≤ s.size := by
  unfold plain
  rw [strOf_size]
  have := plL_len (nums s)
  rw [nums_len] at this
  exact this
theorem plL_idem (zs : List Int) : plL (plL zs) = plL zs := by
  induction zs with
  | nil => rfl
  | cons z r ih =>
    have e : plL (z :: r) = plB z ++ plL r := rfl
    have e2 : plL (plB z ++ plL r) = plL (plB z) ++ plL (plL r) := List.flatMap_append
    rw [e, e2, ih]
    congr 1
    unfold plB
    by_cases h1 : z = 48
    · simp [h1, plL, plB]
    by_cases h2 : z = 49
    · simp [h2, plL, plB]
    by_cases h3 : z = 53
    · simp [h3, plL, plB]
    by_cases h4 : z = 45
    · simp [h4, plL]
    · simp [h1, h2, h3, h4, plL, plB]
theorem plain_idem (s : ByteArray) : plain (plain s) = plain s := by
  unfold plain
  rw [nums_strOf (byt_plL (byt_nums s)), plL_idem]
theorem plL_step {zs : List Int} {k : Nat} (h : k < zs.length) : plL (zs.take (k + 1)) = plL (zs.take k) ++ plB (zs.getD k 0) := by
  rw [List.take_succ_eq_append_getElem h]
  unfold plL
  rw [List.flatMap_append]
  congr 1
  simp only [List.getD, List.getElem?_eq_getElem h, Option.getD_some, List.flatMap_cons, List.flatMap_nil, List.append_nil]
theorem all_step {zs : List Int} {k : Nat} (h : k < zs.length) (ha : (zs.take k).all labB = true) (hz : labB (zs.getD k 0) = true) : (zs.take (k + 1)).all labB = true := by
  rw [List.take_succ_eq_append_getElem h]
  rw [List.all_append, ha]
  simpa [List.getD, List.getElem?_eq_getElem h] using hz
theorem all_no {zs : List Int} {k : Nat} (h : k < zs.length) (hz : labB (zs.getD k 0) = false) : zs.all labB = false := by
  refine Bool.eq_false_iff.2 fun hc => ?_
  have := (List.all_eq_true.1 hc) zs[k] (List.getElem_mem h)
  simp only [List.getD, List.getElem?_eq_getElem h, Option.getD_some] at hz
  rw [hz] at this
  cases this
theorem looks_comm (a b : ByteArray) : looks a b = looks b a := by
  unfold looks
  cases isLab a <;> cases isLab b <;> simp [eq_comm]
theorem looks_self (a : ByteArray) : looks a a = isLab a := by
  unfold looks
  cases isLab a <;> simp
theorem cmp_neg : ∀ (a b : List UInt8), Lib.compareBytes a b = - Lib.compareBytes b a
  | [], [] => rfl
  | [], _ :: _ => rfl
  | _ :: _, [] => rfl
  | x :: l1, y :: l2 => by
    unfold Lib.compareBytes
    by_cases h1 : x < y
    · have h2 : ¬ y < x := UInt8.lt_asymm h1
      simp [h1, h2]
    · by_cases h2 : y < x
      · simp [h1, h2]
      · simp only [h1, h2, if_false]
        exact cmp_neg l1 l2
theorem cmpS_neg (a b : ByteArray) : cmpS a b = - cmpS b a := cmp_neg _ _
theorem cmp_range : ∀ (a b : List UInt8), Lib.compareBytes a b = -1 ∨ Lib.compareBytes a b = 0 ∨ Lib.compareBytes a b = 1
  | [], [] => .inr (.inl rfl)
  | [], _ :: _ => .inl rfl
  | _ :: _, [] => .inr (.inr rfl)
  | x :: l1, y :: l2 => by
    unfold Lib.compareBytes
    by_cases h1 : x < y
    · simp [h1]
    · by_cases h2 : y < x
      · simp [h1, h2]
      · simp only [h1, h2, if_false]
        exact cmp_range l1 l2
theorem cmpS_range (a b : ByteArray) : cmpS a b = -1 ∨ cmpS a b = 0 ∨ cmpS a b = 1 := cmp_range _ _
theorem less_cmp : ∀ (a b : List UInt8), Op.bytesLess a b = decide (Lib.compareBytes a b = -1) := by
  intro a b
  rw [Proofs.bytesLess_eq]
  induction a generalizing b with
  | nil => cases b <;> simp [Lib.compareBytes]
  | cons x l1 ih =>
    cases b with
    | nil => simp [Lib.compareBytes]
    | cons y l2 =>
      unfold Lib.compareBytes
      by_cases h1 : x < y
      · simp [h1, List.cons_lt_cons_iff]
      · by_cases h2 : y < x
        · have hne : x ≠ y := fun e => by subst e; exact h1 h2
          simp [h1, h2, List.cons_lt_cons_iff, hne]
        · have e : x = y := UInt8.le_antisymm (UInt8.not_lt.1 h2) (UInt8.not_lt.1 h1)
          subst e
          simp only [h1, if_false]
          rw [← ih l2]
          simp
theorem cmp_zero : ∀ (a b : List UInt8), Lib.compareBytes a b = 0 → a = b
  | [], [], _ => rfl
  | [], _ :: _, h => by simp [Lib.compareBytes] at h
  | _ :: _, [], h => by simp [Lib.compareBytes] at h
  | x :: l1, y :: l2, h => by
    unfold Lib.compareBytes at h
    by_cases h1 : x < y
    · simp [h1] at h
    · by_cases h2 : y < x
      · simp [h1, h2] at h
      · have e : x = y := UInt8.le_antisymm (UInt8.not_lt.1 h2) (UInt8.not_lt.1 h1)
        simp only [h1, h2, if_false] at h
        rw [e, cmp_zero l1 l2 h]
theorem cmp_self : ∀ (a : List UInt8), Lib.compareBytes a a = 0
  | [] => rfl
  | x :: l1 => by
    unfold Lib.compareBytes
    have h : ¬ x < x := UInt8.lt_irrefl x
    simp only [h, if_false]
    exact cmp_self l1
/-- what the order of two strings says of their comparisons -/
theorem cmp_cases (a b : ByteArray) :
    (cmpS a b = -1 ∧ Op.bytesLess a.toList b.toList = true) ∨
    (cmpS a b = 1 ∧ Op.bytesLess a.toList b.toList = false ∧ (a.toList == b.toList) = false) ∨
    (cmpS a b = 0 ∧ Op.bytesLess a.toList b.toList = false ∧ (a.toList == b.toList) = true) := by
  rw [Lib.toList_data, Lib.toList_data, less_cmp]
  rcases cmpS_range a b with h | h | h
  · exact .inl ⟨h, by unfold cmpS at h; simp [h]⟩
  · refine .inr (.inr ⟨h, by unfold cmpS at h; simp [h], ?_⟩)
    rw [cmp_zero _ _ h]
    simp
  · refine .inr (.inl ⟨h, by unfold cmpS at h; simp [h], ?_⟩)
    refine beq_eq_false_iff_ne.2 fun e => ?_
    unfold cmpS at h
    rw [e, cmp_self] at h
    cases h
theorem fstA_range (v : ByteArray) : ∀ (l : List ByteArray) (i : Int), fstA v i l = -1 ∨ (i ≤ fstA v i l ∧ fstA v i l < i + l.length)
  | [], i => .inl rfl
  | s :: r, i => by
    unfold fstA
    split
    · exact .inr ⟨by omega, by simp; omega⟩
    · rcases fstA_range v r (i + 1) with h | h
      · exact .inl h
      · exact .inr ⟨by omega, by simp only [List.length_cons]; omega⟩
theorem drop_step {ss : List ByteArray} {j : Nat} (h : j < ss.length) : ss.drop j = ss.getD j .empty :: ss.drop (j + 1) := by
  rw [List.drop_eq_getElem_cons h]
  simp [List.getD, List.getElem?_eq_getElem h]
/-- the elements before the first alike are not alike, and it is -/
theorem fstA_says (v : ByteArray) : ∀ (l : List ByteArray) (i : Int), 0 ≤ i →
    (∀ j, j < l.length → (fstA v i l < 0 ∨ i + j < fstA v i l) → looks (l.getD j .empty) v = false) ∧
    (∀ k : Nat, fstA v i l = i + k → k < l.length ∧ looks (l.getD k .empty) v = true)
  | [], i, hi => ⟨fun j hj => absurd hj (by simp), fun k hk => by unfold fstA at hk; omega⟩
  | s :: r, i, hi => by
    obtain ⟨h1, h2⟩ := fstA_says v r (i + 1) (by omega)
    have hr := fstA_range v r (i + 1)
    by_cases hl : looks s v = true
    · have e : fstA v i (s :: r) = i := by unfold fstA; rw [if_pos hl]
      rw [e]
      refine ⟨fun j hj h => absurd h (by omega), fun k hk => ?_⟩
      have : k = 0 := by omega
      subst this
      exact ⟨by simp, by simpa using hl⟩
    · have e : fstA v i (s :: r) = fstA v (i + 1) r := by rw [fstA, if_neg hl]
      rw [e]
      refine ⟨fun j hj h => ?_, fun k hk => ?_⟩
      · cases j with
        | zero => simpa using hl
        | succ j =>
          have := h1 j (by simpa using hj) (by omega)
          simpa using this
      · cases k with
        | zero => omega
        | succ k =>
          obtain ⟨h3, h4⟩ := h2 k (by omega)
          exact ⟨by simpa using h3, by simpa using h4⟩
/-- what is left of the budget -/
def szGo : Int → List ByteArray → Int
  | q, [] => q
  | q, s :: r => if q - s.size < 0 then -1 else szGo (q - s.size) r
def szS (q : Int) (ss : List ByteArray) : Int := if q - ss.length < 0 then -1 else szGo (q - ss.length) ss
theorem szGo_le : ∀ (ss : List ByteArray) (q : Int), 0 ≤ q → 0 ≤ szGo q ss → szGo q ss ≤ q ∧ ∀ s ∈ ss, (s.size : Int) ≤ q
  | [], q, _, h => ⟨Int.le_refl _, by simp⟩
  | s :: r, q, hq, h => by
    unfold szGo at h ⊢
    by_cases h0 : q - s.size < 0
    · rw [if_pos h0] at h; omega
    · rw [if_neg h0] at h ⊢
      obtain ⟨h1, h2⟩ := szGo_le r (q - s.size) (by omega) h
      refine ⟨by omega, fun t ht => ?_⟩
      rcases List.mem_cons.1 ht with rfl | ht
      · omega
      · have := h2 t ht; omega
theorem szGo_neg : ∀ (ss : List ByteArray) (q : Int), 0 ≤ q → szGo q ss < 0 → szGo q ss = -1
  | [], q, hq, h => by unfold szGo at h; omega
  | s :: r, q, hq, h => by
    unfold szGo at h ⊢
    by_cases h0 : q - s.size < 0
    · rw [if_pos h0]
    · rw [if_neg h0] at h ⊢
      exact szGo_neg r _ (by omega) h
theorem szS_le {q : Int} {ss : List ByteArray} (hq : 0 ≤ q) (h : 0 ≤ szS q ss) : szS q ss ≤ q ∧ (ss.length : Int) ≤ q ∧ ∀ s ∈ ss, (s.size : Int) ≤ q := by
  unfold szS at h ⊢
  by_cases h0 : q - ss.length < 0
  · rw [if_pos h0] at h; omega
  · rw [if_neg h0] at h ⊢
    obtain ⟨h1, h2⟩ := szGo_le ss _ (by omega) h
    exact ⟨by omega, by omega, fun s hs => by have := h2 s hs; omega⟩
end Go.Proofs.Ytcpfdhammhcoaaa.M04
