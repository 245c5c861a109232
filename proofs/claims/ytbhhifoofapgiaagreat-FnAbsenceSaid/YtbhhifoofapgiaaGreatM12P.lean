/- Chapter 12: gaps: plain facts that need no type Gap. -/
import Derived.Test.YtbhhifoofapgiaaGreatM11
import Derived.Test.YtbhhifoofapgiaaGreatM09
namespace Go.Proofs.YtbhhifoofapgiaaGreat.M12P
set_option linter.unusedVariables false
set_option maxRecDepth 100000
open Go.RowKit R08 R11 M03 M04 M05 M08 M09F M09 M10 M10F M11 C01
def zeroE : Entry := ⟨.empty, 0, 0, []⟩
def zeroP : Proof := ⟨0, []⟩
def lessB (s : ByteArray) (z : Entry) : Bool := decide (cmpS z.label s < 0)
def rankN (l : List Entry) (s : ByteArray) : Nat := (l.filter (lessB s)).length
theorem rank_succ {l : List Entry} {s : ByteArray} {j : Nat} (h : j < l.length) : rankN (l.take (j + 1)) s = rankN (l.take j) s + if cmpS (at0 l j).label s < 0 then 1 else 0 := by
  unfold rankN at0
  rw [List.take_succ_eq_append_getElem h, List.filter_append, List.length_append]
  simp only [List.getD, List.getElem?_eq_getElem h, Option.getD_some]
  congr 1
  by_cases hc : cmpS l[j].label s < 0 <;> simp [List.filter, lessB, hc]
theorem rank_le (l : List Entry) (s : ByteArray) : rankN l s ≤ l.length := List.length_filter_le _ _
theorem flt_split {α : Type} [Inhabited α] (p : α → Bool) : ∀ (l : List α), (∀ i j, i < j → j < l.length → p (l.getD j default) = true → p (l.getD i default) = true) →
    (∀ i, i < (l.filter p).length → p (l.getD i default) = true) ∧ (∀ i, (l.filter p).length ≤ i → i < l.length → p (l.getD i default) = false)
  | [], _ => ⟨fun i h => absurd h (by simp), fun i _ h => absurd h (by simp)⟩
  | z :: r, h => by
    have ih := flt_split p r fun i j hij hj hp => h (i + 1) (j + 1) (by omega) (by simpa using hj) hp
    cases hz : p z with
    | true =>
      rw [List.filter_cons_of_pos hz, List.length_cons]
      refine ⟨fun i hi => ?_, fun i hi hl => ?_⟩
      · cases i with
        | zero => exact hz
        | succ i => exact ih.1 i (by omega)
      · cases i with
        | zero => omega
        | succ i => exact ih.2 i (by omega) (by simpa using hl)
    | false =>
      have hall : ∀ j, j < r.length → p (r.getD j default) = false := fun j hj => by
        cases hp : p (r.getD j default) with
        | false => rfl
        | true =>
          have := h 0 (j + 1) (by omega) (by simpa using hj) hp
          rw [show (z :: r).getD 0 default = z from rfl, hz] at this
          exact this.symm
      have hnil : r.filter p = [] := List.filter_eq_nil_iff.2 fun a ha => by
        obtain ⟨j, hj, e⟩ := List.mem_iff_getElem.1 ha
        have := hall j hj
        simp only [List.getD, List.getElem?_eq_getElem hj, Option.getD_some, e] at this
        simp [this]
      rw [List.filter_cons_of_neg (by simp [hz]), hnil]
      refine ⟨fun i hi => absurd hi (by simp), fun i _ hl => ?_⟩
      cases i with
      | zero => exact hz
      | succ i => exact hall i (by simpa using hl)
/-- where a label is not there: all before its rank are less, all from it on are greater -/
theorem rank_split {l : List Entry} {s : ByteArray} (h : areE l = true) (hs : fndE l s < 0) :
    (∀ i, i < rankN l s → cmpS (at0 l i).label s = -1) ∧ (∀ i, rankN l s ≤ i → i < l.length → cmpS (at0 l i).label s = 1) := by
  have hno : ∀ k, k < l.length → (at0 l k).label ≠ s := by
    rcases fndE_cases l s with ⟨_, h⟩ | ⟨j, _, h, _⟩
    · exact h
    · omega
  have hcl : ∀ i j, i < j → j < l.length → lessB s (l.getD j default) = true → lessB s (l.getD i default) = true := fun i j hij hj hp => by
    have h1 := srt h hij hj
    have h2 : cmpS (at0 l j).label s = -1 := by
      have := of_decide_eq_true hp
      have h3 : cmpS (at0 l j).label s < 0 := this
      rcases cmpS_range (at0 l j).label s with h | h | h <;> omega
    have h4 := cmpS_trans h1 h2
    unfold lessB
    exact decide_eq_true (show cmpS (at0 l i).label s < 0 by omega)
  have hf := flt_split (lessB s) l hcl
  refine ⟨fun i hi => ?_, fun i hi hl => ?_⟩
  · have h3 : cmpS (at0 l i).label s < 0 := of_decide_eq_true (hf.1 i hi)
    rcases cmpS_range (at0 l i).label s with h | h | h <;> omega
  · have h3 : ¬ cmpS (at0 l i).label s < 0 := of_decide_eq_false (hf.2 i hi hl)
    have h4 : cmpS (at0 l i).label s ≠ 0 := fun e => hno i hl (cmpS_zero e)
    rcases cmpS_range (at0 l i).label s with h | h | h <;> omega
/-- the proof of an entry that is there -/
theorem proves {l : List Entry} {j : Nat} (h : areE l = true) (hj : j < l.length) : (proveE l (at0 l j).label).1.at_ = j ∧ checkE (rootOf l) l.length (at0 l j) (proveE l (at0 l j).label).1 = true ∧ ∀ r, r ≠ rootOf l → checkE r l.length (at0 l j) (proveE l (at0 l j).label).1 = false := by
  have hf : fndE l (at0 l j).label = j := fnd_at h hj rfl
  rw [proveE_yes (by omega), hf]
  have hn := areE_len h
  have hok := areE_ok h hj
  unfold okE at hok
  simp only [Bool.and_eq_true] at hok
  have hie := hok.1
  have hlen : (leavesE l).length = l.length := leavesE_len l
  have hlf : (leavesE l).getD j 0 = leafOf (at0 l j) := by
    unfold at0 leavesE
    simp only [List.getD, List.getElem?_map, List.getElem?_eq_getElem hj, Option.getD_some, Option.map_some]
  have hr : rootOf l = rootN l.length (topOf (leavesE l)) := rfl
  generalize at0 l j = e at hie hlf
  generalize leavesE l = L at hlen hlf hr
  have h1 : inR (l.length : Int) 1 12 = true := by unfold inR; simp; omega
  have h2 : inR (j : Int) 0 ((l.length : Int) - 1) = true := by unfold inR; simp; omega
  have hp : pathFor L j = pathW L j := by unfold pathFor; rw [hlen, h2]; simp
  have ht : topOf L = topW L := by unfold topOf; rw [if_neg (by omega)]
  have e4 := tf_top L.length L j (Nat.le_refl _) (by omega)
  rw [hlf, hlen] at e4
  have k1 : topFrom (leafOf e) j l.length (pathW L j) = (topW L, true) := by
    unfold topFrom
    rw [h1, h2]
    simp only [Bool.and_self, if_true, Int.toNat_natCast, e4]
  refine ⟨rfl, ?_, fun r hne => ?_⟩
  · unfold checkE
    simp only [hp, k1, hie, hr, ht, Bool.and_self, decide_true]
  · unfold checkE
    simp only [hp, k1, hie, Bool.and_self, Bool.true_and]
    rw [hr, ht] at hne
    exact decide_eq_false fun e => hne e.symm
def noneE (e : Entry) (p : Proof) : Bool := eqEntryB e zeroE && eqP p zeroP
/-- what CheckAbsence asks, over a gap's parts -/
def checkA (root count : Int) (s : ByteArray) (a : Int) (b f : Entry) (pl pr : Proof) : Bool :=
  if isLab s && inR a 0 count && !(decide (count = 0) && decide (root ≠ rootOf [])) then
    (if a = 0 then noneE b pl else checkE root count b pl && decide (pl.at_ = a - 1) && decide (cmpS b.label s = -1)) &&
    (if a = count then noneE f pr else checkE root count f pr && decide (pr.at_ = a) && decide (cmpS f.label s = 1))
  else false
def befE (l : List Entry) (k : Nat) : Entry := if 0 < k then at0 l (k - 1) else zeroE
def aftE (l : List Entry) (k : Nat) : Entry := if k < l.length then at0 l k else zeroE
def lefP (l : List Entry) (k : Nat) : Proof := if 0 < k then (proveE l (at0 l (k - 1)).label).1 else zeroP
def rigP (l : List Entry) (k : Nat) : Proof := if k < l.length then (proveE l (at0 l k).label).1 else zeroP
theorem none_zero : noneE zeroE zeroP = true := by decide
theorem absence {l : List Entry} {s : ByteArray} {k : Nat} (h : areE l = true) (hl : isLab s = true) (hs : fndE l s < 0) (hk : rankN l s = k) :
    checkA (rootOf l) l.length s k (befE l k) (aftE l k) (lefP l k) (rigP l k) = true ∧
    checkA (rootOf l + 1) l.length s k (befE l k) (aftE l k) (lefP l k) (rigP l k) = false ∧
    ∀ i, i < l.length → checkA (rootOf l) l.length (at0 l i).label k (befE l k) (aftE l k) (lefP l k) (rigP l k) = false := by
  obtain ⟨r1, r2⟩ := rank_split h hs
  have hkl := rank_le l s
  rw [hk] at r1 r2 hkl
  have hin : inR (k : Int) 0 l.length = true := inR_true (by omega) (by omega)
  have hzero : l.length = 0 → rootOf l = rootOf [] := fun e => by rw [List.length_eq_zero_iff.1 e]
  refine ⟨?_, ?_, fun i hi => ?_⟩
  · unfold checkA befE aftE lefP rigP
    rw [hl, hin]
    have h0 : (decide ((l.length : Int) = 0) && decide (rootOf l ≠ rootOf [])) = false := by
      by_cases e : l.length = 0
      · rw [hzero e]; simp
      · rw [decide_eq_false (by omega)]; rfl
    rw [h0]
    simp only [Bool.and_self, Bool.not_false, if_true]
    rw [Bool.and_eq_true]
    constructor
    · by_cases hk0 : 0 < k
      · have hp := proves h (show k - 1 < l.length by omega)
        rw [if_neg (by omega), if_pos hk0, if_pos hk0, hp.2.1, hp.1, r1 (k - 1) (by omega)]
        simp; omega
      · rw [if_pos (by omega), if_neg hk0, if_neg hk0]
        exact none_zero
    · by_cases hk1 : k < l.length
      · have hp := proves h hk1
        rw [if_neg (by omega), if_pos hk1, if_pos hk1, hp.2.1, hp.1, r2 k (Nat.le_refl _) hk1]
        simp
      · rw [if_pos (by omega), if_neg hk1, if_neg hk1]
        exact none_zero
  · unfold checkA befE aftE lefP rigP
    split
    · rename_i hc
      by_cases hk0 : 0 < k
      · have hp := proves h (show k - 1 < l.length by omega)
        rw [if_neg (show ¬ (k : Int) = 0 by omega), if_pos hk0, if_pos hk0, hp.2.2 _ (by omega)]
        rfl
      · by_cases hk1 : k < l.length
        · have hp := proves h hk1
          rw [if_neg (show ¬ (k : Int) = l.length by omega), if_pos hk1, if_pos hk1, hp.2.2 _ (by omega)]
          simp
        · have e : l.length = 0 := by omega
          rw [hzero e, e] at hc
          simp at hc
          omega
    · rfl
  · unfold checkA
    split
    · by_cases hik : i < k
      · have e1 : cmpS (at0 l (k - 1)).label (at0 l i).label ≠ -1 := by
          by_cases e : i = k - 1
          · rw [e, cmpS_self]; omega
          · have := srt h (show i < k - 1 by omega) (show k - 1 < l.length by omega)
            rw [cmpS_neg, this]; omega
        rw [if_neg (show ¬ (k : Int) = 0 by omega)]
        unfold befE
        rw [if_pos (show 0 < k by omega), decide_eq_false e1]
        simp
      · have e1 : cmpS (at0 l k).label (at0 l i).label ≠ 1 := by
          by_cases e : i = k
          · rw [e, cmpS_self]; omega
          · have := srt h (show k < i by omega) hi
            rw [this]; omega
        rw [if_neg (show ¬ (k : Int) = l.length by omega)]
        unfold aftE
        rw [if_pos (show k < l.length by omega), decide_eq_false e1]
        simp
    · rfl
end Go.Proofs.YtbhhifoofapgiaaGreat.M12P
