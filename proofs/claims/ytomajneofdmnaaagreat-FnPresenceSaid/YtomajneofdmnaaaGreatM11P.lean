/- Chapter 11: plain facts that FnPresence says (of trees, roots and leaves; nothing of proofs as a type). -/
import Derived.Test.YtomajneofdmnaaaGreatM10
namespace Go.Proofs.YtomajneofdmnaaaGreat.M11P
open Go.RowKit R08 M02 M03 M04 M05 M08 M10 M10F C01 C03D
set_option linter.unusedVariables false
set_option maxRecDepth 100000
/-- how many steps a path has -/
def stp (i n : Nat) : Nat := if h : 1 < n then (if i % 2 = 1 ∨ i + 1 < n then 1 else 0) + stp (i / 2) ((n + 1) / 2) else 0
termination_by n
decreasing_by omega
theorem stp_up {i n : Nat} (h : 1 < n) : stp i n = (if i % 2 = 1 ∨ i + 1 < n then 1 else 0) + stp (i / 2) ((n + 1) / 2) := by
  rw [stp, dif_pos h]
theorem stp_one {i n : Nat} (h : ¬ 1 < n) : stp i n = 0 := by rw [stp, dif_neg h]
theorem tf_stp : ∀ (k n i : Nat) (x t : Int) (p : List Int), n ≤ k → tfW x i n p = some t → p.length = stp i n
  | 0, n, i, x, t, p, hk, h => by
    rw [tf_end (by omega)] at h
    rw [stp_one (by omega)]
    split at h
    · rename_i hp; rw [hp]; rfl
    · cases h
  | k + 1, n, i, x, t, p, hk, h => by
    by_cases h1 : 1 < n
    · rw [stp_up h1]
      by_cases h2 : i % 2 = 1 ∨ i + 1 < n
      · rw [if_pos h2]
        cases p with
        | nil => rw [tf_none h1 h2] at h; cases h
        | cons y r =>
          rw [tf_step h1 h2] at h
          have := tf_stp k _ _ _ _ _ (by omega) h
          rw [List.length_cons]
          omega
      · rw [if_neg h2]
        rw [tf_skip h1 h2] at h
        have := tf_stp k _ _ _ _ _ (by omega) h
        omega
    · rw [tf_end h1] at h
      rw [stp_one h1]
      split at h
      · rename_i hp; rw [hp]; rfl
      · cases h
theorem stp_mono : ∀ (k n n' i : Nat), n' ≤ k → i < n → n ≤ n' → stp i n ≤ stp i n'
  | 0, n, n', i, hk, hi, hn => by omega
  | k + 1, n, n', i, hk, hi, hn => by
    by_cases h1 : 1 < n
    · rw [stp_up h1, stp_up (show 1 < n' by omega)]
      have := stp_mono k ((n + 1) / 2) ((n' + 1) / 2) (i / 2) (by omega) (by omega) (by omega)
      by_cases h2 : i % 2 = 1 ∨ i + 1 < n
      · rw [if_pos h2, if_pos (show i % 2 = 1 ∨ i + 1 < n' by omega)]
        omega
      · rw [if_neg h2]
        omega
    · rw [stp_one h1]
      omega
/-- a path that leads up in two trees leads to the same -/
theorem tf_more : ∀ (k n n' i : Nat) (x t t' : Int) (p : List Int), n' ≤ k → i < n → n ≤ n' → tfW x i n p = some t → tfW x i n' p = some t' → t' = t
  | 0, n, n', i, x, t, t', p, hk, hi, hn, h, h' => by omega
  | k + 1, n, n', i, x, t, t', p, hk, hi, hn, h, h' => by
    by_cases h1 : 1 < n
    · have h1' : 1 < n' := by omega
      by_cases h2 : i % 2 = 1 ∨ i + 1 < n
      · have h2' : i % 2 = 1 ∨ i + 1 < n' := by omega
        cases p with
        | nil => rw [tf_none h1 h2] at h; cases h
        | cons y r =>
          rw [tf_step h1 h2] at h
          rw [tf_step h1' h2'] at h'
          exact tf_more k _ _ _ _ _ _ _ (by omega) (by omega) (by omega) h h'
      · rw [tf_skip h1 h2] at h
        by_cases h2' : i % 2 = 1 ∨ i + 1 < n'
        · exfalso
          cases p with
          | nil => rw [tf_none h1' h2'] at h'; cases h'
          | cons y r =>
            rw [tf_step h1' h2'] at h'
            have e1 := tf_stp _ _ _ _ _ _ (Nat.le_refl _) h
            have e2 := tf_stp _ _ _ _ _ _ (Nat.le_refl _) h'
            have e3 := stp_mono _ ((n + 1) / 2) ((n' + 1) / 2) (i / 2) (Nat.le_refl _) (by omega) (by omega)
            rw [List.length_cons] at e1
            omega
        · rw [tf_skip h1' h2'] at h'
          exact tf_more k _ _ _ _ _ _ _ (by omega) (by omega) (by omega) h h'
    · have hn1 : n = 1 := by omega
      subst hn1
      have hi0 : i = 0 := by omega
      subst hi0
      rw [tf_end h1] at h
      split at h
      · rename_i hp
        subst hp
        by_cases h1' : 1 < n'
        · rw [tf_none h1' (by omega)] at h'
          cases h'
        · rw [tf_end h1', if_pos rfl] at h'
          rw [← Option.some.inj h, ← Option.some.inj h']
      · cases h
/-- the number of entries is in the root -/
theorem root_count {n n' : Int} {t : Int} (ht : Rg t) (h0 : 0 ≤ n) (h1 : n < 2147483647) (h2 : 0 ≤ n') (h3 : n' < 2147483647) (h : rootN n t = rootN n' t) : n = n' := by
  unfold rootN hsh at h
  simp only [List.foldl_cons, List.foldl_nil] at h
  have h4 := hstep_tells (hstep_inj (hstep_range _ _) (hstep_range _ _) h)
  omega
theorem root_top {n t t' : Int} (ht : Rg t) (ht' : Rg t') (h : rootN n t = rootN n t') : t = t' := by
  unfold rootN hsh at h
  simp only [List.foldl_cons, List.foldl_nil] at h
  have h4 := hstep_tells h
  obtain ⟨a1, a2⟩ := ht
  obtain ⟨b1, b2⟩ := ht'
  omega
theorem leaf_rg (k : Entry) : Rg (leafOf k) := hsh_range _
theorem leaf_val (s : ByteArray) (kd v : Int) : leafOf ⟨s, kd, v, []⟩ = hstep (hstep (hstep ((227 :: bti (nums s)).foldl hstep 11) kd) v) 0 := by
  unfold leafOf entryInts
  rw [show (Entry.mk s kd v []).path.length = 0 from rfl, ei_zero]
  unfold hsh
  rw [← List.cons_append, List.foldl_append]
  simp only [List.foldl_cons, List.foldl_nil, List.length_nil]
  rfl
theorem apart {w v : Int} (h0 : 0 ≤ v) (h2 : v ≤ 2147483646) (hw : w = v % 999999 + 1) (h : (w - 1000003 - v) % 2147483647 = 0) : False := by
  obtain ⟨k, hk⟩ := Int.dvd_of_emod_eq_zero h
  have e1 := Int.emod_add_mul_ediv v 999999
  have e2 := Int.emod_nonneg v (show (999999 : Int) ≠ 0 by decide)
  have e3 := Int.emod_lt_of_pos v (show (0 : Int) < 999999 by decide)
  generalize v / 999999 = u at e1
  generalize v % 999999 = r at e1 e2 e3 hw
  clear h
  omega
theorem w_mod {v : Int} : (v % 999999 + 1) % 2147483647 = v % 999999 + 1 := by
  have e2 := Int.emod_nonneg v (show (999999 : Int) ≠ 0 by decide)
  have e3 := Int.emod_lt_of_pos v (show (0 : Int) < 999999 by decide)
  exact Int.emod_eq_of_lt (by omega) (by omega)
theorem step2 (a : Int) : hstep a 2 = hstep a 1 + 1 ∨ (hstep a 1 = 2147483646 ∧ hstep a 2 = 0) := by
  unfold hstep
  generalize a * 1000003 = q
  omega
/-- another value has another leaf; and so has a zone -/
theorem leaf_other {s : ByteArray} {kd v : Int} (hk : kd = 1 ∨ kd = 2) (h0 : 0 ≤ v) (h1 : kd = 1 → v ≤ 999999) (h2 : v ≤ 2147483646) : leafOf ⟨s, 1, v % 999999 + 1, []⟩ ≠ leafOf ⟨s, kd, v, []⟩ := by
  rw [leaf_val, leaf_val]
  intro h
  have h3 := hstep_inj (hstep_range _ _) (hstep_range _ _) h
  have hv : v % 2147483647 = v := Int.emod_eq_of_lt h0 (by omega)
  rcases hk with rfl | rfl
  · have h4 := hstep_tells h3
    rw [w_mod, hv] at h4
    have h5 := h1 rfl
    clear h h3 hv
    omega
  · have hb := step2 ((227 :: bti (nums s)).foldl hstep 11)
    generalize (227 :: bti (nums s)).foldl hstep 11 = a at h3 hb
    generalize hstep a 1 = b at h3 hb
    generalize hstep a 2 = b' at h3 hb
    unfold hstep at h3
    rw [w_mod, hv] at h3
    have h4 := Int.emod_eq_emod_iff_emod_sub_eq_zero.1 h3
    obtain ⟨w, hw⟩ : ∃ w, w = v % 999999 + 1 := ⟨_, rfl⟩
    rw [← hw] at h4
    clear h h3 h1
    refine apart h0 h2 hw ?_
    rcases hb with rfl | ⟨rfl, rfl⟩
    · rw [Int.add_mul, Int.one_mul] at h4
      generalize b * 1000003 = q at h4
      rw [← h4]
      congr 1
      omega
    · clear hw hv
      omega
end Go.Proofs.YtomajneofdmnaaaGreat.M11P
