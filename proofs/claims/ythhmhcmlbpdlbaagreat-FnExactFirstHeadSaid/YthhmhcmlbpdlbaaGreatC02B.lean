/- The varint of a number, and what reading one gives: plain facts on lists of numbers. Contracts of the integer helpers of chapter 1 (code and model): what each call returns; every call returns, for all arguments. Chapter 2: what the code's and the model's functions on byte strings return: appending. Chapter 2: what the code's and the model's functions on byte strings return: reading a varint. Chapter 2: what the code's and the model's functions on byte strings and lists of integers return. -/
import Derived.Test.YthhmhcmlbpdlbaaGreatChecked
import Derived.Laws.BitsLemmas
import Derived.Lib.EndianBits
import Derived.IntWalk
import Derived.Laws.BytesArg
import Derived.WalkKit
import Derived.Below
import Derived.Lib.Hide
import Derived.Outline
import Derived.Test.YthhmhcmlbpdlbaaGreatMem
import Derived.Lib.Bytes
namespace Go.Proofs.YthhmhcmlbpdlbaaGreat.M02
open Go.RowKit
theorem w62 (n : Int) (h0 : 0 ≤ n) (h1 : n < 2 ^ 62) : IntKind.i64.wrap n = n := by rw [IntKind.wrap_i64]; omega
theorem and127 {x : Int} (h0 : 0 ≤ x) (h1 : x < 4611686018427387904) : bits .and .i64 x 127 = x % 128 := bits_mask .i64 62 (by decide) w62 7 (by decide) x h0 h1
theorem or128 {y : Int} (h0 : 0 ≤ y) (h1 : y < 128) : bits .or .i64 y 128 = y + 128 := bits_join_low .i64 62 (by decide) w62 7 y 128 h0 h1 (by omega) (by decide) (by decide) (by decide)
theorem or_at (k : Nat) {a x : Int} (h0 : 0 ≤ a) (h1 : a < 2 ^ k) (h4 : a < 4611686018427387904) (h2 : 0 ≤ x) (h3 : x * 2 ^ k < 4611686018427387904) : bits .or .i64 a (x * 2 ^ k) = a + x * 2 ^ k :=
  bits_join_low .i64 62 (by decide) w62 k a (x * 2 ^ k) h0 h1 h4 (Int.mul_nonneg h2 (Int.pow_nonneg (by omega))) (Int.mul_emod_left _ _) h3
/-- groups of seven bits -/
def uv (n : Nat) : List Int := if h : n ≤ 127 then [(n : Int)] else ((n % 128 + 128 : Nat) : Int) :: uv (n / 128)
termination_by n
decreasing_by omega
def enc (n : Int) : List Int := if 0 ≤ n ∧ n ≤ 1000000000000 then uv n.toNat else []
/-- the value and the count of the groups -/
def go : List Int → Nat → Nat → Option (Nat × Nat)
  | [], _, _ => none
  | x :: l, k, a => if 6 ≤ k then none else if x < 128 then (if x = 0 ∧ 0 < k ∨ 1000000000000 < a + (x % 128).toNat * 128 ^ k then none else some (a + (x % 128).toNat * 128 ^ k, k + 1)) else go l (k + 1) (a + (x % 128).toNat * 128 ^ k)
def rdU (zs : List Int) (at_ : Int) : Int × Int × Bool :=
  if 0 ≤ at_ then (match go (zs.drop at_.toNat) 0 0 with | none => (0, 0, false) | some (a, k) => ((a : Int), at_ + k, true)) else (0, 0, false)
def Byt (zs : List Int) : Prop := ∀ z ∈ zs, 0 ≤ z ∧ z ≤ 255
theorem uv_small {n : Nat} (h : n ≤ 127) : uv n = [(n : Int)] := by rw [uv, dif_pos h]
theorem uv_big {n : Nat} (h : ¬ n ≤ 127) : uv n = ((n % 128 + 128 : Nat) : Int) :: uv (n / 128) := by rw [uv, dif_neg h]
theorem uv_byt (n : Nat) : Byt (uv n) := by
  induction n using Nat.strongRecOn with
  | _ n ih =>
    intro z hz
    by_cases h : n ≤ 127
    · rw [uv_small h] at hz
      have : z = n := by simpa using hz
      omega
    · rw [uv_big h] at hz
      rcases List.mem_cons.1 hz with e | hz
      · omega
      · exact ih (n / 128) (by omega) z hz
theorem enc_byt (n : Int) : Byt (enc n) := by
  unfold enc
  split
  · exact uv_byt _
  · intro z hz
    simp at hz
theorem enc_in {n : Int} (h0 : 0 ≤ n) (h1 : n ≤ 1000000000000) : enc n = uv n.toNat := if_pos ⟨h0, h1⟩
theorem enc_out {n : Int} (h : n < 0 ∨ 1000000000000 < n) : enc n = [] := if_neg (by omega)
theorem uv_len_le : ∀ (k n : Nat), n < 128 ^ (k + 1) → (uv n).length ≤ k + 1 := by
  intro k
  induction k with
  | zero => intro n h; rw [uv_small (by omega)]; simp
  | succ k ih =>
    intro n h
    by_cases hn : n ≤ 127
    · rw [uv_small hn]; simp
    · rw [uv_big hn]
      have := ih (n / 128) (by rw [Nat.pow_succ] at h; omega)
      simp
      omega
theorem enc_len (n : Int) : (enc n).length ≤ 6 := by
  unfold enc
  split
  · exact uv_len_le 5 _ (by omega)
  · simp
theorem uv_pos (n : Nat) : 1 ≤ (uv n).length := by
  by_cases h : n ≤ 127
  · rw [uv_small h]; simp
  · rw [uv_big h]; simp
/-- reading what was written -/
theorem go_uv (l : List Int) : ∀ (j n k a : Nat), n < 128 ^ (j + 1) → k + j ≤ 5 → (0 < k → 0 < n) → a + n * 128 ^ k ≤ 1000000000000 → go (uv n ++ l) k a = some (a + n * 128 ^ k, k + (uv n).length) := by
  intro j
  induction j with
  | zero =>
    intro n k a h1 h2 h3 h4
    have hn : n ≤ 127 := by omega
    have e : ((n : Int) % 128).toNat = n := by omega
    rw [uv_small hn]
    simp only [List.cons_append, List.nil_append, go, e, List.length_cons, List.length_nil]
    rw [if_neg (by omega), if_pos (by omega), if_neg (by omega)]
  | succ j ih =>
    intro n k a h1 h2 h3 h4
    by_cases hn : n ≤ 127
    · have e : ((n : Int) % 128).toNat = n := by omega
      rw [uv_small hn]
      simp only [List.cons_append, List.nil_append, go, e, List.length_cons, List.length_nil]
      rw [if_neg (by omega), if_pos (by omega), if_neg (by omega)]
    · have e : ((((n % 128 + 128 : Nat) : Int)) % 128).toNat = n % 128 := by omega
      have hd : n = 128 * (n / 128) + n % 128 := (Nat.div_add_mod n 128).symm
      have hx : n * 128 ^ k = (n / 128) * 128 ^ (k + 1) + n % 128 * 128 ^ k := by
        conv => lhs; rw [hd]
        rw [Nat.add_mul, Nat.pow_succ, Nat.mul_assoc, Nat.mul_comm 128, Nat.mul_assoc]
      rw [uv_big hn]
      simp only [List.cons_append, go, e, List.length_cons]
      rw [if_neg (by omega), if_neg (by omega), ih (n / 128) (k + 1) (a + n % 128 * 128 ^ k) (by rw [Nat.pow_succ] at h1; omega) (by omega) (by omega) (by omega)]
      congr 1
      rw [Prod.mk.injEq]
      omega
theorem rdU_enc (zs : List Int) {n : Int} (h0 : 0 ≤ n) (h1 : n ≤ 1000000000000) (l : List Int) : rdU (zs ++ (enc n ++ l)) zs.length = (n, (zs.length : Int) + (enc n).length, true) := by
  have h := go_uv l 5 n.toNat 0 0 (by omega) (by omega) (by omega) (by omega)
  rw [enc_in h0 h1, rdU, if_pos (by omega)]
  simp only [Int.toNat_natCast, List.drop_left, h]
  simp
  omega
theorem rdU_end (zs : List Int) {at_ : Int} (h : at_ < 0 ∨ (zs.length : Int) ≤ at_) : rdU zs at_ = (0, 0, false) := by
  unfold rdU
  split
  · rw [List.drop_of_length_le (by omega)]
    rfl
  · rfl
/-- reading gives a number in range, and its varint is what was read -/
theorem go_some : ∀ (l : List Int) (k a : Nat) {v c : Nat}, Byt l → a < 128 ^ k → go l k a = some (v, c) → k < c ∧ c ≤ k + l.length ∧ v ≤ 1000000000000 ∧ ∃ m, v = a + m * 128 ^ k ∧ uv m = l.take (c - k) ∧ (0 < k → 0 < m) := by
  intro l
  induction l with
  | nil => intro k a v c _ _ h; simp [go] at h
  | cons x l ih =>
    intro k a v c hb ha h
    have hx := hb x (by simp)
    have hbl : Byt l := fun z hz => hb z (by simp [hz])
    rw [go] at h
    by_cases hk : 6 ≤ k
    · rw [if_pos hk] at h; cases h
    rw [if_neg hk] at h
    by_cases hx2 : x < 128
    · rw [if_pos hx2] at h
      by_cases hz : x = 0 ∧ 0 < k ∨ 1000000000000 < a + (x % 128).toNat * 128 ^ k
      · rw [if_pos hz] at h; cases h
      · rw [if_neg hz] at h
        simp only [Option.some.injEq, Prod.mk.injEq] at h
        obtain ⟨rfl, rfl⟩ := h
        refine ⟨by omega, by simp, by omega, (x % 128).toNat, rfl, ?_, by omega⟩
        rw [uv_small (by omega), show k + 1 - k = 1 by omega]
        simp
        omega
    · rw [if_neg hx2] at h
      have hp : (x % 128).toNat * 128 ^ k ≤ 127 * 128 ^ k := Nat.mul_le_mul_right _ (by omega)
      obtain ⟨h1, h2, h3, m, rfl, h4, h5⟩ := ih (k + 1) _ hbl (by rw [Nat.pow_succ]; omega) h
      have h6 := h5 (by omega)
      refine ⟨by omega, by simp; omega, h3, (x % 128).toNat + 128 * m, ?_, ?_, by omega⟩
      · rw [Nat.add_mul, Nat.pow_succ, Nat.mul_comm (128 ^ k) 128, ← Nat.mul_assoc, Nat.mul_comm m 128]
        omega
      · rw [uv_big (by omega), show ((x % 128).toNat + 128 * m) / 128 = m by omega, h4, show c - k = (c - (k + 1)) + 1 by omega, List.take_succ_cons]
        congr 1
        omega
theorem rdU_true {zs : List Int} {at_ : Int} (hb : Byt zs) (h : (rdU zs at_).2.2 = true) : 0 ≤ at_ ∧ at_ < (rdU zs at_).2.1 ∧ (rdU zs at_).2.1 ≤ zs.length ∧ 0 ≤ (rdU zs at_).1 ∧ (rdU zs at_).1 ≤ 1000000000000 ∧
    enc (rdU zs at_).1 = (zs.take (rdU zs at_).2.1.toNat).drop at_.toNat := by
  unfold rdU at h ⊢
  by_cases h0 : 0 ≤ at_
  · rw [if_pos h0] at h ⊢
    rcases hg : go (zs.drop at_.toNat) 0 0 with _ | ⟨v, c⟩
    · rw [hg] at h; cases h
    · obtain ⟨h1, h2, h3, m, rfl, h4, _⟩ := go_some _ 0 0 (fun z hz => hb z (List.mem_of_mem_drop hz)) (by simp) hg
      have hl : c ≤ zs.length - at_.toNat := by simpa using h2
      refine ⟨h0, by simp; omega, by simp; omega, by simp, by simp at h3 ⊢; omega, ?_⟩
      simp only
      rw [enc_in (by omega) (by omega), show (at_ + (c : Int)).toNat = at_.toNat + c by omega, List.drop_take, show at_.toNat + c - at_.toNat = c by omega]
      have e : ((0 + m * 128 ^ 0 : Nat) : Int).toNat = m := by simp
      rw [e, h4]
      simp
  · rw [if_neg h0] at h; cases h
theorem rdU_false {zs : List Int} {at_ : Int} (h : (rdU zs at_).2.2 = false) : rdU zs at_ = (0, 0, false) := by
  unfold rdU at h ⊢
  split
  · rename_i h0
    rw [if_pos h0] at h
    rcases hg : go (zs.drop at_.toNat) 0 0 with _ | ⟨v, c⟩
    · rfl
    · rw [hg] at h; cases h
  · rfl
/-- one step of reading -/
theorem go_step {zs : List Int} {p k a : Nat} (hp : p < zs.length) (hk : k < 6) : go (zs.drop p) k a =
    if zs.getD p 0 < 128 then (if zs.getD p 0 = 0 ∧ 0 < k ∨ 1000000000000 < a + (zs.getD p 0 % 128).toNat * 128 ^ k then none else some (a + (zs.getD p 0 % 128).toNat * 128 ^ k, k + 1)) else go (zs.drop (p + 1)) (k + 1) (a + (zs.getD p 0 % 128).toNat * 128 ^ k) := by
  rw [List.drop_eq_getElem_cons hp, go, if_neg (by omega)]
  simp [List.getD, List.getElem?_eq_getElem hp]
theorem go_stop {zs : List Int} {p k a : Nat} (h : zs.length ≤ p ∨ 6 ≤ k) : go (zs.drop p) k a = none := by
  rcases h with h | h
  · rw [List.drop_of_length_le h]; rfl
  · cases zs.drop p with
    | nil => rfl
    | cons x l => rw [go, if_pos h]
theorem rdU_some {zs : List Int} {p v c : Nat} (h : go (zs.drop p) 0 0 = some (v, c)) : rdU zs (p : Int) = ((v : Int), (p : Int) + c, true) := by
  rw [rdU, if_pos (by omega), Int.toNat_natCast, h]
theorem rdU_none {zs : List Int} {p : Nat} (h : go (zs.drop p) 0 0 = none) : rdU zs (p : Int) = (0, 0, false) := by
  rw [rdU, if_pos (by omega), Int.toNat_natCast, h]
/-- what the code's and the model's arithmetic give at one group -/
theorem parts {a k : Nat} {x : Int} (hk : k < 6) (ha : a < 128 ^ k) (h0 : 0 ≤ x) (h1 : x ≤ 255) : ∃ (q s : Int) (v : Nat), bits .and .i64 x 127 = q ∧ x % 128 = q ∧ 0 ≤ q ∧ q ≤ 127 ∧ wrap64 (q * 2 ^ (7 * k)) = s ∧ bits .or .i64 a s = (v : Int) ∧ (a : Int) + s = (v : Int) ∧ v = a + (x % 128).toNat * 128 ^ k ∧ v < 128 ^ (k + 1) ∧ v < 4398046511104 := by
  obtain ⟨q, hq0⟩ : ∃ q : Nat, x % 128 = q := ⟨(x % 128).toNat, by omega⟩
  have hp : (128 : Nat) ^ k = 2 ^ (7 * k) := by rw [Nat.pow_mul]
  have hpi : (2 : Int) ^ (7 * k) = ((128 ^ k : Nat) : Int) := by rw [hp]; simp
  have hm : 128 ^ k ≤ 128 ^ 5 := Nat.pow_le_pow_right (by omega) (by omega)
  have hq : q ≤ 127 := by omega
  have hqm : q * 128 ^ k ≤ 127 * 128 ^ k := Nat.mul_le_mul_right _ hq
  have hs : wrap64 ((q : Int) * 2 ^ (7 * k)) = (q : Int) * 2 ^ (7 * k) := by
    rw [hpi]
    have : ((q : Int) * ((128 ^ k : Nat) : Int)) = ((q * 128 ^ k : Nat) : Int) := by simp
    rw [this]
    unfold wrap64
    omega
  have e : ((q : Int) * 2 ^ (7 * k)) = ((q * 128 ^ k : Nat) : Int) := by rw [hpi]; simp
  have hv : (a : Int) + (q : Int) * 2 ^ (7 * k) = ((a + q * 128 ^ k : Nat) : Int) := by rw [e]; simp
  refine ⟨q, (q : Int) * 2 ^ (7 * k), a + q * 128 ^ k, ?_, hq0, by omega, by omega, hs, ?_, hv, ?_, ?_, ?_⟩
  · rw [and127 h0 (by omega)]; exact hq0
  · rw [or_at (7 * k) (by omega) (by rw [hpi]; omega) (by omega) (by omega) (by rw [e]; omega)]
    exact hv
  · rw [show (x % 128).toNat = q by omega]
  · rw [Nat.pow_succ]; omega
  · omega
/-- what reading a byte string gives -/
def rdB (zs : List Int) (at_ most : Int) : List Int × Int × Bool :=
  if (rdU zs at_).2.2 = true ∧ (rdU zs at_).1 ≤ most ∧ (rdU zs at_).1 ≤ (zs.length : Int) - (rdU zs at_).2.1 then
    ((zs.take ((rdU zs at_).2.1 + (rdU zs at_).1).toNat).drop (rdU zs at_).2.1.toNat, (rdU zs at_).2.1 + (rdU zs at_).1, true) else ([], 0, false)
/-- the varints of a list of numbers, one behind the other -/
def encs (l : List Int) : List Int := l.flatMap enc
theorem encs_succ {l : List Int} {j : Nat} (hj : j < l.length) : encs (l.take (j + 1)) = encs (l.take j) ++ enc (l.getD j 0) := by
  rw [List.take_succ_eq_append_getElem hj, encs, List.flatMap_append]
  simp [encs, List.getD, List.getElem?_eq_getElem hj]
theorem encs_len (l : List Int) : (encs l).length ≤ 6 * l.length := by
  induction l with
  | nil => simp [encs]
  | cons x l ih =>
    have h := enc_len x
    simp only [encs, List.flatMap_cons, List.length_append, List.length_cons] at ih ⊢
    omega
/-- k varints from p on -/
def decs (zs : List Int) : Nat → Int → Option (List Int × Int)
  | 0, p => some ([], p)
  | k + 1, p => if (rdU zs p).2.2 = true then (decs zs k (rdU zs p).2.1).map fun r => ((rdU zs p).1 :: r.1, r.2) else none
def dres : Option (List Int × Int) → List Int × Int × Bool
  | none => ([], 0, false)
  | some (l, p) => (l, p, true)
def rdI (zs : List Int) (at_ count : Int) : List Int × Int × Bool :=
  if (0 ≤ count ∧ count ≤ 100) ∧ 0 ≤ at_ ∧ at_ ≤ zs.length then dres (decs zs count.toNat at_) else ([], 0, false)
theorem decs_step {zs d : List Int} {o : Option (List Int × Int)} {k : Nat} {p v p' : Int} (h : o = (decs zs (k + 1) p).map fun r => (d ++ r.1, r.2)) (hr : rdU zs p = (v, p', true)) : o = (decs zs k p').map fun r => ((d ++ [v]) ++ r.1, r.2) := by
  rw [h, decs, hr]
  simp [Function.comp_def]
theorem decs_fail {zs d : List Int} {o : Option (List Int × Int)} {k : Nat} {p v p' : Int} (h : o = (decs zs (k + 1) p).map fun r => (d ++ r.1, r.2)) (hr : rdU zs p = (v, p', false)) : o = none := by
  rw [h, decs, hr]
  simp
theorem decs_enc (l : List Int) : ∀ (a b : List Int), (∀ x ∈ l, 0 ≤ x ∧ x ≤ 1000000000000) → decs (a ++ (encs l ++ b)) l.length a.length = some (l, (a.length : Int) + (encs l).length) := by
  induction l with
  | nil => intro a b _; simp [decs, encs]
  | cons x l ih =>
    intro a b h
    have hx := h x (by simp)
    have e : a ++ (encs (x :: l) ++ b) = a ++ (enc x ++ (encs l ++ b)) := by simp [encs]
    have e2 : a ++ (enc x ++ (encs l ++ b)) = (a ++ enc x) ++ (encs l ++ b) := by simp
    have h2 := ih (a ++ enc x) b fun y hy => h y (by simp [hy])
    rw [List.length_cons, decs, e, rdU_enc a hx.1 hx.2, if_pos rfl, e2]
    simp only [List.length_append, Int.natCast_add] at h2
    rw [h2]
    simp [encs]
    omega
theorem decs_length (zs : List Int) : ∀ (k : Nat) (p : Int) {l : List Int} {q : Int}, decs zs k p = some (l, q) → l.length = k := by
  intro k
  induction k with
  | zero => intro p l q h; simp [decs] at h; simp [← h.1]
  | succ k ih =>
    intro p l q h
    rw [decs] at h
    split at h
    · obtain ⟨⟨l', q'⟩, h1, h2⟩ := Option.map_eq_some_iff.1 h
      simp only [Prod.mk.injEq] at h2
      rw [← h2.1, List.length_cons, ih _ h1]
    · cases h
theorem rdI_len (zs : List Int) (p k : Int) : (rdI zs p k).1.length ≤ 100 := by
  unfold rdI
  split
  · rcases h : decs zs k.toNat p with _ | ⟨l, q⟩
    · simp [dres]
    · have := decs_length zs _ _ h
      simp only [dres]
      omega
  · simp
theorem str_inj {xs ys : List Int} (hx : Byt xs) (hy : Byt ys) (h : strOfNums xs = strOfNums ys) : xs = ys := by
  have h1 := congrArg (fun s : ByteArray => s.data.toList) h
  simp only [strOfNums_data] at h1
  have hl : xs.length = ys.length := by simpa using congrArg List.length h1
  apply List.ext_getElem hl
  intro j h2 h3
  have h4 := congrArg (fun l => l[j]?) h1
  simp only [List.getElem?_map, List.getElem?_eq_getElem h2, List.getElem?_eq_getElem h3, Option.map_some, Option.some.injEq] at h4
  have h5 := hx _ (List.getElem_mem h2)
  have h6 := hy _ (List.getElem_mem h3)
  have h7 := congrArg UInt8.toNat h4
  simp only [UInt8.toNat_ofNat'] at h7
  omega
end Go.Proofs.YthhmhcmlbpdlbaaGreat.M02
namespace Go.Proofs.YthhmhcmlbpdlbaaGreat.C01
open Go.RowKit
def inR (n a b : Int) : Bool := decide (a ≤ n) && decide (n ≤ b)
theorem inR_true {n a b : Int} (h1 : a ≤ n) (h2 : n ≤ b) : inR n a b = true := by simp [inR, h1, h2]
theorem inR_false {n a b : Int} (h : n < a ∨ b < n) : inR n a b = false := by unfold inR; rcases h with h | h <;> simp <;> omega
theorem inRange_any (n a b : Int) (w : World) : Calls Tryz.prog 79 #[.int .i64 n, .int .i64 a, .int .i64 b] w fun e w' => e = .returned (.bool (inR n a b)) ∧ w = w' := by
  unfold inR
  by_cases h1 : a ≤ n
  all_goals
    by_cases h2 : n ≤ b
    all_goals
      go_enter Tryz.func79, Tryz.ntmps79
      go_wp2
      go_ret
      simp <;> omega
theorem l1In_any (n a b : Int) (w : World) : Calls Tryz.prog 39 #[.int .i64 n, .int .i64 a, .int .i64 b] w fun e w' => e = .returned (.bool (inR n a b)) ∧ w = w' := by
  unfold inR
  by_cases h1 : a ≤ n
  all_goals
    by_cases h2 : n ≤ b
    all_goals
      go_enter Tryz.func39, Tryz.ntmps39
      go_wp2
      go_ret
      simp <;> omega
/-- a / b, rounded up, within the limits of chapter 1 (0 outside). -/
def ceilDiv (a b : Int) : Int := if inR a 0 1000000000000 && inR b 1 1000000000000 then (a + b - 1) / b else 0
/-- The remainder in 0 .. q-1 (0 where q is outside its limits). -/
def modQ (p q : Int) : Int := if inR q 1 1000000000000 then p % q else 0
theorem tmod_parts (a b : Int) (hb : 1 ≤ b) : (a.tmod b = a % b ∨ a.tmod b = a % b - b ∧ a % b ≠ 0) ∧ 0 ≤ a % b ∧ a % b < b := by
  refine ⟨?_, Int.emod_nonneg _ (by omega), Int.emod_lt_of_pos _ (by omega)⟩
  have h := Int.tmod_eq_emod (a := a) (b := b)
  split at h
  · left; omega
  · rename_i hn
    right
    refine ⟨by omega, fun e => hn (.inr (Int.dvd_of_emod_eq_zero e))⟩
theorem mod_neg {a b : Int} (hb1 : 1 ≤ b) (hb2 : b ≤ 1000000000000) (h : a.tmod b < 0) : wrap64 (a.tmod b + b) = a % b := by
  obtain ⟨h1, h2, h3⟩ := tmod_parts a b hb1
  generalize a.tmod b = t at *
  generalize a % b = m at *
  unfold wrap64; omega
theorem mod_nn {a b : Int} (hb1 : 1 ≤ b) (h : 0 ≤ a.tmod b) : a.tmod b = a % b := by
  obtain ⟨h1, h2, h3⟩ := tmod_parts a b hb1
  omega
theorem mod_two {a b : Int} (hb1 : 1 ≤ b) (hb2 : b ≤ 1000000000000) : (wrap64 (a.tmod b + b)).tmod b = a % b := by
  obtain ⟨h1, h2, h3⟩ := tmod_parts a b hb1
  have e : wrap64 (a.tmod b + b) = a.tmod b + b := by
    generalize a.tmod b = t at *
    generalize a % b = m at *
    unfold wrap64; omega
  rw [e, Int.tmod_eq_emod_of_nonneg (by omega)]
  rcases h1 with h1 | ⟨h1, _⟩ <;> rw [h1] <;> simp
theorem iMod_any (a b : Int) (w : World) : Calls Tryz.prog 128 #[.int .i64 a, .int .i64 b] w fun e w' => e = .returned (.int .i64 (modQ a b)) ∧ w = w' := by
  by_cases hb : 1 ≤ b ∧ b ≤ 1000000000000
  · obtain ⟨hb1, hb2⟩ := hb
    have h2 := inR_true hb1 hb2
    have hr : modQ a b = a % b := by simp [modQ, h2]
    have HR := Lib.hid hr
    clear hr
    go_enter Tryz.func128, Tryz.ntmps128
    go_wp2_with (go_at_call 79; refine (inRange_any _ _ _ _).mono ?_; rintro e w' ⟨rfl, rfl⟩)
    all_goals
      go_ret
      rw [HR.out]
      first | exact ⟨by rw [← mod_neg hb1 hb2 ‹_›]; rfl, rfl⟩ | exact ⟨by rw [← mod_nn hb1 ‹_›]; rfl, rfl⟩ | exact ⟨by rw [← mod_two hb1 hb2]; rfl, rfl⟩
  · have h2 := inR_false (n := b) (a := 1) (b := 1000000000000) (by omega)
    have hr : modQ a b = 0 := by simp [modQ, h2]
    have HR := Lib.hid hr
    clear hr hb
    go_enter Tryz.func128, Tryz.ntmps128
    go_wp2_with (go_at_call 79; refine (inRange_any _ _ _ _).mono ?_; rintro e w' ⟨rfl, rfl⟩)
    go_ret
    rw [HR.out]; simp
theorem sMod_any (a b : Int) (w : World) : Calls Tryz.prog 101 #[.int .i64 a, .int .i64 b] w fun e w' => e = .returned (.int .i64 (modQ a b)) ∧ w = w' := by
  by_cases hb : 1 ≤ b ∧ b ≤ 1000000000000
  · obtain ⟨hb1, hb2⟩ := hb
    have h2 := inR_true hb1 hb2
    have hr : modQ a b = a % b := by simp [modQ, h2]
    have HR := Lib.hid hr
    clear hr
    go_enter Tryz.func101, Tryz.ntmps101
    go_wp2_with (go_at_call 39; refine (l1In_any _ _ _ _).mono ?_; rintro e w' ⟨rfl, rfl⟩)
    all_goals
      go_ret
      rw [HR.out]
      first | exact ⟨by rw [← mod_neg hb1 hb2 ‹_›]; rfl, rfl⟩ | exact ⟨by rw [← mod_nn hb1 ‹_›]; rfl, rfl⟩ | exact ⟨by rw [← mod_two hb1 hb2]; rfl, rfl⟩
  · have h2 := inR_false (n := b) (a := 1) (b := 1000000000000) (by omega)
    have hr : modQ a b = 0 := by simp [modQ, h2]
    have HR := Lib.hid hr
    clear hr hb
    go_enter Tryz.func101, Tryz.ntmps101
    go_wp2_with (go_at_call 39; refine (l1In_any _ _ _ _).mono ?_; rintro e w' ⟨rfl, rfl⟩)
    go_ret
    rw [HR.out]; simp
end Go.Proofs.YthhmhcmlbpdlbaaGreat.C01
namespace Go.Proofs.YthhmhcmlbpdlbaaGreat.C02
open Go.RowKit Mem M02 C01
set_option linter.unusedVariables false
theorem byt_in {zs : List Int} (h : ∀ z ∈ zs, In .u8 z) : Byt zs := fun z hz => by
  have := h z hz
  exact ⟨this.1, this.2⟩
theorem in_u8 {z : Int} (h0 : 0 ≤ z) (h1 : z ≤ 255) : In .u8 z := ⟨h0, h1⟩
theorem uv_go {m : Nat} {d u : List Int} (h : d ++ uv m = u) (hm : ¬ m ≤ 127) {x : Int} (hx : x = (m : Int) % 128 + 128) : (d ++ [x]) ++ uv (m / 128) = u := by
  rw [← h, uv_big hm, List.append_assoc, List.singleton_append, hx]
  congr 1
theorem uv_end {m : Nat} {d u : List Int} (h : d ++ uv m = u) (hm : m ≤ 127) {x : Int} (hx : x = m) : d ++ [x] = u := by rw [← h, uv_small hm, hx]
end Go.Proofs.YthhmhcmlbpdlbaaGreat.C02
namespace Go.Proofs.YthhmhcmlbpdlbaaGreat.C02R
open Go.RowKit Mem M02 C01 C02
set_option linter.unusedVariables false
end Go.Proofs.YthhmhcmlbpdlbaaGreat.C02R
namespace Go.Proofs.YthhmhcmlbpdlbaaGreat.C02B
open Go.RowKit Mem M02 C01 C02 C02R
set_option linter.unusedVariables false
theorem conv_str {B n : Nat} {A : Option Addr} {zs : List Int} {w : World} (h : Rd .u8 w B A n zs) (c : Nat) : (convert 22 9 (.slice A n c)).run Tryz.prog w = .ok (.string (strOfNums zs)) w := by
  have hu : Tryz.prog.underlying 5 = some (.int .u8) := by kernel_rfl
  have hs : Tryz.prog.underlying 9 = some .string := by kernel_rfl
  rcases Nat.eq_zero_or_pos n with h0 | h0
  · subst h0
    have hz : zs = [] := List.eq_nil_of_length_eq_zero h.len
    subst hz
    rw [run_convert_bytes_string w 22 9 5 A 0 c under_u8 hu hs]
    cases A <;> simp [Conv.bytesToString, loadCells] <;> rfl
  · obtain ⟨b, off, rfl, _, hc⟩ := h.cells h0
    exact run_convert_bytes_arg w _ _ under_u8 hu b off n c zs h.len hc _ hs
theorem str_beq {zs ys : List Int} (hx : Byt zs) (hy : Byt ys) : ((strOfNums zs).toList == (strOfNums ys).toList) = decide (zs = ys) := by
  by_cases e : zs = ys
  · subst e; simp
  · rw [decide_eq_false e]
    refine beq_eq_false_iff_ne.2 fun h => e (str_inj hx hy ?_)
    rw [Lib.strOfNums_toList, Lib.strOfNums_toList] at h
    have h1 : (strOfNums zs).data.toList = (strOfNums ys).data.toList := h
    cases h2 : strOfNums zs
    cases h3 : strOfNums ys
    rw [h2, h3] at h1
    congr 1
    exact Array.toList_inj.1 h1
/-- 'b[p:p+q]' -/
theorem cut_rd {B n : Nat} {zs : List Int} {w : World} {b off p q : Nat} (h : Rd .u8 w B (some ⟨b, off, none⟩) n zs) (hpq : p + q ≤ n) : Rd .u8 w B (some ⟨b, off + p, none⟩) q ((zs.take (p + q)).drop p) := by
  rcases Nat.eq_zero_or_pos q with h0 | h0
  · subst h0
    have e : (zs.take (p + 0)).drop p = [] := List.drop_of_length_le (by simp; omega)
    rw [e]
    exact Rd.nil _ _ _ _
  · have := h.part (i := p) (j := p + q) (by omega) hpq (by omega)
    rwa [Nat.add_sub_cancel_left] at this
theorem rdB_cases (zs : List Int) (at_ most : Int) (hb : Byt zs) : ∃ (v x : Int) (ok : Bool), rdU zs at_ = (v, x, ok) ∧
    ((ok = false ∧ rdB zs at_ most = ([], 0, false)) ∨
     ∃ p q : Nat, ok = true ∧ v = q ∧ x = p ∧ 0 < p ∧ p ≤ zs.length ∧ (most < q ∧ rdB zs at_ most = ([], 0, false) ∨ (q : Int) ≤ most ∧ zs.length < p + q ∧ rdB zs at_ most = ([], 0, false) ∨ (q : Int) ≤ most ∧ p + q ≤ zs.length ∧ rdB zs at_ most = ((zs.take (p + q)).drop p, (p : Int) + q, true))) := by
  rcases hr : rdU zs at_ with ⟨v, x, ok⟩
  refine ⟨v, x, ok, rfl, ?_⟩
  rcases ok with _ | _
  · exact .inl ⟨rfl, by rw [rdB, hr, if_neg (by simp)]⟩
  · obtain ⟨h1, h2, h3, h4, h5, _⟩ := rdU_true hb (at_ := at_) (by rw [hr])
    rw [hr] at h2 h3 h4 h5
    simp only at h2 h3 h4 h5
    obtain ⟨p, rfl⟩ : ∃ p : Nat, x = p := ⟨x.toNat, by omega⟩
    obtain ⟨q, rfl⟩ : ∃ q : Nat, v = q := ⟨v.toNat, by omega⟩
    refine .inr ⟨p, q, rfl, rfl, rfl, by omega, by omega, ?_⟩
    by_cases hm : (q : Int) ≤ most
    · by_cases hl : p + q ≤ zs.length
      · refine .inr (.inr ⟨hm, hl, ?_⟩)
        rw [rdB, hr]
        simp only
        rw [if_pos (by simp; omega)]
        congr 1
      · refine .inr (.inl ⟨hm, by omega, ?_⟩)
        rw [rdB, hr, if_neg (by simp only; omega)]
    · refine .inl ⟨by omega, ?_⟩
      rw [rdB, hr, if_neg (by simp only; omega)]
end Go.Proofs.YthhmhcmlbpdlbaaGreat.C02B
