/- The hash, the key stream and the cipher of chapter 3, as plain functions on lists of numbers. Chapter 3: what the model's functions return. Chapter 3: derived keys (the model's), and the comparison of lists of integers (the model's and the code's). Chapter 3: the code's lists of bytes' numbers. Chapter 3: the code's hashes and keys. -/
import Derived.Test.YthhmhcmlbpdlbaaGreatChecked
import Derived.Test.YthhmhcmlbpdlbaaGreatC02B
import Derived.Laws.IdiomStrings
import Derived.Test.YthhmhcmlbpdlbaaGreatT01
namespace Go.Proofs.YthhmhcmlbpdlbaaGreat.M03
def hstep (a v : Int) : Int := (a * 1000003 + v % 2147483647 + 13) % 2147483647
def hsh (l : List Int) : Int := l.foldl hstep 11
def kh (k : Int) (l : List Int) : Int := hsh (k :: (l ++ [k]))
def stream (k : Int) (i : Nat) : Int := kh k [(i : Int)]
def encr (k : Int) (zs : List Int) : List Int := (List.range zs.length).map fun i => (zs.getD i 0 + stream k i % 256) % 256
def decr (k : Int) (zs : List Int) : List Int := (List.range zs.length).map fun i => (zs.getD i 0 - stream k i % 256) % 256
def bti (zs : List Int) : List Int := (zs.length : Int) :: zs
theorem hstep_range (a v : Int) : 0 ≤ hstep a v ∧ hstep a v < 2147483647 := ⟨Int.emod_nonneg _ (by omega), Int.emod_lt_of_pos _ (by omega)⟩
theorem hsh_snoc (l : List Int) (v : Int) : hsh (l ++ [v]) = hstep (hsh l) v := by simp [hsh]
theorem hsh_range (l : List Int) : 0 ≤ hsh l ∧ hsh l < 2147483647 := by
  rcases List.eq_nil_or_concat l with rfl | ⟨l', v, rfl⟩
  · simp [hsh]
  · rw [List.concat_eq_append, hsh_snoc]
    exact hstep_range _ _
theorem hsh_succ {l : List Int} {j : Nat} (hj : j < l.length) : hsh (l.take (j + 1)) = hstep (hsh (l.take j)) (l.getD j 0) := by
  rw [List.take_succ_eq_append_getElem hj, hsh_snoc]
  simp [List.getD, List.getElem?_eq_getElem hj]
theorem kh_range (k : Int) (l : List Int) : 0 ≤ kh k l ∧ kh k l < 2147483647 := hsh_range _
theorem encr_len (k : Int) (zs : List Int) : (encr k zs).length = zs.length := by simp [encr]
theorem decr_len (k : Int) (zs : List Int) : (decr k zs).length = zs.length := by simp [decr]
theorem encr_succ {k : Int} {zs : List Int} {j : Nat} (hj : j < zs.length) : (encr k zs).take (j + 1) = (encr k zs).take j ++ [(zs.getD j 0 + stream k j % 256) % 256] := by
  rw [List.take_succ_eq_append_getElem (by rw [encr_len]; exact hj)]
  simp [encr]
theorem decr_succ {k : Int} {zs : List Int} {j : Nat} (hj : j < zs.length) : (decr k zs).take (j + 1) = (decr k zs).take j ++ [(zs.getD j 0 - stream k j % 256) % 256] := by
  rw [List.take_succ_eq_append_getElem (by rw [decr_len]; exact hj)]
  simp [decr]
theorem decr_encr (k : Int) (zs : List Int) (h : ∀ z ∈ zs, 0 ≤ z ∧ z ≤ 255) : decr k (encr k zs) = zs := by
  apply List.ext_getElem
  · rw [decr_len, encr_len]
  · intro i h1 h2
    have hz := h zs[i] (List.getElem_mem h2)
    simp only [decr, List.getElem_map, List.getElem_range]
    have hi : i < (encr k zs).length := by rw [encr_len]; exact h2
    have e : (encr k zs).getD i 0 = (zs[i] + stream k i % 256) % 256 := by
      rw [List.getD, List.getElem?_eq_getElem hi, Option.getD_some]
      simp only [encr, List.getElem_map, List.getElem_range, List.getD, List.getElem?_eq_getElem h2, Option.getD_some]
    rw [e]
    omega
theorem encr_decr (k : Int) (zs : List Int) (h : ∀ z ∈ zs, 0 ≤ z ∧ z ≤ 255) : encr k (decr k zs) = zs := by
  apply List.ext_getElem
  · rw [encr_len, decr_len]
  · intro i h1 h2
    have hz := h zs[i] (List.getElem_mem h2)
    simp only [encr, List.getElem_map, List.getElem_range]
    have hi : i < (decr k zs).length := by rw [decr_len]; exact h2
    have e : (decr k zs).getD i 0 = (zs[i] - stream k i % 256) % 256 := by
      rw [List.getD, List.getElem?_eq_getElem hi, Option.getD_some]
      simp only [decr, List.getElem_map, List.getElem_range, List.getD, List.getElem?_eq_getElem h2, Option.getD_some]
    rw [e]
    omega
theorem inv_mul (d : Int) (h : (2147483647 : Int) ∣ d * 1000003) : (2147483647 : Int) ∣ d := by
  obtain ⟨k, hk⟩ := h
  refine ⟨k * 1523789695 - d * 709572, ?_⟩
  have e : (1000003 : Int) * 1523789695 = 1 + 2147483647 * 709572 := by decide
  have h2 : d * 1000003 * 1523789695 = 2147483647 * k * 1523789695 := by rw [hk]
  rw [Int.mul_assoc, e] at h2
  rw [Int.mul_add, Int.mul_one] at h2
  rw [Int.mul_sub]
  have h3 : d * (2147483647 * 709572) = 2147483647 * (d * 709572) := by rw [Int.mul_left_comm]
  have h4 : 2147483647 * k * 1523789695 = 2147483647 * (k * 1523789695) := Int.mul_assoc _ _ _
  rw [h3, h4] at h2
  generalize 2147483647 * (d * 709572) = p at h2 ⊢
  generalize 2147483647 * (k * 1523789695) = q at h2 ⊢
  omega
/-- one hstep keeps two accumulators apart, and tells two values apart -/
theorem hstep_inj {a b v : Int} (ha : 0 ≤ a ∧ a < 2147483647) (hb : 0 ≤ b ∧ b < 2147483647) (h : hstep a v = hstep b v) : a = b := by
  unfold hstep at h
  generalize v % 2147483647 = t at h
  have h1 := Int.dvd_of_emod_eq_zero (Int.emod_eq_emod_iff_emod_sub_eq_zero.1 h)
  have e1 : a * 1000003 + t + 13 - (b * 1000003 + t + 13) = (a - b) * 1000003 := by
    rw [Int.sub_mul]
    generalize a * 1000003 = x
    generalize b * 1000003 = y
    omega
  rw [e1] at h1
  obtain ⟨k, hk⟩ := inv_mul _ h1
  clear h h1 e1
  omega
theorem hstep_tells {a v v' : Int} (h : hstep a v = hstep a v') : v % 2147483647 = v' % 2147483647 := by
  unfold hstep at h
  omega
theorem foldl_range (l : List Int) (a : Int) (ha : 0 ≤ a ∧ a < 2147483647) : 0 ≤ l.foldl hstep a ∧ l.foldl hstep a < 2147483647 := by
  induction l generalizing a with
  | nil => exact ha
  | cons x l ih => exact ih _ (hstep_range _ _)
theorem foldl_inj (l : List Int) : ∀ {a b : Int}, 0 ≤ a ∧ a < 2147483647 → 0 ≤ b ∧ b < 2147483647 → l.foldl hstep a = l.foldl hstep b → a = b := by
  induction l with
  | nil => intro a b _ _ h; exact h
  | cons x l ih => intro a b ha hb h; exact hstep_inj ha hb (ih (hstep_range _ _) (hstep_range _ _) h)
/-- a keyed hash tells two values at one place apart -/
theorem kh_tells (k : Int) (l : List Int) {i : Nat} (hi : i < l.length) {v : Int} (hv : v % 2147483647 ≠ l.getD i 0 % 2147483647) : kh k (l.set i v) ≠ kh k l := by
  intro h
  have e1 : l = l.take i ++ l.getD i 0 :: l.drop (i + 1) := by
    have e := List.take_append_drop i l
    rw [List.drop_eq_getElem_cons hi] at e
    simp only [List.getD, List.getElem?_eq_getElem hi, Option.getD_some]
    exact e.symm
  have e2 : l.set i v = l.take i ++ v :: l.drop (i + 1) := List.set_eq_take_append_cons_drop.trans (if_pos hi)
  rw [e2] at h
  conv at h => rhs; rw [e1]
  unfold kh hsh at h
  simp only [List.foldl_cons, List.foldl_append, List.append_assoc, List.cons_append, List.foldl_nil] at h
  have h2 := hstep_inj (foldl_range _ _ (hstep_range _ _)) (foldl_range _ _ (hstep_range _ _)) h
  exact hv (hstep_tells (foldl_inj _ (hstep_range _ _) (hstep_range _ _) h2))
end Go.Proofs.YthhmhcmlbpdlbaaGreat.M03
namespace Go.Proofs.YthhmhcmlbpdlbaaGreat.C03S
open Go.RowKit Mem M02 C01 C02 C02B M03
set_option linter.unusedVariables false
theorem modQ_M (v : Int) : modQ v 2147483647 = v % 2147483647 := by simp [modQ, inR]
theorem modQ_256 (v : Int) : modQ v 256 = v % 256 := by simp [modQ, inR]
theorem in_i64 {z : Int} (h0 : -9223372036854775808 ≤ z) (h1 : z ≤ 9223372036854775807) : In .i64 z := by constructor <;> simp [IntKind.min, IntKind.max, IntKind.signed, IntKind.bits] <;> omega
theorem in_i64_iff {z : Int} (h : In .i64 z) : -9223372036854775808 ≤ z ∧ z ≤ 9223372036854775807 := by
  have e1 : IntKind.i64.min = -9223372036854775808 := rfl
  have e2 : IntKind.i64.max = 9223372036854775807 := rfl
  unfold In at h
  omega
theorem sHash_any (B : Nat) (A : Option Addr) (n c : Nat) (zs : List Int) (w : World) (h : Rd .i64 w B A n zs) (hn : n ≤ 1099511627776) :
    Calls Tryz.prog 56 #[.slice A n c] w fun e w' => e = .returned (.int .i64 (hsh zs)) ∧ w = w' := by
  have hl := h.len
  go_enter Tryz.func56, Tryz.ntmps56
  go_wp2
  go_loop [3, 4] (fun d i => ∃ (j : Nat) (x : Int), j ≤ n ∧ i = .int .i64 j ∧ d = .int .i64 x ∧ 0 ≤ x ∧ x < 2147483647 ∧ x = hsh (zs.take j)) (fun _ i => n - (intOf i).toNat)
  case atStart => exact ⟨0, 11, by omega, rfl, rfl, by omega, by omega, rfl⟩
  case round =>
    obtain ⟨j, x, hj, rfl, rfl, hx0, hx1, hx⟩ := hrel
    have HX := Lib.hid hx
    have HL := Lib.hid hl
    clear hx hl
    by_cases hjn : j < n
    · obtain ⟨b, off, rfl, _, hc⟩ := h.cell_at hjn
      have hs := hsh_succ (l := zs) (j := j) (by have := HL.out; omega)
      rw [← HX.out] at hs
      generalize zs.getD j 0 = z at hc hs
      obtain ⟨y, hy⟩ : ∃ y : Int, z % 2147483647 = y := ⟨_, rfl⟩
      have hy0 : 0 ≤ y := by omega
      have hy1 : y < 2147483647 := by omega
      have hM := sMod_any z 2147483647 w
      rw [modQ_M, hy] at hM
      have HM := Lib.hid hM
      unfold hstep at hs
      rw [hy] at hs
      have HS := Lib.hid hs
      clear hy hs hM h
      go_wp2_with fail
      refine HM.out.mono ?_
      rintro e w2 ⟨rfl, rfl⟩
      go_wp2
      go_round
      case rel => exact ⟨j + 1, _, by omega, by go_num, rfl, Int.emod_nonneg _ (by omega), Int.emod_lt_of_pos _ (by omega), HS.out.symm⟩
      case measure => simp [intOf]; omega
    · have e : zs.take j = zs := List.take_of_length_le (by have := HL.out; omega)
      have h2 := HX.out
      rw [e] at h2
      subst h2
      clear h e
      go_wp2
      go_ret
      exact ⟨rfl, rfl⟩
theorem sKeyedHash_any (A : Option Addr) (k : Int) (n c : Nat) (zs : List Int) (w : World) (h : Rd .i64 w w.heap.size A n zs) (hn : n ≤ 1099511627) (hk0 : -9223372036854775808 ≤ k) (hk1 : k ≤ 9223372036854775807) :
    Calls Tryz.prog 176 #[.int .i64 k, .slice A n c] w fun e w' => e = .returned (.int .i64 (kh k zs)) ∧ Below w.heap.size w w' := by
  have hki := in_i64 hk0 hk1
  have h0 : Own .i64 (w.alloc (.cells #[.int .i64 k] 3)) w.heap.size (w.heap.size + 1) (some ⟨w.heap.size, 0, none⟩) 1 1 [k] := Own.lit1 .i64 w hki (Nat.le_refl _)
  have h1 := h.alloc (Nat.le_refl _) (.cells #[.int .i64 k] 3)
  have hb0 : Below w.heap.size w (w.alloc (.cells #[.int .i64 k] 3)) := (Below.refl _ _).alloc (Nat.le_refl _) _
  have H0 := Lib.hid h0
  have H1 := Lib.hid h1
  have HB := Lib.hid hb0
  clear h0 h1 hb0 h
  go_enter Tryz.func176, Tryz.ntmps176
  go_wp2_with (first
    | (at_builtin; refine wp_app (k := .i64) (by unfold BI; decide) rfl (.tmp 6) (.tmp 7) rfl rfl H0.out rfl H1.out (by omega) HB.out.size ?_; intro A1 c1 w1 hown1 hgr1; have HO1 := Lib.hid hown1; have HB1 := Lib.hid (HB.out.trans (hgr1.below HB.out.size H0.out.ge)); clear hown1 hgr1)
    | (at_builtin; refine wp_push (k := .i64) (z := k) (by unfold BI; decide) rfl (.tmp 8) (.tmp 10) rfl rfl HO1.out rfl hki (by omega) HB1.out.size ?_; intro A2 c2 w2 hown2 hgr2; have HO2 := Lib.hid hown2; have HB2 := Lib.hid (HB1.out.trans (hgr2.below HB1.out.size HO1.out.ge)); clear hown2 hgr2)
    | (go_at_call 56; refine (sHash_any _ A2 _ c2 _ _ HO2.out.rd (by omega)).mono ?_; rintro e w3 ⟨rfl, rfl⟩))
  go_ret
  exact ⟨by simp [kh], HB2.out⟩
theorem sBytesToInts_any (A : Option Addr) (n c : Nat) (zs : List Int) (w : World) (h : Rd .u8 w w.heap.size A n zs) (hn : n ≤ 1099511627) :
    Calls Tryz.prog 180 #[.slice A n c] w fun e w' => ∃ A' c', e = .returned (.slice A' (n + 1) c') ∧ Own .i64 w' w.heap.size w'.heap.size A' (n + 1) c' (bti zs) ∧ Below w.heap.size w w' := by
  have hl := h.len
  have hni : In .i64 (n : Int) := in_i64 (by omega) (by omega)
  have H0 := Lib.hid (show Own .i64 (w.alloc (.cells #[.int .i64 (n : Int)] 3)) w.heap.size (w.heap.size + 1) (some ⟨w.heap.size, 0, none⟩) 1 1 [(n : Int)] from Own.lit1 .i64 w hni (Nat.le_refl _))
  have HB := Lib.hid ((Below.refl _ w).alloc (Nat.le_refl _) (.cells #[.int .i64 (n : Int)] 3))
  have H := Lib.hid h
  have HL := Lib.hid hl
  clear h hl hni
  go_enter Tryz.func180, Tryz.ntmps180
  go_wp2
  go_loopw [3, 4] (fun v i wr => ∃ (A1 : Option Addr) (c1 j : Nat), v = .slice A1 (j + 1) c1 ∧ i = .int .i64 j ∧ j ≤ n ∧ Own .i64 wr w.heap.size wr.heap.size A1 (j + 1) c1 ((n : Int) :: zs.take j) ∧ Below w.heap.size w wr) (fun _ i _ => n - (intOf i).toNat)
  case atStart => exact ⟨_, 1, 0, rfl, rfl, by omega, H0.out.top, HB.out⟩
  case round =>
    obtain ⟨A1, c1, j, rfl, rfl, hj, hown, hbel⟩ := hrel
    have HO := Lib.hid hown
    have HX := Lib.hid hbel
    clear hown hbel
    by_cases hjn : j < n
    · obtain ⟨b, off, rfl, hlt, hc⟩ := (H.out.below HX.out (Nat.le_refl _)).cell_at hjn
      have hz := byt_in H.out.wf (zs.getD j 0) (by have := HL.out; simp [List.getD, List.getElem?_eq_getElem (show j < zs.length by omega)])
      have ht : zs.take (j + 1) = zs.take j ++ [zs.getD j 0] := by
        have := HL.out
        rw [List.take_succ_eq_append_getElem (show j < zs.length by omega)]
        simp [List.getD, List.getElem?_eq_getElem (show j < zs.length by omega)]
      generalize zs.getD j 0 = z at hc hz ht
      have hzi : In .i64 z := in_i64 (by omega) (by omega)
      have HT := Lib.hid ht
      clear ht
      go_wp2_with (at_builtin; refine wp_push (k := .i64) (z := z) (by unfold BI; decide) rfl _ _ rfl rfl HO.out rfl hzi (by omega) HX.out.size ?_; intro A2 c2 w2 hown2 hgr2)
      go_roundw
      case rel => exact ⟨A2, c2, j + 1, rfl, by go_num, by omega, by rw [HT.out]; exact hown2, HX.out.trans (hgr2.below HX.out.size HO.out.ge)⟩
      case measure => simp [intOf]; omega
    · have hj2 : j = n := by omega
      subst hj2
      have e : (j : Int) :: zs.take j = bti zs := by
        have := HL.out
        rw [← this, List.take_length]
        rfl
      have HE := Lib.hid e
      clear e
      go_wp2
      go_ret
      rw [← HE.out]
      exact ⟨_, _, rfl, HO.out, HX.out⟩
end Go.Proofs.YthhmhcmlbpdlbaaGreat.C03S
namespace Go.Proofs.YthhmhcmlbpdlbaaGreat.C03D
open Go.RowKit Mem M02 C01 C02 C02B M03 C03S
set_option linter.unusedVariables false
/-- the bytes of a string, as numbers -/
def nums (s : ByteArray) : List Int := s.data.toList.map fun b => (b.toNat : Int)
theorem nums_len (s : ByteArray) : (nums s).length = s.size := by
  unfold nums
  rw [List.length_map, Array.length_toList]
  rfl
theorem conv_bytes (s : ByteArray) (w : World) : ∃ (c : Nat) (w' : World), (convert 9 22 (.string s)).run Tryz.prog w = .ok (.slice (some ⟨w.heap.size, 0, none⟩) s.size c) w' ∧ Rd .u8 w' w'.heap.size (some ⟨w.heap.size, 0, none⟩) s.size (nums s) ∧ Below w.heap.size w w' := by
  have hu : Tryz.prog.underlying 5 = some (.int .u8) := by kernel_rfl
  have hs : Tryz.prog.underlying 9 = some .string := by kernel_rfl
  refine ⟨_, _, run_bytes_of_string w 9 22 5 s hs under_u8 hu, ⟨nums_len s, fun z hz => ?_, fun _ => ⟨_, 0, rfl, by simp, fun j hj => ?_⟩⟩, (Below.refl _ w).drew.alloc (Nat.le_refl _) _⟩
  · obtain ⟨b, _, rfl⟩ := List.mem_map.1 hz
    have := b.toNat_lt
    exact in_u8 (by omega) (by omega)
  · have hj2 : j < s.data.size := hj
    have hl : j < (nums s).length := by rw [nums_len]; exact hj
    have e : (w.drew.alloc (.cells (bytesRow s (grownCap w s.size 0 5)) 5 ((bytesRow s (grownCap w s.size 0 5)).size, (bytesRow s (grownCap w s.size 0 5)).size + 1))).heap[w.heap.size]? = some (.cells (bytesRow s (grownCap w s.size 0 5)) 5 ((bytesRow s (grownCap w s.size 0 5)).size, (bytesRow s (grownCap w s.size 0 5)).size + 1)) := heap_alloc_new w.drew _
    rw [Nat.zero_add, cell_of_row _ _ _ _ _ _ e, bytesRow_at s _ j hj2]
    simp only [nums, List.getD, List.getElem?_map, Array.getElem?_toList, Array.getElem?_eq_getElem hj2, Option.map_some, Option.getD_some]
def dfs (k : Int) (s : ByteArray) : Int := max 1 (kh k (bti (nums s)))
theorem take_eq_step {zs ys : List Int} {j : Nat} (hz : j < zs.length) (hy : j < ys.length) (h : zs.take j = ys.take j) (e : zs.getD j 0 = ys.getD j 0) : zs.take (j + 1) = ys.take (j + 1) := by
  rw [List.take_succ_eq_append_getElem hz, List.take_succ_eq_append_getElem hy, h]
  simp only [List.getD, List.getElem?_eq_getElem hz, List.getElem?_eq_getElem hy, Option.getD_some] at e
  rw [e]
theorem sEqualInts_any (B B' : Nat) (A A' : Option Addr) (n c m c' : Nat) (zs ys : List Int) (w : World) (h : Rd .i64 w B A n zs) (h' : Rd .i64 w B' A' m ys) (hn : n ≤ 1099511627776) :
    Calls Tryz.prog 46 #[.slice A n c, .slice A' m c'] w fun e w' => e = .returned (.bool (decide (zs = ys))) ∧ Same w w' := by
  have hl := h.len
  have hl' := h'.len
  by_cases hnm : n = m
  · subst hnm
    go_enter Tryz.func46, Tryz.ntmps46
    go_wp2
    go_loopw [5] (fun i wr => ∃ j : Nat, j ≤ n ∧ i = .int .i64 j ∧ zs.take j = ys.take j ∧ Same w wr) (fun i _ => n - (intOf i).toNat)
    case atStart => exact ⟨0, by omega, rfl, by simp, Same.refl _⟩
    case round =>
      obtain ⟨j, hj, rfl, ht, hsm⟩ := hrel
      have HT := Lib.hid ht
      have HL := Lib.hid hl
      have HL' := Lib.hid hl'
      have HS := Lib.hid hsm
      by_cases hjn : j < n
      · obtain ⟨b, off, rfl, _, hcj⟩ := (h.same hsm).cell_at hjn
        obtain ⟨b', off', rfl, _, hcj'⟩ := (h'.same hsm).cell_at hjn
        generalize hz : zs.getD j 0 = z at hcj
        generalize hy : ys.getD j 0 = y at hcj'
        have HZ := Lib.hid hz
        have HY := Lib.hid hy
        clear h h' hsm ht hl hl' hz hy
        by_cases hzy : z = y
        · subst hzy
          go_wp2
          go_region
          all_goals (try go_wp2)
          go_roundw
          case rel => exact ⟨j + 1, by omega, by go_num, take_eq_step (by have := HL.out; omega) (by have := HL'.out; omega) HT.out (HZ.out.trans HY.out.symm), HS.out.drew⟩
          case measure => simp [intOf]; omega
        · have hd : decide (zs = ys) = false := decide_eq_false fun e => hzy (by rw [← HZ.out, ← HY.out, e])
          have HD := Lib.hid hd
          clear hd
          go_wp2
          go_region
          all_goals (try go_wp2)
          go_ret
          rw [HD.out]
          exact ⟨rfl, HS.out.drew⟩
      · have e : zs = ys := by
          have e1 : zs.take j = zs := List.take_of_length_le (by omega)
          have e2 : ys.take j = ys := List.take_of_length_le (by omega)
          rw [← e1, ← e2, ht]
        subst e
        clear h h' hsm ht hl hl'
        go_wp2
        go_ret
        exact ⟨by simp, HS.out⟩
  · have hd : decide (zs = ys) = false := decide_eq_false fun e => hnm (by rw [← hl, ← hl', e])
    have HD := Lib.hid hd
    clear hd h h' hl hl'
    go_enter Tryz.func46, Tryz.ntmps46
    go_wp2
    go_ret
    rw [HD.out]
    exact ⟨rfl, Same.refl _⟩
end Go.Proofs.YthhmhcmlbpdlbaaGreat.C03D
namespace Go.Proofs.YthhmhcmlbpdlbaaGreat.C03B
open Go.RowKit Mem M02 C01 C02 C02B M03 C03S C03D T01
set_option linter.unusedVariables false
set_option maxRecDepth 8000
/-- 'make([]T, 0, n)' -/
theorem wp_make0 {k : IntKind} (hk : BI k) {w : World} {ops : Array Oper} {rest : List Oper} {o : Oper} {a : Act} {Q : Exit → Act → World → Prop} (hgd : o.guard = none) (l c : Operand) (ho : o.op = Op.makeSlice (sty k) l c)
    {n : Nat} {C : Int} (hl : a.eval l = .int .i64 0) (hc : a.eval c = .int .i64 C) (hC : C = (n : Int)) (hb : n ≤ 8796093022208)
    (hK : ∀ w', Own k w' w.heap.size w'.heap.size (some ⟨w.heap.size, 0, none⟩) 0 n [] → Below w.heap.size w w' → wpList Tryz.prog ops Q rest (a.put o.dst (.slice (some ⟨w.heap.size, 0, none⟩) 0 n)) w') :
    wpList Tryz.prog ops Q (o :: rest) a w := by
  obtain ⟨i, h1, h2, h3, h4⟩ := info_of hk
  have hbb : i.bytes * n ≤ 8 * n := Nat.mul_le_mul_right _ h4
  refine wpList_make_own w hgd l c (sty k) ho w.heap.size (ety k) i (.int k 0) 1 (under_of hk) h1 h2 h3 .i64 .i64 C n hl hc hC (by omega) (by simp only [maxLen]; omega) (Nat.le_refl _) fun w' hown hg => hK w' ⟨by simp, by simp, hown, fun a e => (hown.lt a.block (by injection e with e; subst e; rfl)).2⟩ ((Below.refl _ _).grown hg (Nat.le_refl _) (by simp))
theorem iBytesToInts_any (A : Option Addr) (n c : Nat) (zs : List Int) (w : World) (h : Rd .u8 w w.heap.size A n zs) (hn : n ≤ 1099511627) :
    Calls Tryz.prog 179 #[.slice A n c] w fun e w' => ∃ A' c', e = .returned (.slice A' (n + 1) c') ∧ Own .i64 w' w.heap.size w'.heap.size A' (n + 1) c' (bti zs) ∧ Below w.heap.size w w' := by
  have hl := h.len
  have hni : In .i64 (n : Int) := in_i64 (by omega) (by omega)
  have H := Lib.hid h
  have HL := Lib.hid hl
  clear h hl
  go_enter Tryz.func179, Tryz.ntmps179
  go_wp2_with (first
    | (at_make; refine wp_make0 (k := .i64) (by unfold BI; decide) rfl _ _ rfl (n := n + 1) rfl rfl (by omega) (by omega) ?_; intro w1 hown1 hb1; have HO1 := Lib.hid hown1; have HB1 := Lib.hid hb1; clear hown1 hb1)
    | (at_builtin; refine wp_push (k := .i64) (z := (n : Int)) (by unfold BI; decide) rfl _ _ rfl rfl HO1.out rfl hni (by omega) HB1.out.size ?_; intro A1 c1 w2 hown2 hgr2; have HO2 := Lib.hid hown2; have HB2 := Lib.hid (HB1.out.trans (hgr2.below HB1.out.size HO1.out.ge)); clear hown2 hgr2))
  clear hni
  go_loopw [3, 17] (fun v i wr => ∃ (A1 : Option Addr) (c1 j : Nat), v = .slice A1 (j + 1) c1 ∧ i = .int .i64 j ∧ j ≤ n ∧ Own .i64 wr w.heap.size wr.heap.size A1 (j + 1) c1 ((n : Int) :: zs.take j) ∧ Below w.heap.size w wr) (fun _ i _ => n - (intOf i).toNat)
  case atStart => exact ⟨_, _, 0, rfl, rfl, by omega, by simpa using HO2.out, HB2.out⟩
  case round =>
    obtain ⟨A1, c1, j, rfl, rfl, hj, hown, hbel⟩ := hrel
    have HO := Lib.hid hown
    have HX := Lib.hid hbel
    clear hown hbel
    by_cases hjn : j < n
    · obtain ⟨b, off, rfl, hlt, hc⟩ := (H.out.below HX.out (Nat.le_refl _)).cell_at hjn
      have hz := byt_in H.out.wf (zs.getD j 0) (by have := HL.out; simp [List.getD, List.getElem?_eq_getElem (show j < zs.length by omega)])
      have ht : zs.take (j + 1) = zs.take j ++ [zs.getD j 0] := by
        have := HL.out
        rw [List.take_succ_eq_append_getElem (show j < zs.length by omega)]
        simp [List.getD, List.getElem?_eq_getElem (show j < zs.length by omega)]
      generalize zs.getD j 0 = z at hc hz ht
      have hzi : In .i64 z := in_i64 (by omega) (by omega)
      have HT := Lib.hid ht
      clear ht
      go_wp2_with (at_builtin; refine wp_push (k := .i64) (z := z) (by unfold BI; decide) rfl _ _ rfl rfl HO.out rfl hzi (by omega) HX.out.size ?_; intro A2 c2 w2 hown2 hgr2)
      go_roundw
      case rel => exact ⟨A2, c2, j + 1, rfl, by go_num, by omega, by rw [HT.out]; exact hown2, HX.out.trans (hgr2.below HX.out.size HO.out.ge)⟩
      case measure => simp [intOf]; omega
    · have hj2 : j = n := by omega
      subst hj2
      have e : (j : Int) :: zs.take j = bti zs := by
        have := HL.out
        rw [← this, List.take_length]
        rfl
      have HE := Lib.hid e
      clear e
      go_wp2
      go_ret
      rw [← HE.out]
      exact ⟨_, _, rfl, HO.out, HX.out⟩
end Go.Proofs.YthhmhcmlbpdlbaaGreat.C03B
namespace Go.Proofs.YthhmhcmlbpdlbaaGreat.C03H
open Go.RowKit Mem M02 C01 C02 C02B M03 C03S C03D T01
set_option linter.unusedVariables false
theorem fold_succ {a : Int} {l : List Int} {j : Nat} (hj : j < l.length) : (l.take (j + 1)).foldl hstep a = hstep ((l.take j).foldl hstep a) (l.getD j 0) := by
  rw [List.take_succ_eq_append_getElem hj, List.foldl_append]
  simp [List.getD, List.getElem?_eq_getElem hj]
theorem iFold_any (B : Nat) (A : Option Addr) (n c : Nat) (zs : List Int) (a : Int) (w : World) (h : Rd .i64 w B A n zs) (hn : n ≤ 1099511627776) (ha0 : 0 ≤ a) (ha1 : a < 2147483647) :
    Calls Tryz.prog 93 #[.int .i64 a, .slice A n c] w fun e w' => e = .returned (.int .i64 (zs.foldl hstep a)) ∧ w = w' := by
  have hl := h.len
  go_enter Tryz.func93, Tryz.ntmps93
  go_wp2
  go_loop [0, 9] (fun d i => ∃ (j : Nat) (x : Int), j ≤ n ∧ i = .int .i64 j ∧ d = .int .i64 x ∧ 0 ≤ x ∧ x < 2147483647 ∧ x = (zs.take j).foldl hstep a) (fun _ i => n - (intOf i).toNat)
  case atStart => exact ⟨0, a, by omega, rfl, rfl, by omega, by omega, rfl⟩
  case round =>
    obtain ⟨j, x, hj, rfl, rfl, hx0, hx1, hx⟩ := hrel
    have HX := Lib.hid hx
    have HL := Lib.hid hl
    clear hx hl
    by_cases hjn : j < n
    · obtain ⟨b, off, rfl, _, hc⟩ := h.cell_at hjn
      have hs := fold_succ (a := a) (l := zs) (j := j) (by have := HL.out; omega)
      rw [← HX.out] at hs
      generalize zs.getD j 0 = z at hc hs
      obtain ⟨y, hy⟩ : ∃ y : Int, z % 2147483647 = y := ⟨_, rfl⟩
      have hy0 : 0 ≤ y := by omega
      have hy1 : y < 2147483647 := by omega
      have hM := iMod_any z 2147483647 w
      rw [modQ_M, hy] at hM
      have HM := Lib.hid hM
      unfold hstep at hs
      rw [hy] at hs
      have HS := Lib.hid hs
      clear hy hs hM h
      go_wp2_with fail
      refine HM.out.mono ?_
      rintro e w2 ⟨rfl, rfl⟩
      go_wp2
      go_round
      case rel => exact ⟨j + 1, _, by omega, by go_num, rfl, Int.emod_nonneg _ (by omega), Int.emod_lt_of_pos _ (by omega), HS.out.symm⟩
      case measure => simp [intOf]; omega
    · have e : zs.take j = zs := List.take_of_length_le (by have := HL.out; omega)
      have h2 := HX.out
      rw [e] at h2
      subst h2
      clear h e
      go_wp2
      go_ret
      exact ⟨rfl, rfl⟩
theorem iHash_any (A : Option Addr) (n c : Nat) (zs : List Int) (w : World) (h : Rd .i64 w w.heap.size A n zs) (hn : n ≤ 1099511627776) :
    Calls Tryz.prog 49 #[.slice A n c] w fun e w' => e = .returned (.int .i64 (hsh zs)) ∧ Below w.heap.size w w' := by
  have HF := Lib.hid (iFold_any _ A n c zs 11 w h hn (by omega) (by omega))
  clear h
  go_enter Tryz.func49, Tryz.ntmps49
  go_wp2_with fail
  refine HF.out.mono ?_
  rintro e w2 ⟨rfl, rfl⟩
  go_wp2
  go_ret
  exact ⟨rfl, Below.refl _ _⟩
theorem iKeyedHash_any (A : Option Addr) (k : Int) (n c : Nat) (zs : List Int) (w : World) (h : Rd .i64 w w.heap.size A n zs) (hn : n ≤ 1099511627) (hk0 : -9223372036854775808 ≤ k) (hk1 : k ≤ 9223372036854775807) :
    Calls Tryz.prog 154 #[.int .i64 k, .slice A n c] w fun e w' => e = .returned (.int .i64 (kh k zs)) ∧ Below w.heap.size w w' := by
  have hki := in_i64 hk0 hk1
  have hf1 := hstep_range 11 k
  have hf2 := foldl_range zs (hstep 11 k) hf1
  have he : kh k zs = hstep (zs.foldl hstep (hstep 11 k)) k := by
    unfold kh hsh
    simp only [List.foldl_cons, List.foldl_append, List.foldl_nil]
  have HF1 := Lib.hid (iFold_any _ (some ⟨w.heap.size, 0, none⟩) 1 1 [k] 11 (w.alloc (.cells #[.int .i64 k] 3)) (rd_new .i64 w hki) (by omega) (by omega) (by omega))
  have HF2 := Lib.hid (iFold_any _ A n c zs (hstep 11 k) (w.alloc (.cells #[.int .i64 k] 3)) (h.alloc (Nat.le_refl _) _) (by omega) hf1.1 hf1.2)
  have HF3 := Lib.hid (iFold_any _ (some ⟨w.heap.size + 1, 0, none⟩) 1 1 [k] (zs.foldl hstep (hstep 11 k)) ((w.alloc (.cells #[.int .i64 k] 3)).alloc (.cells #[.int .i64 k] 3)) (show Rd .i64 ((w.alloc (.cells #[.int .i64 k] 3)).alloc (.cells #[.int .i64 k] 3)) (w.heap.size + 1 + 1) (some ⟨w.heap.size + 1, 0, none⟩) 1 [k] by have := rd_new .i64 (w.alloc (.cells #[.int .i64 k] 3)) hki; simpa [ety] using this) (by omega) hf2.1 hf2.2)
  simp only [List.foldl_cons, List.foldl_nil] at HF1 HF3
  rw [he]
  generalize hstep (zs.foldl hstep (hstep 11 k)) k = r3 at HF3 ⊢
  generalize zs.foldl hstep (hstep 11 k) = r2 at HF2 HF3
  generalize hstep 11 k = r1 at HF1 HF2
  clear h hf1 hf2 he hki
  go_enter Tryz.func154, Tryz.ntmps154
  go_wp2_with fail
  refine HF1.out.mono ?_
  rintro e w2 ⟨rfl, rfl⟩
  go_wp2_with fail
  refine HF2.out.mono ?_
  rintro e w2 ⟨rfl, rfl⟩
  go_wp2_with fail
  refine HF3.out.mono ?_
  rintro e w2 ⟨rfl, rfl⟩
  go_wp2
  go_ret
  exact ⟨rfl, ((Below.refl _ w).alloc (Nat.le_refl _) _).alloc (by simp) _⟩
end Go.Proofs.YthhmhcmlbpdlbaaGreat.C03H
