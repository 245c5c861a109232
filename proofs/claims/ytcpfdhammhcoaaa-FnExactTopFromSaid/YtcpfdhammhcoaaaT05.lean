/- The laws' own helpers on slices of strings: marking, and looking for marks. -/
import Derived.Test.YtcpfdhammhcoaaaT04
import Derived.Test.YtcpfdhammhcoaaaC02B
import Derived.Deep.RegionHeld3
namespace Go.Proofs.Ytcpfdhammhcoaaa.T05
open Go.RowKit Mem MemS M02 M04 C02 C02B C03D T01
set_option linter.unusedVariables false
set_option maxRecDepth 100000
/-- the decimal digits, as bytes -/
def dgL (n : Nat) : List Int := if n = 0 then [] else dgL (n / 10) ++ [48 + (n : Int) % 10]
termination_by n
decreasing_by omega
theorem dgL_zero : dgL 0 = [] := by rw [dgL]; simp
theorem dgL_pos {n : Nat} (h : 0 < n) : dgL n = dgL (n / 10) ++ [48 + (n : Int) % 10] := by rw [dgL, if_neg (by omega)]
theorem dgL_byt : ∀ n : Nat, Byt (dgL n) := by
  intro n
  induction n using Nat.strongRecOn with
  | _ n ih =>
    rcases Nat.eq_zero_or_pos n with h | h
    · subst h
      rw [dgL_zero]
      intro z hz
      cases hz
    · rw [dgL_pos h]
      intro z hz
      rcases List.mem_append.1 hz with hz | hz
      · exact ih _ (by omega) z hz
      · rw [List.mem_singleton.1 hz]
        omega
theorem dgL_len : ∀ (m n : Nat), n < 10 ^ m → (dgL n).length ≤ m := by
  intro m
  induction m with
  | zero =>
    intro n h
    have : n = 0 := by simpa using h
    subst this
    rw [dgL_zero]
    simp
  | succ m ih =>
    intro n h
    rcases Nat.eq_zero_or_pos n with h0 | h0
    · subst h0
      rw [dgL_zero]
      simp
    · rw [dgL_pos h0]
      have := ih (n / 10) (by rw [Nat.pow_succ] at h; omega)
      simp
      exact this
def mkT (k : Int) : ByteArray := strOfNums (109 :: (if k ≤ 0 then [48] else dgL k.toNat))
theorem mkT_byt (k : Int) : Byt (109 :: (if k ≤ 0 then [48] else dgL k.toNat)) := by
  intro z hz
  rcases List.mem_cons.1 hz with rfl | hz
  · omega
  · split at hz
    · rw [List.mem_singleton.1 hz]
      omega
    · exact dgL_byt _ z hz
theorem mkT_size (k : Int) (hk : k ≤ 2305843009213693952) : (mkT k).size ≤ 21 := by
  unfold mkT
  rw [strOf_size]
  split
  · simp
  · have := dgL_len 19 k.toNat (by omega)
    simp
    omega
theorem nums_app (a b : ByteArray) : nums (a ++ b) = nums a ++ nums b := by
  unfold nums
  rw [ByteArray.data_append, Array.toList_append, List.map_append]
theorem str_ext {a b : ByteArray} (h : nums a = nums b) : a = b := by rw [← strOf_nums a, h, strOf_nums]
theorem in_dig (m : Nat) : In .u8 (48 + (m : Int) % 10) := in_u8 (by omega) (by omega)
theorem markText_any (k : Int) (w : World) (hk : k ≤ 2305843009213693952) :
    Calls Try.prog 56 #[.int .i64 k] w fun e w' => e = .returned (.string (mkT k)) ∧ Below w.heap.size w w' := by
  by_cases hk0 : k ≤ 0
  · have e : mkT k = ⟨#[109, 48]⟩ := by
      apply str_ext
      unfold mkT
      rw [nums_strOf (mkT_byt k), if_pos hk0]
      rfl
    rw [e]
    clear e
    go_enter Try.func56, Try.ntmps56
    go_wp2
    go_ret
    exact ⟨rfl, Below.refl _ _⟩
  · obtain ⟨n, rfl⟩ : ∃ n : Nat, k = n := ⟨k.toNat, by omega⟩
    have e : ∀ o : ByteArray, nums o = dgL n → mkT n = ⟨#[109]⟩ ++ o := fun o ho => by
      apply str_ext
      unfold mkT
      rw [nums_strOf (mkT_byt n), if_neg hk0, nums_app, ho]
      rfl
    have hz := mkT_size n hk
    have HE := Lib.hid e
    have HZ := Lib.hid hz
    clear e hz
    go_enter Try.func56, Try.ntmps56
    go_wp2
    go_loopw [0, 3] (fun q v wr => ∃ (m : Nat) (o : ByteArray), q = .int .i64 m ∧ v = .string o ∧ m ≤ n ∧ dgL m ++ nums o = dgL n ∧ Below w.heap.size w wr) (fun q _ _ => (intOf q).toNat)
    case atStart => exact ⟨n, .empty, rfl, rfl, by omega, by simp [nums], Below.refl _ _⟩
    case round =>
      obtain ⟨m, o, rfl, rfl, hm, hd, hb⟩ := hrel
      have hlen : o.size ≤ 20 := by
        have h1 := dgL_len 19 n (by omega)
        have h2 := congrArg List.length hd
        rw [List.length_append, nums_len] at h2
        omega
      have HB := Lib.hid hb
      clear hb
      by_cases hm0 : 0 < m
      · have hin := in_dig m
        have hcv : (convert 22 9 (.slice (some ⟨wr.heap.size, 0, none⟩) 1 1)).run Try.prog (wr.alloc (.cells #[.int .u8 (48 + (m : Int) % 10)] 5)) = .ok (.string (strOfNums [48 + (m : Int) % 10])) (wr.alloc (.cells #[.int .u8 (48 + (m : Int) % 10)] 5)) := conv_str (rd_new .u8 wr hin) 1
        have hd2 : dgL (m / 10) ++ nums (strOfNums [48 + (m : Int) % 10] ++ o) = dgL n := by
          rw [nums_app, nums_strOf (by intro z hz; rw [List.mem_singleton.1 hz]; omega), ← List.append_assoc, ← dgL_pos hm0]
          exact hd
        have hs1 : (strOfNums [48 + (m : Int) % 10]).size = 1 := strOf_size _
        have HD := Lib.hid hd2
        clear hd hd2
        go_wp2
        go_roundw
        case rel => exact ⟨m / 10, _, by go_num, rfl, by omega, HD.out, HB.out.alloc HB.out.size _⟩
        case measure => simp [intOf]; omega
      · obtain rfl : m = 0 := by omega
        rw [dgL_zero, List.nil_append] at hd
        have HE2 := Lib.hid (HE.out o hd)
        clear hd
        go_wp2
        go_ret
        exact ⟨by rw [HE2.out]; rfl, HB.out⟩
theorem below_drew {w w7 : World} (h : Below w.drew.heap.size w.drew w7) : Below w.heap.size w w7 := (Below.refl _ _).drew.trans h
def marksS (k : Int) (n : Nat) : List ByteArray := (List.range n).map fun (i : Nat) => mkT (k + (i : Int))
theorem marksS_len (k : Int) (n : Nat) : (marksS k n).length = n := by simp [marksS]
theorem marksS_get (k : Int) {n j : Nat} (hj : j < n) : (marksS k n).getD j .empty = mkT (k + (j : Int)) := by simp [marksS, List.getD, hj]
theorem marksS_set (k : Int) {n j : Nat} {zs : List ByteArray} (hl : zs.length = n) (hj : j < n) : (marksS k j ++ zs.drop j).set j (mkT (k + (j : Int))) = marksS k (j + 1) ++ zs.drop (j + 1) := by
  have hm := marksS_len k j
  rw [List.set_append_right _ _ (by omega), hm, Nat.sub_self, List.drop_eq_getElem_cons (show j < zs.length by omega), List.set_cons_zero]
  rw [show marksS k (j + 1) = marksS k j ++ [mkT (k + (j : Int))] by simp [marksS, List.range_succ]]
  simp
theorem marksS_end {k : Int} {n : Nat} {zs : List ByteArray} (hl : zs.length = n) : marksS k n ++ zs.drop n = marksS k n := by
  subst hl
  simp
theorem markStringS_any (lo hi : Nat) (A : Option Addr) (n c : Nat) (zs : List ByteArray) (k : Int) (w : World) (h : OwnS w lo hi A n c zs) (hn : n ≤ 1099511627776) (hk0 : 0 ≤ k) (hk1 : k ≤ 1152921504606846976) :
    Calls Try.prog 57 #[.slice A n c, .int .i64 k] w fun e w' => e = .returned (.int .i64 (k + n)) ∧ OwnS w' lo hi A n c (marksS k n) ∧ Fr lo hi w w' := by
  have HL := Lib.hid h.len
  have hhi : hi ≤ hi := Nat.le_refl _
  go_enter Try.func57, Try.ntmps57
  go_wp2
  go_loopw [1, 5] (fun q i wr => ∃ j : Nat, j ≤ n ∧ i = .int .i64 j ∧ q = .int .i64 (k + j) ∧ OwnS wr lo hi A n c (marksS k j ++ zs.drop j) ∧ Fr lo hi w wr) (fun _ i _ => n - (intOf i).toNat)
  case atStart => exact ⟨0, by omega, rfl, by simp, by simpa [marksS] using h, Fr.refl _ _ _⟩
  case round =>
    obtain ⟨j, hj, rfl, rfl, hown, hfr⟩ := hrel
    have HR := Lib.hid hown
    have HX := Lib.hid hfr
    clear hown hfr
    by_cases hjn : j < n
    · have hz := mkT_size (k + (j : Int)) (by omega)
      have hM := fun w => markText_any (k + (j : Int)) w (by omega)
      have HS := Lib.hid (marksS_set k HL.out hjn)
      have hInS : InS (mkT (k + (j : Int))) := by unfold InS maxLen; omega
      generalize mkT (k + (j : Int)) = t at hM hInS HS hz
      have HM := Lib.hid hM
      clear hM h
      go_wp2_with fail
      refine (HM.out _).mono ?_
      rintro e w1 ⟨rfl, hb1⟩
      obtain ⟨g, rfl, hg1, hg2, hcg, hfg, hset⟩ := (HR.out.keep fun i h0 _ _ => hb1.block i h0 : OwnS w1 lo hi A n c _).set hjn t hInS
      rw [HS.out] at hset
      have HO := Lib.hid hset
      have HX1 := Lib.hid (HX.out.trans (Fr.of_new hb1 lo hi))
      clear hset hb1
      go_wp2
      go_roundw
      case rel => exact ⟨j + 1, by omega, by go_num, by go_num, HO.out, HX1.out.setCell hg1 hg2 _ _⟩
      case measure => simp [intOf]; omega
    · obtain rfl : j = n := by omega
      have hf := HR.out
      rw [marksS_end HL.out] at hf
      have HF := Lib.hid hf
      clear hf h
      go_wp2
      go_ret
      exact ⟨rfl, HF.out, HX.out⟩
end Go.Proofs.Ytcpfdhammhcoaaa.T05
