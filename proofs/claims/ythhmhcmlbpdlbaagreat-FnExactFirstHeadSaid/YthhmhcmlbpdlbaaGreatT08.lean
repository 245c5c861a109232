/- The law's own helpers on slices of strings: a copy, a comparison, counting what they hold. The laws' own helpers on slices of strings: marking, and looking for marks. The laws' own helpers on entries. -/
import Derived.Test.YthhmhcmlbpdlbaaGreatMem
import Derived.Test.YthhmhcmlbpdlbaaGreatM05
import Derived.Test.YthhmhcmlbpdlbaaGreatT01
import Derived.Test.YthhmhcmlbpdlbaaGreatC02B
import Derived.Deep.RegionHeld3
import Derived.Test.YthhmhcmlbpdlbaaGreatM08
namespace Go.Proofs.YthhmhcmlbpdlbaaGreat.T04
open Go.RowKit Mem MemS M04 T01
set_option linter.unusedVariables false
set_option maxRecDepth 100000
theorem copy_setG {α : Type} {d : α} {n j : Nat} {zs : List α} (hl : zs.length = n) (hj : j < n) : (zs.take j ++ List.replicate (n - j) d).set j (zs.getD j d) = zs.take (j + 1) ++ List.replicate (n - (j + 1)) d := by
  have hm : (zs.take j).length = j := by simp; omega
  rw [List.set_append_right _ _ (by omega), hm, Nat.sub_self]
  rw [show n - j = (n - (j + 1)) + 1 by omega, List.replicate_succ, List.set_cons_zero, List.take_succ_eq_append_getElem (show j < zs.length by omega)]
  simp only [List.getD, List.getElem?_eq_getElem (show j < zs.length by omega), Option.getD_some, List.append_assoc, List.cons_append, List.nil_append]
theorem eqStringS_same (B B' : Nat) (A A' : Option Addr) (n c c' : Nat) (zs : List ByteArray) (w : World) (h : RdS w B A n zs) (h' : RdS w B' A' n zs) (hn : n ≤ 1099511627776) :
    Calls Tryz.prog 104 #[.slice A n c, .slice A' n c'] w fun e w' => e = .returned (.bool true) ∧ Same w w' := by
  go_enter Tryz.func104, Tryz.ntmps104
  go_wp2
  go_loopw [5] (fun i wr => ∃ j : Nat, j ≤ n ∧ i = .int .i64 j ∧ Same w wr) (fun i _ => n - (intOf i).toNat)
  case atStart => exact ⟨0, by omega, rfl, Same.refl _⟩
  case round =>
    obtain ⟨j, hj, rfl, hsm⟩ := hrel
    by_cases hjn : j < n
    · obtain ⟨b, off, rfl, _, hcj⟩ := (h.same hsm).cell_at hjn
      obtain ⟨b', off', rfl, _, hcj'⟩ := (h'.same hsm).cell_at hjn
      generalize zs.getD j .empty = z at hcj hcj'
      have HS := Lib.hid hsm
      clear h h' hsm
      go_wp2
      go_region
      all_goals (try go_wp2)
      go_roundw
      case rel => exact ⟨j + 1, by omega, by go_num, HS.out.drew⟩
      case measure => simp [intOf]; omega
    · clear h h'
      go_wp2
      go_ret
      exact ⟨rfl, hsm⟩
theorem toStringS_any (A : Option Addr) (n c : Nat) (zs : List ByteArray) (w : World) (h : RdS w w.heap.size A n zs) (hn : n ≤ 1099511627776) :
    Calls Tryz.prog 103 #[.slice A n c] w fun e w' => ∃ A' c', e = .returned (.slice A' n c') ∧ OwnS w' w.heap.size w'.heap.size A' n c' zs ∧ Below w.heap.size w w' := by
  have hl := h.len
  go_enter Tryz.func103, Tryz.ntmps103
  go_wp2_with (first | (at_make; refine wp_makeS rfl _ _ rfl rfl rfl (by omega) ?_; intro w1 hown1 hb1) | go_in)
  have HB := Lib.hid hb1
  clear hb1
  go_loopw [4] (fun i wr => ∃ j : Nat, j ≤ n ∧ i = .int .i64 j ∧ OwnS wr w.heap.size wr.heap.size (some ⟨w.heap.size, 0, none⟩) n n (zs.take j ++ List.replicate (n - j) ByteArray.empty) ∧ Below w.heap.size w wr) (fun i _ => n - (intOf i).toNat)
  case atStart => exact ⟨0, by omega, rfl, by simpa using hown1, HB.out⟩
  case round =>
    obtain ⟨j, hj, rfl, hown, hbel⟩ := hrel
    by_cases hjn : j < n
    · obtain ⟨b, off, rfl, hlt, hc⟩ := h.cells (by omega)
      obtain ⟨z, hz⟩ : ∃ z, z = zs.getD j .empty := ⟨_, rfl⟩
      have hcj : wr.cell? ⟨b, off + j, none⟩ = some (.string z) := hz ▸ (hbel.cell (p := ⟨b, off + j, none⟩) hlt).trans (hc j hjn)
      obtain ⟨g, e, hg1, hg2, hcg, hfg, hset⟩ := hown.set hjn z (hz ▸ getD_inS h.wf (by omega))
      rw [hz, copy_setG hl hjn, ← hz] at hset
      have HO := Lib.hid hset
      have HH := Lib.hid hg1
      have HX := Lib.hid hbel
      clear hset hown hc hbel h hl hz hg1 hg2
      injection e with e
      injection e with e
      subst e
      go_wp2
      go_roundw
      case rel =>
        exact ⟨j + 1, by omega, by go_num, HO.out.top, HX.out.setCell (p := ⟨w.heap.size, j, none⟩) (Nat.le_refl _) _⟩
      case measure => simp [intOf]; omega
    · have e : zs.take j ++ List.replicate (n - j) ByteArray.empty = zs := by
        have : j = n := by omega
        subst this
        rw [← hl]
        simp
      rw [e] at hown
      clear e hl h
      go_wp2
      go_ret
      exact ⟨_, _, rfl, hown, hbel⟩
theorem szStringS_any (B : Nat) (A : Option Addr) (n c : Nat) (ss : List ByteArray) (q : Int) (w : World) (h : RdS w B A n ss) (hq0 : 0 ≤ q) (hq1 : q ≤ 1048576) (hn : n ≤ maxLen) :
    Calls Tryz.prog 102 #[.slice A n c, .int .i64 q] w fun e w' => e = .returned (.int .i64 (szS q ss)) ∧ w = w' := by
  have hl := h.len
  unfold maxLen at hn
  by_cases h0 : q - n < 0
  · have e : szS q ss = -1 := by unfold szS; rw [hl, if_pos h0]
    rw [e]
    clear e h hl
    go_enter Tryz.func102, Tryz.ntmps102
    go_wp2
    go_ret
    exact ⟨rfl, rfl⟩
  · have e : szS q ss = szGo (q - n) ss := by unfold szS; rw [hl, if_neg h0]
    rw [e]
    have HL := Lib.hid hl
    have H := Lib.hid h
    clear e h hl
    go_enter Tryz.func102, Tryz.ntmps102
    go_wp2
    go_loop [1, 5] (fun x i => ∃ (j : Nat) (p : Int), j ≤ n ∧ i = .int .i64 j ∧ x = .int .i64 p ∧ 0 ≤ p ∧ p ≤ q ∧ szGo p (ss.drop j) = szGo (q - n) ss) (fun _ i => n - (intOf i).toNat)
    case atStart => exact ⟨0, q - n, by omega, rfl, by go_num, by omega, by omega, rfl⟩
    case round =>
      obtain ⟨j, p, hj, rfl, rfl, hp0, hp1, hs⟩ := hrel
      by_cases hjn : j < n
      · obtain ⟨b, off, rfl, _, hc⟩ := H.out.cell_at hjn
        have hjl : j < ss.length := by rw [HL.out]; exact hjn
        have hin : (ss.getD j .empty).size ≤ maxLen := getD_inS H.out.wf hjl
        rw [drop_step hjl, szGo] at hs
        generalize ss.getD j .empty = s at hc hs hin
        unfold maxLen at hin
        by_cases hneg : p - s.size < 0
        · rw [if_pos hneg] at hs
          have HS := Lib.hid hs
          clear hs hjl
          go_wp2
          go_ret
          exact ⟨by rw [← HS.out]; rfl, rfl⟩
        · rw [if_neg hneg] at hs
          have HS := Lib.hid hs
          clear hs hjl
          go_wp2
          go_round
          case rel => exact ⟨j + 1, p - s.size, by omega, by go_num, by go_num, by omega, by omega, HS.out⟩
          case measure => simp [intOf]; omega
      · rw [List.drop_eq_nil_of_le (by rw [HL.out]; omega), szGo] at hs
        have HS := Lib.hid hs
        clear hs
        go_wp2
        go_ret
        exact ⟨by rw [← HS.out]; rfl, rfl⟩
end Go.Proofs.YthhmhcmlbpdlbaaGreat.T04
namespace Go.Proofs.YthhmhcmlbpdlbaaGreat.T05
open Go.RowKit Mem MemS M02 M04 C02 C02B C03D T01
set_option linter.unusedVariables false
set_option maxRecDepth 100000
/-- the decimal digits, as bytes -/
def dgL (n : Nat) : List Int := if n = 0 then [] else dgL (n / 10) ++ [48 + (n : Int) % 10]
termination_by n
decreasing_by omega
theorem dgL_zero : dgL 0 = [] := by rw [dgL]; simp
theorem dgL_pos {n : Nat} (h : 0 < n) : dgL n = dgL (n / 10) ++ [48 + (n : Int) % 10] := by rw [dgL, if_neg (by omega)]
theorem dgL_byt : ∀ n : Nat, Byt (dgL n) := by
  intro n
  induction n using Nat.strongRecOn with
  | _ n ih =>
    rcases Nat.eq_zero_or_pos n with h | h
    · subst h
      rw [dgL_zero]
      intro z hz
      cases hz
    · rw [dgL_pos h]
      intro z hz
      rcases List.mem_append.1 hz with hz | hz
      · exact ih _ (by omega) z hz
      · rw [List.mem_singleton.1 hz]
        omega
theorem dgL_len : ∀ (m n : Nat), n < 10 ^ m → (dgL n).length ≤ m := by
  intro m
  induction m with
  | zero =>
    intro n h
    have : n = 0 := by simpa using h
    subst this
    rw [dgL_zero]
    simp
  | succ m ih =>
    intro n h
    rcases Nat.eq_zero_or_pos n with h0 | h0
    · subst h0
      rw [dgL_zero]
      simp
    · rw [dgL_pos h0]
      have := ih (n / 10) (by rw [Nat.pow_succ] at h; omega)
      simp
      exact this
def mkT (k : Int) : ByteArray := strOfNums (109 :: (if k ≤ 0 then [48] else dgL k.toNat))
theorem mkT_byt (k : Int) : Byt (109 :: (if k ≤ 0 then [48] else dgL k.toNat)) := by
  intro z hz
  rcases List.mem_cons.1 hz with rfl | hz
  · omega
  · split at hz
    · rw [List.mem_singleton.1 hz]
      omega
    · exact dgL_byt _ z hz
theorem mkT_size (k : Int) (hk : k ≤ 2305843009213693952) : (mkT k).size ≤ 21 := by
  unfold mkT
  rw [strOf_size]
  split
  · simp
  · have := dgL_len 19 k.toNat (by omega)
    simp
    omega
theorem nums_app (a b : ByteArray) : nums (a ++ b) = nums a ++ nums b := by
  unfold nums
  rw [ByteArray.data_append, Array.toList_append, List.map_append]
theorem str_ext {a b : ByteArray} (h : nums a = nums b) : a = b := by rw [← strOf_nums a, h, strOf_nums]
theorem in_dig (m : Nat) : In .u8 (48 + (m : Int) % 10) := in_u8 (by omega) (by omega)
theorem markText_any (k : Int) (w : World) (hk : k ≤ 2305843009213693952) :
    Calls Tryz.prog 65 #[.int .i64 k] w fun e w' => e = .returned (.string (mkT k)) ∧ Below w.heap.size w w' := by
  by_cases hk0 : k ≤ 0
  · have e : mkT k = ⟨#[109, 48]⟩ := by
      apply str_ext
      unfold mkT
      rw [nums_strOf (mkT_byt k), if_pos hk0]
      rfl
    rw [e]
    clear e
    go_enter Tryz.func65, Tryz.ntmps65
    go_wp2
    go_ret
    exact ⟨rfl, Below.refl _ _⟩
  · obtain ⟨n, rfl⟩ : ∃ n : Nat, k = n := ⟨k.toNat, by omega⟩
    have e : ∀ o : ByteArray, nums o = dgL n → mkT n = ⟨#[109]⟩ ++ o := fun o ho => by
      apply str_ext
      unfold mkT
      rw [nums_strOf (mkT_byt n), if_neg hk0, nums_app, ho]
      rfl
    have hz := mkT_size n hk
    have HE := Lib.hid e
    have HZ := Lib.hid hz
    clear e hz
    go_enter Tryz.func65, Tryz.ntmps65
    go_wp2
    go_loopw [0, 3] (fun q v wr => ∃ (m : Nat) (o : ByteArray), q = .int .i64 m ∧ v = .string o ∧ m ≤ n ∧ dgL m ++ nums o = dgL n ∧ Below w.heap.size w wr) (fun q _ _ => (intOf q).toNat)
    case atStart => exact ⟨n, .empty, rfl, rfl, by omega, by simp [nums], Below.refl _ _⟩
    case round =>
      obtain ⟨m, o, rfl, rfl, hm, hd, hb⟩ := hrel
      have hlen : o.size ≤ 20 := by
        have h1 := dgL_len 19 n (by omega)
        have h2 := congrArg List.length hd
        rw [List.length_append, nums_len] at h2
        omega
      have HB := Lib.hid hb
      clear hb
      by_cases hm0 : 0 < m
      · have hin := in_dig m
        have hcv : (convert 22 9 (.slice (some ⟨wr.heap.size, 0, none⟩) 1 1)).run Tryz.prog (wr.alloc (.cells #[.int .u8 (48 + (m : Int) % 10)] 5)) = .ok (.string (strOfNums [48 + (m : Int) % 10])) (wr.alloc (.cells #[.int .u8 (48 + (m : Int) % 10)] 5)) := conv_str (rd_new .u8 wr hin) 1
        have hd2 : dgL (m / 10) ++ nums (strOfNums [48 + (m : Int) % 10] ++ o) = dgL n := by
          rw [nums_app, nums_strOf (by intro z hz; rw [List.mem_singleton.1 hz]; omega), ← List.append_assoc, ← dgL_pos hm0]
          exact hd
        have hs1 : (strOfNums [48 + (m : Int) % 10]).size = 1 := strOf_size _
        have HD := Lib.hid hd2
        clear hd hd2
        go_wp2
        go_roundw
        case rel => exact ⟨m / 10, _, by go_num, rfl, by omega, HD.out, HB.out.alloc HB.out.size _⟩
        case measure => simp [intOf]; omega
      · obtain rfl : m = 0 := by omega
        rw [dgL_zero, List.nil_append] at hd
        have HE2 := Lib.hid (HE.out o hd)
        clear hd
        go_wp2
        go_ret
        exact ⟨by rw [HE2.out]; rfl, HB.out⟩
theorem below_drew {w w7 : World} (h : Below w.drew.heap.size w.drew w7) : Below w.heap.size w w7 := (Below.refl _ _).drew.trans h
def marksS (k : Int) (n : Nat) : List ByteArray := (List.range n).map fun (i : Nat) => mkT (k + (i : Int))
theorem marksS_len (k : Int) (n : Nat) : (marksS k n).length = n := by simp [marksS]
theorem marksS_get (k : Int) {n j : Nat} (hj : j < n) : (marksS k n).getD j .empty = mkT (k + (j : Int)) := by simp [marksS, List.getD, hj]
theorem marksS_set (k : Int) {n j : Nat} {zs : List ByteArray} (hl : zs.length = n) (hj : j < n) : (marksS k j ++ zs.drop j).set j (mkT (k + (j : Int))) = marksS k (j + 1) ++ zs.drop (j + 1) := by
  have hm := marksS_len k j
  rw [List.set_append_right _ _ (by omega), hm, Nat.sub_self, List.drop_eq_getElem_cons (show j < zs.length by omega), List.set_cons_zero]
  rw [show marksS k (j + 1) = marksS k j ++ [mkT (k + (j : Int))] by simp [marksS, List.range_succ]]
  simp
theorem marksS_end {k : Int} {n : Nat} {zs : List ByteArray} (hl : zs.length = n) : marksS k n ++ zs.drop n = marksS k n := by
  subst hl
  simp
theorem markStringS_any (lo hi : Nat) (A : Option Addr) (n c : Nat) (zs : List ByteArray) (k : Int) (w : World) (h : OwnS w lo hi A n c zs) (hn : n ≤ 1099511627776) (hk0 : 0 ≤ k) (hk1 : k ≤ 1152921504606846976) :
    Calls Tryz.prog 66 #[.slice A n c, .int .i64 k] w fun e w' => e = .returned (.int .i64 (k + n)) ∧ OwnS w' lo hi A n c (marksS k n) ∧ Fr lo hi w w' := by
  have HL := Lib.hid h.len
  have hhi : hi ≤ hi := Nat.le_refl _
  go_enter Tryz.func66, Tryz.ntmps66
  go_wp2
  go_loopw [1, 5] (fun q i wr => ∃ j : Nat, j ≤ n ∧ i = .int .i64 j ∧ q = .int .i64 (k + j) ∧ OwnS wr lo hi A n c (marksS k j ++ zs.drop j) ∧ Fr lo hi w wr) (fun _ i _ => n - (intOf i).toNat)
  case atStart => exact ⟨0, by omega, rfl, by simp, by simpa [marksS] using h, Fr.refl _ _ _⟩
  case round =>
    obtain ⟨j, hj, rfl, rfl, hown, hfr⟩ := hrel
    have HR := Lib.hid hown
    have HX := Lib.hid hfr
    clear hown hfr
    by_cases hjn : j < n
    · have hz := mkT_size (k + (j : Int)) (by omega)
      have hM := fun w => markText_any (k + (j : Int)) w (by omega)
      have HS := Lib.hid (marksS_set k HL.out hjn)
      have hInS : InS (mkT (k + (j : Int))) := by unfold InS maxLen; omega
      generalize mkT (k + (j : Int)) = t at hM hInS HS hz
      have HM := Lib.hid hM
      clear hM h
      go_wp2_with fail
      refine (HM.out _).mono ?_
      rintro e w1 ⟨rfl, hb1⟩
      obtain ⟨g, rfl, hg1, hg2, hcg, hfg, hset⟩ := (HR.out.keep fun i h0 _ _ => hb1.block i h0 : OwnS w1 lo hi A n c _).set hjn t hInS
      rw [HS.out] at hset
      have HO := Lib.hid hset
      have HX1 := Lib.hid (HX.out.trans (Fr.of_new hb1 lo hi))
      clear hset hb1
      go_wp2
      go_roundw
      case rel => exact ⟨j + 1, by omega, by go_num, by go_num, HO.out, HX1.out.setCell hg1 hg2 _ _⟩
      case measure => simp [intOf]; omega
    · obtain rfl : j = n := by omega
      have hf := HR.out
      rw [marksS_end HL.out] at hf
      have HF := Lib.hid hf
      clear hf h
      go_wp2
      go_ret
      exact ⟨rfl, HF.out, HX.out⟩
end Go.Proofs.YthhmhcmlbpdlbaaGreat.T05
namespace Go.Proofs.YthhmhcmlbpdlbaaGreat.T08
open Go.RowKit Mem MemS Rep R08 T04 T05 M04
set_option linter.unusedVariables false
set_option maxRecDepth 100000
theorem szGo_tot : ∀ (ss : List ByteArray) (q : Int), 0 ≤ q → szGo q ss = if q < ((ss.map ByteArray.size).sum : Int) then -1 else q - ((ss.map ByteArray.size).sum : Int)
  | [], q, h => by
    unfold szGo
    rw [if_neg (by simp; omega)]
    simp
  | s :: r, q, h => by
    unfold szGo
    have e : (((s :: r).map ByteArray.size).sum : Int) = (s.size : Int) + ((r.map ByteArray.size).sum : Int) := by simp
    rw [e]
    have h0 : (0 : Int) ≤ ((r.map ByteArray.size).sum : Int) := Int.natCast_nonneg _
    by_cases h1 : q - s.size < 0
    · rw [if_pos h1, if_pos (by omega)]
    · rw [if_neg h1, szGo_tot r _ (by omega)]
      by_cases h2 : q - s.size < ((r.map ByteArray.size).sum : Int)
      · rw [if_pos h2, if_pos (by omega)]
      · rw [if_neg h2, if_neg (by omega)]
        omega
theorem szS_tot {ss : List ByteArray} {q : Int} (h : 0 ≤ q) : szS q ss = if q < (totSS ss : Int) then -1 else q - (totSS ss : Int) := by
  unfold szS totSS
  have h0 : (0 : Int) ≤ ((ss.map ByteArray.size).sum : Int) := Int.natCast_nonneg _
  have e : ((ss.length + (ss.map ByteArray.size).sum : Nat) : Int) = (ss.length : Int) + ((ss.map ByteArray.size).sum : Int) := by simp
  rw [e]
  by_cases h1 : q - ss.length < 0
  · rw [if_pos h1, if_pos (by omega)]
  · rw [if_neg h1, szGo_tot ss _ (by omega)]
    by_cases h2 : q - ss.length < ((ss.map ByteArray.size).sum : Int)
    · rw [if_pos h2, if_pos (by omega)]
    · rw [if_neg h2, if_neg (by omega)]
      omega
theorem szStrS_any (B : Nat) (A : Option Addr) (n c : Nat) (ss : List ByteArray) (q : Int) (w : World) (h : RdS w B A n ss) (hq0 : 0 ≤ q) (hq1 : q ≤ 1048576) (hn : n ≤ maxLen) :
    Calls Tryz.prog 102 #[.slice A n c, .int .i64 q] w fun e w' => e = .returned (.int .i64 (if q < (totSS ss : Int) then -1 else q - (totSS ss : Int))) ∧ w = w' := by
  rw [← szS_tot hq0]
  exact szStringS_any B A n c ss q w h hq0 hq1 hn
theorem szEntry_any (cs : List Value) (k : Entry) (q : Int) (w : World) (h : REntry.rd w (Lt w.heap.size) cs k) (hq0 : 0 ≤ q) (hq1 : q ≤ 1048576) :
    Calls Tryz.prog 59 #[.agg cs.toArray, .int .i64 q] w fun e w' => e = .returned (.int .i64 (if q < (totEntry k : Int) then -1 else q - (totEntry k : Int))) ∧ Below w.heap.size w w' := by
  obtain ⟨A, n, c, rfl, h0, h1, h2, h3, h4, h5⟩ := REntry_rd.1 h
  obtain ⟨kl, kk, kv, kp⟩ := k
  simp only at h0 h1 h2 h5
  have hkb : kl.size ≤ maxLen := h0
  unfold maxLen at hkb
  unfold totEntry
  simp only
  by_cases hx : q < kl.size
  · rw [if_pos (by omega)]
    have hx1 : q - kl.size < 0 := by omega
    clear h h3 h4 h5
    go_enter Tryz.func59, Tryz.ntmps59
    go_wp2
    go_ret
    exact ⟨rfl, (Below.refl _ _).alloc (Nat.le_refl _) _⟩
  · have hx1 : ¬ q - kl.size < 0 := by omega
    have hS := fun w1 (hr : RdS w1 w.heap.size A n kp) => szStringS_any w.heap.size A n c kp (q - kl.size) w1 hr (by omega) (by omega) (Nat.le_trans h3 h4)
    rw [szS_tot (by omega)] at hS
    have H5 := Lib.hid (h5.alloc (Nat.le_refl _) (.cells #[.string kl, .int .i64 kk, .int .i64 kv, .slice A n c] 82))
    by_cases hy : q - kl.size < (totSS kp : Int)
    · rw [if_pos (by omega)]
      simp only [if_pos hy] at hS
      have HS := Lib.hid hS
      clear hS h h5
      go_enter Tryz.func59, Tryz.ntmps59
      go_wp2_with fail
      refine (HS.out _ H5.out).mono ?_
      rintro e w1 ⟨rfl, rfl⟩
      go_wp2
      go_ret
      exact ⟨rfl, (Below.refl _ _).alloc (Nat.le_refl _) _⟩
    · rw [if_neg (by omega)]
      simp only [if_neg hy] at hS
      have e9 : q - ((kl.size + totSS kp : Nat) : Int) = q - kl.size - (totSS kp : Int) := by omega
      rw [e9]
      have h9 : ¬ q - kl.size - (totSS kp : Int) < 0 := by omega
      have HS := Lib.hid hS
      clear hS h h5 e9
      go_enter Tryz.func59, Tryz.ntmps59
      go_wp2_with fail
      refine (HS.out _ H5.out).mono ?_
      rintro e w1 ⟨rfl, rfl⟩
      go_wp2
      go_ret
      exact ⟨rfl, (Below.refl _ _).alloc (Nat.le_refl _) _⟩
theorem toEntry_any (cs : List Value) (k : Entry) (w : World) (h : REntry.rd w (Lt w.heap.size) cs k) (hn : totEntry k ≤ 1048576) :
    Calls Tryz.prog 61 #[.agg cs.toArray] w fun e w' => ∃ cs', e = .returned (.agg (List.toArray cs')) ∧ OwnI REntry w' w.heap.size w'.heap.size cs' k ∧ Below w.heap.size w w' := by
  obtain ⟨A, n, c, rfl, h0, h1, h2, h3, h4, h5⟩ := REntry_rd.1 h
  obtain ⟨kl, kk, kv, kp⟩ := k
  simp only at h0 h1 h2 h5
  have hl := h5.len
  have hn' : n ≤ 1048576 := by
    have := totSS_len kp
    unfold totEntry at hn
    simp only at hn
    omega
  have H0 := Lib.hid h0
  have H1 := Lib.hid h1
  have H2 := Lib.hid h2
  have H5 := Lib.hid h5
  clear h h3 h4 h5 hl hn h0 h1 h2
  go_enter Tryz.func61, Tryz.ntmps61
  go_wp2_with fail
  refine (toStringS_any A n c kp _ ((((H5.out.alloc (Nat.le_refl _) _).alloc (by simp) _).alloc (by simp; omega) _).more (by simp; omega)) (by omega)).mono ?_
  rintro e w2 ⟨A', c', rfl, hown, hb⟩
  have HB := Lib.hid ((((Below.refl w.heap.size w).alloc (Nat.le_refl _) _).alloc (by simp) _).alloc (by simp; omega) _ |>.trans (hb.mono (by simp; omega)))
  have HO := Lib.hid (hown.base (show w.heap.size + 3 ≤ _ by simp))
  obtain ⟨hc, hf⟩ := bcell hb
  clear hb hown
  go_wp2
  refine bodyPost_ret (v := .agg #[.string kl, .int .i64 kk, .int .i64 kv, .slice A' n c']) (by simp [results, Tryz.results61, go_sem, hc]) rfl ⟨[.string kl, .int .i64 kk, .int .i64 kv, .slice A' n c'], rfl, ?_, ?_⟩
  · refine REntry_own.2 ⟨A', n, c', rfl, H0.out, H1.out, H2.out, ?_⟩
    refine OwnS.base (lo := w.heap.size + 3) (OwnS.top (hi := w2.heap.size) ?_) (by omega)
    repeat refine OwnS.store ?_ _ (.inl (by simp))
    exact HO.out
  · repeat' refine Below.setCell ?_ ?_ _
    all_goals first | exact HB.out | (simp; done) | (simp; omega)
theorem eqEntry_same (B B' : Nat) (cs cs' : List Value) (k : Entry) (w : World) (h : REntry.rd w (Lt B) cs k) (h' : REntry.rd w (Lt B') cs' k) (hB : B ≤ w.heap.size) (hB' : B' ≤ w.heap.size) (hn : totEntry k ≤ 1099511627776) :
    Calls Tryz.prog 63 #[.agg cs.toArray, .agg cs'.toArray] w fun e w' => e = .returned (.bool true) ∧ Below w.heap.size w w' := by
  obtain ⟨A, n, c, rfl, h0, h1, h2, h3, h4, h5⟩ := REntry_rd.1 (REntry.more h fun i hi => Nat.lt_of_lt_of_le hi hB)
  obtain ⟨A', n', c', rfl, h0', h1', h2', h3', h4', h5'⟩ := REntry_rd.1 (REntry.more h' fun i hi => Nat.lt_of_lt_of_le hi hB')
  obtain ⟨kl, kk, kv, kp⟩ := k
  simp only at h5 h5' hn
  have hl := h5.len
  have hl' := h5'.len
  have hnn : n' = n := by omega
  subst hnn
  have hn2 : n' ≤ 1099511627776 := by
    have := totSS_len kp
    unfold totEntry at hn
    simp only at hn
    omega
  have H5 := Lib.hid h5
  have H5' := Lib.hid h5'
  clear h h' h5 h5' hl hl' hn h0 h1 h2 h0' h1' h2' h3 h4 h3' h4'
  go_enter Tryz.func63, Tryz.ntmps63
  go_wp2_with fail
  refine (eqStringS_same _ _ A A' _ c c' kp _ ((H5.out.alloc (Nat.le_refl _) _).alloc (by simp) _) ((H5'.out.alloc (Nat.le_refl _) _).alloc (by simp) _) hn2).mono ?_
  rintro e w2 ⟨rfl, hs⟩
  have HB := Lib.hid (((Below.refl w.heap.size w).alloc (Nat.le_refl _) _).alloc (by simp) _ |>.trans (hs.below _))
  obtain ⟨hc, hf⟩ := bcell (hs.below _)
  clear hs
  go_wp2
  go_ret
  exact ⟨rfl, HB.out⟩
def mkEntry (k : Entry) (q : Int) : Entry := ⟨k.label, k.kind, k.value, marksS q k.path.length⟩
end Go.Proofs.YthhmhcmlbpdlbaaGreat.T08
