/- Chapter 2: what the code's and the model's functions on byte strings return: reading a varint. -/
import Derived.Test.YtppajfaneacchaaC02
namespace Go.Proofs.Ytppajfaneacchaa.C02R
open Go.RowKit Mem M02 C01 C02
set_option linter.unusedVariables false
theorem sReadUvarint_any (B : Nat) (A : Option Addr) (n c : Nat) (zs : List Int) (at_ : Int) (w : World) (h : Rd .u8 w B A n zs) (hn : n ≤ 1099511627776) :
    Calls Try.prog 18 #[.slice A n c, .int .i64 at_] w fun e w' => e = .returned (.tuple #[.int .i64 (rdU zs at_).1, .int .i64 (rdU zs at_).2.1, .bool (rdU zs at_).2.2]) ∧ w = w' := by
  have hl := h.len
  go_enter Try.func18, Try.ntmps18
  go_wp2
  go_loop [7, 8] (fun q i => ∃ k a : Nat, k ≤ 6 ∧ q = .int .i64 a ∧ i = .int .i64 k ∧ a < 128 ^ k ∧ go (zs.drop at_.toNat) 0 0 = go (zs.drop (at_.toNat + k)) k a) (fun _ i => (6 - intOf i).toNat)
  case atStart => exact ⟨0, 0, by omega, rfl, rfl, by omega, rfl⟩
  case round =>
    obtain ⟨k, a, hk, rfl, rfl, ha, hgo⟩ := hrel
    have HG := Lib.hid hgo
    have HL := Lib.hid hl
    clear hgo hl
    by_cases h0 : 0 ≤ at_
    · obtain ⟨p, rfl⟩ : ∃ p : Nat, at_ = p := ⟨at_.toNat, by omega⟩
      by_cases hk6 : k < 6
      · by_cases hp : p + k < n
        · obtain ⟨b, off, rfl, hlt, hc⟩ := h.cell_at hp
          have hx := byt_in h.wf (zs.getD (p + k) 0) (by have := HL.out; simp [List.getD, List.getElem?_eq_getElem (show p + k < zs.length by omega)])
          generalize hz : zs.getD (p + k) 0 = x at hc hx
          have HZ := Lib.hid hz
          clear hz h
          obtain ⟨q, s, v, e1, -, -, -, e2, e3, -, hv, hv2, hv3⟩ := parts hk6 ha hx.1 hx.2
          have hgo2 : go (zs.drop (p + k)) k a = if x < 128 then (if x = 0 ∧ 0 < k ∨ 1000000000000 < v then none else some (v, k + 1)) else go (zs.drop (p + k + 1)) (k + 1) v := by
            rw [go_step (by have := HL.out; omega) hk6, HZ.out, hv]
          have HG2 := Lib.hid hgo2
          have HV := Lib.hid hv
          have HW := Lib.hid hv2
          clear hgo2 hv hv2
          by_cases hx1 : x < 128
          · by_cases hx0 : 0 < x
            · by_cases hvm : v ≤ 1000000000000
              · go_wp2
                go_ret3
                rw [rdU_some (c := k + 1) (by have := HG.out; rw [Int.toNat_natCast] at this; rw [this, HG2.out, if_pos hx1, if_neg (by omega)])]
                exact ⟨by simp; omega, rfl⟩
              · go_wp2
                go_ret3
                rw [rdU_none (by have := HG.out; rw [Int.toNat_natCast] at this; rw [this, HG2.out, if_pos hx1, if_pos (by omega)])]
                exact ⟨rfl, rfl⟩
            · have hx00 : x = 0 := by omega
              subst hx00
              by_cases hk0 : 0 < k
              · go_wp2
                go_ret3
                rw [rdU_none (by have := HG.out; rw [Int.toNat_natCast] at this; rw [this, HG2.out, if_pos hx1, if_pos (by simp [hk0])])]
                exact ⟨rfl, rfl⟩
              · have hk00 : k = 0 := by omega
                subst hk00
                have ha0 : a = 0 := by omega
                have hv0 : v = 0 := by have := HV.out; subst ha0; simpa using this
                subst ha0 hv0
                clear e1 e2 e3
                have e1 : bits .and .i64 0 127 = 0 := by decide
                have e3 : bits .or .i64 0 0 = 0 := by decide
                rw [Nat.add_zero] at hc
                go_wp2
                go_ret3
                rw [rdU_some (c := 0 + 1) (by have := HG.out; rw [Int.toNat_natCast] at this; rw [this, HG2.out, if_pos hx1, if_neg (by omega)])]
                exact ⟨by simp, rfl⟩
          · go_wp2
            go_round
            case rel => exact ⟨k + 1, v, by omega, rfl, by go_num, HW.out, by rw [HG.out, Int.toNat_natCast, HG2.out, if_neg hx1]; rfl⟩
            case measure => simp [intOf]; omega
        · clear h
          go_wp2
          go_ret3
          rw [rdU_none (by have := HG.out; rw [Int.toNat_natCast] at this; rw [this, go_stop (by have := HL.out; omega)])]
          exact ⟨rfl, rfl⟩
      · clear h
        go_wp2
        go_ret3
        rw [rdU_none (by have := HG.out; rw [Int.toNat_natCast] at this; rw [this, go_stop (by omega)])]
        exact ⟨rfl, rfl⟩
    · clear h
      go_wp2
      · go_ret3
        rw [rdU_end zs (by omega)]
        exact ⟨rfl, rfl⟩
      · go_ret3
        rw [rdU_end zs (by omega)]
        exact ⟨rfl, rfl⟩
theorem iReadUvarint_any (A : Option Addr) (n c : Nat) (zs : List Int) (at_ : Int) (w : World) (h : Rd .u8 w w.heap.size A n zs) (hn : n ≤ 1099511627776) (hnc : n ≤ c) :
    Calls Try.prog 15 #[.slice A n c, .int .i64 at_] w fun e w' => e = .returned (.tuple #[.int .i64 (rdU zs at_).1, .int .i64 (rdU zs at_).2.1, .bool (rdU zs at_).2.2]) ∧ Below w.heap.size w w' := by
  have hl := h.len
  by_cases h0 : 0 ≤ at_ ∧ at_ ≤ n
  · obtain ⟨p, rfl⟩ : ∃ p : Nat, at_ = p := ⟨at_.toNat, by omega⟩
    have hir := inR_true h0.1 h0.2
    have hpn : p ≤ n := by omega
    clear h0
    obtain ⟨m, hm⟩ : ∃ m : Nat, m = min n (p + 6) := ⟨_, rfl⟩
    have hmin : min (n : Int) ((p : Int) + 6) = (m : Int) := by omega
    have hm1 : p ≤ m := by omega
    have hm2 : m ≤ n := by omega
    have HM := Lib.hid hm
    clear hm
    by_cases hp : p < n
    · obtain ⟨b, off, rfl, hlt, hc⟩ := h.cells (by omega)
      have HH := Lib.hid h
      have HC := Lib.hid hc
      clear h hc
      go_enter Try.func15, Try.ntmps15
      go_wp2_with (first | (go_at_call 47; refine (inRange_any _ _ _ _).mono ?_; rw [hir]; rintro e w1 ⟨rfl, rfl⟩) | (go_at_call 48; refine (iMin_any _ _ _).mono ?_; rw [hmin]; rintro e w2 ⟨rfl, hb2⟩))
      go_loop [7, 25] (fun q i => ∃ k a : Nat, p + k ≤ m ∧ q = .int .i64 a ∧ i = .int .i64 k ∧ a < 128 ^ k ∧ go (zs.drop p) 0 0 = go (zs.drop (p + k)) k a) (fun _ i => (m - p - intOf i).toNat)
      case atStart => exact ⟨0, 0, by omega, rfl, rfl, by omega, rfl⟩
      case round =>
        obtain ⟨k, a, hk, rfl, rfl, ha, hgo⟩ := hrel
        have HG := Lib.hid hgo
        have HL := Lib.hid hl
        clear hgo hl
        by_cases hkm : p + k < m
        · have hk6 : k < 6 := by have := HM.out; omega
          have hc : w2.cell? ⟨b, off + p + k, none⟩ = some (.int .u8 (zs.getD (p + k) 0)) := by rw [Nat.add_assoc]; exact (hb2.cell (p := ⟨b, off + (p + k), none⟩) hlt).trans (HC.out (p + k) (by omega))
          have hx := byt_in HH.out.wf (zs.getD (p + k) 0) (by have := HL.out; simp [List.getD, List.getElem?_eq_getElem (show p + k < zs.length by omega)])
          have HB := Lib.hid hb2
          clear hb2
          generalize hz : zs.getD (p + k) 0 = x at hc hx
          have HZ := Lib.hid hz
          clear hz
          obtain ⟨q, s, v, -, e1, hq0, hq1, e2, -, e3, hv, hv2, hv3⟩ := parts hk6 ha hx.1 hx.2
          have hgo2 : go (zs.drop (p + k)) k a = if x < 128 then (if x = 0 ∧ 0 < k ∨ 1000000000000 < v then none else some (v, k + 1)) else go (zs.drop (p + k + 1)) (k + 1) v := by
            rw [go_step (by have := HL.out; omega) hk6, HZ.out, hv]
          have HG2 := Lib.hid hgo2
          have HV := Lib.hid hv
          have HW := Lib.hid hv2
          clear hgo2 hv hv2
          by_cases hx1 : x < 128
          · by_cases hx0 : 0 < x
            · by_cases hvm : v ≤ 1000000000000
              · go_wp2
                go_ret3
                rw [rdU_some (c := k + 1) (by rw [HG.out, HG2.out, if_pos hx1, if_neg (by omega)])]
                exact ⟨by simp; omega, HB.out⟩
              · go_wp2
                go_ret3
                rw [rdU_none (by rw [HG.out, HG2.out, if_pos hx1, if_pos (by omega)])]
                exact ⟨rfl, HB.out⟩
            · have hx00 : x = 0 := by omega
              subst hx00
              by_cases hk0 : 0 < k
              · go_wp2
                go_ret3
                rw [rdU_none (by rw [HG.out, HG2.out, if_pos hx1, if_pos (by simp [hk0])])]
                exact ⟨rfl, HB.out⟩
              · have hk00 : k = 0 := by omega
                subst hk00
                have ha0 : a = 0 := by omega
                have hv0 : v = 0 := by have := HV.out; subst ha0; simpa using this
                subst ha0 hv0
                clear e1 e2 e3
                rw [Nat.add_zero] at hc
                go_wp2
                go_ret3
                rw [rdU_some (c := 0 + 1) (by rw [HG.out, HG2.out, if_pos hx1, if_neg (by omega)])]
                exact ⟨by simp, HB.out⟩
          · go_wp2
            go_round
            case rel => exact ⟨k + 1, v, by omega, rfl, by go_num, HW.out, by rw [HG.out, HG2.out, if_neg hx1]; rfl⟩
            case measure => simp [intOf]; omega
        · have HB := Lib.hid hb2
          clear hb2
          go_wp2
          go_ret3
          rw [rdU_none (by rw [HG.out, go_stop (by have := HM.out; have := HL.out; omega)])]
          exact ⟨rfl, HB.out⟩
    · have hpe : p = n := by omega
      subst hpe
      have hme : m = p := by omega
      subst hme
      clear h
      by_cases hcm : c = m
      all_goals
        go_enter Try.func15, Try.ntmps15
        go_wp2_with (first | (go_at_call 47; refine (inRange_any _ _ _ _).mono ?_; rw [hir]; rintro e w1 ⟨rfl, rfl⟩) | (go_at_call 48; refine (iMin_any _ _ _).mono ?_; rw [hmin]; rintro e w2 ⟨rfl, hb2⟩))
        go_loop [25] (fun i => i = .int .i64 0) (fun _ => 0)
        case atStart => rfl
        case round =>
          subst hrel
          have HB := Lib.hid hb2
          clear hb2
          go_wp2
          go_ret3
          rw [rdU_end zs (by omega)]
          exact ⟨rfl, HB.out⟩
  · have hir := inR_false (n := at_) (a := 0) (b := n) (by omega)
    clear h
    go_enter Try.func15, Try.ntmps15
    go_wp2_with (first | (go_at_call 47; refine (inRange_any _ _ _ _).mono ?_; rw [hir]; rintro e w1 ⟨rfl, rfl⟩) | fail)
    go_ret3
    rw [rdU_end zs (by omega)]
    exact ⟨rfl, Below.refl _ _⟩
end Go.Proofs.Ytppajfaneacchaa.C02R
