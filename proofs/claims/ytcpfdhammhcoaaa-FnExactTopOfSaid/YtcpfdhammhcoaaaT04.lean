/- The law's own helpers on slices of strings: a copy, a comparison, counting what they hold. -/
import Derived.Test.YtcpfdhammhcoaaaMemS
import Derived.Test.YtcpfdhammhcoaaaM04
import Derived.Test.YtcpfdhammhcoaaaT01
namespace Go.Proofs.Ytcpfdhammhcoaaa.T04
open Go.RowKit Mem MemS M04 T01
set_option linter.unusedVariables false
set_option maxRecDepth 100000
theorem copy_setG {α : Type} {d : α} {n j : Nat} {zs : List α} (hl : zs.length = n) (hj : j < n) : (zs.take j ++ List.replicate (n - j) d).set j (zs.getD j d) = zs.take (j + 1) ++ List.replicate (n - (j + 1)) d := by
  have hm : (zs.take j).length = j := by simp; omega
  rw [List.set_append_right _ _ (by omega), hm, Nat.sub_self]
  rw [show n - j = (n - (j + 1)) + 1 by omega, List.replicate_succ, List.set_cons_zero, List.take_succ_eq_append_getElem (show j < zs.length by omega)]
  simp only [List.getD, List.getElem?_eq_getElem (show j < zs.length by omega), Option.getD_some, List.append_assoc, List.cons_append, List.nil_append]
theorem eqStringS_same (B B' : Nat) (A A' : Option Addr) (n c c' : Nat) (zs : List ByteArray) (w : World) (h : RdS w B A n zs) (h' : RdS w B' A' n zs) (hn : n ≤ 1099511627776) :
    Calls Try.prog 65 #[.slice A n c, .slice A' n c'] w fun e w' => e = .returned (.bool true) ∧ Same w w' := by
  go_enter Try.func65, Try.ntmps65
  go_wp2
  go_loopw [5] (fun i wr => ∃ j : Nat, j ≤ n ∧ i = .int .i64 j ∧ Same w wr) (fun i _ => n - (intOf i).toNat)
  case atStart => exact ⟨0, by omega, rfl, Same.refl _⟩
  case round =>
    obtain ⟨j, hj, rfl, hsm⟩ := hrel
    by_cases hjn : j < n
    · obtain ⟨b, off, rfl, _, hcj⟩ := (h.same hsm).cell_at hjn
      obtain ⟨b', off', rfl, _, hcj'⟩ := (h'.same hsm).cell_at hjn
      generalize zs.getD j .empty = z at hcj hcj'
      have HS := Lib.hid hsm
      clear h h' hsm
      go_wp2
      go_region
      all_goals (try go_wp2)
      go_roundw
      case rel => exact ⟨j + 1, by omega, by go_num, HS.out.drew⟩
      case measure => simp [intOf]; omega
    · clear h h'
      go_wp2
      go_ret
      exact ⟨rfl, hsm⟩
theorem toStringS_any (A : Option Addr) (n c : Nat) (zs : List ByteArray) (w : World) (h : RdS w w.heap.size A n zs) (hn : n ≤ 1099511627776) :
    Calls Try.prog 64 #[.slice A n c] w fun e w' => ∃ A' c', e = .returned (.slice A' n c') ∧ OwnS w' w.heap.size w'.heap.size A' n c' zs ∧ Below w.heap.size w w' := by
  have hl := h.len
  go_enter Try.func64, Try.ntmps64
  go_wp2_with (first | (at_make; refine wp_makeS rfl _ _ rfl rfl rfl (by omega) ?_; intro w1 hown1 hb1) | go_in)
  have HB := Lib.hid hb1
  clear hb1
  go_loopw [4] (fun i wr => ∃ j : Nat, j ≤ n ∧ i = .int .i64 j ∧ OwnS wr w.heap.size wr.heap.size (some ⟨w.heap.size, 0, none⟩) n n (zs.take j ++ List.replicate (n - j) ByteArray.empty) ∧ Below w.heap.size w wr) (fun i _ => n - (intOf i).toNat)
  case atStart => exact ⟨0, by omega, rfl, by simpa using hown1, HB.out⟩
  case round =>
    obtain ⟨j, hj, rfl, hown, hbel⟩ := hrel
    by_cases hjn : j < n
    · obtain ⟨b, off, rfl, hlt, hc⟩ := h.cells (by omega)
      obtain ⟨z, hz⟩ : ∃ z, z = zs.getD j .empty := ⟨_, rfl⟩
      have hcj : wr.cell? ⟨b, off + j, none⟩ = some (.string z) := hz ▸ (hbel.cell (p := ⟨b, off + j, none⟩) hlt).trans (hc j hjn)
      obtain ⟨g, e, hg1, hg2, hcg, hfg, hset⟩ := hown.set hjn z (hz ▸ getD_inS h.wf (by omega))
      rw [hz, copy_setG hl hjn, ← hz] at hset
      have HO := Lib.hid hset
      have HH := Lib.hid hg1
      have HX := Lib.hid hbel
      clear hset hown hc hbel h hl hz hg1 hg2
      injection e with e
      injection e with e
      subst e
      go_wp2
      go_roundw
      case rel =>
        exact ⟨j + 1, by omega, by go_num, HO.out.top, HX.out.setCell (p := ⟨w.heap.size, j, none⟩) (Nat.le_refl _) _⟩
      case measure => simp [intOf]; omega
    · have e : zs.take j ++ List.replicate (n - j) ByteArray.empty = zs := by
        have : j = n := by omega
        subst this
        rw [← hl]
        simp
      rw [e] at hown
      clear e hl h
      go_wp2
      go_ret
      exact ⟨_, _, rfl, hown, hbel⟩
theorem szStringS_any (B : Nat) (A : Option Addr) (n c : Nat) (ss : List ByteArray) (q : Int) (w : World) (h : RdS w B A n ss) (hq0 : 0 ≤ q) (hq1 : q ≤ 1048576) (hn : n ≤ maxLen) :
    Calls Try.prog 63 #[.slice A n c, .int .i64 q] w fun e w' => e = .returned (.int .i64 (szS q ss)) ∧ w = w' := by
  have hl := h.len
  unfold maxLen at hn
  by_cases h0 : q - n < 0
  · have e : szS q ss = -1 := by unfold szS; rw [hl, if_pos h0]
    rw [e]
    clear e h hl
    go_enter Try.func63, Try.ntmps63
    go_wp2
    go_ret
    exact ⟨rfl, rfl⟩
  · have e : szS q ss = szGo (q - n) ss := by unfold szS; rw [hl, if_neg h0]
    rw [e]
    have HL := Lib.hid hl
    have H := Lib.hid h
    clear e h hl
    go_enter Try.func63, Try.ntmps63
    go_wp2
    go_loop [1, 5] (fun x i => ∃ (j : Nat) (p : Int), j ≤ n ∧ i = .int .i64 j ∧ x = .int .i64 p ∧ 0 ≤ p ∧ p ≤ q ∧ szGo p (ss.drop j) = szGo (q - n) ss) (fun _ i => n - (intOf i).toNat)
    case atStart => exact ⟨0, q - n, by omega, rfl, by go_num, by omega, by omega, rfl⟩
    case round =>
      obtain ⟨j, p, hj, rfl, rfl, hp0, hp1, hs⟩ := hrel
      by_cases hjn : j < n
      · obtain ⟨b, off, rfl, _, hc⟩ := H.out.cell_at hjn
        have hjl : j < ss.length := by rw [HL.out]; exact hjn
        have hin : (ss.getD j .empty).size ≤ maxLen := getD_inS H.out.wf hjl
        rw [drop_step hjl, szGo] at hs
        generalize ss.getD j .empty = s at hc hs hin
        unfold maxLen at hin
        by_cases hneg : p - s.size < 0
        · rw [if_pos hneg] at hs
          have HS := Lib.hid hs
          clear hs hjl
          go_wp2
          go_ret
          exact ⟨by rw [← HS.out]; rfl, rfl⟩
        · rw [if_neg hneg] at hs
          have HS := Lib.hid hs
          clear hs hjl
          go_wp2
          go_round
          case rel => exact ⟨j + 1, p - s.size, by omega, by go_num, by go_num, by omega, by omega, HS.out⟩
          case measure => simp [intOf]; omega
      · rw [List.drop_eq_nil_of_le (by rw [HL.out]; omega), szGo] at hs
        have HS := Lib.hid hs
        clear hs
        go_wp2
        go_ret
        exact ⟨by rw [← HS.out]; rfl, rfl⟩
end Go.Proofs.Ytcpfdhammhcoaaa.T04
