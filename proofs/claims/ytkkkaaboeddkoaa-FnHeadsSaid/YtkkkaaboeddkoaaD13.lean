/- The drawing functions of chapter 13. -/
import Derived.Test.YtkkkaaboeddkoaaD06
import Derived.Test.YtkkkaaboeddkoaaC13S
import Derived.Test.YtkkkaaboeddkoaaLD
namespace Go.Proofs.Ytkkkaaboeddkoaa.D13
set_option linter.unusedVariables false
set_option linter.unusedSimpArgs false
set_option maxRecDepth 100000
open Go.RowKit Mem MemS M02 C01 C02 C02B D01 D02 SL Rep R06 R13 M06 M13 C06S C13S D06 BX
theorem bxK {w w' : World} {b g : Nat} {vs : List Value} (h : Box w b vs) (hk : Kept g w w') (hb : b ≠ g) : Box w' b vs := h.keep (hk.block b h.lt hb)
theorem kp_puts {g b : Nat} {w : World} (hb : w.heap.size ≤ b) : ∀ (vals : List Value) (j : Nat) {w' : World}, Kept g w w' → Kept g w (puts w' b j vals)
  | [], _, _, h => h
  | v :: r, j, w', h => kp_puts hb r (j + 1) ⟨h.os, h.tape, h.output, Nat.le_trans h.size (by simp [World.setCell]), fun k h1 h2 => (Below.heap_setCell w' ⟨b, j, none⟩ v k (by show k ≠ b; omega)).trans (h.block k h1 h2)⟩
section
variable {w W V : World} {g b c j lo hi B : Nat} {vals : List Value} {α : Type} {R : Rep α} {cs : List Value} {a : α}
theorem pt_kp (e : puts W b j vals = V) (h : Kept g w W) (hb : w.heap.size ≤ b) : Kept g w V := by rw [← e]; exact kp_puts hb vals j h
theorem pt_cur (e : puts W b j vals = V) (h : Cur W B g) (hb : g < b) : Cur V B g := by rw [← e]; exact cur_low h (puts_bel hb vals j (Below.refl _ _))
theorem pt_own2 (e : puts W b j vals = V) (h : OwnI R W lo hi cs a) (hp : b < lo ∨ hi ≤ b) : OwnI R V lo hi cs a := by rw [← e]; exact h.keep fun i _ h1 h2 => puts_keep (by omega) vals j
end
theorem zero_ownK (w : World) (q : Nat) : OwnI RKeys w q q [.slice none 0 0, .int .i64 0] ⟨[], 0⟩ := RKeys_own.2 ⟨none, 0, 0, rfl, Mem.Own.nil _ _ _ _, (show In .i64 0 from inI64 (by omega) (by omega))⟩
/-- three parts one behind the other -/
theorem head_own {w : World} {cs : List Value} {k : Head} {lo hi x0 y0 x1 y1 x2 y2 : Nat} {A0 A1 A2 : Option Addr} {n0 c0 n1 c1 n2 c2 : Nat} (hc : cs = [.int .i64 k.zone, .int .i64 k.epoch, .int .i64 k.kind, .int .i64 k.time, .int .i64 k.until_, .int .i64 k.count, .int .i64 k.root, .int .i64 k.prev, .slice A0 n0 c0, .int .i64 k.keys.need, .slice A1 n1 c1, .int .i64 k.heirs.need, .int .i64 k.wait, .slice A2 n2 c2, .int .i64 k.judge.need, .bool k.frozen])
    (hi8 : In .i64 k.zone ∧ In .i64 k.epoch ∧ In .i64 k.kind ∧ In .i64 k.time ∧ In .i64 k.until_ ∧ In .i64 k.count ∧ In .i64 k.root ∧ In .i64 k.prev ∧ In .i64 k.wait) (h0 : OwnI RKeys w x0 y0 [.slice A0 n0 c0, .int .i64 k.keys.need] k.keys) (h1 : OwnI RKeys w x1 y1 [.slice A1 n1 c1, .int .i64 k.heirs.need] k.heirs) (h2 : OwnI RKeys w x2 y2 [.slice A2 n2 c2, .int .i64 k.judge.need] k.judge)
    (d : lo ≤ x0 ∧ x0 ≤ y0 ∧ y0 ≤ x1 ∧ x1 ≤ y1 ∧ y1 ≤ x2 ∧ x2 ≤ y2 ∧ y2 ≤ hi) : OwnI RHead w lo hi cs k := by
  obtain ⟨F0, a0, u0, e0⟩ := h0
  obtain ⟨F1, a1, u1, e1⟩ := h1
  obtain ⟨F2, a2, u2, e2⟩ := h2
  have g2 : F2.Nodup ∧ ∀ b, b ∈ F2 → x2 ≤ b ∧ b < y2 := ⟨u2, e2⟩
  have g1 := part_cons (lo := x1) u1 e1 g2 (by omega) (Nat.le_refl _) (by omega) (by omega)
  have g0 := part_cons (lo := x0) u0 e0 g1 (by omega) (Nat.le_refl _) (by omega) (by omega)
  obtain ⟨i1, i2, i3, i4, i5, i6, i7, i8, i9⟩ := hi8
  subst hc
  exact ⟨_, RHead_set.2 ⟨A0, n0, c0, A1, n1, c1, A2, n2, c2, F0, F1, F2, rfl, rfl, i1, i2, i3, i4, i5, i6, i7, i8, a0, a1, i9, a2⟩, g0.1, fun b hb => by have := g0.2 b hb; omega⟩
/-- a small head -/
def SmH (m : Nat) (k : Head) : Prop := totHead k ≤ m ∧ -200000 ≤ k.until_ ∧ k.until_ ≤ 200000
def DrHd (m B g : Nat) (w : World) (e : Ending) (w' : World) : Prop :=
  ∃ cs k, e = .returned (.agg (List.toArray cs)) ∧ OwnI RHead w' w.heap.size w'.heap.size cs k ∧ SmH m k ∧ Cur w' B g ∧ Kept g w w'
set_option maxHeartbeats 16000000 in
theorem l13Head_any (w : World) (B g : Nat) (hc : Cur w B g) : Calls Try.prog 60 #[.pointer (some ⟨g, 0, none⟩)] w (DrHd 30 B g w) := by
  have hgl := hc.lt
  obtain ⟨V, hV⟩ : ∃ V, V = w.alloc (.cells #[.int .i64 0, .int .i64 0, .int .i64 0, .int .i64 0, .int .i64 0, .int .i64 0, .int .i64 0, .int .i64 0, .slice none 0 0, .int .i64 0, .slice none 0 0, .int .i64 0, .int .i64 0, .slice none 0 0, .int .i64 0, .bool false] 28) := ⟨_, rfl⟩
  have hbel : Below w.heap.size w V := by rw [hV]; exact (Below.refl _ _).alloc (by first | (simp; done) | (simp; omega)) _
  have hsV : V.heap.size = w.heap.size + 1 := by rw [hV]; simp
  have HR_1 := Lib.hid (show Box V (w.heap.size) [.int .i64 0, .int .i64 0, .int .i64 0, .int .i64 0, .int .i64 0, .int .i64 0, .int .i64 0, .int .i64 0, .slice none 0 0, .int .i64 0, .slice none 0 0, .int .i64 0, .int .i64 0, .slice none 0 0, .int .i64 0, .bool false] from by
    rw [hV]
    have := (Box.new w #[.int .i64 0, .int .i64 0, .int .i64 0, .int .i64 0, .int .i64 0, .int .i64 0, .int .i64 0, .int .i64 0, .slice none 0 0, .int .i64 0, .slice none 0 0, .int .i64 0, .int .i64 0, .slice none 0 0, .int .i64 0, .bool false] 28)
    simpa using this)
  have HK_1 := Lib.hid (show Kept g w V from Kept.of_below hbel)
  have HC_1 := Lib.hid (hc.below hbel)
  have neR : (w.heap.size) ≠ g := by omega
  have wlR : w.heap.size ≤ (w.heap.size) := by omega
  have gbR : g < (w.heap.size) := by omega
  have HV := Lib.hid hV
  clear hV hbel hc
  go_enter Try.func60, Try.ntmps60
  go_wp2_with fail
  rw [show w.alloc (.cells #[.int .i64 0, .int .i64 0, .int .i64 0, .int .i64 0, .int .i64 0, .int .i64 0, .int .i64 0, .int .i64 0, .slice none 0 0, .int .i64 0, .slice none 0 0, .int .i64 0, .int .i64 0, .slice none 0 0, .int .i64 0, .bool false] 28) = V from HV.out.symm]
  refine (l1Below_any 50 _ B g HC_1.out).mono ?_
  rintro e W0 ⟨v, ⟨x0, hx0, hy0, rfl⟩, rfl, hc_, hk_⟩
  have HR_2 := Lib.hid (bxK HR_1.out hk_ neR)
  have HK_2 := Lib.hid (HK_1.out.trans hk_)
  have HC_2 := Lib.hid (hc_)
  have hsW0 := hk_.size
  clear hc_ hk_
  have hz0 : x0 < 50 := by omega
  have i0 : In .i64 x0 := inI64 (by omega) (by omega)
  clear hy0
  go_wp2_with fail
  refine (l1Below_any 4 _ B g HC_2.out).mono ?_
  rintro e W1 ⟨v, ⟨x1, hx1, hy1, rfl⟩, rfl, hc_, hk_⟩
  have HR_3 := Lib.hid (bxK HR_2.out hk_ neR)
  have HK_3 := Lib.hid (HK_2.out.trans hk_)
  have HC_3 := Lib.hid (hc_)
  have hsW1 := hk_.size
  clear hc_ hk_
  have hz1 : x1 < 4 := by omega
  have i1 : In .i64 x1 := inI64 (by omega) (by omega)
  clear hy1
  go_wp2_with fail
  refine (l1Below_any 3 _ B g HC_3.out).mono ?_
  rintro e W2 ⟨v, ⟨x2, hx2, hy2, rfl⟩, rfl, hc_, hk_⟩
  have HR_4 := Lib.hid (bxK HR_3.out hk_ neR)
  have HK_4 := Lib.hid (HK_3.out.trans hk_)
  have HC_4 := Lib.hid (hc_)
  have hsW2 := hk_.size
  clear hc_ hk_
  have hz2 : x2 < 3 := by omega
  have i2 : In .i64 x2 := inI64 (by omega) (by omega)
  clear hy2
  go_wp2_with fail
  refine (l1Below_any 40 _ B g HC_4.out).mono ?_
  rintro e W3 ⟨v, ⟨x3, hx3, hy3, rfl⟩, rfl, hc_, hk_⟩
  have HR_5 := Lib.hid (bxK HR_4.out hk_ neR)
  have HK_5 := Lib.hid (HK_4.out.trans hk_)
  have HC_5 := Lib.hid (hc_)
  have hsW3 := hk_.size
  clear hc_ hk_
  have hz3 : x3 < 40 := by omega
  have i3 : In .i64 x3 := inI64 (by omega) (by omega)
  clear hy3
  go_wp2_with fail
  refine (l1Below_any 90 _ B g HC_5.out).mono ?_
  rintro e W4 ⟨v, ⟨x4, hx4, hy4, rfl⟩, rfl, hc_, hk_⟩
  have HR_6 := Lib.hid (bxK HR_5.out hk_ neR)
  have HK_6 := Lib.hid (HK_5.out.trans hk_)
  have HC_6 := Lib.hid (hc_)
  have hsW4 := hk_.size
  clear hc_ hk_
  have hz4 : x4 < 90 := by omega
  have i4 : In .i64 x4 := inI64 (by omega) (by omega)
  clear hy4
  go_wp2_with fail
  refine (l1Below_any 9 _ B g HC_6.out).mono ?_
  rintro e W5 ⟨v, ⟨x5, hx5, hy5, rfl⟩, rfl, hc_, hk_⟩
  have HR_7 := Lib.hid (bxK HR_6.out hk_ neR)
  have HK_7 := Lib.hid (HK_6.out.trans hk_)
  have HC_7 := Lib.hid (hc_)
  have hsW5 := hk_.size
  clear hc_ hk_
  have hz5 : x5 < 9 := by omega
  have i5 : In .i64 x5 := inI64 (by omega) (by omega)
  clear hy5
  go_wp2_with fail
  refine (l1Below_any 5 _ B g HC_7.out).mono ?_
  rintro e W6 ⟨v, ⟨x6, hx6, hy6, rfl⟩, rfl, hc_, hk_⟩
  have HR_8 := Lib.hid (bxK HR_7.out hk_ neR)
  have HK_8 := Lib.hid (HK_7.out.trans hk_)
  have HC_8 := Lib.hid (hc_)
  have hsW6 := hk_.size
  clear hc_ hk_
  have hz6 : x6 < 5 := by omega
  have i6 : In .i64 x6 := inI64 (by omega) (by omega)
  clear hy6
  go_wp2_with fail
  have i9 : In .i64 (1 + x2) := inI64 (by omega) (by omega)
  have iz : In .i64 0 := inI64 (by omega) (by omega)
  refine (l6Keys_any _ B g HC_8.out).mono ?_
  rintro e W7 ⟨A0, n0, c0, l0, d0, rfl, hd, ho, hc_, hk_⟩
  have HR_9 := Lib.hid (bxK HR_8.out hk_ neR)
  have HK_9 := Lib.hid (HK_8.out.trans hk_)
  have HC_9 := Lib.hid (hc_)
  have hsW7 := hk_.size
  have hl0 := drawn_len hd
  have HP0_9 := Lib.hid (show OwnI RKeys W7 (W6.heap.size) (W7.heap.size) [.slice A0 n0 c0, .int .i64 d0] ⟨l0, d0⟩ from (show OwnI RKeys W7 (W6.heap.size + 1) W7.heap.size [.slice A0 n0 c0, .int .i64 d0] ⟨l0, d0⟩ from RKeys_own.2 ⟨A0, n0, c0, rfl, ho, (show In .i64 d0 from inI64 (by omega) (by omega))⟩).wide (Nat.le_succ _) (Nat.le_refl _))
  have glP0 : g < (W6.heap.size) := by omega
  have djRP0 : (w.heap.size) < (W6.heap.size) ∨ (W7.heap.size) ≤ (w.heap.size) := by omega
  have hv0 := ho.ge
  clear hd ho hc_ hk_ hv0
  have hal : Below W7.heap.size W7 (W7.alloc (.cells #[.int .i64 x0, .int .i64 x1, .int .i64 (1 + x2), .int .i64 x3, .int .i64 0, .int .i64 x6, .int .i64 x4, .int .i64 x5, .slice A0 n0 c0, .int .i64 d0, .slice none 0 0, .int .i64 0, .int .i64 0, .slice none 0 0, .int .i64 0, .bool false] 28)) := (Below.refl _ _).alloc (Nat.le_refl _) _
  have hnb := Box.new W7 #[.int .i64 x0, .int .i64 x1, .int .i64 (1 + x2), .int .i64 x3, .int .i64 0, .int .i64 x6, .int .i64 x4, .int .i64 x5, .slice A0 n0 c0, .int .i64 d0, .slice none 0 0, .int .i64 0, .int .i64 0, .slice none 0 0, .int .i64 0, .bool false] 28
  generalize hV2 : W7.alloc (.cells #[.int .i64 x0, .int .i64 x1, .int .i64 (1 + x2), .int .i64 x3, .int .i64 0, .int .i64 x6, .int .i64 x4, .int .i64 x5, .slice A0 n0 c0, .int .i64 d0, .slice none 0 0, .int .i64 0, .int .i64 0, .slice none 0 0, .int .i64 0, .bool false] 28) = V2 at hal hnb
  have hsV2 : V2.heap.size = W7.heap.size + 1 := by rw [← hV2]; simp
  have HR_10 := Lib.hid (HR_9.out.below hal HR_9.out.lt)
  have HK_10 := Lib.hid (HK_9.out.trans (Kept.of_below hal))
  have HC_10 := Lib.hid (HC_9.out.below hal)
  have HP0_10 := Lib.hid (HP0_9.out.below hal (by omega))
  have HY_10 := Lib.hid (show Box V2 W7.heap.size [.int .i64 x0, .int .i64 x1, .int .i64 (1 + x2), .int .i64 x3, .int .i64 0, .int .i64 x6, .int .i64 x4, .int .i64 x5, .slice A0 n0 c0, .int .i64 d0, .slice none 0 0, .int .i64 0, .int .i64 0, .slice none 0 0, .int .i64 0, .bool false] from hnb)
  have HV2 := Lib.hid hV2
  clear hal hnb hV2
  have neY : (W7.heap.size) ≠ g := by omega
  have wlY : w.heap.size ≤ (W7.heap.size) := by omega
  have gbY : g < (W7.heap.size) := by omega
  have apRY : (w.heap.size) ≠ (W7.heap.size) := by omega
  have apYR : (W7.heap.size) ≠ (w.heap.size) := by omega
  have djYP0 : (W7.heap.size) < (W6.heap.size) ∨ (W7.heap.size) ≤ (W7.heap.size) := by omega
  go_wp2_with (refine LD.wp_new LD.big_Head rfl _ _ rfl rfl rfl rfl rfl rfl ?_)
  rw [HV2.out]
  have zY0 := HY_10.out.cell (j := 0) rfl
  have fY0 := HY_10.out.warm (j := 0) rfl
  have zY1 := HY_10.out.cell (j := 1) rfl
  have fY1 := HY_10.out.warm (j := 1) rfl
  have zY2 := HY_10.out.cell (j := 2) rfl
  have fY2 := HY_10.out.warm (j := 2) rfl
  have zY3 := HY_10.out.cell (j := 3) rfl
  have fY3 := HY_10.out.warm (j := 3) rfl
  have zY4 := HY_10.out.cell (j := 4) rfl
  have fY4 := HY_10.out.warm (j := 4) rfl
  have zY5 := HY_10.out.cell (j := 5) rfl
  have fY5 := HY_10.out.warm (j := 5) rfl
  have zY6 := HY_10.out.cell (j := 6) rfl
  have fY6 := HY_10.out.warm (j := 6) rfl
  have zY7 := HY_10.out.cell (j := 7) rfl
  have fY7 := HY_10.out.warm (j := 7) rfl
  have zY8 := HY_10.out.cell (j := 8) rfl
  have fY8 := HY_10.out.warm (j := 8) rfl
  have zY9 := HY_10.out.cell (j := 9) rfl
  have fY9 := HY_10.out.warm (j := 9) rfl
  have zY10 := HY_10.out.cell (j := 10) rfl
  have fY10 := HY_10.out.warm (j := 10) rfl
  have zY11 := HY_10.out.cell (j := 11) rfl
  have fY11 := HY_10.out.warm (j := 11) rfl
  have zY12 := HY_10.out.cell (j := 12) rfl
  have fY12 := HY_10.out.warm (j := 12) rfl
  have zY13 := HY_10.out.cell (j := 13) rfl
  have fY13 := HY_10.out.warm (j := 13) rfl
  have zY14 := HY_10.out.cell (j := 14) rfl
  have fY14 := HY_10.out.warm (j := 14) rfl
  have zY15 := HY_10.out.cell (j := 15) rfl
  have fY15 := HY_10.out.warm (j := 15) rfl
  have hne1 : W7.heap.size ≠ g := by omega
  have hne2 : g ≠ W7.heap.size := by omega
  go_region_held3 (fun w' => w'.cell? ⟨W7.heap.size, 3, none⟩ = some (.int .i64 x3)) (simp [*, World.cell?_alloc_some, World.cell?_setCell_far, World.cell?_setCell_other]) ((first
    | (go_at_call 41; refine (l1Below_any 60 V2.drew B g (HC_10.out.below (Below.refl _ _).drew)).mono ?_; rintro e W8 ⟨v, ⟨x7, hx7, hy7, rfl⟩, rfl, hc_, hk_⟩; have hz7 : x7 < 60 := (by omega); have hdr9 : Kept g V2 V2.drew := Kept.of_below (Below.refl _ _).drew; have hk9 := hdr9.trans hk_; have HR_11 := Lib.hid (bxK HR_10.out hk9 neR); have HK_11 := Lib.hid (HK_10.out.trans hk9); have HC_11 := Lib.hid (hc_); have HP0_11 := Lib.hid (HP0_10.out.keep (w' := W8) fun i h0 h1 h2 => hk9.block i h0 (Nat.ne_of_gt (Nat.lt_of_lt_of_le glP0 h1))); have HY_11 := Lib.hid (bxK HY_10.out hk9 neY); have hsW8 := hk9.size; have yY0 := HY_11.out.cell (j := 0) rfl; have g9Y0 := HY_11.out.warm (j := 0) rfl; have yY1 := HY_11.out.cell (j := 1) rfl; have g9Y1 := HY_11.out.warm (j := 1) rfl; have yY2 := HY_11.out.cell (j := 2) rfl; have g9Y2 := HY_11.out.warm (j := 2) rfl; have yY3 := HY_11.out.cell (j := 3) rfl; have g9Y3 := HY_11.out.warm (j := 3) rfl; have yY4 := HY_11.out.cell (j := 4) rfl; have g9Y4 := HY_11.out.warm (j := 4) rfl; have yY5 := HY_11.out.cell (j := 5) rfl; have g9Y5 := HY_11.out.warm (j := 5) rfl; have yY6 := HY_11.out.cell (j := 6) rfl; have g9Y6 := HY_11.out.warm (j := 6) rfl; have yY7 := HY_11.out.cell (j := 7) rfl; have g9Y7 := HY_11.out.warm (j := 7) rfl; have yY8 := HY_11.out.cell (j := 8) rfl; have g9Y8 := HY_11.out.warm (j := 8) rfl; have yY9 := HY_11.out.cell (j := 9) rfl; have g9Y9 := HY_11.out.warm (j := 9) rfl; have yY10 := HY_11.out.cell (j := 10) rfl; have g9Y10 := HY_11.out.warm (j := 10) rfl; have yY11 := HY_11.out.cell (j := 11) rfl; have g9Y11 := HY_11.out.warm (j := 11) rfl; have yY12 := HY_11.out.cell (j := 12) rfl; have g9Y12 := HY_11.out.warm (j := 12) rfl; have yY13 := HY_11.out.cell (j := 13) rfl; have g9Y13 := HY_11.out.warm (j := 13) rfl; have yY14 := HY_11.out.cell (j := 14) rfl; have g9Y14 := HY_11.out.warm (j := 14) rfl; have yY15 := HY_11.out.cell (j := 15) rfl; have g9Y15 := HY_11.out.warm (j := 15) rfl; clear hc_ hk_ hk9 hdr9)))
  have i7 : In .i64 (x3 + x7) := inI64 (by omega) (by omega)
  have hun : -200000 ≤ x3 + x7 ∧ x3 + x7 ≤ 200000 := by omega
  obtain ⟨V3, hV3⟩ : ∃ u9, puts W8 (W7.heap.size) 4 [.int .i64 (x3 + x7)] = u9 := ⟨_, rfl⟩
  have hsV3 : V3.heap.size = W8.heap.size := by rw [← hV3]; exact puts_size _ _
  have HR_12 := Lib.hid (pt_box hV3 HR_11.out apRY)
  have HK_12 := Lib.hid (pt_kp hV3 HK_11.out wlY)
  have HC_12 := Lib.hid (pt_cur hV3 HC_11.out gbY)
  have HP0_12 := Lib.hid (pt_own2 hV3 HP0_11.out djYP0)
  have HY_12 := Lib.hid (show Box V3 (W7.heap.size) [.int .i64 x0, .int .i64 x1, .int .i64 (1 + x2), .int .i64 x3, .int .i64 (x3 + x7), .int .i64 x6, .int .i64 x4, .int .i64 x5, .slice A0 n0 c0, .int .i64 d0, .slice none 0 0, .int .i64 0, .int .i64 0, .slice none 0 0, .int .i64 0, .bool false] from pt_self hV3 HY_11.out (by simp))
  have HV3 := Lib.hid hV3
  clear hV3
  go_wp2_with fail
  rw [show W8.setCell ⟨W7.heap.size, 4, none⟩ (.int .i64 (x3 + x7)) = V3 from HV3.out]
  refine (l1Once_any 2 _ B g HC_12.out).mono ?_
  rintro e W9 ⟨v, ⟨b1, rfl⟩, rfl, hc_, hk_⟩
  have HR_13 := Lib.hid (bxK HR_12.out hk_ neR)
  have HK_13 := Lib.hid (HK_12.out.trans hk_)
  have HC_13 := Lib.hid (hc_)
  have HP0_13 := Lib.hid (HP0_12.out.keep (w' := W9) fun i h0 h1 h2 => hk_.block i h0 (Nat.ne_of_gt (Nat.lt_of_lt_of_le glP0 h1)))
  have HY_13 := Lib.hid (bxK HY_12.out hk_ neY)
  have hsW9 := hk_.size
  clear hc_ hk_
  rcases b1 with _ | _
  · skip
    go_wp2_with fail
    refine (l1Once_any 2 _ B g HC_13.out).mono ?_
    rintro e W12 ⟨v, ⟨b2, rfl⟩, rfl, hc_, hk_⟩
    have HR_14 := Lib.hid (bxK HR_13.out hk_ neR)
    have HK_14 := Lib.hid (HK_13.out.trans hk_)
    have HC_14 := Lib.hid (hc_)
    have HP0_14 := Lib.hid (HP0_13.out.keep (w' := W12) fun i h0 h1 h2 => hk_.block i h0 (Nat.ne_of_gt (Nat.lt_of_lt_of_le glP0 h1)))
    have HY_14 := Lib.hid (bxK HY_13.out hk_ neY)
    have hsW12 := hk_.size
    clear hc_ hk_
    rcases b2 with _ | _
    · skip
      obtain ⟨VF, hVF⟩ : ∃ u9, puts W12 (w.heap.size) 0 [.int .i64 x0, .int .i64 x1, .int .i64 (1 + x2), .int .i64 x3, .int .i64 (x3 + x7), .int .i64 x6, .int .i64 x4, .int .i64 x5, .slice A0 n0 c0, .int .i64 d0, .slice none 0 0, .int .i64 0, .int .i64 0, .slice none 0 0, .int .i64 0, .bool false] = u9 := ⟨_, rfl⟩
      have hsVF : VF.heap.size = W12.heap.size := by rw [← hVF]; exact puts_size _ _
      have HR_15 := Lib.hid (show Box VF (w.heap.size) [.int .i64 x0, .int .i64 x1, .int .i64 (1 + x2), .int .i64 x3, .int .i64 (x3 + x7), .int .i64 x6, .int .i64 x4, .int .i64 x5, .slice A0 n0 c0, .int .i64 d0, .slice none 0 0, .int .i64 0, .int .i64 0, .slice none 0 0, .int .i64 0, .bool false] from (show Box VF (w.heap.size) ([] ++ [.int .i64 x0, .int .i64 x1, .int .i64 (1 + x2), .int .i64 x3, .int .i64 (x3 + x7), .int .i64 x6, .int .i64 x4, .int .i64 x5, .slice A0 n0 c0, .int .i64 d0, .slice none 0 0, .int .i64 0, .int .i64 0, .slice none 0 0, .int .i64 0, .bool false] ++ []) from pt_mid hVF (show Box W12 (w.heap.size) ([] ++ [.int .i64 0, .int .i64 0, .int .i64 0, .int .i64 0, .int .i64 0, .int .i64 0, .int .i64 0, .int .i64 0, .slice none 0 0, .int .i64 0, .slice none 0 0, .int .i64 0, .int .i64 0, .slice none 0 0, .int .i64 0, .bool false] ++ []) from HR_14.out) rfl rfl))
      have HK_15 := Lib.hid (pt_kp hVF HK_14.out wlR)
      have HC_15 := Lib.hid (pt_cur hVF HC_14.out gbR)
      have HP0_15 := Lib.hid (pt_own2 hVF HP0_14.out djRP0)
      have HY_15 := Lib.hid (pt_box hVF HY_14.out apYR)
      have HVF := Lib.hid hVF
      clear hVF
      go_wp2_with (first | (refine LD.wp_ld LD.big_Head rfl _ rfl rfl HY_14.out rfl ?_) | (refine LD.wp_stV LD.big_Head rfl _ _ rfl rfl rfl HR_14.out rfl (by decide) rfl HVF.out ?_))
      have hlen1 := hl0.1

      refine bodyPost_ret (v := .agg #[.int .i64 x0, .int .i64 x1, .int .i64 (1 + x2), .int .i64 x3, .int .i64 (x3 + x7), .int .i64 x6, .int .i64 x4, .int .i64 x5, .slice A0 n0 c0, .int .i64 d0, .slice none 0 0, .int .i64 0, .int .i64 0, .slice none 0 0, .int .i64 0, .bool false]) (LD.res_cell LD.big_Head Try.results60 rfl HR_15.out rfl) rfl ⟨[.int .i64 x0, .int .i64 x1, .int .i64 (1 + x2), .int .i64 x3, .int .i64 (x3 + x7), .int .i64 x6, .int .i64 x4, .int .i64 x5, .slice A0 n0 c0, .int .i64 d0, .slice none 0 0, .int .i64 0, .int .i64 0, .slice none 0 0, .int .i64 0, .bool false], ⟨x0, x1, 1 + x2, x3, x3 + x7, x6, x4, x5, ⟨l0, d0⟩, ⟨[], 0⟩, 0, ⟨[], 0⟩, false⟩, rfl, head_own rfl ⟨i0, i1, i9, i3, i7, i6, i4, i5, iz⟩ HP0_15.out (zero_ownK VF W7.heap.size) (zero_ownK VF W7.heap.size) ?_, ?_, HC_15.out, HK_15.out⟩
      · omega
      · refine ⟨?_, ?_, ?_⟩
        · unfold totHead totKeys; simp only [List.length_nil]; omega
        · exact hun.1
        · exact hun.2
    · skip
      go_wp2_with fail
      refine (l6Keys_any _ B g HC_14.out).mono ?_
      rintro e W13 ⟨A2, n2, c2, l2, d2, rfl, hd, ho, hc_, hk_⟩
      have HR_15 := Lib.hid (bxK HR_14.out hk_ neR)
      have HK_15 := Lib.hid (HK_14.out.trans hk_)
      have HC_15 := Lib.hid (hc_)
      have HP0_15 := Lib.hid (HP0_14.out.keep (w' := W13) fun i h0 h1 h2 => hk_.block i h0 (Nat.ne_of_gt (Nat.lt_of_lt_of_le glP0 h1)))
      have HY_15 := Lib.hid (bxK HY_14.out hk_ neY)
      have hsW13 := hk_.size
      have hl2 := drawn_len hd
      have HP2_15 := Lib.hid (show OwnI RKeys W13 (W12.heap.size) (W13.heap.size) [.slice A2 n2 c2, .int .i64 d2] ⟨l2, d2⟩ from (show OwnI RKeys W13 (W12.heap.size + 1) W13.heap.size [.slice A2 n2 c2, .int .i64 d2] ⟨l2, d2⟩ from RKeys_own.2 ⟨A2, n2, c2, rfl, ho, (show In .i64 d2 from inI64 (by omega) (by omega))⟩).wide (Nat.le_succ _) (Nat.le_refl _))
      have glP2 : g < (W12.heap.size) := by omega
      have djRP2 : (w.heap.size) < (W12.heap.size) ∨ (W13.heap.size) ≤ (w.heap.size) := by omega
      have djYP2 : (W7.heap.size) < (W12.heap.size) ∨ (W13.heap.size) ≤ (W7.heap.size) := by omega
      have hv2 := ho.ge
      clear hd ho hc_ hk_ hv2
      have zY0 := HY_15.out.cell (j := 0) rfl
      have fY0 := HY_15.out.warm (j := 0) rfl
      have zY1 := HY_15.out.cell (j := 1) rfl
      have fY1 := HY_15.out.warm (j := 1) rfl
      have zY2 := HY_15.out.cell (j := 2) rfl
      have fY2 := HY_15.out.warm (j := 2) rfl
      have zY3 := HY_15.out.cell (j := 3) rfl
      have fY3 := HY_15.out.warm (j := 3) rfl
      have zY4 := HY_15.out.cell (j := 4) rfl
      have fY4 := HY_15.out.warm (j := 4) rfl
      have zY5 := HY_15.out.cell (j := 5) rfl
      have fY5 := HY_15.out.warm (j := 5) rfl
      have zY6 := HY_15.out.cell (j := 6) rfl
      have fY6 := HY_15.out.warm (j := 6) rfl
      have zY7 := HY_15.out.cell (j := 7) rfl
      have fY7 := HY_15.out.warm (j := 7) rfl
      have zY8 := HY_15.out.cell (j := 8) rfl
      have fY8 := HY_15.out.warm (j := 8) rfl
      have zY9 := HY_15.out.cell (j := 9) rfl
      have fY9 := HY_15.out.warm (j := 9) rfl
      have zY10 := HY_15.out.cell (j := 10) rfl
      have fY10 := HY_15.out.warm (j := 10) rfl
      have zY11 := HY_15.out.cell (j := 11) rfl
      have fY11 := HY_15.out.warm (j := 11) rfl
      have zY12 := HY_15.out.cell (j := 12) rfl
      have fY12 := HY_15.out.warm (j := 12) rfl
      have zY13 := HY_15.out.cell (j := 13) rfl
      have fY13 := HY_15.out.warm (j := 13) rfl
      have zY14 := HY_15.out.cell (j := 14) rfl
      have fY14 := HY_15.out.warm (j := 14) rfl
      have zY15 := HY_15.out.cell (j := 15) rfl
      have fY15 := HY_15.out.warm (j := 15) rfl
      go_wp2_with fail
      clear zY0 fY0 zY1 fY1 zY2 fY2 zY3 fY3 zY4 fY4 zY5 fY5 zY6 fY6 zY7 fY7 zY8 fY8 zY9 fY9 zY10 fY10 zY11 fY11 zY12 fY12 zY13 fY13 zY14 fY14 zY15 fY15
      obtain ⟨V6, hV6⟩ : ∃ u9, puts W13 (W7.heap.size) 13 [.slice A2 n2 c2, .int .i64 d2] = u9 := ⟨_, rfl⟩
      have hsV6 : V6.heap.size = W13.heap.size := by rw [← hV6]; exact puts_size _ _
      have HR_16 := Lib.hid (pt_box hV6 HR_15.out apRY)
      have HK_16 := Lib.hid (pt_kp hV6 HK_15.out wlY)
      have HC_16 := Lib.hid (pt_cur hV6 HC_15.out gbY)
      have HP0_16 := Lib.hid (pt_own2 hV6 HP0_15.out djYP0)
      have HY_16 := Lib.hid (show Box V6 (W7.heap.size) [.int .i64 x0, .int .i64 x1, .int .i64 (1 + x2), .int .i64 x3, .int .i64 (x3 + x7), .int .i64 x6, .int .i64 x4, .int .i64 x5, .slice A0 n0 c0, .int .i64 d0, .slice none 0 0, .int .i64 0, .int .i64 0, .slice A2 n2 c2, .int .i64 d2, .bool false] from pt_self hV6 HY_15.out (by simp))
      have HP2_16 := Lib.hid (pt_own2 hV6 HP2_15.out djYP2)
      have HV6 := Lib.hid hV6
      clear hV6
      rw [show (W13.setCell ⟨W7.heap.size, 13, none⟩ (.slice A2 n2 c2)).setCell ⟨W7.heap.size, 14, none⟩ (.int .i64 d2) = V6 from HV6.out]
      refine (l1Once_any 3 _ B g HC_16.out).mono ?_
      rintro e W14 ⟨v, ⟨b3, rfl⟩, rfl, hc_, hk_⟩
      have HR_17 := Lib.hid (bxK HR_16.out hk_ neR)
      have HK_17 := Lib.hid (HK_16.out.trans hk_)
      have HC_17 := Lib.hid (hc_)
      have HP0_17 := Lib.hid (HP0_16.out.keep (w' := W14) fun i h0 h1 h2 => hk_.block i h0 (Nat.ne_of_gt (Nat.lt_of_lt_of_le glP0 h1)))
      have HY_17 := Lib.hid (bxK HY_16.out hk_ neY)
      have HP2_17 := Lib.hid (HP2_16.out.keep (w' := W14) fun i h0 h1 h2 => hk_.block i h0 (Nat.ne_of_gt (Nat.lt_of_lt_of_le glP2 h1)))
      have hsW14 := hk_.size
      clear hc_ hk_
      have zY0 := HY_17.out.cell (j := 0) rfl
      have fY0 := HY_17.out.warm (j := 0) rfl
      have zY1 := HY_17.out.cell (j := 1) rfl
      have fY1 := HY_17.out.warm (j := 1) rfl
      have zY2 := HY_17.out.cell (j := 2) rfl
      have fY2 := HY_17.out.warm (j := 2) rfl
      have zY3 := HY_17.out.cell (j := 3) rfl
      have fY3 := HY_17.out.warm (j := 3) rfl
      have zY4 := HY_17.out.cell (j := 4) rfl
      have fY4 := HY_17.out.warm (j := 4) rfl
      have zY5 := HY_17.out.cell (j := 5) rfl
      have fY5 := HY_17.out.warm (j := 5) rfl
      have zY6 := HY_17.out.cell (j := 6) rfl
      have fY6 := HY_17.out.warm (j := 6) rfl
      have zY7 := HY_17.out.cell (j := 7) rfl
      have fY7 := HY_17.out.warm (j := 7) rfl
      have zY8 := HY_17.out.cell (j := 8) rfl
      have fY8 := HY_17.out.warm (j := 8) rfl
      have zY9 := HY_17.out.cell (j := 9) rfl
      have fY9 := HY_17.out.warm (j := 9) rfl
      have zY10 := HY_17.out.cell (j := 10) rfl
      have fY10 := HY_17.out.warm (j := 10) rfl
      have zY11 := HY_17.out.cell (j := 11) rfl
      have fY11 := HY_17.out.warm (j := 11) rfl
      have zY12 := HY_17.out.cell (j := 12) rfl
      have fY12 := HY_17.out.warm (j := 12) rfl
      have zY13 := HY_17.out.cell (j := 13) rfl
      have fY13 := HY_17.out.warm (j := 13) rfl
      have zY14 := HY_17.out.cell (j := 14) rfl
      have fY14 := HY_17.out.warm (j := 14) rfl
      have zY15 := HY_17.out.cell (j := 15) rfl
      have fY15 := HY_17.out.warm (j := 15) rfl
      obtain ⟨V7, hV7⟩ : ∃ u9, puts W14 (W7.heap.size) 15 [.bool b3] = u9 := ⟨_, rfl⟩
      have hsV7 : V7.heap.size = W14.heap.size := by rw [← hV7]; exact puts_size _ _
      have HR_18 := Lib.hid (pt_box hV7 HR_17.out apRY)
      have HK_18 := Lib.hid (pt_kp hV7 HK_17.out wlY)
      have HC_18 := Lib.hid (pt_cur hV7 HC_17.out gbY)
      have HP0_18 := Lib.hid (pt_own2 hV7 HP0_17.out djYP0)
      have HY_18 := Lib.hid (show Box V7 (W7.heap.size) [.int .i64 x0, .int .i64 x1, .int .i64 (1 + x2), .int .i64 x3, .int .i64 (x3 + x7), .int .i64 x6, .int .i64 x4, .int .i64 x5, .slice A0 n0 c0, .int .i64 d0, .slice none 0 0, .int .i64 0, .int .i64 0, .slice A2 n2 c2, .int .i64 d2, .bool b3] from pt_self hV7 HY_17.out (by simp))
      have HP2_18 := Lib.hid (pt_own2 hV7 HP2_17.out djYP2)
      have HV7 := Lib.hid hV7
      clear hV7
      obtain ⟨VF, hVF⟩ : ∃ u9, puts V7 (w.heap.size) 0 [.int .i64 x0, .int .i64 x1, .int .i64 (1 + x2), .int .i64 x3, .int .i64 (x3 + x7), .int .i64 x6, .int .i64 x4, .int .i64 x5, .slice A0 n0 c0, .int .i64 d0, .slice none 0 0, .int .i64 0, .int .i64 0, .slice A2 n2 c2, .int .i64 d2, .bool b3] = u9 := ⟨_, rfl⟩
      have hsVF : VF.heap.size = V7.heap.size := by rw [← hVF]; exact puts_size _ _
      have HR_19 := Lib.hid (show Box VF (w.heap.size) [.int .i64 x0, .int .i64 x1, .int .i64 (1 + x2), .int .i64 x3, .int .i64 (x3 + x7), .int .i64 x6, .int .i64 x4, .int .i64 x5, .slice A0 n0 c0, .int .i64 d0, .slice none 0 0, .int .i64 0, .int .i64 0, .slice A2 n2 c2, .int .i64 d2, .bool b3] from (show Box VF (w.heap.size) ([] ++ [.int .i64 x0, .int .i64 x1, .int .i64 (1 + x2), .int .i64 x3, .int .i64 (x3 + x7), .int .i64 x6, .int .i64 x4, .int .i64 x5, .slice A0 n0 c0, .int .i64 d0, .slice none 0 0, .int .i64 0, .int .i64 0, .slice A2 n2 c2, .int .i64 d2, .bool b3] ++ []) from pt_mid hVF (show Box V7 (w.heap.size) ([] ++ [.int .i64 0, .int .i64 0, .int .i64 0, .int .i64 0, .int .i64 0, .int .i64 0, .int .i64 0, .int .i64 0, .slice none 0 0, .int .i64 0, .slice none 0 0, .int .i64 0, .int .i64 0, .slice none 0 0, .int .i64 0, .bool false] ++ []) from HR_18.out) rfl rfl))
      have HK_19 := Lib.hid (pt_kp hVF HK_18.out wlR)
      have HC_19 := Lib.hid (pt_cur hVF HC_18.out gbR)
      have HP0_19 := Lib.hid (pt_own2 hVF HP0_18.out djRP0)
      have HY_19 := Lib.hid (pt_box hVF HY_18.out apYR)
      have HP2_19 := Lib.hid (pt_own2 hVF HP2_18.out djRP2)
      have HVF := Lib.hid hVF
      clear hVF
      go_wp2_with (first | (rw [show W14.setCell ⟨W7.heap.size, 15, none⟩ (.bool b3) = V7 from HV7.out]; refine LD.wp_ld LD.big_Head rfl _ rfl rfl HY_18.out rfl ?_) | (refine LD.wp_stV LD.big_Head rfl _ _ rfl rfl rfl HR_18.out rfl (by decide) rfl HVF.out ?_))
      clear zY0 fY0 zY1 fY1 zY2 fY2 zY3 fY3 zY4 fY4 zY5 fY5 zY6 fY6 zY7 fY7 zY8 fY8 zY9 fY9 zY10 fY10 zY11 fY11 zY12 fY12 zY13 fY13 zY14 fY14 zY15 fY15
      have hlen1 := hl0.1
      have hlen3 := hl2.1

      refine bodyPost_ret (v := .agg #[.int .i64 x0, .int .i64 x1, .int .i64 (1 + x2), .int .i64 x3, .int .i64 (x3 + x7), .int .i64 x6, .int .i64 x4, .int .i64 x5, .slice A0 n0 c0, .int .i64 d0, .slice none 0 0, .int .i64 0, .int .i64 0, .slice A2 n2 c2, .int .i64 d2, .bool b3]) (LD.res_cell LD.big_Head Try.results60 rfl HR_19.out rfl) rfl ⟨[.int .i64 x0, .int .i64 x1, .int .i64 (1 + x2), .int .i64 x3, .int .i64 (x3 + x7), .int .i64 x6, .int .i64 x4, .int .i64 x5, .slice A0 n0 c0, .int .i64 d0, .slice none 0 0, .int .i64 0, .int .i64 0, .slice A2 n2 c2, .int .i64 d2, .bool b3], ⟨x0, x1, 1 + x2, x3, x3 + x7, x6, x4, x5, ⟨l0, d0⟩, ⟨[], 0⟩, 0, ⟨l2, d2⟩, b3⟩, rfl, head_own rfl ⟨i0, i1, i9, i3, i7, i6, i4, i5, iz⟩ HP0_19.out (zero_ownK VF W7.heap.size) (HP2_19.out) ?_, ?_, HC_19.out, HK_19.out⟩
      · omega
      · refine ⟨?_, ?_, ?_⟩
        · unfold totHead totKeys; simp only [List.length_nil]; omega
        · exact hun.1
        · exact hun.2
  · skip
    go_wp2_with fail
    refine (l6Keys_any _ B g HC_13.out).mono ?_
    rintro e W10 ⟨A1, n1, c1, l1, d1, rfl, hd, ho, hc_, hk_⟩
    have HR_14 := Lib.hid (bxK HR_13.out hk_ neR)
    have HK_14 := Lib.hid (HK_13.out.trans hk_)
    have HC_14 := Lib.hid (hc_)
    have HP0_14 := Lib.hid (HP0_13.out.keep (w' := W10) fun i h0 h1 h2 => hk_.block i h0 (Nat.ne_of_gt (Nat.lt_of_lt_of_le glP0 h1)))
    have HY_14 := Lib.hid (bxK HY_13.out hk_ neY)
    have hsW10 := hk_.size
    have hl1 := drawn_len hd
    have HP1_14 := Lib.hid (show OwnI RKeys W10 (W9.heap.size) (W10.heap.size) [.slice A1 n1 c1, .int .i64 d1] ⟨l1, d1⟩ from (show OwnI RKeys W10 (W9.heap.size + 1) W10.heap.size [.slice A1 n1 c1, .int .i64 d1] ⟨l1, d1⟩ from RKeys_own.2 ⟨A1, n1, c1, rfl, ho, (show In .i64 d1 from inI64 (by omega) (by omega))⟩).wide (Nat.le_succ _) (Nat.le_refl _))
    have glP1 : g < (W9.heap.size) := by omega
    have djRP1 : (w.heap.size) < (W9.heap.size) ∨ (W10.heap.size) ≤ (w.heap.size) := by omega
    have djYP1 : (W7.heap.size) < (W9.heap.size) ∨ (W10.heap.size) ≤ (W7.heap.size) := by omega
    have hv1 := ho.ge
    clear hd ho hc_ hk_ hv1
    have zY0 := HY_14.out.cell (j := 0) rfl
    have fY0 := HY_14.out.warm (j := 0) rfl
    have zY1 := HY_14.out.cell (j := 1) rfl
    have fY1 := HY_14.out.warm (j := 1) rfl
    have zY2 := HY_14.out.cell (j := 2) rfl
    have fY2 := HY_14.out.warm (j := 2) rfl
    have zY3 := HY_14.out.cell (j := 3) rfl
    have fY3 := HY_14.out.warm (j := 3) rfl
    have zY4 := HY_14.out.cell (j := 4) rfl
    have fY4 := HY_14.out.warm (j := 4) rfl
    have zY5 := HY_14.out.cell (j := 5) rfl
    have fY5 := HY_14.out.warm (j := 5) rfl
    have zY6 := HY_14.out.cell (j := 6) rfl
    have fY6 := HY_14.out.warm (j := 6) rfl
    have zY7 := HY_14.out.cell (j := 7) rfl
    have fY7 := HY_14.out.warm (j := 7) rfl
    have zY8 := HY_14.out.cell (j := 8) rfl
    have fY8 := HY_14.out.warm (j := 8) rfl
    have zY9 := HY_14.out.cell (j := 9) rfl
    have fY9 := HY_14.out.warm (j := 9) rfl
    have zY10 := HY_14.out.cell (j := 10) rfl
    have fY10 := HY_14.out.warm (j := 10) rfl
    have zY11 := HY_14.out.cell (j := 11) rfl
    have fY11 := HY_14.out.warm (j := 11) rfl
    have zY12 := HY_14.out.cell (j := 12) rfl
    have fY12 := HY_14.out.warm (j := 12) rfl
    have zY13 := HY_14.out.cell (j := 13) rfl
    have fY13 := HY_14.out.warm (j := 13) rfl
    have zY14 := HY_14.out.cell (j := 14) rfl
    have fY14 := HY_14.out.warm (j := 14) rfl
    have zY15 := HY_14.out.cell (j := 15) rfl
    have fY15 := HY_14.out.warm (j := 15) rfl
    go_wp2_with fail
    clear zY0 fY0 zY1 fY1 zY2 fY2 zY3 fY3 zY4 fY4 zY5 fY5 zY6 fY6 zY7 fY7 zY8 fY8 zY9 fY9 zY10 fY10 zY11 fY11 zY12 fY12 zY13 fY13 zY14 fY14 zY15 fY15
    obtain ⟨V4, hV4⟩ : ∃ u9, puts W10 (W7.heap.size) 10 [.slice A1 n1 c1, .int .i64 d1] = u9 := ⟨_, rfl⟩
    have hsV4 : V4.heap.size = W10.heap.size := by rw [← hV4]; exact puts_size _ _
    have HR_15 := Lib.hid (pt_box hV4 HR_14.out apRY)
    have HK_15 := Lib.hid (pt_kp hV4 HK_14.out wlY)
    have HC_15 := Lib.hid (pt_cur hV4 HC_14.out gbY)
    have HP0_15 := Lib.hid (pt_own2 hV4 HP0_14.out djYP0)
    have HY_15 := Lib.hid (show Box V4 (W7.heap.size) [.int .i64 x0, .int .i64 x1, .int .i64 (1 + x2), .int .i64 x3, .int .i64 (x3 + x7), .int .i64 x6, .int .i64 x4, .int .i64 x5, .slice A0 n0 c0, .int .i64 d0, .slice A1 n1 c1, .int .i64 d1, .int .i64 0, .slice none 0 0, .int .i64 0, .bool false] from pt_self hV4 HY_14.out (by simp))
    have HP1_15 := Lib.hid (pt_own2 hV4 HP1_14.out djYP1)
    have HV4 := Lib.hid hV4
    clear hV4
    rw [show (W10.setCell ⟨W7.heap.size, 10, none⟩ (.slice A1 n1 c1)).setCell ⟨W7.heap.size, 11, none⟩ (.int .i64 d1) = V4 from HV4.out]
    refine (l1Below_any 30 _ B g HC_15.out).mono ?_
    rintro e W11 ⟨v, ⟨x8, hx8, hy8, rfl⟩, rfl, hc_, hk_⟩
    have HR_16 := Lib.hid (bxK HR_15.out hk_ neR)
    have HK_16 := Lib.hid (HK_15.out.trans hk_)
    have HC_16 := Lib.hid (hc_)
    have HP0_16 := Lib.hid (HP0_15.out.keep (w' := W11) fun i h0 h1 h2 => hk_.block i h0 (Nat.ne_of_gt (Nat.lt_of_lt_of_le glP0 h1)))
    have HY_16 := Lib.hid (bxK HY_15.out hk_ neY)
    have HP1_16 := Lib.hid (HP1_15.out.keep (w' := W11) fun i h0 h1 h2 => hk_.block i h0 (Nat.ne_of_gt (Nat.lt_of_lt_of_le glP1 h1)))
    have hsW11 := hk_.size
    clear hc_ hk_
    have hz8 : x8 < 30 := by omega
    have i8 : In .i64 (1 + x8) := inI64 (by omega) (by omega)
    clear hy8
    have zY0 := HY_16.out.cell (j := 0) rfl
    have fY0 := HY_16.out.warm (j := 0) rfl
    have zY1 := HY_16.out.cell (j := 1) rfl
    have fY1 := HY_16.out.warm (j := 1) rfl
    have zY2 := HY_16.out.cell (j := 2) rfl
    have fY2 := HY_16.out.warm (j := 2) rfl
    have zY3 := HY_16.out.cell (j := 3) rfl
    have fY3 := HY_16.out.warm (j := 3) rfl
    have zY4 := HY_16.out.cell (j := 4) rfl
    have fY4 := HY_16.out.warm (j := 4) rfl
    have zY5 := HY_16.out.cell (j := 5) rfl
    have fY5 := HY_16.out.warm (j := 5) rfl
    have zY6 := HY_16.out.cell (j := 6) rfl
    have fY6 := HY_16.out.warm (j := 6) rfl
    have zY7 := HY_16.out.cell (j := 7) rfl
    have fY7 := HY_16.out.warm (j := 7) rfl
    have zY8 := HY_16.out.cell (j := 8) rfl
    have fY8 := HY_16.out.warm (j := 8) rfl
    have zY9 := HY_16.out.cell (j := 9) rfl
    have fY9 := HY_16.out.warm (j := 9) rfl
    have zY10 := HY_16.out.cell (j := 10) rfl
    have fY10 := HY_16.out.warm (j := 10) rfl
    have zY11 := HY_16.out.cell (j := 11) rfl
    have fY11 := HY_16.out.warm (j := 11) rfl
    have zY12 := HY_16.out.cell (j := 12) rfl
    have fY12 := HY_16.out.warm (j := 12) rfl
    have zY13 := HY_16.out.cell (j := 13) rfl
    have fY13 := HY_16.out.warm (j := 13) rfl
    have zY14 := HY_16.out.cell (j := 14) rfl
    have fY14 := HY_16.out.warm (j := 14) rfl
    have zY15 := HY_16.out.cell (j := 15) rfl
    have fY15 := HY_16.out.warm (j := 15) rfl
    go_wp2_with fail
    clear zY0 fY0 zY1 fY1 zY2 fY2 zY3 fY3 zY4 fY4 zY5 fY5 zY6 fY6 zY7 fY7 zY8 fY8 zY9 fY9 zY10 fY10 zY11 fY11 zY12 fY12 zY13 fY13 zY14 fY14 zY15 fY15
    obtain ⟨V5, hV5⟩ : ∃ u9, puts W11 (W7.heap.size) 12 [.int .i64 (1 + x8)] = u9 := ⟨_, rfl⟩
    have hsV5 : V5.heap.size = W11.heap.size := by rw [← hV5]; exact puts_size _ _
    have HR_17 := Lib.hid (pt_box hV5 HR_16.out apRY)
    have HK_17 := Lib.hid (pt_kp hV5 HK_16.out wlY)
    have HC_17 := Lib.hid (pt_cur hV5 HC_16.out gbY)
    have HP0_17 := Lib.hid (pt_own2 hV5 HP0_16.out djYP0)
    have HY_17 := Lib.hid (show Box V5 (W7.heap.size) [.int .i64 x0, .int .i64 x1, .int .i64 (1 + x2), .int .i64 x3, .int .i64 (x3 + x7), .int .i64 x6, .int .i64 x4, .int .i64 x5, .slice A0 n0 c0, .int .i64 d0, .slice A1 n1 c1, .int .i64 d1, .int .i64 (1 + x8), .slice none 0 0, .int .i64 0, .bool false] from pt_self hV5 HY_16.out (by simp))
    have HP1_17 := Lib.hid (pt_own2 hV5 HP1_16.out djYP1)
    have HV5 := Lib.hid hV5
    clear hV5
    rw [show W11.setCell ⟨W7.heap.size, 12, none⟩ (.int .i64 (1 + x8)) = V5 from HV5.out]
    refine (l1Once_any 2 _ B g HC_17.out).mono ?_
    rintro e W12 ⟨v, ⟨b2, rfl⟩, rfl, hc_, hk_⟩
    have HR_18 := Lib.hid (bxK HR_17.out hk_ neR)
    have HK_18 := Lib.hid (HK_17.out.trans hk_)
    have HC_18 := Lib.hid (hc_)
    have HP0_18 := Lib.hid (HP0_17.out.keep (w' := W12) fun i h0 h1 h2 => hk_.block i h0 (Nat.ne_of_gt (Nat.lt_of_lt_of_le glP0 h1)))
    have HY_18 := Lib.hid (bxK HY_17.out hk_ neY)
    have HP1_18 := Lib.hid (HP1_17.out.keep (w' := W12) fun i h0 h1 h2 => hk_.block i h0 (Nat.ne_of_gt (Nat.lt_of_lt_of_le glP1 h1)))
    have hsW12 := hk_.size
    clear hc_ hk_
    rcases b2 with _ | _
    · skip
      obtain ⟨VF, hVF⟩ : ∃ u9, puts W12 (w.heap.size) 0 [.int .i64 x0, .int .i64 x1, .int .i64 (1 + x2), .int .i64 x3, .int .i64 (x3 + x7), .int .i64 x6, .int .i64 x4, .int .i64 x5, .slice A0 n0 c0, .int .i64 d0, .slice A1 n1 c1, .int .i64 d1, .int .i64 (1 + x8), .slice none 0 0, .int .i64 0, .bool false] = u9 := ⟨_, rfl⟩
      have hsVF : VF.heap.size = W12.heap.size := by rw [← hVF]; exact puts_size _ _
      have HR_19 := Lib.hid (show Box VF (w.heap.size) [.int .i64 x0, .int .i64 x1, .int .i64 (1 + x2), .int .i64 x3, .int .i64 (x3 + x7), .int .i64 x6, .int .i64 x4, .int .i64 x5, .slice A0 n0 c0, .int .i64 d0, .slice A1 n1 c1, .int .i64 d1, .int .i64 (1 + x8), .slice none 0 0, .int .i64 0, .bool false] from (show Box VF (w.heap.size) ([] ++ [.int .i64 x0, .int .i64 x1, .int .i64 (1 + x2), .int .i64 x3, .int .i64 (x3 + x7), .int .i64 x6, .int .i64 x4, .int .i64 x5, .slice A0 n0 c0, .int .i64 d0, .slice A1 n1 c1, .int .i64 d1, .int .i64 (1 + x8), .slice none 0 0, .int .i64 0, .bool false] ++ []) from pt_mid hVF (show Box W12 (w.heap.size) ([] ++ [.int .i64 0, .int .i64 0, .int .i64 0, .int .i64 0, .int .i64 0, .int .i64 0, .int .i64 0, .int .i64 0, .slice none 0 0, .int .i64 0, .slice none 0 0, .int .i64 0, .int .i64 0, .slice none 0 0, .int .i64 0, .bool false] ++ []) from HR_18.out) rfl rfl))
      have HK_19 := Lib.hid (pt_kp hVF HK_18.out wlR)
      have HC_19 := Lib.hid (pt_cur hVF HC_18.out gbR)
      have HP0_19 := Lib.hid (pt_own2 hVF HP0_18.out djRP0)
      have HY_19 := Lib.hid (pt_box hVF HY_18.out apYR)
      have HP1_19 := Lib.hid (pt_own2 hVF HP1_18.out djRP1)
      have HVF := Lib.hid hVF
      clear hVF
      go_wp2_with (first | (refine LD.wp_ld LD.big_Head rfl _ rfl rfl HY_18.out rfl ?_) | (refine LD.wp_stV LD.big_Head rfl _ _ rfl rfl rfl HR_18.out rfl (by decide) rfl HVF.out ?_))
      have hlen1 := hl0.1
      have hlen2 := hl1.1

      refine bodyPost_ret (v := .agg #[.int .i64 x0, .int .i64 x1, .int .i64 (1 + x2), .int .i64 x3, .int .i64 (x3 + x7), .int .i64 x6, .int .i64 x4, .int .i64 x5, .slice A0 n0 c0, .int .i64 d0, .slice A1 n1 c1, .int .i64 d1, .int .i64 (1 + x8), .slice none 0 0, .int .i64 0, .bool false]) (LD.res_cell LD.big_Head Try.results60 rfl HR_19.out rfl) rfl ⟨[.int .i64 x0, .int .i64 x1, .int .i64 (1 + x2), .int .i64 x3, .int .i64 (x3 + x7), .int .i64 x6, .int .i64 x4, .int .i64 x5, .slice A0 n0 c0, .int .i64 d0, .slice A1 n1 c1, .int .i64 d1, .int .i64 (1 + x8), .slice none 0 0, .int .i64 0, .bool false], ⟨x0, x1, 1 + x2, x3, x3 + x7, x6, x4, x5, ⟨l0, d0⟩, ⟨l1, d1⟩, 1 + x8, ⟨[], 0⟩, false⟩, rfl, head_own rfl ⟨i0, i1, i9, i3, i7, i6, i4, i5, i8⟩ HP0_19.out (HP1_19.out) (zero_ownK VF W10.heap.size) ?_, ?_, HC_19.out, HK_19.out⟩
      · omega
      · refine ⟨?_, ?_, ?_⟩
        · unfold totHead totKeys; simp only [List.length_nil]; omega
        · exact hun.1
        · exact hun.2
    · skip
      go_wp2_with fail
      refine (l6Keys_any _ B g HC_18.out).mono ?_
      rintro e W13 ⟨A2, n2, c2, l2, d2, rfl, hd, ho, hc_, hk_⟩
      have HR_19 := Lib.hid (bxK HR_18.out hk_ neR)
      have HK_19 := Lib.hid (HK_18.out.trans hk_)
      have HC_19 := Lib.hid (hc_)
      have HP0_19 := Lib.hid (HP0_18.out.keep (w' := W13) fun i h0 h1 h2 => hk_.block i h0 (Nat.ne_of_gt (Nat.lt_of_lt_of_le glP0 h1)))
      have HY_19 := Lib.hid (bxK HY_18.out hk_ neY)
      have HP1_19 := Lib.hid (HP1_18.out.keep (w' := W13) fun i h0 h1 h2 => hk_.block i h0 (Nat.ne_of_gt (Nat.lt_of_lt_of_le glP1 h1)))
      have hsW13 := hk_.size
      have hl2 := drawn_len hd
      have HP2_19 := Lib.hid (show OwnI RKeys W13 (W12.heap.size) (W13.heap.size) [.slice A2 n2 c2, .int .i64 d2] ⟨l2, d2⟩ from (show OwnI RKeys W13 (W12.heap.size + 1) W13.heap.size [.slice A2 n2 c2, .int .i64 d2] ⟨l2, d2⟩ from RKeys_own.2 ⟨A2, n2, c2, rfl, ho, (show In .i64 d2 from inI64 (by omega) (by omega))⟩).wide (Nat.le_succ _) (Nat.le_refl _))
      have glP2 : g < (W12.heap.size) := by omega
      have djRP2 : (w.heap.size) < (W12.heap.size) ∨ (W13.heap.size) ≤ (w.heap.size) := by omega
      have djYP2 : (W7.heap.size) < (W12.heap.size) ∨ (W13.heap.size) ≤ (W7.heap.size) := by omega
      have hv2 := ho.ge
      clear hd ho hc_ hk_ hv2
      have zY0 := HY_19.out.cell (j := 0) rfl
      have fY0 := HY_19.out.warm (j := 0) rfl
      have zY1 := HY_19.out.cell (j := 1) rfl
      have fY1 := HY_19.out.warm (j := 1) rfl
      have zY2 := HY_19.out.cell (j := 2) rfl
      have fY2 := HY_19.out.warm (j := 2) rfl
      have zY3 := HY_19.out.cell (j := 3) rfl
      have fY3 := HY_19.out.warm (j := 3) rfl
      have zY4 := HY_19.out.cell (j := 4) rfl
      have fY4 := HY_19.out.warm (j := 4) rfl
      have zY5 := HY_19.out.cell (j := 5) rfl
      have fY5 := HY_19.out.warm (j := 5) rfl
      have zY6 := HY_19.out.cell (j := 6) rfl
      have fY6 := HY_19.out.warm (j := 6) rfl
      have zY7 := HY_19.out.cell (j := 7) rfl
      have fY7 := HY_19.out.warm (j := 7) rfl
      have zY8 := HY_19.out.cell (j := 8) rfl
      have fY8 := HY_19.out.warm (j := 8) rfl
      have zY9 := HY_19.out.cell (j := 9) rfl
      have fY9 := HY_19.out.warm (j := 9) rfl
      have zY10 := HY_19.out.cell (j := 10) rfl
      have fY10 := HY_19.out.warm (j := 10) rfl
      have zY11 := HY_19.out.cell (j := 11) rfl
      have fY11 := HY_19.out.warm (j := 11) rfl
      have zY12 := HY_19.out.cell (j := 12) rfl
      have fY12 := HY_19.out.warm (j := 12) rfl
      have zY13 := HY_19.out.cell (j := 13) rfl
      have fY13 := HY_19.out.warm (j := 13) rfl
      have zY14 := HY_19.out.cell (j := 14) rfl
      have fY14 := HY_19.out.warm (j := 14) rfl
      have zY15 := HY_19.out.cell (j := 15) rfl
      have fY15 := HY_19.out.warm (j := 15) rfl
      go_wp2_with fail
      clear zY0 fY0 zY1 fY1 zY2 fY2 zY3 fY3 zY4 fY4 zY5 fY5 zY6 fY6 zY7 fY7 zY8 fY8 zY9 fY9 zY10 fY10 zY11 fY11 zY12 fY12 zY13 fY13 zY14 fY14 zY15 fY15
      obtain ⟨V6, hV6⟩ : ∃ u9, puts W13 (W7.heap.size) 13 [.slice A2 n2 c2, .int .i64 d2] = u9 := ⟨_, rfl⟩
      have hsV6 : V6.heap.size = W13.heap.size := by rw [← hV6]; exact puts_size _ _
      have HR_20 := Lib.hid (pt_box hV6 HR_19.out apRY)
      have HK_20 := Lib.hid (pt_kp hV6 HK_19.out wlY)
      have HC_20 := Lib.hid (pt_cur hV6 HC_19.out gbY)
      have HP0_20 := Lib.hid (pt_own2 hV6 HP0_19.out djYP0)
      have HY_20 := Lib.hid (show Box V6 (W7.heap.size) [.int .i64 x0, .int .i64 x1, .int .i64 (1 + x2), .int .i64 x3, .int .i64 (x3 + x7), .int .i64 x6, .int .i64 x4, .int .i64 x5, .slice A0 n0 c0, .int .i64 d0, .slice A1 n1 c1, .int .i64 d1, .int .i64 (1 + x8), .slice A2 n2 c2, .int .i64 d2, .bool false] from pt_self hV6 HY_19.out (by simp))
      have HP1_20 := Lib.hid (pt_own2 hV6 HP1_19.out djYP1)
      have HP2_20 := Lib.hid (pt_own2 hV6 HP2_19.out djYP2)
      have HV6 := Lib.hid hV6
      clear hV6
      rw [show (W13.setCell ⟨W7.heap.size, 13, none⟩ (.slice A2 n2 c2)).setCell ⟨W7.heap.size, 14, none⟩ (.int .i64 d2) = V6 from HV6.out]
      refine (l1Once_any 3 _ B g HC_20.out).mono ?_
      rintro e W14 ⟨v, ⟨b3, rfl⟩, rfl, hc_, hk_⟩
      have HR_21 := Lib.hid (bxK HR_20.out hk_ neR)
      have HK_21 := Lib.hid (HK_20.out.trans hk_)
      have HC_21 := Lib.hid (hc_)
      have HP0_21 := Lib.hid (HP0_20.out.keep (w' := W14) fun i h0 h1 h2 => hk_.block i h0 (Nat.ne_of_gt (Nat.lt_of_lt_of_le glP0 h1)))
      have HY_21 := Lib.hid (bxK HY_20.out hk_ neY)
      have HP1_21 := Lib.hid (HP1_20.out.keep (w' := W14) fun i h0 h1 h2 => hk_.block i h0 (Nat.ne_of_gt (Nat.lt_of_lt_of_le glP1 h1)))
      have HP2_21 := Lib.hid (HP2_20.out.keep (w' := W14) fun i h0 h1 h2 => hk_.block i h0 (Nat.ne_of_gt (Nat.lt_of_lt_of_le glP2 h1)))
      have hsW14 := hk_.size
      clear hc_ hk_
      have zY0 := HY_21.out.cell (j := 0) rfl
      have fY0 := HY_21.out.warm (j := 0) rfl
      have zY1 := HY_21.out.cell (j := 1) rfl
      have fY1 := HY_21.out.warm (j := 1) rfl
      have zY2 := HY_21.out.cell (j := 2) rfl
      have fY2 := HY_21.out.warm (j := 2) rfl
      have zY3 := HY_21.out.cell (j := 3) rfl
      have fY3 := HY_21.out.warm (j := 3) rfl
      have zY4 := HY_21.out.cell (j := 4) rfl
      have fY4 := HY_21.out.warm (j := 4) rfl
      have zY5 := HY_21.out.cell (j := 5) rfl
      have fY5 := HY_21.out.warm (j := 5) rfl
      have zY6 := HY_21.out.cell (j := 6) rfl
      have fY6 := HY_21.out.warm (j := 6) rfl
      have zY7 := HY_21.out.cell (j := 7) rfl
      have fY7 := HY_21.out.warm (j := 7) rfl
      have zY8 := HY_21.out.cell (j := 8) rfl
      have fY8 := HY_21.out.warm (j := 8) rfl
      have zY9 := HY_21.out.cell (j := 9) rfl
      have fY9 := HY_21.out.warm (j := 9) rfl
      have zY10 := HY_21.out.cell (j := 10) rfl
      have fY10 := HY_21.out.warm (j := 10) rfl
      have zY11 := HY_21.out.cell (j := 11) rfl
      have fY11 := HY_21.out.warm (j := 11) rfl
      have zY12 := HY_21.out.cell (j := 12) rfl
      have fY12 := HY_21.out.warm (j := 12) rfl
      have zY13 := HY_21.out.cell (j := 13) rfl
      have fY13 := HY_21.out.warm (j := 13) rfl
      have zY14 := HY_21.out.cell (j := 14) rfl
      have fY14 := HY_21.out.warm (j := 14) rfl
      have zY15 := HY_21.out.cell (j := 15) rfl
      have fY15 := HY_21.out.warm (j := 15) rfl
      obtain ⟨V7, hV7⟩ : ∃ u9, puts W14 (W7.heap.size) 15 [.bool b3] = u9 := ⟨_, rfl⟩
      have hsV7 : V7.heap.size = W14.heap.size := by rw [← hV7]; exact puts_size _ _
      have HR_22 := Lib.hid (pt_box hV7 HR_21.out apRY)
      have HK_22 := Lib.hid (pt_kp hV7 HK_21.out wlY)
      have HC_22 := Lib.hid (pt_cur hV7 HC_21.out gbY)
      have HP0_22 := Lib.hid (pt_own2 hV7 HP0_21.out djYP0)
      have HY_22 := Lib.hid (show Box V7 (W7.heap.size) [.int .i64 x0, .int .i64 x1, .int .i64 (1 + x2), .int .i64 x3, .int .i64 (x3 + x7), .int .i64 x6, .int .i64 x4, .int .i64 x5, .slice A0 n0 c0, .int .i64 d0, .slice A1 n1 c1, .int .i64 d1, .int .i64 (1 + x8), .slice A2 n2 c2, .int .i64 d2, .bool b3] from pt_self hV7 HY_21.out (by simp))
      have HP1_22 := Lib.hid (pt_own2 hV7 HP1_21.out djYP1)
      have HP2_22 := Lib.hid (pt_own2 hV7 HP2_21.out djYP2)
      have HV7 := Lib.hid hV7
      clear hV7
      obtain ⟨VF, hVF⟩ : ∃ u9, puts V7 (w.heap.size) 0 [.int .i64 x0, .int .i64 x1, .int .i64 (1 + x2), .int .i64 x3, .int .i64 (x3 + x7), .int .i64 x6, .int .i64 x4, .int .i64 x5, .slice A0 n0 c0, .int .i64 d0, .slice A1 n1 c1, .int .i64 d1, .int .i64 (1 + x8), .slice A2 n2 c2, .int .i64 d2, .bool b3] = u9 := ⟨_, rfl⟩
      have hsVF : VF.heap.size = V7.heap.size := by rw [← hVF]; exact puts_size _ _
      have HR_23 := Lib.hid (show Box VF (w.heap.size) [.int .i64 x0, .int .i64 x1, .int .i64 (1 + x2), .int .i64 x3, .int .i64 (x3 + x7), .int .i64 x6, .int .i64 x4, .int .i64 x5, .slice A0 n0 c0, .int .i64 d0, .slice A1 n1 c1, .int .i64 d1, .int .i64 (1 + x8), .slice A2 n2 c2, .int .i64 d2, .bool b3] from (show Box VF (w.heap.size) ([] ++ [.int .i64 x0, .int .i64 x1, .int .i64 (1 + x2), .int .i64 x3, .int .i64 (x3 + x7), .int .i64 x6, .int .i64 x4, .int .i64 x5, .slice A0 n0 c0, .int .i64 d0, .slice A1 n1 c1, .int .i64 d1, .int .i64 (1 + x8), .slice A2 n2 c2, .int .i64 d2, .bool b3] ++ []) from pt_mid hVF (show Box V7 (w.heap.size) ([] ++ [.int .i64 0, .int .i64 0, .int .i64 0, .int .i64 0, .int .i64 0, .int .i64 0, .int .i64 0, .int .i64 0, .slice none 0 0, .int .i64 0, .slice none 0 0, .int .i64 0, .int .i64 0, .slice none 0 0, .int .i64 0, .bool false] ++ []) from HR_22.out) rfl rfl))
      have HK_23 := Lib.hid (pt_kp hVF HK_22.out wlR)
      have HC_23 := Lib.hid (pt_cur hVF HC_22.out gbR)
      have HP0_23 := Lib.hid (pt_own2 hVF HP0_22.out djRP0)
      have HY_23 := Lib.hid (pt_box hVF HY_22.out apYR)
      have HP1_23 := Lib.hid (pt_own2 hVF HP1_22.out djRP1)
      have HP2_23 := Lib.hid (pt_own2 hVF HP2_22.out djRP2)
      have HVF := Lib.hid hVF
      clear hVF
      go_wp2_with (first | (rw [show W14.setCell ⟨W7.heap.size, 15, none⟩ (.bool b3) = V7 from HV7.out]; refine LD.wp_ld LD.big_Head rfl _ rfl rfl HY_22.out rfl ?_) | (refine LD.wp_stV LD.big_Head rfl _ _ rfl rfl rfl HR_22.out rfl (by decide) rfl HVF.out ?_))
      clear zY0 fY0 zY1 fY1 zY2 fY2 zY3 fY3 zY4 fY4 zY5 fY5 zY6 fY6 zY7 fY7 zY8 fY8 zY9 fY9 zY10 fY10 zY11 fY11 zY12 fY12 zY13 fY13 zY14 fY14 zY15 fY15
      have hlen1 := hl0.1
      have hlen2 := hl1.1
      have hlen3 := hl2.1

      refine bodyPost_ret (v := .agg #[.int .i64 x0, .int .i64 x1, .int .i64 (1 + x2), .int .i64 x3, .int .i64 (x3 + x7), .int .i64 x6, .int .i64 x4, .int .i64 x5, .slice A0 n0 c0, .int .i64 d0, .slice A1 n1 c1, .int .i64 d1, .int .i64 (1 + x8), .slice A2 n2 c2, .int .i64 d2, .bool b3]) (LD.res_cell LD.big_Head Try.results60 rfl HR_23.out rfl) rfl ⟨[.int .i64 x0, .int .i64 x1, .int .i64 (1 + x2), .int .i64 x3, .int .i64 (x3 + x7), .int .i64 x6, .int .i64 x4, .int .i64 x5, .slice A0 n0 c0, .int .i64 d0, .slice A1 n1 c1, .int .i64 d1, .int .i64 (1 + x8), .slice A2 n2 c2, .int .i64 d2, .bool b3], ⟨x0, x1, 1 + x2, x3, x3 + x7, x6, x4, x5, ⟨l0, d0⟩, ⟨l1, d1⟩, 1 + x8, ⟨l2, d2⟩, b3⟩, rfl, head_own rfl ⟨i0, i1, i9, i3, i7, i6, i4, i5, i8⟩ HP0_23.out (HP1_23.out) (HP2_23.out) ?_, ?_, HC_23.out, HK_23.out⟩
      · omega
      · refine ⟨?_, ?_, ?_⟩
        · unfold totHead totKeys; simp only [List.length_nil]; omega
        · exact hun.1
        · exact hun.2
def Ins (k : Head) : Prop := In .i64 k.zone ∧ In .i64 k.epoch ∧ In .i64 k.kind ∧ In .i64 k.time ∧ In .i64 k.until_ ∧ In .i64 k.count ∧ In .i64 k.root ∧ In .i64 k.prev ∧ In .i64 k.wait
/-- a head's numbers are others, its sets of keys are the same -/
theorem head_ints {w : World} {k : Head} (k' : Head) {A0 A1 A2 : Option Addr} {n0 c0 n1 c1 n2 c2 lo hi L H : Nat} (h : OwnI RHead w lo hi [.int .i64 k.zone, .int .i64 k.epoch, .int .i64 k.kind, .int .i64 k.time, .int .i64 k.until_, .int .i64 k.count, .int .i64 k.root, .int .i64 k.prev, .slice A0 n0 c0, .int .i64 k.keys.need, .slice A1 n1 c1, .int .i64 k.heirs.need, .int .i64 k.wait, .slice A2 n2 c2, .int .i64 k.judge.need, .bool k.frozen] k) (hk : k'.keys = k.keys ∧ k'.heirs = k.heirs ∧ k'.judge = k.judge) (hin : Ins k → Ins k') (d : L ≤ lo ∧ hi ≤ H) : OwnI RHead w L H [.int .i64 k'.zone, .int .i64 k'.epoch, .int .i64 k'.kind, .int .i64 k'.time, .int .i64 k'.until_, .int .i64 k'.count, .int .i64 k'.root, .int .i64 k'.prev, .slice A0 n0 c0, .int .i64 k'.keys.need, .slice A1 n1 c1, .int .i64 k'.heirs.need, .int .i64 k'.wait, .slice A2 n2 c2, .int .i64 k'.judge.need, .bool k'.frozen] k' := by
  obtain ⟨F, a, u, e⟩ := h
  obtain ⟨A0', n0', c0', A1', n1', c1', A2', n2', c2', F0, F1, F2, hc, rfl, i1, i2, i3, i4, i5, i6, i7, i8, a0, a1, i9, a2⟩ := RHead_set.1 a
  simp only [List.cons.injEq, Value.slice.injEq, true_and, and_true] at hc
  obtain ⟨⟨rfl, rfl, rfl⟩, ⟨rfl, rfl, rfl⟩, rfl, rfl, rfl⟩ := hc
  obtain ⟨e1, e2, e3⟩ := hk
  obtain ⟨j1, j2, j3, j4, j5, j6, j7, j8, j9⟩ := hin ⟨i1, i2, i3, i4, i5, i6, i7, i8, i9⟩
  exact ⟨_, RHead_set.2 ⟨_, _, _, _, _, _, _, _, _, F0, F1, F2, rfl, rfl, j1, j2, j3, j4, j5, j6, j7, j8, by rw [e1]; exact a0, by rw [e2]; exact a1, j9, by rw [e3]; exact a2⟩, u, fun b hb => by have := e b hb; omega⟩
/-- a head's keys are others -/
theorem head_keys {w : World} {k : Head} {q : Keys} {A0 A1 A2 A : Option Addr} {n0 c0 n1 c1 n2 c2 n c lo hi x y L H : Nat} (h : OwnI RHead w lo hi [.int .i64 k.zone, .int .i64 k.epoch, .int .i64 k.kind, .int .i64 k.time, .int .i64 k.until_, .int .i64 k.count, .int .i64 k.root, .int .i64 k.prev, .slice A0 n0 c0, .int .i64 k.keys.need, .slice A1 n1 c1, .int .i64 k.heirs.need, .int .i64 k.wait, .slice A2 n2 c2, .int .i64 k.judge.need, .bool k.frozen] k) (hp : OwnI RKeys w x y [.slice A n c, .int .i64 q.need] q) (d : L ≤ lo ∧ L ≤ x ∧ hi ≤ x ∧ hi ≤ H ∧ y ≤ H) : OwnI RHead w L H [.int .i64 k.zone, .int .i64 k.epoch, .int .i64 k.kind, .int .i64 k.time, .int .i64 k.until_, .int .i64 k.count, .int .i64 k.root, .int .i64 k.prev, .slice A n c, .int .i64 q.need, .slice A1 n1 c1, .int .i64 k.heirs.need, .int .i64 k.wait, .slice A2 n2 c2, .int .i64 k.judge.need, .bool k.frozen] { k with keys := q } := by
  obtain ⟨F, a, u, e⟩ := h
  obtain ⟨G, b, u', e'⟩ := hp
  obtain ⟨A0', n0', c0', A1', n1', c1', A2', n2', c2', F0, F1, F2, hc, rfl, i1, i2, i3, i4, i5, i6, i7, i8, a0, a1, i9, a2⟩ := RHead_set.1 a
  simp only [List.cons.injEq, Value.slice.injEq, true_and, and_true] at hc
  obtain ⟨⟨rfl, rfl, rfl⟩, ⟨rfl, rfl, rfl⟩, rfl, rfl, rfl⟩ := hc
  obtain ⟨u1, u2, u3⟩ := List.nodup_append.1 u
  refine ⟨G ++ (F1 ++ F2), RHead_set.2 ⟨_, _, _, _, _, _, _, _, _, G, F1, F2, rfl, rfl, i1, i2, i3, i4, i5, i6, i7, i8, b, a1, i9, a2⟩, List.nodup_append.2 ⟨u', u2, fun i hi j hj eq => ?_⟩, fun b hb => ?_⟩
  · subst eq
    have h1 := e' i hi
    have h2 := e i (List.mem_append_right _ hj)
    omega
  · rcases List.mem_append.1 hb with hb | hb
    · have := e' b hb
      omega
    · have := e b (List.mem_append_right _ hb)
      omega
/-- a head's judge is another -/
theorem head_judge {w : World} {k : Head} {q : Keys} {A0 A1 A2 A : Option Addr} {n0 c0 n1 c1 n2 c2 n c lo hi x y L H : Nat} (h : OwnI RHead w lo hi [.int .i64 k.zone, .int .i64 k.epoch, .int .i64 k.kind, .int .i64 k.time, .int .i64 k.until_, .int .i64 k.count, .int .i64 k.root, .int .i64 k.prev, .slice A0 n0 c0, .int .i64 k.keys.need, .slice A1 n1 c1, .int .i64 k.heirs.need, .int .i64 k.wait, .slice A2 n2 c2, .int .i64 k.judge.need, .bool k.frozen] k) (hp : OwnI RKeys w x y [.slice A n c, .int .i64 q.need] q) (d : L ≤ lo ∧ L ≤ x ∧ hi ≤ x ∧ hi ≤ H ∧ y ≤ H) : OwnI RHead w L H [.int .i64 k.zone, .int .i64 k.epoch, .int .i64 k.kind, .int .i64 k.time, .int .i64 k.until_, .int .i64 k.count, .int .i64 k.root, .int .i64 k.prev, .slice A0 n0 c0, .int .i64 k.keys.need, .slice A1 n1 c1, .int .i64 k.heirs.need, .int .i64 k.wait, .slice A n c, .int .i64 q.need, .bool k.frozen] { k with judge := q } := by
  obtain ⟨F, a, u, e⟩ := h
  obtain ⟨G, b, u', e'⟩ := hp
  obtain ⟨A0', n0', c0', A1', n1', c1', A2', n2', c2', F0, F1, F2, hc, rfl, i1, i2, i3, i4, i5, i6, i7, i8, a0, a1, i9, a2⟩ := RHead_set.1 a
  simp only [List.cons.injEq, Value.slice.injEq, true_and, and_true] at hc
  obtain ⟨⟨rfl, rfl, rfl⟩, ⟨rfl, rfl, rfl⟩, rfl, rfl, rfl⟩ := hc
  have u0 : ((F0 ++ F1) ++ F2).Nodup := by rw [List.append_assoc]; exact u
  obtain ⟨u1, u2, u3⟩ := List.nodup_append.1 u0
  have e0 : ∀ b, b ∈ F0 ++ F1 → lo ≤ b ∧ b < hi := fun b hb => e b (by rw [← List.append_assoc]; exact List.mem_append_left _ hb)
  refine ⟨F0 ++ (F1 ++ G), RHead_set.2 ⟨_, _, _, _, _, _, _, _, _, F0, F1, G, rfl, rfl, i1, i2, i3, i4, i5, i6, i7, i8, a0, a1, i9, b⟩, ?_, ?_⟩
  · rw [← List.append_assoc]
    refine List.nodup_append.2 ⟨u1, u', fun i hi j hj eq => ?_⟩
    subst eq
    have h1 := e' i hj
    have h2 := e0 i hi
    omega
  · rw [← List.append_assoc]
    intro b hb
    rcases List.mem_append.1 hb with hb | hb
    · have := e0 b hb
      omega
    · have := e' b hb
      omega
theorem any_small {l : List Int} {nd : Int} (h : AnyK l nd) : l.length ≤ 4 ∧ -1 ≤ nd ∧ nd ≤ 5 := by
  rcases h with h | ⟨nd0, h, h9⟩ | ⟨l0, x, h, _, rfl⟩ | ⟨rfl, l0, h⟩
  · have := drawn_len h; omega
  · have := drawn_len h; omega
  · have := drawn_len h; simp; omega
  · have := drawn_len h; simp; omega
theorem keys_row {w : World} {B n c : Nat} {A : Option Addr} {nd : Int} {q : Keys} (h : RKeys.rd w (Lt B) [.slice A n c, .int .i64 nd] q) : Rd .i64 w B A n q.list ∧ In .i64 q.need := by
  obtain ⟨A', n', c', e, _, _, h1, h2⟩ := RKeys_rd.1 h
  simp only [List.cons.injEq, Value.slice.injEq, true_and, and_true] at e
  obtain ⟨⟨rfl, rfl, rfl⟩, -⟩ := e
  exact ⟨h1, h2⟩
set_option maxHeartbeats 16000000 in
theorem l13Any_any (w : World) (B g : Nat) (hc : Cur w B g) : Calls Try.prog 38 #[.pointer (some ⟨g, 0, none⟩)] w (DrHd 60 B g w) := by
  have hgl := hc.lt
  obtain ⟨V, hV⟩ : ∃ V, V = w.alloc (.cells #[.int .i64 0, .int .i64 0, .int .i64 0, .int .i64 0, .int .i64 0, .int .i64 0, .int .i64 0, .int .i64 0, .slice none 0 0, .int .i64 0, .slice none 0 0, .int .i64 0, .int .i64 0, .slice none 0 0, .int .i64 0, .bool false] 28) := ⟨_, rfl⟩
  have hbel : Below w.heap.size w V := by rw [hV]; exact (Below.refl _ _).alloc (by first | (simp; done) | (simp; omega)) _
  have hsV : V.heap.size = w.heap.size + 1 := by rw [hV]; simp
  have HR_1 := Lib.hid (show Box V (w.heap.size) [.int .i64 0, .int .i64 0, .int .i64 0, .int .i64 0, .int .i64 0, .int .i64 0, .int .i64 0, .int .i64 0, .slice none 0 0, .int .i64 0, .slice none 0 0, .int .i64 0, .int .i64 0, .slice none 0 0, .int .i64 0, .bool false] from by
    rw [hV]
    have := (Box.new w #[.int .i64 0, .int .i64 0, .int .i64 0, .int .i64 0, .int .i64 0, .int .i64 0, .int .i64 0, .int .i64 0, .slice none 0 0, .int .i64 0, .slice none 0 0, .int .i64 0, .int .i64 0, .slice none 0 0, .int .i64 0, .bool false] 28)
    simpa using this)
  have HK_1 := Lib.hid (show Kept g w V from Kept.of_below hbel)
  have HC_1 := Lib.hid (hc.below hbel)
  have neR : (w.heap.size) ≠ g := by omega
  have wlR : w.heap.size ≤ (w.heap.size) := by omega
  have gbR : g < (w.heap.size) := by omega
  have HV := Lib.hid hV
  clear hV hbel hc
  go_enter Try.func38, Try.ntmps38
  go_wp2_with fail
  rw [show w.alloc (.cells #[.int .i64 0, .int .i64 0, .int .i64 0, .int .i64 0, .int .i64 0, .int .i64 0, .int .i64 0, .int .i64 0, .slice none 0 0, .int .i64 0, .slice none 0 0, .int .i64 0, .int .i64 0, .slice none 0 0, .int .i64 0, .bool false] 28) = V from HV.out.symm]
  refine (l13Head_any _ B g HC_1.out).mono ?_
  rintro e W1 ⟨cs, k, rfl, ho, hsm, hc_, hk_⟩
  obtain ⟨A0, n0, c0, A1, n1, c1, A2, n2, c2, rfl⟩ := RHead_shape ho.rd
  have HR_2 := Lib.hid (bxK HR_1.out hk_ neR)
  have HK_2 := Lib.hid (HK_1.out.trans hk_)
  have HC_2 := Lib.hid (hc_)
  have hsW1 := hk_.size
  have HH_2 := Lib.hid (show OwnI RHead W1 (V.heap.size) (W1.heap.size) [.int .i64 k.zone, .int .i64 k.epoch, .int .i64 k.kind, .int .i64 k.time, .int .i64 k.until_, .int .i64 k.count, .int .i64 k.root, .int .i64 k.prev, .slice A0 n0 c0, .int .i64 k.keys.need, .slice A1 n1 c1, .int .i64 k.heirs.need, .int .i64 k.wait, .slice A2 n2 c2, .int .i64 k.judge.need, .bool k.frozen] k from ho)
  have glH : g < (V.heap.size) := by omega
  have djRH : (w.heap.size) < (V.heap.size) ∨ (W1.heap.size) ≤ (w.heap.size) := by omega
  obtain ⟨hm1, hm2, hm3⟩ := hsm
  clear ho hc_ hk_
  have hal : Below W1.heap.size W1 (W1.alloc (.cells #[.int .i64 k.zone, .int .i64 k.epoch, .int .i64 k.kind, .int .i64 k.time, .int .i64 k.until_, .int .i64 k.count, .int .i64 k.root, .int .i64 k.prev, .slice A0 n0 c0, .int .i64 k.keys.need, .slice A1 n1 c1, .int .i64 k.heirs.need, .int .i64 k.wait, .slice A2 n2 c2, .int .i64 k.judge.need, .bool k.frozen] 28)) := (Below.refl _ _).alloc (Nat.le_refl _) _
  have hnb := Box.new W1 #[.int .i64 k.zone, .int .i64 k.epoch, .int .i64 k.kind, .int .i64 k.time, .int .i64 k.until_, .int .i64 k.count, .int .i64 k.root, .int .i64 k.prev, .slice A0 n0 c0, .int .i64 k.keys.need, .slice A1 n1 c1, .int .i64 k.heirs.need, .int .i64 k.wait, .slice A2 n2 c2, .int .i64 k.judge.need, .bool k.frozen] 28
  generalize hV2 : W1.alloc (.cells #[.int .i64 k.zone, .int .i64 k.epoch, .int .i64 k.kind, .int .i64 k.time, .int .i64 k.until_, .int .i64 k.count, .int .i64 k.root, .int .i64 k.prev, .slice A0 n0 c0, .int .i64 k.keys.need, .slice A1 n1 c1, .int .i64 k.heirs.need, .int .i64 k.wait, .slice A2 n2 c2, .int .i64 k.judge.need, .bool k.frozen] 28) = V2 at hal hnb
  have hsV2 : V2.heap.size = W1.heap.size + 1 := by rw [← hV2]; simp
  have HR_3 := Lib.hid (HR_2.out.below hal HR_2.out.lt)
  have HK_3 := Lib.hid (HK_2.out.trans (Kept.of_below hal))
  have HC_3 := Lib.hid (HC_2.out.below hal)
  have HH_3 := Lib.hid (HH_2.out.below hal (by omega))
  have HY_3 := Lib.hid (show Box V2 W1.heap.size [.int .i64 k.zone, .int .i64 k.epoch, .int .i64 k.kind, .int .i64 k.time, .int .i64 k.until_, .int .i64 k.count, .int .i64 k.root, .int .i64 k.prev, .slice A0 n0 c0, .int .i64 k.keys.need, .slice A1 n1 c1, .int .i64 k.heirs.need, .int .i64 k.wait, .slice A2 n2 c2, .int .i64 k.judge.need, .bool k.frozen] from hnb)
  have HV2 := Lib.hid hV2
  clear hal hnb hV2
  have neY : (W1.heap.size) ≠ g := by omega
  have wlY : w.heap.size ≤ (W1.heap.size) := by omega
  have gbY : g < (W1.heap.size) := by omega
  have apRY : (w.heap.size) ≠ (W1.heap.size) := by omega
  have apYR : (W1.heap.size) ≠ (w.heap.size) := by omega
  have djYH : (W1.heap.size) < (V.heap.size) ∨ (W1.heap.size) ≤ (W1.heap.size) := by omega
  go_wp2_with (refine LD.wp_new LD.big_Head rfl _ _ rfl rfl rfl rfl rfl rfl ?_)
  rw [HV2.out]
  refine (l1Below_any 14 _ B g HC_3.out).mono ?_
  rintro e W2 ⟨v, ⟨y, hy, hy9, rfl⟩, rfl, hc_, hk_⟩
  have HR_4 := Lib.hid (bxK HR_3.out hk_ neR)
  have HK_4 := Lib.hid (HK_3.out.trans hk_)
  have HC_4 := Lib.hid (hc_)
  have HH_4 := Lib.hid (HH_3.out.keep (w' := W2) fun i h0 h1 h2 => hk_.block i h0 (Nat.ne_of_gt (Nat.lt_of_lt_of_le glH h1)))
  have HY_4 := Lib.hid (bxK HY_3.out hk_ neY)
  have hsW2 := hk_.size
  clear hc_ hk_
  clear hy9
  by_cases h0 : y = 0
  · subst h0
    go_wp2_with fail
    have hal : Below W2.heap.size W2 (W2.alloc (.cells #[.int .i64 (-1), .int .i64 240, .int .i64 241, .int .i64 100000, .int .i64 100001] 3)) := (Below.refl _ _).alloc (Nat.le_refl _) _
    have HR_5 := Lib.hid (HR_4.out.below hal HR_4.out.lt)
    have HK_5 := Lib.hid (HK_4.out.trans (Kept.of_below hal))
    have HC_5 := Lib.hid (HC_4.out.below hal)
    have HH_5 := Lib.hid (HH_4.out.below hal (by omega))
    have HY_5 := Lib.hid (HY_4.out.below hal HY_4.out.lt)
    refine (l1Int_of W2 (zs := [-1, 240, 241, 100000, 100001]) rfl rfl (by intro z hz; simp at hz; rcases hz with rfl | rfl | rfl | rfl | rfl <;> exact inI64 (by omega) (by omega)) rfl (by decide) (by simp [maxLen]) HC_5.out (by omega)).mono ?_
    rintro e W3 ⟨v, ⟨x, hx, rfl⟩, rfl, hc_, hk_⟩
    have HR_6 := Lib.hid (bxK HR_5.out hk_ neR)
    have HK_6 := Lib.hid (HK_5.out.trans hk_)
    have HC_6 := Lib.hid (hc_)
    have HH_6 := Lib.hid (HH_5.out.keep (w' := W3) fun i h0 h1 h2 => hk_.block i h0 (Nat.ne_of_gt (Nat.lt_of_lt_of_le glH h1)))
    have HY_6 := Lib.hid (bxK HY_5.out hk_ neY)
    have hsW3 := hk_.size
    have hs3 : W2.heap.size + 1 ≤ W3.heap.size := by have h9 := hsW3; simp at h9; exact h9
    have hxb : -1 ≤ x ∧ x ≤ 100001 := by simp at hx; omega
    have hxi : In .i64 x := inI64 (by omega) (by omega)
    clear hal hc_ hk_ hx
    have hm1' : totHead { k with until_ := x } ≤ 60 := Nat.le_trans hm1 (by omega)
    have zY0 := HY_6.out.cell (j := 0) rfl
    have fY0 := HY_6.out.warm (j := 0) rfl
    have zY1 := HY_6.out.cell (j := 1) rfl
    have fY1 := HY_6.out.warm (j := 1) rfl
    have zY2 := HY_6.out.cell (j := 2) rfl
    have fY2 := HY_6.out.warm (j := 2) rfl
    have zY3 := HY_6.out.cell (j := 3) rfl
    have fY3 := HY_6.out.warm (j := 3) rfl
    have zY4 := HY_6.out.cell (j := 4) rfl
    have fY4 := HY_6.out.warm (j := 4) rfl
    have zY5 := HY_6.out.cell (j := 5) rfl
    have fY5 := HY_6.out.warm (j := 5) rfl
    have zY6 := HY_6.out.cell (j := 6) rfl
    have fY6 := HY_6.out.warm (j := 6) rfl
    have zY7 := HY_6.out.cell (j := 7) rfl
    have fY7 := HY_6.out.warm (j := 7) rfl
    have zY8 := HY_6.out.cell (j := 8) rfl
    have fY8 := HY_6.out.warm (j := 8) rfl
    have zY9 := HY_6.out.cell (j := 9) rfl
    have fY9 := HY_6.out.warm (j := 9) rfl
    have zY10 := HY_6.out.cell (j := 10) rfl
    have fY10 := HY_6.out.warm (j := 10) rfl
    have zY11 := HY_6.out.cell (j := 11) rfl
    have fY11 := HY_6.out.warm (j := 11) rfl
    have zY12 := HY_6.out.cell (j := 12) rfl
    have fY12 := HY_6.out.warm (j := 12) rfl
    have zY13 := HY_6.out.cell (j := 13) rfl
    have fY13 := HY_6.out.warm (j := 13) rfl
    have zY14 := HY_6.out.cell (j := 14) rfl
    have fY14 := HY_6.out.warm (j := 14) rfl
    have zY15 := HY_6.out.cell (j := 15) rfl
    have fY15 := HY_6.out.warm (j := 15) rfl
    obtain ⟨V7, hV7⟩ : ∃ u9, puts W3 (W1.heap.size) 4 [.int .i64 x] = u9 := ⟨_, rfl⟩
    have hsV7 : V7.heap.size = W3.heap.size := by rw [← hV7]; exact puts_size _ _
    have HR_7 := Lib.hid (pt_box hV7 HR_6.out apRY)
    have HK_7 := Lib.hid (pt_kp hV7 HK_6.out wlY)
    have HC_7 := Lib.hid (pt_cur hV7 HC_6.out gbY)
    have HH_7 := Lib.hid (pt_own2 hV7 HH_6.out djYH)
    have HY_7 := Lib.hid (show Box V7 (W1.heap.size) [.int .i64 k.zone, .int .i64 k.epoch, .int .i64 k.kind, .int .i64 k.time, .int .i64 x, .int .i64 k.count, .int .i64 k.root, .int .i64 k.prev, .slice A0 n0 c0, .int .i64 k.keys.need, .slice A1 n1 c1, .int .i64 k.heirs.need, .int .i64 k.wait, .slice A2 n2 c2, .int .i64 k.judge.need, .bool k.frozen] from pt_self hV7 HY_6.out (by simp))
    have HV7 := Lib.hid hV7
    clear hV7
    obtain ⟨VF, hVF⟩ : ∃ u9, puts V7 (w.heap.size) 0 [.int .i64 k.zone, .int .i64 k.epoch, .int .i64 k.kind, .int .i64 k.time, .int .i64 x, .int .i64 k.count, .int .i64 k.root, .int .i64 k.prev, .slice A0 n0 c0, .int .i64 k.keys.need, .slice A1 n1 c1, .int .i64 k.heirs.need, .int .i64 k.wait, .slice A2 n2 c2, .int .i64 k.judge.need, .bool k.frozen] = u9 := ⟨_, rfl⟩
    have hsVF : VF.heap.size = V7.heap.size := by rw [← hVF]; exact puts_size _ _
    have HR_8 := Lib.hid (show Box VF (w.heap.size) [.int .i64 k.zone, .int .i64 k.epoch, .int .i64 k.kind, .int .i64 k.time, .int .i64 x, .int .i64 k.count, .int .i64 k.root, .int .i64 k.prev, .slice A0 n0 c0, .int .i64 k.keys.need, .slice A1 n1 c1, .int .i64 k.heirs.need, .int .i64 k.wait, .slice A2 n2 c2, .int .i64 k.judge.need, .bool k.frozen] from (show Box VF (w.heap.size) ([] ++ [.int .i64 k.zone, .int .i64 k.epoch, .int .i64 k.kind, .int .i64 k.time, .int .i64 x, .int .i64 k.count, .int .i64 k.root, .int .i64 k.prev, .slice A0 n0 c0, .int .i64 k.keys.need, .slice A1 n1 c1, .int .i64 k.heirs.need, .int .i64 k.wait, .slice A2 n2 c2, .int .i64 k.judge.need, .bool k.frozen] ++ []) from pt_mid hVF (show Box V7 (w.heap.size) ([] ++ [.int .i64 0, .int .i64 0, .int .i64 0, .int .i64 0, .int .i64 0, .int .i64 0, .int .i64 0, .int .i64 0, .slice none 0 0, .int .i64 0, .slice none 0 0, .int .i64 0, .int .i64 0, .slice none 0 0, .int .i64 0, .bool false] ++ []) from HR_7.out) rfl rfl))
    have HK_8 := Lib.hid (pt_kp hVF HK_7.out wlR)
    have HC_8 := Lib.hid (pt_cur hVF HC_7.out gbR)
    have HH_8 := Lib.hid (pt_own2 hVF HH_7.out djRH)
    have HY_8 := Lib.hid (pt_box hVF HY_7.out apYR)
    have HVF := Lib.hid hVF
    clear hVF
    go_wp2_with (first | (rw [show W3.setCell ⟨W1.heap.size, 4, none⟩ (.int .i64 x) = V7 from HV7.out]; refine LD.wp_ld LD.big_Head rfl _ rfl rfl HY_7.out rfl ?_) | (refine LD.wp_stV LD.big_Head rfl _ _ rfl rfl rfl HR_7.out rfl (by decide) rfl HVF.out ?_))
    clear zY0 fY0 zY1 fY1 zY2 fY2 zY3 fY3 zY4 fY4 zY5 fY5 zY6 fY6 zY7 fY7 zY8 fY8 zY9 fY9 zY10 fY10 zY11 fY11 zY12 fY12 zY13 fY13 zY14 fY14 zY15 fY15
    refine bodyPost_ret (v := .agg #[.int .i64 k.zone, .int .i64 k.epoch, .int .i64 k.kind, .int .i64 k.time, .int .i64 x, .int .i64 k.count, .int .i64 k.root, .int .i64 k.prev, .slice A0 n0 c0, .int .i64 k.keys.need, .slice A1 n1 c1, .int .i64 k.heirs.need, .int .i64 k.wait, .slice A2 n2 c2, .int .i64 k.judge.need, .bool k.frozen]) (LD.res_cell LD.big_Head Try.results38 rfl HR_8.out rfl) rfl ⟨[.int .i64 k.zone, .int .i64 k.epoch, .int .i64 k.kind, .int .i64 k.time, .int .i64 x, .int .i64 k.count, .int .i64 k.root, .int .i64 k.prev, .slice A0 n0 c0, .int .i64 k.keys.need, .slice A1 n1 c1, .int .i64 k.heirs.need, .int .i64 k.wait, .slice A2 n2 c2, .int .i64 k.judge.need, .bool k.frozen], { k with until_ := x }, rfl, head_ints (k := k) { k with until_ := x } HH_8.out ⟨rfl, rfl, rfl⟩ (fun ⟨a0, a1, a2, a3, a4, a5, a6, a7, a8⟩ => ⟨a0, a1, a2, a3, hxi, a5, a6, a7, a8⟩) ⟨by omega, by omega⟩, ⟨hm1', show -200000 ≤ x by omega, show x ≤ 200000 by omega⟩, HC_8.out, HK_8.out⟩
  by_cases h1 : y = 1
  · subst h1
    go_wp2_with fail
    have hal : Below W2.heap.size W2 (W2.alloc (.cells #[.int .i64 (-1), .int .i64 200, .int .i64 201] 3)) := (Below.refl _ _).alloc (Nat.le_refl _) _
    have HR_5 := Lib.hid (HR_4.out.below hal HR_4.out.lt)
    have HK_5 := Lib.hid (HK_4.out.trans (Kept.of_below hal))
    have HC_5 := Lib.hid (HC_4.out.below hal)
    have HH_5 := Lib.hid (HH_4.out.below hal (by omega))
    have HY_5 := Lib.hid (HY_4.out.below hal HY_4.out.lt)
    refine (l1Int_of W2 (zs := [-1, 200, 201]) rfl rfl (by intro z hz; simp at hz; rcases hz with rfl | rfl | rfl <;> exact inI64 (by omega) (by omega)) rfl (by decide) (by simp [maxLen]) HC_5.out (by omega)).mono ?_
    rintro e W3 ⟨v, ⟨x, hx, rfl⟩, rfl, hc_, hk_⟩
    have HR_6 := Lib.hid (bxK HR_5.out hk_ neR)
    have HK_6 := Lib.hid (HK_5.out.trans hk_)
    have HC_6 := Lib.hid (hc_)
    have HH_6 := Lib.hid (HH_5.out.keep (w' := W3) fun i h0 h1 h2 => hk_.block i h0 (Nat.ne_of_gt (Nat.lt_of_lt_of_le glH h1)))
    have HY_6 := Lib.hid (bxK HY_5.out hk_ neY)
    have hsW3 := hk_.size
    have hs3 : W2.heap.size + 1 ≤ W3.heap.size := by have h9 := hsW3; simp at h9; exact h9
    have hxb : -1 ≤ x ∧ x ≤ 201 := by simp at hx; omega
    have hxi : In .i64 x := inI64 (by omega) (by omega)
    clear hal hc_ hk_ hx
    have hm1' : totHead { k with epoch := x } ≤ 60 := Nat.le_trans hm1 (by omega)
    have zY0 := HY_6.out.cell (j := 0) rfl
    have fY0 := HY_6.out.warm (j := 0) rfl
    have zY1 := HY_6.out.cell (j := 1) rfl
    have fY1 := HY_6.out.warm (j := 1) rfl
    have zY2 := HY_6.out.cell (j := 2) rfl
    have fY2 := HY_6.out.warm (j := 2) rfl
    have zY3 := HY_6.out.cell (j := 3) rfl
    have fY3 := HY_6.out.warm (j := 3) rfl
    have zY4 := HY_6.out.cell (j := 4) rfl
    have fY4 := HY_6.out.warm (j := 4) rfl
    have zY5 := HY_6.out.cell (j := 5) rfl
    have fY5 := HY_6.out.warm (j := 5) rfl
    have zY6 := HY_6.out.cell (j := 6) rfl
    have fY6 := HY_6.out.warm (j := 6) rfl
    have zY7 := HY_6.out.cell (j := 7) rfl
    have fY7 := HY_6.out.warm (j := 7) rfl
    have zY8 := HY_6.out.cell (j := 8) rfl
    have fY8 := HY_6.out.warm (j := 8) rfl
    have zY9 := HY_6.out.cell (j := 9) rfl
    have fY9 := HY_6.out.warm (j := 9) rfl
    have zY10 := HY_6.out.cell (j := 10) rfl
    have fY10 := HY_6.out.warm (j := 10) rfl
    have zY11 := HY_6.out.cell (j := 11) rfl
    have fY11 := HY_6.out.warm (j := 11) rfl
    have zY12 := HY_6.out.cell (j := 12) rfl
    have fY12 := HY_6.out.warm (j := 12) rfl
    have zY13 := HY_6.out.cell (j := 13) rfl
    have fY13 := HY_6.out.warm (j := 13) rfl
    have zY14 := HY_6.out.cell (j := 14) rfl
    have fY14 := HY_6.out.warm (j := 14) rfl
    have zY15 := HY_6.out.cell (j := 15) rfl
    have fY15 := HY_6.out.warm (j := 15) rfl
    obtain ⟨V7, hV7⟩ : ∃ u9, puts W3 (W1.heap.size) 1 [.int .i64 x] = u9 := ⟨_, rfl⟩
    have hsV7 : V7.heap.size = W3.heap.size := by rw [← hV7]; exact puts_size _ _
    have HR_7 := Lib.hid (pt_box hV7 HR_6.out apRY)
    have HK_7 := Lib.hid (pt_kp hV7 HK_6.out wlY)
    have HC_7 := Lib.hid (pt_cur hV7 HC_6.out gbY)
    have HH_7 := Lib.hid (pt_own2 hV7 HH_6.out djYH)
    have HY_7 := Lib.hid (show Box V7 (W1.heap.size) [.int .i64 k.zone, .int .i64 x, .int .i64 k.kind, .int .i64 k.time, .int .i64 k.until_, .int .i64 k.count, .int .i64 k.root, .int .i64 k.prev, .slice A0 n0 c0, .int .i64 k.keys.need, .slice A1 n1 c1, .int .i64 k.heirs.need, .int .i64 k.wait, .slice A2 n2 c2, .int .i64 k.judge.need, .bool k.frozen] from pt_self hV7 HY_6.out (by simp))
    have HV7 := Lib.hid hV7
    clear hV7
    obtain ⟨VF, hVF⟩ : ∃ u9, puts V7 (w.heap.size) 0 [.int .i64 k.zone, .int .i64 x, .int .i64 k.kind, .int .i64 k.time, .int .i64 k.until_, .int .i64 k.count, .int .i64 k.root, .int .i64 k.prev, .slice A0 n0 c0, .int .i64 k.keys.need, .slice A1 n1 c1, .int .i64 k.heirs.need, .int .i64 k.wait, .slice A2 n2 c2, .int .i64 k.judge.need, .bool k.frozen] = u9 := ⟨_, rfl⟩
    have hsVF : VF.heap.size = V7.heap.size := by rw [← hVF]; exact puts_size _ _
    have HR_8 := Lib.hid (show Box VF (w.heap.size) [.int .i64 k.zone, .int .i64 x, .int .i64 k.kind, .int .i64 k.time, .int .i64 k.until_, .int .i64 k.count, .int .i64 k.root, .int .i64 k.prev, .slice A0 n0 c0, .int .i64 k.keys.need, .slice A1 n1 c1, .int .i64 k.heirs.need, .int .i64 k.wait, .slice A2 n2 c2, .int .i64 k.judge.need, .bool k.frozen] from (show Box VF (w.heap.size) ([] ++ [.int .i64 k.zone, .int .i64 x, .int .i64 k.kind, .int .i64 k.time, .int .i64 k.until_, .int .i64 k.count, .int .i64 k.root, .int .i64 k.prev, .slice A0 n0 c0, .int .i64 k.keys.need, .slice A1 n1 c1, .int .i64 k.heirs.need, .int .i64 k.wait, .slice A2 n2 c2, .int .i64 k.judge.need, .bool k.frozen] ++ []) from pt_mid hVF (show Box V7 (w.heap.size) ([] ++ [.int .i64 0, .int .i64 0, .int .i64 0, .int .i64 0, .int .i64 0, .int .i64 0, .int .i64 0, .int .i64 0, .slice none 0 0, .int .i64 0, .slice none 0 0, .int .i64 0, .int .i64 0, .slice none 0 0, .int .i64 0, .bool false] ++ []) from HR_7.out) rfl rfl))
    have HK_8 := Lib.hid (pt_kp hVF HK_7.out wlR)
    have HC_8 := Lib.hid (pt_cur hVF HC_7.out gbR)
    have HH_8 := Lib.hid (pt_own2 hVF HH_7.out djRH)
    have HY_8 := Lib.hid (pt_box hVF HY_7.out apYR)
    have HVF := Lib.hid hVF
    clear hVF
    go_wp2_with (first | (rw [show W3.setCell ⟨W1.heap.size, 1, none⟩ (.int .i64 x) = V7 from HV7.out]; refine LD.wp_ld LD.big_Head rfl _ rfl rfl HY_7.out rfl ?_) | (refine LD.wp_stV LD.big_Head rfl _ _ rfl rfl rfl HR_7.out rfl (by decide) rfl HVF.out ?_))
    clear zY0 fY0 zY1 fY1 zY2 fY2 zY3 fY3 zY4 fY4 zY5 fY5 zY6 fY6 zY7 fY7 zY8 fY8 zY9 fY9 zY10 fY10 zY11 fY11 zY12 fY12 zY13 fY13 zY14 fY14 zY15 fY15
    refine bodyPost_ret (v := .agg #[.int .i64 k.zone, .int .i64 x, .int .i64 k.kind, .int .i64 k.time, .int .i64 k.until_, .int .i64 k.count, .int .i64 k.root, .int .i64 k.prev, .slice A0 n0 c0, .int .i64 k.keys.need, .slice A1 n1 c1, .int .i64 k.heirs.need, .int .i64 k.wait, .slice A2 n2 c2, .int .i64 k.judge.need, .bool k.frozen]) (LD.res_cell LD.big_Head Try.results38 rfl HR_8.out rfl) rfl ⟨[.int .i64 k.zone, .int .i64 x, .int .i64 k.kind, .int .i64 k.time, .int .i64 k.until_, .int .i64 k.count, .int .i64 k.root, .int .i64 k.prev, .slice A0 n0 c0, .int .i64 k.keys.need, .slice A1 n1 c1, .int .i64 k.heirs.need, .int .i64 k.wait, .slice A2 n2 c2, .int .i64 k.judge.need, .bool k.frozen], { k with epoch := x }, rfl, head_ints (k := k) { k with epoch := x } HH_8.out ⟨rfl, rfl, rfl⟩ (fun ⟨a0, a1, a2, a3, a4, a5, a6, a7, a8⟩ => ⟨a0, hxi, a2, a3, a4, a5, a6, a7, a8⟩) ⟨by omega, by omega⟩, ⟨hm1', hm2, hm3⟩, HC_8.out, HK_8.out⟩
  by_cases h2 : y = 2
  · subst h2
    go_wp2_with fail
    have hal : Below W2.heap.size W2 (W2.alloc (.cells #[.int .i64 0, .int .i64 1, .int .i64 500, .int .i64 501] 3)) := (Below.refl _ _).alloc (Nat.le_refl _) _
    have HR_5 := Lib.hid (HR_4.out.below hal HR_4.out.lt)
    have HK_5 := Lib.hid (HK_4.out.trans (Kept.of_below hal))
    have HC_5 := Lib.hid (HC_4.out.below hal)
    have HH_5 := Lib.hid (HH_4.out.below hal (by omega))
    have HY_5 := Lib.hid (HY_4.out.below hal HY_4.out.lt)
    refine (l1Int_of W2 (zs := [0, 1, 500, 501]) rfl rfl (by intro z hz; simp at hz; rcases hz with rfl | rfl | rfl | rfl <;> exact inI64 (by omega) (by omega)) rfl (by decide) (by simp [maxLen]) HC_5.out (by omega)).mono ?_
    rintro e W3 ⟨v, ⟨x, hx, rfl⟩, rfl, hc_, hk_⟩
    have HR_6 := Lib.hid (bxK HR_5.out hk_ neR)
    have HK_6 := Lib.hid (HK_5.out.trans hk_)
    have HC_6 := Lib.hid (hc_)
    have HH_6 := Lib.hid (HH_5.out.keep (w' := W3) fun i h0 h1 h2 => hk_.block i h0 (Nat.ne_of_gt (Nat.lt_of_lt_of_le glH h1)))
    have HY_6 := Lib.hid (bxK HY_5.out hk_ neY)
    have hsW3 := hk_.size
    have hs3 : W2.heap.size + 1 ≤ W3.heap.size := by have h9 := hsW3; simp at h9; exact h9
    have hxb : 0 ≤ x ∧ x ≤ 501 := by simp at hx; omega
    have hxi : In .i64 x := inI64 (by omega) (by omega)
    clear hal hc_ hk_ hx
    have hm1' : totHead { k with wait := x } ≤ 60 := Nat.le_trans hm1 (by omega)
    have zY0 := HY_6.out.cell (j := 0) rfl
    have fY0 := HY_6.out.warm (j := 0) rfl
    have zY1 := HY_6.out.cell (j := 1) rfl
    have fY1 := HY_6.out.warm (j := 1) rfl
    have zY2 := HY_6.out.cell (j := 2) rfl
    have fY2 := HY_6.out.warm (j := 2) rfl
    have zY3 := HY_6.out.cell (j := 3) rfl
    have fY3 := HY_6.out.warm (j := 3) rfl
    have zY4 := HY_6.out.cell (j := 4) rfl
    have fY4 := HY_6.out.warm (j := 4) rfl
    have zY5 := HY_6.out.cell (j := 5) rfl
    have fY5 := HY_6.out.warm (j := 5) rfl
    have zY6 := HY_6.out.cell (j := 6) rfl
    have fY6 := HY_6.out.warm (j := 6) rfl
    have zY7 := HY_6.out.cell (j := 7) rfl
    have fY7 := HY_6.out.warm (j := 7) rfl
    have zY8 := HY_6.out.cell (j := 8) rfl
    have fY8 := HY_6.out.warm (j := 8) rfl
    have zY9 := HY_6.out.cell (j := 9) rfl
    have fY9 := HY_6.out.warm (j := 9) rfl
    have zY10 := HY_6.out.cell (j := 10) rfl
    have fY10 := HY_6.out.warm (j := 10) rfl
    have zY11 := HY_6.out.cell (j := 11) rfl
    have fY11 := HY_6.out.warm (j := 11) rfl
    have zY12 := HY_6.out.cell (j := 12) rfl
    have fY12 := HY_6.out.warm (j := 12) rfl
    have zY13 := HY_6.out.cell (j := 13) rfl
    have fY13 := HY_6.out.warm (j := 13) rfl
    have zY14 := HY_6.out.cell (j := 14) rfl
    have fY14 := HY_6.out.warm (j := 14) rfl
    have zY15 := HY_6.out.cell (j := 15) rfl
    have fY15 := HY_6.out.warm (j := 15) rfl
    obtain ⟨V7, hV7⟩ : ∃ u9, puts W3 (W1.heap.size) 12 [.int .i64 x] = u9 := ⟨_, rfl⟩
    have hsV7 : V7.heap.size = W3.heap.size := by rw [← hV7]; exact puts_size _ _
    have HR_7 := Lib.hid (pt_box hV7 HR_6.out apRY)
    have HK_7 := Lib.hid (pt_kp hV7 HK_6.out wlY)
    have HC_7 := Lib.hid (pt_cur hV7 HC_6.out gbY)
    have HH_7 := Lib.hid (pt_own2 hV7 HH_6.out djYH)
    have HY_7 := Lib.hid (show Box V7 (W1.heap.size) [.int .i64 k.zone, .int .i64 k.epoch, .int .i64 k.kind, .int .i64 k.time, .int .i64 k.until_, .int .i64 k.count, .int .i64 k.root, .int .i64 k.prev, .slice A0 n0 c0, .int .i64 k.keys.need, .slice A1 n1 c1, .int .i64 k.heirs.need, .int .i64 x, .slice A2 n2 c2, .int .i64 k.judge.need, .bool k.frozen] from pt_self hV7 HY_6.out (by simp))
    have HV7 := Lib.hid hV7
    clear hV7
    obtain ⟨VF, hVF⟩ : ∃ u9, puts V7 (w.heap.size) 0 [.int .i64 k.zone, .int .i64 k.epoch, .int .i64 k.kind, .int .i64 k.time, .int .i64 k.until_, .int .i64 k.count, .int .i64 k.root, .int .i64 k.prev, .slice A0 n0 c0, .int .i64 k.keys.need, .slice A1 n1 c1, .int .i64 k.heirs.need, .int .i64 x, .slice A2 n2 c2, .int .i64 k.judge.need, .bool k.frozen] = u9 := ⟨_, rfl⟩
    have hsVF : VF.heap.size = V7.heap.size := by rw [← hVF]; exact puts_size _ _
    have HR_8 := Lib.hid (show Box VF (w.heap.size) [.int .i64 k.zone, .int .i64 k.epoch, .int .i64 k.kind, .int .i64 k.time, .int .i64 k.until_, .int .i64 k.count, .int .i64 k.root, .int .i64 k.prev, .slice A0 n0 c0, .int .i64 k.keys.need, .slice A1 n1 c1, .int .i64 k.heirs.need, .int .i64 x, .slice A2 n2 c2, .int .i64 k.judge.need, .bool k.frozen] from (show Box VF (w.heap.size) ([] ++ [.int .i64 k.zone, .int .i64 k.epoch, .int .i64 k.kind, .int .i64 k.time, .int .i64 k.until_, .int .i64 k.count, .int .i64 k.root, .int .i64 k.prev, .slice A0 n0 c0, .int .i64 k.keys.need, .slice A1 n1 c1, .int .i64 k.heirs.need, .int .i64 x, .slice A2 n2 c2, .int .i64 k.judge.need, .bool k.frozen] ++ []) from pt_mid hVF (show Box V7 (w.heap.size) ([] ++ [.int .i64 0, .int .i64 0, .int .i64 0, .int .i64 0, .int .i64 0, .int .i64 0, .int .i64 0, .int .i64 0, .slice none 0 0, .int .i64 0, .slice none 0 0, .int .i64 0, .int .i64 0, .slice none 0 0, .int .i64 0, .bool false] ++ []) from HR_7.out) rfl rfl))
    have HK_8 := Lib.hid (pt_kp hVF HK_7.out wlR)
    have HC_8 := Lib.hid (pt_cur hVF HC_7.out gbR)
    have HH_8 := Lib.hid (pt_own2 hVF HH_7.out djRH)
    have HY_8 := Lib.hid (pt_box hVF HY_7.out apYR)
    have HVF := Lib.hid hVF
    clear hVF
    go_wp2_with (first | (rw [show W3.setCell ⟨W1.heap.size, 12, none⟩ (.int .i64 x) = V7 from HV7.out]; refine LD.wp_ld LD.big_Head rfl _ rfl rfl HY_7.out rfl ?_) | (refine LD.wp_stV LD.big_Head rfl _ _ rfl rfl rfl HR_7.out rfl (by decide) rfl HVF.out ?_))
    clear zY0 fY0 zY1 fY1 zY2 fY2 zY3 fY3 zY4 fY4 zY5 fY5 zY6 fY6 zY7 fY7 zY8 fY8 zY9 fY9 zY10 fY10 zY11 fY11 zY12 fY12 zY13 fY13 zY14 fY14 zY15 fY15
    refine bodyPost_ret (v := .agg #[.int .i64 k.zone, .int .i64 k.epoch, .int .i64 k.kind, .int .i64 k.time, .int .i64 k.until_, .int .i64 k.count, .int .i64 k.root, .int .i64 k.prev, .slice A0 n0 c0, .int .i64 k.keys.need, .slice A1 n1 c1, .int .i64 k.heirs.need, .int .i64 x, .slice A2 n2 c2, .int .i64 k.judge.need, .bool k.frozen]) (LD.res_cell LD.big_Head Try.results38 rfl HR_8.out rfl) rfl ⟨[.int .i64 k.zone, .int .i64 k.epoch, .int .i64 k.kind, .int .i64 k.time, .int .i64 k.until_, .int .i64 k.count, .int .i64 k.root, .int .i64 k.prev, .slice A0 n0 c0, .int .i64 k.keys.need, .slice A1 n1 c1, .int .i64 k.heirs.need, .int .i64 x, .slice A2 n2 c2, .int .i64 k.judge.need, .bool k.frozen], { k with wait := x }, rfl, head_ints (k := k) { k with wait := x } HH_8.out ⟨rfl, rfl, rfl⟩ (fun ⟨a0, a1, a2, a3, a4, a5, a6, a7, a8⟩ => ⟨a0, a1, a2, a3, a4, a5, a6, a7, hxi⟩) ⟨by omega, by omega⟩, ⟨hm1', hm2, hm3⟩, HC_8.out, HK_8.out⟩
  by_cases h3 : y = 3
  · subst h3
    go_wp2_with fail
    refine (l6Any_any _ B g HC_4.out).mono ?_
    rintro e W3 ⟨A9, n9, c9, l9, d9, rfl, hd, ho, hc_, hk_⟩
    have HR_5 := Lib.hid (bxK HR_4.out hk_ neR)
    have HK_5 := Lib.hid (HK_4.out.trans hk_)
    have HC_5 := Lib.hid (hc_)
    have HH_5 := Lib.hid (HH_4.out.keep (w' := W3) fun i h0 h1 h2 => hk_.block i h0 (Nat.ne_of_gt (Nat.lt_of_lt_of_le glH h1)))
    have HY_5 := Lib.hid (bxK HY_4.out hk_ neY)
    have hsW3 := hk_.size
    have hl9 := any_small hd
    have HP9_5 := Lib.hid (show OwnI RKeys W3 (W2.heap.size) (W3.heap.size) [.slice A9 n9 c9, .int .i64 d9] ⟨l9, d9⟩ from (show OwnI RKeys W3 (W2.heap.size + 1) W3.heap.size [.slice A9 n9 c9, .int .i64 d9] ⟨l9, d9⟩ from RKeys_own.2 ⟨A9, n9, c9, rfl, ho, (show In .i64 d9 from inI64 (by omega) (by omega))⟩).wide (Nat.le_succ _) (Nat.le_refl _))
    have glP9 : g < (W2.heap.size) := by omega
    have djRP9 : (w.heap.size) < (W2.heap.size) ∨ (W3.heap.size) ≤ (w.heap.size) := by omega
    have djYP9 : (W1.heap.size) < (W2.heap.size) ∨ (W3.heap.size) ≤ (W1.heap.size) := by omega
    clear hd ho hc_ hk_
    have hm1' : totHead { k with keys := ⟨l9, d9⟩ } ≤ 60 := by
      have h9 := hm1
      unfold totHead totKeys at h9 ⊢
      simp only
      omega
    have zY0 := HY_5.out.cell (j := 0) rfl
    have fY0 := HY_5.out.warm (j := 0) rfl
    have zY1 := HY_5.out.cell (j := 1) rfl
    have fY1 := HY_5.out.warm (j := 1) rfl
    have zY2 := HY_5.out.cell (j := 2) rfl
    have fY2 := HY_5.out.warm (j := 2) rfl
    have zY3 := HY_5.out.cell (j := 3) rfl
    have fY3 := HY_5.out.warm (j := 3) rfl
    have zY4 := HY_5.out.cell (j := 4) rfl
    have fY4 := HY_5.out.warm (j := 4) rfl
    have zY5 := HY_5.out.cell (j := 5) rfl
    have fY5 := HY_5.out.warm (j := 5) rfl
    have zY6 := HY_5.out.cell (j := 6) rfl
    have fY6 := HY_5.out.warm (j := 6) rfl
    have zY7 := HY_5.out.cell (j := 7) rfl
    have fY7 := HY_5.out.warm (j := 7) rfl
    have zY8 := HY_5.out.cell (j := 8) rfl
    have fY8 := HY_5.out.warm (j := 8) rfl
    have zY9 := HY_5.out.cell (j := 9) rfl
    have fY9 := HY_5.out.warm (j := 9) rfl
    have zY10 := HY_5.out.cell (j := 10) rfl
    have fY10 := HY_5.out.warm (j := 10) rfl
    have zY11 := HY_5.out.cell (j := 11) rfl
    have fY11 := HY_5.out.warm (j := 11) rfl
    have zY12 := HY_5.out.cell (j := 12) rfl
    have fY12 := HY_5.out.warm (j := 12) rfl
    have zY13 := HY_5.out.cell (j := 13) rfl
    have fY13 := HY_5.out.warm (j := 13) rfl
    have zY14 := HY_5.out.cell (j := 14) rfl
    have fY14 := HY_5.out.warm (j := 14) rfl
    have zY15 := HY_5.out.cell (j := 15) rfl
    have fY15 := HY_5.out.warm (j := 15) rfl
    obtain ⟨V7, hV7⟩ : ∃ u9, puts W3 (W1.heap.size) 8 [.slice A9 n9 c9, .int .i64 d9] = u9 := ⟨_, rfl⟩
    have hsV7 : V7.heap.size = W3.heap.size := by rw [← hV7]; exact puts_size _ _
    have HR_6 := Lib.hid (pt_box hV7 HR_5.out apRY)
    have HK_6 := Lib.hid (pt_kp hV7 HK_5.out wlY)
    have HC_6 := Lib.hid (pt_cur hV7 HC_5.out gbY)
    have HH_6 := Lib.hid (pt_own2 hV7 HH_5.out djYH)
    have HY_6 := Lib.hid (show Box V7 (W1.heap.size) [.int .i64 k.zone, .int .i64 k.epoch, .int .i64 k.kind, .int .i64 k.time, .int .i64 k.until_, .int .i64 k.count, .int .i64 k.root, .int .i64 k.prev, .slice A9 n9 c9, .int .i64 d9, .slice A1 n1 c1, .int .i64 k.heirs.need, .int .i64 k.wait, .slice A2 n2 c2, .int .i64 k.judge.need, .bool k.frozen] from pt_self hV7 HY_5.out (by simp))
    have HP9_6 := Lib.hid (pt_own2 hV7 HP9_5.out djYP9)
    have HV7 := Lib.hid hV7
    clear hV7
    obtain ⟨VF, hVF⟩ : ∃ u9, puts V7 (w.heap.size) 0 [.int .i64 k.zone, .int .i64 k.epoch, .int .i64 k.kind, .int .i64 k.time, .int .i64 k.until_, .int .i64 k.count, .int .i64 k.root, .int .i64 k.prev, .slice A9 n9 c9, .int .i64 d9, .slice A1 n1 c1, .int .i64 k.heirs.need, .int .i64 k.wait, .slice A2 n2 c2, .int .i64 k.judge.need, .bool k.frozen] = u9 := ⟨_, rfl⟩
    have hsVF : VF.heap.size = V7.heap.size := by rw [← hVF]; exact puts_size _ _
    have HR_7 := Lib.hid (show Box VF (w.heap.size) [.int .i64 k.zone, .int .i64 k.epoch, .int .i64 k.kind, .int .i64 k.time, .int .i64 k.until_, .int .i64 k.count, .int .i64 k.root, .int .i64 k.prev, .slice A9 n9 c9, .int .i64 d9, .slice A1 n1 c1, .int .i64 k.heirs.need, .int .i64 k.wait, .slice A2 n2 c2, .int .i64 k.judge.need, .bool k.frozen] from (show Box VF (w.heap.size) ([] ++ [.int .i64 k.zone, .int .i64 k.epoch, .int .i64 k.kind, .int .i64 k.time, .int .i64 k.until_, .int .i64 k.count, .int .i64 k.root, .int .i64 k.prev, .slice A9 n9 c9, .int .i64 d9, .slice A1 n1 c1, .int .i64 k.heirs.need, .int .i64 k.wait, .slice A2 n2 c2, .int .i64 k.judge.need, .bool k.frozen] ++ []) from pt_mid hVF (show Box V7 (w.heap.size) ([] ++ [.int .i64 0, .int .i64 0, .int .i64 0, .int .i64 0, .int .i64 0, .int .i64 0, .int .i64 0, .int .i64 0, .slice none 0 0, .int .i64 0, .slice none 0 0, .int .i64 0, .int .i64 0, .slice none 0 0, .int .i64 0, .bool false] ++ []) from HR_6.out) rfl rfl))
    have HK_7 := Lib.hid (pt_kp hVF HK_6.out wlR)
    have HC_7 := Lib.hid (pt_cur hVF HC_6.out gbR)
    have HH_7 := Lib.hid (pt_own2 hVF HH_6.out djRH)
    have HY_7 := Lib.hid (pt_box hVF HY_6.out apYR)
    have HP9_7 := Lib.hid (pt_own2 hVF HP9_6.out djRP9)
    have HVF := Lib.hid hVF
    clear hVF
    go_wp2_with (first | (rw [show (W3.setCell ⟨W1.heap.size, 8, none⟩ (.slice A9 n9 c9)).setCell ⟨W1.heap.size, 9, none⟩ (.int .i64 d9) = V7 from HV7.out]; refine LD.wp_ld LD.big_Head rfl _ rfl rfl HY_6.out rfl ?_) | (refine LD.wp_stV LD.big_Head rfl _ _ rfl rfl rfl HR_6.out rfl (by decide) rfl HVF.out ?_))
    clear zY0 fY0 zY1 fY1 zY2 fY2 zY3 fY3 zY4 fY4 zY5 fY5 zY6 fY6 zY7 fY7 zY8 fY8 zY9 fY9 zY10 fY10 zY11 fY11 zY12 fY12 zY13 fY13 zY14 fY14 zY15 fY15
    refine bodyPost_ret (v := .agg #[.int .i64 k.zone, .int .i64 k.epoch, .int .i64 k.kind, .int .i64 k.time, .int .i64 k.until_, .int .i64 k.count, .int .i64 k.root, .int .i64 k.prev, .slice A9 n9 c9, .int .i64 d9, .slice A1 n1 c1, .int .i64 k.heirs.need, .int .i64 k.wait, .slice A2 n2 c2, .int .i64 k.judge.need, .bool k.frozen]) (LD.res_cell LD.big_Head Try.results38 rfl HR_7.out rfl) rfl ⟨[.int .i64 k.zone, .int .i64 k.epoch, .int .i64 k.kind, .int .i64 k.time, .int .i64 k.until_, .int .i64 k.count, .int .i64 k.root, .int .i64 k.prev, .slice A9 n9 c9, .int .i64 d9, .slice A1 n1 c1, .int .i64 k.heirs.need, .int .i64 k.wait, .slice A2 n2 c2, .int .i64 k.judge.need, .bool k.frozen], { k with keys := ⟨l9, d9⟩ }, rfl, head_keys (q := ⟨l9, d9⟩) HH_7.out HP9_7.out ⟨by omega, by omega, by omega, by omega, by omega⟩, ⟨hm1', hm2, hm3⟩, HC_7.out, HK_7.out⟩
  by_cases h4 : y = 4
  · subst h4
    go_wp2_with fail
    have hal : Below W2.heap.size W2 (W2.alloc (.cells #[.int .i64 0, .int .i64 4] 3)) := (Below.refl _ _).alloc (Nat.le_refl _) _
    have HR_5 := Lib.hid (HR_4.out.below hal HR_4.out.lt)
    have HK_5 := Lib.hid (HK_4.out.trans (Kept.of_below hal))
    have HC_5 := Lib.hid (HC_4.out.below hal)
    have HH_5 := Lib.hid (HH_4.out.below hal (by omega))
    have HY_5 := Lib.hid (HY_4.out.below hal HY_4.out.lt)
    refine (l1Int_of W2 (zs := [0, 4]) rfl rfl (by intro z hz; simp at hz; rcases hz with rfl | rfl <;> exact inI64 (by omega) (by omega)) rfl (by decide) (by simp [maxLen]) HC_5.out (by omega)).mono ?_
    rintro e W3 ⟨v, ⟨x, hx, rfl⟩, rfl, hc_, hk_⟩
    have HR_6 := Lib.hid (bxK HR_5.out hk_ neR)
    have HK_6 := Lib.hid (HK_5.out.trans hk_)
    have HC_6 := Lib.hid (hc_)
    have HH_6 := Lib.hid (HH_5.out.keep (w' := W3) fun i h0 h1 h2 => hk_.block i h0 (Nat.ne_of_gt (Nat.lt_of_lt_of_le glH h1)))
    have HY_6 := Lib.hid (bxK HY_5.out hk_ neY)
    have hsW3 := hk_.size
    have hs3 : W2.heap.size + 1 ≤ W3.heap.size := by have h9 := hsW3; simp at h9; exact h9
    have hxb : 0 ≤ x ∧ x ≤ 4 := by simp at hx; omega
    have hxi : In .i64 x := inI64 (by omega) (by omega)
    clear hal hc_ hk_ hx
    have hm1' : totHead { k with kind := x } ≤ 60 := Nat.le_trans hm1 (by omega)
    have zY0 := HY_6.out.cell (j := 0) rfl
    have fY0 := HY_6.out.warm (j := 0) rfl
    have zY1 := HY_6.out.cell (j := 1) rfl
    have fY1 := HY_6.out.warm (j := 1) rfl
    have zY2 := HY_6.out.cell (j := 2) rfl
    have fY2 := HY_6.out.warm (j := 2) rfl
    have zY3 := HY_6.out.cell (j := 3) rfl
    have fY3 := HY_6.out.warm (j := 3) rfl
    have zY4 := HY_6.out.cell (j := 4) rfl
    have fY4 := HY_6.out.warm (j := 4) rfl
    have zY5 := HY_6.out.cell (j := 5) rfl
    have fY5 := HY_6.out.warm (j := 5) rfl
    have zY6 := HY_6.out.cell (j := 6) rfl
    have fY6 := HY_6.out.warm (j := 6) rfl
    have zY7 := HY_6.out.cell (j := 7) rfl
    have fY7 := HY_6.out.warm (j := 7) rfl
    have zY8 := HY_6.out.cell (j := 8) rfl
    have fY8 := HY_6.out.warm (j := 8) rfl
    have zY9 := HY_6.out.cell (j := 9) rfl
    have fY9 := HY_6.out.warm (j := 9) rfl
    have zY10 := HY_6.out.cell (j := 10) rfl
    have fY10 := HY_6.out.warm (j := 10) rfl
    have zY11 := HY_6.out.cell (j := 11) rfl
    have fY11 := HY_6.out.warm (j := 11) rfl
    have zY12 := HY_6.out.cell (j := 12) rfl
    have fY12 := HY_6.out.warm (j := 12) rfl
    have zY13 := HY_6.out.cell (j := 13) rfl
    have fY13 := HY_6.out.warm (j := 13) rfl
    have zY14 := HY_6.out.cell (j := 14) rfl
    have fY14 := HY_6.out.warm (j := 14) rfl
    have zY15 := HY_6.out.cell (j := 15) rfl
    have fY15 := HY_6.out.warm (j := 15) rfl
    obtain ⟨V7, hV7⟩ : ∃ u9, puts W3 (W1.heap.size) 2 [.int .i64 x] = u9 := ⟨_, rfl⟩
    have hsV7 : V7.heap.size = W3.heap.size := by rw [← hV7]; exact puts_size _ _
    have HR_7 := Lib.hid (pt_box hV7 HR_6.out apRY)
    have HK_7 := Lib.hid (pt_kp hV7 HK_6.out wlY)
    have HC_7 := Lib.hid (pt_cur hV7 HC_6.out gbY)
    have HH_7 := Lib.hid (pt_own2 hV7 HH_6.out djYH)
    have HY_7 := Lib.hid (show Box V7 (W1.heap.size) [.int .i64 k.zone, .int .i64 k.epoch, .int .i64 x, .int .i64 k.time, .int .i64 k.until_, .int .i64 k.count, .int .i64 k.root, .int .i64 k.prev, .slice A0 n0 c0, .int .i64 k.keys.need, .slice A1 n1 c1, .int .i64 k.heirs.need, .int .i64 k.wait, .slice A2 n2 c2, .int .i64 k.judge.need, .bool k.frozen] from pt_self hV7 HY_6.out (by simp))
    have HV7 := Lib.hid hV7
    clear hV7
    obtain ⟨VF, hVF⟩ : ∃ u9, puts V7 (w.heap.size) 0 [.int .i64 k.zone, .int .i64 k.epoch, .int .i64 x, .int .i64 k.time, .int .i64 k.until_, .int .i64 k.count, .int .i64 k.root, .int .i64 k.prev, .slice A0 n0 c0, .int .i64 k.keys.need, .slice A1 n1 c1, .int .i64 k.heirs.need, .int .i64 k.wait, .slice A2 n2 c2, .int .i64 k.judge.need, .bool k.frozen] = u9 := ⟨_, rfl⟩
    have hsVF : VF.heap.size = V7.heap.size := by rw [← hVF]; exact puts_size _ _
    have HR_8 := Lib.hid (show Box VF (w.heap.size) [.int .i64 k.zone, .int .i64 k.epoch, .int .i64 x, .int .i64 k.time, .int .i64 k.until_, .int .i64 k.count, .int .i64 k.root, .int .i64 k.prev, .slice A0 n0 c0, .int .i64 k.keys.need, .slice A1 n1 c1, .int .i64 k.heirs.need, .int .i64 k.wait, .slice A2 n2 c2, .int .i64 k.judge.need, .bool k.frozen] from (show Box VF (w.heap.size) ([] ++ [.int .i64 k.zone, .int .i64 k.epoch, .int .i64 x, .int .i64 k.time, .int .i64 k.until_, .int .i64 k.count, .int .i64 k.root, .int .i64 k.prev, .slice A0 n0 c0, .int .i64 k.keys.need, .slice A1 n1 c1, .int .i64 k.heirs.need, .int .i64 k.wait, .slice A2 n2 c2, .int .i64 k.judge.need, .bool k.frozen] ++ []) from pt_mid hVF (show Box V7 (w.heap.size) ([] ++ [.int .i64 0, .int .i64 0, .int .i64 0, .int .i64 0, .int .i64 0, .int .i64 0, .int .i64 0, .int .i64 0, .slice none 0 0, .int .i64 0, .slice none 0 0, .int .i64 0, .int .i64 0, .slice none 0 0, .int .i64 0, .bool false] ++ []) from HR_7.out) rfl rfl))
    have HK_8 := Lib.hid (pt_kp hVF HK_7.out wlR)
    have HC_8 := Lib.hid (pt_cur hVF HC_7.out gbR)
    have HH_8 := Lib.hid (pt_own2 hVF HH_7.out djRH)
    have HY_8 := Lib.hid (pt_box hVF HY_7.out apYR)
    have HVF := Lib.hid hVF
    clear hVF
    go_wp2_with (first | (rw [show W3.setCell ⟨W1.heap.size, 2, none⟩ (.int .i64 x) = V7 from HV7.out]; refine LD.wp_ld LD.big_Head rfl _ rfl rfl HY_7.out rfl ?_) | (refine LD.wp_stV LD.big_Head rfl _ _ rfl rfl rfl HR_7.out rfl (by decide) rfl HVF.out ?_))
    clear zY0 fY0 zY1 fY1 zY2 fY2 zY3 fY3 zY4 fY4 zY5 fY5 zY6 fY6 zY7 fY7 zY8 fY8 zY9 fY9 zY10 fY10 zY11 fY11 zY12 fY12 zY13 fY13 zY14 fY14 zY15 fY15
    refine bodyPost_ret (v := .agg #[.int .i64 k.zone, .int .i64 k.epoch, .int .i64 x, .int .i64 k.time, .int .i64 k.until_, .int .i64 k.count, .int .i64 k.root, .int .i64 k.prev, .slice A0 n0 c0, .int .i64 k.keys.need, .slice A1 n1 c1, .int .i64 k.heirs.need, .int .i64 k.wait, .slice A2 n2 c2, .int .i64 k.judge.need, .bool k.frozen]) (LD.res_cell LD.big_Head Try.results38 rfl HR_8.out rfl) rfl ⟨[.int .i64 k.zone, .int .i64 k.epoch, .int .i64 x, .int .i64 k.time, .int .i64 k.until_, .int .i64 k.count, .int .i64 k.root, .int .i64 k.prev, .slice A0 n0 c0, .int .i64 k.keys.need, .slice A1 n1 c1, .int .i64 k.heirs.need, .int .i64 k.wait, .slice A2 n2 c2, .int .i64 k.judge.need, .bool k.frozen], { k with kind := x }, rfl, head_ints (k := k) { k with kind := x } HH_8.out ⟨rfl, rfl, rfl⟩ (fun ⟨a0, a1, a2, a3, a4, a5, a6, a7, a8⟩ => ⟨a0, a1, hxi, a3, a4, a5, a6, a7, a8⟩) ⟨by omega, by omega⟩, ⟨hm1', hm2, hm3⟩, HC_8.out, HK_8.out⟩
  by_cases h5 : y = 5
  · subst h5
    have hm1' : totHead { k with frozen := true } ≤ 60 := Nat.le_trans hm1 (by omega)
    have zY0 := HY_4.out.cell (j := 0) rfl
    have fY0 := HY_4.out.warm (j := 0) rfl
    have zY1 := HY_4.out.cell (j := 1) rfl
    have fY1 := HY_4.out.warm (j := 1) rfl
    have zY2 := HY_4.out.cell (j := 2) rfl
    have fY2 := HY_4.out.warm (j := 2) rfl
    have zY3 := HY_4.out.cell (j := 3) rfl
    have fY3 := HY_4.out.warm (j := 3) rfl
    have zY4 := HY_4.out.cell (j := 4) rfl
    have fY4 := HY_4.out.warm (j := 4) rfl
    have zY5 := HY_4.out.cell (j := 5) rfl
    have fY5 := HY_4.out.warm (j := 5) rfl
    have zY6 := HY_4.out.cell (j := 6) rfl
    have fY6 := HY_4.out.warm (j := 6) rfl
    have zY7 := HY_4.out.cell (j := 7) rfl
    have fY7 := HY_4.out.warm (j := 7) rfl
    have zY8 := HY_4.out.cell (j := 8) rfl
    have fY8 := HY_4.out.warm (j := 8) rfl
    have zY9 := HY_4.out.cell (j := 9) rfl
    have fY9 := HY_4.out.warm (j := 9) rfl
    have zY10 := HY_4.out.cell (j := 10) rfl
    have fY10 := HY_4.out.warm (j := 10) rfl
    have zY11 := HY_4.out.cell (j := 11) rfl
    have fY11 := HY_4.out.warm (j := 11) rfl
    have zY12 := HY_4.out.cell (j := 12) rfl
    have fY12 := HY_4.out.warm (j := 12) rfl
    have zY13 := HY_4.out.cell (j := 13) rfl
    have fY13 := HY_4.out.warm (j := 13) rfl
    have zY14 := HY_4.out.cell (j := 14) rfl
    have fY14 := HY_4.out.warm (j := 14) rfl
    have zY15 := HY_4.out.cell (j := 15) rfl
    have fY15 := HY_4.out.warm (j := 15) rfl
    obtain ⟨V7, hV7⟩ : ∃ u9, puts W2 (W1.heap.size) 15 [.bool true] = u9 := ⟨_, rfl⟩
    have hsV7 : V7.heap.size = W2.heap.size := by rw [← hV7]; exact puts_size _ _
    have HR_5 := Lib.hid (pt_box hV7 HR_4.out apRY)
    have HK_5 := Lib.hid (pt_kp hV7 HK_4.out wlY)
    have HC_5 := Lib.hid (pt_cur hV7 HC_4.out gbY)
    have HH_5 := Lib.hid (pt_own2 hV7 HH_4.out djYH)
    have HY_5 := Lib.hid (show Box V7 (W1.heap.size) [.int .i64 k.zone, .int .i64 k.epoch, .int .i64 k.kind, .int .i64 k.time, .int .i64 k.until_, .int .i64 k.count, .int .i64 k.root, .int .i64 k.prev, .slice A0 n0 c0, .int .i64 k.keys.need, .slice A1 n1 c1, .int .i64 k.heirs.need, .int .i64 k.wait, .slice A2 n2 c2, .int .i64 k.judge.need, .bool true] from pt_self hV7 HY_4.out (by simp))
    have HV7 := Lib.hid hV7
    clear hV7
    obtain ⟨VF, hVF⟩ : ∃ u9, puts V7 (w.heap.size) 0 [.int .i64 k.zone, .int .i64 k.epoch, .int .i64 k.kind, .int .i64 k.time, .int .i64 k.until_, .int .i64 k.count, .int .i64 k.root, .int .i64 k.prev, .slice A0 n0 c0, .int .i64 k.keys.need, .slice A1 n1 c1, .int .i64 k.heirs.need, .int .i64 k.wait, .slice A2 n2 c2, .int .i64 k.judge.need, .bool true] = u9 := ⟨_, rfl⟩
    have hsVF : VF.heap.size = V7.heap.size := by rw [← hVF]; exact puts_size _ _
    have HR_6 := Lib.hid (show Box VF (w.heap.size) [.int .i64 k.zone, .int .i64 k.epoch, .int .i64 k.kind, .int .i64 k.time, .int .i64 k.until_, .int .i64 k.count, .int .i64 k.root, .int .i64 k.prev, .slice A0 n0 c0, .int .i64 k.keys.need, .slice A1 n1 c1, .int .i64 k.heirs.need, .int .i64 k.wait, .slice A2 n2 c2, .int .i64 k.judge.need, .bool true] from (show Box VF (w.heap.size) ([] ++ [.int .i64 k.zone, .int .i64 k.epoch, .int .i64 k.kind, .int .i64 k.time, .int .i64 k.until_, .int .i64 k.count, .int .i64 k.root, .int .i64 k.prev, .slice A0 n0 c0, .int .i64 k.keys.need, .slice A1 n1 c1, .int .i64 k.heirs.need, .int .i64 k.wait, .slice A2 n2 c2, .int .i64 k.judge.need, .bool true] ++ []) from pt_mid hVF (show Box V7 (w.heap.size) ([] ++ [.int .i64 0, .int .i64 0, .int .i64 0, .int .i64 0, .int .i64 0, .int .i64 0, .int .i64 0, .int .i64 0, .slice none 0 0, .int .i64 0, .slice none 0 0, .int .i64 0, .int .i64 0, .slice none 0 0, .int .i64 0, .bool false] ++ []) from HR_5.out) rfl rfl))
    have HK_6 := Lib.hid (pt_kp hVF HK_5.out wlR)
    have HC_6 := Lib.hid (pt_cur hVF HC_5.out gbR)
    have HH_6 := Lib.hid (pt_own2 hVF HH_5.out djRH)
    have HY_6 := Lib.hid (pt_box hVF HY_5.out apYR)
    have HVF := Lib.hid hVF
    clear hVF
    go_wp2_with (first | (rw [show W2.setCell ⟨W1.heap.size, 15, none⟩ (.bool true) = V7 from HV7.out]; refine LD.wp_ld LD.big_Head rfl _ rfl rfl HY_5.out rfl ?_) | (refine LD.wp_stV LD.big_Head rfl _ _ rfl rfl rfl HR_5.out rfl (by decide) rfl HVF.out ?_))
    clear zY0 fY0 zY1 fY1 zY2 fY2 zY3 fY3 zY4 fY4 zY5 fY5 zY6 fY6 zY7 fY7 zY8 fY8 zY9 fY9 zY10 fY10 zY11 fY11 zY12 fY12 zY13 fY13 zY14 fY14 zY15 fY15
    refine bodyPost_ret (v := .agg #[.int .i64 k.zone, .int .i64 k.epoch, .int .i64 k.kind, .int .i64 k.time, .int .i64 k.until_, .int .i64 k.count, .int .i64 k.root, .int .i64 k.prev, .slice A0 n0 c0, .int .i64 k.keys.need, .slice A1 n1 c1, .int .i64 k.heirs.need, .int .i64 k.wait, .slice A2 n2 c2, .int .i64 k.judge.need, .bool true]) (LD.res_cell LD.big_Head Try.results38 rfl HR_6.out rfl) rfl ⟨[.int .i64 k.zone, .int .i64 k.epoch, .int .i64 k.kind, .int .i64 k.time, .int .i64 k.until_, .int .i64 k.count, .int .i64 k.root, .int .i64 k.prev, .slice A0 n0 c0, .int .i64 k.keys.need, .slice A1 n1 c1, .int .i64 k.heirs.need, .int .i64 k.wait, .slice A2 n2 c2, .int .i64 k.judge.need, .bool true], { k with frozen := true }, rfl, head_ints (k := k) { k with frozen := true } HH_6.out ⟨rfl, rfl, rfl⟩ (fun h => h) ⟨by omega, by omega⟩, ⟨hm1', hm2, hm3⟩, HC_6.out, HK_6.out⟩
  by_cases h6 : y = 6
  · subst h6
    go_wp2_with fail
    refine (l6Any_any _ B g HC_4.out).mono ?_
    rintro e W3 ⟨A9, n9, c9, l9, d9, rfl, hd, ho, hc_, hk_⟩
    have HR_5 := Lib.hid (bxK HR_4.out hk_ neR)
    have HK_5 := Lib.hid (HK_4.out.trans hk_)
    have HC_5 := Lib.hid (hc_)
    have HH_5 := Lib.hid (HH_4.out.keep (w' := W3) fun i h0 h1 h2 => hk_.block i h0 (Nat.ne_of_gt (Nat.lt_of_lt_of_le glH h1)))
    have HY_5 := Lib.hid (bxK HY_4.out hk_ neY)
    have hsW3 := hk_.size
    have hl9 := any_small hd
    have HP9_5 := Lib.hid (show OwnI RKeys W3 (W2.heap.size) (W3.heap.size) [.slice A9 n9 c9, .int .i64 d9] ⟨l9, d9⟩ from (show OwnI RKeys W3 (W2.heap.size + 1) W3.heap.size [.slice A9 n9 c9, .int .i64 d9] ⟨l9, d9⟩ from RKeys_own.2 ⟨A9, n9, c9, rfl, ho, (show In .i64 d9 from inI64 (by omega) (by omega))⟩).wide (Nat.le_succ _) (Nat.le_refl _))
    have glP9 : g < (W2.heap.size) := by omega
    have djRP9 : (w.heap.size) < (W2.heap.size) ∨ (W3.heap.size) ≤ (w.heap.size) := by omega
    have djYP9 : (W1.heap.size) < (W2.heap.size) ∨ (W3.heap.size) ≤ (W1.heap.size) := by omega
    clear hd ho hc_ hk_
    have hm1' : totHead { k with judge := ⟨l9, d9⟩ } ≤ 60 := by
      have h9 := hm1
      unfold totHead totKeys at h9 ⊢
      simp only
      omega
    have zY0 := HY_5.out.cell (j := 0) rfl
    have fY0 := HY_5.out.warm (j := 0) rfl
    have zY1 := HY_5.out.cell (j := 1) rfl
    have fY1 := HY_5.out.warm (j := 1) rfl
    have zY2 := HY_5.out.cell (j := 2) rfl
    have fY2 := HY_5.out.warm (j := 2) rfl
    have zY3 := HY_5.out.cell (j := 3) rfl
    have fY3 := HY_5.out.warm (j := 3) rfl
    have zY4 := HY_5.out.cell (j := 4) rfl
    have fY4 := HY_5.out.warm (j := 4) rfl
    have zY5 := HY_5.out.cell (j := 5) rfl
    have fY5 := HY_5.out.warm (j := 5) rfl
    have zY6 := HY_5.out.cell (j := 6) rfl
    have fY6 := HY_5.out.warm (j := 6) rfl
    have zY7 := HY_5.out.cell (j := 7) rfl
    have fY7 := HY_5.out.warm (j := 7) rfl
    have zY8 := HY_5.out.cell (j := 8) rfl
    have fY8 := HY_5.out.warm (j := 8) rfl
    have zY9 := HY_5.out.cell (j := 9) rfl
    have fY9 := HY_5.out.warm (j := 9) rfl
    have zY10 := HY_5.out.cell (j := 10) rfl
    have fY10 := HY_5.out.warm (j := 10) rfl
    have zY11 := HY_5.out.cell (j := 11) rfl
    have fY11 := HY_5.out.warm (j := 11) rfl
    have zY12 := HY_5.out.cell (j := 12) rfl
    have fY12 := HY_5.out.warm (j := 12) rfl
    have zY13 := HY_5.out.cell (j := 13) rfl
    have fY13 := HY_5.out.warm (j := 13) rfl
    have zY14 := HY_5.out.cell (j := 14) rfl
    have fY14 := HY_5.out.warm (j := 14) rfl
    have zY15 := HY_5.out.cell (j := 15) rfl
    have fY15 := HY_5.out.warm (j := 15) rfl
    obtain ⟨V7, hV7⟩ : ∃ u9, puts W3 (W1.heap.size) 13 [.slice A9 n9 c9, .int .i64 d9] = u9 := ⟨_, rfl⟩
    have hsV7 : V7.heap.size = W3.heap.size := by rw [← hV7]; exact puts_size _ _
    have HR_6 := Lib.hid (pt_box hV7 HR_5.out apRY)
    have HK_6 := Lib.hid (pt_kp hV7 HK_5.out wlY)
    have HC_6 := Lib.hid (pt_cur hV7 HC_5.out gbY)
    have HH_6 := Lib.hid (pt_own2 hV7 HH_5.out djYH)
    have HY_6 := Lib.hid (show Box V7 (W1.heap.size) [.int .i64 k.zone, .int .i64 k.epoch, .int .i64 k.kind, .int .i64 k.time, .int .i64 k.until_, .int .i64 k.count, .int .i64 k.root, .int .i64 k.prev, .slice A0 n0 c0, .int .i64 k.keys.need, .slice A1 n1 c1, .int .i64 k.heirs.need, .int .i64 k.wait, .slice A9 n9 c9, .int .i64 d9, .bool k.frozen] from pt_self hV7 HY_5.out (by simp))
    have HP9_6 := Lib.hid (pt_own2 hV7 HP9_5.out djYP9)
    have HV7 := Lib.hid hV7
    clear hV7
    obtain ⟨VF, hVF⟩ : ∃ u9, puts V7 (w.heap.size) 0 [.int .i64 k.zone, .int .i64 k.epoch, .int .i64 k.kind, .int .i64 k.time, .int .i64 k.until_, .int .i64 k.count, .int .i64 k.root, .int .i64 k.prev, .slice A0 n0 c0, .int .i64 k.keys.need, .slice A1 n1 c1, .int .i64 k.heirs.need, .int .i64 k.wait, .slice A9 n9 c9, .int .i64 d9, .bool k.frozen] = u9 := ⟨_, rfl⟩
    have hsVF : VF.heap.size = V7.heap.size := by rw [← hVF]; exact puts_size _ _
    have HR_7 := Lib.hid (show Box VF (w.heap.size) [.int .i64 k.zone, .int .i64 k.epoch, .int .i64 k.kind, .int .i64 k.time, .int .i64 k.until_, .int .i64 k.count, .int .i64 k.root, .int .i64 k.prev, .slice A0 n0 c0, .int .i64 k.keys.need, .slice A1 n1 c1, .int .i64 k.heirs.need, .int .i64 k.wait, .slice A9 n9 c9, .int .i64 d9, .bool k.frozen] from (show Box VF (w.heap.size) ([] ++ [.int .i64 k.zone, .int .i64 k.epoch, .int .i64 k.kind, .int .i64 k.time, .int .i64 k.until_, .int .i64 k.count, .int .i64 k.root, .int .i64 k.prev, .slice A0 n0 c0, .int .i64 k.keys.need, .slice A1 n1 c1, .int .i64 k.heirs.need, .int .i64 k.wait, .slice A9 n9 c9, .int .i64 d9, .bool k.frozen] ++ []) from pt_mid hVF (show Box V7 (w.heap.size) ([] ++ [.int .i64 0, .int .i64 0, .int .i64 0, .int .i64 0, .int .i64 0, .int .i64 0, .int .i64 0, .int .i64 0, .slice none 0 0, .int .i64 0, .slice none 0 0, .int .i64 0, .int .i64 0, .slice none 0 0, .int .i64 0, .bool false] ++ []) from HR_6.out) rfl rfl))
    have HK_7 := Lib.hid (pt_kp hVF HK_6.out wlR)
    have HC_7 := Lib.hid (pt_cur hVF HC_6.out gbR)
    have HH_7 := Lib.hid (pt_own2 hVF HH_6.out djRH)
    have HY_7 := Lib.hid (pt_box hVF HY_6.out apYR)
    have HP9_7 := Lib.hid (pt_own2 hVF HP9_6.out djRP9)
    have HVF := Lib.hid hVF
    clear hVF
    go_wp2_with (first | (rw [show (W3.setCell ⟨W1.heap.size, 13, none⟩ (.slice A9 n9 c9)).setCell ⟨W1.heap.size, 14, none⟩ (.int .i64 d9) = V7 from HV7.out]; refine LD.wp_ld LD.big_Head rfl _ rfl rfl HY_6.out rfl ?_) | (refine LD.wp_stV LD.big_Head rfl _ _ rfl rfl rfl HR_6.out rfl (by decide) rfl HVF.out ?_))
    clear zY0 fY0 zY1 fY1 zY2 fY2 zY3 fY3 zY4 fY4 zY5 fY5 zY6 fY6 zY7 fY7 zY8 fY8 zY9 fY9 zY10 fY10 zY11 fY11 zY12 fY12 zY13 fY13 zY14 fY14 zY15 fY15
    refine bodyPost_ret (v := .agg #[.int .i64 k.zone, .int .i64 k.epoch, .int .i64 k.kind, .int .i64 k.time, .int .i64 k.until_, .int .i64 k.count, .int .i64 k.root, .int .i64 k.prev, .slice A0 n0 c0, .int .i64 k.keys.need, .slice A1 n1 c1, .int .i64 k.heirs.need, .int .i64 k.wait, .slice A9 n9 c9, .int .i64 d9, .bool k.frozen]) (LD.res_cell LD.big_Head Try.results38 rfl HR_7.out rfl) rfl ⟨[.int .i64 k.zone, .int .i64 k.epoch, .int .i64 k.kind, .int .i64 k.time, .int .i64 k.until_, .int .i64 k.count, .int .i64 k.root, .int .i64 k.prev, .slice A0 n0 c0, .int .i64 k.keys.need, .slice A1 n1 c1, .int .i64 k.heirs.need, .int .i64 k.wait, .slice A9 n9 c9, .int .i64 d9, .bool k.frozen], { k with judge := ⟨l9, d9⟩ }, rfl, head_judge (q := ⟨l9, d9⟩) HH_7.out HP9_7.out ⟨by omega, by omega, by omega, by omega, by omega⟩, ⟨hm1', hm2, hm3⟩, HC_7.out, HK_7.out⟩
  obtain ⟨VF, hVF⟩ : ∃ u9, puts W2 (w.heap.size) 0 [.int .i64 k.zone, .int .i64 k.epoch, .int .i64 k.kind, .int .i64 k.time, .int .i64 k.until_, .int .i64 k.count, .int .i64 k.root, .int .i64 k.prev, .slice A0 n0 c0, .int .i64 k.keys.need, .slice A1 n1 c1, .int .i64 k.heirs.need, .int .i64 k.wait, .slice A2 n2 c2, .int .i64 k.judge.need, .bool k.frozen] = u9 := ⟨_, rfl⟩
  have hsVF : VF.heap.size = W2.heap.size := by rw [← hVF]; exact puts_size _ _
  have HR_5 := Lib.hid (show Box VF (w.heap.size) [.int .i64 k.zone, .int .i64 k.epoch, .int .i64 k.kind, .int .i64 k.time, .int .i64 k.until_, .int .i64 k.count, .int .i64 k.root, .int .i64 k.prev, .slice A0 n0 c0, .int .i64 k.keys.need, .slice A1 n1 c1, .int .i64 k.heirs.need, .int .i64 k.wait, .slice A2 n2 c2, .int .i64 k.judge.need, .bool k.frozen] from (show Box VF (w.heap.size) ([] ++ [.int .i64 k.zone, .int .i64 k.epoch, .int .i64 k.kind, .int .i64 k.time, .int .i64 k.until_, .int .i64 k.count, .int .i64 k.root, .int .i64 k.prev, .slice A0 n0 c0, .int .i64 k.keys.need, .slice A1 n1 c1, .int .i64 k.heirs.need, .int .i64 k.wait, .slice A2 n2 c2, .int .i64 k.judge.need, .bool k.frozen] ++ []) from pt_mid hVF (show Box W2 (w.heap.size) ([] ++ [.int .i64 0, .int .i64 0, .int .i64 0, .int .i64 0, .int .i64 0, .int .i64 0, .int .i64 0, .int .i64 0, .slice none 0 0, .int .i64 0, .slice none 0 0, .int .i64 0, .int .i64 0, .slice none 0 0, .int .i64 0, .bool false] ++ []) from HR_4.out) rfl rfl))
  have HK_5 := Lib.hid (pt_kp hVF HK_4.out wlR)
  have HC_5 := Lib.hid (pt_cur hVF HC_4.out gbR)
  have HH_5 := Lib.hid (pt_own2 hVF HH_4.out djRH)
  have HY_5 := Lib.hid (pt_box hVF HY_4.out apYR)
  have HVF := Lib.hid hVF
  clear hVF
  go_wp2_with (first | (refine LD.wp_ld LD.big_Head rfl _ rfl rfl HY_4.out rfl ?_) | (refine LD.wp_stV LD.big_Head rfl _ _ rfl rfl rfl HR_4.out rfl (by decide) rfl HVF.out ?_))
  refine bodyPost_ret (v := .agg #[.int .i64 k.zone, .int .i64 k.epoch, .int .i64 k.kind, .int .i64 k.time, .int .i64 k.until_, .int .i64 k.count, .int .i64 k.root, .int .i64 k.prev, .slice A0 n0 c0, .int .i64 k.keys.need, .slice A1 n1 c1, .int .i64 k.heirs.need, .int .i64 k.wait, .slice A2 n2 c2, .int .i64 k.judge.need, .bool k.frozen]) (LD.res_cell LD.big_Head Try.results38 rfl HR_5.out rfl) rfl ⟨[.int .i64 k.zone, .int .i64 k.epoch, .int .i64 k.kind, .int .i64 k.time, .int .i64 k.until_, .int .i64 k.count, .int .i64 k.root, .int .i64 k.prev, .slice A0 n0 c0, .int .i64 k.keys.need, .slice A1 n1 c1, .int .i64 k.heirs.need, .int .i64 k.wait, .slice A2 n2 c2, .int .i64 k.judge.need, .bool k.frozen], k, rfl, head_ints (k := k) k HH_5.out ⟨rfl, rfl, rfl⟩ (fun h => h) ⟨by omega, by omega⟩, ⟨Nat.le_trans hm1 (by omega), hm2, hm3⟩, HC_5.out, HK_5.out⟩
end Go.Proofs.Ytkkkaaboeddkoaa.D13
